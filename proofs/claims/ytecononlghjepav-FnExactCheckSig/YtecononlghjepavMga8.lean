/- Merged: Tre2, Sig1, Sig2, Sig3, Sig4, LawSig. -/
import Derived.Test.YtecononlghjepavMga1
import Derived.Test.YtecononlghjepavMga2
import Derived.Test.YtecononlghjepavMga3
import Derived.Test.YtecononlghjepavMga4
import Derived.Test.YtecononlghjepavMga5
import Derived.Test.YtecononlghjepavMga6
import Derived.Test.YtecononlghjepavMga7
import Derived.BigQuiet
/- Trees by the given model: roots and paths, over the loaded program. -/
namespace Go.Proofs.Ytecononlghjepav
open Go.RowKit
theorem OwnV.loW {w : World} {base : Nat} {e : TypeId} {v : Value} {xs : List Value} (h : OwnV w base e v xs) : ∀ k, v.ownBlock = some k → base ≤ k ∧ k < w.heap.size := fun k hk => World.ownsRow.lt h k hk
theorem RdV.loW {w : World} {v : Value} {xs : List Value} (h : RdV w v xs) (hn : 0 < xs.length) : ∀ k, v.ownBlock = some k → k < w.heap.size := by
  intro k hk
  rcases h with ⟨_, _, _, h⟩ | ⟨g, o, c, rfl, _, hg, _⟩
  · rw [h] at hn; exact absurd hn (Nat.lt_irrefl _)
  · have : g = k := Option.some.inj hk
    omega
theorem lvs_len2 (l : List ByteArray) (hl : l.length = 4) (k : Nat) (hk : k ≤ 2) : (k = 0 ∧ (lvs l k).length = 4) ∨ (k = 1 ∧ (lvs l k).length = 2) ∨ (k = 2 ∧ (lvs l k).length = 1) := by
  have h := lvs_len l hl k
  rcases show k = 0 ∨ k = 1 ∨ k = 2 by omega with rfl | rfl | rfl
  · exact .inl ⟨rfl, h⟩
  · exact .inr (.inl ⟨rfl, h⟩)
  · exact .inr (.inr ⟨rfl, h⟩)
theorem levelUp_lvs (l : List ByteArray) (hl : l.length = 4) (hs : ∀ x ∈ l, x.size ≤ 1048576) (k : Nat) (hk : k < 2) (W : World) (v : Value) (hr : RdV W v ((lvs l k).map sv)) :
    Calls Try.prog 32 #[.int .i64 ((k + 1 : Nat) : Int), v] W fun e w' => (∃ v', e = .returned v' ∧ OwnV w' W.heap.size 9 v' ((lvs l (k + 1)).map sv)) ∧ Below W.heap.size W w' := by
  have h := specLevelUp_any ((k + 1 : Nat) : Int) (lvs l k) v W hr (lvs_size l _ (by omega) hs k) (by rcases lvs_len2 l hl k (by omega) with ⟨_, h⟩ | ⟨_, h⟩ | ⟨_, h⟩ <;> omega)
  exact h
set_option maxRecDepth 20000 in
set_option maxHeartbeats 800000 in
theorem specRootOf_any (l : List ByteArray) (v : Value) (w : World) (hr : RdV w v (l.map sv)) (hs : ∀ x ∈ l, x.size ≤ 1048576) :
    Calls Try.prog 41 #[v] w fun e w' => e = .returned (.string (rootB l)) ∧ Below w.heap.size w w' := by
  obtain ⟨a, c, rfl, -⟩ := hr.open
  rw [List.length_map] at hr ⊢
  by_cases h4 : l.length = 4
  · have ER := hide (show rootB l = bAt (lvs l 2) 0 by unfold rootB; rw [if_pos h4])
    rw [unhide ER]
    have CL := hide (fun k hk W v hr => levelUp_lvs l h4 hs k hk W v hr)
    have HR := hide (show RdV w (.slice a l.length c) ((lvs l 0).map sv) from hr)
    have hl2 : (lvs l 2).length = 1 := lvs_len l h4 2
    have HE := hide (show ∀ W u, RdV W u ((lvs l 2).map sv) → ∃ g o c, u = .slice (some ⟨g, o, none⟩) 1 c ∧ W.cell? ⟨g, o, none⟩ = some (.string (bAt (lvs l 2) 0)) from fun W u h => by
      obtain ⟨a, c, rfl, hc⟩ := h.open
      rw [List.length_map, hl2]
      obtain ⟨g, o, rfl, _, d⟩ := hc 0 _ (bAt_getT (lvs l 2) 0 (by omega))
      exact ⟨g, o, c, rfl, d⟩)
    rw [h4] at HR ⊢
    generalize bAt (lvs l 2) 0 = R at *
    clear hr ER
    replace h4 := hide h4; replace hl2 := hide hl2
    go_enter Try.func41, Try.ntmps41
    go_wp2
    go_loopw [0, 3] (fun tl ti wr => ∃ k : Nat, k ≤ 2 ∧ ti = .int .i64 ((k + 1 : Nat) : Int) ∧ Hid (RdV wr tl ((lvs l k).map sv)) ∧ Below w.heap.size w wr) (fun _ ti _ => 5 - (intOf ti).toNat)
    case atStart => exact ⟨0, by omega, rfl, HR, Below.refl _ _⟩
    case round =>
      clear HR
      obtain ⟨k, hk, rfl, HR, hB⟩ := hrel
      by_cases hlt : k < 2
      · have hk' : ((k + 1 : Nat) : Int) ≤ 2 := by omega
        have c1 := hide (unhide CL k hlt wr u0 (unhide HR))
        clear HR CL HE
        go_wp2_with fail
        refine (unhide c1).mono ?_
        rintro e w1 ⟨⟨v', rfl, ho⟩, hb1⟩
        have hB1 := hB.trans (hb1.mono hB.size)
        have HR1 := hide ho.rdv
        clear hb1 hB ho c1
        go_wp2
        exact ⟨⟨k + 1, by omega, by go_num, HR1, hB1⟩, by simp [intOf]; omega⟩
      · have hk' : ¬ ((k + 1 : Nat) : Int) ≤ 2 := by omega
        obtain rfl : k = 2 := by omega
        obtain ⟨g, o, c', rfl, d⟩ := unhide HE wr _ (unhide HR)
        clear HR CL HE
        go_wp2
        go_ret
        exact ⟨rfl, hB⟩
  · have ER := hide (show rootB l = ⟨#[]⟩ by unfold rootB; rw [if_neg h4])
    rw [unhide ER]
    have h4' : ¬ (l.length : Int) = 4 := by omega
    clear hr
    go_enter Try.func41, Try.ntmps41
    go_wp2
    go_ret
    exact ⟨rfl, Below.refl _ _⟩
theorem sib_lt (l : List ByteArray) (hl : l.length = 4) (leaf k : Nat) (h : leaf < 4) (hk : k < 2) : sibN (leaf / 2 ^ k) < (lvs l k).length ∧ leaf / 2 ^ k < 4 := by
  unfold sibN
  rcases lvs_len2 l hl k (by omega) with ⟨rfl, e⟩ | ⟨rfl, e⟩ | ⟨rfl, e⟩
  · rw [e, Nat.pow_zero, Nat.div_one]
    split <;> omega
  · rw [e, Nat.pow_one]
    split <;> omega
  · omega
set_option maxRecDepth 20000 in
set_option maxHeartbeats 800000 in
theorem specPathOf_any (l : List ByteArray) (leaf : Int) (v : Value) (w : World) (hr : RdV w v (l.map sv)) (hs : ∀ x ∈ l, x.size ≤ 1048576) :
    Calls Try.prog 10 #[v, .int .i64 leaf] w fun e w' => (∃ v', e = .returned v' ∧ OwnV w' w.heap.size 9 v' ((pathL l leaf).map sv)) ∧ Below w.heap.size w w' := by
  obtain ⟨i0, hi, hz0, hz1, hz2⟩ := info_parts infoTxt
  have C1 := hide (fun W => inb9 leaf 0 3 W)
  have hbv : ∀ k, v.ownBlock = some k → 0 < (l.map sv).length → k < w.heap.size := fun k hk hn => hr.loW hn k hk
  obtain ⟨a, c, rfl, -⟩ := hr.open
  rw [List.length_map] at hr hbv ⊢
  have hb0 := (Below.refl w.heap.size w).alloc (Nat.le_refl _) (.cells #[] 9)
  have hn0 : OwnV (w.alloc (.cells #[] 9)) w.heap.size 9 (.slice (some ⟨w.heap.size, 0, none⟩) 0 0) (([] : List ByteArray).map sv) := World.ownsRow_made w #[] 0 (Nat.le_refl _) (by decide) (by simp)
  by_cases h4 : l.length = 4
  · by_cases hlf : 0 ≤ leaf ∧ leaf ≤ 3
    · rw [decide_eq_true hlf] at C1
      obtain ⟨m, rfl⟩ : ∃ m : Nat, leaf = (m : Int) := ⟨leaf.toNat, by omega⟩
      have hm : m < 4 := by omega
      have EP := hide (show pathL l (m : Int) = preT (pthN l m) 2 by unfold pathL; rw [if_pos ⟨h4, hlf⟩, Int.toNat_natCast]; rfl)
      rw [unhide EP]
      have CL := hide (fun k hk W v hr => levelUp_lvs l h4 hs k hk W v hr)
      have HR := hide (show RdV (w.alloc (.cells #[] 9)) (.slice a l.length c) ((lvs l 0).map sv) from hr.below hb0)
      have HS := hide (fun k hk => sib_lt l h4 m k hm hk)
      have HP := hide (show ∀ k, pthN l m k = bAt (lvs l k) (sibN (m / 2 ^ k)) from fun k => rfl)
      have HBV := hide (show ∀ k, (Value.slice a l.length c).ownBlock = some k → k < w.heap.size from fun k hk => hbv k hk (by omega))
      rw [h4] at HR HBV ⊢
      have ho0 := hide (show OwnV (w.alloc (.cells #[] 9)) w.heap.size 9 (.slice (some ⟨w.heap.size, 0, none⟩) 0 0) ((preT (pthN l m) 0).map sv) from hn0)
      generalize pthN l m = F at *
      clear hr EP hn0 hbv
      replace h4 := hide h4
      go_enter Try.func10, Try.ntmps10
      go_wp2_with fail
      generalize w.alloc (.cells #[] 9) = w0 at *
      refine (unhide C1 _).mono ?_
      rintro e w1 ⟨rfl, hw1⟩
      have hw1' := hw1.symm
      subst hw1'
      clear hw1
      go_wp2
      go_loopw [0, 1, 5, 6] (fun tl tf tv ti wr => ∃ k y : Nat, k ≤ 2 ∧ ti = .int .i64 ((k + 1 : Nat) : Int) ∧ tf = .int .i64 (y : Int) ∧ Hid (y = m / 2 ^ k) ∧ Hid (RdV wr tl ((lvs l k).map sv)) ∧ Hid (OwnV wr w.heap.size 9 tv ((preT F k).map sv)) ∧ Hid (∀ b, tl.ownBlock = some b → tv.ownBlock ≠ some b) ∧ Below w.heap.size w wr) (fun _ _ _ ti _ => 5 - (intOf ti).toNat)
      case atStart => exact ⟨0, m, by omega, rfl, rfl, hide (by rw [Nat.pow_zero, Nat.div_one]), HR, ho0, hide (fun b hb hv => by have h1 := unhide HBV b hb; have h2 : w.heap.size = b := Option.some.inj hv; omega), hb0⟩
      case round =>
        clear HR ho0 hb0 HBV
        obtain ⟨k, y, hk, rfl, rfl, hy, HR, HO, HA, hB⟩ := hrel
        by_cases hlt : k < 2
        · have hk' : ((k + 1 : Nat) : Int) ≤ 2 := by omega
          obtain ⟨s1, s2⟩ := unhide HS k hlt
          rw [← unhide hy] at s1 s2
          obtain ⟨z, hz⟩ : ∃ z, z = sibN y := ⟨_, rfl⟩
          have hF := hide (show F k = bAt (lvs l k) z by rw [unhide HP k, ← unhide hy, hz])
          rw [← hz] at s1
          obtain ⟨nl, hnl⟩ : ∃ nl, nl = (lvs l k).length := ⟨_, rfl⟩
          have hnb : nl ≤ 4 := by rw [hnl]; rcases lvs_len2 l (unhide h4) k hk with ⟨_, h⟩ | ⟨_, h⟩ | ⟨_, h⟩ <;> omega
          obtain ⟨al, cl, hal, hcl⟩ := (unhide HR).open
          rw [List.length_map, ← hnl] at hal
          rw [← hnl] at s1
          subst hal
          obtain ⟨g, o, rfl, hg, d1⟩ := hcl z _ (bAt_getT (lvs l k) z (by omega))
          rw [← unhide hF] at d1
          have s1' : (z : Int) < (nl : Int) := by omega
          have z0 : (0 : Int) ≤ (z : Int) := by omega
          obtain ⟨y2, hy2⟩ : ∃ y2, y2 = y / 2 := ⟨_, rfl⟩
          have HY := hide (show y2 = m / 2 ^ (k + 1) by rw [hy2, unhide hy, Nat.div_div_eq_div_mul, Nat.pow_succ])
          have v1' : (y : Int) / 2 = (y2 : Int) := by omega
          have v1 : (y : Int).tdiv 2 = (y2 : Int) := by rw [Int.tdiv_eq_ediv_of_nonneg (by omega)]; omega
          have HPS := hide (preT_succ F k)
          have hl1 : ((preT F k).map sv).length + 1 ≤ maxLen := by rw [List.length_map, preT_len]; unfold maxLen; omega
          have hl2 : (((preT F k).map sv).length + 1) * 16 ≤ 140737488355328 := by rw [List.length_map, preT_len]; omega
          have hszB := hB.size
          have c1 := hide (fun W r => unhide CL k hlt W (.slice (some ⟨g, o, none⟩) nl cl) r)
          generalize F k = fk at *
          replace hl1 := hide hl1; replace hl2 := hide hl2; replace hnl := hide hnl; replace hy2 := hide hy2; replace hF := hide hF
          clear hcl CL HS HP
          by_cases hodd : y % 2 = 1
          · have ho1' : (y : Int) % 2 = 1 := by omega
            have ho1 : (y : Int).tmod 2 = 1 := by rw [Int.tmod_eq_emod_of_nonneg (by omega)]; omega
            have hzy : (y : Int) - 1 = (z : Int) := by rw [hz]; unfold sibN; rw [if_pos hodd]; omega
            replace hz := hide hz; replace hodd := hide hodd
            go_wp2_with (at_builtin; refine wpList_append_grow (w := wr) rfl (.tmp 29) (.tmp 34) 22 rfl w.heap.size 9 i0 (.string ⟨#[]⟩) 16 Try.underlying22 hi hz0 hz1 hz2 rfl u5 _ (by rfl) (unhide HO) (.string fk) rfl rfl (unhide hl1) (unhide hl2) hszB ?_; intro v' w5 ho5 hg5)
            have hal := (Below.refl wr.heap.size wr).alloc (Nat.le_refl _) (.cells #[.string fk] 9)
            have hr5 := ((unhide HR).below hal).grown hg5 (fun b hb h => unhide HA b hb h)
            have hB5 := (hB.alloc hszB (.cells #[.string fk] 9)).grown hg5 (by simp; omega) (fun b hb => ((unhide HO).loW b hb).1)
            have ho6 := hide (show OwnV w5 w.heap.size 9 v' ((preT F (k + 1)).map sv) by rw [unhide HPS, List.map_append]; exact ho5)
            clear hal hg5 ho5 HR HO HA hB d1
            refine (unhide c1 w5 hr5).mono ?_
            rintro e w6 ⟨⟨vL, rfl, oL⟩, hb6⟩
            have HR6 := hide oL.rdv
            have HO6 := hide ((unhide ho6).below hb6)
            have HA6 := hide (show ∀ b, vL.ownBlock = some b → v'.ownBlock ≠ some b from fun b hb hv => by have h1 := (oL.loW b hb).1; have h2 := ((unhide ho6).loW b hv).2; omega)
            have hB6 := hB5.trans (hb6.mono hB5.size)
            clear oL hb6 hB5 ho6 hr5 c1
            go_wp2
            exact ⟨⟨k + 1, y2, by omega, by go_num, by first | rfl | trivial, HY, HR6, HO6, HA6, hB6⟩, by simp [intOf]; omega⟩
          · have ho1' : (y : Int) % 2 = 0 := by omega
            have ho1 : (y : Int).tmod 2 = 0 := by rw [Int.tmod_eq_emod_of_nonneg (by omega)]; omega
            have hzy : (y : Int) + 1 = (z : Int) := by rw [hz]; unfold sibN; rw [if_neg hodd]; omega
            replace hz := hide hz; replace hodd := hide hodd
            go_wp2_with (at_builtin; refine wpList_append_grow (w := wr) rfl (.tmp 29) (.tmp 34) 22 rfl w.heap.size 9 i0 (.string ⟨#[]⟩) 16 Try.underlying22 hi hz0 hz1 hz2 rfl u5 _ (by rfl) (unhide HO) (.string fk) rfl rfl (unhide hl1) (unhide hl2) hszB ?_; intro v' w5 ho5 hg5)
            have hal := (Below.refl wr.heap.size wr).alloc (Nat.le_refl _) (.cells #[.string fk] 9)
            have hr5 := ((unhide HR).below hal).grown hg5 (fun b hb h => unhide HA b hb h)
            have hB5 := (hB.alloc hszB (.cells #[.string fk] 9)).grown hg5 (by simp; omega) (fun b hb => ((unhide HO).loW b hb).1)
            have ho6 := hide (show OwnV w5 w.heap.size 9 v' ((preT F (k + 1)).map sv) by rw [unhide HPS, List.map_append]; exact ho5)
            clear hal hg5 ho5 HR HO HA hB d1
            refine (unhide c1 w5 hr5).mono ?_
            rintro e w6 ⟨⟨vL, rfl, oL⟩, hb6⟩
            have HR6 := hide oL.rdv
            have HO6 := hide ((unhide ho6).below hb6)
            have HA6 := hide (show ∀ b, vL.ownBlock = some b → v'.ownBlock ≠ some b from fun b hb hv => by have h1 := (oL.loW b hb).1; have h2 := ((unhide ho6).loW b hv).2; omega)
            have hB6 := hB5.trans (hb6.mono hB5.size)
            clear oL hb6 hB5 ho6 hr5 c1
            go_wp2
            exact ⟨⟨k + 1, y2, by omega, by go_num, by first | rfl | trivial, HY, HR6, HO6, HA6, hB6⟩, by simp [intOf]; omega⟩
        · have hk' : ¬ ((k + 1 : Nat) : Int) ≤ 2 := by omega
          obtain rfl : k = 2 := by omega
          clear HR CL HS HA
          go_wp2
          go_ret
          exact ⟨⟨_, rfl, unhide HO⟩, hB⟩
    · rw [decide_eq_false hlf] at C1
      have EP := hide (show pathL l leaf = [] by unfold pathL; rw [if_neg (fun h => hlf h.2)])
      rw [unhide EP, h4]
      clear hr hbv
      go_enter Try.func10, Try.ntmps10
      go_wp2_with fail
      generalize w.alloc (.cells #[] 9) = w0 at *
      refine (unhide C1 _).mono ?_
      rintro e w1 ⟨rfl, hw1⟩
      have hw1' := hw1.symm
      subst hw1'
      clear hw1
      go_wp2
      go_ret
      exact ⟨⟨_, rfl, hn0⟩, hb0⟩
  · have EP := hide (show pathL l leaf = [] by unfold pathL; rw [if_neg (fun h => h4 h.1)])
    rw [unhide EP]
    have h4' : ¬ (l.length : Int) = 4 := by omega
    clear hr hbv
    go_enter Try.func10, Try.ntmps10
    go_wp2
    go_ret
    exact ⟨⟨_, rfl, hn0⟩, hb0⟩
set_option maxRecDepth 20000 in
set_option maxHeartbeats 800000 in
theorem specRootBy_any (x : ByteArray) (leaf : Int) (path : List ByteArray) (v : Value) (w : World) (hx : x.size ≤ 1048576) (hr : RdV w v (path.map sv)) (hs : ∀ x ∈ path, x.size ≤ 1048576) :
    Calls Try.prog 16 #[.string x, .int .i64 leaf, v] w fun e w' => e = .returned (.string (rootBy x leaf path)) ∧ Below w.heap.size w w' := by
  have C1 := hide (fun W => inb9 leaf 0 3 W)
  obtain ⟨a, c, rfl, hc⟩ := hr.open
  rw [List.length_map]
  clear hr
  by_cases h2 : path.length = 2
  · by_cases hlf : 0 ≤ leaf ∧ leaf ≤ 3
    · rw [decide_eq_true hlf] at C1
      obtain ⟨m, rfl⟩ : ∃ m : Nat, leaf = (m : Int) := ⟨leaf.toNat, by omega⟩
      have hm : m < 4 := by omega
      have ER := hide (show rootBy x (m : Int) path = rbB x m path 2 by unfold rootBy; rw [if_pos ⟨h2, hlf⟩, Int.toNat_natCast])
      rw [unhide ER]
      have HN := hide (show ∀ k, rbB x m path (k + 1) = stpB ((k + 1 : Nat) : Int) (m / 2 ^ k) (rbB x m path k) (bAt path k) from fun k => rfl)
      have HC := hide (fun k (hk : k < 2) => hc k _ (bAt_getT path k (by omega)))
      have HZ := hide (fun k => rbB_size x m path k _ (show 4 ≤ 1048576 by omega) hx)
      have HP := hide (fun k => bAt_sizeT path k _ hs)
      rw [h2]
      clear hc
      replace h2 := hide h2
      go_enter Try.func16, Try.ntmps16
      go_wp2_with fail
      refine (unhide C1 _).mono ?_
      rintro e w1 ⟨rfl, hw1⟩
      have hw1' := hw1.symm
      subst hw1'
      clear hw1
      go_wp2
      go_loopw [0, 1, 7] (fun tx tf ti wr => ∃ k y : Nat, k ≤ 2 ∧ ti = .int .i64 ((k + 1 : Nat) : Int) ∧ tf = .int .i64 (y : Int) ∧ Hid (y = m / 2 ^ k) ∧ tx = .string (rbB x m path k) ∧ Below w.heap.size w wr) (fun _ _ ti _ => 5 - (intOf ti).toNat)
      case atStart => exact ⟨0, m, by omega, rfl, rfl, hide (by rw [Nat.pow_zero, Nat.div_one]), rfl, Below.refl _ _⟩
      case round =>
        obtain ⟨k, y, hk, rfl, rfl, hy, rfl, hB⟩ := hrel
        by_cases hlt : k < 2
        · have hk' : ((k + 1 : Nat) : Int) ≤ 2 := by omega
          have hk2 : (k : Int) < 2 := by omega
          have hk0 : (0 : Int) ≤ (k : Int) := by omega
          have hkk : ((k + 1 : Nat) : Int) - 1 = (k : Int) := by omega
          have hy4 : y < 4 := by rw [unhide hy]; exact Nat.lt_of_le_of_lt (Nat.div_le_self _ _) hm
          obtain ⟨g, o, rfl, hg, d1⟩ := unhide HC k hlt
          have d2 := (hB.cell (p := ⟨g, o + k, none⟩) hg).trans d1
          obtain ⟨y2, hy2⟩ : ∃ y2, y2 = y / 2 := ⟨_, rfl⟩
          have HY := hide (show y2 = m / 2 ^ (k + 1) by rw [hy2, unhide hy, Nat.div_div_eq_div_mul, Nat.pow_succ])
          have v1' : (y : Int) / 2 = (y2 : Int) := by omega
          have v1 : (y : Int).tdiv 2 = (y2 : Int) := by rw [Int.tdiv_eq_ediv_of_nonneg (by omega)]; omega
          have HX := hide (unhide HN k)
          rw [← unhide hy] at HX
          have hxk := unhide HZ k
          have hpk := unhide HP k
          obtain ⟨R0, hR⟩ : ∃ R0, R0 = rbB x m path (k + 1) := ⟨_, rfl⟩
          replace hR := hide hR.symm
          generalize rbB x m path k = xk at *
          generalize bAt path k = pk at *
          rw [unhide hR] at HX
          clear HC HN HZ HP d1
          by_cases hodd : y % 2 = 1
          · have ho1' : (y : Int) % 2 = 1 := by omega
            have ho1 : (y : Int).tmod 2 = 1 := by rw [Int.tmod_eq_emod_of_nonneg (by omega)]; omega
            have ES := hide (show stpB ((k + 1 : Nat) : Int) y xk pk = nodeB ((k + 1 : Nat) : Int) (y2 : Int) pk xk by unfold stpB; rw [if_pos hodd, ← hy2])
            have c1 := hide (fun W => specNode_any ((k + 1 : Nat) : Int) (y2 : Int) pk xk hpk hxk W)
            rw [← unhide ES, ← unhide HX] at c1
            replace hodd := hide hodd; replace hy2 := hide hy2
            clear ES HX
            go_wp2_with fail
            refine (unhide c1 wr).mono ?_
            rintro e w1 ⟨rfl, hb1⟩
            have hB1 := hB.trans (hb1.mono hB.size)
            clear hb1 hB c1
            go_wp2
            exact ⟨⟨k + 1, y2, by omega, by go_num, by first | rfl | trivial, HY, by rw [unhide hR], hB1⟩, by simp [intOf]; omega⟩
          · have ho1' : (y : Int) % 2 = 0 := by omega
            have ho1 : (y : Int).tmod 2 = 0 := by rw [Int.tmod_eq_emod_of_nonneg (by omega)]; omega
            have ES := hide (show stpB ((k + 1 : Nat) : Int) y xk pk = nodeB ((k + 1 : Nat) : Int) (y2 : Int) xk pk by unfold stpB; rw [if_neg hodd, ← hy2])
            have c1 := hide (fun W => specNode_any ((k + 1 : Nat) : Int) (y2 : Int) xk pk hxk hpk W)
            rw [← unhide ES, ← unhide HX] at c1
            replace hodd := hide hodd; replace hy2 := hide hy2
            clear ES HX
            go_wp2_with fail
            refine (unhide c1 wr).mono ?_
            rintro e w1 ⟨rfl, hb1⟩
            have hB1 := hB.trans (hb1.mono hB.size)
            clear hb1 hB c1
            go_wp2
            exact ⟨⟨k + 1, y2, by omega, by go_num, by first | rfl | trivial, HY, by rw [unhide hR], hB1⟩, by simp [intOf]; omega⟩
        · have hk' : ¬ ((k + 1 : Nat) : Int) ≤ 2 := by omega
          obtain rfl : k = 2 := by omega
          clear HC
          go_wp2
          go_ret
          exact ⟨rfl, hB⟩
    · rw [decide_eq_false hlf] at C1
      have ER := hide (show rootBy x leaf path = ⟨#[]⟩ by unfold rootBy; rw [if_neg (fun h => hlf h.2)])
      rw [unhide ER, h2]
      clear hc
      go_enter Try.func16, Try.ntmps16
      go_wp2_with fail
      refine (unhide C1 _).mono ?_
      rintro e w1 ⟨rfl, hw1⟩
      have hw1' := hw1.symm
      subst hw1'
      clear hw1
      go_wp2
      go_ret
      exact ⟨rfl, Below.refl _ _⟩
  · have ER := hide (show rootBy x leaf path = ⟨#[]⟩ by unfold rootBy; rw [if_neg (fun h => h2 h.1)])
    rw [unhide ER]
    have h2' : ¬ (path.length : Int) = 2 := by omega
    clear hc
    go_enter Try.func16, Try.ntmps16
    go_wp2
    go_ret
    exact ⟨rfl, Below.refl _ _⟩
end Go.Proofs.Ytecononlghjepav

/- Keys of a tree by the given model: leaves, public texts, signatures, over the loaded program. -/
namespace Go.Proofs.Ytecononlghjepav
open Go.RowKit
set_option maxRecDepth 20000 in
set_option maxHeartbeats 800000 in
theorem specLeaves_any (s : ByteArray) (hs : s.size ≤ 2000000) (w : World) :
    Calls Try.prog 42 #[.string s] w fun e w' => (∃ v, e = .returned v ∧ OwnV w' w.heap.size 9 v ((lvsO s).map sv)) ∧ Below w.heap.size w w' := by
  obtain ⟨i0, hi, hz0, hz1, hz2⟩ := info_parts infoTxt
  have C1 := hide (fun (i : Nat) W => specOnceKeyL_any s (i : Int) hs W)
  have C2 := hide (fun (i : Nat) W v hr => specOncePublic_any (keysO s (i : Int)) (i : Int) v W hr (fun x hx => by rw [keysO_size s _ x hx]; omega))
  have HK := hide (show ∀ i : Nat, onceP (keysO s (i : Int)) (i : Int) = lefO s i from fun i => rfl)
  have EK := hide (show lvsO s = preS (lefO s) 4 from rfl)
  rw [unhide EK]
  generalize lefO s = F at *
  clear EK
  go_enter Try.func42, Try.ntmps42
  have ho0 : OwnV (w.alloc (.cells #[] 9)) w.heap.size 9 (.slice (some ⟨w.heap.size, 0, none⟩) 0 0) ((preS F 0).map sv) := World.ownsRow_made w #[] 0 (Nat.le_refl _) (by decide) (by simp)
  replace ho0 := hide ho0
  have hb0 := (Below.refl w.heap.size w).alloc (Nat.le_refl _) (.cells #[] 9)
  go_wp2
  go_loopw [3, 4] (fun tv ti wr => ∃ k : Nat, k ≤ 4 ∧ ti = .int .i64 (k : Int) ∧ Hid (OwnV wr w.heap.size 9 tv ((preS F k).map sv)) ∧ Below w.heap.size w wr) (fun _ ti _ => 4 - (intOf ti).toNat)
  case atStart => exact ⟨0, by omega, rfl, ho0, hb0⟩
  case round =>
    clear ho0 hb0
    obtain ⟨k, hk, rfl, HO, hB⟩ := hrel
    by_cases hlt : k < 4
    · have hk' : (k : Int) < 4 := by omega
      have c1 := hide (unhide C1 k)
      have c2 := hide (unhide C2 k)
      rw [unhide HK k] at c2
      have HP := hide (preS_succ F k)
      have hpl : ((preS F k).map sv).length ≤ 1000 := by rw [List.length_map, preS_len]; omega
      generalize F k = fk at *
      replace hpl := hide hpl
      clear C1 C2
      go_wp2_with fail
      refine (unhide c1 wr).mono ?_
      rintro e w1 ⟨⟨v1, rfl, o1⟩, hb1⟩
      have hB1 := hB.trans (hb1.mono hB.size)
      have HO1 := hide ((unhide HO).below hb1)
      replace c2 := hide (unhide c2 w1 v1 o1.rdv)
      clear hb1 hB c1 HO o1
      go_wp2_with fail
      refine (unhide c2).mono ?_
      rintro e w3 ⟨rfl, hb3⟩
      have hB3 := hB1.trans (hb3.mono hB1.size)
      have HO3 := hide ((unhide HO1).below hb3)
      have hsz3 := hB3.size
      clear hb3 hB1 c2 HO1
      go_wp2_with (at_builtin; refine wpList_append_val (w := w3) rfl (.tmp 10) (.tmp 16) 22 rfl w.heap.size 9 i0 (.string ⟨#[]⟩) 16 Try.underlying22 hi hz0 hz1 hz2 rfl u3 _ (by rfl) (unhide HO3) (.string fk) rfl (by rfl) (unhide hpl) (by decide) hB3 (Nat.le_refl _) hsz3 ?_; intro v' w8 ho8 hB8)
      have ho9 := hide (show OwnV w8 w.heap.size 9 v' ((preS F (k + 1)).map sv) by rw [unhide HP, List.map_append]; exact ho8)
      clear ho8 HO3 HP
      go_wp2
      exact ⟨⟨k + 1, by omega, by go_num, ho9, hB8⟩, by simp [intOf]; omega⟩
    · have hk' : ¬ (k : Int) < 4 := by omega
      obtain rfl : k = 4 := by omega
      go_wp2
      go_ret
      exact ⟨⟨_, rfl, unhide HO⟩, hB⟩
set_option maxRecDepth 20000 in
set_option maxHeartbeats 800000 in
theorem specPublicOf_any (s : ByteArray) (hs : s.size ≤ 2000000) (w : World) :
    Calls Try.prog 18 #[.string s] w fun e w' => e = .returned (.string (pubO s)) ∧ Below w.heap.size w w' := by
  have C1 := hide (fun W => specLeaves_any s hs W)
  have C2 := hide (fun W v hr => specRootOf_any (lvsO s) v W hr (fun x hx => by rw [lvsO_size s x hx]; omega))
  have HK := hide (show rootB (lvsO s) = pubO s from rfl)
  rw [unhide HK] at C2
  generalize pubO s = p at *
  go_enter Try.func18, Try.ntmps18
  go_wp2_with fail
  refine (unhide C1 w).mono ?_
  rintro e w1 ⟨⟨v1, rfl, o1⟩, hb1⟩
  replace C2 := hide (unhide C2 w1 v1 o1.rdv)
  clear C1 o1
  go_wp2_with fail
  refine (unhide C2).mono ?_
  rintro e w2 ⟨rfl, hb2⟩
  have hB2 := hb1.trans (hb2.mono hb1.size)
  clear C2 hb1 hb2
  go_wp2
  go_ret
  exact ⟨rfl, hB2⟩
set_option maxRecDepth 20000 in
set_option maxHeartbeats 800000 in
theorem specSignAt_any (s : ByteArray) (leaf : Int) (m : ByteArray) (hs : s.size ≤ 2000000) (hm : m.size ≤ 1048576) (w : World) :
    Calls Try.prog 20 #[.string s, .int .i64 leaf, .string m] w fun e w' => (∃ v, e = .returned (.tuple #[v, .bool (decide (0 ≤ leaf ∧ leaf ≤ 3))]) ∧ OwnSg w' w.heap.size v (sgnS s leaf m)) ∧ Below w.heap.size w w' := by
  have C0 := hide (fun W => inb9 leaf 0 3 W)
  by_cases h : 0 ≤ leaf ∧ leaf ≤ 3
  · have C1 := hide (fun W => specOnceKeyL_any s leaf hs W)
    have C2 := hide (fun W v hr => specOnceSign_any (keysO s leaf) leaf m v W hr (fun x hx => by rw [keysO_size s _ x hx]; omega) hm)
    have C3 := hide (fun W => specLeaves_any s hs W)
    have C4 := hide (fun W v hr => specPathOf_any (lvsO s) leaf v W hr (fun x hx => by rw [lvsO_size s x hx]; omega))
    have ES := hide (show sgnS s leaf m = ⟨leaf, onceS (keysO s leaf) leaf m, pathL (lvsO s) leaf⟩ by unfold sgnS; rw [if_pos h])
    rw [unhide ES, decide_eq_true h]
    generalize onceS (keysO s leaf) leaf m = L1 at *
    generalize pathL (lvsO s) leaf = L2 at *
    generalize (keysO s leaf).map sv = K1 at *
    generalize (lvsO s).map sv = K2 at *
    have hd1 := decide_eq_true h.1
    have hd2 := decide_eq_true h.2
    rw [decide_eq_true h] at C0
    clear ES h
    go_enter Try.func20, Try.ntmps20
    go_wp2_with fail
    obtain ⟨W, hW, hR, hB, hs1⟩ := one_cb w #[.int .i64 0, .slice none 0 0, .slice none 0 0] 33
    rw [hW]
    clear hW
    refine (unhide C0 W).mono ?_
    rintro e w1 ⟨rfl, hw1⟩
    have hw2 := hw1.symm
    subst hw2
    clear hw1 C0
    go_wp2_with fail
    refine (unhide C1 W).mono ?_
    rintro e w1 ⟨⟨v1, rfl, o1⟩, hb1⟩
    have hB1 := hB.trans (hb1.mono hB.size)
    have hR1 := hR.step hb1
    replace C2 := hide (unhide C2 w1 v1 o1.rdv)
    clear C1 o1 hb1 hB hR
    go_wp2_with fail
    refine (unhide C2).mono ?_
    rintro e w2 ⟨⟨v2, rfl, o2⟩, hb2⟩
    have hB2 := hB1.trans (hb2.mono hB1.size)
    have hR2 := hR1.step hb2
    have o2' := hide (o2.low hB1.size)
    clear C2 o2 hb2 hB1 hR1
    go_wp2_with fail
    refine (unhide C3 w2).mono ?_
    rintro e w3 ⟨⟨v3, rfl, o3⟩, hb3⟩
    have hB3 := hB2.trans (hb3.mono hB2.size)
    have hR3 := hR2.step hb3
    have o2'' := hide ((unhide o2').below hb3)
    replace C4 := hide (unhide C4 w3 v3 o3.rdv)
    clear C3 o3 hb3 hB2 hR2 o2'
    go_wp2_with fail
    refine (unhide C4).mono ?_
    rintro e w4 ⟨⟨v4, rfl, o4⟩, hb4⟩
    have hB4 := hB3.trans (hb4.mono hB3.size)
    have hR4 := hR3.step hb4
    have o5 := hide ((unhide o2'').below hb4)
    have ap := hide (show ∀ k, v2.ownBlock = some k → v4.ownBlock ≠ some k from fun k hk hk2 => by
      have h1 := ((unhide o2'').lt k hk).2
      have h2 := (o4.lt k hk2).1
      omega)
    have o4' := hide (o4.low hB3.size)
    have of5 := hide (hR4.off (unhide o5) (by decide))
    have of4 := hide (hR4.off o4 (by decide))
    have s2 := (unhide o5).shape
    have s4 := o4.shape
    clear C4 o4 hb4 hB3 hR3 o2''
    obtain ⟨a2, c2, rfl⟩ := s2
    obtain ⟨a4, c4, rfl⟩ := s4
    have r0 := hR4.cell 0 (v := .int .i64 0) rfl
    have r1 := hR4.cell 1 (v := .slice none 0 0) rfl
    have r2 := hR4.cell 2 (v := .slice none 0 0) rfl
    have g0 := hR4.frozen 0
    have g1 := hR4.frozen 1
    have g2 := hR4.frozen 2
    generalize hn2 : (L1.map sv).length = n2 at *
    generalize hn4 : (L2.map sv).length = n4 at *
    go_wp2
    have hF := hide (((hR4.set 0 (.int .i64 leaf)).set 1 (.slice a2 n2 c2)).set 2 (.slice a4 n4 c4))
    have hBF := hide (((hB4.setCell (p := ⟨w.heap.size, 0, none⟩) (Nat.le_refl _) (.int .i64 leaf)).setCell (p := ⟨w.heap.size, 1, none⟩) (Nat.le_refl _) (.slice a2 n2 c2)).setCell (p := ⟨w.heap.size, 2, none⟩) (Nat.le_refl _) (.slice a4 n4 c4))
    have o6 := hide ((((unhide o5).setO w.heap.size 0 (.int .i64 leaf) (unhide of5)).setO w.heap.size 1 (.slice a2 n2 c2) (unhide of5)).setO w.heap.size 2 (.slice a4 n4 c4) (unhide of5))
    have o7 := hide ((((unhide o4').setO w.heap.size 0 (.int .i64 leaf) (unhide of4)).setO w.heap.size 1 (.slice a2 n2 c2) (unhide of4)).setO w.heap.size 2 (.slice a4 n4 c4) (unhide of4))
    exact bodyPost_ret (results_cb_tmp (by exact Try.results20) _ _ _ _ _ _ rfl (unhide hF) Try.underlying33 (by kernel_rfl)) rfl ⟨⟨_, rfl, _, _, rfl, unhide o6, unhide o7, unhide ap⟩, unhide hBF⟩
  · have ES := hide (show sgnS s leaf m = ⟨0, [], []⟩ by unfold sgnS; rw [if_neg h])
    rw [unhide ES, decide_eq_false h]
    rw [decide_eq_false h] at C0
    clear ES h
    go_enter Try.func20, Try.ntmps20
    go_wp2_with fail
    obtain ⟨W, hW, hR, hB, hs1⟩ := one_cb w #[.int .i64 0, .slice none 0 0, .slice none 0 0] 33
    rw [hW]
    clear hW
    refine (unhide C0 W).mono ?_
    rintro e w1 ⟨rfl, hw1⟩
    have hw2 := hw1.symm
    subst hw2
    clear hw1 C0
    have r0 := hR.cell 0 (v := .int .i64 0) rfl
    have r1 := hR.cell 1 (v := .slice none 0 0) rfl
    have r2 := hR.cell 2 (v := .slice none 0 0) rfl
    have g0 := hR.frozen 0
    have g1 := hR.frozen 1
    have g2 := hR.frozen 2
    go_wp2
    have hF := hide (((hR.set 0 (.int .i64 0)).set 1 (.slice none 0 0)).set 2 (.slice none 0 0))
    have hBF := hide (((hB.setCell (p := ⟨w.heap.size, 0, none⟩) (Nat.le_refl _) (.int .i64 0)).setCell (p := ⟨w.heap.size, 1, none⟩) (Nat.le_refl _) (.slice none 0 0)).setCell (p := ⟨w.heap.size, 2, none⟩) (Nat.le_refl _) (.slice none 0 0))
    exact bodyPost_ret (results_cb_tmp (by exact Try.results20) _ _ _ _ _ _ rfl (unhide hF) Try.underlying33 (by kernel_rfl)) rfl ⟨⟨_, rfl, _, _, rfl, OwnV.nil _ _ _, OwnV.nil _ _ _, fun k hk => by cases hk⟩, unhide hBF⟩
end Go.Proofs.Ytecononlghjepav

/- Keys of a tree by the given model: whether a signature is right, over the loaded program. -/
namespace Go.Proofs.Ytecononlghjepav
open Go.RowKit
set_option maxRecDepth 20000 in
set_option maxHeartbeats 800000 in
theorem specSigOk_any (s : Sg) (v : Value) (w : World) (hr : RdSg w v s) (n1 : s.once.length ≤ 2000000) (n2 : s.path.length ≤ 2000000) :
    Calls Try.prog 26 #[v] w fun e w' => e = .returned (.bool (sgOk s)) ∧ Below w.heap.size w w' := by
  obtain ⟨lf, l1, l2⟩ := s
  obtain ⟨v1, v2, rfl, r1, r2, -⟩ := hr
  have C0 := hide (fun W => inb9 lf 0 3 W)
  obtain ⟨a1, c1, rfl, hc1⟩ := r1.open
  obtain ⟨a2, c2, rfl, hc2⟩ := r2.open
  clear r1 r2
  replace hc1 : ∀ k, k < l1.length → ∃ g o, a1 = some ⟨g, o, none⟩ ∧ g < w.heap.size ∧ w.cell? ⟨g, o + k, none⟩ = some (.string (bAt l1 k)) := fun k hk => hc1 k _ (bAt_get l1 k hk)
  replace hc2 : ∀ k, k < l2.length → ∃ g o, a2 = some ⟨g, o, none⟩ ∧ g < w.heap.size ∧ w.cell? ⟨g, o + k, none⟩ = some (.string (bAt l2 k)) := fun k hk => hc2 k _ (bAt_get l2 k hk)
  unfold sgv
  show Calls _ _ #[.agg #[.int .i64 lf, .slice a1 (l1.map sv).length c1, .slice a2 (l2.map sv).length c2]] _ _
  rw [List.length_map, List.length_map]
  by_cases h : 0 ≤ lf ∧ lf ≤ 3
  · rw [decide_eq_true h] at C0
    by_cases h1 : l1.length = 10
    · by_cases h2 : l2.length = 2
      · have E1 := hide (fun (h3 : ∀ k, k < 10 → (bAt l1 k).size = 4) (h4 : ∀ k, k < 2 → (bAt l2 k).size = 4) => show sgOk ⟨lf, l1, l2⟩ = true from sgOk_of ⟨h, h1, h2⟩ (four_bAt (l := l1) fun k hk => h3 k (by omega)) (four_bAt (l := l2) fun k hk => h4 k (by omega)))
        have E2 := hide (fun k (hk : k < 10) (hx : ¬ (bAt l1 k).size = 4) => show sgOk ⟨lf, l1, l2⟩ = false from sgOk_no2 (four_no (l := l1) k (by omega) hx))
        have E3 := hide (fun k (hk : k < 2) (hx : ¬ (bAt l2 k).size = 4) => show sgOk ⟨lf, l1, l2⟩ = false from sgOk_no3 (four_no (l := l2) k (by omega) hx))
        rw [h1] at hc1 ⊢
        rw [h2] at hc2 ⊢
        generalize sgOk ⟨lf, l1, l2⟩ = R at *
        generalize bAt l1 = F1 at *
        generalize bAt l2 = F2 at *
        clear h h1 h2 n1 n2
        go_enter Try.func26, Try.ntmps26
        go_wp2_with fail
        obtain ⟨W, hW, hP, hB, hs1⟩ := one_cb w #[.int .i64 lf, .slice a1 10 c1, .slice a2 2 c2] 33
        rw [hW]
        clear hW
        refine (unhide C0 W).mono ?_
        rintro e w1 ⟨rfl, hw1⟩
        have hw2 := hw1.symm
        subst hw2
        clear hw1 C0
        have p1 := hP.cell 1 (v := .slice a1 10 c1) rfl
        have p2 := hP.cell 2 (v := .slice a2 2 c2) rfl
        replace hP := hide hP
        go_wp2
        go_loopw [3] (fun ti wr => ∃ k : Nat, k ≤ 10 ∧ ti = .int .i64 (k : Int) ∧ Hid (∀ j, j < k → (F1 j).size = 4) ∧ wr = W) (fun ti _ => 10 - (intOf ti).toNat)
        case atStart => exact ⟨0, by omega, rfl, hide (fun j hj => absurd hj (by omega)), rfl⟩
        case round =>
          obtain ⟨k, hk, rfl, HK, hw⟩ := hrel
          have hw' := hw.symm
          subst hw'
          clear hw
          by_cases hlt : k < 10
          · have hk' : (k : Int) < 10 := by omega
            obtain ⟨g, o, rfl, hg, d1⟩ := hc1 k hlt
            replace d1 := (hB.cell (p := ⟨g, o + k, none⟩) hg).trans d1
            by_cases hx : (F1 k).size = 4
            · have HK2 := hide (show ∀ j, j < k + 1 → (F1 j).size = 4 from fun j hj => by
                by_cases e : j = k
                · rw [e]; exact hx
                · exact unhide HK j (by omega))
              generalize F1 k = told at d1 hx
              clear hc1 hc2 HK
              go_wp2
              exact ⟨⟨k + 1, by omega, by go_num, HK2, by first | rfl | trivial⟩, by simp [intOf]; omega⟩
            · have E := hide (unhide E2 k hlt hx)
              have hx' : ¬ ((F1 k).size : Int) = 4 := by omega
              generalize F1 k = told at d1 hx'
              clear hc1 hc2 HK E1 E2 E3 hx
              go_wp2
              go_ret
              exact ⟨by rw [unhide E]; rfl, hB⟩
          · have hk' : ¬ (k : Int) < 10 := by omega
            have HK2 := hide (show ∀ j, j < 10 → (F1 j).size = 4 from fun j hj => unhide HK j (by omega))
            clear hc1 HK
            go_wp2
            go_loopw [4] (fun ti wr => ∃ k : Nat, k ≤ 2 ∧ ti = .int .i64 (k : Int) ∧ Hid (∀ j, j < k → (F2 j).size = 4) ∧ wr = W) (fun ti _ => 2 - (intOf ti).toNat)
            case atStart => exact ⟨0, by omega, rfl, hide (fun j hj => absurd hj (by omega)), rfl⟩
            case round =>
              obtain ⟨k, hk, rfl, HK, hw⟩ := hrel
              have hw' := hw.symm
              subst hw'
              clear hw
              by_cases hlt2 : k < 2
              · have hk2 : (k : Int) < 2 := by omega
                obtain ⟨g, o, rfl, hg, d1⟩ := hc2 k hlt2
                replace d1 := (hB.cell (p := ⟨g, o + k, none⟩) hg).trans d1
                by_cases hx : (F2 k).size = 4
                · have HK3 := hide (show ∀ j, j < k + 1 → (F2 j).size = 4 from fun j hj => by
                    by_cases e : j = k
                    · rw [e]; exact hx
                    · exact unhide HK j (by omega))
                  generalize F2 k = told at d1 hx
                  clear hc2 HK
                  go_wp2
                  exact ⟨⟨k + 1, by omega, by go_num, HK3, by first | rfl | trivial⟩, by simp [intOf]; omega⟩
                · have E := hide (unhide E3 k hlt2 hx)
                  have hx' : ¬ ((F2 k).size : Int) = 4 := by omega
                  generalize F2 k = told at d1 hx'
                  clear hc2 HK E1 E2 E3 hx
                  go_wp2
                  go_ret
                  exact ⟨by rw [unhide E]; rfl, hB⟩
              · have hk2 : ¬ (k : Int) < 2 := by omega
                have E := hide (unhide E1 (unhide HK2) (fun j hj => unhide HK j (by omega)))
                clear hc2 HK HK2 E1 E2 E3
                go_wp2
                go_ret
                exact ⟨by rw [unhide E]; rfl, hB⟩
      · have E := hide (show sgOk ⟨lf, l1, l2⟩ = false from sgOk_no1 fun x => h2 x.2.2)
        rw [unhide E, h1]
        have h2' : ¬ (l2.length : Int) = 2 := by omega
        generalize l2.length = m2 at *
        clear E h hc1 hc2 h2
        go_enter Try.func26, Try.ntmps26
        go_wp2_with fail
        obtain ⟨W, hW, hP, hB, hs1⟩ := one_cb w #[.int .i64 lf, .slice a1 10 c1, .slice a2 m2 c2] 33
        rw [hW]
        clear hW
        refine (unhide C0 W).mono ?_
        rintro e w1 ⟨rfl, hw1⟩
        have hw2 := hw1.symm
        subst hw2
        clear hw1 C0
        have p1 := hP.cell 1 (v := .slice a1 10 c1) rfl
        have p2 := hP.cell 2 (v := .slice a2 m2 c2) rfl
        go_wp2
        go_ret
        exact ⟨rfl, hB⟩
    · have E := hide (show sgOk ⟨lf, l1, l2⟩ = false from sgOk_no1 fun x => h1 x.2.1)
      rw [unhide E]
      have h1' : ¬ (l1.length : Int) = 10 := by omega
      generalize l1.length = m1 at *
      generalize l2.length = m2 at *
      clear E h hc1 hc2 h1
      go_enter Try.func26, Try.ntmps26
      go_wp2_with fail
      obtain ⟨W, hW, hP, hB, hs1⟩ := one_cb w #[.int .i64 lf, .slice a1 m1 c1, .slice a2 m2 c2] 33
      rw [hW]
      clear hW
      refine (unhide C0 W).mono ?_
      rintro e w1 ⟨rfl, hw1⟩
      have hw2 := hw1.symm
      subst hw2
      clear hw1 C0
      have p1 := hP.cell 1 (v := .slice a1 m1 c1) rfl
      go_wp2
      go_ret
      exact ⟨rfl, hB⟩
  · have E := hide (show sgOk ⟨lf, l1, l2⟩ = false from sgOk_no1 fun x => h x.1)
    rw [unhide E]
    rw [decide_eq_false h] at C0
    generalize l1.length = m1 at *
    generalize l2.length = m2 at *
    clear E h hc1 hc2
    go_enter Try.func26, Try.ntmps26
    go_wp2_with fail
    obtain ⟨W, hW, hP, hB, hs1⟩ := one_cb w #[.int .i64 lf, .slice a1 m1 c1, .slice a2 m2 c2] 33
    rw [hW]
    clear hW
    refine (unhide C0 W).mono ?_
    rintro e w1 ⟨rfl, hw1⟩
    have hw2 := hw1.symm
    subst hw2
    clear hw1 C0
    go_wp2
    go_ret
    exact ⟨rfl, hB⟩
theorem same_txt (a b : ByteArray) : (a.toList == b.toList) = decide (a = b) := by
  have e : ∀ x : ByteArray, x.toList = x.data.toList := fun x => ByteArray.toList_eq x
  by_cases h : a = b
  · subst h
    rw [decide_eq_true rfl]
    exact beq_self_eq_true _
  · rw [decide_eq_false h]
    apply beq_false_of_ne
    rw [e, e]
    exact fun h2 => h (ByteArray.ext (Array.toList_inj.1 h2))
theorem sumS_four (l : List ByteArray) (h : ∀ x ∈ l, x.size = 4) : sumS l = 4 * l.length := by
  induction l with
  | nil => rfl
  | cons x xs ih =>
    show x.size + sumS xs = 4 * (xs.length + 1)
    rw [h x (by simp), ih fun y hy => h y (by simp [hy])]
    omega
theorem onceF_size (l : List ByteArray) (leaf : Int) (m : ByteArray) : (onceF l leaf m).size ≤ 4 := by
  unfold onceF
  split
  · rw [chopB_size]; omega
  · show 0 ≤ 4; omega
set_option maxRecDepth 20000 in
set_option maxHeartbeats 800000 in
theorem specCheckSig_any (p m : ByteArray) (s : Sg) (v : Value) (w : World) (hr : RdSg w v s) (n1 : s.once.length ≤ 2000000) (n2 : s.path.length ≤ 2000000) (hm : m.size ≤ 1048576) :
    Calls Try.prog 29 #[.string p, .string m, v] w fun e w' => e = .returned (.bool (chkB p m s)) ∧ Below w.heap.size w w' := by
  have C0 := hide (fun (W : World) (h : Below w.heap.size w W) => specSigOk_any s v W (hr.below h) n1 n2)
  obtain ⟨lf, l1, l2⟩ := s
  obtain ⟨v1, v2, rfl, r1, r2, -⟩ := hr
  cases ho : sgOk ⟨lf, l1, l2⟩ with
  | true =>
    rw [ho] at C0
    have f1 := sgOk_once ho
    have f2 := sgOk_path ho
    obtain ⟨_, k1, k2⟩ := sgOk_shape ho
    have C1 := hide (fun (W : World) (h : Below w.heap.size w W) => specOnceFound_any l1 lf m v1 W (r1.below h) (by rw [sumS_four l1 (four_yes f1)]; have : l1.length = 10 := k1; omega) hm)
    have C2 := hide (fun (W : World) (h : Below w.heap.size w W) => specRootBy_any (onceF l1 lf m) lf l2 v2 W (by have := onceF_size l1 lf m; omega) (r2.below h) (fun x hx => by rw [four_yes f2 x hx]; omega))
    have EC := hide (show chkB p m ⟨lf, l1, l2⟩ = decide (rootBy (onceF l1 lf m) lf l2 = p) by unfold chkB fndB; rw [ho]; rfl)
    rw [unhide EC]
    obtain ⟨a1, c1, rfl⟩ := r1.shape
    obtain ⟨a2, c2, rfl⟩ := r2.shape
    unfold sgv at C0 ⊢
    generalize onceF l1 lf m = fo at *
    generalize rootBy fo lf l2 = ro at *
    clear r1 r2 n1 n2 k1 k2 f1 f2 ho EC
    show Calls _ _ #[_, _, .agg #[.int .i64 lf, .slice a1 (l1.map sv).length c1, .slice a2 (l2.map sv).length c2]] _ _
    generalize ((Sg.mk lf l1 l2).once.map sv).length = k1 at *
    generalize ((Sg.mk lf l1 l2).path.map sv).length = k2 at *
    go_enter Try.func29, Try.ntmps29
    go_wp2_with fail
    obtain ⟨W, hW, hP, hB, hs1⟩ := one_cb w #[.int .i64 lf, .slice a1 k1 c1, .slice a2 k2 c2] 33
    rw [hW]
    clear hW
    have KS := hide (fun (W' : World) (h : Below W.heap.size W W') => (show W'.cell? ⟨w.heap.size, 0, none⟩ = some (.int .i64 lf) ∧ W'.cell? ⟨w.heap.size, 1, none⟩ = some (.slice a1 k1 c1) ∧ W'.cell? ⟨w.heap.size, 2, none⟩ = some (.slice a2 k2 c2) from ⟨(hP.step h).cell 0 rfl, (hP.step h).cell 1 rfl, (hP.step h).cell 2 rfl⟩))
    have C0' := hide (fun (W' : World) (h : Below W.heap.size W W') => unhide C0 W' (hB.trans (h.mono hB.size)))
    have C1' := hide (fun (W' : World) (h : Below W.heap.size W W') => unhide C1 W' (hB.trans (h.mono hB.size)))
    have C2' := hide (fun (W' : World) (h : Below W.heap.size W W') => unhide C2 W' (hB.trans (h.mono hB.size)))
    have HT0 := (Below.refl W.heap.size W).drew
    clear C0 C1 C2 hP
    go_region_held3 (fun W => W.cell? ⟨w.heap.size, 0, none⟩ = some (.int .i64 lf) ∧ W.cell? ⟨w.heap.size, 1, none⟩ = some (.slice a1 k1 c1) ∧ W.cell? ⟨w.heap.size, 2, none⟩ = some (.slice a2 k2 c2)) (first | exact unhide KS _ HT0 | exact unhide KS _ hT1 | exact unhide KS _ hT2 | exact unhide KS _ hT3 | fail) (first
      | (go_at_call 26; refine (unhide C0' _ HT0).mono ?_; rintro e w1 ⟨rfl, hb1⟩; have hT1 := HT0.trans (hb1.mono HT0.size); clear hb1)
      | (go_at_call 50; refine (unhide C1' _ hT1).mono ?_; rintro e w2 ⟨rfl, hb2⟩; have hT2 := hT1.trans (hb2.mono hT1.size); clear hb2)
      | (go_at_call 16; refine (unhide C2' _ hT2).mono ?_; rintro e w3 ⟨rfl, hb3⟩; have hT3 := hT2.trans (hb3.mono hT2.size); clear hb3))
    all_goals
      have hF := hB.trans (hT3.mono hB.size)
      clear C0' C1' C2' KS hT1 hT2 HT0
      go_wp2
      go_ret
      exact ⟨by show Ending.returned (.bool (ro.toList == p.toList)) = _; rw [same_txt], hF⟩
  | false =>
    rw [ho] at C0
    have EC := hide (show chkB p m ⟨lf, l1, l2⟩ = false by unfold chkB; rw [ho]; rfl)
    rw [unhide EC]
    obtain ⟨a1, c1, rfl⟩ := r1.shape
    obtain ⟨a2, c2, rfl⟩ := r2.shape
    unfold sgv at C0 ⊢
    clear r1 r2 n1 n2 ho EC
    show Calls _ _ #[_, _, .agg #[.int .i64 lf, .slice a1 (l1.map sv).length c1, .slice a2 (l2.map sv).length c2]] _ _
    generalize ((Sg.mk lf l1 l2).once.map sv).length = k1 at *
    generalize ((Sg.mk lf l1 l2).path.map sv).length = k2 at *
    go_enter Try.func29, Try.ntmps29
    go_wp2_with fail
    obtain ⟨W, hW, hP, hB, hs1⟩ := one_cb w #[.int .i64 lf, .slice a1 k1 c1, .slice a2 k2 c2] 33
    rw [hW]
    clear hW
    have KS := hide (fun (W' : World) (h : Below W.heap.size W W') => (show W'.cell? ⟨w.heap.size, 0, none⟩ = some (.int .i64 lf) ∧ W'.cell? ⟨w.heap.size, 1, none⟩ = some (.slice a1 k1 c1) ∧ W'.cell? ⟨w.heap.size, 2, none⟩ = some (.slice a2 k2 c2) from ⟨(hP.step h).cell 0 rfl, (hP.step h).cell 1 rfl, (hP.step h).cell 2 rfl⟩))
    have C0' := hide (fun (W' : World) (h : Below W.heap.size W W') => unhide C0 W' (hB.trans (h.mono hB.size)))
    have HT0 := (Below.refl W.heap.size W).drew
    clear C0 hP
    refine wp_region_held_drew (S := fun W => W.cell? ⟨w.heap.size, 0, none⟩ = some (.int .i64 lf) ∧ W.cell? ⟨w.heap.size, 1, none⟩ = some (.slice a1 k1 c1) ∧ W.cell? ⟨w.heap.size, 2, none⟩ = some (.slice a2 k2 c2)) (by kernel_rfl) (unhide KS _ HT0) (fun hHeld => ?_)
    refine wpAnyH_take (i := 0) (v := .agg #[.int .i64 lf, .slice a1 k1 c1, .slice a2 k2 c2]) rfl (by kernel_rfl) (by kernel_rfl) (by kernel_rfl) (fun _ _ _ h => h) (Or.inl ⟨by kernel_rfl, fun W hS => by obtain ⟨s0, s1, s2⟩ := hS; go_simp⟩) hHeld ?_
    refine wpAnyH_ready (rs := [1]) (by kernel_rfl) (by simp) ?_
    refine AllReadyH.cons rfl (fun K hK => ?_) AllReadyH.nil
    go_simp
    refine (unhide C0' _ HT0).mono ?_
    rintro e w1 ⟨rfl, hb1⟩
    have hT1 := HT0.trans (hb1.mono HT0.size)
    have hF := hB.trans (hT1.mono hB.size)
    refine hK.out _ _ (unhide KS _ hT1) (fun hHeld => ?_)
    clear hK K hb1 HT0 C0'
    refine wpAnyH_take (i := 2) (v := .bool false) rfl (by kernel_rfl) (by kernel_rfl) (by kernel_rfl) (fun _ _ _ h => h) (Or.inl ⟨by kernel_rfl, fun W hS => by go_simp⟩) hHeld ?_
    refine wpAnyH_take (i := 3) (v := undef) rfl (by kernel_rfl) (by kernel_rfl) (by kernel_rfl) (fun _ _ _ h => h) (Or.inr ⟨by kernel_rfl, rfl⟩) hHeld ?_
    refine wpAnyH_take (i := 4) (v := undef) rfl (by kernel_rfl) (by kernel_rfl) (by kernel_rfl) (fun _ _ _ h => h) (Or.inr ⟨by kernel_rfl, rfl⟩) hHeld ?_
    refine wpAnyH_take (i := 5) (v := undef) rfl (by kernel_rfl) (by kernel_rfl) (by kernel_rfl) (fun _ _ _ h => h) (Or.inr ⟨by kernel_rfl, rfl⟩) hHeld ?_
    refine wpAnyH_take (i := 6) (v := undef) rfl (by kernel_rfl) (by kernel_rfl) (by kernel_rfl) (fun _ _ _ h => h) (Or.inr ⟨by kernel_rfl, rfl⟩) hHeld ?_
    refine wpAnyH_take (i := 7) (v := undef) rfl (by kernel_rfl) (by kernel_rfl) (by kernel_rfl) (fun _ _ _ h => h) (Or.inr ⟨by kernel_rfl, rfl⟩) hHeld ?_
    refine wpAnyH_take (i := 8) (v := undef) rfl (by kernel_rfl) (by kernel_rfl) (by kernel_rfl) (fun _ _ _ h => h) (Or.inr ⟨by kernel_rfl, rfl⟩) hHeld ?_
    refine wpAnyH_take (i := 9) (v := undef) rfl (by kernel_rfl) (by kernel_rfl) (by kernel_rfl) (fun _ _ _ h => h) (Or.inr ⟨by kernel_rfl, rfl⟩) hHeld ?_
    refine wpAnyH_take (i := 10) (v := undef) rfl (by kernel_rfl) (by kernel_rfl) (by kernel_rfl) (fun _ _ _ h => h) (Or.inr ⟨by kernel_rfl, rfl⟩) hHeld ?_
    refine wpAnyH_take (i := 11) (v := undef) rfl (by kernel_rfl) (by kernel_rfl) (by kernel_rfl) (fun _ _ _ h => h) (Or.inr ⟨by kernel_rfl, rfl⟩) hHeld ?_
    refine wpAnyH_take (i := 12) (v := undef) rfl (by kernel_rfl) (by kernel_rfl) (by kernel_rfl) (fun _ _ _ h => h) (Or.inr ⟨by kernel_rfl, rfl⟩) hHeld ?_
    refine wpAnyH_take (i := 13) (v := undef) rfl (by kernel_rfl) (by kernel_rfl) (by kernel_rfl) (fun _ _ _ h => h) (Or.inr ⟨by kernel_rfl, rfl⟩) hHeld ?_
    refine wpAnyH_take (i := 14) (v := undef) rfl (by kernel_rfl) (by kernel_rfl) (by kernel_rfl) (fun _ _ _ h => h) (Or.inr ⟨by kernel_rfl, rfl⟩) hHeld ?_
    refine wpAnyH_take (i := 15) (v := undef) rfl (by kernel_rfl) (by kernel_rfl) (by kernel_rfl) (fun _ _ _ h => h) (Or.inr ⟨by kernel_rfl, rfl⟩) hHeld ?_
    refine wpAnyH_take (i := 16) (v := .bool false) rfl (by kernel_rfl) (by kernel_rfl) (by kernel_rfl) (fun _ _ _ h => h) (Or.inl ⟨by kernel_rfl, fun W hS => by go_simp⟩) hHeld ?_
    refine wpAnyH_take (i := 17) (v := .bool false) rfl (by kernel_rfl) (by kernel_rfl) (by kernel_rfl) (fun _ _ _ h => h) (Or.inl ⟨by kernel_rfl, fun W hS => by go_simp⟩) hHeld ?_
    refine wpAnyH_done (by kernel_rfl) ?_ _
    simp only [Act.put, List.getElem_toArray, List.getElem_cons_zero, List.getElem_cons_succ, List.setIfInBounds_toArray, List.set_cons_zero, List.set_cons_succ]
    clear KS hHeld hT1
    go_wp2
    go_ret
    exact ⟨rfl, hF⟩
end Go.Proofs.Ytecononlghjepav

/- Keys of a tree by the given model: a signature's text, over the loaded program. -/
namespace Go.Proofs.Ytecononlghjepav
open Go.RowKit
end Go.Proofs.Ytecononlghjepav

/- Keys of a tree by the given model: a signature that is read, over the loaded program. -/
namespace Go.Proofs.Ytecononlghjepav
open Go.RowKit
theorem cut16 (T : ByteArray) (i j : Nat) (w : World) (h1 : i ≤ j) (h2 : j ≤ T.size) : (Instr.slice 9 (.string T) (some (.int .i64 (i : Int))) (some (.int .i64 (j : Int))) none).run Try.prog w = .ok (.string (T.extract i j)) w := by
  rw [run_slice_string_if w 9 T .i64 .i64 (i : Int) (j : Int) Try.underlying9, if_pos (by omega), if_pos (by omega)]
  rfl
/-- The texts of the first k parts, and of those behind the tenth. -/
def onK (F : Nat → ByteArray) (k : Nat) : List ByteArray := (List.range (min k 10)).map F
def ptK (F : Nat → ByteArray) (k : Nat) : List ByteArray := (List.range (k - 10)).map fun i => F (10 + i)
theorem onK_succ (F : Nat → ByteArray) (k : Nat) (h : k < 10) : onK F (k + 1) = onK F k ++ [F k] := by
  unfold onK
  rw [Nat.min_eq_left (by omega), Nat.min_eq_left (by omega), List.range_succ, List.map_append]
  rfl
theorem onK_ten (F : Nat → ByteArray) (k : Nat) (h : 10 ≤ k) : onK F k = onK F 10 := by unfold onK; rw [Nat.min_eq_right h]; rfl
theorem onK_len (F : Nat → ByteArray) (k : Nat) : (onK F k).length ≤ 10 := by unfold onK; rw [List.length_map, List.length_range]; exact Nat.min_le_right _ _
theorem ptK_len (F : Nat → ByteArray) (k : Nat) (h : k ≤ 12) : (ptK F k).length ≤ 2 := by unfold ptK; rw [List.length_map, List.length_range]; omega
theorem ptK_succ (F : Nat → ByteArray) (k : Nat) (h : 10 ≤ k) : ptK F (k + 1) = ptK F k ++ [F k] := by
  unfold ptK
  rw [show k + 1 - 10 = (k - 10) + 1 by omega, List.range_succ, List.map_append]
  show _ ++ [F (10 + (k - 10))] = _
  rw [show 10 + (k - 10) = k by omega]
theorem ptK_low (F : Nat → ByteArray) (k : Nat) (h : k ≤ 10) : ptK F k = [] := by unfold ptK; rw [show k - 10 = 0 by omega]; rfl
end Go.Proofs.Ytecononlghjepav

/- The laws FnExactSignAt, FnExactReadSig, walked over the loaded program; what the project's functions answer are premises. -/
namespace Go.Proofs.Ytecononlghjepav
open Go.RowKit
theorem MkSg.low {w w' : World} {base B : Nat} {v : Value} {s : Sg} (h : MkSg w base v s) (hb : Below B w w') (hB : w.heap.size ≤ B) : MkSg w' base v s := h.below (hb.mono hB)
theorem OwnSg.belowAt {w w' : World} {base B : Nat} {v : Value} {s : Sg} (h : OwnSg w base v s) (hb : Below B w w') (hB : w.heap.size ≤ B) : OwnSg w' base v s := h.below (hb.mono hB)
set_option maxRecDepth 20000 in
set_option maxHeartbeats 1600000 in
theorem lawSignAt_any (s m : ByteArray) (leaf : Int) (CI : s.size ≤ 1048576 → m.size ≤ 1048576 → ∀ W : World, Calls Try.prog 21 #[.string s, .int .i64 leaf, .string m] W fun e w' => (∃ v, e = .returned (.tuple #[v, .bool (decide (0 ≤ leaf ∧ leaf ≤ 3))]) ∧ OwnSg w' W.heap.size v (sgnS s leaf m)) ∧ Below W.heap.size W w') (w : World) :
    Calls Try.prog 6 #[.string s, .int .i64 leaf, .string m] w fun x w' => x = .returned (.bool true) ∧ Below w.heap.size w w' := by
  by_cases h1 : (1048576 : Int) < (s.size : Int)
  · go_enter Try.func6, Try.ntmps6
    go_wp2
    go_ret
    exact ⟨rfl, Below.refl _ _⟩
  by_cases h2 : (1048576 : Int) < (m.size : Int)
  · go_enter Try.func6, Try.ntmps6
    go_wp2
    go_ret
    exact ⟨rfl, Below.refl _ _⟩
  have CS := hide (fun W => specSignAt_any s leaf m (by omega) (by omega) W)
  replace CI := hide (CI (by omega) (by omega))
  have hl1 : (sgnS s leaf m).once.length ≤ 10 := by
    unfold sgnS
    split
    · exact Nat.le_of_eq (onceS_len _ _ _ (keysO_len _ _))
    · exact Nat.zero_le _
  have hl2 : (sgnS s leaf m).path.length ≤ 2 := by
    unfold sgnS
    split
    next h => exact Nat.le_of_eq (pathL_len _ _ (lvsO_len _) h)
    · exact Nat.zero_le _
  generalize (sgnS s leaf m) = S at *
  generalize (decide (0 ≤ leaf ∧ leaf ≤ 3)) = ok at *
  have CE := hide (fun (W : World) (v u : Value) (hv : RdSg W v S) (hu : RdSg W u S) => eqSig_any S v u W hv hu (by omega) (by omega))
  obtain ⟨M, hM⟩ : ∃ M, M = 1 + S.once.length + S.path.length := ⟨_, rfl⟩
  have CM := hide (fun (W W0 : World) (base : Nat) (v : Value) (ho : OwnSg W base v S) (hb : Below base W0 W) (hbw : base ≤ W.heap.size) => markSig_any S v base M W W0 hM ho hb hbw (by omega) (by omega))
  have CH := hide (fun (W : World) (base : Nat) (v : Value) (ho : MkSg W base v S) => heldSig_any S v base M W hM ho (by omega) (by omega))
  have hM0 : ¬ (M : Int) < 0 := by omega
  replace hM := hide hM; replace hl1 := hide hl1; replace hl2 := hide hl2
  go_enter Try.func6, Try.ntmps6
  go_wp2_with fail
  refine (unhide CS w).mono ?_
  rintro e w1 ⟨⟨v0, rfl, o0⟩, hb0⟩
  obtain ⟨a1, n1, c1, a2, n2, c2, rfl⟩ := o0.open
  replace o0 := hide o0
  clear CS
  go_wp2_with fail
  obtain ⟨W1, hW, P7, hB1, hs1⟩ := one_cb w1 #[.int .i64 S.leaf, .slice a1 n1 c1, .slice a2 n2 c2] 33
  rw [hW]
  clear hW
  have o0' := hide ((unhide o0).below hB1)
  have o0w := hide (unhide o0')
  have T1 := hb0.trans (hB1.mono hb0.size)
  clear o0 hb0 hB1
  refine (unhide CI W1).mono ?_
  rintro e w2 ⟨⟨v9, rfl, o9⟩, hb2⟩
  obtain ⟨a3, n3, c3, a4, n4, c4, rfl⟩ := o9.open
  have P7' := P7.step hb2
  have q0 := hide ((unhide o0').below hb2)
  replace o9 := hide o9
  have p0 := P7'.cell 0 (v := .int .i64 S.leaf) rfl
  have p1 := P7'.cell 1 (v := .slice a1 n1 c1) rfl
  have p2 := P7'.cell 2 (v := .slice a2 n2 c2) rfl
  have l7 := P7'.lt
  have hs2 := hb2.size
  have T2 := T1.trans (hb2.mono T1.size)
  clear o0'
  go_wp2_with fail
  obtain ⟨W2, hW, P9, hB2, hs3⟩ := one_cb w2 #[.int .i64 S.leaf, .slice a3 n3 c3, .slice a4 n4 c4] 33
  rw [hW]
  clear hW p0 p1 p2 l7
  have hs4 := hB2.size
  have T3 := T2.trans (hB2.mono T2.size)
  have Q3 := hb2.trans (hB2.mono hs2)
  have r9 := hide ((unhide o9).below hB2)
  have r0 := hide ((unhide q0).below hB2)
  have P7a := P7'.step hB2
  clear o9 q0 hB2 P7 P7' hb2
  refine (unhide CE W2 _ _ (unhide r9).rd (unhide r0).rd).mono ?_
  rintro e w3 ⟨rfl, hb3⟩
  have T4 := T3.trans (hb3.mono T3.size)
  have Q4 := Q3.trans (hb3.mono Q3.size)
  have s9 := hide ((unhide r9).below hb3)
  have s0 := hide ((unhide r0).below hb3)
  have P7b := P7a.step hb3
  have P9b := P9.step hb3
  have p0 := P9b.cell 0 (v := .int .i64 S.leaf) rfl
  have p1 := P9b.cell 1 (v := .slice a3 n3 c3) rfl
  have p2 := P9b.cell 2 (v := .slice a4 n4 c4) rfl
  have hs5 := Q4.size
  clear r9 r0 P7a P9 hb3 T3 Q3
  go_wp2_with fail
  refine (unhide CM w3 W1 W1.heap.size _ (unhide s9) Q4 hs5).mono ?_
  rintro e w4 ⟨rfl, mk4, Q5, KC⟩
  have P7c := KC _ _ _ P7b (by decide)
  have P9c := KC _ _ _ P9b (by decide)
  have T5 := T1.trans (Q5.mono T1.size)
  have x0 := hide (((unhide o0w).belowAt Q5 (Nat.le_refl _)))
  replace mk4 := hide mk4
  have p0 := P9c.cell 0 (v := .int .i64 S.leaf) rfl
  have p1 := P9c.cell 1 (v := .slice a3 n3 c3) rfl
  have p2 := P9c.cell 2 (v := .slice a4 n4 c4) rfl
  clear KC P7b P9b Q4 T4 s9 s0 CM
  go_wp2_with fail
  refine (unhide CH w4 _ _ (unhide mk4)).mono ?_
  rintro e w5 ⟨rfl, hb5⟩
  have T6 := T5.trans (hb5.mono T5.size)
  have mk5 := hide ((unhide mk4).below hb5)
  have y0 := hide ((unhide x0).below hb5)
  have P7d := P7c.step hb5
  have P9d := P9c.step hb5
  clear hb5 mk4 x0 P7c P9c T5 Q5 p0 p1 p2
  go_wp2_with fail
  refine (unhide CI w5).mono ?_
  rintro e w6 ⟨⟨v13, rfl, o13⟩, hb6⟩
  obtain ⟨a5, n5, c5, a6, n6, c6, rfl⟩ := o13.open
  have T7 := T6.trans (hb6.mono T6.size)
  have mk6 := hide ((unhide mk5).below hb6)
  have z0 := hide ((unhide y0).below hb6)
  have P7e := P7d.step hb6
  have P9e := P9d.step hb6
  have p0 := P7e.cell 0 (v := .int .i64 S.leaf) rfl
  have p1 := P7e.cell 1 (v := .slice a1 n1 c1) rfl
  have p2 := P7e.cell 2 (v := .slice a2 n2 c2) rfl
  have l7 := P7e.lt
  replace o13 := hide o13
  clear hb6 mk5 y0 P7d P9d T6 CI
  go_wp2_with fail
  obtain ⟨W6, hW, P13, hB6, hs6⟩ := one_cb w6 #[.int .i64 S.leaf, .slice a5 n5 c5, .slice a6 n6 c6] 33
  rw [hW]
  clear hW p0 p1 p2 l7
  have T8 := T7.trans (hB6.mono T7.size)
  have u13 := hide ((unhide o13).below hB6)
  have u0 := hide ((unhide z0).below hB6)
  have mk7 := hide ((unhide mk6).below hB6)
  have P9f := P9e.step hB6
  clear o13 z0 mk6 P9e P7e hB6 T7
  refine (unhide CE W6 _ _ (unhide u13).rd (unhide u0).rd).mono ?_
  rintro e w7 ⟨rfl, hb7⟩
  have T9 := T8.trans (hb7.mono T8.size)
  have mk8 := hide ((unhide mk7).below hb7)
  have P9g := P9f.step hb7
  have p0 := P9g.cell 0 (v := .int .i64 S.leaf) rfl
  have p1 := P9g.cell 1 (v := .slice a3 n3 c3) rfl
  have p2 := P9g.cell 2 (v := .slice a4 n4 c4) rfl
  clear hb7 mk7 P9f P13 T8 u13 u0 CE
  go_wp2_with fail
  refine (unhide CH w7 _ _ (unhide mk8)).mono ?_
  rintro e w8 ⟨rfl, hb8⟩
  have TF := T9.trans (hb8.mono T9.size)
  clear hb8 mk8 P9g T9 CH p0 p1 p2
  go_wp2
  go_ret
  exact ⟨rfl, TF⟩

end Go.Proofs.Ytecononlghjepav

