/- Merged: Tre1, Tre2, TrI1, TrI2, TrI3, TrI4, TrI5. -/
import Derived.Test.YtjgnjjphankhnabGreatMga1
import Derived.Test.YtjgnjjphankhnabGreatMga2
import Derived.Test.YtjgnjjphankhnabGreatMga3
import Derived.Test.YtjgnjjphankhnabGreatMga4
import Derived.Test.YtjgnjjphankhnabGreatMga5
import Derived.Test.YtjgnjjphankhnabGreatMga6
import Derived.Test.YtjgnjjphankhnabGreatMga7
import Derived.Deep.RegionHeld3
/- Trees by the given model: nodes and levels, over the loaded program. -/
namespace Go.Proofs.YtjgnjjphankhnabGreat
open Go.RowKit
theorem bAt_getT (l : List ByteArray) (k : Nat) (h : k < l.length) : (l.map sv)[k]? = some (.string (bAt l k)) := by
  rw [sv_get l k h]
  unfold bAt
  rw [List.getD_eq_getElem?_getD, List.getElem?_eq_getElem h]
  rfl
theorem bAt_sizeT (l : List ByteArray) (k n : Nat) (hn : ∀ x ∈ l, x.size ≤ n) : (bAt l k).size ≤ n := by
  unfold bAt
  rw [List.getD_eq_getElem?_getD]
  cases h : l[k]? with
  | none => exact Nat.zero_le _
  | some x => exact hn x (List.mem_of_getElem? h)
def preT (f : Nat → ByteArray) (k : Nat) : List ByteArray := (List.range k).map f
theorem preT_len (f : Nat → ByteArray) (k : Nat) : (preT f k).length = k := by unfold preT; rw [List.length_map, List.length_range]
theorem preT_succ (f : Nat → ByteArray) (k : Nat) : preT f (k + 1) = preT f k ++ [f k] := by unfold preT; rw [List.range_succ, List.map_append]; rfl
set_option maxRecDepth 20000 in
set_option maxHeartbeats 800000 in
theorem specNode_any (level place : Int) (a b : ByteArray) (ha : a.size ≤ 1048576) (hb : b.size ≤ 1048576) (w : World) :
    Calls Tryz.prog 47 #[.int .i64 level, .int .i64 place, .string a, .string b] w fun e w' => e = .returned (.string (nodeB level place a b)) ∧ Below w.heap.size w w' := by
  have CB := hide (fun z W => specByteY_any z W)
  have CC := hide (fun W => specChop_any (oneY level ++ oneY place ++ a ++ b ++ ⟨#[110]⟩) (by rw [ByteArray.size_append, ByteArray.size_append, ByteArray.size_append, ByteArray.size_append, oneY_size, oneY_size]; show 1 + 1 + a.size + b.size + 1 ≤ _; omega) W)
  have HN := hide (show chopB (oneY level ++ oneY place ++ a ++ b ++ ⟨#[110]⟩) = nodeB level place a b from rfl)
  rw [unhide HN] at CC
  have za := oneY_size level
  have zb := oneY_size place
  have c1 := hide (unhide CB level)
  have c2 := hide (unhide CB place)
  generalize nodeB level place a b = R at *
  generalize oneY level = ya at *
  generalize oneY place = yb at *
  have za' : ya.size ≤ 1 := by omega
  have zb' : yb.size ≤ 1 := by omega
  replace za := hide za; replace zb := hide zb
  clear CB HN
  go_enter Tryz.func47, Tryz.ntmps47
  go_wp2_with fail
  refine (unhide c1 w).mono ?_
  rintro e w1 ⟨rfl, hb1⟩
  go_wp2_with fail
  refine (unhide c2 w1).mono ?_
  rintro e w2 ⟨rfl, hb2⟩
  have hB2 := hb1.trans (hb2.mono hb1.size)
  go_wp2_with fail
  refine (unhide CC w2).mono ?_
  rintro e w3 ⟨rfl, hb3⟩
  have hB3 := hB2.trans (hb3.mono hB2.size)
  go_wp2
  go_ret
  exact ⟨rfl, hB3⟩
set_option maxRecDepth 20000 in
set_option maxHeartbeats 800000 in
theorem specLevelUp_any (level : Int) (l : List ByteArray) (v : Value) (w : World) (hr : RdV w v (l.map sv)) (hl : ∀ x ∈ l, x.size ≤ 1048576) (hn : l.length ≤ 1048576) :
    Calls Tryz.prog 34 #[.int .i64 level, v] w fun e w' => (∃ v', e = .returned v' ∧ OwnV w' w.heap.size 9 v' ((lvL level l).map sv)) ∧ Below w.heap.size w w' := by
  obtain ⟨i0, hi, hz0, hz1, hz2⟩ := info_parts infoTxt
  obtain ⟨a, c, rfl, hc⟩ := hr.open
  rw [List.length_map]
  clear hr
  obtain ⟨n, hnn⟩ : ∃ n, l.length = n := ⟨_, rfl⟩
  obtain ⟨h, hh⟩ : ∃ h, h = n / 2 := ⟨_, rfl⟩
  have EL := hide (show lvL level l = preT (lvN level l) h by rw [hh, ← hnn]; rfl)
  rw [unhide EL]
  have CN := hide (show ∀ (k : Nat) W, Calls Tryz.prog 47 #[.int .i64 level, .int .i64 (k : Int), .string (bAt l (2 * k)), .string (bAt l (2 * k + 1))] W fun e w' => e = .returned (.string (lvN level l k)) ∧ Below W.heap.size W w' from fun k W => specNode_any level (k : Int) _ _ (bAt_sizeT l _ _ hl) (bAt_sizeT l _ _ hl) W)
  have HC := hide (fun k (hk : k < n) => hc k _ (bAt_getT l k (by rw [hnn]; exact hk)))
  rw [hnn] at hn ⊢
  generalize lvN level l = F at *
  replace hnn := hide hnn
  have hh2 := hide (show 2 * h ≤ n ∧ n ≤ 2 * h + 1 by omega)
  have hhb : h ≤ 1048576 := by omega
  replace hh := hide hh
  clear EL hc
  have ho0 : OwnV (w.alloc (.cells #[] 9)) w.heap.size 9 (.slice (some ⟨w.heap.size, 0, none⟩) 0 0) ((preT F 0).map sv) := World.ownsRow_made w #[] 0 (Nat.le_refl _) (by decide) (by simp)
  replace ho0 := hide ho0
  have hb0 := (Below.refl w.heap.size w).alloc (Nat.le_refl _) (.cells #[] 9)
  go_enter Tryz.func34, Tryz.ntmps34
  go_wp2
  go_loopw [5, 6] (fun tv ti wr => ∃ k : Nat, k ≤ h ∧ ti = .int .i64 (k : Int) ∧ Hid (OwnV wr w.heap.size 9 tv ((preT F k).map sv)) ∧ Below w.heap.size w wr) (fun _ ti _ => h - (intOf ti).toNat)
  case atStart => exact ⟨0, by omega, rfl, ho0, hb0⟩
  case round =>
    clear ho0 hb0
    obtain ⟨k, hk, rfl, HO, hB⟩ := hrel
    have hkb : k ≤ 1048576 := by omega
    have hsz := hB.size
    by_cases hlt : k < h
    · obtain ⟨p, hp⟩ : ∃ p, p = 2 * k := ⟨_, rfl⟩
      obtain ⟨q, hq⟩ : ∃ q, q = 2 * k + 1 := ⟨_, rfl⟩
      have hqn : q < n := by have := (unhide hh2).1; omega
      have hk' : (q : Int) < (n : Int) := by omega
      have hk2 : (p : Int) < (n : Int) := by omega
      have hk0 : (0 : Int) ≤ (p : Int) := by omega
      have hk1 : (0 : Int) ≤ (q : Int) := by omega
      have e1 : 2 * (k : Int) = (p : Int) := by omega
      have e2 : (p : Int) + 1 = (q : Int) := by omega
      have w1 : IntKind.i64.wrap (2 * (k : Int)) = (p : Int) := by rw [IntKind.wrap_i64]; omega
      have w2 : IntKind.i64.wrap ((p : Int) + 1) = (q : Int) := by rw [IntKind.wrap_i64]; omega
      have w3 : IntKind.i64.wrap (p : Int) = (p : Int) := by rw [IntKind.wrap_i64]; omega
      have w4 : IntKind.i64.wrap (q : Int) = (q : Int) := by rw [IntKind.wrap_i64]; omega
      obtain ⟨g, o, rfl, hg, d1⟩ := unhide HC p (by omega)
      obtain ⟨g', o', he, hg', d1'⟩ := unhide HC q (by omega)
      obtain ⟨rfl, rfl, _⟩ := Addr.mk.inj (Option.some.inj he)
      have c0 := hide (unhide CN k)
      rw [← hq, ← hp] at c0
      have KS := hide (fun (W : World) (h : Below w.heap.size w W) => (⟨(h.cell (p := ⟨g, o + p, none⟩) hg).trans d1, (h.cell (p := ⟨g, o + q, none⟩) hg).trans d1'⟩ : W.cell? ⟨g, o + p, none⟩ = some (.string (bAt l p)) ∧ W.cell? ⟨g, o + q, none⟩ = some (.string (bAt l q))))
      obtain ⟨d2, d3⟩ := unhide KS _ hB
      replace hp := hide hp; replace hq := hide hq
      have HP := hide (preT_succ F k)
      have hl1 : ((preT F k).map sv).length + 1 ≤ maxLen := by rw [List.length_map, preT_len]; unfold maxLen; omega
      have hl2 : (((preT F k).map sv).length + 1) * 16 ≤ 140737488355328 := by rw [List.length_map, preT_len]; omega
      generalize bAt l p = xa at *
      generalize bAt l q = xb at *
      generalize F k = fk at *
      replace hl1 := hide hl1; replace hl2 := hide hl2
      clear HC CN d1 d1' he
      go_wp2
      go_region_held3 (fun W => W.cell? ⟨g, o + p, none⟩ = some (.string xa) ∧ W.cell? ⟨g, o + q, none⟩ = some (.string xb)) (first | exact ⟨d2, d3⟩ | exact (unhide KS) _ hB5 | exact (unhide KS) _ hB4 | exact (unhide KS) _ (hB4.alloc hB4.size _) | fail) (first
        | (refine step_append_u (w := w4) (u := .string fk) rfl rfl rfl (.tmp 16) (.tmp 31) 22 rfl w.heap.size w.heap.size i0 (.string ⟨#[]⟩) 16 Tryz.underlying22 hi hz0 hz1 hz2 rfl _ _ rfl (by exact hO4) rfl (unhide hl1) (unhide hl2) (Nat.le_refl _) (by exact hB4.size) hB4 ?_; intro v' w5 hown5 hB5)
        | (go_at_call 47; refine (unhide c0 _).mono ?_; rintro e w4 ⟨rfl, hb4⟩; have hO4 := OwnV.below (w := wr.drew) (unhide HO) hb4; have hB4 := (hB.drew).trans (hb4.mono hB.size)))
      all_goals
        have hown6 := hide (show OwnV w5 w.heap.size 9 v' ((preT F (k + 1)).map sv) by rw [unhide HP, List.map_append]; exact hown5)
        clear hown5 hO4 d2 d3 KS HO
        go_wp2
        exact ⟨⟨k + 1, by omega, by go_num, hown6, hB5⟩, by simp [intOf]; omega⟩
    · have hk' : ¬ 2 * (k : Int) + 1 < (n : Int) := by have := unhide hh2; omega
      obtain rfl : k = h := by omega
      clear HC
      go_wp2
      go_ret
      exact ⟨⟨_, rfl, unhide HO⟩, hB⟩
end Go.Proofs.YtjgnjjphankhnabGreat

/- Trees by the given model: roots and paths, over the loaded program. -/
namespace Go.Proofs.YtjgnjjphankhnabGreat
open Go.RowKit
theorem OwnV.loW {w : World} {base : Nat} {e : TypeId} {v : Value} {xs : List Value} (h : OwnV w base e v xs) : ∀ k, v.ownBlock = some k → base ≤ k ∧ k < w.heap.size := fun k hk => World.ownsRow.lt h k hk
theorem RdV.loW {w : World} {v : Value} {xs : List Value} (h : RdV w v xs) (hn : 0 < xs.length) : ∀ k, v.ownBlock = some k → k < w.heap.size := by
  intro k hk
  rcases h with ⟨_, _, _, h⟩ | ⟨g, o, c, rfl, _, hg, _⟩
  · rw [h] at hn; exact absurd hn (Nat.lt_irrefl _)
  · have : g = k := Option.some.inj hk
    omega
theorem lvs_len2 (l : List ByteArray) (hl : l.length = 4) (k : Nat) (hk : k ≤ 2) : (k = 0 ∧ (lvs l k).length = 4) ∨ (k = 1 ∧ (lvs l k).length = 2) ∨ (k = 2 ∧ (lvs l k).length = 1) := by
  have h := lvs_len l hl k
  rcases show k = 0 ∨ k = 1 ∨ k = 2 by omega with rfl | rfl | rfl
  · exact .inl ⟨rfl, h⟩
  · exact .inr (.inl ⟨rfl, h⟩)
  · exact .inr (.inr ⟨rfl, h⟩)
theorem levelUp_lvs (l : List ByteArray) (hl : l.length = 4) (hs : ∀ x ∈ l, x.size ≤ 1048576) (k : Nat) (hk : k < 2) (W : World) (v : Value) (hr : RdV W v ((lvs l k).map sv)) :
    Calls Tryz.prog 34 #[.int .i64 ((k + 1 : Nat) : Int), v] W fun e w' => (∃ v', e = .returned v' ∧ OwnV w' W.heap.size 9 v' ((lvs l (k + 1)).map sv)) ∧ Below W.heap.size W w' := by
  have h := specLevelUp_any ((k + 1 : Nat) : Int) (lvs l k) v W hr (lvs_size l _ (by omega) hs k) (by rcases lvs_len2 l hl k (by omega) with ⟨_, h⟩ | ⟨_, h⟩ | ⟨_, h⟩ <;> omega)
  exact h
set_option maxRecDepth 20000 in
set_option maxHeartbeats 800000 in
theorem specRootOf_any (l : List ByteArray) (v : Value) (w : World) (hr : RdV w v (l.map sv)) (hs : ∀ x ∈ l, x.size ≤ 1048576) :
    Calls Tryz.prog 20 #[v] w fun e w' => e = .returned (.string (rootB l)) ∧ Below w.heap.size w w' := by
  obtain ⟨a, c, rfl, -⟩ := hr.open
  rw [List.length_map] at hr ⊢
  by_cases h4 : l.length = 4
  · have ER := hide (show rootB l = bAt (lvs l 2) 0 by unfold rootB; rw [if_pos h4])
    rw [unhide ER]
    have CL := hide (fun k hk W v hr => levelUp_lvs l h4 hs k hk W v hr)
    have HR := hide (show RdV w (.slice a l.length c) ((lvs l 0).map sv) from hr)
    have hl2 : (lvs l 2).length = 1 := lvs_len l h4 2
    have HE := hide (show ∀ W u, RdV W u ((lvs l 2).map sv) → ∃ g o c, u = .slice (some ⟨g, o, none⟩) 1 c ∧ W.cell? ⟨g, o, none⟩ = some (.string (bAt (lvs l 2) 0)) from fun W u h => by
      obtain ⟨a, c, rfl, hc⟩ := h.open
      rw [List.length_map, hl2]
      obtain ⟨g, o, rfl, _, d⟩ := hc 0 _ (bAt_getT (lvs l 2) 0 (by omega))
      exact ⟨g, o, c, rfl, d⟩)
    rw [h4] at HR ⊢
    generalize bAt (lvs l 2) 0 = R at *
    clear hr ER
    replace h4 := hide h4; replace hl2 := hide hl2
    go_enter Tryz.func20, Tryz.ntmps20
    go_wp2
    go_loopw [0, 3] (fun tl ti wr => ∃ k : Nat, k ≤ 2 ∧ ti = .int .i64 ((k + 1 : Nat) : Int) ∧ Hid (RdV wr tl ((lvs l k).map sv)) ∧ Below w.heap.size w wr) (fun _ ti _ => 5 - (intOf ti).toNat)
    case atStart => exact ⟨0, by omega, rfl, HR, Below.refl _ _⟩
    case round =>
      clear HR
      obtain ⟨k, hk, rfl, HR, hB⟩ := hrel
      by_cases hlt : k < 2
      · have hk' : ((k + 1 : Nat) : Int) ≤ 2 := by omega
        have c1 := hide (unhide CL k hlt wr u0 (unhide HR))
        clear HR CL HE
        go_wp2_with fail
        refine (unhide c1).mono ?_
        rintro e w1 ⟨⟨v', rfl, ho⟩, hb1⟩
        have hB1 := hB.trans (hb1.mono hB.size)
        have HR1 := hide ho.rdv
        clear hb1 hB ho c1
        go_wp2
        exact ⟨⟨k + 1, by omega, by go_num, HR1, hB1⟩, by simp [intOf]; omega⟩
      · have hk' : ¬ ((k + 1 : Nat) : Int) ≤ 2 := by omega
        obtain rfl : k = 2 := by omega
        obtain ⟨g, o, c', rfl, d⟩ := unhide HE wr _ (unhide HR)
        clear HR CL HE
        go_wp2
        go_ret
        exact ⟨rfl, hB⟩
  · have ER := hide (show rootB l = ⟨#[]⟩ by unfold rootB; rw [if_neg h4])
    rw [unhide ER]
    have h4' : ¬ (l.length : Int) = 4 := by omega
    clear hr
    go_enter Tryz.func20, Tryz.ntmps20
    go_wp2
    go_ret
    exact ⟨rfl, Below.refl _ _⟩
theorem sib_lt (l : List ByteArray) (hl : l.length = 4) (leaf k : Nat) (h : leaf < 4) (hk : k < 2) : sibN (leaf / 2 ^ k) < (lvs l k).length ∧ leaf / 2 ^ k < 4 := by
  unfold sibN
  rcases lvs_len2 l hl k (by omega) with ⟨rfl, e⟩ | ⟨rfl, e⟩ | ⟨rfl, e⟩
  · rw [e, Nat.pow_zero, Nat.div_one]
    split <;> omega
  · rw [e, Nat.pow_one]
    split <;> omega
  · omega
set_option maxRecDepth 20000 in
set_option maxHeartbeats 800000 in
theorem specPathOf_any (l : List ByteArray) (leaf : Int) (v : Value) (w : World) (hr : RdV w v (l.map sv)) (hs : ∀ x ∈ l, x.size ≤ 1048576) :
    Calls Tryz.prog 24 #[v, .int .i64 leaf] w fun e w' => (∃ v', e = .returned v' ∧ OwnV w' w.heap.size 9 v' ((pathL l leaf).map sv)) ∧ Below w.heap.size w w' := by
  obtain ⟨i0, hi, hz0, hz1, hz2⟩ := info_parts infoTxt
  have C1 := hide (fun W => inb9 leaf 0 3 W)
  have hbv : ∀ k, v.ownBlock = some k → 0 < (l.map sv).length → k < w.heap.size := fun k hk hn => hr.loW hn k hk
  obtain ⟨a, c, rfl, -⟩ := hr.open
  rw [List.length_map] at hr hbv ⊢
  have hb0 := (Below.refl w.heap.size w).alloc (Nat.le_refl _) (.cells #[] 9)
  have hn0 : OwnV (w.alloc (.cells #[] 9)) w.heap.size 9 (.slice (some ⟨w.heap.size, 0, none⟩) 0 0) (([] : List ByteArray).map sv) := World.ownsRow_made w #[] 0 (Nat.le_refl _) (by decide) (by simp)
  by_cases h4 : l.length = 4
  · by_cases hlf : 0 ≤ leaf ∧ leaf ≤ 3
    · rw [decide_eq_true hlf] at C1
      obtain ⟨m, rfl⟩ : ∃ m : Nat, leaf = (m : Int) := ⟨leaf.toNat, by omega⟩
      have hm : m < 4 := by omega
      have EP := hide (show pathL l (m : Int) = preT (pthN l m) 2 by unfold pathL; rw [if_pos ⟨h4, hlf⟩, Int.toNat_natCast]; rfl)
      rw [unhide EP]
      have CL := hide (fun k hk W v hr => levelUp_lvs l h4 hs k hk W v hr)
      have HR := hide (show RdV (w.alloc (.cells #[] 9)) (.slice a l.length c) ((lvs l 0).map sv) from hr.below hb0)
      have HS := hide (fun k hk => sib_lt l h4 m k hm hk)
      have HP := hide (show ∀ k, pthN l m k = bAt (lvs l k) (sibN (m / 2 ^ k)) from fun k => rfl)
      have HBV := hide (show ∀ k, (Value.slice a l.length c).ownBlock = some k → k < w.heap.size from fun k hk => hbv k hk (by omega))
      rw [h4] at HR HBV ⊢
      have ho0 := hide (show OwnV (w.alloc (.cells #[] 9)) w.heap.size 9 (.slice (some ⟨w.heap.size, 0, none⟩) 0 0) ((preT (pthN l m) 0).map sv) from hn0)
      generalize pthN l m = F at *
      clear hr EP hn0 hbv
      replace h4 := hide h4
      go_enter Tryz.func24, Tryz.ntmps24
      go_wp2_with fail
      generalize w.alloc (.cells #[] 9) = w0 at *
      refine (unhide C1 _).mono ?_
      rintro e w1 ⟨rfl, hw1⟩
      have hw1' := hw1.symm
      subst hw1'
      clear hw1
      go_wp2
      go_loopw [0, 1, 5, 6] (fun tl tf tv ti wr => ∃ k y : Nat, k ≤ 2 ∧ ti = .int .i64 ((k + 1 : Nat) : Int) ∧ tf = .int .i64 (y : Int) ∧ Hid (y = m / 2 ^ k) ∧ Hid (RdV wr tl ((lvs l k).map sv)) ∧ Hid (OwnV wr w.heap.size 9 tv ((preT F k).map sv)) ∧ Hid (∀ b, tl.ownBlock = some b → tv.ownBlock ≠ some b) ∧ Below w.heap.size w wr) (fun _ _ _ ti _ => 5 - (intOf ti).toNat)
      case atStart => exact ⟨0, m, by omega, rfl, rfl, hide (by rw [Nat.pow_zero, Nat.div_one]), HR, ho0, hide (fun b hb hv => by have h1 := unhide HBV b hb; have h2 : w.heap.size = b := Option.some.inj hv; omega), hb0⟩
      case round =>
        clear HR ho0 hb0 HBV
        obtain ⟨k, y, hk, rfl, rfl, hy, HR, HO, HA, hB⟩ := hrel
        by_cases hlt : k < 2
        · have hk' : ((k + 1 : Nat) : Int) ≤ 2 := by omega
          obtain ⟨s1, s2⟩ := unhide HS k hlt
          rw [← unhide hy] at s1 s2
          obtain ⟨z, hz⟩ : ∃ z, z = sibN y := ⟨_, rfl⟩
          have hF := hide (show F k = bAt (lvs l k) z by rw [unhide HP k, ← unhide hy, hz])
          rw [← hz] at s1
          obtain ⟨nl, hnl⟩ : ∃ nl, nl = (lvs l k).length := ⟨_, rfl⟩
          have hnb : nl ≤ 4 := by rw [hnl]; rcases lvs_len2 l (unhide h4) k hk with ⟨_, h⟩ | ⟨_, h⟩ | ⟨_, h⟩ <;> omega
          obtain ⟨al, cl, hal, hcl⟩ := (unhide HR).open
          rw [List.length_map, ← hnl] at hal
          rw [← hnl] at s1
          subst hal
          obtain ⟨g, o, rfl, hg, d1⟩ := hcl z _ (bAt_getT (lvs l k) z (by omega))
          rw [← unhide hF] at d1
          have s1' : (z : Int) < (nl : Int) := by omega
          have z0 : (0 : Int) ≤ (z : Int) := by omega
          obtain ⟨y2, hy2⟩ : ∃ y2, y2 = y / 2 := ⟨_, rfl⟩
          have HY := hide (show y2 = m / 2 ^ (k + 1) by rw [hy2, unhide hy, Nat.div_div_eq_div_mul, Nat.pow_succ])
          have v1' : (y : Int) / 2 = (y2 : Int) := by omega
          have v1 : (y : Int).tdiv 2 = (y2 : Int) := by rw [Int.tdiv_eq_ediv_of_nonneg (by omega)]; omega
          have HPS := hide (preT_succ F k)
          have hl1 : ((preT F k).map sv).length + 1 ≤ maxLen := by rw [List.length_map, preT_len]; unfold maxLen; omega
          have hl2 : (((preT F k).map sv).length + 1) * 16 ≤ 140737488355328 := by rw [List.length_map, preT_len]; omega
          have hszB := hB.size
          have c1 := hide (fun W r => unhide CL k hlt W (.slice (some ⟨g, o, none⟩) nl cl) r)
          generalize F k = fk at *
          replace hl1 := hide hl1; replace hl2 := hide hl2; replace hnl := hide hnl; replace hy2 := hide hy2; replace hF := hide hF
          clear hcl CL HS HP
          by_cases hodd : y % 2 = 1
          · have ho1' : (y : Int) % 2 = 1 := by omega
            have ho1 : (y : Int).tmod 2 = 1 := by rw [Int.tmod_eq_emod_of_nonneg (by omega)]; omega
            have hzy : (y : Int) - 1 = (z : Int) := by rw [hz]; unfold sibN; rw [if_pos hodd]; omega
            replace hz := hide hz; replace hodd := hide hodd
            go_wp2_with (at_builtin; refine wpList_append_grow (w := wr) rfl (.tmp 29) (.tmp 34) 22 rfl w.heap.size 9 i0 (.string ⟨#[]⟩) 16 Tryz.underlying22 hi hz0 hz1 hz2 rfl u5 _ (by rfl) (unhide HO) (.string fk) rfl rfl (unhide hl1) (unhide hl2) hszB ?_; intro v' w5 ho5 hg5)
            have hal := (Below.refl wr.heap.size wr).alloc (Nat.le_refl _) (.cells #[.string fk] 9)
            have hr5 := ((unhide HR).below hal).grown hg5 (fun b hb h => unhide HA b hb h)
            have hB5 := (hB.alloc hszB (.cells #[.string fk] 9)).grown hg5 (by simp; omega) (fun b hb => ((unhide HO).loW b hb).1)
            have ho6 := hide (show OwnV w5 w.heap.size 9 v' ((preT F (k + 1)).map sv) by rw [unhide HPS, List.map_append]; exact ho5)
            clear hal hg5 ho5 HR HO HA hB d1
            refine (unhide c1 w5 hr5).mono ?_
            rintro e w6 ⟨⟨vL, rfl, oL⟩, hb6⟩
            have HR6 := hide oL.rdv
            have HO6 := hide ((unhide ho6).below hb6)
            have HA6 := hide (show ∀ b, vL.ownBlock = some b → v'.ownBlock ≠ some b from fun b hb hv => by have h1 := (oL.loW b hb).1; have h2 := ((unhide ho6).loW b hv).2; omega)
            have hB6 := hB5.trans (hb6.mono hB5.size)
            clear oL hb6 hB5 ho6 hr5 c1
            go_wp2
            exact ⟨⟨k + 1, y2, by omega, by go_num, by first | rfl | trivial, HY, HR6, HO6, HA6, hB6⟩, by simp [intOf]; omega⟩
          · have ho1' : (y : Int) % 2 = 0 := by omega
            have ho1 : (y : Int).tmod 2 = 0 := by rw [Int.tmod_eq_emod_of_nonneg (by omega)]; omega
            have hzy : (y : Int) + 1 = (z : Int) := by rw [hz]; unfold sibN; rw [if_neg hodd]; omega
            replace hz := hide hz; replace hodd := hide hodd
            go_wp2_with (at_builtin; refine wpList_append_grow (w := wr) rfl (.tmp 29) (.tmp 34) 22 rfl w.heap.size 9 i0 (.string ⟨#[]⟩) 16 Tryz.underlying22 hi hz0 hz1 hz2 rfl u5 _ (by rfl) (unhide HO) (.string fk) rfl rfl (unhide hl1) (unhide hl2) hszB ?_; intro v' w5 ho5 hg5)
            have hal := (Below.refl wr.heap.size wr).alloc (Nat.le_refl _) (.cells #[.string fk] 9)
            have hr5 := ((unhide HR).below hal).grown hg5 (fun b hb h => unhide HA b hb h)
            have hB5 := (hB.alloc hszB (.cells #[.string fk] 9)).grown hg5 (by simp; omega) (fun b hb => ((unhide HO).loW b hb).1)
            have ho6 := hide (show OwnV w5 w.heap.size 9 v' ((preT F (k + 1)).map sv) by rw [unhide HPS, List.map_append]; exact ho5)
            clear hal hg5 ho5 HR HO HA hB d1
            refine (unhide c1 w5 hr5).mono ?_
            rintro e w6 ⟨⟨vL, rfl, oL⟩, hb6⟩
            have HR6 := hide oL.rdv
            have HO6 := hide ((unhide ho6).below hb6)
            have HA6 := hide (show ∀ b, vL.ownBlock = some b → v'.ownBlock ≠ some b from fun b hb hv => by have h1 := (oL.loW b hb).1; have h2 := ((unhide ho6).loW b hv).2; omega)
            have hB6 := hB5.trans (hb6.mono hB5.size)
            clear oL hb6 hB5 ho6 hr5 c1
            go_wp2
            exact ⟨⟨k + 1, y2, by omega, by go_num, by first | rfl | trivial, HY, HR6, HO6, HA6, hB6⟩, by simp [intOf]; omega⟩
        · have hk' : ¬ ((k + 1 : Nat) : Int) ≤ 2 := by omega
          obtain rfl : k = 2 := by omega
          clear HR CL HS HA
          go_wp2
          go_ret
          exact ⟨⟨_, rfl, unhide HO⟩, hB⟩
    · rw [decide_eq_false hlf] at C1
      have EP := hide (show pathL l leaf = [] by unfold pathL; rw [if_neg (fun h => hlf h.2)])
      rw [unhide EP, h4]
      clear hr hbv
      go_enter Tryz.func24, Tryz.ntmps24
      go_wp2_with fail
      generalize w.alloc (.cells #[] 9) = w0 at *
      refine (unhide C1 _).mono ?_
      rintro e w1 ⟨rfl, hw1⟩
      have hw1' := hw1.symm
      subst hw1'
      clear hw1
      go_wp2
      go_ret
      exact ⟨⟨_, rfl, hn0⟩, hb0⟩
  · have EP := hide (show pathL l leaf = [] by unfold pathL; rw [if_neg (fun h => h4 h.1)])
    rw [unhide EP]
    have h4' : ¬ (l.length : Int) = 4 := by omega
    clear hr hbv
    go_enter Tryz.func24, Tryz.ntmps24
    go_wp2
    go_ret
    exact ⟨⟨_, rfl, hn0⟩, hb0⟩
end Go.Proofs.YtjgnjjphankhnabGreat

/- Trees by the project's own functions: nodes that know who stands beside and above, over the loaded program. -/
namespace Go.Proofs.YtjgnjjphankhnabGreat
open Go.RowKit
theorem chop5_any (a b c d f : ByteArray) (ha : a.size ≤ 1) (hb : b.size ≤ 1) (hc : c.size ≤ 1048576) (hd : d.size ≤ 1048576) (hf : f.size ≤ 1) (w : World) :
    Calls Tryz.prog 62 #[.slice (some ⟨w.heap.size, 0, none⟩) 5 5] (w.alloc (.cells #[.string a, .string b, .string c, .string d, .string f] 9)) fun e w' => e = .returned (.string (chopB (a ++ b ++ c ++ d ++ f))) ∧ Below w.heap.size w w' := by
  have h := chopParts_any w.heap.size 0 5 5 [a, b, c, d, f] rfl (a ++ b ++ c ++ d ++ f) (by simp [ByteArray.data_append, Array.toList_append]) (by rw [ByteArray.size_append, ByteArray.size_append, ByteArray.size_append, ByteArray.size_append]; omega) (w.alloc (.cells #[.string a, .string b, .string c, .string d, .string f] 9)) (row_texts w [a, b, c, d, f] 9) (by simp) (Nat.le_refl _) (by omega)
  refine h.mono ?_
  rintro e w1 ⟨rfl, hb1⟩
  exact ⟨rfl, ((Below.refl w.heap.size w).alloc (Nat.le_refl _) _).trans (hb1.mono (by simp))⟩
set_option maxRecDepth 20000 in
set_option maxHeartbeats 800000 in
theorem implNode_any (level place : Int) (a b : ByteArray) (ha : a.size ≤ 1048576) (hb : b.size ≤ 1048576) (w : World) :
    Calls Tryz.prog 73 #[.int .i64 level, .int .i64 place, .string a, .string b] w fun e w' => e = .returned (.string (nodeB level place a b)) ∧ Below w.heap.size w w' := by
  have c1 := hide (fun W => implByteY_any level W)
  have c2 := hide (fun W => implByteY_any place W)
  have CC := hide (fun W => chop5_any (oneY level) (oneY place) a b ⟨#[110]⟩ (by rw [oneY_size]; omega) (by rw [oneY_size]; omega) ha hb (by show 1 ≤ 1; omega) W)
  have HN := hide (show chopB (oneY level ++ oneY place ++ a ++ b ++ ⟨#[110]⟩) = nodeB level place a b from rfl)
  rw [unhide HN] at CC
  generalize nodeB level place a b = R at *
  generalize oneY level = ya at *
  generalize oneY place = yb at *
  clear HN
  go_enter Tryz.func73, Tryz.ntmps73
  go_wp2_with fail
  refine (unhide c1 w).mono ?_
  rintro e w1 ⟨rfl, hb1⟩
  go_wp2_with fail
  refine (unhide c2 w1).mono ?_
  rintro e w2 ⟨rfl, hb2⟩
  have hB2 := hb1.trans (hb2.mono hb1.size)
  go_wp2_with fail
  refine (unhide CC w2).mono ?_
  rintro e w3 ⟨rfl, hb3⟩
  have hB3 := hB2.trans (hb3.mono hB2.size)
  go_wp2
  go_ret
  exact ⟨rfl, hB3⟩
/-- What a call leaves of the older blocks: all but those in S. -/
def KpS (S : Nat → Prop) (w w' : World) : Prop := w'.os = w.os ∧ w'.tape = w.tape ∧ w'.output = w.output ∧ w.heap.size ≤ w'.heap.size ∧ ∀ k, k < w.heap.size → ¬ S k → w'.heap[k]? = w.heap[k]?
theorem KpS.refl (S : Nat → Prop) (w : World) : KpS S w w := ⟨rfl, rfl, rfl, Nat.le_refl _, fun _ _ _ => rfl⟩
theorem KpS.trans {S : Nat → Prop} {a b c : World} (h : KpS S a b) (k : KpS S b c) : KpS S a c :=
  ⟨k.1.trans h.1, k.2.1.trans h.2.1, k.2.2.1.trans h.2.2.1, Nat.le_trans h.2.2.2.1 k.2.2.2.1, fun i hi hs => (k.2.2.2.2 i (Nat.lt_of_lt_of_le hi h.2.2.2.1) hs).trans (h.2.2.2.2 i hi hs)⟩
theorem KpS.mono {S T : Nat → Prop} {a b : World} (h : KpS S a b) (hst : ∀ k, k < a.heap.size → S k → T k) : KpS T a b :=
  ⟨h.1, h.2.1, h.2.2.1, h.2.2.2.1, fun i hi hs => h.2.2.2.2 i hi fun hS => hs (hst i hi hS)⟩
theorem KpS.trans2 {S T : Nat → Prop} {a b c : World} (h : KpS S a b) (k : KpS T b c) (hst : ∀ i, i < a.heap.size → T i → S i) : KpS S a c :=
  ⟨k.1.trans h.1, k.2.1.trans h.2.1, k.2.2.1.trans h.2.2.1, Nat.le_trans h.2.2.2.1 k.2.2.2.1, fun i hi hs => (k.2.2.2.2 i (Nat.lt_of_lt_of_le hi h.2.2.2.1) fun hT => hs (hst i hi hT)).trans (h.2.2.2.2 i hi hs)⟩
theorem KpS.size {S : Nat → Prop} {a b : World} (h : KpS S a b) : a.heap.size ≤ b.heap.size := h.2.2.2.1
theorem below_kps {a b : World} (h : Below a.heap.size a b) (S : Nat → Prop) : KpS S a b := ⟨h.os, h.tape, h.output, h.size, fun k hk _ => h.block k hk⟩
theorem KpS.set {S : Nat → Prop} {a b : World} (h : KpS S a b) (g o : Nat) (u : Value) (hg : g < a.heap.size → S g) : KpS S a (b.setCell ⟨g, o, none⟩ u) :=
  ⟨h.1, h.2.1, h.2.2.1, by have := h.size; simpa using this, fun k hk hs => (RowKit.Below.heap_setCell _ _ _ _ (fun e => hs (by have e2 : k = g := e; rw [e2]; exact hg (by rw [← e2]; exact hk)))).trans (h.2.2.2.2 k hk hs)⟩
theorem KpS.below {S : Nat → Prop} {a b : World} (h : KpS S a b) (B : Nat) (hB : B ≤ a.heap.size) (hS : ∀ k, k < B → ¬ S k) : Below B a b :=
  ⟨h.1, h.2.1, h.2.2.1, h.size, fun k hk => h.2.2.2.2 k (Nat.lt_of_lt_of_le hk hB) (hS k hk)⟩
theorem CB.kps {w w' : World} {g : Nat} {T : TypeId} {cs : Array Value} {S : Nat → Prop} (h : CB w g T cs) (hb : KpS S w w') (hg : ¬ S g) : CB w' g T cs := by
  unfold CB
  rw [hb.2.2.2.2 g h.lt hg]
  exact h
theorem OwnV.kps {w w' : World} {base : Nat} {e : TypeId} {v : Value} {xs : List Value} {S : Nat → Prop} (h : OwnV w base e v xs) (hb : KpS S w w') (hB : ∀ g, v.ownBlock = some g → ¬ S g) : OwnV w' base e v xs := by
  have hlt := h.lt
  refine ⟨h.1, ?_⟩
  rcases h.2 with hn | ⟨g, cap, cur, rfl, hbg, hgg, rest⟩
  · exact .inl hn
  · refine .inr ⟨g, cap, cur, rfl, hbg, ?_, rest⟩
    rw [hb.2.2.2.2 g (hlt g rfl).2 (hB g rfl)]
    exact hgg
/-- A pointer to a node, and a node's cells. -/
def pv (g : Nat) : Value := .pointer (some ⟨g, 0, none⟩)
def nilP : Value := .pointer none
abbrev tn (s : ByteArray) (b u : Value) : Array Value := #[.string s, b, u]
def gAt (gs : List Nat) (i : Nat) : Nat := gs.getD i 0
theorem gAt_get (gs : List Nat) (i : Nat) (h : i < gs.length) : (gs.map pv)[i]? = some (pv (gAt gs i)) := by
  unfold gAt
  rw [List.getElem?_map, List.getD_eq_getElem?_getD, List.getElem?_eq_getElem h]
  rfl
theorem gAt_mem (gs : List Nat) (i : Nat) (h : i < gs.length) : gAt gs i ∈ gs := by
  unfold gAt
  rw [List.getD_eq_getElem?_getD, List.getElem?_eq_getElem h]
  exact List.getElem_mem h
theorem gAt_of_mem (gs : List Nat) (g : Nat) (h : g ∈ gs) : ∃ i, i < gs.length ∧ gAt gs i = g := by
  obtain ⟨i, hi, e⟩ := List.getElem_of_mem h
  refine ⟨i, hi, ?_⟩
  unfold gAt
  rw [List.getD_eq_getElem?_getD, List.getElem?_eq_getElem hi]
  exact e
theorem gAt_inj (gs : List Nat) (hn : gs.Nodup) (i j : Nat) (hi : i < gs.length) (hj : j < gs.length) (h : gAt gs i = gAt gs j) : i = j := by
  unfold gAt at h
  rw [List.getD_eq_getElem?_getD, List.getElem?_eq_getElem hi, List.getD_eq_getElem?_getD, List.getElem?_eq_getElem hj] at h
  exact (List.getElem_inj hn).1 h
theorem gAt_app_lt (gs : List Nat) (g i : Nat) (h : i < gs.length) : gAt (gs ++ [g]) i = gAt gs i := by
  unfold gAt
  rw [List.getD_eq_getElem?_getD, List.getElem?_append_left h, ← List.getD_eq_getElem?_getD]
theorem gAt_app_new (gs : List Nat) (g : Nat) : gAt (gs ++ [g]) gs.length = g := by
  unfold gAt
  rw [List.getD_eq_getElem?_getD, List.getElem?_append_right (Nat.le_refl _), Nat.sub_self]
  rfl
/-- The row that is filled as far as k. -/
def filG (gs : List Nat) (m : Nat) : List Value := gs.map pv ++ List.replicate (m - gs.length) nilP
theorem filG_len (gs : List Nat) (m : Nat) (h : gs.length ≤ m) : (filG gs m).length = m := by unfold filG; rw [List.length_append, List.length_map, List.length_replicate]; omega
theorem filG_set (gs : List Nat) (m k : Nat) (hk : gs.length = k) (h : k < m) (g : Nat) : (filG gs m).set k (pv g) = filG (gs ++ [g]) m := by
  subst hk
  unfold filG
  rw [List.set_append, if_neg (by rw [List.length_map]; omega), List.length_map, Nat.sub_self, List.map_append, List.length_append, List.append_assoc]
  congr 1
  obtain ⟨r, hr⟩ : ∃ r, m - gs.length = r + 1 := ⟨m - gs.length - 1, by omega⟩
  rw [hr, show m - (gs.length + [g].length) = r by show m - (gs.length + 1) = r; omega, List.replicate_succ, List.set_cons_zero]
  rfl
theorem filG_full (gs : List Nat) (m : Nat) (h : gs.length = m) : filG gs m = gs.map pv := by unfold filG; rw [h, Nat.sub_self, List.replicate_zero, List.append_nil]
theorem madeP (n : Nat) : (madeCells nilP.cells (n * 1)).toList = filG [] n := by
  unfold madeCells filG
  apply List.ext_getElem?
  intro j
  rw [Array.toList_map, Array.toList_range, List.map_nil, List.nil_append, List.getElem?_map, List.getElem?_replicate, Nat.mul_one]
  by_cases hj : j < n
  · rw [List.getElem?_range hj, if_pos (by show j < n - 0; omega)]
    show some ((#[nilP] : Array Value)[j % 1]!) = _
    rw [Nat.mod_one]; rfl
  · rw [List.getElem?_eq_none (by simp; omega), if_neg (by show ¬ j < n - 0; omega)]; rfl
theorem infoPtr : (Tryz.prog.info? 65).map (fun i => (i.zero, i.size, i.bytes)) = some (some (.pointer none), 1, 8) := by kernel_rfl
/-- A row of nodes with these texts, all of the call's own. -/
def Nds (w : World) (base : Nat) (v : Value) (gs : List Nat) (l : List ByteArray) : Prop :=
  OwnV w base 65 v (gs.map pv) ∧ gs.length = l.length ∧ gs.Nodup ∧ ∀ i, i < l.length → base ≤ gAt gs i ∧ ∃ b u, CB w (gAt gs i) 67 (tn (bAt l i) b u)
theorem Nds.low {w : World} {base base' : Nat} {v : Value} {gs : List Nat} {l : List ByteArray} (h : Nds w base v gs l) (hb : base' ≤ base) : Nds w base' v gs l :=
  ⟨h.1.low hb, h.2.1, h.2.2.1, fun i hi => ⟨Nat.le_trans hb (h.2.2.2 i hi).1, (h.2.2.2 i hi).2⟩⟩
theorem Nds.mem {w : World} {base : Nat} {v : Value} {gs : List Nat} {l : List ByteArray} (h : Nds w base v gs l) (g : Nat) (hg : g ∈ gs) : base ≤ g ∧ g < w.heap.size := by
  obtain ⟨i, hi, rfl⟩ := gAt_of_mem gs g hg
  obtain ⟨h1, b, u, h2⟩ := h.2.2.2 i (by rw [← h.2.1]; exact hi)
  exact ⟨h1, h2.lt⟩
theorem Nds.off {w : World} {base : Nat} {v : Value} {gs : List Nat} {l : List ByteArray} (h : Nds w base v gs l) (g : Nat) (hg : g ∈ gs) : v.ownBlock ≠ some g := by
  obtain ⟨i, hi, rfl⟩ := gAt_of_mem gs g hg
  obtain ⟨h1, b, u, h2⟩ := h.2.2.2 i (by rw [← h.2.1]; exact hi)
  exact h2.off h.1 (by decide)
end Go.Proofs.YtjgnjjphankhnabGreat

/- Trees by the project's own functions: two nodes joined, rows of nodes, over the loaded program. -/
namespace Go.Proofs.YtjgnjjphankhnabGreat
open Go.RowKit
theorem tn_up (s : ByteArray) (b u x : Value) : (tn s b u).setIfInBounds 2 x = tn s b x := by rfl
theorem tn_beside (s : ByteArray) (b u x : Value) : (tn s b u).setIfInBounds 1 x = tn s x u := by rfl
/-- What is left behind two nodes that were joined. -/
def JPost (w w' : World) (gl gr : Nat) (a b q : ByteArray) (g : Nat) : Prop :=
  w.heap.size ≤ g ∧ CB w' g 67 (tn q nilP nilP) ∧ CB w' gl 67 (tn a (pv gr) (pv g)) ∧ CB w' gr 67 (tn b (pv gl) (pv g)) ∧ KpS (fun k => k = gl ∨ k = gr) w w'
set_option maxRecDepth 20000 in
set_option maxHeartbeats 1000000 in
theorem joined_any (level place : Int) (gl gr : Nat) (a b : ByteArray) (ha : a.size ≤ 1048576) (hb : b.size ≤ 1048576) (bl ul br ur : Value) (hne : gl ≠ gr) (w : World) (hL : CB w gl 67 (tn a bl ul)) (hR : CB w gr 67 (tn b br ur)) :
    Calls Tryz.prog 61 #[.int .i64 level, .int .i64 place, pv gl, pv gr] w fun e w' => ∃ g, e = .returned (pv g) ∧ JPost w w' gl gr a b (nodeB level place a b) g := by
  have CN := hide (fun W => implNode_any level place a b ha hb W)
  generalize nodeB level place a b = q at *
  have hlg := hL.lt
  have hrg := hR.lt
  have c0 : w.cell? ⟨gl, 0, none⟩ = some (.string a) := hL.cell 0 rfl
  have c1 : w.cell? ⟨gr, 0, none⟩ = some (.string b) := hR.cell 0 rfl
  have KS := hide (fun (W : World) (h : Below w.heap.size w W) => (⟨(h.cell (p := ⟨gl, 0, none⟩) hlg).trans c0, (h.cell (p := ⟨gr, 0, none⟩) hrg).trans c1⟩ : W.cell? ⟨gl, 0, none⟩ = some (.string a) ∧ W.cell? ⟨gr, 0, none⟩ = some (.string b)))
  have HL := hide hL
  have HR := hide hR
  clear hL hR
  show Calls Tryz.prog 61 #[.int .i64 level, .int .i64 place, .pointer (some ⟨gl, 0, none⟩), .pointer (some ⟨gr, 0, none⟩)] w _
  go_enter Tryz.func61, Tryz.ntmps61
  go_wp2
  go_region_held3 (fun W => W.cell? ⟨gl, 0, none⟩ = some (.string a) ∧ W.cell? ⟨gr, 0, none⟩ = some (.string b)) (first | exact ⟨c0, c1⟩ | exact (unhide KS) _ hB1 | exact (unhide KS) _ (hB1.alloc hB1.size _) | fail) (first
    | (go_at_call 73; refine ((unhide CN) _).mono ?_; rintro e w1 ⟨rfl, hb1⟩; have hB1 : Below w.heap.size w w1 := (Below.refl _ w).drew.trans hb1)
    | fail)
  all_goals
    obtain ⟨W, hW, hC, hbW, hsW⟩ := one_cb w1 (tn q nilP nilP) 67
    have HL1 := ((unhide HL).below hB1 hlg).below hbW (Nat.lt_of_lt_of_le hlg hB1.size)
    have HR1 := ((unhide HR).below hB1 hrg).below hbW (Nat.lt_of_lt_of_le hrg hB1.size)
    have hk0 := (below_kps (hB1.trans (hbW.mono hB1.size)) (fun k => k = gl ∨ k = gr))
    have hgs : w.heap.size ≤ w1.heap.size := hB1.size
    have hW2 : w1.alloc (.cells #[.string q, .pointer none, .pointer none] 67) = W := hW
    rw [hW2]
    clear hW hW2 hb1 KS CN c0 c1 HL HR
    have hne1 : w1.heap.size ≠ gl := by omega
    have hne2 : w1.heap.size ≠ gr := by omega
    generalize w1.heap.size = g at *
    have A1 := HL1.set 2 (pv g)
    rw [tn_up] at A1
    have A2 := A1.set_other (h := gr) (k := 2) hne (pv g)
    have A3 := A2.set 1 (pv gr)
    rw [tn_beside] at A3
    have A4 := A3.set_other (h := gr) (k := 1) hne (pv gl)
    have B1 := HR1.set_other (h := gl) (k := 2) (Ne.symm hne) (pv g)
    have B2 := B1.set 2 (pv g)
    rw [tn_up] at B2
    have B3 := B2.set_other (h := gl) (k := 1) (Ne.symm hne) (pv gr)
    have B4 := B3.set 1 (pv gl)
    rw [tn_beside] at B4
    have D4 := (((hC.set_other (h := gl) (k := 2) hne1 (pv g)).set_other (h := gr) (k := 2) hne2 (pv g)).set_other (h := gl) (k := 1) hne1 (pv gr)).set_other (h := gr) (k := 1) hne2 (pv gl)
    have K4 := (((hk0.set gl 2 (pv g) (fun _ => .inl rfl)).set gr 2 (pv g) (fun _ => .inr rfl)).set gl 1 (pv gr) (fun _ => .inl rfl)).set gr 1 (pv gl) (fun _ => .inr rfl)
    have f1 : W.frozen? ⟨gl, 2, none⟩ = false := HL1.frozen 2
    have f1r : W.frozen? ⟨gr, 2, none⟩ = false := HR1.frozen 2
    have f1a : W.frozen? ⟨gl, 1, none⟩ = false := HL1.frozen 1
    have f1b : W.frozen? ⟨gr, 1, none⟩ = false := HR1.frozen 1
    have f2 := B1.frozen 2
    have f3 := A2.frozen 1
    have f4 := B3.frozen 1
    have e1 : W.cell? ⟨gl, 2, none⟩ = some ul := HL1.cell 2 rfl
    have e1r : W.cell? ⟨gr, 2, none⟩ = some ur := HR1.cell 2 rfl
    have e1a : W.cell? ⟨gl, 1, none⟩ = some bl := HL1.cell 1 rfl
    have e1b : W.cell? ⟨gr, 1, none⟩ = some br := HR1.cell 1 rfl
    have e2 := B1.cell 2 (v := ur) rfl
    have e3 := A2.cell 1 (v := bl) rfl
    have e4 := B3.cell 1 (v := br) rfl
    have JP := hide (show JPost w _ gl gr a b q g from ⟨hgs, D4, A4, B4, K4⟩)
    unfold pv at JP f2 f3 f4 e2 e3 e4
    clear D4 A4 B4 K4 A1 A2 A3 B1 B2 B3 hk0 HL1 HR1 hC
    go_wp2
    go_ret
    exact ⟨g, rfl, unhide JP⟩
end Go.Proofs.YtjgnjjphankhnabGreat

/- Trees by the project's own functions: a row of nodes out of texts, over the loaded program. -/
namespace Go.Proofs.YtjgnjjphankhnabGreat
open Go.RowKit
/-- The nodes that are made so far. -/
def Ndk (w : World) (base : Nat) (gs : List Nat) (l : List ByteArray) (k : Nat) : Prop :=
  gs.length = k ∧ gs.Nodup ∧ ∀ i, i < k → base ≤ gAt gs i ∧ CB w (gAt gs i) 67 (tn (bAt l i) nilP nilP)
theorem Ndk.mem {w : World} {base : Nat} {gs : List Nat} {l : List ByteArray} {k : Nat} (h : Ndk w base gs l k) (g : Nat) (hg : g ∈ gs) : base ≤ g ∧ g < w.heap.size := by
  obtain ⟨i, hi, rfl⟩ := gAt_of_mem gs g hg
  obtain ⟨h1, h2⟩ := h.2.2 i (by rw [← h.1]; exact hi)
  exact ⟨h1, h2.lt⟩
theorem nodup_app (gs : List Nat) (g : Nat) (h : gs.Nodup) (hg : g ∉ gs) : (gs ++ [g]).Nodup := by
  rw [List.nodup_append]
  refine ⟨h, by simp, ?_⟩
  intro a ha b hb e
  rw [List.mem_singleton] at hb
  exact hg (by rw [← hb, ← e]; exact ha)
theorem Ndk.next {w w' : World} {base : Nat} {gs : List Nat} {l : List ByteArray} {k : Nat} (h : Ndk w base gs l k) (g : Nat) (hg : w.heap.size ≤ g) (hb : base ≤ w.heap.size) (hS : ∀ q ∈ gs, w'.heap[q]? = w.heap[q]?) (hn : CB w' g 67 (tn (bAt l k) nilP nilP)) : Ndk w' base (gs ++ [g]) l (k + 1) := by
  refine ⟨by rw [List.length_append, h.1]; rfl, nodup_app gs g h.2.1 (fun hm => by have := (h.mem g hm).2; omega), ?_⟩
  intro i hi
  by_cases e : i = k
  · subst e
    have e2 : gAt (gs ++ [g]) i = g := by rw [← h.1]; exact gAt_app_new gs g
    rw [e2]
    exact ⟨by omega, hn⟩
  · have hlt : i < gs.length := by rw [h.1]; omega
    rw [gAt_app_lt gs g i hlt]
    obtain ⟨h1, h2⟩ := h.2.2 i (by omega)
    refine ⟨h1, ?_⟩
    unfold CB
    rw [hS _ (gAt_mem gs i hlt)]
    exact h2
theorem Ndk.nds {w : World} {base : Nat} {gs : List Nat} {l : List ByteArray} {v : Value} (h : Ndk w base gs l l.length) (ho : OwnV w base 65 v (gs.map pv)) : Nds w base v gs l :=
  ⟨ho, h.1, h.2.1, fun i hi => ⟨(h.2.2 i hi).1, nilP, nilP, (h.2.2 i hi).2⟩⟩
set_option maxRecDepth 20000 in
set_option maxHeartbeats 1000000 in
theorem nodesOf_any (l : List ByteArray) (v : Value) (w : World) (hr : RdV w v (l.map sv)) (hn : l.length ≤ 1048576) :
    Calls Tryz.prog 41 #[v] w fun e w' => (∃ v', e = .returned v' ∧ ∃ gs, Nds w' w.heap.size v' gs l) ∧ Below w.heap.size w w' := by
  obtain ⟨i0, hi, hz0, hz1, hz2⟩ := info_parts infoPtr
  obtain ⟨a, c, rfl, hc⟩ := hr.open
  rw [List.length_map]
  clear hr
  obtain ⟨n, hnn⟩ : ∃ n, l.length = n := ⟨_, rfl⟩
  have HC := hide (fun k (hk : k < n) => hc k _ (bAt_getT l k (by rw [hnn]; exact hk)))
  have HN := hide (fun (W : World) (u : Value) (gs : List Nat) (h : Ndk W w.heap.size gs l n) (ho : OwnV W w.heap.size 65 u (gs.map pv)) => (show Nds W w.heap.size u gs l from (by rw [← hnn] at h; exact h.nds ho)))
  rw [hnn] at hn ⊢
  replace hnn := hide hnn
  clear hc
  go_enter Tryz.func41, Tryz.ntmps41
  go_wp2_with (at_make; refine wpList_make_full _ rfl _ _ 69 rfl w.heap.size 65 i0 (.pointer none) 1 Tryz.underlying69 hi hz0 hz1 _ _ _ _ n rfl rfl rfl rfl (by rw [hz2]; omega) (by unfold maxLen; omega) (Nat.le_refl _) ?_; intro w1 hown1 hgrow1)
  have hr0 : OwnV w1 w.heap.size 65 (.slice (some ⟨w.heap.size, 0, none⟩) n n) (filG [] n) := by
    have h := madeP n
    unfold nilP at h
    rw [h] at hown1
    unfold OwnV
    rw [filG_len [] n (Nat.zero_le _)]
    exact hown1
  have hb0 : Below w.heap.size w w1 := (Below.refl w.heap.size w).grown hgrow1 (Nat.le_refl _) (fun k hk => by cases hk)
  clear hown1 hgrow1
  go_loopw [11] (fun ti wr => ∃ (k : Nat) (gs : List Nat), k ≤ n ∧ ti = .int .i64 k ∧ Hid (OwnV wr w.heap.size 65 (.slice (some ⟨w.heap.size, 0, none⟩) n n) (filG gs n)) ∧ Hid (Ndk wr w.heap.size gs l k) ∧ Below w.heap.size w wr ∧ w.heap.size < wr.heap.size) (fun ti _ => n - (intOf ti).toNat)
  case atStart => exact ⟨0, [], Nat.zero_le _, rfl, hide hr0, hide ⟨rfl, List.nodup_nil, fun i hi => absurd hi (Nat.not_lt_zero _)⟩, hb0, (hr0.lt _ rfl).2⟩
  case round =>
    obtain ⟨k, gs, hk, rfl, HO, HK, hb, hszz⟩ := hrel
    clear hr0 hb0
    by_cases hlt : k < n
    · have hk' : (k : Int) < (n : Int) := by omega
      have hk0 : (0 : Int) ≤ (k : Int) := by omega
      obtain ⟨g, o, rfl, hg, d1⟩ := unhide HC k hlt
      have d2 := (hb.cell (p := ⟨g, o + k, none⟩) hg).trans d1
      obtain ⟨x, hx⟩ : ∃ x, x = bAt l k := ⟨_, rfl⟩
      rw [← hx] at d2
      clear d1 HC HN
      obtain ⟨W, hW, hCn, hbW, hsW⟩ := one_cb wr (tn x nilP nilP) 67
      have hO1 := (unhide HO).below hbW
      have hOl := hO1.len
      obtain ⟨u, hu⟩ : ∃ u, (filG gs n)[k]? = some u := ⟨_, List.getElem?_eq_getElem (by have h := filG_len gs n (by rw [(unhide HK).1]; exact hk); omega)⟩
      have cu := hO1.cell hu
      have cz := hO1.frozen k
      have ho2 := hO1.set k (pv wr.heap.size)
      rw [filG_set gs n k (unhide HK).1 hlt] at ho2
      have hne : wr.heap.size ≠ w.heap.size := by omega
      have hk2 : Ndk (W.setCell ⟨w.heap.size, k, none⟩ (pv wr.heap.size)) w.heap.size (gs ++ [wr.heap.size]) l (k + 1) := by
        have hM := (unhide HK).mem
        refine (unhide HK).next wr.heap.size (Nat.le_refl _) (Nat.le_of_lt hszz) ?_ ?_
        · intro q hq
          have hq2 := hM q hq
          have hoff : q ≠ w.heap.size := by
            intro e
            obtain ⟨i, hi1, hi2⟩ := gAt_of_mem gs q hq
            have hcb := ((unhide HK).2.2 i (by rw [← (unhide HK).1]; exact hi1)).2
            rw [hi2, e] at hcb
            exact (hcb.off (unhide HO) (by decide)) rfl
          rw [RowKit.Below.heap_setCell _ _ _ _ hoff]
          exact hbW.block q hq2.2
        · rw [← hx]
          exact hCn.set_other hne _
      have hB2 := (hb.trans (hbW.mono hb.size)).setCell (p := ⟨w.heap.size, k, none⟩) (Nat.le_refl _) (pv wr.heap.size)
      have hs2 : w.heap.size < W.heap.size := by omega
      replace ho2 := hide ho2; replace hk2 := hide hk2; replace hu := hide hu; replace hOl := hide hOl
      have hW2 : wr.alloc (.cells #[.string x, .pointer none, .pointer none] 67) = W := hW
      replace hx := hide hx
      clear hCn hW hO1 HO HK
      unfold pv at ho2 hk2 hB2
      go_wp2
      exact ⟨⟨k + 1, gs ++ [wr.heap.size], by omega, by go_num, ho2, hk2, hB2, by simpa using hs2⟩, by simp [intOf]; omega⟩
    · have hkn : k = n := by omega
      have hk' : ¬ (k : Int) < (n : Int) := by omega
      have hN := hide (unhide HN wr _ gs (by rw [← hkn]; exact unhide HK) (by have h := unhide HO; rw [filG_full gs n (by rw [(unhide HK).1, hkn])] at h; exact h))
      clear HC HN HO HK
      go_wp2
      go_ret
      exact ⟨⟨_, rfl, gs, unhide hN⟩, hb⟩
end Go.Proofs.YtjgnjjphankhnabGreat

/- Trees by the project's own functions: the nodes above a row of nodes, over the loaded program. -/
namespace Go.Proofs.YtjgnjjphankhnabGreat
open Go.RowKit
/-- Each two of gs stand beside each other, and below one of gs'. -/
def Lnk (w : World) (gs gs' : List Nat) (l : List ByteArray) (m : Nat) : Prop :=
  ∀ i, i < m → CB w (gAt gs (2 * i)) 67 (tn (bAt l (2 * i)) (pv (gAt gs (2 * i + 1))) (pv (gAt gs' i))) ∧ CB w (gAt gs (2 * i + 1)) 67 (tn (bAt l (2 * i + 1)) (pv (gAt gs (2 * i))) (pv (gAt gs' i)))
def AInv (w wr : World) (base : Nat) (v : Value) (gs : List Nat) (l : List ByteArray) (level : Int) (k : Nat) (gs' : List Nat) : Prop :=
  Ndk wr w.heap.size gs' (lvL level l) k ∧ Lnk wr gs gs' l k ∧ (∀ i, 2 * k ≤ i → i < l.length → ∃ b u, CB wr (gAt gs i) 67 (tn (bAt l i) b u)) ∧ OwnV wr base 65 v (gs.map pv) ∧ KpS (fun q => q ∈ gs) w wr
theorem AInv.next {w wr w2 : World} {base : Nat} {v : Value} {gs gs' : List Nat} {l : List ByteArray} {level : Int} {k m g : Nat} (hN : Nds w base v gs l) (h : AInv w wr base v gs l level k gs') (hk : k < l.length / 2)
    (hrow : OwnV wr w.heap.size 65 (.slice (some ⟨w.heap.size, 0, none⟩) m m) (filG gs' m))
    (hJ : JPost wr w2 (gAt gs (2 * k)) (gAt gs (2 * k + 1)) (bAt l (2 * k)) (bAt l (2 * k + 1)) (lvN level l k) g) :
    AInv w (w2.setCell ⟨w.heap.size, k, none⟩ (pv g)) base v gs l level (k + 1) (gs' ++ [g]) ∧ OwnV w2 w.heap.size 65 (.slice (some ⟨w.heap.size, 0, none⟩) m m) (filG gs' m) ∧ OwnV w2 base 65 v (gs.map pv) := by
  obtain ⟨hn1, hn2, hn3, hn4⟩ := hN
  obtain ⟨h1, h2, h3, h4, h5⟩ := h
  obtain ⟨j1, j2, j3, j4, j5⟩ := hJ
  have hN : Nds w base v gs l := ⟨hn1, hn2, hn3, hn4⟩
  have hlen : 2 * k + 1 < l.length := by omega
  have hsz := h5.size
  have hlt : w.heap.size < wr.heap.size := (hrow.lt _ rfl).2
  have hgl := hN.mem _ (gAt_mem gs (2 * k) (by omega))
  have hgr := hN.mem _ (gAt_mem gs (2 * k + 1) (by omega))
  have hinj := fun i j hi hj => gAt_inj gs hn3 i j hi hj
  have hgsN : ∀ i, i < gs.length → gAt gs i ≠ w.heap.size := fun i hi e => by have := (hN.mem _ (gAt_mem gs i hi)).2; omega
  have keep : ∀ q T cs, CB wr q T cs → q ≠ gAt gs (2 * k) → q ≠ gAt gs (2 * k + 1) → q ≠ w.heap.size → CB (w2.setCell ⟨w.heap.size, k, none⟩ (pv g)) q T cs := fun q T cs hc e1 e2 e3 =>
    (hc.kps j5 (fun e => e.elim e1 e2)).set_other e3 _
  have hrow2 : OwnV w2 w.heap.size 65 (.slice (some ⟨w.heap.size, 0, none⟩) m m) (filG gs' m) := hrow.kps j5 (fun q hq e => by
    have : w.heap.size = q := Option.some.inj hq
    rcases e with e | e <;> omega)
  have hv2 : OwnV w2 base 65 v (gs.map pv) := h4.kps j5 (by
    intro q hq e
    rcases e with e | e
    · exact hN.off _ (gAt_mem gs (2 * k) (by omega)) (by rw [← e]; exact hq)
    · exact hN.off _ (gAt_mem gs (2 * k + 1) (by omega)) (by rw [← e]; exact hq))
  refine ⟨⟨?_, ?_, ?_, ?_, ?_⟩, hrow2, hv2⟩
  · refine h1.next g j1 (by omega) ?_ ?_
    · intro q hq
      have hq2 := h1.mem q hq
      have hoff : q ≠ w.heap.size := by
        intro e
        obtain ⟨i, hi1, hi2⟩ := gAt_of_mem gs' q hq
        have hcb := (h1.2.2 i (by rw [← h1.1]; exact hi1)).2
        rw [hi2, e] at hcb
        exact (hcb.off hrow (by decide)) rfl
      rw [RowKit.Below.heap_setCell _ _ _ _ hoff]
      exact j5.2.2.2.2 q hq2.2 (fun e => by rcases e with e | e <;> omega)
    · rw [lvL_at level l k hk]
      exact j2.set_other (by omega) _
  · intro i hi
    have hl' := h1.1
    by_cases e : i = k
    · subst e
      have e2 : gAt (gs' ++ [g]) i = g := by rw [← hl']; exact gAt_app_new gs' g
      rw [e2]
      exact ⟨j3.set_other (hgsN _ (by omega)) _, j4.set_other (hgsN _ (by omega)) _⟩
    · have hik : i < k := by omega
      rw [gAt_app_lt gs' g i (by omega)]
      obtain ⟨c1, c2⟩ := h2 i hik
      exact ⟨keep _ _ _ c1 (fun e => by have := hinj _ _ (by omega) (by omega) e; omega) (fun e => by have := hinj _ _ (by omega) (by omega) e; omega) (hgsN _ (by omega)), keep _ _ _ c2 (fun e => by have := hinj _ _ (by omega) (by omega) e; omega) (fun e => by have := hinj _ _ (by omega) (by omega) e; omega) (hgsN _ (by omega))⟩
  · intro i hi hil
    obtain ⟨b, u, c1⟩ := h3 i (by omega) hil
    exact ⟨b, u, keep _ _ _ c1 (fun e => by have := hinj _ _ (by omega) (by omega) e; omega) (fun e => by have := hinj _ _ (by omega) (by omega) e; omega) (hgsN _ (by omega))⟩
  · refine hv2.setO _ _ _ ?_
    intro e
    have := (hn1.lt _ e).2
    omega
  · refine (h5.trans2 j5 ?_).set _ _ _ (fun e => absurd e (Nat.lt_irrefl _))
    intro i _ e
    rcases e with e | e
    · subst e; exact gAt_mem gs _ (by omega)
    · subst e; exact gAt_mem gs _ (by omega)
theorem lvN_at (level : Int) (l : List ByteArray) (i : Nat) : lvN level l i = nodeB level (i : Int) (bAt l (2 * i)) (bAt l (2 * i + 1)) := rfl
theorem Nds.row {w : World} {base n : Nat} {v : Value} {gs : List Nat} {l : List ByteArray} (h : Nds w base v gs l) (hl : l.length = n) (hn : 0 < n) : ∃ gv c, v = .slice (some ⟨gv, 0, none⟩) n c ∧ gv < w.heap.size := by
  have ho := h.1
  have hgl := h.2.1
  rcases ho.2 with ⟨_, h2⟩ | ⟨g, cap, cur, h1, h2, h3, rest⟩
  · rw [List.length_map] at h2; omega
  · refine ⟨g, cap, by rw [h1, List.length_map, hgl, hl], (ho.lt g (by rw [h1]; rfl)).2⟩
theorem Nds.shape {w : World} {base : Nat} {v : Value} {gs : List Nat} {l : List ByteArray} (h : Nds w base v gs l) : ∃ a c, v = .slice a l.length c := by
  obtain ⟨a, c, e⟩ := h.1.shape
  rw [List.length_map, h.2.1] at e
  exact ⟨a, c, e⟩
set_option maxRecDepth 20000 in
set_option maxHeartbeats 1000000 in
theorem nodesAbove_any (level : Int) (l : List ByteArray) (gs : List Nat) (base : Nat) (v : Value) (w : World) (hN : Nds w base v gs l) (hs : ∀ x ∈ l, x.size ≤ 1048576) (hn : l.length ≤ 1048576) :
    Calls Tryz.prog 49 #[.int .i64 level, v] w fun e w' => ∃ v', e = .returned v' ∧ ∃ gs', Nds w' w.heap.size v' gs' (lvL level l) ∧ Lnk w' gs gs' l (l.length / 2) ∧ KpS (fun q => q ∈ gs) w w' := by
  obtain ⟨i0, hi, hz0, hz1, hz2⟩ := info_parts infoPtr
  obtain ⟨n, hnn⟩ : ∃ n, l.length = n := ⟨_, rfl⟩
  obtain ⟨m, hm⟩ : ∃ m, m = n / 2 := ⟨_, rfl⟩
  obtain ⟨a, c, rfl⟩ := hN.shape
  have CJ := hide (show ∀ (k : Nat) W (bl ul br ur : Value), k < m → CB W (gAt gs (2 * k)) 67 (tn (bAt l (2 * k)) bl ul) → CB W (gAt gs (2 * k + 1)) 67 (tn (bAt l (2 * k + 1)) br ur) → Calls Tryz.prog 61 #[.int .i64 level, .int .i64 (k : Int), pv (gAt gs (2 * k)), pv (gAt gs (2 * k + 1))] W fun e w' => ∃ g, e = .returned (pv g) ∧ JPost W w' (gAt gs (2 * k)) (gAt gs (2 * k + 1)) (bAt l (2 * k)) (bAt l (2 * k + 1)) (lvN level l k) g from
    fun k W bl ul br ur hk h1 h2 => joined_any level (k : Int) _ _ _ _ (bAt_sizeT l _ _ hs) (bAt_sizeT l _ _ hs) bl ul br ur (fun e => by have := gAt_inj gs hN.2.2.1 _ _ (by rw [hN.2.1]; omega) (by rw [hN.2.1]; omega) e; omega) W h1 h2)
  have HA := hide (fun (wr w2 : World) (k : Nat) (gs' : List Nat) (g : Nat) (h : AInv w wr base (.slice a l.length c) gs l level k gs') (hk : k < m) hrow hJ => AInv.next (m := m) (g := g) (w2 := w2) hN h (by rw [hnn, ← hm]; exact hk) hrow hJ)
  have HE := hide (show ∀ (wr : World) (gs' : List Nat), AInv w wr base (.slice a l.length c) gs l level m gs' → OwnV wr w.heap.size 65 (.slice (some ⟨w.heap.size, 0, none⟩) m m) (filG gs' m) → Nds wr w.heap.size (.slice (some ⟨w.heap.size, 0, none⟩) m m) gs' (lvL level l) ∧ Lnk wr gs gs' l (l.length / 2) ∧ KpS (fun q => q ∈ gs) w wr from fun wr gs' h ho => by
    have hll : (lvL level l).length = m := by rw [lvL_len, hnn, hm]
    have h1 := h.1
    have h2 := h.2.1
    rw [filG_full gs' m h1.1] at ho
    rw [← hll] at h1
    refine ⟨h1.nds ho, ?_, h.2.2.2.2⟩
    rw [hnn, ← hm]
    exact h2)
  have H0 := hide (show ∀ w1, Below w.heap.size w w1 → AInv w w1 base (.slice a l.length c) gs l level 0 [] from fun w1 hb => ⟨⟨rfl, List.nodup_nil, fun i hi => absurd hi (Nat.not_lt_zero _)⟩, fun i hi => absurd hi (Nat.not_lt_zero _), fun i _ hil => by
      obtain ⟨_, b, u, h⟩ := hN.2.2.2 i hil
      exact ⟨b, u, h.step hb⟩, hN.1.below hb, below_kps hb _⟩)
  have HR := hide (show ∀ k, k < m → ∃ gv, a = some ⟨gv, 0, none⟩ ∧ ∀ W, OwnV W base 65 (.slice a l.length c) (gs.map pv) → W.cell? ⟨gv, 2 * k, none⟩ = some (pv (gAt gs (2 * k))) ∧ W.cell? ⟨gv, 2 * k + 1, none⟩ = some (pv (gAt gs (2 * k + 1))) from fun k hk => by
    obtain ⟨gv, cc, e, _⟩ := hN.row hnn (by omega)
    obtain ⟨rfl, _, rfl⟩ := Value.slice.inj e
    exact ⟨gv, rfl, fun W ho => ⟨ho.cell (gAt_get gs _ (by rw [hN.2.1]; omega)), ho.cell (gAt_get gs _ (by rw [hN.2.1]; omega))⟩⟩)
  rw [hnn] at hn HA HE H0 HR ⊢
  have hm2 : 2 * m ≤ n := by omega
  have hmb : m ≤ 1048576 := by omega
  have hq : (n : Int) / 2 = (m : Int) := by omega
  have hq2 : (n : Int).tdiv 2 = (m : Int) := by rw [Int.tdiv_eq_ediv_of_nonneg (by omega)]; omega
  rw [← hm] at HE ⊢
  replace hnn := hide hnn
  replace hm := hide hm
  clear hN hs
  go_enter Tryz.func49, Tryz.ntmps49
  go_wp2_with (at_make; refine wpList_make_full _ rfl _ _ 69 rfl w.heap.size 65 i0 (.pointer none) 1 Tryz.underlying69 hi hz0 hz1 _ _ _ _ m rfl rfl rfl rfl (by rw [hz2]; omega) (by unfold maxLen; omega) (Nat.le_refl _) ?_; intro w1 hown1 hgrow1)
  have hr0 : OwnV w1 w.heap.size 65 (.slice (some ⟨w.heap.size, 0, none⟩) m m) (filG [] m) := by
    have h := madeP m
    unfold nilP at h
    rw [h] at hown1
    unfold OwnV
    rw [filG_len [] m (Nat.zero_le _)]
    exact hown1
  have hb0 : Below w.heap.size w w1 := (Below.refl w.heap.size w).grown hgrow1 (Nat.le_refl _) (fun k hk => by cases hk)
  have ha0 := hide (unhide H0 w1 hb0)
  clear hown1 hgrow1 H0 hb0
  go_loopw [13] (fun ti wr => ∃ (k : Nat) (gs' : List Nat), k ≤ m ∧ ti = .int .i64 k ∧ Hid (OwnV wr w.heap.size 65 (.slice (some ⟨w.heap.size, 0, none⟩) m m) (filG gs' m)) ∧ Hid (AInv w wr base (.slice a n c) gs l level k gs')) (fun ti _ => m - (intOf ti).toNat)
  case atStart => exact ⟨0, [], Nat.zero_le _, rfl, hide hr0, ha0⟩
  case round =>
    obtain ⟨k, gs', hk, rfl, HO, HI⟩ := hrel
    clear hr0 ha0
    by_cases hlt : k < m
    · have hk' : (k : Int) < (m : Int) := by omega
      have hk0 : (0 : Int) ≤ (k : Int) := by omega
      obtain ⟨gv, rfl, hcl⟩ := unhide HR k hlt
      obtain ⟨p, hp⟩ : ∃ p, p = 2 * k := ⟨_, rfl⟩
      obtain ⟨q, hqq⟩ : ∃ q, q = 2 * k + 1 := ⟨_, rfl⟩
      have hp1 : (p : Int) < (n : Int) := by omega
      have hq1 : (q : Int) < (n : Int) := by omega
      have hp0 : (0 : Int) ≤ (p : Int) := by omega
      have hq0 : (0 : Int) ≤ (q : Int) := by omega
      have e1 : 2 * (k : Int) = (p : Int) := by omega
      have e2 : (p : Int) + 1 = (q : Int) := by omega
      have u1 : IntKind.i64.wrap (2 * (k : Int)) = (p : Int) := by rw [IntKind.wrap_i64]; omega
      have u2 : IntKind.i64.wrap ((p : Int) + 1) = (q : Int) := by rw [IntKind.wrap_i64]; omega
      have u3 : IntKind.i64.wrap (p : Int) = (p : Int) := by rw [IntKind.wrap_i64]; omega
      have u4 : IntKind.i64.wrap (q : Int) = (q : Int) := by rw [IntKind.wrap_i64]; omega
      obtain ⟨hi1, hi2, hi3, hi4, hi5⟩ := unhide HI
      have hkn : 2 * k + 1 < l.length := by rw [unhide hnn]; omega
      obtain ⟨bl, ul, HL⟩ := hi3 (2 * k) (Nat.le_refl _) (by omega)
      obtain ⟨br, ur, HRr⟩ := hi3 (2 * k + 1) (by omega) hkn
      have KS := hide (fun (W : World) (h : OwnV W base 65 (.slice (some ⟨gv, 0, none⟩) n c) (gs.map pv)) => hcl W h)
      have cj := hide (fun W h1 h2 => unhide CJ k W bl ul br ur hlt h1 h2)
      have hx := hide (fun w2 g hJ => unhide HA wr w2 k gs' g (unhide HI) hlt (unhide HO) hJ)
      have HFs := hide (fun g => filG_set gs' m k hi1.1 hlt g)
      have hfl := hide (filG_len gs' m (by rw [hi1.1]; exact hk))
      obtain ⟨d1, d2⟩ := unhide KS _ hi4
      rw [← hqq, ← hp] at KS cj hx
      rw [← hp] at d1
      rw [← hqq] at d2
      rw [← hp] at HL
      rw [← hqq] at HRr
      have hsw := hide (show w.heap.size < wr.heap.size from ((unhide HO).lt _ rfl).2)
      obtain ⟨uu, huu⟩ : ∃ uu, (filG gs' m)[k]? = some uu := ⟨_, List.getElem?_eq_getElem (by rw [unhide hfl]; exact hlt)⟩
      generalize lvN level l k = fk at *
      generalize bAt l p = xa at *
      generalize bAt l q = xb at *
      generalize gAt gs p = gl at *
      generalize gAt gs q = gr at *
      replace HL := hide HL; replace HRr := hide HRr; replace hp := hide hp; replace hqq := hide hqq; replace huu := hide huu
      unfold pv at d1 d2 cj KS
      clear hi1 hi2 hi3 hi4 hi5 HI CJ HA HE HR hcl hkn
      go_wp2
      go_region_held3 (fun W => W.cell? ⟨gv, p, none⟩ = some (.pointer (some ⟨gl, 0, none⟩)) ∧ W.cell? ⟨gv, q, none⟩ = some (.pointer (some ⟨gr, 0, none⟩))) (first | exact ⟨d1, d2⟩ | exact ⟨d3, d4⟩ | exact ⟨d5, d6⟩ | fail) (first
        | (go_at_call 61; refine (unhide cj _ (by exact unhide HL) (by exact unhide HRr)).mono ?_; rintro e w2 ⟨g, rfl, hJ⟩; obtain ⟨n1, n2, n3⟩ := unhide hx w2 g (by exact hJ); obtain ⟨d3, d4⟩ := unhide KS _ n3; have cu := n2.cell (unhide huu); have cz := n2.frozen k; have ho2 := n2.set k (pv g); rw [unhide HFs] at ho2; obtain ⟨d5, d6⟩ := unhide KS _ n1.2.2.2.1)
        | fail)
      all_goals
        replace ho2 := hide ho2
        replace n1 := hide n1
        unfold pv at ho2 n1
        clear n2 n3 d1 d2 d3 d4 d5 d6 hJ hx cj KS HL HRr HO HFs
        go_wp2
        exact ⟨⟨k + 1, gs' ++ [g], by omega, by go_num, ho2, n1⟩, by simp [intOf]; omega⟩
    · have hkn : k = m := by omega
      have hk' : ¬ (k : Int) < (m : Int) := by omega
      obtain ⟨r1, r2, r3⟩ := unhide HE wr gs' (by rw [← hkn]; exact unhide HI) (unhide HO)
      replace r1 := hide r1; replace r2 := hide r2; replace r3 := hide r3
      clear HE HO HI HR CJ HA
      go_wp2
      go_ret
      exact ⟨_, rfl, gs', unhide r1, unhide r2, unhide r3⟩
end Go.Proofs.YtjgnjjphankhnabGreat

/- Trees by the project's own functions: levels, roots and paths, over the loaded program. -/
namespace Go.Proofs.YtjgnjjphankhnabGreat
open Go.RowKit
/-- How far a tree of four leaves is joined. -/
def Stg (w : World) (v : Value) (gs : List Nat) (l : List ByteArray) : Nat → World → Value → Prop
  | 0, wr, tv => wr = w ∧ tv = v
  | 1, wr, tv => ∃ gs1, Nds wr w.heap.size tv gs1 (lvs l 1) ∧ Lnk wr gs gs1 l 2 ∧ KpS (fun q => q ∈ gs) w wr
  | 2, wr, tv => ∃ gs1 gs2, Nds wr w.heap.size tv gs2 (lvs l 2) ∧ Lnk wr gs gs1 l 2 ∧ Lnk wr gs1 gs2 (lvs l 1) 1 ∧ (∀ i, i < 2 → gAt gs1 i < gAt gs2 0 ∧ w.heap.size ≤ gAt gs1 i) ∧ KpS (fun q => q ∈ gs) w wr
  | _, _, _ => False
theorem Stg.shape {w : World} {base : Nat} {v : Value} {gs : List Nat} {l : List ByteArray} (hN : Nds w base v gs l) (hl : l.length = 4) {k : Nat} {wr : World} {tv : Value} (h : Stg w v gs l k wr tv) : ∃ a c n, tv = .slice a n c ∧ n = 4 / 2 ^ k ∧ k ≤ 2 := by
  rcases k with _ | _ | _ | k
  · obtain ⟨rfl, rfl⟩ := h
    obtain ⟨a, c, e⟩ := hN.shape
    exact ⟨a, c, _, e, hl, by omega⟩
  · obtain ⟨gs1, h1, _⟩ := h
    obtain ⟨a, c, e⟩ := h1.shape
    exact ⟨a, c, _, e, lvs_len l hl 1, by omega⟩
  · obtain ⟨gs1, gs2, h1, _⟩ := h
    obtain ⟨a, c, e⟩ := h1.shape
    exact ⟨a, c, _, e, lvs_len l hl 2, by omega⟩
  · exact h.elim
theorem stg_up {w : World} {base : Nat} {v : Value} {gs : List Nat} {l : List ByteArray} (hN : Nds w base v gs l) (hl : l.length = 4) (hs : ∀ x ∈ l, x.size ≤ 1048576) (k : Nat) (hk : k < 2) (wr : World) (tv : Value) (h : Stg w v gs l k wr tv) :
    Calls Tryz.prog 49 #[.int .i64 ((k + 1 : Nat) : Int), tv] wr fun e w' => ∃ v', e = .returned v' ∧ Stg w v gs l (k + 1) w' v' := by
  rcases k with _ | _ | k
  · obtain ⟨rfl, rfl⟩ := h
    refine (nodesAbove_any ((0 + 1 : Nat) : Int) l gs base tv wr hN hs (by omega)).mono ?_
    rintro e w' ⟨v', rfl, gs1, h1, h2, h3⟩
    rw [hl] at h2
    exact ⟨v', rfl, gs1, h1, h2, h3⟩
  · obtain ⟨gs1, h1, h2, h3⟩ := h
    have hl1 : (lvs l 1).length = 2 := lvs_len l hl 1
    refine (nodesAbove_any ((0 + 1 + 1 : Nat) : Int) (lvs l 1) gs1 w.heap.size tv wr h1 (lvs_size l _ (by omega) hs 1) (by omega)).mono ?_
    rintro e w' ⟨v', rfl, gs2, n1, n2, n3⟩
    rw [hl1] at n2
    have hsz := h3.size
    refine ⟨v', rfl, gs1, gs2, n1.low hsz, ?_, n2, ?_, h3.trans2 n3 (fun i hi hm => by have := (h1.mem i hm).1; omega)⟩
    · intro i hi
      obtain ⟨c1, c2⟩ := h2 i hi
      have g1 := (hN.mem _ (gAt_mem gs (2 * i) (by rw [hN.2.1]; omega))).2
      have g2 := (hN.mem _ (gAt_mem gs (2 * i + 1) (by rw [hN.2.1]; omega))).2
      exact ⟨c1.kps n3 (fun hm => by have := (h1.mem _ hm).1; omega), c2.kps n3 (fun hm => by have := (h1.mem _ hm).1; omega)⟩
    · intro i hi
      have g1 := h1.mem _ (gAt_mem gs1 i (by rw [h1.2.1, hl1]; omega))
      have hl2 : (lvL ((0 + 1 + 1 : Nat) : Int) (lvs l 1)).length = 1 := by rw [lvL_len, hl1]
      have g2 := n1.mem _ (gAt_mem gs2 0 (by rw [n1.2.1, hl2]; omega))
      exact ⟨by omega, g1.1⟩
  · omega
/-- What is left behind a tree of four leaves. -/
def Trd (w w' : World) (gs gs1 : List Nat) (l : List ByteArray) (g : Nat) : Prop :=
  Lnk w' gs gs1 l 2 ∧ Lnk w' gs1 [g] (lvs l 1) 1 ∧ (∃ b u, CB w' g 67 (tn (bAt (lvs l 2) 0) b u)) ∧ (∀ i, i < 2 → gAt gs1 i < g ∧ w.heap.size ≤ gAt gs1 i) ∧ KpS (fun q => q ∈ gs) w w'
set_option maxRecDepth 20000 in
set_option maxHeartbeats 1000000 in
theorem rootAbove_any (l : List ByteArray) (gs : List Nat) (base : Nat) (v : Value) (w : World) (hN : Nds w base v gs l) (hl : l.length = 4) (hs : ∀ x ∈ l, x.size ≤ 1048576) :
    Calls Tryz.prog 40 #[v] w fun e w' => ∃ g, e = .returned (pv g) ∧ ∃ gs1, Trd w w' gs gs1 l g := by
  have HS := hide (fun (k : Nat) (wr : World) (tv : Value) (h : Stg w v gs l k wr tv) => h.shape hN hl)
  have HU := hide (fun (k : Nat) (hk : k < 2) (wr : World) (tv : Value) (h : Stg w v gs l k wr tv) => stg_up hN hl hs k hk wr tv h)
  have HE := hide (show ∀ wr a n c, Stg w v gs l 2 wr (.slice a n c) → ∃ gv g, a = some ⟨gv, 0, none⟩ ∧ wr.cell? ⟨gv, 0, none⟩ = some (.pointer (some ⟨g, 0, none⟩)) ∧ ∃ gs1, Trd w wr gs gs1 l g from fun wr a n c h => by
    obtain ⟨gs1, gs2, n1, n2, n3, n4, n5⟩ := h
    have hl2 : (lvs l 2).length = 1 := lvs_len l hl 2
    obtain ⟨gv, cc, e, hlt⟩ := n1.row hl2 (by omega)
    obtain ⟨rfl, rfl, rfl⟩ := Value.slice.inj e
    have hg2 : gs2.length = 1 := by rw [n1.2.1, hl2]
    obtain ⟨g, rfl⟩ : ∃ g, gs2 = [g] := List.length_eq_one_iff.1 hg2
    refine ⟨gv, g, rfl, n1.1.cell (gAt_get [g] 0 (by omega)), gs1, n2, n3, ?_, n4, n5⟩
    exact (n1.2.2.2 0 (by omega)).2)
  have H0 := hide (show Stg w v gs l 0 w v from ⟨rfl, rfl⟩)
  clear hN hs
  generalize Stg w v gs l = St at *
  go_enter Tryz.func40, Tryz.ntmps40
  go_wp2
  go_loopw [0, 3] (fun tv ti wr => ∃ k : Nat, ti = .int .i64 ((k + 1 : Nat) : Int) ∧ Hid (St k wr tv)) (fun _ ti _ => 5 - (intOf ti).toNat)
  case atStart => exact ⟨0, rfl, H0⟩
  case round =>
    clear H0
    obtain ⟨k, rfl, HR⟩ := hrel
    obtain ⟨a, c, n, rfl, hn, hk2⟩ := unhide HS k wr _ (unhide HR)
    by_cases hlt : k < 2
    · have hn1 : n > 1 := by
        rw [hn]
        rcases show k = 0 ∨ k = 1 by omega with rfl | rfl <;> decide
      have hn2 : (1 : Int) < (n : Int) := by omega
      have c1 := hide (unhide HU k hlt wr _ (unhide HR))
      replace hn := hide hn
      clear HR HU HS HE
      go_wp2_with fail
      refine (unhide c1).mono ?_
      rintro e w1 ⟨v', rfl, h1⟩
      have HR1 := hide h1
      clear c1 h1
      go_wp2
      exact ⟨⟨k + 1, by go_num, HR1⟩, by simp [intOf]; omega⟩
    · obtain rfl : k = 2 := by omega
      have hn1 : n = 1 := by rw [hn]
      subst hn1
      obtain ⟨gv, g, rfl, d, gs1, ht⟩ := unhide HE wr _ _ _ (unhide HR)
      replace ht := hide ht
      clear HR HU HS HE hn
      go_wp2
      go_ret
      exact ⟨g, rfl, gs1, unhide ht⟩
end Go.Proofs.YtjgnjjphankhnabGreat

