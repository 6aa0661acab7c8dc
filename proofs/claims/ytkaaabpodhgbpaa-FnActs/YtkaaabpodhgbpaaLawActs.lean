/- The law FnActs, walked. -/
import Derived.Test.YtkaaabpodhgbpaaDrawC
import Derived.Test.YtkaaabpodhgbpaaKeeps
import Derived.Test.YtkaaabpodhgbpaaActM
namespace Go.Proofs.Ytkaaabpodhgbpaa
open Go.RowKit
theorem cutR_len (fs : List Fl) (acs : List Ac) (z : Int) (is : List Int) (hB : Bd fs) (hn : fs.length ≤ 2000000) : (cutR fs acs z is).1.length ≤ 2000000 := by
  unfold cutR
  split
  · split
    · exact Nat.zero_le _
    · unfold loseRes
      split
      · rw [loseL_len]; exact (run_small _ hB hn).2
      · exact Nat.zero_le _
  · exact Nat.zero_le _
theorem atRes_size {fs : List Fl} (h : Bd fs) (s : ByteArray) : (atRes fs s).1.size ≤ 4000000 := by
  unfold atRes
  cases e : findL fs s with
  | none => exact Nat.zero_le _
  | some f => exact (h f (findL_mem e).1).2
set_option maxRecDepth 20000 in
set_option maxHeartbeats 40000000 in
theorem lawActs_any (w : World) (o : Option Addr) (n c : Nat) (hs : Src w w.heap.size o n) :
    Calls Try.prog 4 #[.slice o n c] w fun e w' => e = .returned (.bool true) ∧ Below w.heap.size w w' := by
  by_cases hbig : (1048576 : Int) < (n : Int)
  · have hd : decide ((1048576 : Int) < (n : Int)) = true := decide_eq_true hbig
    have CB : Hid (∀ W, Calls Try.prog 5 #[.slice o n c] W fun e w' => e = .returned (.bool true) ∧ w' = W) := fun W => by rw [← hd]; exact big_any W o n c
    clear hd hs
    go_enter Try.func4, Try.ntmps4
    go_wp2_with (go_at_call 5; refine ((unhide CB) _).mono ?_; rintro e w1 ⟨rfl, rfl⟩)
    go_ret
    exact ⟨rfl, Below.refl _ _⟩
  · have hn : n ≤ 1048576 := by omega
    have hd : decide ((1048576 : Int) < (n : Int)) = false := decide_eq_false hbig
    have CB : Hid (∀ W, Calls Try.prog 5 #[.slice o n c] W fun e w' => e = .returned (.bool false) ∧ w' = W) := fun W => by rw [← hd]; exact big_any W o n c
    have HS := hide hs
    clear hd hs
    go_enter Try.func4, Try.ntmps4
    go_wp2_with fail
    refine ((unhide CB) _).mono ?_
    rintro e w0 ⟨rfl, hw0⟩
    have hw0' := hw0.symm
    subst hw0'
    clear hw0
    go_wp2_with fail
    refine (drawCutActs_any w o n c (unhide HS) hn).mono ?_
    rintro e w1 ⟨fs, a1, c1, acs, a2, c2, z, is, v3, ⟨hfl, hfB⟩, ⟨hal, haS⟩, hil, rfl, rF1, rA1, rV1, hb1⟩
    have HB1 := hide hb1
    have s1 := hb1.size
    replace rF1 := hide rF1
    replace rA1 := hide rA1
    replace rV1 := hide rV1
    replace hfB := hide hfB
    have hA := hide (show AcsBd acs from fun a ha => by have := haS a ha; unfold Short at this; omega)
    replace haS := hide haS
    clear hb1
    obtain ⟨rs, hrs⟩ : ∃ rs, (runL fs acs).1 = rs := ⟨_, rfl⟩
    obtain ⟨m, hm⟩ : ∃ m, (runL fs acs).2 = m := ⟨_, rfl⟩
    have hmle : m ≤ 9 := by have := runL_le acs fs; omega
    have HRS := hide (run_small acs (unhide hfB) (by omega))
    have CI : Hid (∀ W v va, RdF W v fs → RdA W va acs → Calls Try.prog 15 #[.agg #[v], va] W fun e w' => (∃ a c, e = .returned (.tuple #[.agg #[.slice a rs.length c], .int .i64 (m : Int)]) ∧ OwnF w' W.heap.size 36 (.slice a rs.length c) rs) ∧ Below W.heap.size W w') := fun W v va h1 h2 => by
      have := implDoActs_any fs acs v va W h1 h2 (unhide hfB) (by omega) (unhide hA) (by omega)
      unfold DnEnd at this
      rw [hrs, hm] at this
      exact this
    have CS : Hid (∀ W v va, RdF W v fs → RdA W va acs → Calls Try.prog 16 #[.agg #[v], va] W fun e w' => (∃ a c, e = .returned (.tuple #[.agg #[.slice a rs.length c], .int .i64 (m : Int)]) ∧ OwnF w' W.heap.size 36 (.slice a rs.length c) rs) ∧ Below W.heap.size W w') := fun W v va h1 h2 => by
      have := specDoActs_any fs acs v va W h1 h2 (unhide hfB) (by omega) (unhide hA) (by omega)
      unfold DnEnd at this
      rw [hrs, hm] at this
      exact this
    obtain ⟨qs, hqs⟩ : ∃ qs, (cutR fs acs z is).1 = qs := ⟨_, rfl⟩
    obtain ⟨qb, hqb⟩ : ∃ qb, (cutR fs acs z is).2 = qb := ⟨_, rfl⟩
    have CC : Hid (∀ W v va vl, RdF W v fs → RdA W va acs ∧ Capped va → RdV W vl (is.map iv) → Calls Try.prog 19 #[.agg #[v], va, .int .i64 z, vl] W fun e w' => (∃ a c, e = .returned (.tuple #[.agg #[.slice a qs.length c], .bool qb]) ∧ OwnF w' W.heap.size 36 (.slice a qs.length c) qs) ∧ Below W.heap.size W w') := fun W v va vl h1 h2 h3 => by
      have := implCut_any fs acs z is v va vl W h1 h2 h3 (unhide hfB) (by omega) (unhide hA) (by omega) (by omega)
      unfold DkEnd at this
      rw [hqs, hqb] at this
      exact this
    have CD : Hid (∀ W v va vl, RdF W v fs → RdA W va acs ∧ Capped va → RdV W vl (is.map iv) → Calls Try.prog 20 #[.agg #[v], va, .int .i64 z, vl] W fun e w' => (∃ a c, e = .returned (.tuple #[.agg #[.slice a qs.length c], .bool qb]) ∧ OwnF w' W.heap.size 36 (.slice a qs.length c) qs) ∧ Below W.heap.size W w') := fun W v va vl h1 h2 h3 => by
      have := specCut_any fs acs z is v va vl W h1 h2 h3 (unhide hfB) (by omega) (unhide hA) (by omega) (by omega)
      unfold DkEnd at this
      rw [hqs, hqb] at this
      exact this
    have hqn : qs.length ≤ 2000000 := by rw [← hqs]; exact cutR_len fs acs z is (unhide hfB) (by omega)
    have hrn : rs.length ≤ 2000000 := by rw [← hrs]; exact (unhide HRS).2
    replace hqs := hide hqs
    replace hqb := hide hqb
    replace hrs := hide hrs
    replace hm := hide hm
    replace hqn := hide hqn
    replace hrn := hide hrn
    go_wp2_with fail
    go_at_call 15
    refine ((unhide CI) _ _ _ ((unhide rF1).alloc _) ((unhide rA1).1.alloc _)).mono ?_
    rintro e w2 ⟨⟨an, cn, rfl, oN2⟩, hb2⟩
    have bd2 := hide ((Box.new w1 _ _).step hb2)
    have rF2 := hide (((unhide rF1).alloc _).below hb2)
    have rA2 := hide (((unhide rA1).1.alloc _).below hb2)
    have rV2 := hide (((unhide rV1).alloc _).below hb2)
    have HB2 := hide (bTr (bTrA (unhide HB1) _) hb2)
    have s2 := sz1 hb2
    replace oN2 := hide oN2
    clear hb2 rF1 rV1
    have cd2 := (unhide bd2).cell
    have ld2 := (unhide bd2).lt
    go_wp2_with fail
    go_at_call 16
    refine ((unhide CS) _ _ _ ((unhide rF2).alloc _) ((unhide rA2).alloc _)).mono ?_
    rintro e w3 ⟨⟨aw, cw, rfl, oW3⟩, hb3⟩
    have bd3 := hide (((unhide bd2).alloc _).step hb3)
    have bn3 := hide ((Box.new w2 _ _).step hb3)
    have oN3 := hide (((unhide oN2).alloc _).below hb3)
    have rF3 := hide (((unhide rF2).alloc _).below hb3)
    have rA3 := hide (((unhide rA2).alloc _).below hb3)
    have rV3 := hide (((unhide rV2).alloc _).below hb3)
    have HB3 := hide (bTr (bTrA (unhide HB2) _) hb3)
    have s3 := sz1 hb3
    replace oW3 := hide oW3
    clear hb3 cd2 ld2 rF2 rA2 rV2 oN2 bd2
    have cn3 := (unhide bn3).cell
    have ln3 := (unhide bn3).lt
    go_wp2_with fail
    go_at_call 10
    refine (sameDisk_any rs _ _ _ ((unhide oN3).alloc _).rd ((unhide oW3).alloc _).rd (unhide hrn)).mono ?_
    rintro e w4 ⟨rfl, hb4⟩
    have bd4 := hide (((unhide bd3).alloc _).step hb4)
    have bn4 := hide (((unhide bn3).alloc _).step hb4)
    have oN4 := hide (((unhide oN3).alloc _).below hb4)
    have rF4 := hide (((unhide rF3).alloc _).below hb4)
    have rA4 := hide (((unhide rA3).alloc _).below hb4)
    have rV4 := hide (((unhide rV3).alloc _).below hb4)
    have HB4 := hide (bTr (bTrA (unhide HB3) _) hb4)
    have s4 := sz1 hb4
    clear hb4 cn3 ln3 rF3 rA3 rV3 oN3 oW3 bd3 bn3
    have cd4 := (unhide bd4).cell
    have ld4 := (unhide bd4).lt
    obtain ⟨a2', c2', he2, hac⟩ := (unhide rA4).open
    simp only [Value.slice.injEq, true_and] at he2
    obtain ⟨rfl, rfl⟩ := he2
    have HAC := hide hac
    clear hac
    go_wp2_with fail
    clear cd4 ld4
    go_loopw [12] (fun ti wr => ∃ (k : Nat) (cur : List Fl) (a9 : Option Addr) (c9 : Nat), k ≤ m ∧ ti = .int .i64 (k : Int) ∧ Hid (RunAt fs acs k cur) ∧ Hid (Bd cur ∧ cur.length ≤ 2000000) ∧ Hid (Box wr w4.heap.size 26 (.slice a9 cur.length c9)) ∧ Hid (RdF wr (.slice a9 cur.length c9) cur) ∧ Hid (Below w4.heap.size w4 wr)) (fun ti _ => m - (intOf ti).toNat)
    case atStart => exact ⟨0, fs, a1, c1, Nat.zero_le _, rfl, RunAt.start fs acs, ⟨unhide hfB, by omega⟩, Box.new w4 _ _, (unhide rF4).alloc _, (Below.refl _ w4).alloc (Nat.le_refl _) _⟩
    case round =>
      obtain ⟨k, cur, a9, c9, hk, rfl, hrun, hcur, bo5, rC5, hb5⟩ := hrel
      have s5 : w4.heap.size < wr.heap.size := (unhide bo5).lt
      have hk0 : (0 : Int) ≤ (k : Int) := by omega
      by_cases hlt : (k : Int) < (m : Int)
      · obtain ⟨a, nx, ha, hact⟩ := (unhide hrun).more (by rw [unhide hm]; omega)
        have hkl : (k : Int) < (acs.length : Int) := by have := (List.getElem?_eq_some_iff.1 ha).1; omega
        have haB := (unhide haS) a (List.mem_of_getElem? ha)
        have hok := actL_ok hact
        have hnB := hide (bd_ok hok.2)
        have hnl : nx.length ≤ 30 := (okL_iff.1 hok.2).1
        have hrun2 := hide ((unhide hrun).next ha hact)
        obtain ⟨gA, oA, rfl, hgA, hat⟩ := (unhide HAC) k a ha
        have hat5 := hide (hat.below (unhide hb5) hgA)
        obtain ⟨X, hX⟩ : ∃ X, (atRes cur a.nm).1 = X := ⟨_, rfl⟩
        obtain ⟨xb, hxb⟩ : ∃ xb, (atRes cur a.nm).2 = xb := ⟨_, rfl⟩
        obtain ⟨Y, hY⟩ : ∃ Y, (atRes nx a.nm).1 = Y := ⟨_, rfl⟩
        obtain ⟨hs, hhs⟩ : ∃ hs, (atRes nx a.nm).2 = hs := ⟨_, rfl⟩
        have hXs : X.size ≤ 4000000 := by rw [← hX]; exact atRes_size (unhide hcur).1 a.nm
        have hcase : Hid ((a.kd = 1 ∧ Y = X ++ a.tx ∧ hs = true) ∨ (a.kd = 4 ∧ hs = false) ∨ (a.kd ≠ 1 ∧ a.kd ≠ 4)) := by
          show _ ∨ _
          by_cases h1 : a.kd = 1
          · have := act_added hact h1
            rw [hY, hhs, hX] at this
            exact .inl ⟨h1, this.1, this.2⟩
          · by_cases h4 : a.kd = 4
            · have := act_dropped hact h4
              rw [hhs] at this
              exact .inr (.inl ⟨h4, this⟩)
            · exact .inr (.inr ⟨h1, h4⟩)
        have CA : Hid (∀ W v, RdF W v cur → Calls Try.prog 17 #[.agg #[v], .agg #[.int .i64 a.kd, .string a.nm, .string a.tx, .string a.to]] W fun e w' => (∃ a3 c3, e = .returned (.tuple #[.agg #[.slice a3 nx.length c3], .bool true]) ∧ OwnF w' W.heap.size 36 (.slice a3 nx.length c3) nx) ∧ Below W.heap.size W w') := fun W v h1 => by
          have := implDoAct_any cur a v W h1 (unhide hcur).1 (unhide hcur).2 (by unfold Short at haB; omega) (by unfold Short at haB; omega)
          unfold DkEnd at this
          rw [hact] at this
          exact this
        have CX : Hid (∀ W v, RdF W v cur → Calls Try.prog 18 #[.agg #[v], .string a.nm] W fun e w' => e = .returned (.tuple #[.string X, .bool xb]) ∧ Below W.heap.size W w') := fun W v h1 => by
          have := implFileAt_any cur a.nm v W h1 (unhide hcur).1 (unhide hcur).2
          rw [hX, hxb] at this
          exact this
        have CY : Hid (∀ W v, RdF W v nx → Calls Try.prog 18 #[.agg #[v], .string a.nm] W fun e w' => e = .returned (.tuple #[.string Y, .bool hs]) ∧ Below W.heap.size W w') := fun W v h1 => by
          have := implFileAt_any nx a.nm v W h1 (unhide hnB) (by omega)
          rw [hY, hhs] at this
          exact this
        have htx : a.tx.size ≤ 9 := by unfold Short at haB; omega
        have hcat : ¬ 9223372036854775807 < X.size + a.tx.size := by omega
        clear hX hxb hY hhs hok ha hact haB hat
        obtain ⟨q0, q1, q2, q3⟩ := unhide hat5
        have cb5 := (unhide bo5).cell
        have gA5 : gA < wr.heap.size := by omega
        go_wp2_with fail
        go_region_law (first
          | (refine step_call rfl (F := 17) ((unhide CA) wr.drew _ (unhide rC5).drew) (by go_simp) ?_; rintro e w6 ⟨⟨a3, c3, rfl, oX6⟩, hb6⟩; refine ⟨_, rfl, ?_⟩; (have hb6' : Below wr.heap.size wr w6 := (Below.refl wr.heap.size wr).drew.trans hb6); (have s6 : wr.heap.size ≤ w6.heap.size := hb6'.size); (obtain ⟨w7, e7, bn7, hb67, oX7⟩ : ∃ W, w6.alloc (.cells #[(.slice a3 nx.length c3)] 26) = W ∧ Hid (Box W w6.heap.size 26 (.slice a3 nx.length c3)) ∧ Below w6.heap.size w6 W ∧ Hid (OwnF W (w4.heap.size + 1) 36 (.slice a3 nx.length c3) nx) := ⟨_, rfl, Box.new w6 _ _, (Below.refl _ w6).alloc (Nat.le_refl _) _, (oX6.alloc _).low (by show _ ≤ wr.heap.size; omega)⟩); (have hb7 : Below wr.heap.size wr w7 := hb6'.trans (hb67.mono s6)); (clear hb67 oX6 hb6 hb6'); (have bo7 := hide ((unhide bo5).step hb7)); (have rC7 := hide ((unhide rC5).below hb7)); (have hat7 := hide ((unhide hat5).below hb7 gA5)); (have b47 := hide ((unhide hb5).trans (hb7.mono (by omega)))); (have s7 : wr.heap.size < w7.heap.size := by have := (unhide bn7).lt; omega); (replace hb7 := hide hb7); (have cn6 := (unhide bn7).cell))
          | (refine step_call rfl (F := 17) ((unhide CA) (wr.alloc (.cells #[.slice none 0 0] 26)).drew _ ((unhide rC5).alloc _).drew) (by go_simp) ?_; rintro e w6 ⟨⟨a3, c3, rfl, oX6⟩, hb6⟩; refine ⟨_, rfl, ?_⟩; (have hb6' : Below wr.heap.size wr w6 := (((Below.refl wr.heap.size wr).alloc (Nat.le_refl _) _).drew).trans (hb6.mono (by show _ ≤ (wr.alloc _).heap.size; simp))); (have s6 : wr.heap.size ≤ w6.heap.size := hb6'.size); (have bN6 : Box w6 wr.heap.size 26 (.slice none 0 0) := ((Box.new wr 26 (.slice none 0 0)).drew).step hb6); (have cN6 := bN6.cell); (have zN6 := bN6.frozen); (have lN6 := bN6.lt); (have bn7 := hide (bN6.set (.slice a3 nx.length c3))); (have oX7 := hide ((oX6.other (a := ⟨wr.heap.size, 0, none⟩) (by show wr.heap.size < (wr.alloc _).heap.size; simp) (.slice a3 nx.length c3)).low (base' := w4.heap.size + 1) (by show _ ≤ (wr.alloc _).heap.size; simp; omega))); (have hb7 := hb6'.setCell (p := ⟨wr.heap.size, 0, none⟩) (Nat.le_refl _) (.slice a3 nx.length c3)); (clear oX6 hb6 hb6' bN6); (generalize e7 : w6.setCell ⟨wr.heap.size, 0, none⟩ (.slice a3 nx.length c3) = w7 at bn7 oX7 hb7); (have bo7 := hide ((unhide bo5).step hb7)); (have rC7 := hide ((unhide rC5).below hb7)); (have hat7 := hide ((unhide hat5).below hb7 gA5)); (have b47 := hide ((unhide hb5).trans (hb7.mono (by omega)))); (have s7 : wr.heap.size < w7.heap.size := by have := (unhide bn7).lt; omega); (replace hb7 := hide hb7); (have cn6 := (unhide bn7).cell)))
        all_goals
          clear q0 q1 q2 q3 cb5 cn6
          obtain ⟨q0, q1, q2, q3⟩ := unhide hat7
          have cb7 := (unhide bo7).cell
          have lb7 := (unhide bo7).lt
          have gA7 : gA < w7.heap.size := by omega
          go_wp2_with fail
          clear e7
          go_region_law (first
            | (refine step_call rfl (F := 18) ((unhide CX) w7.drew _ (unhide rC7).drew) (by go_simp) ?_; rintro e w8 ⟨rfl, hb8⟩; refine ⟨_, rfl, ?_⟩; (have hb8' : Below w7.heap.size w7 w8 := (Below.refl w7.heap.size w7).drew.trans hb8); (have bo8 := hide ((unhide bo7).step hb8')); (have bn8 := hide ((unhide bn7).step hb8')); (have oX8 := hide ((unhide oX7).below hb8')); (have hat8 := hide ((unhide hat7).below hb8' gA7)); (have b48 := hide ((unhide b47).trans (hb8'.mono (by omega)))); (have s8 : w7.heap.size ≤ w8.heap.size := hb8'.size); (clear hb8 hb8')))
          all_goals
            clear q0 q1 q2 q3 cb7 lb7 bo7 bn7 oX7 hat7 b47 rC7
            obtain ⟨q0, q1, q2, q3⟩ := unhide hat8
            have cn8 := (unhide bn8).cell
            have ln8 := (unhide bn8).lt
            have gA8 : gA < w8.heap.size := by omega
            go_wp2_with fail
            go_region_law (first
              | (refine step_call rfl (F := 18) ((unhide CY) w8.drew _ (unhide oX8).rd.drew) (by go_simp) ?_; rintro e w9 ⟨rfl, hb9⟩; refine ⟨_, rfl, ?_⟩; (have hb9' : Below w8.heap.size w8 w9 := (Below.refl w8.heap.size w8).drew.trans hb9); (have bo9 := hide ((unhide bo8).step hb9')); (have bn9 := hide ((unhide bn8).step hb9')); (have oX9 := hide ((unhide oX8).below hb9')); (have hat9 := hide ((unhide hat8).below hb9' gA8)); (have b49 := hide ((unhide b48).trans (hb9'.mono (by omega)))); (have s9 : w8.heap.size ≤ w9.heap.size := hb9'.size); (clear hb9 hb9')))
            all_goals
              clear q0 q1 q2 q3 cn8 ln8 bo8 bn8 oX8 hat8 b48
              obtain ⟨q0, q1, q2, q3⟩ := unhide hat9
              have cn9 := (unhide bn9).cell
              have ln9 := (unhide bn9).lt
              have co9 := (unhide bo9).cell
              have zo9 := (unhide bo9).frozen
              have lo9 := (unhide bo9).lt
              have gA9 : gA < w9.heap.size := by omega
              have bo10 := hide ((unhide bo9).set (.slice a3 nx.length c3))
              have rX10 := hide (((unhide oX9).other (a := ⟨w4.heap.size, 0, none⟩) (by show w4.heap.size < _; omega) (.slice a3 nx.length c3)).rd)
              have b410 := hide ((unhide b49).setCell (p := ⟨w4.heap.size, 0, none⟩) (Nat.le_refl _) (.slice a3 nx.length c3))
              have hcur2 := hide (show Bd nx ∧ nx.length ≤ 2000000 from ⟨unhide hnB, by omega⟩)
              rcases unhide hcase with ⟨k1, rfl, rfl⟩ | ⟨k4, rfl⟩ | ⟨k1, k4⟩
              · have n1 : (a.kd == 1) = true := by rw [beq_iff_eq]; exact k1
                have n4 : (a.kd == 4) = false := by rw [beq_eq_false_iff_ne]; omega
                go_wp2
                go_roundw
                case rel => exact ⟨k + 1, nx, a3, c3, by omega, by go_num, hrun2, hcur2, bo10, rX10, b410⟩
                case measure => simp [intOf]; omega
              · have n1 : (a.kd == 1) = false := by rw [beq_eq_false_iff_ne]; omega
                have n4 : (a.kd == 4) = true := by rw [beq_iff_eq]; exact k4
                go_wp2
                go_roundw
                case rel => exact ⟨k + 1, nx, a3, c3, by omega, by go_num, hrun2, hcur2, bo10, rX10, b410⟩
                case measure => simp [intOf]; omega
              · have n1 : (a.kd == 1) = false := by rw [beq_eq_false_iff_ne]; omega
                have n4 : (a.kd == 4) = false := by rw [beq_eq_false_iff_ne]; omega
                go_wp2
                go_roundw
                case rel => exact ⟨k + 1, nx, a3, c3, by omega, by go_num, hrun2, hcur2, bo10, rX10, b410⟩
                case measure => simp [intOf]; omega
      · have hkm : k = m := by omega
        have hce := (unhide hrun).last (by rw [unhide hm]; exact hkm)
        rw [unhide hrs] at hce
        subst hce
        clear hrun hcur
        have bd5 := hide ((unhide bd4).step (unhide hb5))
        have bn5 := hide ((unhide bn4).step (unhide hb5))
        have oN5 := hide ((unhide oN4).below (unhide hb5))
        have rF5 := hide ((unhide rF4).below (unhide hb5))
        have rA5 := hide (And.intro ((unhide rA4).below (unhide hb5)) (unhide rA1).2)
        have rV5 := hide ((unhide rV4).below (unhide hb5))
        have HB5 := hide (bTr (unhide HB4) (unhide hb5))
        clear bd4 bn4 oN4 rF4 rA4 rV4 HAC
        have cd5 := (unhide bd5).cell
        have ld5 := (unhide bd5).lt
        go_wp2_with fail
        go_at_call 19
        refine ((unhide CC) _ _ _ _ (unhide rF5) (unhide rA5) (unhide rV5)).mono ?_
        rintro e w6 ⟨⟨aq, cq, rfl, oQ6⟩, hb6⟩
        have bd6 := hide ((unhide bd5).step hb6)
        have bn6 := hide ((unhide bn5).step hb6)
        have bo6 := hide ((unhide bo5).step hb6)
        have oN6 := hide ((unhide oN5).below hb6)
        have rC6 := hide ((unhide rC5).below hb6)
        have rF6 := hide ((unhide rF5).below hb6)
        have rA6 := hide (And.intro ((unhide rA5).1.below hb6) (unhide rA5).2)
        have rV6 := hide ((unhide rV5).below hb6)
        have HB6 := hide (bTr (unhide HB5) hb6)
        have s6 := sz0 hb6
        replace oQ6 := hide oQ6
        clear hb6 cd5 ld5 bd5 bn5 bo5 oN5 rC5 rF5 rA5 rV5
        have cd6 := (unhide bd6).cell
        have ld6 := (unhide bd6).lt
        go_wp2_with fail
        go_at_call 20
        refine ((unhide CD) _ _ _ _ ((unhide rF6).alloc _) (And.intro ((unhide rA6).1.alloc _) (unhide rA6).2) ((unhide rV6).alloc _)).mono ?_
        rintro e w7 ⟨⟨as7, cs7, rfl, oS7⟩, hb7⟩
        have bn7 := hide (((unhide bn6).alloc _).step hb7)
        have bo7 := hide (((unhide bo6).alloc _).step hb7)
        have bq7 := hide ((Box.new w6 _ _).step hb7)
        have oN7 := hide (((unhide oN6).alloc _).below hb7)
        have oQ7 := hide (((unhide oQ6).alloc _).below hb7)
        have rC7 := hide (((unhide rC6).alloc _).below hb7)
        have HB7 := hide (bTr (bTrA (unhide HB6) _) hb7)
        have s7 := sz1 hb7
        replace oS7 := hide oS7
        clear hb7 cd6 ld6 bd6 bn6 bo6 oN6 rC6 rF6 rA6 rV6 oQ6
        have cq7 := (unhide bq7).cell
        have lq7 := (unhide bq7).lt
        go_wp2_with fail
        go_at_call 10
        refine (sameDisk_any qs _ _ _ ((unhide oQ7).alloc _).rd ((unhide oS7).alloc _).rd (unhide hqn)).mono ?_
        rintro e w8 ⟨rfl, hb8⟩
        have bn8 := hide (((unhide bn7).alloc _).step hb8)
        have bo8 := hide (((unhide bo7).alloc _).step hb8)
        have oN8 := hide (((unhide oN7).alloc _).below hb8)
        have rC8 := hide (((unhide rC7).alloc _).below hb8)
        have HB8 := hide (bTr (bTrA (unhide HB7) _) hb8)
        have s8 := sz1 hb8
        clear hb8 cq7 lq7 bn7 bo7 oN7 rC7 oQ7 oS7
        have cn8 := (unhide bn8).cell
        have ln8 := (unhide bn8).lt
        have co8 := (unhide bo8).cell
        have lo8 := (unhide bo8).lt
        by_cases hm0 : m = 0
        · subst hm0
          go_wp2
          go_ret
          exact ⟨rfl, unhide HB8⟩
        · have hm1 : ((m : Int) == 0) = false := by rw [beq_eq_false_iff_ne]; omega
          go_wp2_with fail
          go_at_call 10
          refine (sameDisk_any rs _ _ _ (unhide rC8) (unhide oN8).rd (unhide hrn)).mono ?_
          rintro e w9 ⟨rfl, hb9⟩
          have HB9 := hide (bTr (unhide HB8) hb9)
          clear hb9
          go_wp2
          go_ret
          exact ⟨rfl, unhide HB9⟩
end Go.Proofs.Ytkaaabpodhgbpaa
