/- Streams and digests by the sponge, by the given model, over the loaded program. -/
import Derived.Test.YtkidgllmhdfgaanDoorSpk6
import Derived.Test.YtkidgllmhdfgaanDoorSpg13
namespace Go.Proofs.YtkidgllmhdfgaanDoor
open Go.RowKit
theorem in_any (x a b : Int) (w : World) :
    Calls Tryd.prog 19 #[.int .i64 x, .int .i64 a, .int .i64 b] w fun e w' => e = .returned (.bool (decide (a ≤ x) && decide (x ≤ b))) ∧ w' = w := by
  obtain ⟨r, hr⟩ : ∃ r, r = (decide (a ≤ x) && decide (x ≤ b)) := ⟨_, rfl⟩
  rw [← hr]
  replace hr := hide hr
  by_cases h1 : a ≤ x
  · by_cases h2 : x ≤ b
    · go_enter Tryd.func19, Tryd.ntmps19
      go_wp2
      go_ret
      exact ⟨by rw [unhide hr, decide_eq_true (show a ≤ x by omega), decide_eq_true (show x ≤ b by omega)]; rfl, rfl⟩
    · go_enter Tryd.func19, Tryd.ntmps19
      go_wp2
      go_ret
      exact ⟨by rw [unhide hr, decide_eq_true (show a ≤ x by omega), decide_eq_false (show ¬ x ≤ b by omega)]; rfl, rfl⟩
  · go_enter Tryd.func19, Tryd.ntmps19
    go_wp2
    go_ret
    exact ⟨by rw [unhide hr, decide_eq_false (show ¬ a ≤ x by omega)]; rfl, rfl⟩
set_option maxRecDepth 20000 in
theorem specSha3_any (s : ByteArray) (hs : s.size ≤ 10000000) (w : World) :
    Calls Tryd.prog 10 #[.string s] w fun e w' => e = .returned (.string ((textN (absorbL s 136 6)).extract 0 32)) ∧ Below w.heap.size w w' := by
  have C1 := hide (fun W => specAbsorb_any s hs 136 6 (by decide) (by decide) (by decide) (by decide) W)
  have hts := textN_size (absorbL_ok s 136 6).1
  generalize textN (absorbL s 136 6) = out at *
  go_enter Tryd.func10, Tryd.ntmps10
  go_wp2_with fail
  refine ((unhide C1) w).mono ?_
  rintro e w1 ⟨rfl, hb1⟩
  replace hb1 := hide hb1
  go_wp2
  go_ret
  exact ⟨rfl, unhide hb1⟩
set_option maxRecDepth 20000 in
theorem specStreamNew_any (s : ByteArray) (hs : s.size ≤ 10000000) (w : World) :
    Calls Tryd.prog 21 #[.string s] w fun e w' => e = .returned (smv (newS s)) ∧ Below w.heap.size w w' := by
  have C1 := hide (fun W => specAbsorb_any s hs 168 31 (by decide) (by decide) (by decide) (by decide) W)
  unfold newS
  generalize textN (absorbL s 168 31) = out at *
  go_enter Tryd.func21, Tryd.ntmps21
  go_wp2_with fail
  obtain ⟨W, hW, hB, hb, hlt⟩ := one_sm w s0 39
  unfold s0 at hW
  dsimp only at hW
  rw [hW]
  clear hW
  refine ((unhide C1) W).mono ?_
  rintro e w1 ⟨rfl, hb1⟩
  have hB1 := hB.step hb1
  have k0 := hB1.c0
  have k1 := hB1.c1
  have f0 := hB1.frozen 0
  have f1 := hB1.frozen 1
  have HT1 := hide (hb.trans (hb1.mono (Nat.le_of_lt hlt)))
  replace hB1 := hide hB1
  clear hB hb hb1
  go_wp2
  refine bodyPost_ret (v := smv ⟨out, 0⟩) (results_sm Tryd.results21 _ _ w.heap.size 39 _ _ rfl ((unhide hB1).set2 ⟨out, 0⟩) Tryd.underlying39 (by kernel_rfl)) rfl ⟨rfl, ?_⟩
  exact ((unhide HT1).setCell (p := ⟨w.heap.size, 0, none⟩) (Nat.le_refl _) _).setCell (p := ⟨w.heap.size, 1, none⟩) (Nat.le_refl _) _
theorem SB.own {w w' : World} {g base : Nat} {T e : TypeId} {a : Sm} {v : Value} {n : Nat} {xs : List Value} (hA : SB w g T a) (ho : w.ownsRow base e 1 v n xs) (hG : w.grownBy w' v.ownBlock) (hg : g < base) : SB w' g T a := by
  have hl := hA.lt
  unfold SB at hA ⊢
  rw [hG.block g hl ?_]
  · exact hA
  · intro hh
    have := (ho.lt g hh.symm).1
    omega
theorem ownsRow_off {w : World} {base g k : Nat} {e : TypeId} {v : Value} {n : Nat} {xs : List Value} (h : w.ownsRow base e 1 v n xs) (u : Value) (hg : g < base) : (w.setCell ⟨g, k, none⟩ u).ownsRow base e 1 v n xs := by
  refine ⟨h.1, ?_⟩
  rcases h.2 with hn | ⟨g', cap, cur, hv, hb, hh, rest⟩
  · exact .inl hn
  · refine .inr ⟨g', cap, cur, hv, hb, ?_, rest⟩
    rw [Below.heap_setCell _ _ _ g' (show g' ≠ g by omega)]
    exact hh
theorem perm_text {a : List Nat} (h : LanesOk a) : permT (textN a) = textN (keccak a) := by
  unfold permT
  rw [if_pos (textN_size h.1), lanes_text h]
set_option maxRecDepth 20000 in
set_option maxHeartbeats 1000000 in
theorem specTake_no1 (st : ByteArray) (p : Int) (n : Int) (w : World) (hno : ¬ (0 ≤ n ∧ n ≤ 4000)) :
    Calls Tryd.prog 20 #[smv ⟨st, p⟩, .int .i64 n] w fun e w' => e = .returned (.tuple #[smv ⟨st, p⟩, .string ⟨#[]⟩]) ∧ Below w.heap.size w w' := by
  have C1 := hide (fun W => in_any n 0 4000 W)
  have C2 := hide (fun W => in_any p 0 168 W)
  rw [show (decide (0 ≤ n) && decide (n ≤ 4000)) = false by simp; omega] at C1
  clear hno
  unfold smv
  dsimp only
  go_enter Tryd.func20, Tryd.ntmps20
  go_wp2_with fail
  obtain ⟨W, hW, hB, hR, hb, hlt⟩ := two_sm w ⟨st, p⟩ s0 39 39
  unfold s0 at hW
  dsimp only at hW
  rw [hW]
  clear hW
  have k0 := hB.c0
  have k1 := hB.c1
  have r0 := hR.c0
  have r1 := hR.c1
  have q0 := hR.frozen 0
  have q1 := hR.frozen 1
  dsimp only at k0 k1
  replace hB := hide hB
  replace hR := hide hR
  replace hb := hide hb
  refine ((unhide C1) W).mono ?_
  rintro e w1 ⟨rfl, rfl⟩
  go_wp2
  refine bodyPost_ret (v := .tuple #[smv ⟨st, p⟩, .string ⟨#[]⟩]) ?_ rfl ⟨rfl, ((unhide hb).setCell (p := ⟨w.heap.size + 1, 0, none⟩) (by show w.heap.size ≤ w.heap.size + 1; omega) _).setCell (p := ⟨w.heap.size + 1, 1, none⟩) (by show w.heap.size ≤ w.heap.size + 1; omega) _⟩
  have hF := (unhide hR).set2 ⟨st, p⟩
  have g0 := hF.c0
  have g1 := hF.c1
  dsimp only at g0 g1
  simp [results, Tryd.results20, go_sem, smv, g0, g1]
set_option maxRecDepth 20000 in
set_option maxHeartbeats 1000000 in
theorem specTake_no2 (st : ByteArray) (p : Int) (n : Int) (w : World) (hn : 0 ≤ n ∧ n ≤ 4000) (hno : ¬ st.size = 200) :
    Calls Tryd.prog 20 #[smv ⟨st, p⟩, .int .i64 n] w fun e w' => e = .returned (.tuple #[smv ⟨st, p⟩, .string ⟨#[]⟩]) ∧ Below w.heap.size w w' := by
  have C1 := hide (fun W => in_any n 0 4000 W)
  have C2 := hide (fun W => in_any p 0 168 W)
  rw [show (decide (0 ≤ n) && decide (n ≤ 4000)) = true by simp; omega] at C1
  have hno' : ¬ (st.size : Int) = 200 := by omega
  clear hno
  unfold smv
  dsimp only
  go_enter Tryd.func20, Tryd.ntmps20
  go_wp2_with fail
  obtain ⟨W, hW, hB, hR, hb, hlt⟩ := two_sm w ⟨st, p⟩ s0 39 39
  unfold s0 at hW
  dsimp only at hW
  rw [hW]
  clear hW
  have k0 := hB.c0
  have k1 := hB.c1
  have r0 := hR.c0
  have r1 := hR.c1
  have q0 := hR.frozen 0
  have q1 := hR.frozen 1
  dsimp only at k0 k1
  replace hB := hide hB
  replace hR := hide hR
  replace hb := hide hb
  refine ((unhide C1) W).mono ?_
  rintro e w1 ⟨rfl, rfl⟩
  go_wp2
  refine bodyPost_ret (v := .tuple #[smv ⟨st, p⟩, .string ⟨#[]⟩]) ?_ rfl ⟨rfl, ((unhide hb).setCell (p := ⟨w.heap.size + 1, 0, none⟩) (by show w.heap.size ≤ w.heap.size + 1; omega) _).setCell (p := ⟨w.heap.size + 1, 1, none⟩) (by show w.heap.size ≤ w.heap.size + 1; omega) _⟩
  have hF := (unhide hR).set2 ⟨st, p⟩
  have g0 := hF.c0
  have g1 := hF.c1
  dsimp only at g0 g1
  simp [results, Tryd.results20, go_sem, smv, g0, g1]
set_option maxRecDepth 20000 in
set_option maxHeartbeats 1000000 in
theorem specTake_no3 (st : ByteArray) (p : Int) (n : Int) (w : World) (hn : 0 ≤ n ∧ n ≤ 4000) (h2 : st.size = 200) (hno : ¬ (0 ≤ p ∧ p ≤ 168)) :
    Calls Tryd.prog 20 #[smv ⟨st, p⟩, .int .i64 n] w fun e w' => e = .returned (.tuple #[smv ⟨st, p⟩, .string ⟨#[]⟩]) ∧ Below w.heap.size w w' := by
  have C1 := hide (fun W => in_any n 0 4000 W)
  have C2 := hide (fun W => in_any p 0 168 W)
  rw [show (decide (0 ≤ n) && decide (n ≤ 4000)) = true by simp; omega] at C1
  rw [show (decide (0 ≤ p) && decide (p ≤ 168)) = false by simp; omega] at C2
  have h2' : (st.size : Int) = 200 := by omega
  clear hno
  unfold smv
  dsimp only
  go_enter Tryd.func20, Tryd.ntmps20
  go_wp2_with fail
  obtain ⟨W, hW, hB, hR, hb, hlt⟩ := two_sm w ⟨st, p⟩ s0 39 39
  unfold s0 at hW
  dsimp only at hW
  rw [hW]
  clear hW
  have k0 := hB.c0
  have k1 := hB.c1
  have r0 := hR.c0
  have r1 := hR.c1
  have q0 := hR.frozen 0
  have q1 := hR.frozen 1
  dsimp only at k0 k1
  replace hB := hide hB
  replace hR := hide hR
  replace hb := hide hb
  refine ((unhide C1) W).mono ?_
  rintro e w1 ⟨rfl, rfl⟩
  go_wp2_with (go_at_call 19; refine ((unhide C2) _).mono ?_; rintro e w2 ⟨rfl, rfl⟩)
  refine bodyPost_ret (v := .tuple #[smv ⟨st, p⟩, .string ⟨#[]⟩]) ?_ rfl ⟨rfl, ((unhide hb).setCell (p := ⟨w.heap.size + 1, 0, none⟩) (by show w.heap.size ≤ w.heap.size + 1; omega) _).setCell (p := ⟨w.heap.size + 1, 1, none⟩) (by show w.heap.size ≤ w.heap.size + 1; omega) _⟩
  have hF := (unhide hR).set2 ⟨st, p⟩
  have g0 := hF.c0
  have g1 := hF.c1
  dsimp only at g0 g1
  simp [results, Tryd.results20, go_sem, smv, g0, g1]
end Go.Proofs.YtkidgllmhdfgaanDoor
