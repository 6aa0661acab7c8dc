/- Packing by the project: Unpack, Squeeze, Stretch, over the loaded program. -/
import Derived.Test.YtkiocjbooegajaqDoorPckD
namespace Go.Proofs.YtkiocjbooegajaqDoor
open Go.RowKit
set_option maxRecDepth 20000 in
set_option maxHeartbeats 400000 in
theorem implUnpack_any (s : ByteArray) (bits n : Int) (_ : s.size ≤ 1048576) (w : World) (hL : LaidB w) :
    Calls Tryd.prog 10 #[.string s, .int .i64 bits, .int .i64 n] w fun e w' => (∃ v, e = .returned (.tuple #[v, .bool (upOk s bits n)]) ∧ OwnV w' w.heap.size 3 v ((upL s bits n).map iv)) ∧ Below w.heap.size w w' := by
  have C1 := hide (fun W => packBitsOk_any bits W)
  have E2 := hide (show upOk s bits n = false → upL s bits n = [] from fun h => by unfold upL; rw [h]; rfl)
  have hR := Below.refl w.heap.size w
  by_cases hb : 1 ≤ bits ∧ bits ≤ 12
  · rw [decide_eq_true hb] at C1
    by_cases hn0 : n < 0
    · have E1 := hide (show upOk s bits n = false by unfold upOk; rw [decide_eq_false (show ¬ (0 ≤ n ∧ n ≤ 1000) by omega), Bool.false_and, Bool.and_false])
      go_enter Tryd.func10, Tryd.ntmps10
      go_wp2_with fail
      refine (unhide C1 _).mono ?_
      rintro e w2 ⟨rfl, hw2⟩
      have hw3 := hw2.symm
      subst hw3
      clear hw2
      go_wp2
      refine bodyPost_ret (v := .tuple #[.slice none 0 0, .bool false]) (by simp [results, Tryd.results10, go_sem]) rfl ⟨⟨_, by rw [unhide E1], by rw [unhide E2 (unhide E1)]; exact OwnV.nil _ _ _⟩, hR⟩
    · by_cases hn1 : 1000 < n
      · have E1 := hide (show upOk s bits n = false by unfold upOk; rw [decide_eq_false (show ¬ (0 ≤ n ∧ n ≤ 1000) by omega), Bool.false_and, Bool.and_false])
        go_enter Tryd.func10, Tryd.ntmps10
        go_wp2_with fail
        refine (unhide C1 _).mono ?_
        rintro e w2 ⟨rfl, hw2⟩
        have hw3 := hw2.symm
        subst hw3
        clear hw2
        go_wp2
        refine bodyPost_ret (v := .tuple #[.slice none 0 0, .bool false]) (by simp [results, Tryd.results10, go_sem]) rfl ⟨⟨_, by rw [unhide E1], by rw [unhide E2 (unhide E1)]; exact OwnV.nil _ _ _⟩, hR⟩
      · obtain ⟨b, rfl⟩ : ∃ b : Nat, bits = (b : Int) := ⟨bits.toNat, by omega⟩
        obtain ⟨k, rfl⟩ : ∃ k : Nat, n = (k : Int) := ⟨n.toNat, by omega⟩
        have hb1 : 1 ≤ b ∧ b ≤ 12 := by omega
        have hk1 : k ≤ 1000 := by omega
        have C2 := hide (fun W => packedSize_any k b (by omega) hb1.2 W)
        obtain ⟨m, hm⟩ : ∃ m, m = byN k b := ⟨_, rfl⟩
        rw [← hm] at C2
        by_cases hs : s.size = m
        · have CI := hide (numbersIn_any s b k hb1 hk1 (by rw [hs, hm]) w hL)
          have hs' : (s.size : Int) = (m : Int) := by omega
          generalize upOk s (b : Int) (k : Int) = ok at *
          generalize upL s (b : Int) (k : Int) = ls at *
          replace hm := hide hm; replace hs := hide hs
          go_enter Tryd.func10, Tryd.ntmps10
          go_wp2_with fail
          refine (unhide C1 _).mono ?_
          rintro e w2 ⟨rfl, hw2⟩
          have hw3 := hw2.symm
          subst hw3
          clear hw2
          go_wp2_with fail
          refine (unhide C2 _).mono ?_
          rintro e w2 ⟨rfl, hw2⟩
          have hw3 := hw2.symm
          subst hw3
          clear hw2
          go_wp2_with fail
          refine (unhide CI).mono ?_
          rintro e w2 ⟨⟨v, rfl, hO⟩, hB⟩
          replace hO := hide hO
          clear CI
          go_wp2
          refine bodyPost_ret (v := .tuple #[v, .bool ok]) (by simp [results, Tryd.results10, go_sem]) rfl ⟨⟨_, rfl, unhide hO⟩, hB⟩
        · have E1 := hide (show upOk s (b : Int) (k : Int) = false by unfold upOk; rw [Int.toNat_natCast, Int.toNat_natCast, ← hm, decide_eq_false hs, Bool.false_and, Bool.and_false, Bool.and_false])
          have hs' : ((s.size : Int) != (m : Int)) = true := by rw [bne_iff_ne]; omega
          have hk2 : ¬ (k : Int) < 0 := by omega
          have hk3 : ¬ 1000 < (k : Int) := by omega
          replace hm := hide hm
          go_enter Tryd.func10, Tryd.ntmps10
          go_wp2_with fail
          refine (unhide C1 _).mono ?_
          rintro e w2 ⟨rfl, hw2⟩
          have hw3 := hw2.symm
          subst hw3
          clear hw2
          go_wp2_with fail
          refine (unhide C2 _).mono ?_
          rintro e w2 ⟨rfl, hw2⟩
          have hw3 := hw2.symm
          subst hw3
          clear hw2
          go_wp2
          refine bodyPost_ret (v := .tuple #[.slice none 0 0, .bool false]) (by simp [results, Tryd.results10, go_sem]) rfl ⟨⟨_, by rw [unhide E1], by rw [unhide E2 (unhide E1)]; exact OwnV.nil _ _ _⟩, hR⟩
  · rw [decide_eq_false hb] at C1
    have E1 := hide (show upOk s bits n = false by unfold upOk; rw [decide_eq_false hb, Bool.false_and])
    go_enter Tryd.func10, Tryd.ntmps10
    go_wp2_with fail
    refine (unhide C1 _).mono ?_
    rintro e w2 ⟨rfl, hw2⟩
    have hw3 := hw2.symm
    subst hw3
    clear hw2
    go_wp2
    refine bodyPost_ret (v := .tuple #[.slice none 0 0, .bool false]) (by simp [results, Tryd.results10, go_sem]) rfl ⟨⟨_, by rw [unhide E1], by rw [unhide E2 (unhide E1)]; exact OwnV.nil _ _ _⟩, hR⟩
end Go.Proofs.YtkiocjbooegajaqDoor
