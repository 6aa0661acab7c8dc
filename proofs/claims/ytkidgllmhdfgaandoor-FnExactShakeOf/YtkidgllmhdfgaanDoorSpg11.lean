/- Streams begun, and ShakeOf, by impl, over the loaded program. -/
import Derived.Test.YtkidgllmhdfgaanDoorSpg10
import Derived.Test.YtkidgllmhdfgaanDoorStm
import Derived.Test.YtkidgllmhdfgaanDoorEqa
namespace Go.Proofs.YtkidgllmhdfgaanDoor
open Go.RowKit
def shakeL (s : ByteArray) (n : Nat) : List UInt8 := (gvEnd n ⟨absorbL s 168 31, 0, []⟩).out
theorem shakeSize_any (n : Int) (w : World) :
    Calls Tryd.prog 22 #[.int .i64 n] w fun e w' => e = .returned (.bool (decide (0 ≤ n) && decide (n ≤ 4000))) ∧ w' = w := by
  obtain ⟨r, hr⟩ : ∃ r, r = (decide (0 ≤ n) && decide (n ≤ 4000)) := ⟨_, rfl⟩
  rw [← hr]
  replace hr := hide hr
  by_cases h1 : 0 ≤ n
  · by_cases h2 : n ≤ 4000
    · go_enter Tryd.func22, Tryd.ntmps22
      go_wp2
      go_ret
      exact ⟨by rw [unhide hr, decide_eq_true (show 0 ≤ n by omega), decide_eq_true (show n ≤ 4000 by omega)]; rfl, rfl⟩
    · go_enter Tryd.func22, Tryd.ntmps22
      go_wp2
      go_ret
      exact ⟨by rw [unhide hr, decide_eq_true (show 0 ≤ n by omega), decide_eq_false (show ¬ n ≤ 4000 by omega)]; rfl, rfl⟩
  · go_enter Tryd.func22, Tryd.ntmps22
    go_wp2
    go_ret
    exact ⟨by rw [unhide hr, decide_eq_false (show ¬ 0 ≤ n by omega)]; rfl, rfl⟩
set_option maxRecDepth 20000 in
set_option maxHeartbeats 400000 in
theorem implShake_yes (s : ByteArray) (hs : s.size ≤ 10000000) (n : Nat) (hn : n ≤ 4000) (w : World) (hL : Laid w) :
    Calls Tryd.prog 9 #[.string s, .int .i64 (n : Int)] w fun e w' => e = .returned (.tuple #[.string ⟨(shakeL s n).toArray⟩, .bool true]) ∧ Below w.heap.size w w' := by
  have C0 := hide (fun W => shakeSize_any (n : Int) W)
  rw [show (decide (0 ≤ (n : Int)) && decide ((n : Int) ≤ 4000)) = true by simp; omega] at C0
  have C1 := hide (fun W hL => lanesOf_any s hs 168 31 (by decide) (by decide) (by decide) W hL)
  have hok := absorbL_ok s 168 31
  have hi := hide (info25 hok.1)
  have hzl := hide (show zeros25.length = (absorbL s 168 31).length by rw [hok.1]; rfl)
  have C2 : Hid (∀ g W, 0 ≠ g → Laid W → LnAt W g 34 (absorbL s 168 31) → Calls Tryd.prog 24 #[.pointer (some ⟨g, 0, none⟩), .int .i64 0, .int .i64 (n : Int)] W fun e w' => e = .returned (.tuple #[.string ⟨(gvEnd n ⟨absorbL s 168 31, 0, []⟩).out.toArray⟩, .int .i64 ((gvEnd n ⟨absorbL s 168 31, 0, []⟩).p : Int)]) ∧ LnAt w' g 34 (gvEnd n ⟨absorbL s 168 31, 0, []⟩).a ∧ W.grownBy w' (some g)) := hide (fun g W hne hL hW => give_any (absorbL s 168 31) hok 0 n (by decide) hn g W hne hL hW)
  have HL := hide hL
  have hlt := hL.lt
  clear hL hok
  unfold shakeL
  generalize gvEnd n ⟨absorbL s 168 31, 0, []⟩ = ge at *
  obtain ⟨ga, gp, go⟩ := ge
  dsimp only at *
  generalize absorbL s 168 31 = l at *
  go_enter Tryd.func9, Tryd.ntmps9
  go_wp2_with fail
  refine ((unhide C0) w).mono ?_
  rintro e w0 ⟨rfl, rfl⟩
  go_wp2_with fail
  refine ((unhide C1) w0 (unhide HL)).mono ?_
  rintro e w1 ⟨rfl, hb1⟩
  have hL1 := hide ((unhide HL).below hb1)
  have hs1 := hb1.size
  have HZ := hide (one_z25 w1 34)
  replace hb1 := hide hb1
  go_wp2_with (refine wpList_store_lan_as rfl 34 (.tmp 6) (.tmp 13) rfl w1.heap.size l zeros25 rfl rfl 34 (unhide HZ).1 (unhide hi) (unhide hzl) ?_; intro w2 hA2 _ hB2; have hb2 := (unhide HZ).2.trans hB2; clear hB2 HZ)
  have hL2 := (unhide hL1).below hb2
  refine ((unhide C2) _ w2 (by omega) hL2 hA2).mono ?_
  rintro e w3 ⟨rfl, hA3, hg3⟩
  have hs2 := hb2.size
  have HT3 := hide ((unhide hb1).trans ((bel_grown hb2 hg3 hs2 (Nat.le_refl _)).mono hs1))
  clear hA2 hg3 hA3 hb1 hb2 hL1 hL2
  go_wp2
  go_ret2
  exact ⟨rfl, unhide HT3⟩
set_option maxRecDepth 20000 in
theorem implShake_no (s : ByteArray) (n : Int) (hn : ¬ (0 ≤ n ∧ n ≤ 4000)) (w : World) :
    Calls Tryd.prog 9 #[.string s, .int .i64 n] w fun e w' => e = .returned (.tuple #[.string ⟨#[]⟩, .bool false]) ∧ Below w.heap.size w w' := by
  have C0 := hide (fun W => shakeSize_any n W)
  rw [show (decide (0 ≤ n) && decide (n ≤ 4000)) = false by simp; omega] at C0
  go_enter Tryd.func9, Tryd.ntmps9
  go_wp2_with fail
  refine ((unhide C0) w).mono ?_
  rintro e w0 ⟨rfl, rfl⟩
  go_wp2
  go_ret2
  exact ⟨rfl, Below.refl _ _⟩
def newS (s : ByteArray) : Sm := ⟨textN (absorbL s 168 31), 0⟩
def s0 : Sm := ⟨⟨#[]⟩, 0⟩
end Go.Proofs.YtkidgllmhdfgaanDoor
