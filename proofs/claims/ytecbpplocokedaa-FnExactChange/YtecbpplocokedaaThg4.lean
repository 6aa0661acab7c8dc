/- Things that are read, by the given model, over the loaded program. -/
import Derived.Test.YtecbpplocokedaaThg3
import Derived.Laws.CopyOwn
namespace Go.Proofs.Ytecbpplocokedaa
open Go.RowKit
theorem neStr9 {a b : ByteArray} (h : ¬ a = b) : (a.toList == b.toList) = false := by
  rw [← beq_toListBytes]
  show (a.data == b.data) = false
  rw [beq_eq_false_iff_ne]
  intro e
  apply h
  cases a
  cases b
  simp_all
theorem bit_eq (n : Nat) : (((n : Int) % 2 == 1) = decide (n % 2 = 1)) := by
  by_cases h : n % 2 = 1
  · rw [decide_eq_true h]; simp; omega
  · rw [decide_eq_false h, beq_eq_false_iff_ne]; omega
theorem rdX_eq {t : ByteArray} {n1 a1 n2 a2 n3 a3 a4 n5 a5 : Nat} {b1 b2 b3 b4 b5 : Bool} {s4 : ByteArray} (h1 : vrS t 0 false = (n1, a1, b1)) (h2 : onS t a1 b1 = (n2, a2, b2)) (h3 : onS t a2 b2 = (n3, a3, b3)) (h4 : shS t a3 b3 = (s4, a4, b4)) (h5 : vrS t a4 b4 = (n5, a5, b5)) :
    rdX t = (⟨(n1 : Int), (n2 : Int), decide (n3 % 2 = 1), decide (n3 / 2 % 2 = 1), decide (n3 / 4 % 2 = 1), decide (n3 / 8 % 2 = 1), s4, (n5 : Int)⟩, b5) := by
  unfold rdX
  simp only [h1, h2, h3, h4, h5]
theorem th_one (x : Th) : (thC x).all (·.oneCell') = true := by unfold thC; simp [Value.oneCell']
theorem th_size (x : Th) : (Try.prog.info? 25).map (·.size) = some (thC x).size := by
  have h : (Try.prog.info? 25).map (·.size) = some 8 := by kernel_rfl
  rw [h]; rfl
end Go.Proofs.Ytecbpplocokedaa
