/- Things by the given model: flags, texts, over the loaded program. -/
import Derived.Test.YtecbpplocokedaaThg1
namespace Go.Proofs.Ytecbpplocokedaa
open Go.RowKit
def flI (b : Bool) (n : Int) : Int := if b then n else 0
theorem flI_cast (b : Bool) (n : Nat) : flI b (n : Int) = ((flB b n : Nat) : Int) := by cases b <;> rfl
theorem varB_len9 {n : Nat} (h : n ≤ 1048576) : (varB n).length ≤ 3 := by
  by_cases h1 : n ≤ 127
  · rw [varB_small h1]; simp
  · rw [varB_big h1, List.length_cons]
    have := varB_two9 (n := n / 128) (by omega)
    omega
def shB (s : ByteArray) : ByteArray := ⟨(varB s.size).toArray⟩ ++ s
theorem oneY_size9 (z : Int) : (oneY z).size = 1 := rfl
theorem arr_app (a b : List UInt8) : (⟨a.toArray⟩ ++ ⟨b.toArray⟩ : ByteArray) = ⟨(a ++ b).toArray⟩ := by
  apply ByteArray.ext
  rw [ByteArray.data_append]
  simp
theorem oneY_by (n : Nat) (h : n < 256) : oneY (n : Int) = ⟨[byteOf n].toArray⟩ := by
  unfold oneY
  rw [show b256 (n : Int) = n by unfold b256; omega]
  rfl
theorem thT_is {x : Th} (h : ThOk x) : thT x = ⟨(varB x.id.toNat).toArray⟩ ++ oneY x.kind ++ oneY ((fl x : Nat) : Int) ++ shB x.val ++ ⟨(varB x.nxt.toNat).toArray⟩ := by
  have hk : x.kind = ((x.kind.toNat : Nat) : Int) := by omega
  have hf := fl_lt x
  rw [oneY_by (fl x) (by omega), hk, oneY_by x.kind.toNat (by omega)]
  unfold shB thT thL
  rw [show x.val = ⟨x.val.data.toList.toArray⟩ by simp]
  simp only [arr_app]
  simp
def ttB (x : Th) : ByteArray := if thOk x = true then thT x else ⟨#[]⟩
end Go.Proofs.Ytecbpplocokedaa
