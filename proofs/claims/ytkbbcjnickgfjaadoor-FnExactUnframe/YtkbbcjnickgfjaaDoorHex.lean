/- What spec.Hex and impl.Hex come to, over the loaded program. -/
import Derived.Test.YtkbbcjnickgfjaaDoorChecked
import Derived.Test.YtkbbcjnickgfjaaDoorBase
import Derived.Deep.RegionWith
import Derived.Deep.RegionLaw
import Derived.Deep.RegionHeld3
namespace Go.Proofs.YtkbbcjnickgfjaaDoor
open Go.RowKit

theorem Tryd.infoBH : (Tryd.prog.info? 5).map (fun i => (i.zero, i.size, i.bytes)) = some (some (.int .u8 0), 1, 1) := by kernel_rfl

/-- The figure of a half byte. -/
def fig (n : Nat) : UInt8 := byteOf (if n < 10 then 48 + n else 87 + n)
/-- Two figures for each byte. -/
def hexB (l : List UInt8) : List UInt8 := l.flatMap fun b => [fig (b.toNat / 16), fig (b.toNat % 16)]
theorem fig_toNat {n : Nat} (h : n < 16) : (fig n).toNat = if n < 10 then 48 + n else 87 + n := by
  unfold fig; rw [byteOf_toNat]; split <;> omega
theorem hexB_len (l : List UInt8) : (hexB l).length = 2 * l.length := by
  unfold hexB; induction l with
  | nil => rfl
  | cons a t ih => rw [List.flatMap_cons, List.length_append, ih]; simp; omega
theorem hexB_snoc (l : List UInt8) (b : UInt8) : hexB (l ++ [b]) = hexB l ++ [fig (b.toNat / 16), fig (b.toNat % 16)] := by
  unfold hexB; simp


theorem cs_two {c d : Int} {a b : UInt8} (h : c = (a.toNat : Int)) (h' : d = (b.toNat : Int)) : (#[Value.int .u8 c, Value.int .u8 d] : Array Value).toList = [a, b].map bv := by simp [bv, h, h']

theorem take_step0 (s : ByteArray) (k : Nat) (h : k < s.size) : s.data.toList.take (k + 1) = s.data.toList.take k ++ [s[k]] := by
  rw [List.take_succ_eq_append_getElem (by simpa using h)]; rfl

end Go.Proofs.YtkbbcjnickgfjaaDoor
