/- One byte of a number, by the given model, over the loaded program. -/
import Derived.Test.YtecbpplocokedaaStrs
import Derived.Test.YtecbpplocokedaaProg
import Derived.Test.YtecbpplocokedaaChecked
import Derived.Deep.RegionHeld3
import Derived.BigQuiet
import Derived.Lib.AppendStr
import Derived.Lib.ConvBytes
namespace Go.Proofs.Ytecbpplocokedaa
open Go.RowKit
def b256 (z : Int) : Nat := (z % 256).toNat
theorem b256_lt (z : Int) : b256 z < 256 := by unfold b256; omega
def oneY (z : Int) : ByteArray := ⟨#[UInt8.ofNat (b256 z)]⟩
theorem conv_oneY (w : World) (x : Nat) (hx : x < 256) : (convert 22 9 (.slice (some ⟨w.heap.size, 0, none⟩) 1 1)).run Try.prog (w.alloc (.cells #[.int .u8 (x : Int)] 5)) = .ok (.string ⟨#[UInt8.ofNat x]⟩) (w.alloc (.cells #[.int .u8 (x : Int)] 5)) := by
  refine run_convert_bytes_back (P := Try.prog) _ 22 9 5 ⟨w.heap.size, 0, none⟩ 1 [UInt8.ofNat x] Try.underlying22 Try.underlying5 Try.underlying9 (fun j hj => ?_)
  have hj0 : j = 0 := by simpa using hj
  subst hj0
  have hadd : (⟨w.heap.size, 0, none⟩ : Addr).add 0 = ⟨w.heap.size, 0, none⟩ := by unfold Addr.add; split <;> simp_all
  rw [hadd, cell_of_row _ w.heap.size 0 _ _ (0, 0) (heap_alloc_new w _)]
  have hb : (UInt8.ofNat x).toNat = x := byteOf_toNat hx
  simp [hb]
end Go.Proofs.Ytecbpplocokedaa
