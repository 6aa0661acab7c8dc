/- One byte of a number, by the given model, over the loaded program. -/
import Derived.Test.YtjhjoaihdpahhaaStrs
import Derived.Test.YtjhjoaihdpahhaaProg
import Derived.Test.YtjhjoaihdpahhaaChecked
import Derived.Deep.RegionHeld3
import Derived.BigQuiet
import Derived.Lib.AppendStr
import Derived.Lib.ConvBytes
namespace Go.Proofs.Ytjhjoaihdpahhaa
open Go.RowKit
def b256 (z : Int) : Nat := (z % 256).toNat
theorem b256_lt (z : Int) : b256 z < 256 := by unfold b256; omega
def oneY (z : Int) : ByteArray := ⟨#[UInt8.ofNat (b256 z)]⟩
theorem conv_oneY (w : World) (x : Nat) (hx : x < 256) : (convert 50 9 (.slice (some ⟨w.heap.size, 0, none⟩) 1 1)).run Try.prog (w.alloc (.cells #[.int .u8 (x : Int)] 5)) = .ok (.string ⟨#[UInt8.ofNat x]⟩) (w.alloc (.cells #[.int .u8 (x : Int)] 5)) := by
  refine run_convert_bytes_back (P := Try.prog) _ 50 9 5 ⟨w.heap.size, 0, none⟩ 1 [UInt8.ofNat x] Try.underlying50 Try.underlying5 Try.underlying9 (fun j hj => ?_)
  have hj0 : j = 0 := by simpa using hj
  subst hj0
  have hadd : (⟨w.heap.size, 0, none⟩ : Addr).add 0 = ⟨w.heap.size, 0, none⟩ := by unfold Addr.add; split <;> simp_all
  rw [hadd, cell_of_row _ w.heap.size 0 _ _ (0, 0) (heap_alloc_new w _)]
  have hb : (UInt8.ofNat x).toNat = x := byteOf_toNat hx
  simp [hb]
set_option maxRecDepth 20000 in
set_option maxHeartbeats 400000 in
theorem specByteY_any (z : Int) (w : World) :
    Calls Try.prog 19 #[.int .i64 z] w fun e w' => e = .returned (.string (oneY z)) ∧ Below w.heap.size w w' := by
  have hx := b256_lt z
  have E := hide (show oneY z = ⟨#[UInt8.ofNat (b256 z)]⟩ from rfl)
  rw [unhide E]
  have hm : (z.tmod 256 = (b256 z : Int)) ∨ (z.tmod 256 < 0 ∧ z.tmod 256 + 256 = (b256 z : Int)) := by
    have e := @Int.tmod_eq_emod z 256
    unfold b256
    split at e
    · left; rw [e]; omega
    · rename_i hn
      right
      have h0 : ¬ 256 ∣ z := fun hd => hn (.inr hd)
      have e2 : z.tmod 256 = z % 256 - 256 := e
      rw [e2]
      omega
  generalize b256 z = x at *
  have ew : IntKind.u8.wrap (x : Int) = (x : Int) := by rw [IntKind.wrap_u8]; omega
  have ew8 : (x : Int) % 256 = (x : Int) := by omega
  have ew2 : IntKind.i64.wrap (x : Int) = (x : Int) := by rw [IntKind.wrap_i64]; omega
  have hcv := conv_oneY w x hx
  have hb : Below w.heap.size w (w.alloc (.cells #[.int .u8 (x : Int)] 5)) := (Below.refl w.heap.size w).alloc (Nat.le_refl _) _
  rcases hm with h | ⟨h1, h2⟩
  · have e3 : ¬ (x : Int) < 0 := by omega
    go_enter Try.func19, Try.ntmps19
    go_wp2
    go_ret
    exact ⟨rfl, hb⟩
  · obtain ⟨t, ht⟩ : ∃ t, t = z.tmod 256 := ⟨_, rfl⟩
    rw [← ht] at h1 h2
    have ht' := ht.symm
    have ew3 : IntKind.i64.wrap t = t := by rw [IntKind.wrap_i64]; omega
    have ew4 : IntKind.i64.wrap (t + 256) = (x : Int) := by rw [h2]; exact ew2
    clear ht
    replace h2 := hide h2
    go_enter Try.func19, Try.ntmps19
    go_wp2
    go_ret
    exact ⟨rfl, hb⟩
end Go.Proofs.Ytjhjoaihdpahhaa
