/- A state out of bytes, and the blocks of a text handed on one by one, by impl, over the loaded program. -/
import Derived.Test.YtecbpplocokedaaShaH
namespace Go.Proofs.Ytecbpplocokedaa
open Go.RowKit
theorem fill8_set {l : List Nat} {k : Nat} (h : l.length = k) (hk : k < 8) (v : Nat) : (l ++ List.replicate (8 - k) 0).set k v = (l ++ [v]) ++ List.replicate (8 - (k + 1)) 0 := by
  rw [List.set_append_right _ _ (by omega), show 8 - k = (8 - (k + 1)) + 1 by omega, List.replicate_succ, h, Nat.sub_self]
  simp
theorem two_z8 (w : World) (T : TypeId) : ArrAt ((w.alloc (.cells #[.int .u32 0, .int .u32 0, .int .u32 0, .int .u32 0, .int .u32 0, .int .u32 0, .int .u32 0, .int .u32 0] T)).alloc (.cells #[.int .u32 0, .int .u32 0, .int .u32 0, .int .u32 0, .int .u32 0, .int .u32 0, .int .u32 0, .int .u32 0] T)) (w.heap.size + 1) T zeros8 ∧
    ArrAt ((w.alloc (.cells #[.int .u32 0, .int .u32 0, .int .u32 0, .int .u32 0, .int .u32 0, .int .u32 0, .int .u32 0, .int .u32 0] T)).alloc (.cells #[.int .u32 0, .int .u32 0, .int .u32 0, .int .u32 0, .int .u32 0, .int .u32 0, .int .u32 0, .int .u32 0] T)) w.heap.size T zeros8 ∧
    Below w.heap.size w ((w.alloc (.cells #[.int .u32 0, .int .u32 0, .int .u32 0, .int .u32 0, .int .u32 0, .int .u32 0, .int .u32 0, .int .u32 0] T)).alloc (.cells #[.int .u32 0, .int .u32 0, .int .u32 0, .int .u32 0, .int .u32 0, .int .u32 0, .int .u32 0, .int .u32 0] T)) := two_arrs w T zeros8
theorem cut_front (s : ByteArray) (a : Nat) (h : a + 64 ≤ s.size) : (s.extract a s.size).extract 0 64 = s.extract a (a + 64) := by
  rw [ByteArray.extract_extract]
  congr 1
  omega
theorem cut_back (s : ByteArray) (a : Nat) (h : a + 64 ≤ s.size) : (s.extract a s.size).extract 64 (s.extract a s.size).size = s.extract (a + 64) s.size := by
  rw [ByteArray.extract_extract, ByteArray.size_extract]
  congr 1
  omega
theorem grownBy_trans {a b c : World} {g : Nat} (h : a.grownBy b (some g)) (k : b.grownBy c (some g)) : a.grownBy c (some g) :=
  ⟨k.os.trans h.os, k.tape.trans h.tape, k.output.trans h.output, Nat.le_trans h.size k.size, fun q hq hne => (k.block q (Nat.lt_of_lt_of_le hq h.size) hne).trans (h.block q hq hne)⟩
set_option maxRecDepth 20000 in
set_option maxHeartbeats 400000 in
theorem eachBlock_any (v : V8) (hv : v.ok) (s : ByteArray) (hs : s.size ≤ 10000000) (g : Nat) (w : World) (hA : ArrAt w g 67 v.toL) :
    Calls Try.prog 49 #[.string s, .int .i64 64, .func (Fn.func 50) #[.pointer (some ⟨g, 0, none⟩)] #[]] w fun e w' => e = .returned (.string (s.extract (64 * (s.size / 64)) s.size)) ∧ ArrAt w' g 67 (blocksW v s 0 (s.size / 64)).toL ∧ w.grownBy w' (some g) := by
  have HA := hide hA
  clear hA
  have HE := hide (show s = s.extract (64 * 0) s.size by simp)
  go_enter Try.func49, Try.ntmps49
  go_wp2
  go_loopw [0] (fun ti wr => ∃ k : Nat, 64 * k ≤ s.size ∧ ti = .string (s.extract (64 * k) s.size) ∧ Hid (ArrAt wr g 67 (blocksW v s 0 k).toL) ∧ Hid (w.grownBy wr (some g))) (fun ti _ => match ti with | .string t => t.size | _ => 0)
  case atStart => exact ⟨0, by omega, by rw [← unhide HE], HA, hide (World.grownBy.refl w _)⟩
  case round =>
    obtain ⟨k, hk, rfl, HM, HG⟩ := hrel
    have hez : (s.extract (64 * k) s.size).size = s.size - 64 * k := by rw [ByteArray.size_extract]; omega
    by_cases hlt : 64 * k + 64 ≤ s.size
    · have hf := cut_front s (64 * k) hlt
      have hb := cut_back s (64 * k) hlt
      have hz : (s.extract (64 * k) (64 * k + 64)).size = 64 := by rw [ByteArray.size_extract]; omega
      have hn : (s.extract (64 * k + 64) s.size).size + 64 = (s.extract (64 * k) s.size).size := by rw [ByteArray.size_extract, hez]; omega
      have HR := hide (show roundW (blocksW v s 0 k) (s.extract (64 * k) (64 * k + 64)) = blocksW v s 0 (k + 1) by show _ = roundW _ (s.extract (0 + 64 * k) (0 + 64 * k + 64)); rw [Nat.zero_add])
      obtain ⟨t2, ht2⟩ : ∃ t2, t2 = s.extract (64 * (k + 1)) s.size := ⟨_, rfl⟩
      have e2 : s.extract (64 * k + 64) s.size = t2 := by rw [ht2, Nat.mul_add]
      rw [e2] at hb hn
      clear e2
      have HK := hide ht2
      clear ht2
      have h64 : 64 ≤ ((s.extract (64 * k) s.size).size : Int) := by omega
      have hbig : (s.extract (64 * k) s.size).size ≤ 10000000 := by omega
      generalize s.extract (64 * k) s.size = t at *
      generalize s.extract (64 * k) (64 * k + 64) = blk at *
      have C := hide (take_any (blocksW v s 0 k) (blocksW_ok hv s 0 k) blk hz g wr (unhide HM))
      clear hez
      go_wp2_with (go_at_call 50; refine (unhide C).mono ?_; rintro e w1 ⟨rfl, hA1, hg1⟩)
      go_roundw
      case rel => exact ⟨k + 1, by omega, by rw [unhide HK], hide (by rw [← unhide HR]; exact hA1), hide (grownBy_trans (unhide HG) hg1)⟩
      case measure => show t2.size < t.size; omega
    · have hkk := hide (show s.size / 64 = k by omega)
      have h64 : ¬ 64 ≤ ((s.extract (64 * k) s.size).size : Int) := by omega
      have hbig : (s.extract (64 * k) s.size).size ≤ 10000000 := by omega
      obtain ⟨t, ht⟩ : ∃ t, t = s.extract (64 * k) s.size := ⟨_, rfl⟩
      rw [← ht] at h64 hbig ⊢
      replace ht := hide ht
      clear hez HE
      go_wp2
      go_ret
      rw [unhide hkk]
      exact ⟨by rw [← unhide ht]; rfl, unhide HM, unhide HG⟩
end Go.Proofs.Ytecbpplocokedaa
