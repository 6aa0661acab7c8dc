/- A state out of bytes, and the blocks of a text handed on one by one, by impl, over the loaded program. -/
import Derived.Test.YtkidgllmhdfgaabShaH
namespace Go.Proofs.Ytkidgllmhdfgaab
open Go.RowKit
theorem fill8_set {l : List Nat} {k : Nat} (h : l.length = k) (hk : k < 8) (v : Nat) : (l ++ List.replicate (8 - k) 0).set k v = (l ++ [v]) ++ List.replicate (8 - (k + 1)) 0 := by
  rw [List.set_append_right _ _ (by omega), show 8 - k = (8 - (k + 1)) + 1 by omega, List.replicate_succ, h, Nat.sub_self]
  simp
theorem two_z8 (w : World) (T : TypeId) : ArrAt ((w.alloc (.cells #[.int .u32 0, .int .u32 0, .int .u32 0, .int .u32 0, .int .u32 0, .int .u32 0, .int .u32 0, .int .u32 0] T)).alloc (.cells #[.int .u32 0, .int .u32 0, .int .u32 0, .int .u32 0, .int .u32 0, .int .u32 0, .int .u32 0, .int .u32 0] T)) (w.heap.size + 1) T zeros8 ∧
    ArrAt ((w.alloc (.cells #[.int .u32 0, .int .u32 0, .int .u32 0, .int .u32 0, .int .u32 0, .int .u32 0, .int .u32 0, .int .u32 0] T)).alloc (.cells #[.int .u32 0, .int .u32 0, .int .u32 0, .int .u32 0, .int .u32 0, .int .u32 0, .int .u32 0, .int .u32 0] T)) w.heap.size T zeros8 ∧
    Below w.heap.size w ((w.alloc (.cells #[.int .u32 0, .int .u32 0, .int .u32 0, .int .u32 0, .int .u32 0, .int .u32 0, .int .u32 0, .int .u32 0] T)).alloc (.cells #[.int .u32 0, .int .u32 0, .int .u32 0, .int .u32 0, .int .u32 0, .int .u32 0, .int .u32 0, .int .u32 0] T)) := two_arrs w T zeros8
set_option maxRecDepth 20000 in
set_option maxHeartbeats 1000000 in
theorem stateIn_any (s : ByteArray) (hs : s.size = 32) (w : World) :
    Calls Try.prog 32 #[.string s] w fun e w' => e = .returned (aggV (stOf s).toL) ∧ Below w.heap.size w w' := by
  have H2 := hide (two_z8 w 50)
  go_enter Try.func32, Try.ntmps32
  go_wp2
  go_loopw [5] (fun ti wr => ∃ k : Nat, k ≤ 8 ∧ ti = .int .i64 (k : Int) ∧ Hid (ArrAt wr (w.heap.size + 1) 50 (wordsN s k ++ List.replicate (8 - k) 0)) ∧ Hid (ArrAt wr w.heap.size 50 zeros8) ∧ Below w.heap.size w wr) (fun ti _ => 8 - (intOf ti).toNat)
  case atStart => exact ⟨0, Nat.zero_le _, rfl, hide (unhide H2).1, hide (unhide H2).2.1, (unhide H2).2.2⟩
  case round =>
    clear H2
    obtain ⟨k, hk, rfl, HA, HR, hb⟩ := hrel
    by_cases hlt : k < 8
    · have hsz := hb.size
      have hlt' : (k : Int) < 8 := by omega
      have cA := (unhide HA).cell k (by simp [wordsN_len]; omega)
      have fA := (unhide HA).frozen k
      have Ig := idx8 (w.heap.size + 1) k hlt'
      have m4 : IntKind.i64.wrap (4 * (k : Int)) = ((4 * k : Nat) : Int) := by rw [IntKind.wrap_i64]; omega
      have hA3 : ∀ n, ArrAt ((wr.drewN n).setCell ⟨w.heap.size + 1, k, none⟩ (.int .u32 (wAt s (4 * k) : Int))) (w.heap.size + 1) 50 (wordsN s (k + 1) ++ List.replicate (8 - (k + 1)) 0) := by
        intro n
        have := ((unhide HA).drewN n).set k (wAt s (4 * k))
        rwa [fill8_set (wordsN_len s k) (by omega), ← wordsN_succ] at this
      have hR3 : ∀ n, ArrAt ((wr.drewN n).setCell ⟨w.heap.size + 1, k, none⟩ (.int .u32 (wAt s (4 * k) : Int))) w.heap.size 50 zeros8 := by
        intro n
        exact ((unhide HR).drewN n).below (B := w.heap.size + 1) ((Below.refl _ _).setCell (p := ⟨w.heap.size + 1, k, none⟩) (Nat.le_refl _) _) (by omega)
      have HA3 := hide hA3
      have HR3 := hide hR3
      clear hA3 hR3
      go_wp2_with (go_at_call 53; refine (implWord_any s (4 * k) (by omega) (by omega) _).mono ?_; rintro e w1 ⟨rfl, n1, rfl⟩)
      go_roundw
      case rel => exact ⟨k + 1, by omega, by go_num, hide ((unhide HA3) n1), hide ((unhide HR3) n1), (Below.drewN hb n1).setCell (p := ⟨w.heap.size + 1, k, none⟩) (by show w.heap.size ≤ w.heap.size + 1; omega) _⟩
      case measure => simp [intOf]; omega
    · have hk' : k = 8 := by omega
      have HA4 : ArrAt wr (w.heap.size + 1) 50 (stOf s).toL := by
        have := unhide HA
        rw [hk'] at this
        exact this
      replace HA4 := hide HA4
      replace hk' := hide hk'
      have hsz := hb.size
      clear HA
      go_wp2_with (first | (refine wpList_load_arr rfl 50 _ rfl (w.heap.size + 1) rfl 50 _ (unhide HA4) _ _ Try.underlying50 (info8 (stOf s)) ?_) | (refine wpList_store_arr rfl 50 _ _ rfl w.heap.size _ zeros8 rfl rfl 50 (unhide HR) (info8 (stOf s)) rfl ?_))
      refine bodyPost_ret (v := aggV (stOf s).toL) (results_arr Try.results32 _ _ w.heap.size 50 _ _ _ rfl ((unhide HR).setRow _) Try.underlying50 (info8 (stOf s))) rfl ⟨rfl, Go.below_setRow hb (Nat.le_refl _) _⟩
theorem cut_front (s : ByteArray) (a : Nat) (h : a + 64 ≤ s.size) : (s.extract a s.size).extract 0 64 = s.extract a (a + 64) := by
  rw [ByteArray.extract_extract]
  congr 1
  omega
theorem cut_back (s : ByteArray) (a : Nat) (h : a + 64 ≤ s.size) : (s.extract a s.size).extract 64 (s.extract a s.size).size = s.extract (a + 64) s.size := by
  rw [ByteArray.extract_extract, ByteArray.size_extract]
  congr 1
  omega
theorem grownBy_trans {a b c : World} {g : Nat} (h : a.grownBy b (some g)) (k : b.grownBy c (some g)) : a.grownBy c (some g) :=
  ⟨k.os.trans h.os, k.tape.trans h.tape, k.output.trans h.output, Nat.le_trans h.size k.size, fun q hq hne => (k.block q (Nat.lt_of_lt_of_le hq h.size) hne).trans (h.block q hq hne)⟩
set_option maxRecDepth 20000 in
set_option maxHeartbeats 400000 in
theorem eachBlock_any (v : V8) (hv : v.ok) (s : ByteArray) (hs : s.size ≤ 10000000) (g : Nat) (w : World) (hA : ArrAt w g 50 v.toL) :
    Calls Try.prog 33 #[.string s, .int .i64 64, .func (Fn.func 34) #[.pointer (some ⟨g, 0, none⟩)] #[]] w fun e w' => e = .returned (.string (s.extract (64 * (s.size / 64)) s.size)) ∧ ArrAt w' g 50 (blocksW v s 0 (s.size / 64)).toL ∧ w.grownBy w' (some g) := by
  have HA := hide hA
  clear hA
  have HE := hide (show s = s.extract (64 * 0) s.size by simp)
  go_enter Try.func33, Try.ntmps33
  go_wp2
  go_loopw [0] (fun ti wr => ∃ k : Nat, 64 * k ≤ s.size ∧ ti = .string (s.extract (64 * k) s.size) ∧ Hid (ArrAt wr g 50 (blocksW v s 0 k).toL) ∧ Hid (w.grownBy wr (some g))) (fun ti _ => match ti with | .string t => t.size | _ => 0)
  case atStart => exact ⟨0, by omega, by rw [← unhide HE], HA, hide (World.grownBy.refl w _)⟩
  case round =>
    obtain ⟨k, hk, rfl, HM, HG⟩ := hrel
    have hez : (s.extract (64 * k) s.size).size = s.size - 64 * k := by rw [ByteArray.size_extract]; omega
    by_cases hlt : 64 * k + 64 ≤ s.size
    · have hf := cut_front s (64 * k) hlt
      have hb := cut_back s (64 * k) hlt
      have hz : (s.extract (64 * k) (64 * k + 64)).size = 64 := by rw [ByteArray.size_extract]; omega
      have hn : (s.extract (64 * k + 64) s.size).size + 64 = (s.extract (64 * k) s.size).size := by rw [ByteArray.size_extract, hez]; omega
      have HR := hide (show roundW (blocksW v s 0 k) (s.extract (64 * k) (64 * k + 64)) = blocksW v s 0 (k + 1) by show _ = roundW _ (s.extract (0 + 64 * k) (0 + 64 * k + 64)); rw [Nat.zero_add])
      obtain ⟨t2, ht2⟩ : ∃ t2, t2 = s.extract (64 * (k + 1)) s.size := ⟨_, rfl⟩
      have e2 : s.extract (64 * k + 64) s.size = t2 := by rw [ht2, Nat.mul_add]
      rw [e2] at hb hn
      clear e2
      have HK := hide ht2
      clear ht2
      have h64 : 64 ≤ ((s.extract (64 * k) s.size).size : Int) := by omega
      have hbig : (s.extract (64 * k) s.size).size ≤ 10000000 := by omega
      generalize s.extract (64 * k) s.size = t at *
      generalize s.extract (64 * k) (64 * k + 64) = blk at *
      have C := hide (take_any (blocksW v s 0 k) (blocksW_ok hv s 0 k) blk hz g wr (unhide HM))
      clear hez
      go_wp2_with (go_at_call 34; refine (unhide C).mono ?_; rintro e w1 ⟨rfl, hA1, hg1⟩)
      go_roundw
      case rel => exact ⟨k + 1, by omega, by rw [unhide HK], hide (by rw [← unhide HR]; exact hA1), hide (grownBy_trans (unhide HG) hg1)⟩
      case measure => show t2.size < t.size; omega
    · have hkk := hide (show s.size / 64 = k by omega)
      have h64 : ¬ 64 ≤ ((s.extract (64 * k) s.size).size : Int) := by omega
      have hbig : (s.extract (64 * k) s.size).size ≤ 10000000 := by omega
      obtain ⟨t, ht⟩ : ∃ t, t = s.extract (64 * k) s.size := ⟨_, rfl⟩
      rw [← ht] at h64 hbig ⊢
      replace ht := hide ht
      clear hez HE
      go_wp2
      go_ret
      rw [unhide hkk]
      exact ⟨by rw [← unhide ht]; rfl, unhide HM, unhide HG⟩
end Go.Proofs.Ytkidgllmhdfgaab
