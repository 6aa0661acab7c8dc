/- The words of a text, and the numbers, by spec, over the loaded program. -/
import Derived.Test.YtecbpplocokedaaShaH
namespace Go.Proofs.Ytecbpplocokedaa
open Go.RowKit
theorem Try.infoW : (Try.prog.info? 65).map (fun i => (i.zero, i.size, i.bytes)) = some (some (.int .u32 0), 1, 4) := by kernel_rfl
set_option maxRecDepth 20000 in
set_option maxHeartbeats 400000 in
theorem specK_any (w : World) :
    Calls Try.prog 66 #[] w fun e w' => (∃ a c, e = .returned (.slice a 64 c) ∧ OwnV w' w.heap.size 65 (.slice a 64 c) (kTab.map u32v)) ∧ Below w.heap.size w w' := by
  go_enter Try.func66, Try.ntmps66
  go_wp2
  go_ret
  exact ⟨⟨_, _, rfl, own_lit w 65 kTab (by decide)⟩, (Below.refl _ _).alloc (Nat.le_refl _) _⟩
set_option maxRecDepth 20000 in
set_option maxHeartbeats 400000 in
theorem specWords_any (s : ByteArray) (n : Nat) (hs : s.size = 4 * n) (hn : n ≤ 100) (w : World) :
    Calls Try.prog 65 #[.string s] w fun e w' => (∃ a c, e = .returned (.slice a n c) ∧ OwnV w' w.heap.size 65 (.slice a n c) ((wordsN s n).map u32v)) ∧ Below w.heap.size w w' := by
  obtain ⟨i0, hi, hz0, hz1, hz2⟩ := info_parts Try.infoW
  go_enter Try.func65, Try.ntmps65
  go_wp2
  go_loopw [3, 4] (fun tv ti wr => ∃ k : Nat, k ≤ n ∧ ti = .int .i64 ((4 * k : Nat) : Int) ∧ Hid (OwnV wr w.heap.size 65 tv ((wordsN s k).map u32v)) ∧ Below w.heap.size w wr) (fun _ ti _ => 4 * n - (intOf ti).toNat)
  case atStart => exact ⟨0, by omega, rfl, hide (World.ownsRow_made w #[] 0 (Nat.le_refl _) (by decide) (by simp)), (Below.refl _ _).alloc (Nat.le_refl _) _⟩
  case round =>
    obtain ⟨k, hk, rfl, HO, hb⟩ := hrel
    obtain ⟨i, hi4⟩ : ∃ i, i = 4 * k := ⟨_, rfl⟩
    rw [← hi4]
    have HW := hide (wordsN_succ s k)
    have hib : i ≤ 1000 := by omega
    have hwl := wordsN_len s k
    by_cases hlt : k < n
    · have h4 : (i : Int) + 4 ≤ (s.size : Int) := by omega
      have hsz := hb.size
      have hln : ((wordsN s k).map u32v).length = k := by rw [List.length_map]; exact hwl
      have hown := unhide HO
      rw [← hi4] at HW
      have C := hide (specWord_any s i (by omega) (by omega))
      have hm1 : ((wordsN s k).map u32v).length + 1 ≤ maxLen := by rw [hln]; unfold maxLen; omega
      have hm2 : (((wordsN s k).map u32v).length + 1) * 4 ≤ 140737488355328 := by rw [hln]; omega
      replace hm1 := hide hm1
      replace hm2 := hide hm2
      replace hi4 := hide hi4
      clear hwl hln
      generalize wAt s i = x at *
      go_wp2_with (first
        | (go_at_call 74; refine ((unhide C) _).mono ?_; rintro e w1 ⟨rfl, n1, rfl⟩)
        | (at_builtin; refine wpList_append_vals (w := wr.drewN n1) rfl (.tmp 13) (.tmp 17) 90 rfl w.heap.size w.heap.size 65 i0 (.int .u32 0) 4 Try.underlying90 hi hz0 hz1 hz2 rfl _ _ rfl (by exact hown) _ [.int .u32 (x : Int)] rfl (by intro u hu; simp only [List.mem_singleton] at hu; subst hu; rfl) 1 1 rfl rfl (unhide hm1) (unhide hm2) (Nat.le_refl _) hsz (Below.drewN hb n1) ?_; intro v' w2 hown2 hb2))
      have hown3 : OwnV w2 w.heap.size 65 v' ((wordsN s (k + 1)).map u32v) := by
        rw [unhide HW, List.map_append]; exact hown2
      replace hown3 := hide hown3
      clear hown2 hown
      go_roundw
      case rel => exact ⟨k + 1, by omega, by have := unhide hi4; go_num, hown3, hb2⟩
      case measure => have := unhide hi4; simp [intOf]; omega
    · have hkn : k = n := by omega
      have h4 : ¬ (i : Int) + 4 ≤ (s.size : Int) := by omega
      have hown := unhide HO
      rw [hkn] at hown
      obtain ⟨a, c, hv⟩ := hown.shape
      rw [List.length_map, wordsN_len] at hv
      replace hi4 := hide hi4
      replace hkn := hide hkn
      clear hwl
      subst hv
      replace hown := hide hown
      go_wp2
      go_ret
      exact ⟨⟨_, _, rfl, unhide hown⟩, hb⟩
end Go.Proofs.Ytecbpplocokedaa
