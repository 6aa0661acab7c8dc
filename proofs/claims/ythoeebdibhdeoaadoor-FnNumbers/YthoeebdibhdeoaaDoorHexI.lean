/- What impl.Hex comes to, over the loaded program; the law of the two, walked. -/
import Derived.Test.YthoeebdibhdeoaaDoorHex
namespace Go.Proofs.YthoeebdibhdeoaaDoor
open Go.RowKit

theorem figs_at (q : Nat) (h : q < (ByteArray.mk #[48, 49, 50, 51, 52, 53, 54, 55, 56, 57, 97, 98, 99, 100, 101, 102]).size) :
    ((((ByteArray.mk #[48, 49, 50, 51, 52, 53, 54, 55, 56, 57, 97, 98, 99, 100, 101, 102])[q]'h).toNat : Nat) : Int) = ((fig q).toNat : Int) := by
  match q, h with
  | 0, _ => rfl
  | 1, _ => rfl
  | 2, _ => rfl
  | 3, _ => rfl
  | 4, _ => rfl
  | 5, _ => rfl
  | 6, _ => rfl
  | 7, _ => rfl
  | 8, _ => rfl
  | 9, _ => rfl
  | 10, _ => rfl
  | 11, _ => rfl
  | 12, _ => rfl
  | 13, _ => rfl
  | 14, _ => rfl
  | 15, _ => rfl
  | n + 16, h => exact absurd h (by show ¬ n + 16 < 16; omega)

set_option maxRecDepth 20000 in
set_option maxHeartbeats 400000 in
theorem implHex_any (s : ByteArray) (w : World) (hs : s.size ≤ 20000) :
    Calls Tryd.prog 14 #[.string s] w fun e w' => e = .returned (.tuple #[.string ⟨(hexB s.data.toList).toArray⟩, .bool true]) ∧ Below w.heap.size w w' := by
  obtain ⟨i0, hi, hz0, hz1, hz2⟩ := info_parts Tryd.infoBH
  have h0 : ¬ (20000 : Int) < (s.size : Int) := by omega
  go_enter Tryd.func14, Tryd.ntmps14
  go_wp2_with (at_make; refine wpList_make_own _ rfl _ _ 22 rfl w.heap.size 5 i0 (.int .u8 0) 1 Tryd.underlying22 hi hz0 hz1 _ _ _ (2 * s.size) rfl rfl (by omega) (by rw [hz2]; omega) (by unfold maxLen; omega) (Nat.le_refl _) ?_; intro w1 hown1 hgrow1)
  have hb1 : Below w.heap.size w w1 := (Below.refl _ _).grown hgrow1 (Nat.le_refl _) (fun k hk => by cases hk)
  have hown0 : OwnB w1 w.heap.size 5 (.slice (some ⟨w.heap.size, 0, none⟩) 0 (2 * s.size)) [] := hown1
  clear hown1 hgrow1
  go_loopw [4, 5] (fun v i wr => ∃ k : Nat, k ≤ s.size ∧ i = .int .i64 k ∧ OwnB wr w.heap.size 5 v (hexB (s.data.toList.take k)) ∧ Below w.heap.size w wr)
    (fun _ i _ => s.size - (intOf i).toNat)
  case atStart => exact ⟨0, Nat.zero_le _, rfl, hown0, hb1⟩
  case round =>
    clear hown0 hb1
    obtain ⟨k, hk, rfl, hown, hb⟩ := hrel
    have hsz := hb.size
    by_cases hlt : k < s.size
    · have hbb : s[k].toNat < 256 := s[k].toNat_lt
      have hx := hexB_snoc (s.data.toList.take k) s[k]
      rw [← take_step0 s k hlt] at hx
      have HX := hide hx
      have hll : (hexB (s.data.toList.take k)).length ≤ 40000 := by rw [hexB_len, List.length_take]; omega
      clear hx
      generalize hexB (s.data.toList.take k) = pre at hown HX hll
      obtain ⟨q, hq⟩ : ∃ q, q = s[k].toNat / 16 := ⟨_, rfl⟩
      obtain ⟨r, hr⟩ : ∃ r, r = s[k].toNat % 16 := ⟨_, rfl⟩
      have e2 : (s[k].toNat : Int).tdiv 16 = (q : Int) := by rw [Int.tdiv_eq_ediv_of_nonneg (by omega)]; omega
      have e3 : (s[k].toNat : Int).tmod 16 = (r : Int) := by rw [Int.tmod_eq_emod_of_nonneg (by omega)]; omega
      have e4 : IntKind.u8.wrap (q : Int) = (q : Int) := by rw [IntKind.wrap_u8]; omega
      have e5 : IntKind.u8.wrap (r : Int) = (r : Int) := by rw [IntKind.wrap_u8]; omega
      have hq16 : q < 16 := by omega
      have hr16 : r < 16 := by omega
      have hq17 : (q : Int) < 16 := by omega
      have hr17 : (r : Int) < 16 := by omega
      rw [← hq, ← hr] at HX
      clear hq hr
      go_wp2
      go_region_held3 (fun _ => True) (trivial) (first
        | (refine step_append_bytes rfl (.tmp 19) (.tmp 30) 22 rfl w.heap.size w.heap.size 5 i0 Tryd.underlying22 hi hz0 hz1 hz2 _ pre rfl hown _ [fig q, fig r] (cs_two (figs_at q _) (figs_at r _)) 2 2 rfl rfl rfl (by omega) (Nat.le_refl _) hsz hb ?_; intro v' w1 hown' hb'))
      clear e2 e3 e4 e5
      all_goals
        rw [← unhide HX] at hown'
        clear HX hown hb
        go_wp2
        go_roundw
        case rel => exact ⟨k + 1, by omega, by go_num, hown', hb'⟩
        case measure => simp [intOf]; omega
    · have hke : k = s.size := by omega
      have hall : s.data.toList.take k = s.data.toList := List.take_of_length_le (by rw [hke]; exact Nat.le_refl _)
      rw [hall] at hown
      have hc := run_string_owned (P := Tryd.prog) wr 22 9 5 w.heap.size _ _ Tryd.underlying22 Tryd.underlying5 Tryd.underlying9 hown
      clear hke hall
      go_wp2
      go_ret2
      exact ⟨rfl, hb⟩


end Go.Proofs.YthoeebdibhdeoaaDoor
