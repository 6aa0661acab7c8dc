/- Rows of numbers marked and held, over the loaded program. -/
import Derived.Test.YtfjfjiolmadbaatInts
namespace Go.Proofs.Ytfjfjiolmadbaat
open Go.RowKit
set_option maxRecDepth 20000 in
set_option maxHeartbeats 1000000 in
theorem markIntS_own {T : TypeId} (v : Value) (base k M : Nat) (xs : List Value) (w : World) (hM : M = k + xs.length) (hl : xs.length ≤ 2000000) (hk : k ≤ 20000000) (ho : OwnV w base T v xs) :
    Calls Try.prog 14 #[v, .int .i64 k] w fun e w' => e = .returned (.int .i64 (M : Int)) ∧ OwnV w' base T v (mkI k xs.length) ∧ w.grownBy w' v.ownBlock := by
  obtain ⟨a, c, rfl⟩ := ho.shape
  obtain ⟨n, hnn⟩ : ∃ n, xs.length = n := ⟨_, rfl⟩
  rw [hnn] at hl ho hM ⊢
  replace hnn := hide hnn
  replace hM := hide hM
  go_enter Try.func14, Try.ntmps14
  go_wp2
  go_loopw [1, 5] (fun tk ti wr => ∃ (i q : Nat), i ≤ n ∧ ti = .int .i64 i ∧ tk = .int .i64 q ∧ Hid (q = k + i) ∧ OwnV wr base T (.slice a n c) (mkI k i ++ xs.drop i) ∧ w.grownBy wr (Value.slice a n c).ownBlock) (fun _ ti _ => n - (intOf ti).toNat)
  case atStart => exact ⟨0, k, Nat.zero_le _, rfl, rfl, rfl, by simpa [mkI] using ho, gR _ _⟩
  case round =>
    obtain ⟨i, q, hi, rfl, rfl, hq, hown, hb⟩ := hrel
    clear ho
    have hq2 : q ≤ 900000000 := by have := unhide hq; omega
    by_cases hlt : i < n
    · have hyl := hown.len
      have HS := hide (mkI_set k i xs (by rw [unhide hnn]; exact hlt))
      obtain ⟨g, cg, hgv⟩ : ∃ g cg, Value.slice a n c = .slice (some ⟨g, 0, none⟩) n cg := by
        rcases hown.2 with ⟨_, h2⟩ | ⟨g, cap, cur, h1, _⟩
        · omega
        · exact ⟨g, cap, by rw [h1, hyl]⟩
      simp only [Value.slice.injEq, true_and] at hgv
      obtain ⟨rfl, rfl⟩ := hgv
      have hlt' : (i : Int) < (n : Int) := by omega
      have cu := hown.cell (List.getElem?_eq_getElem (show i < (mkI k i ++ xs.drop i).length by omega))
      have cz := hown.frozen i
      have ho2 := hown.set i (.int .i64 (q : Int))
      rw [show (q : Int) = ((k + i : Nat) : Int) by have := unhide hq; omega, unhide HS] at ho2
      rw [show ((k + i : Nat) : Int) = (q : Int) by have := unhide hq; omega] at ho2
      have hb2 := gT hb (gS wr g i (.int .i64 (q : Int)))
      generalize (mkI k i ++ xs.drop i)[i]'(show i < (mkI k i ++ xs.drop i).length by omega) = u at cu
      have hk3 : ((q : Int) + 1) = ((k + (i + 1) : Nat) : Int) := by have := unhide hq; omega
      replace hk3 := hide hk3
      go_wp2
      go_roundw
      case rel => exact ⟨i + 1, k + (i + 1), by omega, by go_num, by rw [← unhide hk3], rfl, ho2, hb2⟩
      case measure => simp [intOf]; omega
    · have he : i = n := by omega
      have hfin : (M : Int) = (q : Int) := by have h1 := unhide hq; have h2 := unhide hM; omega
      have ho3 : OwnV wr base T (.slice a n c) (mkI k n) := by
        have h := hown
        rw [he, List.drop_eq_nil_of_le (by rw [unhide hnn]; exact Nat.le_refl _), List.append_nil] at h
        exact h
      replace hfin := hide hfin
      replace ho3 := hide ho3
      clear hown
      go_wp2
      go_ret
      exact ⟨by rw [unhide hfin]; rfl, unhide ho3, hb⟩
theorem mkI_at (k n i : Nat) (h : i < n) : (mkI k n)[i]? = some (.int .i64 ((k + i : Nat) : Int)) := by
  unfold mkI
  rw [List.getElem?_map, List.getElem?_range h]
  rfl
set_option maxRecDepth 20000 in
set_option maxHeartbeats 1000000 in
theorem heldIntS_any (v : Value) (k n M : Nat) (w : World) (hM : M = k + n) (hl : n ≤ 2000000) (hk : k ≤ 20000000) (hr : RdV w v (mkI k n)) :
    Calls Try.prog 15 #[v, .int .i64 k] w fun e w' => e = .returned (.int .i64 (M : Int)) ∧ w' = w := by
  obtain ⟨a, c, rfl, hc⟩ := hr.open
  clear hr
  rw [mkI_len]
  replace hM := hide hM
  go_enter Try.func15, Try.ntmps15
  go_wp2
  go_loopw [1, 5] (fun tk ti wr => ∃ (i q : Nat), i ≤ n ∧ ti = .int .i64 i ∧ tk = .int .i64 q ∧ Hid (q = k + i) ∧ wr = w) (fun _ ti _ => n - (intOf ti).toNat)
  case atStart => exact ⟨0, k, Nat.zero_le _, rfl, rfl, rfl, rfl⟩
  case round =>
    obtain ⟨i, q, hi, rfl, rfl, hq, hw⟩ := hrel
    have hw' := hw.symm
    subst hw'
    clear hw
    have hq2 : q ≤ 900000000 := by have := unhide hq; omega
    by_cases hlt : i < n
    · have hlt' : (i : Int) < (n : Int) := by omega
      obtain ⟨g, o, rfl, hg, d1⟩ := hc i _ (mkI_at k n i hlt)
      rw [show ((k + i : Nat) : Int) = (q : Int) by have := unhide hq; omega] at d1
      have hk3 : ((q : Int) + 1) = ((k + (i + 1) : Nat) : Int) := by have := unhide hq; omega
      replace hk3 := hide hk3
      clear hc
      go_wp2
      go_roundw
      case rel => exact ⟨i + 1, k + (i + 1), by omega, by go_num, by rw [← unhide hk3], rfl, by first | rfl | trivial⟩
      case measure => simp [intOf]; omega
    · have he : i = n := by omega
      have hfin : (M : Int) = (q : Int) := by have h1 := unhide hq; have h2 := unhide hM; omega
      replace hfin := hide hfin
      clear hc
      go_wp2
      go_ret
      exact ⟨by rw [unhide hfin]; rfl, rfl⟩
end Go.Proofs.Ytfjfjiolmadbaat
