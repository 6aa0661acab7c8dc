/- Transforms by the project: halves split and joined, over the loaded program. -/
import Derived.Test.YtdannnkdapbefaqNttA
namespace Go.Proofs.Ytdannnkdapbefaq
open Go.RowKit
set_option maxRecDepth 20000 in
set_option maxHeartbeats 400000 in
theorem split_any (s b st md g base : Nat) (Z : Int) (zf F : Nat → Int) (w : World) (hS : Sz s) (hb : b < 128 / s) (hst : st = 2 * b * s) (hmd : md = st + s) (hz : zf b = Z) (hZ : 0 ≤ Z ∧ Z ≤ 3328) (hF : ∀ t, t < 256 → 0 ≤ F t ∧ F t ≤ 3328) (hgb : base ≤ g)
    (HO : OwnV w base 3 (.slice (some ⟨g, 0, none⟩) 256 256) ((mdG s (lay s zf F) F b 0).map iv)) :
    Calls Try.prog 26 #[.slice (some ⟨g, st, none⟩) s s, .slice (some ⟨g, md, none⟩) s s, .int .i64 Z] w fun e w' => e = .returned (.tuple #[]) ∧ OwnV w' base 3 (.slice (some ⟨g, 0, none⟩) 256 256) ((mdG s (lay s zf F) F (b + 1) 0).map iv) ∧ Below base w w' := by
  have hen : md + s ≤ 256 := by have := (blk_facts hS b).2.2.1 hb; omega
  have hb0 := Below.refl base w
  have hs0 : 1 ≤ s := by rcases hS with rfl | rfl | rfl | rfl | rfl | rfl | rfl <;> omega
  have n1 : ¬ st = md := by omega
  have n2 : ¬ md = st := by omega
  replace HO := hide HO; replace hS := hide hS; replace hb := hide hb; replace hst := hide hst; replace hmd := hide hmd; replace hz := hide hz; replace hF := hide hF
  go_enter Try.func26, Try.ntmps26
  go_wp2
  go_loopw [11] (fun tj wr => ∃ r : Nat, r ≤ s ∧ tj = .int .i64 (r : Int) ∧ Hid (OwnV wr base 3 (.slice (some ⟨g, 0, none⟩) 256 256) ((mdG s (lay s zf F) F b r).map iv)) ∧ Below base w wr) (fun tj _ => 256 - (intOf tj).toNat)
  case atStart => exact ⟨0, by omega, rfl, HO, hb0⟩
  case round =>
    clear HO hb0
    obtain ⟨r, hrs, rfl, HO, hB⟩ := hrel
    by_cases hr : r < s
    · have hr' : (r : Int) < (s : Int) := by omega
      have hr0 : (0 : Int) ≤ (r : Int) := by omega
      obtain ⟨old1, old2⟩ := mdG_old (unhide hS) (lay s zf F) F b r (unhide hb) hr
      have stp := mdG_step (unhide hS) (lay s zf F) F b r (unhide hb) hr
      rw [lay_lo (unhide hS) _ _ b r hr, lay_hi (unhide hS) _ _ b r hr, unhide hz] at stp
      have ej : 2 * b * s + r = st + r := by rw [unhide hst]
      have ejs : 2 * b * s + r + s = md + r := by rw [ej, unhide hmd]; omega
      rw [ejs, ej] at stp
      rw [ej] at old1
      rw [ejs] at old2
      have x1 := unhide hF (st + r) (by omega)
      have y1 := unhide hF (md + r) (by omega)
      have cj := (unhide HO).cell (get_iv _ (st + r) (by rw [mdG_len]; omega))
      have cjs := (unhide HO).cell (get_iv _ (md + r) (by rw [mdG_len]; omega))
      have zj := (unhide HO).frozen (st + r)
      have zjs := (unhide HO).frozen (md + r)
      rw [old1] at cj
      rw [old2] at cjs
      obtain ⟨x, hx⟩ : ∃ x, x = F (st + r) := ⟨_, rfl⟩
      obtain ⟨y, hy⟩ : ∃ y, y = F (md + r) := ⟨_, rfl⟩
      rw [← hx] at cj x1 stp
      rw [← hy] at cjs y1 stp
      have p1 : 0 ≤ Z * y := Int.mul_nonneg hZ.1 y1.1
      have p2 : Z * y ≤ 3328 * 3328 := Int.mul_le_mul hZ.2 y1.2 y1.1 (by omega)
      obtain ⟨p, hp⟩ : ∃ p, p = Z * y := ⟨_, rfl⟩
      rw [← hp] at p1 p2 stp
      obtain ⟨d1, hd1⟩ : ∃ d, d = x - p := ⟨_, rfl⟩
      obtain ⟨e1, he1⟩ : ∃ d, d = x + p := ⟨_, rfl⟩
      rw [← hd1, ← he1] at stp
      have C1 := hide (fun W => around_any d1 W)
      have C2 := hide (fun W => around_any e1 W)
      obtain ⟨v1, hv1⟩ : ∃ v, v = d1 % 3329 := ⟨_, rfl⟩
      obtain ⟨v2, hv2⟩ : ∃ v, v = e1 % 3329 := ⟨_, rfl⟩
      rw [← hv1] at stp C1
      rw [← hv2] at stp C2
      have q1 : IntKind.i64.wrap (Z * y) = p := by rw [← hp, IntKind.wrap_i64]; omega
      have q2 : IntKind.i64.wrap (x - p) = d1 := by rw [IntKind.wrap_i64]; omega
      have q3 : IntKind.i64.wrap (x + p) = e1 := by rw [IntKind.wrap_i64]; omega
      have hO2 := ((unhide HO).set (md + r) (.int .i64 v1)).set (st + r) (.int .i64 v2)
      rw [set_iv, set_iv, stp] at hO2
      have hB2 := (hB.setCell (p := ⟨g, md + r, none⟩) hgb (.int .i64 v1)).setCell (p := ⟨g, st + r, none⟩) hgb (.int .i64 v2)
      replace hO2 := hide hO2; replace hB2 := hide hB2
      replace hx := hide hx; replace hy := hide hy; replace hp := hide hp; replace hd1 := hide hd1; replace hv1 := hide hv1; replace he1 := hide he1; replace hv2 := hide hv2
      clear HO old1 old2 stp ej ejs hB
      go_wp2_with fail
      refine (unhide C1 _).mono ?_
      rintro e w2 ⟨rfl, hw2⟩
      have hw3 := hw2.symm
      subst hw3
      clear hw2
      go_wp2_with fail
      refine (unhide C2 _).mono ?_
      rintro e w2 ⟨rfl, hw2⟩
      have hw3 := hw2.symm
      subst hw3
      clear hw2
      go_wp2
      exact ⟨⟨r + 1, by omega, by go_num, hO2, unhide hB2⟩, by simp [intOf]; omega⟩
    · have hre : r = s := by omega
      have hr' : ¬ (r : Int) < (s : Int) := by omega
      have HO2 : Hid (OwnV wr base 3 (.slice (some ⟨g, 0, none⟩) 256 256) ((mdG s (lay s zf F) F (b + 1) 0).map iv)) := hide (by rw [← mdG_next (unhide hS)]; have h := unhide HO; rw [hre] at h; exact h)
      replace hre := hide hre
      clear HO
      go_wp2
      go_end0
      exact ⟨rfl, unhide HO2, hB⟩
set_option maxRecDepth 20000 in
set_option maxHeartbeats 400000 in
theorem join_any (s b st md g base : Nat) (Z : Int) (zf F : Nat → Int) (w : World) (hS : Sz s) (hb : b < 128 / s) (hst : st = 2 * b * s) (hmd : md = st + s) (hz : zf b = Z) (hZ : 0 ≤ Z ∧ Z ≤ 3328) (hF : ∀ t, t < 256 → 0 ≤ F t ∧ F t ≤ 3328) (hgb : base ≤ g)
    (HO : OwnV w base 3 (.slice (some ⟨g, 0, none⟩) 256 256) ((mdG s (ily s zf F) F b 0).map iv)) :
    Calls Try.prog 28 #[.slice (some ⟨g, st, none⟩) s s, .slice (some ⟨g, md, none⟩) s s, .int .i64 Z] w fun e w' => e = .returned (.tuple #[]) ∧ OwnV w' base 3 (.slice (some ⟨g, 0, none⟩) 256 256) ((mdG s (ily s zf F) F (b + 1) 0).map iv) ∧ Below base w w' := by
  have hen : md + s ≤ 256 := by have := (blk_facts hS b).2.2.1 hb; omega
  have hb0 := Below.refl base w
  have hs0 : 1 ≤ s := by rcases hS with rfl | rfl | rfl | rfl | rfl | rfl | rfl <;> omega
  have n1 : ¬ st = md := by omega
  have n2 : ¬ md = st := by omega
  replace HO := hide HO; replace hS := hide hS; replace hb := hide hb; replace hst := hide hst; replace hmd := hide hmd; replace hz := hide hz; replace hF := hide hF
  go_enter Try.func28, Try.ntmps28
  go_wp2
  go_loopw [10] (fun tj wr => ∃ r : Nat, r ≤ s ∧ tj = .int .i64 (r : Int) ∧ Hid (OwnV wr base 3 (.slice (some ⟨g, 0, none⟩) 256 256) ((mdG s (ily s zf F) F b r).map iv)) ∧ Below base w wr) (fun tj _ => 256 - (intOf tj).toNat)
  case atStart => exact ⟨0, by omega, rfl, HO, hb0⟩
  case round =>
    clear HO hb0
    obtain ⟨r, hrs, rfl, HO, hB⟩ := hrel
    by_cases hr : r < s
    · have hr' : (r : Int) < (s : Int) := by omega
      have hr0 : (0 : Int) ≤ (r : Int) := by omega
      obtain ⟨old1, old2⟩ := mdG_old (unhide hS) (ily s zf F) F b r (unhide hb) hr
      have stp := mdG_step' (unhide hS) (ily s zf F) F b r (unhide hb) hr
      rw [ily_lo (unhide hS) _ _ b r hr, ily_hi (unhide hS) _ _ b r hr, unhide hz] at stp
      have ej : 2 * b * s + r = st + r := by rw [unhide hst]
      have ejs : 2 * b * s + r + s = md + r := by rw [ej, unhide hmd]; omega
      rw [ejs, ej] at stp
      rw [ej] at old1
      rw [ejs] at old2
      have x1 := unhide hF (st + r) (by omega)
      have y1 := unhide hF (md + r) (by omega)
      have cj := (unhide HO).cell (get_iv _ (st + r) (by rw [mdG_len]; omega))
      have cjs := (unhide HO).cell (get_iv _ (md + r) (by rw [mdG_len]; omega))
      have zj := (unhide HO).frozen (st + r)
      have zjs := (unhide HO).frozen (md + r)
      rw [old1] at cj
      rw [old2] at cjs
      obtain ⟨x, hx⟩ : ∃ x, x = F (st + r) := ⟨_, rfl⟩
      obtain ⟨y, hy⟩ : ∃ y, y = F (md + r) := ⟨_, rfl⟩
      rw [← hx] at cj x1 stp
      rw [← hy] at cjs y1 stp
      obtain ⟨d1, hd1⟩ : ∃ d, d = y - x := ⟨_, rfl⟩
      obtain ⟨e1, he1⟩ : ∃ d, d = x + y := ⟨_, rfl⟩
      rw [← hd1, ← he1] at stp
      have p1 : Z * d1 ≤ Z * 3328 := Int.mul_le_mul_of_nonneg_left (by omega) hZ.1
      have p2 : Z * (-3328) ≤ Z * d1 := Int.mul_le_mul_of_nonneg_left (by omega) hZ.1
      obtain ⟨p, hp⟩ : ∃ p, p = Z * d1 := ⟨_, rfl⟩
      rw [← hp] at p1 p2 stp
      have C1 := hide (fun W => around_any p W)
      have C2 := hide (fun W => around_any e1 W)
      obtain ⟨v1, hv1⟩ : ∃ v, v = p % 3329 := ⟨_, rfl⟩
      obtain ⟨v2, hv2⟩ : ∃ v, v = e1 % 3329 := ⟨_, rfl⟩
      rw [← hv1] at stp C1
      rw [← hv2] at stp C2
      have q1 : IntKind.i64.wrap (Z * d1) = p := by rw [← hp, IntKind.wrap_i64]; omega
      have q2 : IntKind.i64.wrap (y - x) = d1 := by rw [IntKind.wrap_i64]; omega
      have q3 : IntKind.i64.wrap (x + y) = e1 := by rw [IntKind.wrap_i64]; omega
      have hO2 := ((unhide HO).set (st + r) (.int .i64 v2)).set (md + r) (.int .i64 v1)
      rw [set_iv, set_iv, stp] at hO2
      have hB2 := (hB.setCell (p := ⟨g, st + r, none⟩) hgb (.int .i64 v2)).setCell (p := ⟨g, md + r, none⟩) hgb (.int .i64 v1)
      replace hO2 := hide hO2; replace hB2 := hide hB2
      replace hx := hide hx; replace hy := hide hy; replace hp := hide hp; replace hd1 := hide hd1; replace hv1 := hide hv1; replace he1 := hide he1; replace hv2 := hide hv2
      clear HO old1 old2 stp ej ejs hB p1 p2
      go_wp2_with fail
      refine (unhide C2 _).mono ?_
      rintro e w2 ⟨rfl, hw2⟩
      have hw3 := hw2.symm
      subst hw3
      clear hw2
      go_wp2_with fail
      refine (unhide C1 _).mono ?_
      rintro e w2 ⟨rfl, hw2⟩
      have hw3 := hw2.symm
      subst hw3
      clear hw2
      go_wp2
      exact ⟨⟨r + 1, by omega, by go_num, hO2, unhide hB2⟩, by simp [intOf]; omega⟩
    · have hre : r = s := by omega
      have hr' : ¬ (r : Int) < (s : Int) := by omega
      have HO2 : Hid (OwnV wr base 3 (.slice (some ⟨g, 0, none⟩) 256 256) ((mdG s (ily s zf F) F (b + 1) 0).map iv)) := hide (by rw [← mdG_next (unhide hS)]; have h := unhide HO; rw [hre] at h; exact h)
      replace hre := hide hre
      clear HO
      go_wp2
      go_end0
      exact ⟨rfl, unhide HO2, hB⟩
end Go.Proofs.Ytdannnkdapbefaq
