/- The other steps of a round, by impl, over the loaded program. -/
import Derived.Test.YtkidgllmhdfgaanDoorSpg3
namespace Go.Proofs.YtkidgllmhdfgaanDoor
open Go.RowKit
set_option maxRecDepth 20000 in
set_option maxHeartbeats 2000000 in
theorem rhoPi_any (a : List Nat) (ha : LanesOk a) (g : Nat) (w : World) (hA : LnAt w g 34 a) :
    Calls Tryd.prog 32 #[.pointer (some ⟨g, 0, none⟩)] w fun e w' => e = .returned (.tuple #[]) ∧ LnAt w' g 34 (rpL a) ∧ w.grownBy w' (some g) := by
  have c1 := hA.cell 1 (by rw [ha.1]; decide)
  have HA := hide hA
  have YA : ∀ W, (Instr.indexAt 34 (.pointer (some ⟨g, 0, none⟩)) (.int .i64 0)).run Tryd.prog W = .ok (.pointer (some ⟨g, 0, none⟩)) W := idxY g 0 0 (by decide) rfl
  have XA : ∀ W, (Instr.indexAt 32 (.pointer (some ⟨g, 0, none⟩)) (.int .i64 1)).run Tryd.prog W = .ok (.pointer (some ⟨g, 1, none⟩)) W := idxX g 0 1 1 (by decide) rfl
  clear hA
  go_enter Tryd.func32, Tryd.ntmps32
  go_wp2
  clear c1 YA XA
  go_loopw [2, 3, 4, 14] (fun tx ty tl ti wr => ∃ k : Nat, k ≤ 24 ∧ ti = .int .i64 (k : Int) ∧ tx = .int .i64 ((rpSt a k).x : Int) ∧ ty = .int .i64 ((rpSt a k).y : Int) ∧ tl = .int .u64 ((rpSt a k).lane : Int) ∧ Hid (LnAt wr g 34 (rpSt a k).l) ∧ Hid (w.grownBy wr (some g))) (fun _ _ _ ti _ => 24 - (intOf ti).toNat)
  case atStart => exact ⟨0, by omega, rfl, rfl, rfl, rfl, HA, hide (World.grownBy.refl w _)⟩
  case round =>
    clear HA
    obtain ⟨k, hk, rfl, rfl, rfl, rfl, HA, HG⟩ := hrel
    by_cases hlt : k < 24
    · have lk : (k : Int) < 24 := by omega
      have hok := rpSt_ok ha k
      have HN : Hid (rpSt a (k + 1) = rpStep k (rpSt a k)) := hide rfl
      generalize rpSt a k = st at *
      obtain ⟨x, y, lane, l⟩ := st
      obtain ⟨lx, ly, ll, hl⟩ := hok
      dsimp only at *
      obtain ⟨y2, hy2⟩ : ∃ z, z = (2 * x + 3 * y) % 5 := ⟨_, rfl⟩
      have ly2 : y2 < 5 := by omega
      obtain ⟨o, ho⟩ : ∃ o, o = 5 * y2 := ⟨_, rfl⟩
      obtain ⟨p, hp⟩ : ∃ p, p = 5 * y2 + y := ⟨_, rfl⟩
      have ix : (x : Int) < 5 := by omega
      have iy : (y : Int) < 5 := by omega
      have iy2 : (y2 : Int) < 5 := by omega
      have I1 := idxY g y2 o iy2 ho
      have I2 := idxX g o y p iy (by omega)
      have ey : (2 * (x : Int) + 3 * (y : Int)).tmod 5 = (y2 : Int) := by rw [Int.tmod_eq_emod_of_nonneg (by omega)]; omega
      have w1 : IntKind.i64.wrap (2 * (x : Int)) = 2 * (x : Int) := by rw [IntKind.wrap_i64]; omega
      have w2 : IntKind.i64.wrap (3 * (y : Int)) = 3 * (y : Int) := by rw [IntKind.wrap_i64]; omega
      have w3 : IntKind.i64.wrap (2 * (x : Int) + 3 * (y : Int)) = 2 * (x : Int) + 3 * (y : Int) := by rw [IntKind.wrap_i64]; omega
      have wk1 : IntKind.i64.wrap ((k : Int) + 1) = (k : Int) + 1 := by rw [IntKind.wrap_i64]; omega
      have wk2 : IntKind.i64.wrap ((k : Int) + 2) = (k : Int) + 2 := by rw [IntKind.wrap_i64]; omega
      obtain ⟨m, hm⟩ : ∃ m, m = (k + 1) * (k + 2) := ⟨_, rfl⟩
      have hmb : m ≤ 600 := by rw [hm]; exact Nat.mul_le_mul (show k + 1 ≤ 24 by omega) (show k + 2 ≤ 25 by omega)
      have em : IntKind.i64.wrap (((k : Int) + 1) * ((k : Int) + 2)) = (m : Int) := by
        rw [show ((k : Int) + 1) * ((k : Int) + 2) = (m : Int) by rw [hm, Int.natCast_mul]; rfl, IntKind.wrap_i64]; omega
      obtain ⟨t, ht⟩ : ∃ t, t = trn k := ⟨_, rfl⟩
      have et : (m : Int).tdiv 2 = (t : Int) := by
        rw [Int.tdiv_eq_ediv_of_nonneg (by omega), ht]; unfold trn; rw [← hm]; omega
      have et2 : (m : Int) / 2 = (t : Int) := by rw [ht]; unfold trn; rw [← hm]; omega
      have htl := trn_lt k hlt
      have CR := hide (fun W => rotl64_any lane (trn k) ll (trn_ne k hlt) (by omega) W)
      rw [← ht] at htl CR
      have wt : IntKind.i64.wrap (t : Int) = (t : Int) := by rw [IntKind.wrap_i64]; omega
      have hA := unhide HA
      have c0 := hA.cell p (by rw [hl.1]; omega)
      have f0 := hA.frozen p
      have HE : Hid (rpStep k ⟨x, y, lane, l⟩ = ⟨y, y2, ln l p, l.set p (rol (t % 64) lane)⟩) := hide (by unfold rpStep; dsimp only; rw [← hy2, ← hp, ht])
      generalize rol (t % 64) lane = z at *
      have HA3 : Hid (∀ n, LnAt ((wr.drewN n).setCell ⟨g, p, none⟩ (.int .u64 (z : Int))) g 34 (l.set p z)) := hide (fun n => (hA.drewN n).set p z)
      generalize ln l p = q at *
      replace hy2 := hide hy2; replace ho := hide ho; replace hp := hide hp; replace hm := hide hm; replace ht := hide ht
      clear hA HA hl
      go_wp2_with (first | (go_at_call 40; refine ((unhide CR) _).mono ?_; rintro e w9 ⟨rfl, n9, rfl⟩))
      go_region
      all_goals go_wp2
      all_goals go_roundw
      all_goals first | exact ⟨k + 1, by omega, by go_num, by rw [unhide HN, unhide HE], by rw [unhide HN, unhide HE], by rw [unhide HN, unhide HE], hide (by rw [unhide HN, unhide HE]; exact (unhide HA3) _), hide (grown_cell (grown_drew (unhide HG) _) _)⟩ | (simp [intOf]; omega)
    · have hkk : k = 24 := by omega
      have nk : ¬ (k : Int) < 24 := by omega
      have HA5 := hide (show LnAt wr g 34 (rpL a) by rw [← rpSt_end a ha.1, ← hkk]; exact unhide HA)
      replace hkk := hide hkk
      clear HA
      go_wp2
      go_end0
      exact ⟨rfl, unhide HA5, unhide HG⟩
theorem ln_putL (l vs : List Nat) (o i : Nat) (h : o + vs.length ≤ l.length) : ln (putL l vs o) i = if i < o then ln l i else if i < o + vs.length then ln vs (i - o) else ln l i := by
  unfold putL ln
  simp only [List.getD_eq_getElem?_getD]
  have hto : (l.take o).length = o := by simp; omega
  by_cases h1 : i < o
  · rw [if_pos h1, List.append_assoc, List.getElem?_append_left (by omega), List.getElem?_take_of_lt h1]
  · rw [if_neg h1, List.append_assoc, List.getElem?_append_right (by omega), hto]
    by_cases h2 : i < o + vs.length
    · rw [if_pos h2, List.getElem?_append_left (by omega)]
    · rw [if_neg h2, List.getElem?_append_right (by omega), List.getElem?_drop]
      congr 2
      omega
theorem chP_put (a : List Nat) (y : Nat) (hy : y < 5) : putL (chP a y) [chR a y 0, chR a y 1, chR a y 2, chR a y 3, chR a y 4] (5 * y) = chP a (y + 1) := by
  have hl := chP_len a y
  apply lanes_ext (by unfold putL; simp; omega) (chP_len _ _)
  intro i hi
  rw [ln_putL _ _ _ _ (by rw [hl]; simp; omega)]
  unfold chP
  rw [ln_range _ _ hi, ln_range _ _ hi]
  by_cases h1 : i < 5 * y
  · rw [if_pos h1, if_pos (by omega), if_pos (by omega)]
  · rw [if_neg h1]
    by_cases h2 : i < 5 * y + 5
    · rw [if_pos (show i < 5 * y + [chR a y 0, chR a y 1, chR a y 2, chR a y 3, chR a y 4].length from h2), if_pos (show i / 5 < y + 1 by omega), show i / 5 = y by omega]
      have h : i = 5 * y ∨ i = 5 * y + 1 ∨ i = 5 * y + 2 ∨ i = 5 * y + 3 ∨ i = 5 * y + 4 := by omega
      rcases h with h | h | h | h | h
      · rw [show i - 5 * y = 0 by omega, show i % 5 = 0 by omega]; rfl
      · rw [show i - 5 * y = 1 by omega, show i % 5 = 1 by omega]; rfl
      · rw [show i - 5 * y = 2 by omega, show i % 5 = 2 by omega]; rfl
      · rw [show i - 5 * y = 3 by omega, show i % 5 = 3 by omega]; rfl
      · rw [show i - 5 * y = 4 by omega, show i % 5 = 4 by omega]; rfl
    · rw [if_neg (show ¬ i < 5 * y + [chR a y 0, chR a y 1, chR a y 2, chR a y 3, chR a y 4].length from h2), if_neg (by omega), if_neg (by omega)]
theorem grown_row {a w : World} {g : Nat} (h : a.grownBy w (some g)) (cs : Array Value) : a.grownBy (w.setRow g cs) (some g) := by
  refine ⟨h.os, h.tape, h.output, ?_, ?_⟩
  · have := h.size; simpa [World.setRow] using this
  · intro q hq hne
    rw [← h.block q hq hne]
    exact Go.setRow_other w g q cs (fun e => hne (by rw [e]))
end Go.Proofs.YtkidgllmhdfgaanDoor
