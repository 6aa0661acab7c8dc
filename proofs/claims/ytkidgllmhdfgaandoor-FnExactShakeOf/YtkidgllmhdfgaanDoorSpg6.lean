/- The permutation, by impl, over the loaded program. -/
import Derived.Test.YtkidgllmhdfgaanDoorSpg5
import Derived.Lib.LaidTab
import Derived.Lib.SmallJoins
namespace Go.Proofs.YtkidgllmhdfgaanDoor
open Go.RowKit
def numsTab : List Int := [1, 32898, 9223372036854808714, 9223372039002292224, 32907, 2147483649, 9223372039002292353, 9223372036854808585, 138, 136, 2147516425, 2147483658, 2147516555, 9223372036854775947, 9223372036854808713, 9223372036854808579, 9223372036854808578, 9223372036854775936, 32778, 9223372039002259466, 9223372039002292353, 9223372036854808704, 2147483649, 9223372039002292232]
def Laid (w : World) : Prop := Lib.TabIs Tryd.prog w "loop.example/g00186/impl.spongeNumbers" .u64 numsTab
theorem numsTab_at : ∀ r, r < 24 → numsTab.getD r 0 = (ln numsL r : Int) := by decide
theorem gNums : Tryd.prog.globalNamed "loop.example/g00186/impl.spongeNumbers" = some 0 := by kernel_rfl
theorem Laid.below {w w' : World} (h : Laid w) (hb : Below w.heap.size w w') : Laid w' := Go.Joins.tab_stays gNums h hb (Nat.le_refl _)
theorem Laid.lt {w : World} (h : Laid w) : 0 < w.heap.size := by
  unfold Laid Lib.TabIs World.var? at h
  rw [gNums] at h
  simp only [Option.bind_some] at h
  rcases Nat.lt_or_ge 0 w.heap.size with h' | h'
  · exact h'
  · rw [Array.getElem?_eq_none h'] at h; cases h
theorem Laid.grown {w w' : World} {g : Nat} (h : Laid w) (hG : w.grownBy w' (some g)) (hne : 0 ≠ g) : Laid w' := by
  have hlt := h.lt
  unfold Laid Lib.TabIs World.var? at h ⊢
  rw [gNums] at h ⊢
  simp only [Option.bind_some] at h ⊢
  rw [hG.block _ hlt (by simpa using hne)]
  exact h
theorem Laid.cell {w : World} (h : Laid w) (r : Nat) (hr : r < 24) : w.cell? ⟨0, r, none⟩ = some (.int .u64 (ln numsL r : Int)) := by
  rw [Lib.TabIs.cell h gNums r hr, numsTab_at r hr]
theorem idxG (k : Nat) (h : (k : Int) < 24) (W : World) : (Instr.indexAt 55 (.pointer (some ⟨0, 0, none⟩)) (.int .i64 (k : Int))).run Tryd.prog W = .ok (.pointer (some ⟨0, k, none⟩)) W := by
  have hl : Tryd.prog.arrayLen 55 = 24 := by kernel_rfl
  have hu : Tryd.prog.underlying 55 = some (.array (Tryd.prog.arrayLen 55) (Tryd.prog.elem 55)) := by kernel_rfl
  have he : Tryd.prog.elem 55 = 31 := by kernel_rfl
  have h1 : (0 : Int) ≤ (k : Int) ∧ (k : Int) < ((Tryd.prog.arrayLen 55 : Nat) : Int) := by rw [hl]; exact ⟨by omega, by omega⟩
  rw [run_indexAt_array (P := Tryd.prog) (w := W) 55 ⟨0, 0, none⟩ .i64 (k : Int) hu, if_pos h1, he]
  simp [go_sem, addr_add]
theorem grown_tr {a b c : World} {g : Nat} (h : a.grownBy b (some g)) (k : b.grownBy c (some g)) : a.grownBy c (some g) :=
  ⟨k.os.trans h.os, k.tape.trans h.tape, k.output.trans h.output, Nat.le_trans h.size k.size, fun q hq hne => (k.block q (Nat.lt_of_lt_of_le hq h.size) hne).trans (h.block q hq hne)⟩
set_option maxRecDepth 20000 in
set_option maxHeartbeats 1000000 in
theorem permute_any (a : List Nat) (ha : LanesOk a) (g : Nat) (w : World) (hne : 0 ≠ g) (hL : Laid w) (hA : LnAt w g 34 a) :
    Calls Tryd.prog 17 #[.pointer (some ⟨g, 0, none⟩)] w fun e w' => e = .returned (.tuple #[]) ∧ LnAt w' g 34 (keccak a) ∧ w.grownBy w' (some g) := by
  have HA := hide hA
  have HL := hide hL
  have HN := hide hne
  clear hA hL hne
  have YA : ∀ W, (Instr.indexAt 34 (.pointer (some ⟨g, 0, none⟩)) (.int .i64 0)).run Tryd.prog W = .ok (.pointer (some ⟨g, 0, none⟩)) W := idxY g 0 0 (by decide) rfl
  have XA : ∀ W, (Instr.indexAt 32 (.pointer (some ⟨g, 0, none⟩)) (.int .i64 0)).run Tryd.prog W = .ok (.pointer (some ⟨g, 0, none⟩)) W := idxX g 0 0 0 (by decide) rfl
  go_enter Tryd.func17, Tryd.ntmps17
  go_wp2
  go_loopw [3] (fun ti wr => ∃ k : Nat, k ≤ 24 ∧ ti = .int .i64 (k : Int) ∧ Hid (LnAt wr g 34 (kRounds a k)) ∧ Hid (w.grownBy wr (some g))) (fun ti _ => 24 - (intOf ti).toNat)
  case atStart => exact ⟨0, by omega, rfl, HA, hide (World.grownBy.refl w _)⟩
  case round =>
    clear HA
    obtain ⟨k, hk, rfl, HA, HG⟩ := hrel
    by_cases hlt : k < 24
    · have lk : (k : Int) < 24 := by omega
      have hok := kRounds_ok ha k
      have HR : Hid (kRounds a (k + 1) = kRound (kRounds a k) (ln numsL k)) := hide rfl
      have C1 := hide (fun W hW => theta_any (kRounds a k) hok g W hW)
      have C2 := hide (fun W hW => rhoPi_any (thetaL (kRounds a k)) (thetaL_ok hok) g W hW)
      rw [rpL_theta] at C2
      have C3 := hide (fun W hW => chi_any (rhoPi (kRounds a k)) (rhoPi_ok hok) g W hW)
      have hok3 := chiL_ok (rhoPi_ok hok)
      unfold kRound at HR
      obtain ⟨st', hst'⟩ : ∃ x, x = kRounds a (k + 1) := ⟨_, rfl⟩
      rw [← hst'] at HR
      have HQ := hide hst'
      clear hst'
      generalize kRounds a k = st at *
      generalize thetaL st = s1 at *
      generalize rhoPi st = s2 at *
      generalize chiL s2 = s3 at *
      go_wp2_with fail
      refine ((unhide C1) wr (unhide HA)).mono ?_
      rintro e w1 ⟨rfl, hA1, hg1⟩
      go_wp2_with fail
      refine ((unhide C2) w1 hA1).mono ?_
      rintro e w2 ⟨rfl, hA2, hg2⟩
      go_wp2_with fail
      refine ((unhide C3) w2 hA2).mono ?_
      rintro e w3 ⟨rfl, hA3, hg3⟩
      have HG3 := hide (grown_tr (grown_tr (grown_tr (unhide HG) hg1) hg2) hg3)
      have hL3 := (unhide HL).grown (unhide HG3) (unhide HN)
      have c0 := hA3.cell 0 (by rw [hok3.1]; decide)
      have f0 := hA3.frozen 0
      have cn := hL3.cell k hlt
      have IG := idxG k lk
      have l0 := hok3.ln 0
      have ln0 := numsL_lt k
      generalize ln numsL k = num at *
      generalize ln s3 0 = v at *
      have xo : bits .xor .u64 (v : Int) (num : Int) = ((v ^^^ num : Nat) : Int) := u64_xor_nat v num l0 ln0
      have HA4 : Hid (∀ n, LnAt ((w3.drewN n).setCell ⟨g, 0, none⟩ (.int .u64 ((v ^^^ num : Nat) : Int))) g 34 st') := hide (fun n => by
        rw [unhide HR]; exact (hA3.drewN n).set 0 (v ^^^ num))
      generalize v ^^^ num = z at *
      clear hA1 hA2 hA3 hg1 hg2 hg3 hL3 HA HG l0 ln0 C1 C2 C3 HR hok hok3
      go_wp2
      go_region
      all_goals go_wp2
      all_goals go_roundw
      all_goals first | exact ⟨k + 1, by omega, by go_num, hide (by rw [← unhide HQ]; exact (unhide HA4) 1), hide (grown_cell (grown_drew (unhide HG3) 1) _)⟩ | (simp [intOf]; omega)
    · have hkk : k = 24 := by omega
      have nk : ¬ (k : Int) < 24 := by omega
      have HA5 := hide (show LnAt wr g 34 (keccak a) by unfold keccak; rw [← hkk]; exact unhide HA)
      replace hkk := hide hkk
      clear HA
      go_wp2
      go_end0
      exact ⟨rfl, unhide HA5, unhide HG⟩
def takeL (a : List Nat) (s : ByteArray) : List Nat := keccak (mixP a s (s.size / 8))
theorem takeL_ok {a : List Nat} (h : LanesOk a) (s : ByteArray) : LanesOk (takeL a s) := keccak_ok (mixP_ok h s _)
set_option maxRecDepth 20000 in
theorem lanesTake_any (a : List Nat) (ha : LanesOk a) (s : ByteArray) (hs : s.size ≤ 200) (g : Nat) (w : World) (hne : 0 ≠ g) (hL : Laid w) (hA : LnAt w g 34 a) :
    Calls Tryd.prog 36 #[.pointer (some ⟨g, 0, none⟩), .string s] w fun e w' => e = .returned (.tuple #[]) ∧ LnAt w' g 34 (takeL a s) ∧ w.grownBy w' (some g) := by
  have C1 := hide (fun W hW => mix_any a ha s hs g W hW)
  have C2 := hide (fun W hL hW => permute_any (mixP a s (s.size / 8)) (mixP_ok ha s _) g W hne hL hW)
  have HL := hide hL
  have HN := hide hne
  have HA := hide hA
  clear hA hL hne
  unfold takeL
  generalize keccak (mixP a s (s.size / 8)) = out at *
  generalize mixP a s (s.size / 8) = mid at *
  go_enter Tryd.func36, Tryd.ntmps36
  go_wp2_with fail
  refine ((unhide C1) w (unhide HA)).mono ?_
  rintro e w1 ⟨rfl, hA1, hg1⟩
  have hL1 := (unhide HL).grown hg1 (unhide HN)
  go_wp2_with fail
  refine ((unhide C2) w1 hL1 hA1).mono ?_
  rintro e w2 ⟨rfl, hA2, hg2⟩
  go_wp2
  go_end0
  exact ⟨rfl, hA2, grown_tr hg1 hg2⟩
end Go.Proofs.YtkidgllmhdfgaanDoor
