/- What spec.SumMore and the method more of impl's sums come to, over the loaded program. -/
import Derived.Test.YtkbbcjnickgfjaaDoorProg
import Derived.Test.YtkbbcjnickgfjaaDoorChecked
import Derived.Test.YtkbbcjnickgfjaaDoorCrc
namespace Go.Proofs.YtkbbcjnickgfjaaDoor
open Go.RowKit

theorem crc_take (c : Nat) (s : ByteArray) (k : Nat) (h : k < s.size) : crcL c (s.data.toList.take (k + 1)) = crcByte (crcL c (s.data.toList.take k)) s[k] := by
  have e : s.data.toList.take (k + 1) = s.data.toList.take k ++ [s[k]] := by
    rw [List.take_succ_eq_append_getElem (by simpa using h)]; rfl
  rw [e, crcL_snoc]
theorem crc_all (c : Nat) (s : ByteArray) (k : Nat) (h : ¬ k < s.size) : crcL c (s.data.toList.take k) = crcL c s.data.toList := by
  rw [List.take_of_length_le (by show s.size ≤ k; omega)]

theorem crcSteps_next (j z : Nat) (h : j < 8) : crcSteps (8 - j) z = crcSteps (8 - (j + 1)) (crcStep z) := by
  rw [show 8 - j = (8 - (j + 1)) + 1 by omega]; rfl
theorem crcStep_odd {z : Nat} (h : z % 2 = 1) : crcStep z = (z / 2) ^^^ 3558460437 := by unfold crcStep; rw [if_pos h]
theorem crcStep_evn {z : Nat} (h : ¬ z % 2 = 1) : crcStep z = z / 2 := by unfold crcStep; rw [if_neg h]

set_option maxHeartbeats 400000 in
theorem specMore_any (c : Nat) (hc : c < 4294967296) (s : ByteArray) (w : World) (hs : s.size ≤ 1048580) :
    Calls Tryd.prog 37 #[.int .u32 (c : Int), .string s] w fun e w' => e = .returned (.int .u32 (crcL c s.data.toList : Int)) ∧ w' = w := by
  go_enter Tryd.func37, Tryd.ntmps37
  go_wp2
  go_loop [0, 5] (fun ts ti => ∃ k x : Nat, k ≤ s.size ∧ x < 4294967296 ∧ Hid (x = crcL c (s.data.toList.take k)) ∧ ts = .int .u32 (x : Int) ∧ ti = .int .i64 (k : Int)) (fun _ ti => s.size - (intOf ti).toNat)
  case atStart => exact ⟨0, c, Nat.zero_le _, hc, hide rfl, rfl, rfl⟩
  case round =>
    obtain ⟨k, x, hk, hx, HX, rfl, rfl⟩ := hrel
    by_cases hlt : k < s.size
    · have hbb : s[k].toNat < 256 := s[k].toNat_lt
      have HT := hide (crc_take c s k hlt)
      have e0 : IntKind.u32.wrap (s[k].toNat : Int) = (s[k].toNat : Int) := by rw [IntKind.wrap_u32]; omega
      have e1 := bits_xor_u32_nat x s[k].toNat hx (by omega)
      have HB : Hid (crcByte x s[k] = crcSteps 8 (x ^^^ s[k].toNat)) := hide rfl
      have hy := xor_lt32 hx (show s[k].toNat < 4294967296 by omega)
      generalize x ^^^ s[k].toNat = y at e1 HB hy
      go_wp2
      go_loop [0, 6] (fun ts tj => ∃ j z : Nat, j ≤ 8 ∧ z < 4294967296 ∧ Hid (crcSteps (8 - j) z = crcSteps 8 y) ∧ ts = .int .u32 (z : Int) ∧ tj = .int .i64 (j : Int)) (fun _ tj => 8 - (intOf tj).toNat)
      case atStart => exact ⟨0, y, by omega, hy, hide rfl, rfl, rfl⟩
      case round =>
        obtain ⟨j, z, hj, hz, HZ, rfl, rfl⟩ := hrel
        by_cases hj8 : j < 8
        · have HN := hide (crcSteps_next j z hj8)
          by_cases hodd : z % 2 = 1
          · have HO := hide (crcStep_odd hodd)
            have f1 : (z : Int).tmod 2 = 1 := by rw [Int.tmod_eq_emod_of_nonneg (by omega)]; omega
            have f2 : (z : Int).tdiv 2 = ((z / 2 : Nat) : Int) := by rw [Int.tdiv_eq_ediv_of_nonneg (by omega)]; omega
            have f3 : bits .xor .u32 ((z : Int) / 2) 3558460437 = ((z / 2 ^^^ 3558460437 : Nat) : Int) := bits_xor_u32_nat (z / 2) 3558460437 (by omega) (by omega)
            have hl := crcStep_lt hz
            go_wp2
            go_round
            case rel => exact ⟨j + 1, crcStep z, by omega, hl, hide ((unhide HN).symm.trans (unhide HZ)), by rw [unhide HO], by go_num⟩
            case measure => simp [intOf]; omega
          · have HO := hide (crcStep_evn hodd)
            have f1 : (z : Int).tmod 2 = 0 := by rw [Int.tmod_eq_emod_of_nonneg (by omega)]; omega
            have f2 : (z : Int).tdiv 2 = ((z / 2 : Nat) : Int) := by rw [Int.tdiv_eq_ediv_of_nonneg (by omega)]; omega
            have hl := crcStep_lt hz
            go_wp2
            go_round
            case rel => exact ⟨j + 1, crcStep z, by omega, hl, hide ((unhide HN).symm.trans (unhide HZ)), by rw [unhide HO]; rfl, by go_num⟩
            case measure => simp [intOf]; omega
        · have hj' : j = 8 := by omega
          subst hj'
          go_wp2
          go_round
          case rel =>
            have h8 : z = crcSteps 8 y := unhide HZ
            exact ⟨k + 1, z, by omega, hz, hide (by rw [unhide HT, ← unhide HX, unhide HB]; exact h8), rfl, by go_num⟩
          case measure => simp [intOf]; omega
    · have HA := hide (crc_all c s k hlt)
      go_wp2
      go_ret
      exact ⟨congrArg (fun n : Nat => Ending.returned (.int .u32 (n : Int))) ((unhide HX).trans (unhide HA)), rfl⟩

theorem bits_four (y : Nat) (hy : y < 4294967296) : bits .xor .u32 ((y : Int) / 16) ((crcSteps 4 (y % 16) : Nat) : Int) = ((crcSteps 4 y : Nat) : Int) := by
  rw [crcSteps4 y]
  exact bits_xor_u32_nat (y / 16) _ (by omega) (crcSteps_lt 4 (by omega))

theorem tab_cell {w : World} (h : Lib.TabIs Tryd.prog w "loop.example/g00186/impl.fourSteps" .u32 fourTab) (r : Nat) (hr : r < 16) :
    w.cell? ⟨0, r, none⟩ = some (.int .u32 (crcSteps 4 r : Int)) := by
  have hg : Tryd.prog.globalNamed "loop.example/g00186/impl.fourSteps" = some 0 := by kernel_rfl
  rw [h.cell hg r hr, fourTab_at r hr]

set_option maxHeartbeats 400000 in
theorem implMore_any (c : Nat) (hc : c < 4294967296) (s : ByteArray) (w : World) (hs : s.size ≤ 1048580) (htab : Lib.TabIs Tryd.prog w "loop.example/g00186/impl.fourSteps" .u32 fourTab) :
    Calls Tryd.prog 22 #[.int .u32 (c : Int), .string s] w fun e w' => e = .returned (.int .u32 (crcL c s.data.toList : Int)) ∧ w' = w := by
  have HTab := hide htab
  clear htab
  go_enter Tryd.func22, Tryd.ntmps22
  go_wp2
  go_loop [0, 5] (fun ts ti => ∃ k x : Nat, k ≤ s.size ∧ x < 4294967296 ∧ Hid (x = crcL c (s.data.toList.take k)) ∧ ts = .int .u32 (x : Int) ∧ ti = .int .i64 (k : Int)) (fun _ ti => s.size - (intOf ti).toNat)
  case atStart => exact ⟨0, c, Nat.zero_le _, hc, hide rfl, rfl, rfl⟩
  case round =>
    obtain ⟨k, x, hk, hx, HX, rfl, rfl⟩ := hrel
    by_cases hlt : k < s.size
    · have hbb : s[k].toNat < 256 := s[k].toNat_lt
      have HT := hide (crc_take c s k hlt)
      have e0 : IntKind.u32.wrap (s[k].toNat : Int) = (s[k].toNat : Int) := by rw [IntKind.wrap_u32]; omega
      have e1 := bits_xor_u32_nat x s[k].toNat hx (by omega)
      have HB : Hid (crcByte x s[k] = crcSteps 4 (crcSteps 4 (x ^^^ s[k].toNat))) := hide rfl
      have hy := xor_lt32 hx (show s[k].toNat < 4294967296 by omega)
      generalize x ^^^ s[k].toNat = y at e1 HB hy
      have c1 := tab_cell (unhide HTab) (y % 16) (by omega)
      have e2 := bits_four y hy
      have hy1 := crcSteps_lt 4 hy
      generalize crcSteps 4 y = y1 at e2 HB hy1
      have c2 := tab_cell (unhide HTab) (y1 % 16) (by omega)
      have e3 := bits_four y1 hy1
      have hy2 := crcSteps_lt 4 hy1
      generalize crcSteps 4 y1 = y2 at e3 HB hy2
      go_wp2
      go_round
      case rel => exact ⟨k + 1, y2, by omega, hy2, hide (by rw [unhide HT, ← unhide HX, unhide HB]), rfl, by go_num⟩
      case measure => simp [intOf]; omega
    · have HA := hide (crc_all c s k hlt)
      go_wp2
      go_ret
      exact ⟨congrArg (fun n : Nat => Ending.returned (.int .u32 (n : Int))) ((unhide HX).trans (unhide HA)), rfl⟩

end Go.Proofs.YtkbbcjnickgfjaaDoor
