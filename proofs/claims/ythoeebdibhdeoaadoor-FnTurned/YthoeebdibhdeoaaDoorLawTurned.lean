/- The law FnTurned, walked: whatever is drawn, a sealed text is unsealed, and with one byte turned it is not; a sum goes on. -/
import Derived.Test.YthoeebdibhdeoaaDoorUnseal
import Derived.Test.YthoeebdibhdeoaaDoorDrawT
import Derived.Test.YthoeebdibhdeoaaDoorTurn
namespace Go.Proofs.YthoeebdibhdeoaaDoor
open Go.RowKit

theorem some_slice {w : World} {base : Nat} {e : TypeId} {v : Value} {xs : List Value} (h : OwnV w base e v xs) (hne : xs ≠ []) : ∃ g c, v = .slice (some ⟨g, 0, none⟩) xs.length c := by
  rcases h.2 with ⟨h1, h2⟩ | ⟨g, cap, cur, h1, _⟩
  · exact absurd (List.length_eq_zero_iff.1 h2) hne
  · exact ⟨g, cap, h1⟩
theorem two_of {xs : List Nat} (h : xs.length = 12) : ∃ a b r, xs = a :: b :: r := by
  match xs, h with
  | a :: b :: r, _ => exact ⟨a, b, r, rfl⟩
theorem turn_by (x : Nat) : ∃ d : Nat, 0 < d ∧ d < 256 ∧ (1 : Int) + (x : Int) % 255 = (d : Int) ∧ IntKind.u8.wrap (d : Int) = (d : Int) := by
  refine ⟨1 + x % 255, by omega, by omega, by omega, ?_⟩
  rw [IntKind.wrap_u8]; omega

set_option maxRecDepth 20000 in
set_option maxHeartbeats 400000 in
theorem lawTurned_any (w : World) (o : Option Addr) (n c : Nat) (hs : Src w w.heap.size o n) (htab : Laid w) :
    Calls Tryd.prog 4 #[.slice o n c] w fun e w' => e = .returned (.bool true) ∧ Below w.heap.size w w' := by
  have HS := hide hs
  have HTab := hide htab
  clear hs htab
  by_cases hbig : (1048576 : Int) < (n : Int)
  · have hd : decide ((1048576 : Int) < (n : Int)) = true := by rw [decide_eq_true_iff]; exact hbig
    go_enter Tryd.func4, Tryd.ntmps4
    go_wp2_with (go_at_call 5; refine (big_any w o n c).mono ?_; rintro e w1 ⟨rfl, rfl⟩)
    go_ret
    exact ⟨rfl, Below.refl _ _⟩
  · have hd : decide ((1048576 : Int) < (n : Int)) = false := by rw [decide_eq_false_iff_not]; exact hbig
    have hn : n ≤ 1048576 := by omega
    go_enter Tryd.func4, Tryd.ntmps4
    go_wp2_with fail
    go_at_call 5
    refine (big_any w o n c).mono ?_
    rintro e w0 ⟨rfl, hw0⟩
    have hw0' := hw0.symm
    subst hw0'
    clear hw0
    go_wp2_with fail
    go_at_call 16
    refine (drawSumOf_any w o n c (unhide HS) hn).mono ?_
    rintro e w1 ⟨s, hl, rfl, hb1⟩
    have HS1 := hide (((unhide HS).below hb1 (Nat.le_refl _)).up hb1.size)
    go_wp2_with fail
    go_at_call 17
    refine (drawPlaces_any w1 o n c (unhide HS1) hn).mono ?_
    rintro e w2 ⟨v, xs, hx12, hx, rfl, hown, hb2⟩
    have hb12 := hb1.trans (hb2.mono hb1.size)
    have HTab2 := hide ((unhide HTab).below hb12)
    have C := implSealed_any s w2 (by omega) (unhide HTab2)
    obtain ⟨T, hT⟩ : ∃ T, s ++ fourS (sumOf s) = T := ⟨_, rfl⟩
    rw [hT] at C
    have hTs : T.size = s.size + 4 := by rw [← hT, ByteArray.size_append, fourS_size]
    have hT1 : T.extract 0 s.size = s := by rw [← hT]; exact ByteArray.extract_append_eq_left rfl
    have hT2 : T.extract s.size T.size = fourS (sumOf s) := by rw [← hT]; exact ByteArray.extract_append_eq_right rfl (by rw [ByteArray.size_append])
    have C' := hide C
    clear C
    replace hT := hide hT
    go_wp2_with fail
    go_at_call 18
    refine (unhide C').mono ?_
    rintro e w3 ⟨rfl, hb3⟩
    have HTab3 := hide ((unhide HTab2).below hb3)
    have hb13 := hb12.trans (hb3.mono hb12.size)
    have D := hide (implUnsealed_in T s.size w3 (by omega) (by omega) (unhide HTab3) s _ hT1 hT2 rfl)
    replace hT1 := hide hT1
    replace hT2 := hide hT2
    have hown3 := hown.below hb3
    clear hown
    go_wp2_with fail
    go_at_call 19
    refine (unhide D).mono ?_
    rintro e w4 ⟨rfl, hb4⟩
    have HTab4 := hide ((unhide HTab3).below hb4)
    have hb14 := hb13.trans (hb4.mono hb13.size)
    have hown4 := hown3.below hb4
    clear hown3 hb12 hb13
    have hTi : (T.size : Int) = (s.size : Int) + 4 := by omega
    have hconv := Lib.run_convert_string_bytes (P := Tryd.prog) w4 9 22 5 T Tryd.underlying9 Tryd.underlying22 Tryd.underlying5
    have hrow := bytes_row w4 5 T
    have hb5 := bytes_below w4 5 T
    generalize grownCap w4 T.size 0 5 = cap at hconv
    generalize Lib.bytesWorld w4 5 T = w5 at hconv hrow hb5
    have hb15 := hb14.trans (hb5.mono hb14.size)
    have HTab5 := hide ((unhide HTab4).below hb5)
    have hown5 := hown4.below hb5
    obtain ⟨x0, x1, rest, rfl⟩ := two_of hx12
    obtain ⟨gp, cp, rfl⟩ := some_slice hown4 (by simp [ints])
    have hil : (ints (x0 :: x1 :: rest)).length = 12 := by simpa [ints] using hx12
    rw [hil] at hown5
    have hp0 : w5.cell? ⟨gp, 0, none⟩ = some (.int .i64 (x0 : Int)) := hown5.cell rfl
    have hp1 : w5.cell? ⟨gp, 1, none⟩ = some (.int .i64 (x1 : Int)) := hown5.cell rfl
    have hgp := (hown4.lt gp rfl).2
    have hx0 : x0 < 10000 := hx x0 (by simp)
    have hx1 : x1 < 10000 := hx x1 (by simp)
    rw [hil] at *
    obtain ⟨q, hq⟩ : ∃ q, x0 % (s.size + 4) = q := ⟨_, rfl⟩
    have hq4 : q < s.size + 4 := by rw [← hq]; exact Nat.mod_lt _ (by omega)
    have e5' : (x0 : Int) % ((s.size : Int) + 4) = (q : Int) := by rw [← hq]; simp [Int.natCast_emod]
    have e5 : (x0 : Int).tmod ((s.size : Int) + 4) = (q : Int) := by rw [Int.tmod_eq_emod_of_nonneg (by omega)]; exact e5'
    replace hq := hide hq
    obtain ⟨d, hd1, hd2, e6, e6'⟩ := turn_by x1
    have hqT : q < T.data.toList.length := by show q < T.size; omega
    have hcq := hrow.cell q hqT
    have hfq := hrow.frozen q hqT
    obtain ⟨tb, htb⟩ : ∃ tb, T.data.toList[q].toNat = tb := ⟨_, rfl⟩
    have htb2 : tb < 256 := by rw [← htb]; exact UInt8.toNat_lt _
    rw [htb] at hcq
    have e7 := bits_xor_u8 tb d htb2 hd2
    have hy2 : tb ^^^ d < 256 := Nat.xor_lt_two_pow (n := 8) htb2 hd2
    have hy3 := xor_turns (a := tb) hd1
    generalize tb ^^^ d = y at e7 hy2 hy3
    have hqi0 : (0 : Int) ≤ (q : Int) := by omega
    have hqi1 : (q : Int) < (s.size : Int) + 4 := by omega
    replace hrow := hide hrow
    replace hx12 := hide hx12
    replace hx := hide hx
    replace hb1 := hide hb1
    replace hb2 := hide hb2
    replace hb3 := hide hb3
    replace hb4 := hide hb4
    replace hb5 := hide hb5
    replace hb14 := hide hb14
    replace hb15 := hide hb15
    replace hown4 := hide hown4
    replace hown5 := hide hown5
    go_wp2_with fail
    go_region
    have hlen : T.data.toList.length = s.size + 4 := hTs
    have hconv2 := run_turned (P := Tryd.prog) (cap := cap) (q := q) (unhide hrow) hy2 hlen 22 9 5 Tryd.underlying22 Tryd.underlying5 Tryd.underlying9
    have hb6 : Below w4.heap.size w5 ((w5.setCell ⟨w4.heap.size, q, none⟩ (.int .u8 (y : Int))).drew) := ((Below.refl w4.heap.size w5).setCell (p := ⟨w4.heap.size, q, none⟩) (Nat.le_refl _) _).drew
    generalize ((w5.setCell ⟨w4.heap.size, q, none⟩ (.int .u8 (y : Int))).drew) = w6 at hconv2 hb6 ⊢
    obtain ⟨T', hT'⟩ : ∃ T' : ByteArray, T' = ⟨(T.data.toList.set q (byteOf y)).toArray⟩ := ⟨_, rfl⟩
    rw [← hT'] at hconv2
    have hT's : T'.size = s.size + 4 := by
      rw [hT']
      show (T.data.toList.set q (byteOf y)).length = _
      rw [List.length_set]
      exact hlen
    have hno := turned_no s T T' q (byteOf y) (unhide hT) hq4 (by
      rw [List.getElem?_eq_getElem hqT]
      intro he
      apply hy3
      have h2 := congrArg UInt8.toNat (Option.some.inj he)
      rw [htb, byteOf_toNat hy2] at h2
      exact h2.symm) (by rw [hT'])
    have hb6' := ((unhide hb5).trans hb6)
    have HTab6 := hide ((unhide HTab4).below hb6')
    have D6 := hide (implUnsealed_out T' s.size w6 (by omega) (by omega) (unhide HTab6) _ _ rfl rfl hno)
    have hb16 := hide ((unhide hb14).trans (hb6'.mono (unhide hb14).size))
    replace hb6 := hide hb6
    replace hb6' := hide hb6'
    replace hT' := hide hT'
    replace hno := hide hno
    replace hcq := hide hcq
    replace hfq := hide hfq
    replace hp0 := hide hp0
    replace hp1 := hide hp1
    replace hconv := hide hconv
    replace htb := hide htb
    go_wp2_with fail
    go_at_call 19
    refine (unhide D6).mono ?_
    rintro e w7 ⟨rfl, hb7⟩
    have HTab7 := hide ((unhide HTab6).below hb7)
    have hb17 := hide ((unhide hb16).trans (hb7.mono (unhide hb16).size))
    replace hb7 := hide hb7
    have hxs : (s ++ ⟨#[120]⟩ : ByteArray).size ≤ 1048580 := by rw [ByteArray.size_append]; show s.size + 1 ≤ _; omega
    have E1 := implSumOf_any s w7 (by omega) (unhide HTab7)
    have E2 := implSumMore_any (crcL 4294967295 s.data.toList) (crcL_lt (by decide) _) ⟨#[120]⟩ w7 (by decide) (unhide HTab7)
    have E3 := implSumOf_any (s ++ ⟨#[120]⟩) w7 hxs (unhide HTab7)
    have e120 : crcL 4294967295 (s ++ ⟨#[120]⟩ : ByteArray).data.toList = crcL (crcL 4294967295 s.data.toList) [120] := by rw [ByteArray.data_append, Array.toList_append, crcL_append]
    rw [e120] at E3
    change Calls _ _ _ _ fun e w' => e = .returned (.int .u32 ((crcL (crcL 4294967295 s.data.toList) [120] : Nat) : Int)) ∧ w' = w7 at E2
    clear e120 hxs
    generalize crcL (crcL 4294967295 s.data.toList) [120] = z at E2 E3
    generalize crcL 4294967295 s.data.toList = y2 at E1 E2
    replace E1 := hide E1
    replace E2 := hide E2
    replace E3 := hide E3
    go_wp2_with fail
    go_at_call 21
    refine (unhide E1).mono ?_
    rintro e w8 ⟨rfl, hw8⟩
    have hw8' := hw8.symm
    subst hw8'
    clear hw8
    go_wp2_with fail
    go_at_call 20
    refine (unhide E2).mono ?_
    rintro e w9 ⟨rfl, hw9⟩
    have hw9' := hw9.symm
    subst hw9'
    clear hw9
    go_wp2_with fail
    go_at_call 21
    refine (unhide E3).mono ?_
    rintro e w10 ⟨rfl, hw10⟩
    have hw10' := hw10.symm
    subst hw10'
    clear hw10
    go_wp2
    go_ret
    exact ⟨rfl, unhide hb17⟩
end Go.Proofs.YthoeebdibhdeoaaDoor
