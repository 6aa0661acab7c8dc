/- The law FnNumbers, walked: whatever is drawn, a number comes back from VarText and from Decimal, a text from ShortText and from Hex. -/
import Derived.Test.YthoeebdibhdeoaaDoorReadShort
import Derived.Test.YthoeebdibhdeoaaDoorUnhexI
import Derived.Test.YthoeebdibhdeoaaDoorReadDec
import Derived.Test.YthoeebdibhdeoaaDoorTrip
import Derived.Test.YthoeebdibhdeoaaDoorDrawN
import Derived.Lib.ItoaNum
import Derived.Lib.SmallJoins
namespace Go.Proofs.YthoeebdibhdeoaaDoor
open Go.RowKit

theorem decDigits_eq_decB (u : Nat) : Lib.decDigits u = decB u := by
  induction u using Nat.strongRecOn with
  | _ u ih =>
    by_cases h : u < 10
    · rw [Lib.decDigits, dif_pos h, decB_small h]; rfl
    · rw [Lib.decDigits, dif_neg h, decB_big h, ih (u / 10) (by omega)]; rfl

theorem below_grow (w : World) (k : Nat) (os : Array Obj) : Below w.heap.size w (Go.Sort.grow (w.drewN k) os) := by
  refine ⟨rfl, rfl, rfl, ?_, ?_⟩
  · show w.heap.size ≤ (w.heap ++ os).size
    simp
  · intro i hi
    show (w.heap ++ os)[i]? = w.heap[i]?
    rw [Array.getElem?_append_left hi]

theorem gPow : Tryd.prog.globalNamed "internal/strconv.uint64pow10" = some 1 := by kernel_rfl

set_option maxHeartbeats 400000 in
theorem bigN_any (w : World) (o : Option Addr) (n c : Nat) :
    Calls Tryd.prog 5 #[.slice o n c] w fun e w' => e = .returned (.bool (decide ((1048576 : Int) < (n : Int)))) ∧ w' = w := by
  go_enter Tryd.func5, Tryd.ntmps5
  go_wp2
  go_ret
  exact ⟨rfl, rfl⟩

theorem itoa_nat (n : Nat) : Lib.itoa (n : Int) = decB n := by
  unfold Lib.itoa
  rw [if_neg (by omega), decDigits_eq_decB]
  rfl

set_option maxHeartbeats 400000 in
theorem implDecimal_nat (n : Nat) (hn : n ≤ 1000000000) (w : World) (htab : Lib.TabIs Tryd.prog w "internal/strconv.uint64pow10" .u64 Lib.pow10Tab) :
    Calls Tryd.prog 10 #[.int .i64 (n : Int)] w fun e w' => e = .returned (.string ⟨(decB n).toArray⟩) ∧ Below w.heap.size w w' := by
  have C := Tryd.strconv_Itoa (n : Int) (by omega) (by omega) w htab
  rw [itoa_nat] at C
  replace C := hide C
  clear htab
  generalize decB n = l at C
  go_enter Tryd.func10, Tryd.ntmps10
  go_wp2_with (go_at_call 24; refine (unhide C).mono ?_; rintro e w2 ⟨rfl, k, os, rfl⟩)
  go_ret
  exact ⟨rfl, below_grow _ _ _⟩

set_option maxHeartbeats 400000 in
theorem implShort_yes (s : ByteArray) (hs : s.size ≤ 20000) (w : World) :
    Calls Tryd.prog 12 #[.string s] w fun e w' => e = .returned (.tuple #[.string (⟨(varB s.size).toArray⟩ ++ s), .bool true]) ∧ Below w.heap.size w w' := by
  have C := implVar_yes s.size w (by omega)
  have hv := (varB_len s.size).2
  obtain ⟨V, hV⟩ : ∃ V : ByteArray, ⟨(varB s.size).toArray⟩ = V := ⟨_, rfl⟩
  have hVs : V.size ≤ 20001 := by rw [← hV]; show (varB s.size).length ≤ _; omega
  rw [hV] at C ⊢
  replace C := hide C
  replace hV := hide hV
  have h0 : ¬ (20000 : Int) < (s.size : Int) := by omega
  go_enter Tryd.func12, Tryd.ntmps12
  go_wp2_with (go_at_call 7; refine (unhide C).mono ?_; rintro e w2 ⟨rfl, hb⟩)
  go_ret2
  exact ⟨rfl, hb⟩

theorem implReadShort_trip (s : ByteArray) (hs : s.size ≤ 20000) (w : World) :
    Calls Tryd.prog 13 #[.string (⟨(varB s.size).toArray⟩ ++ s), .int .i64 0] w fun e w' => e = .returned (.tuple #[.string s, .int .i64 (((⟨(varB s.size).toArray⟩ ++ s : ByteArray).size : Nat) : Int), .bool true]) ∧ Below w.heap.size w w' := by
  have hv := (varB_len s.size).2
  have hsz : (⟨(varB s.size).toArray⟩ ++ s : ByteArray).size = (varB s.size).length + s.size := by rw [ByteArray.size_append]; rfl
  have hrv := read_var (⟨(varB s.size).toArray⟩ ++ s) 0 s.size s.data.toList (by rw [List.drop_zero, ByteArray.data_append, Array.toList_append]) (by omega)
  rw [Nat.zero_add] at hrv
  have C : ∀ W, Calls Tryd.prog 8 #[.string (⟨(varB s.size).toArray⟩ ++ s), .int .i64 0] W fun e w' => e = .returned (rvTup (some (s.size, (varB s.size).length))) ∧ Below W.heap.size W w' := fun W => by
    have h := implReadVar_yes (⟨(varB s.size).toArray⟩ ++ s) 0 W (by rw [hsz]; unfold maxLen; omega) (Nat.zero_le _)
    rw [hrv] at h
    refine h.mono ?_
    rintro e w' ⟨rfl, rfl⟩
    exact ⟨rfl, Below.refl _ _⟩
  have h := implRS_good _ 0 s.size (varB s.size).length w (hide C) (by rw [hsz]; omega) (by omega) (by rw [hsz]; omega)
  have hx : (⟨(varB s.size).toArray⟩ ++ s : ByteArray).extract (varB s.size).length ((varB s.size).length + s.size) = s := ByteArray.extract_append_eq_right rfl (by rfl)
  rw [hx] at h
  rw [hsz]
  exact h

theorem implUnhex_trip (s : ByteArray) (hs : s.size ≤ 20000) (w : World) :
    Calls Tryd.prog 15 #[.string ⟨(hexB s.data.toList).toArray⟩] w fun e w' => e = .returned (.tuple #[.string s, .bool true]) ∧ Below w.heap.size w w' := by
  have hl : (⟨(hexB s.data.toList).toArray⟩ : ByteArray).size = 2 * s.size := hexB_len _
  have h := implUnhex_any ⟨(hexB s.data.toList).toArray⟩ w (by rw [hl]; omega) (by rw [hl]; omega)
  have e : (⟨(hexB s.data.toList).toArray⟩ : ByteArray).data.toList = hexB s.data.toList := rfl
  rw [e, unhex_hex] at h
  exact h

/-- What the law asks of a text. -/
theorem nums_tail (t : ByteArray) (ht : t.size ≤ 300) : ∃ A H : ByteArray, Hid (∀ w, Calls Tryd.prog 12 #[.string t] w fun e w' => e = .returned (.tuple #[.string A, .bool true]) ∧ Below w.heap.size w w')
    ∧ Hid (∀ w, Calls Tryd.prog 13 #[.string A, .int .i64 0] w fun e w' => e = .returned (.tuple #[.string t, .int .i64 ((A.size : Nat) : Int), .bool true]) ∧ Below w.heap.size w w')
    ∧ Hid (∀ w, Calls Tryd.prog 14 #[.string t] w fun e w' => e = .returned (.tuple #[.string H, .bool true]) ∧ Below w.heap.size w w')
    ∧ Hid (∀ w, Calls Tryd.prog 15 #[.string H] w fun e w' => e = .returned (.tuple #[.string t, .bool true]) ∧ Below w.heap.size w w') :=
  ⟨_, _, hide fun w => implShort_yes t (by omega) w, hide fun w => implReadShort_trip t (by omega) w, hide fun w => implHex_any t w (by omega), hide fun w => implUnhex_trip t (by omega) w⟩

/-- What the law asks of a number. -/
theorem nums_head (N : Nat) (hN : N ≤ 1000000000) : ∃ V E : ByteArray, V.size ≤ 1000000001 ∧ Hid (∀ w, Calls Tryd.prog 7 #[.int .i64 (N : Int)] w fun e w' => e = .returned (.tuple #[.string V, .bool true]) ∧ Below w.heap.size w w')
    ∧ Hid (∀ w, Calls Tryd.prog 8 #[.string (⟨#[120]⟩ ++ V ++ ⟨#[121]⟩), .int .i64 1] w fun e w' => e = .returned (.tuple #[.int .i64 (N : Int), .int .i64 ((V.size : Int) + 1), .bool true]) ∧ w' = w)
    ∧ Hid (∀ w, Lib.TabIs Tryd.prog w "internal/strconv.uint64pow10" .u64 Lib.pow10Tab → Calls Tryd.prog 10 #[.int .i64 (N : Int)] w fun e w' => e = .returned (.string E) ∧ Below w.heap.size w w')
    ∧ Hid (∀ w, Calls Tryd.prog 9 #[.string E] w fun e w' => e = .returned (.tuple #[.int .i64 (N : Int), .bool true]) ∧ Below w.heap.size w w') := by
  have hv := (varB_len N).2
  refine ⟨⟨(varB N).toArray⟩, ⟨(decB N).toArray⟩, by show (varB N).length ≤ _; omega, hide fun w => implVar_yes N w hN, hide fun w => ?_, hide fun w h => implDecimal_nat N hN w h, hide fun w => ?_⟩
  · have hsz : (⟨#[120]⟩ ++ ⟨(varB N).toArray⟩ ++ ⟨#[121]⟩ : ByteArray).size = 1 + (varB N).length + 1 := by rw [ByteArray.size_append, ByteArray.size_append]; rfl
    have hrv := read_var (⟨#[120]⟩ ++ ⟨(varB N).toArray⟩ ++ ⟨#[121]⟩) 1 N [121] (by rw [ByteArray.data_append, ByteArray.data_append, Array.toList_append, Array.toList_append]; rfl) hN
    have h := implReadVar_yes (⟨#[120]⟩ ++ ⟨(varB N).toArray⟩ ++ ⟨#[121]⟩) 1 w (by rw [hsz]; unfold maxLen; omega) (by rw [hsz]; omega)
    rw [hrv] at h
    refine h.mono ?_
    rintro e w' ⟨rfl, rfl⟩
    refine ⟨?_, rfl⟩
    show Ending.returned (.tuple #[.int .i64 (N : Int), .int .i64 ((1 + (varB N).length : Nat) : Int), .bool true]) = _
    have e1 : ((1 + (varB N).length : Nat) : Int) = (((⟨(varB N).toArray⟩ : ByteArray).size : Nat) : Int) + 1 := by
      show ((1 + (varB N).length : Nat) : Int) = ((varB N).length : Int) + 1
      omega
    rw [e1]
  · have h := implRD_any ⟨(decB N).toArray⟩ w (by show (decB N).length ≤ _; have := decB_short N hN; omega)
    have e : (⟨(decB N).toArray⟩ : ByteArray).data.toList = decB N := rfl
    rw [e, read_dec N hN] at h
    exact h

set_option maxRecDepth 20000 in
set_option maxHeartbeats 800000 in
theorem lawNumbers_any (w : World) (o : Option Addr) (n c : Nat) (hs : Src w w.heap.size o n) (htab : Lib.TabIs Tryd.prog w "internal/strconv.uint64pow10" .u64 Lib.pow10Tab) :
    Calls Tryd.prog 3 #[.slice o n c] w fun e w' => e = .returned (.bool true) ∧ Below w.heap.size w w' := by
  have HS := hide hs
  have HTab := hide htab
  clear hs htab
  by_cases hbig : (1048576 : Int) < (n : Int)
  · have hd : decide ((1048576 : Int) < (n : Int)) = true := by rw [decide_eq_true_iff]; exact hbig
    go_enter Tryd.func3, Tryd.ntmps3
    go_wp2_with (go_at_call 5; refine (bigN_any w o n c).mono ?_; rintro e w1 ⟨rfl, rfl⟩)
    go_ret
    exact ⟨rfl, Below.refl _ _⟩
  · have hd : decide ((1048576 : Int) < (n : Int)) = false := by rw [decide_eq_false_iff_not]; exact hbig
    have hn : n ≤ 1048576 := by omega
    go_enter Tryd.func3, Tryd.ntmps3
    go_wp2_with fail
    go_at_call 5
    refine (bigN_any w o n c).mono ?_
    rintro e w0 ⟨rfl, hw0⟩
    have hw0' := hw0.symm
    subst hw0'
    clear hw0
    go_wp2_with fail
    go_at_call 6
    refine (drawVarText_any w o n c (unhide HS) hn).mono ?_
    rintro e w2 ⟨z, hz1, hz2, rfl, hb12⟩
    by_cases hz : z < 0 ∨ (1000000000 : Int) < z
    · obtain ⟨V, E, hVs, C1, C2, C3, C4⟩ := nums_head 12345 (by decide)
      by_cases hz0 : z < 0
      · have hzd : decide (z < 0) = true := by rw [decide_eq_true_iff]; exact hz0
        clear hz
        go_wp2_with fail
        go_at_call 7
        refine (unhide C1 _).mono ?_
        rintro e w3 ⟨rfl, hb3⟩
        have hb13 := hb12.trans (hb3.mono hb12.size)
        go_wp2_with fail
        go_at_call 8
        refine (unhide C2 _).mono ?_
        rintro e w4 ⟨rfl, hw4⟩
        have hw4' := hw4.symm
        subst hw4'
        clear hw4
        have HT3 := hide (Go.Joins.tab_stays gPow (unhide HTab) hb13 (Nat.le_refl _))
        go_wp2_with fail
        go_at_call 10
        refine (unhide C3 _ (unhide HT3)).mono ?_
        rintro e w5 ⟨rfl, hb5⟩
        have hb15 := hb13.trans (hb5.mono hb13.size)
        go_wp2_with fail
        go_at_call 9
        refine (unhide C4 _).mono ?_
        rintro e w6 ⟨rfl, hb6⟩
        have hb16 := hb15.trans (hb6.mono hb15.size)
        have HS6 := hide (((unhide HS).below hb16 (Nat.le_refl _)).up hb16.size)
        go_wp2_with fail
        go_at_call 11
        refine (drawHex_any _ o n c (unhide HS6) hn).mono ?_
        rintro e w7 ⟨t, ht, rfl, hb7⟩
        have hb17 := hb16.trans (hb7.mono hb16.size)
        clear hb12 hb13 hb15 hb16
        by_cases hlong : (300 : Int) < (t.size : Int)
        · have D := nums_tail ⟨#[97, 98, 99]⟩ (by decide)
          obtain ⟨A, H, D1, D2, D3, D4⟩ := D
          go_wp2_with fail
          go_at_call 12
          refine (unhide D1 _).mono ?_
          rintro e w8 ⟨rfl, hb8⟩
          have hb18 := hb17.trans (hb8.mono hb17.size)
          go_wp2_with fail
          go_at_call 13
          refine (unhide D2 _).mono ?_
          rintro e w9 ⟨rfl, hb9⟩
          have hb19 := hb18.trans (hb9.mono hb18.size)
          go_wp2_with fail
          go_at_call 14
          refine (unhide D3 _).mono ?_
          rintro e wa ⟨rfl, hba⟩
          have hb1a := hb19.trans (hba.mono hb19.size)
          go_wp2_with fail
          go_at_call 15
          refine (unhide D4 _).mono ?_
          rintro e wb ⟨rfl, hbb⟩
          have hb1b := hb1a.trans (hbb.mono hb1a.size)
          go_wp2
          go_ret
          exact ⟨rfl, hb1b⟩
        · have D := nums_tail t (by omega)
          obtain ⟨A, H, D1, D2, D3, D4⟩ := D
          go_wp2_with fail
          go_at_call 12
          refine (unhide D1 _).mono ?_
          rintro e w8 ⟨rfl, hb8⟩
          have hb18 := hb17.trans (hb8.mono hb17.size)
          go_wp2_with fail
          go_at_call 13
          refine (unhide D2 _).mono ?_
          rintro e w9 ⟨rfl, hb9⟩
          have hb19 := hb18.trans (hb9.mono hb18.size)
          go_wp2_with fail
          go_at_call 14
          refine (unhide D3 _).mono ?_
          rintro e wa ⟨rfl, hba⟩
          have hb1a := hb19.trans (hba.mono hb19.size)
          go_wp2_with fail
          go_at_call 15
          refine (unhide D4 _).mono ?_
          rintro e wb ⟨rfl, hbb⟩
          have hb1b := hb1a.trans (hbb.mono hb1a.size)
          go_wp2
          go_ret
          exact ⟨rfl, hb1b⟩
      · have hzd : decide (z < 0) = false := by rw [decide_eq_false_iff_not]; exact hz0
        have hze : decide ((1000000000 : Int) < z) = true := by rw [decide_eq_true_iff]; omega
        clear hz
        go_wp2_with fail
        go_at_call 7
        refine (unhide C1 _).mono ?_
        rintro e w3 ⟨rfl, hb3⟩
        have hb13 := hb12.trans (hb3.mono hb12.size)
        go_wp2_with fail
        go_at_call 8
        refine (unhide C2 _).mono ?_
        rintro e w4 ⟨rfl, hw4⟩
        have hw4' := hw4.symm
        subst hw4'
        clear hw4
        have HT3 := hide (Go.Joins.tab_stays gPow (unhide HTab) hb13 (Nat.le_refl _))
        go_wp2_with fail
        go_at_call 10
        refine (unhide C3 _ (unhide HT3)).mono ?_
        rintro e w5 ⟨rfl, hb5⟩
        have hb15 := hb13.trans (hb5.mono hb13.size)
        go_wp2_with fail
        go_at_call 9
        refine (unhide C4 _).mono ?_
        rintro e w6 ⟨rfl, hb6⟩
        have hb16 := hb15.trans (hb6.mono hb15.size)
        have HS6 := hide (((unhide HS).below hb16 (Nat.le_refl _)).up hb16.size)
        go_wp2_with fail
        go_at_call 11
        refine (drawHex_any _ o n c (unhide HS6) hn).mono ?_
        rintro e w7 ⟨t, ht, rfl, hb7⟩
        have hb17 := hb16.trans (hb7.mono hb16.size)
        clear hb12 hb13 hb15 hb16
        by_cases hlong : (300 : Int) < (t.size : Int)
        · have D := nums_tail ⟨#[97, 98, 99]⟩ (by decide)
          obtain ⟨A, H, D1, D2, D3, D4⟩ := D
          go_wp2_with fail
          go_at_call 12
          refine (unhide D1 _).mono ?_
          rintro e w8 ⟨rfl, hb8⟩
          have hb18 := hb17.trans (hb8.mono hb17.size)
          go_wp2_with fail
          go_at_call 13
          refine (unhide D2 _).mono ?_
          rintro e w9 ⟨rfl, hb9⟩
          have hb19 := hb18.trans (hb9.mono hb18.size)
          go_wp2_with fail
          go_at_call 14
          refine (unhide D3 _).mono ?_
          rintro e wa ⟨rfl, hba⟩
          have hb1a := hb19.trans (hba.mono hb19.size)
          go_wp2_with fail
          go_at_call 15
          refine (unhide D4 _).mono ?_
          rintro e wb ⟨rfl, hbb⟩
          have hb1b := hb1a.trans (hbb.mono hb1a.size)
          go_wp2
          go_ret
          exact ⟨rfl, hb1b⟩
        · have D := nums_tail t (by omega)
          obtain ⟨A, H, D1, D2, D3, D4⟩ := D
          go_wp2_with fail
          go_at_call 12
          refine (unhide D1 _).mono ?_
          rintro e w8 ⟨rfl, hb8⟩
          have hb18 := hb17.trans (hb8.mono hb17.size)
          go_wp2_with fail
          go_at_call 13
          refine (unhide D2 _).mono ?_
          rintro e w9 ⟨rfl, hb9⟩
          have hb19 := hb18.trans (hb9.mono hb18.size)
          go_wp2_with fail
          go_at_call 14
          refine (unhide D3 _).mono ?_
          rintro e wa ⟨rfl, hba⟩
          have hb1a := hb19.trans (hba.mono hb19.size)
          go_wp2_with fail
          go_at_call 15
          refine (unhide D4 _).mono ?_
          rintro e wb ⟨rfl, hbb⟩
          have hb1b := hb1a.trans (hbb.mono hb1a.size)
          go_wp2
          go_ret
          exact ⟨rfl, hb1b⟩
    · obtain ⟨N, rfl⟩ := Int.eq_ofNat_of_zero_le (show 0 ≤ z by omega)
      have hzd : decide ((N : Int) < 0) = false := by rw [decide_eq_false_iff_not]; omega
      have hze : decide ((1000000000 : Int) < (N : Int)) = false := by rw [decide_eq_false_iff_not]; omega
      obtain ⟨V, E, hVs, C1, C2, C3, C4⟩ := nums_head N (by omega)
      clear hz
      go_wp2_with fail
      go_at_call 7
      refine (unhide C1 _).mono ?_
      rintro e w3 ⟨rfl, hb3⟩
      have hb13 := hb12.trans (hb3.mono hb12.size)
      go_wp2_with fail
      go_at_call 8
      refine (unhide C2 _).mono ?_
      rintro e w4 ⟨rfl, hw4⟩
      have hw4' := hw4.symm
      subst hw4'
      clear hw4
      have HT3 := hide (Go.Joins.tab_stays gPow (unhide HTab) hb13 (Nat.le_refl _))
      go_wp2_with fail
      go_at_call 10
      refine (unhide C3 _ (unhide HT3)).mono ?_
      rintro e w5 ⟨rfl, hb5⟩
      have hb15 := hb13.trans (hb5.mono hb13.size)
      go_wp2_with fail
      go_at_call 9
      refine (unhide C4 _).mono ?_
      rintro e w6 ⟨rfl, hb6⟩
      have hb16 := hb15.trans (hb6.mono hb15.size)
      have HS6 := hide (((unhide HS).below hb16 (Nat.le_refl _)).up hb16.size)
      go_wp2_with fail
      go_at_call 11
      refine (drawHex_any _ o n c (unhide HS6) hn).mono ?_
      rintro e w7 ⟨t, ht, rfl, hb7⟩
      have hb17 := hb16.trans (hb7.mono hb16.size)
      clear hb12 hb13 hb15 hb16
      by_cases hlong : (300 : Int) < (t.size : Int)
      · have D := nums_tail ⟨#[97, 98, 99]⟩ (by decide)
        obtain ⟨A, H, D1, D2, D3, D4⟩ := D
        go_wp2_with fail
        go_at_call 12
        refine (unhide D1 _).mono ?_
        rintro e w8 ⟨rfl, hb8⟩
        have hb18 := hb17.trans (hb8.mono hb17.size)
        go_wp2_with fail
        go_at_call 13
        refine (unhide D2 _).mono ?_
        rintro e w9 ⟨rfl, hb9⟩
        have hb19 := hb18.trans (hb9.mono hb18.size)
        go_wp2_with fail
        go_at_call 14
        refine (unhide D3 _).mono ?_
        rintro e wa ⟨rfl, hba⟩
        have hb1a := hb19.trans (hba.mono hb19.size)
        go_wp2_with fail
        go_at_call 15
        refine (unhide D4 _).mono ?_
        rintro e wb ⟨rfl, hbb⟩
        have hb1b := hb1a.trans (hbb.mono hb1a.size)
        go_wp2
        go_ret
        exact ⟨rfl, hb1b⟩
      · have D := nums_tail t (by omega)
        obtain ⟨A, H, D1, D2, D3, D4⟩ := D
        go_wp2_with fail
        go_at_call 12
        refine (unhide D1 _).mono ?_
        rintro e w8 ⟨rfl, hb8⟩
        have hb18 := hb17.trans (hb8.mono hb17.size)
        go_wp2_with fail
        go_at_call 13
        refine (unhide D2 _).mono ?_
        rintro e w9 ⟨rfl, hb9⟩
        have hb19 := hb18.trans (hb9.mono hb18.size)
        go_wp2_with fail
        go_at_call 14
        refine (unhide D3 _).mono ?_
        rintro e wa ⟨rfl, hba⟩
        have hb1a := hb19.trans (hba.mono hb19.size)
        go_wp2_with fail
        go_at_call 15
        refine (unhide D4 _).mono ?_
        rintro e wb ⟨rfl, hbb⟩
        have hb1b := hb1a.trans (hbb.mono hb1a.size)
        go_wp2
        go_ret
        exact ⟨rfl, hb1b⟩
end Go.Proofs.YthoeebdibhdeoaaDoor
