/- Merged: LoI2, LoI3, LoI4, LoI5, ReadShort, LoI6. -/
import Derived.Test.YtinnaajkdkfnaabMga1
import Derived.Test.YtinnaajkdkfnaabMga2
import Derived.Test.YtinnaajkdkfnaabMga3
import Derived.Test.YtinnaajkdkfnaabMga4
import Derived.Test.YtinnaajkdkfnaabMga5
import Derived.Test.YtinnaajkdkfnaabMga6
import Derived.Test.YtinnaajkdkfnaabMga7
import Derived.Defers
import Derived.Recover
/- Masks and hidden texts by the project's own functions, over the loaded program. -/
namespace Go.Proofs.Ytinnaajkdkfnaab
open Go.RowKit
theorem cut_l18 (l : List UInt8) (n : Nat) : (⟨l.toArray⟩ : ByteArray).extract 0 n = ⟨(l.take n).toArray⟩ := by
  apply ByteArray.ext
  apply Array.toList_inj.1
  rw [ByteArray.data_extract, Array.toList_extract]
  show (l.toArray.toList).extract 0 n = (l.take n).toArray.toList
  simp only [List.extract_eq_take_drop, List.drop_zero, Nat.sub_zero]
theorem cells_more9 (l : List UInt8) (s : ByteArray) : Lib.byteCells (l ++ s.data.toList) = Lib.byteCells l ++ Lib.strCells s := by
  simp [Lib.byteCells, Lib.strCells]
set_option maxRecDepth 20000 in
set_option maxHeartbeats 800000 in
theorem mask_any (key : ByteArray) (hk : key.size ≤ 1048576) (num : Nat) (hnum : num ≤ 1000000000) (n : Nat) (hn : n ≤ 8000) (w : World) :
    Calls Try.prog 36 #[.agg (slC key num), .int .i64 (n : Int)] w fun e w' => e = .returned (.string (lkB key num n)) ∧ Below w.heap.size w w' := by
  have hs0 := vaT_size hnum
  unfold slC
  go_enter Try.func36, Try.ntmps36
  go_wp2_with fail
  obtain ⟨W, hW, hR, hN, hB, hs1⟩ := two_cb w #[.string key, .string (vaT num)] #[.pointer none, .slice none 0 0] 44 53
  have hI0 := Lib.fresh_isBuilder 53 5 (w.alloc (.cells #[.string key, .string (vaT num)] 44))
  rw [show (w.alloc (.cells #[.string key, .string (vaT num)] 44)).heap.size = w.heap.size + 1 by simp, hW] at hI0
  rw [hW]
  clear hW hN
  replace hI0 := hide hI0
  replace hR := hide hR
  go_loopw [6] (fun ti wq => ∃ j : Nat, j ≤ (n + 31) / 32 ∧ ti = .int .i64 (j : Int) ∧ Hid (Lib.IsBuilder 53 5 (w.heap.size + 1) (w.heap.size + 1) (Lib.byteCells (lkL key num j)) wq) ∧ Hid (CB wq w.heap.size 44 #[.string key, .string (vaT num)]) ∧ Below w.heap.size w wq) (fun ti _ => 1000 - (intOf ti).toNat)
  case atStart => exact ⟨0, by omega, rfl, hI0, hR, hB⟩
  case round =>
    clear hI0 hR hB hs1
    obtain ⟨j, hj, rfl, HI, HC, hb⟩ := hrel
    have hjl := lkL_len key num j
    have hjb : j ≤ 250 := by omega
    obtain ⟨m, hm⟩ : ∃ m, m = 32 * j := ⟨_, rfl⟩
    rw [← hm] at hjl
    have hbl : (Lib.byteCells (lkL key num j)).length = m := by rw [Lib.byteCells_length]; exact hjl
    have hw1 : w.heap.size + 1 ≤ wr.heap.size := (unhide HC).lt
    have CL := hide (show Calls Try.prog 44 #[.pointer (some ⟨w.heap.size + 1, 0, none⟩)] wr fun e w' => e = .returned (.int .i64 (m : Int)) ∧ w' = wr from by rw [← hbl]; exact Try.Builder_Len _ _ _ _ (unhide HI))
    by_cases hlt : m < n
    · have hlt' : (m : Int) < (n : Int) := by omega
      have c0 := (unhide HC).cell 0 (v := .string key) rfl
      have c1 := (unhide HC).cell 1 (v := .string (vaT num)) rfl
      have CY := hide (fun W => implByte_any j (by omega) W)
      have CC := hide (fun (W : World) => macParts_any key hk W.heap.size 3 3 [⟨#[109]⟩, vaT num, oneB j] rfl (⟨#[109]⟩ ++ vaT num ++ oneB j) (flat_t9 _ _ _) (by rw [ByteArray.size_append, ByteArray.size_append, show (oneB j).size = 1 from rfl]; show 1 + _ + 1 ≤ 2000000; omega) (W.alloc (.cells #[.string ⟨#[109]⟩, .string (vaT num), .string (oneB j)] 9)) (three_t9 _ _ _ _ 9) (by simp) (by omega))
      have hTs : (macB key (⟨#[109]⟩ ++ vaT num ++ oneB j)).size = 32 := macB_size _ _
      have HLs := hide (show Lib.byteCells (lkL key num (j + 1)) = Lib.byteCells (lkL key num j) ++ Lib.strCells (macB key (⟨#[109]⟩ ++ vaT num ++ oneB j)) from cells_more9 _ _)
      have CW := hide (fun (W : World) (hh : Below wr.heap.size wr W) => Try.Builder_WriteString (w.heap.size + 1) (w.heap.size + 1) _ (macB key (⟨#[109]⟩ ++ vaT num ++ oneB j)) W (isB_below (unhide HI) hh) (by rw [hbl, hTs]; omega) (by have := hh.size; omega))
      have KS := hide (fun (W : World) (h : Below (w.heap.size + 1) wr W) => (⟨(h.cell (p := ⟨w.heap.size, 0, none⟩) (Nat.lt_succ_self _)).trans c0, (h.cell (p := ⟨w.heap.size, 1, none⟩) (Nat.lt_succ_self _)).trans c1⟩ : W.cell? ⟨w.heap.size, 0, none⟩ = some (.string key) ∧ W.cell? ⟨w.heap.size, 1, none⟩ = some (.string (vaT num))))
      generalize macB key (⟨#[109]⟩ ++ vaT num ++ oneB j) = tn at *
      generalize oneB j = ob at *
      generalize vaT num = vt at *
      replace hm := hide hm
      replace hbl := hide hbl
      go_wp2_with fail
      refine (unhide CL).mono ?_
      rintro e w0 ⟨rfl, hw0⟩
      subst hw0
      clear CL
      go_wp2_with fail
      go_region_held3 (fun W => W.cell? ⟨w.heap.size, 0, none⟩ = some (.string key) ∧ W.cell? ⟨w.heap.size, 1, none⟩ = some (.string vt)) (first | exact ⟨c0, c1⟩ | exact unhide KS _ K4 | exact unhide KS _ K3 | exact unhide KS _ (K2.mono hw1) | exact unhide KS _ (K1.mono hw1) | fail) (first
        | (go_at_call 51; refine ((unhide CY) _).mono ?_; rintro e w1 ⟨rfl, hb1⟩; have K1 := (Below.refl w0.heap.size w0).drew.trans hb1; have K2 := K1.alloc K1.size (.cells #[.string ⟨#[109]⟩, .string vt, .string ob] 9))
        | (go_at_call 35; refine ((unhide CC) _).mono ?_; rintro e w3 ⟨rfl, hb3⟩; have K3' := K2.trans (hb3.mono K2.size); have K3 := K3'.mono hw1)
        | (go_at_call 43; refine ((unhide CW) _ K3').mono ?_; rintro e w4 ⟨rfl, hI4, hb4⟩; have K4 := K3.trans hb4)
        | fail)
      all_goals
        have hI5 := hide (show Lib.IsBuilder 53 5 (w.heap.size + 1) (w.heap.size + 1) (Lib.byteCells (lkL key num (j + 1))) w4 from .inr (by rw [unhide HLs]; exact hI4))
        have hC5 := hide ((unhide HC).below K4 (Nat.lt_succ_self _))
        have hb5 := hb.trans (K4.mono (Nat.le_succ _))
        clear hI4 hb4 hb3 hb1 K1 K2 K3 K3' K4 KS c0 c1 CY CC CW HI HC HLs hb
        go_wp2
        have q2 := unhide hm
        exact ⟨⟨j + 1, by omega, by go_num, hI5, hC5, hb5⟩, by simp [intOf]; omega⟩
    · have hlt' : ¬ (m : Int) < (n : Int) := by omega
      have hje : j = (n + 31) / 32 := by omega
      have HB := hide (show lkB key num n = (⟨(lkL key num j).toArray⟩ : ByteArray).extract 0 n by rw [cut_l18]; unfold lkB; rw [hje])
      have CS := hide (Try.Builder_String_any (w.heap.size + 1) (w.heap.size + 1) (lkL key num j) wr (unhide HI) hw1)
      have hsz : (⟨(lkL key num j).toArray⟩ : ByteArray).size = m := hjl
      generalize (⟨(lkL key num j).toArray⟩ : ByteArray) = tx at *
      have hnm : (n : Int) ≤ (tx.size : Int) := by omega
      have hcut := fun (W : World) => run_slice_string_h W 9 tx Try.underlying9 .i64 (n : Int) (by omega) (by omega)
      replace hje := hide hje
      replace hm := hide hm
      clear HI HC
      go_wp2_with fail
      refine (unhide CL).mono ?_
      rintro e w0 ⟨rfl, hw0⟩
      subst hw0
      go_wp2_with fail
      refine (unhide CS).mono ?_
      rintro e w2 ⟨rfl, hb2⟩
      have hb3 := hb.trans (hb2.mono (Nat.le_succ _))
      clear hb hb2 CL CS
      go_wp2
      go_ret
      exact ⟨by rw [unhide HB]; rfl, hb3⟩
theorem xo_more9 (a b : List UInt8) (k : Nat) (h : a.length ≤ b.length) (hk : k < a.length) (hk2 : k < b.length) : Lib.byteCells ((xoL a b).take (k + 1)) = Lib.byteCells ((xoL a b).take k) ++ [.int .u8 ((a[k].toNat ^^^ b[k].toNat : Nat) : Int)] := by
  have hl : k < (xoL a b).length := by rw [xoL_len a b h]; exact hk
  rw [List.take_succ_eq_append_getElem hl]
  have e : (xoL a b)[k] = a[k] ^^^ b[k] := by simp [xoL]
  simp [Lib.byteCells, e]
set_option maxRecDepth 20000 in
set_option maxHeartbeats 800000 in
theorem turned_any (key : ByteArray) (hk : key.size ≤ 1048576) (num : Nat) (hnum : num ≤ 1000000000) (a : ByteArray) (hn : a.size ≤ 8000) (w : World) :
    Calls Try.prog 28 #[.agg (slC key num), .string a] w fun e w' => e = .returned (.string (xoB a (lkB key num a.size))) ∧ Below w.heap.size w w' := by
  have CM := hide (fun W => mask_any key hk num hnum a.size hn W)
  have hLL : a.data.toList.length ≤ (lkB key num a.size).data.toList.length := Nat.le_of_eq (lkB_size key num a.size).symm
  have hbz : (lkB key num a.size).size = a.size := lkB_size _ _ _
  unfold slC at *
  generalize lkB key num a.size = b at *
  generalize vaT num = vt at *
  go_enter Try.func28, Try.ntmps28
  go_wp2_with fail
  obtain ⟨W, hW, hR, hB, hs1⟩ := one_cb w #[.string key, .string vt] 44
  rw [hW]
  clear hW
  refine (unhide CM W).mono ?_
  rintro e w1 ⟨rfl, hb1⟩
  have hB1 := hB.trans (hb1.mono hB.size)
  have hw1 : w.heap.size ≤ w1.heap.size := hB1.size
  clear CM hb1 hB hR
  go_wp2_with fail
  have hI0 := hide (Lib.fresh_isBuilder 53 5 w1)
  have hB2 := hB1.alloc hB1.size (.cells #[.pointer none, .slice none 0 0] 53)
  have hz2 : w1.heap.size ≤ (w1.alloc (.cells #[.pointer none, .slice none 0 0] 53)).heap.size := by simp
  generalize w1.alloc (.cells #[.pointer none, .slice none 0 0] 53) = w2 at *
  go_loopw [14] (fun ti wq => ∃ k : Nat, k ≤ a.size ∧ ti = .int .i64 (k : Int) ∧ Hid (Lib.IsBuilder 53 5 w1.heap.size w1.heap.size (Lib.byteCells ((xoL a.data.toList b.data.toList).take k)) wq) ∧ w1.heap.size ≤ wq.heap.size ∧ Below w.heap.size w wq) (fun ti _ => 10000 - (intOf ti).toNat)
  case atStart => exact ⟨0, by omega, rfl, hI0, hz2, hB2⟩
  case round =>
    clear hI0 hB2 hz2
    obtain ⟨k, hk, rfl, HI, hz, hb⟩ := hrel
    by_cases hlt : k < a.size
    · have hlt' : (k : Int) < (a.size : Int) := by omega
      have hltb : (k : Int) < (b.size : Int) := by omega
      have hk0 : (0 : Int) ≤ (k : Int) := by omega
      have hkl : k < a.data.toList.length := hlt
      have hkb : k < b.data.toList.length := by omega
      have HM := hide (xo_more9 a.data.toList b.data.toList k hLL hkl hkb)
      obtain ⟨x, hx⟩ : ∃ x, x = a.data.toList[k].toNat := ⟨_, rfl⟩
      obtain ⟨y, hy⟩ : ∃ y, y = b.data.toList[k].toNat := ⟨_, rfl⟩
      have hxl : x < 256 := by rw [hx]; exact a.data.toList[k].toNat_lt
      have hyl : y < 256 := by rw [hy]; exact b.data.toList[k].toNat_lt
      rw [← hx, ← hy] at HM
      have hxa : x = a[k].toNat := hx
      have hyb : y = b[k].toNat := hy
      have ex := hide (u8_xor x y hxl hyl)
      have hll : (Lib.byteCells ((xoL a.data.toList b.data.toList).take k)).length ≤ 8000 := by rw [Lib.byteCells_length, List.length_take]; omega
      have CW := hide (fun (c : Int) (W : World) (hh : Below wr.heap.size wr W) => Try.Builder_WriteByte w1.heap.size w1.heap.size _ c W (isB_below (unhide HI) hh) (by omega) (Nat.le_trans hz hh.size))
      replace hyb := hide hyb
      replace hxa := hide hxa
      replace hx := hide hx
      replace hy := hide hy
      replace hll := hide hll
      go_wp2_with fail
      go_region_held3 (fun _ => True) (first | trivial | fail) (first
        | (go_at_call 37; refine ((unhide CW) _ _ (Below.refl wr.heap.size wr).drew).mono ?_; rintro e w4 ⟨rfl, hI4, hb4⟩)
        | fail)
      all_goals
        rw [← unhide hxa, ← unhide hyb, unhide ex, ← unhide HM] at hI4
        have hI5 := hide (show Lib.IsBuilder 53 5 w1.heap.size w1.heap.size (Lib.byteCells ((xoL a.data.toList b.data.toList).take (k + 1))) w4 from .inr hI4)
        have hb5 := hb.trans (((Below.refl w1.heap.size wr).drew.trans hb4).mono hw1)
        have hz5 : w1.heap.size ≤ w4.heap.size := Nat.le_trans hz ((Below.refl w1.heap.size wr).drew.trans hb4).size
        clear hI4 hb4 CW HI HM hb
        go_wp2
        exact ⟨⟨k + 1, by omega, by go_num, hI5, hz5, hb5⟩, by simp [intOf]; omega⟩
    · have hlt' : ¬ (k : Int) < (a.size : Int) := by omega
      obtain rfl : k = a.size := by omega
      have hll : (xoL a.data.toList b.data.toList).take a.size = xoL a.data.toList b.data.toList := List.take_of_length_le (by rw [xoL_len _ _ hLL]; exact Nat.le_refl _)
      rw [hll] at HI
      have CS := hide (Try.Builder_String_any w1.heap.size w1.heap.size (xoL a.data.toList b.data.toList) wr (unhide HI) hz)
      rw [show (⟨(xoL a.data.toList b.data.toList).toArray⟩ : ByteArray) = xoB a b from rfl] at CS
      obtain ⟨out, hout⟩ : ∃ out, out = xoB a b := ⟨_, rfl⟩
      rw [← hout] at CS
      replace hout := hide hout
      clear HI hll
      go_wp2_with fail
      refine (unhide CS).mono ?_
      rintro e w2 ⟨rfl, hb2⟩
      have hb3 := hb.trans (hb2.mono hw1)
      clear hb hb2 CS
      go_wp2
      go_ret
      exact ⟨by rw [← unhide hout]; rfl, hb3⟩
end Go.Proofs.Ytinnaajkdkfnaab

/- Texts that are locked and opened by the project's own functions, over the loaded program: a reader that panics, and what is found by it. -/
namespace Go.Proofs.Ytinnaajkdkfnaab
open Go.RowKit
/-- What a reader panics with where there is no text. -/
def wrongV : Value := .iface 39 (.agg #[])
def wrongE : Ending := .panicked [{ v := wrongV, recovered := false }]
set_option maxRecDepth 20000 in
theorem need_yes (key : ByteArray) (z : Int) (w : World) :
    Calls Try.prog 21 #[.agg #[.string key, .int .i64 z], .bool true] w fun e w' => e = .returned (.tuple #[]) ∧ Below w.heap.size w w' := by
  have hb := (Below.refl w.heap.size w).alloc (Nat.le_refl _) (.cells #[.string key, .int .i64 z] 31)
  go_enter Try.func21, Try.ntmps21
  go_wp2
  go_end0
  exact ⟨rfl, hb⟩
set_option maxRecDepth 20000 in
theorem need_no (key : ByteArray) (z : Int) (w : World) :
    Calls Try.prog 21 #[.agg #[.string key, .int .i64 z], .bool false] w fun e w' => e = wrongE ∧ Below w.heap.size w w' := by
  have hb := (Below.refl w.heap.size w).alloc (Nat.le_refl _) (.cells #[.string key, .int .i64 z] 31)
  go_enter Try.func21, Try.ntmps21
  go_wp2
  exact ⟨rfl, rfl, hb⟩
end Go.Proofs.Ytinnaajkdkfnaab

/- What a reader of seals finds, and where it panics, by the project's own functions, over the loaded program. -/
namespace Go.Proofs.Ytinnaajkdkfnaab
open Go.RowKit
set_option maxRecDepth 20000 in
set_option maxHeartbeats 800000 in
theorem open_short (key : ByteArray) (z : Int) (t : ByteArray) (ht : t.size ≤ 1048576) (hz : (z < 0 ∨ 1000000000 < z) ∨ ((t.size : Int) - 16 < 0 ∨ 8000 < (t.size : Int) - 16)) (w : World) :
    Calls Try.prog 19 #[.agg #[.string key, .int .i64 z], .string t] w fun e w' => e = wrongE ∧ Below w.heap.size w w' := by
  obtain ⟨d, hd⟩ : ∃ d : Int, d = (t.size : Int) - 16 := ⟨_, rfl⟩
  have ew : IntKind.i64.wrap ((t.size : Int) - 16) = d := by rw [IntKind.wrap_i64]; omega
  have ew' : (t.size : Int) - 16 = d := hd.symm
  have C1 := hide (fun W => sealOf_no key z d (by omega) W)
  have C2 := hide (fun W => need_no key z W)
  clear hz hd
  go_enter Try.func19, Try.ntmps19
  go_wp2_with fail
  obtain ⟨W, hW, hR, hB, hs1⟩ := one_cb w #[.string key, .int .i64 z] 31
  rw [hW]
  clear hW
  refine (unhide C1 W).mono ?_
  rintro e w1 ⟨rfl, hb1⟩
  have hB1 := hB.trans (hb1.mono hB.size)
  have hR1 := hR.step hb1
  have r0 := hR1.cell 0 (v := .string key) rfl
  have r1 := hR1.cell 1 (v := .int .i64 z) rfl
  have hlt := hR1.lt
  have hB2 := hB1.alloc hB1.size (.cells #[.string ⟨#[]⟩, .string ⟨#[]⟩] 44)
  have hR2 := hR1.alloc (.cells #[.string ⟨#[]⟩, .string ⟨#[]⟩] 44)
  have s0 := hR2.cell 0 (v := .string key) rfl
  have s1 := hR2.cell 1 (v := .int .i64 z) rfl
  clear hB hb1 hR C1
  go_wp2_with fail
  refine (unhide C2 _).mono ?_
  rintro e w2 ⟨rfl, hb2⟩
  have hb := hB2.trans (hb2.mono hB2.size)
  clear hB2 hb2 hR1 hR2 s0 s1 r0 r1 C2 hB1
  unfold wrongE
  go_wp2
  exact ⟨rfl, rfl, hb⟩
set_option maxRecDepth 20000 in
set_option maxHeartbeats 1600000 in
theorem open_long (key : ByteArray) (hk : key.size ≤ 1048576) (num : Nat) (hnum : num ≤ 1000000000) (t : ByteArray) (d : Nat) (hd : t.size = d + 16) (hd8 : d ≤ 8000) (ok : Bool) (hok : ok = decide (tgB key num (t.extract 0 d) = t.extract d t.size)) (w : World) :
    Calls Try.prog 19 #[.agg #[.string key, .int .i64 (num : Int)], .string t] w fun e w' => e = (if ok = true then .returned (.string (xoB (t.extract 0 d) (lkB key num d))) else wrongE) ∧ Below w.heap.size w w' := by
  have ew : IntKind.i64.wrap ((t.size : Int) - 16) = (d : Int) := by rw [IntKind.wrap_i64]; omega
  have ew' : (t.size : Int) - 16 = (d : Int) := by omega
  have hdt : (d : Int) ≤ (t.size : Int) := by omega
  have hd0 : (0 : Int) ≤ (d : Int) := by omega
  have hxs : (t.extract 0 d).size = d := by rw [ByteArray.size_extract]; omega
  have hys : (t.extract d t.size).size = 16 := by rw [ByteArray.size_extract]; omega
  have hmin : min d t.size = d := Nat.min_eq_left (by omega)
  have C1 := hide (fun W => sealOf_yes key num hnum d hd8 W)
  have CT := hide (fun W => tag_any key hk num hnum (t.extract 0 d) (by omega) W)
  have CS := hide (fun W => implSame_any (tgB key num (t.extract 0 d)) (t.extract d t.size) W (by rw [tgB_size]; omega) (by omega))
  have CX := hide (fun W => turned_any key hk num hnum (t.extract 0 d) (by omega) W)
  rw [hxs] at CX
  rw [← hok] at CS
  unfold slC at *
  generalize xoB (t.extract 0 d) (lkB key num d) = out at *
  generalize tgB key num (t.extract 0 d) = tg at *
  have CN1 := hide (fun W => need_yes key (num : Int) W)
  have CN0 := hide (fun W => need_no key (num : Int) W)
  generalize vaT num = vt at *
  replace hd := hide hd
  clear hok
  go_enter Try.func19, Try.ntmps19
  go_wp2_with fail
  obtain ⟨W, hW, hR, hB, hs1⟩ := one_cb w #[.string key, .int .i64 (num : Int)] 31
  rw [hW]
  clear hW
  refine (unhide C1 W).mono ?_
  rintro e w1 ⟨rfl, hb1⟩
  have hB1 := hB.trans (hb1.mono hB.size)
  have hR1 := hR.step hb1
  obtain ⟨W2, hW2, hY2, hB12, hs2⟩ := one_cb w1 #[.string key, .string vt] 44
  have hR2 := hR1.step hB12
  have hB2 := hB1.trans (hB12.mono hB1.size)
  have r0 := hR1.cell 0 (v := .string key) rfl
  have r1 := hR1.cell 1 (v := .int .i64 (num : Int)) rfl
  have s0 := hR2.cell 0 (v := .string key) rfl
  have s1 := hR2.cell 1 (v := .int .i64 (num : Int)) rfl
  clear hB hb1 hR C1 hR1 hB1 hB12
  go_wp2_with fail
  clear hW2 s0 s1 r0 r1
  refine (unhide CN1 W2).mono ?_
  rintro e w3 ⟨rfl, hb3⟩
  have hB3 := hB2.trans (hb3.mono hB2.size)
  have hR3 := hR2.step hb3
  have hY3 := hY2.step hb3
  have hl3 := hY3.lt
  have hl4 := hR3.lt
  have r0 := hR3.cell 0 (v := .string key) rfl
  have r1 := hR3.cell 1 (v := .int .i64 (num : Int)) rfl
  have y0 := hY3.cell 0 (v := .string key) rfl
  have y1 := hY3.cell 1 (v := .string vt) rfl
  clear hb3 hR2 hY2 hB2
  have KS := hide (fun (W : World) (h : Below w3.heap.size w3 W) => (⟨(h.cell (p := ⟨w.heap.size, 0, none⟩) hl4).trans r0, (h.cell (p := ⟨w.heap.size, 1, none⟩) hl4).trans r1, (h.cell (p := ⟨w1.heap.size, 0, none⟩) hl3).trans y0, (h.cell (p := ⟨w1.heap.size, 1, none⟩) hl3).trans y1⟩ : W.cell? ⟨w.heap.size, 0, none⟩ = some (.string key) ∧ W.cell? ⟨w.heap.size, 1, none⟩ = some (.int .i64 (num : Int)) ∧ W.cell? ⟨w1.heap.size, 0, none⟩ = some (.string key) ∧ W.cell? ⟨w1.heap.size, 1, none⟩ = some (.string vt)))
  replace hxs := hide hxs
  replace hys := hide hys
  go_wp2_with fail
  cases ok with
  | true =>
    go_region_held3 (fun W => W.cell? ⟨w.heap.size, 0, none⟩ = some (.string key) ∧ W.cell? ⟨w.heap.size, 1, none⟩ = some (.int .i64 (num : Int)) ∧ W.cell? ⟨w1.heap.size, 0, none⟩ = some (.string key) ∧ W.cell? ⟨w1.heap.size, 1, none⟩ = some (.string vt)) (first | exact ⟨r0, r1, y0, y1⟩ | exact unhide KS _ K3 | exact unhide KS _ K2 | exact unhide KS _ K1 | fail) (first
      | (go_at_call 27; refine (unhide CT _).mono ?_; rintro e wA ⟨rfl, hbA⟩; have K1 := (Below.refl w3.heap.size w3).drew.trans hbA)
      | (go_at_call 26; refine (unhide CS _).mono ?_; rintro e wB ⟨rfl, hbB⟩; have K2 := K1.trans (hbB.mono K1.size))
      | (go_at_call 21; refine (unhide CN1 _).mono ?_; rintro e wC ⟨rfl, hbC⟩; have K3 := K2.trans (hbC.mono K2.size))
      | fail)
    all_goals
      obtain ⟨_, _, z0, z1⟩ := unhide KS _ K3
      have hb3 := hB3.trans (K3.mono hB3.size)
      clear hbA hbB hbC K1 K2 K3 KS r0 r1 y0 y1 CT CS CN1 CN0
      go_wp2_with fail
      refine (unhide CX _).mono ?_
      rintro e w5 ⟨rfl, hb5⟩
      have hb := hb3.trans (hb5.mono hb3.size)
      clear hb5 CX hb3
      go_wp2
      go_ret
      exact ⟨rfl, hb⟩
  | false =>
    refine wp_region_held_drew (S := (fun W => W.cell? ⟨w.heap.size, 0, none⟩ = some (.string key) ∧ W.cell? ⟨w.heap.size, 1, none⟩ = some (.int .i64 (num : Int)) ∧ W.cell? ⟨w1.heap.size, 0, none⟩ = some (.string key) ∧ W.cell? ⟨w1.heap.size, 1, none⟩ = some (.string vt))) (by kernel_rfl) ⟨r0, r1, y0, y1⟩ (fun hHeld => ?_)
    refine wpAnyH_take (i := 0) (v := ?_) rfl (by kernel_rfl) (by kernel_rfl) (by kernel_rfl) (fun _ _ _ h => h) (Or.inl ⟨by rfl, ?_⟩) (by assumption) ?_
    rotate_left
    · intro W9 hSw
      obtain ⟨e0, e1, e2, e3⟩ := hSw
      go_simp
      all_goals with_reducible rfl
    refine wpAnyH_take (i := 1) (v := ?_) rfl (by kernel_rfl) (by kernel_rfl) (by kernel_rfl) (fun _ _ _ h => h) (Or.inl ⟨by rfl, ?_⟩) (by assumption) ?_
    rotate_left
    · intro W9 hSw
      obtain ⟨e0, e1, e2, e3⟩ := hSw
      go_simp
      all_goals with_reducible rfl
    refine wpAnyH_take (i := 2) (v := ?_) rfl (by kernel_rfl) (by kernel_rfl) (by kernel_rfl) (fun _ _ _ h => h) (Or.inl ⟨by rfl, ?_⟩) (by assumption) ?_
    rotate_left
    · intro W9 hSw
      obtain ⟨e0, e1, e2, e3⟩ := hSw
      go_simp
      all_goals with_reducible rfl
    refine wpAnyH_take (i := 4) (v := ?_) rfl (by kernel_rfl) (by kernel_rfl) (by kernel_rfl) (fun _ _ _ h => h) (Or.inl ⟨by rfl, ?_⟩) (by assumption) ?_
    rotate_left
    · intro W9 hSw
      obtain ⟨e0, e1, e2, e3⟩ := hSw
      go_simp
      all_goals with_reducible rfl
    refine wpAnyH_take (i := 5) (v := ?_) rfl (by kernel_rfl) (by kernel_rfl) (by kernel_rfl) (fun _ _ _ h => h) (Or.inl ⟨by rfl, ?_⟩) (by assumption) ?_
    rotate_left
    · intro W9 hSw
      obtain ⟨e0, e1, e2, e3⟩ := hSw
      go_simp
      all_goals with_reducible rfl
    refine wpAnyH_take (i := 6) (v := ?_) rfl (by kernel_rfl) (by kernel_rfl) (by kernel_rfl) (fun _ _ _ h => h) (Or.inl ⟨by rfl, ?_⟩) (by assumption) ?_
    rotate_left
    · intro W9 hSw
      obtain ⟨e0, e1, e2, e3⟩ := hSw
      go_simp
      all_goals with_reducible rfl
    refine wpAnyH_ready (rs := [3]) (by kernel_rfl) (by simp) ?_
    refine AllReadyH.cons rfl (fun K hK => ?_) AllReadyH.nil
    go_simp
    go_at_call 27
    refine (unhide CT _).mono ?_
    rintro e wA ⟨rfl, hbA⟩
    have KA := (Below.refl w3.heap.size w3).drew.trans hbA
    go_wp2_with fail
    refine hK.out _ _ (unhide KS _ KA) (fun hHeld => ?_)
    clear hK K
    refine wpAnyH_ready (rs := [7]) (by kernel_rfl) (by simp) ?_
    refine AllReadyH.cons rfl (fun K hK => ?_) AllReadyH.nil
    go_simp
    go_at_call 26
    refine (unhide CS _).mono ?_
    rintro e wB ⟨rfl, hbB⟩
    have KB := KA.trans (hbB.mono KA.size)
    go_wp2_with fail
    refine hK.out _ _ (unhide KS _ KB) (fun hHeld => ?_)
    clear hK K
    refine wpAnyH_ready (rs := [8]) (by kernel_rfl) (by simp) ?_
    refine AllReadyH.cons rfl (fun K hK => ?_) AllReadyH.nil
    go_simp
    go_at_call 21
    refine (unhide CN0 _).mono ?_
    rintro e wC ⟨rfl, hbC⟩
    have KC := KB.trans (hbC.mono KB.size)
    unfold wrongE
    exact ⟨rfl, rfl, hB3.trans (KC.mono hB3.size)⟩
theorem opX_is {t : ByteArray} {d : Nat} (hd : t.size = d + 16) : opX t = t.extract 0 d ∧ opT t = t.extract d t.size := by
  unfold opX opT
  rw [show t.size - 16 = d by omega]
  exact ⟨rfl, rfl⟩
/-- A reader finds the text where there is one, and panics where there is none. -/
theorem open_any (key : ByteArray) (hk : key.size ≤ 1048576) (z : Int) (t : ByteArray) (ht : t.size ≤ 1048576) (w : World) :
    Calls Try.prog 19 #[.agg #[.string key, .int .i64 z], .string t] w fun e w' => e = (if opOk key z t = true then .returned (.string (opB key z t)) else wrongE) ∧ Below w.heap.size w w' := by
  by_cases hs : (z < 0 ∨ 1000000000 < z) ∨ ((t.size : Int) - 16 < 0 ∨ 8000 < (t.size : Int) - 16)
  · have hf : ¬ opOk key z t = true := by
      intro h
      obtain ⟨h1, h2, _⟩ := op_parts h
      obtain ⟨num, rfl, h3, h4⟩ := lo_parts h2
      rw [opX_size h1] at h4
      omega
    rw [if_neg hf]
    exact open_short key z t ht hs w
  · obtain ⟨num, rfl⟩ : ∃ k : Nat, z = (k : Int) := ⟨z.toNat, by omega⟩
    obtain ⟨d, hd⟩ : ∃ d : Nat, t.size = d + 16 := ⟨t.size - 16, by omega⟩
    obtain ⟨e1, e2⟩ := opX_is hd
    have hlo : loOk (num : Int) (t.extract 0 d) = true := by
      unfold loOk
      rw [decide_eq_true (show numIn (num : Int) by unfold numIn; omega), decide_eq_true (show (t.extract 0 d).size ≤ 8000 by rw [ByteArray.size_extract]; omega)]
      rfl
    have E0 : opOk key (num : Int) t = decide (tgB key num (t.extract 0 d) = t.extract d t.size) := by
      unfold opOk
      rw [decide_eq_true (show 16 ≤ t.size by omega), e1, e2, hlo, Bool.true_and, Bool.true_and]
      rfl
    have E1 : opOk key (num : Int) t = true → opB key (num : Int) t = xoB (t.extract 0 d) (lkB key num d) := by
      intro h
      rw [opB_is h, e1, show (t.extract 0 d).size = d by rw [ByteArray.size_extract]; omega]
      rfl
    refine (open_long key hk num (by omega) t d hd (by omega) (opOk key (num : Int) t) E0 w).mono ?_
    rintro e w' ⟨rfl, hb⟩
    refine ⟨?_, hb⟩
    split
    next h => rw [E1 h]
    · rfl
end Go.Proofs.Ytinnaajkdkfnaab

/- What is found by a reader that may panic: texts that are opened by the project's own function, over the loaded program. -/
namespace Go.Proofs.Ytinnaajkdkfnaab
open Go.RowKit
set_option maxRecDepth 20000 in
set_option maxHeartbeats 400000 in
theorem catch_idle (w : World) :
    CallsD Try.prog 18 #[] .returning w fun e u' w' => e = .returned (.tuple #[]) ∧ u' = .returning ∧ w' = w := by
  have hta : ∀ W : World, (Instr.typeAssert .nilIface 20 39 true).run Try.prog W = .ok (.tuple #[.agg #[], .bool false]) W := fun _ => by kernel_rfl
  refine callsD_of_wpS Try.func18 rfl fun c₀ cs hu => ?_
  apply wpS_seq
  apply wpS_region
  simp [wpOpsS, go_sem, recoverD, hu, Try.ntmps18, Exit.thenS]
  refine wpS_of_wp ?_
  go_wp2
  exact ⟨rfl, .returning, by rw [← hu], .tuple #[], by simp [results, Try.results18, go_sem], rfl, rfl, rfl⟩
set_option maxRecDepth 20000 in
set_option maxHeartbeats 400000 in
theorem catch_wrong (w : World) :
    CallsD Try.prog 18 #[] (.panicking [{ v := wrongV, recovered := false }]) w fun e u' w' => e = .returned (.tuple #[]) ∧ u' = .panicking [{ v := wrongV, recovered := true }] ∧ w' = w := by
  have hta : ∀ W : World, (Instr.typeAssert wrongV 20 39 true).run Try.prog W = .ok (.tuple #[.agg #[], .bool true]) W := fun _ => by kernel_rfl
  have heg : ∀ (W : World), (eqGuard BinOp.eql 20 (Operand.tmp 2) (Operand.const Value.nilIface) wrongV Value.nilIface).run Try.prog W = .ok () W := fun _ => by kernel_rfl
  have heq : ∀ (W : World), (binOp BinOp.eql 20 wrongV Value.nilIface).run Try.prog W = .ok (.bool false) W := fun _ => by kernel_rfl
  refine callsD_of_wpS Try.func18 rfl fun c₀ cs hu => ?_
  apply wpS_seq
  apply wpS_region
  simp [wpOpsS, go_sem, recoverD, hu, Try.ntmps18, Exit.thenS]
  refine wpS_of_wp ?_
  go_wp2
  exact ⟨rfl, _, rfl, .tuple #[], by simp [results, Try.results18, go_sem], rfl, rfl, rfl⟩
set_option maxRecDepth 20000 in
set_option maxHeartbeats 400000 in
theorem found_open (key : ByteArray) (z : Int) (t out : ByteArray) (ok : Bool) (w : World) (C : ∀ W : World, Calls Try.prog 19 #[.agg #[.string key, .int .i64 z], .string t] W fun e w' => e = (if ok = true then .returned (.string out) else wrongE) ∧ Below W.heap.size W w') :
    Calls Try.prog 9 #[.func (.func 19) #[.agg #[.string key, .int .i64 z]] #[], .string t] w fun e w' => e = .returned (.tuple #[.string (if ok = true then out else ⟨#[]⟩), .bool ok]) ∧ Below w.heap.size w w' := by
  replace C := hide C
  cases ok with
  | true =>
    go_enter_defers Try.func9, Try.ntmps9
    go_wp2_with fail
    refine (unhide C w).mono ?_
    rintro e w1 ⟨he, hb1⟩
    obtain rfl : e = .returned (.string out) := by simpa using he
    clear he
    clear C
    go_wp2
    refine leaves_cons (f := 18) (args := #[]) (by simp) (by simp [go_sem]) ?_
    refine (catch_idle _).mono ?_
    rintro e u' w'' ⟨rfl, rfl, rfl⟩
    simp [Leaves, settle, results, Try.results9, go_sem]
    exact hb1
  | false =>
    go_enter_defers Try.func9, Try.ntmps9
    go_wp2_with fail
    refine (unhide C w).mono ?_
    rintro e w1 ⟨he, hb1⟩
    rw [if_neg Bool.false_ne_true] at he
    subst he
    clear C
    unfold wrongE
    go_wp2
    refine leaves_cons (f := 18) (args := #[]) (by simp) (by simp [go_sem]) ?_
    refine (catch_wrong _).mono ?_
    rintro e u' w'' ⟨rfl, rfl, rfl⟩
    simp [Leaves, settle, results, Try.results9, go_sem]
    exact hb1
set_option maxRecDepth 20000 in
set_option maxHeartbeats 400000 in
theorem found_unwrap (key : ByteArray) (z : Int) (t out : ByteArray) (ok : Bool) (w : World) (C : ∀ W : World, Calls Try.prog 10 #[.agg #[.string key, .int .i64 z], .string t] W fun e w' => e = (if ok = true then .returned (.string out) else wrongE) ∧ Below W.heap.size W w') :
    Calls Try.prog 9 #[.func (.func 10) #[.agg #[.string key, .int .i64 z]] #[], .string t] w fun e w' => e = .returned (.tuple #[.string (if ok = true then out else ⟨#[]⟩), .bool ok]) ∧ Below w.heap.size w w' := by
  replace C := hide C
  cases ok with
  | true =>
    go_enter_defers Try.func9, Try.ntmps9
    go_wp2_with fail
    refine (unhide C w).mono ?_
    rintro e w1 ⟨he, hb1⟩
    obtain rfl : e = .returned (.string out) := by simpa using he
    clear he
    clear C
    go_wp2
    refine leaves_cons (f := 18) (args := #[]) (by simp) (by simp [go_sem]) ?_
    refine (catch_idle _).mono ?_
    rintro e u' w'' ⟨rfl, rfl, rfl⟩
    simp [Leaves, settle, results, Try.results9, go_sem]
    exact hb1
  | false =>
    go_enter_defers Try.func9, Try.ntmps9
    go_wp2_with fail
    refine (unhide C w).mono ?_
    rintro e w1 ⟨he, hb1⟩
    rw [if_neg Bool.false_ne_true] at he
    subst he
    clear C
    unfold wrongE
    go_wp2
    refine leaves_cons (f := 18) (args := #[]) (by simp) (by simp [go_sem]) ?_
    refine (catch_wrong _).mono ?_
    rintro e u' w'' ⟨rfl, rfl, rfl⟩
    simp [Leaves, settle, results, Try.results9, go_sem]
    exact hb1
end Go.Proofs.Ytinnaajkdkfnaab

/- The law of ReadShort, walked: at every text and place the two answers are the same. -/
namespace Go.Proofs.Ytinnaajkdkfnaab
open Go.RowKit

theorem rvRun_some {s : ByteArray} {a : Nat} : ∀ (f i u n m j : Nat), s.size - i ≤ f → rvRun s a i u n = some (m, j) → j ≤ s.size ∧ m ≤ 1000000000 := by
  intro f
  induction f with
  | zero =>
    intro i u n m j hf h
    rw [rvRun_out (by omega)] at h
    cases h
  | succ f ih =>
    intro i u n m j hf h
    by_cases h1 : i < s.size ∧ i < a + 5
    · by_cases hb : 127 < s[i].toNat
      · rw [rvRun_on h1.1 h1.2 hb] at h
        exact ih _ _ _ _ _ (by omega) h
      · by_cases hn : (s[i].toNat = 0 ∧ a < i) ∨ 1000000000 < n + s[i].toNat % 128 * u
        · rw [rvRun_no h1.1 h1.2 hb hn] at h; cases h
        · rw [rvRun_yes h1.1 h1.2 hb hn] at h
          simp only [Option.some.injEq, Prod.mk.injEq] at h
          omega
    · rw [rvRun_out h1] at h; cases h

/-! spec.ReadShort, over what ReadVar answers -/



/-! impl.ReadShort, over what ReadVar answers -/
set_option maxHeartbeats 400000 in
theorem implRS_none (s : ByteArray) (p : Int) (w : World) (C : Hid (∀ W, Calls Try.prog 29 #[.string s, .int .i64 p] W fun e w' => e = .returned (rvTup none) ∧ Below W.heap.size W w')) :
    Calls Try.prog 20 #[.string s, .int .i64 p] w fun e w' => e = .returned (.tuple #[.string ⟨#[]⟩, .int .i64 0, .bool false]) ∧ Below w.heap.size w w' := by
  go_enter Try.func20, Try.ntmps20
  go_wp2_with (go_at_call 29; refine ((unhide C) _).mono ?_; rintro e w1 ⟨rfl, hb⟩; unfold rvTup)
  go_ret3
  exact ⟨rfl, hb⟩

set_option maxHeartbeats 400000 in
theorem implRS_bad (s : ByteArray) (p : Int) (n j : Nat) (w : World) (C : Hid (∀ W, Calls Try.prog 29 #[.string s, .int .i64 p] W fun e w' => e = .returned (rvTup (some (n, j))) ∧ Below W.heap.size W w'))
    (_hs : s.size ≤ 1048576) (hj : j ≤ s.size) (hn : n ≤ 1000000000) (hbad : (20000 : Int) < (n : Int) ∨ (s.size : Int) - (j : Int) < (n : Int)) :
    Calls Try.prog 20 #[.string s, .int .i64 p] w fun e w' => e = .returned (.tuple #[.string ⟨#[]⟩, .int .i64 0, .bool false]) ∧ Below w.heap.size w w' := by
  by_cases h1 : (20000 : Int) < (n : Int)
  · clear hbad
    go_enter Try.func20, Try.ntmps20
    go_wp2_with (go_at_call 29; refine ((unhide C) _).mono ?_; rintro e w1 ⟨rfl, hb⟩; unfold rvTup)
    go_ret3
    exact ⟨rfl, hb⟩
  · have h2 : (s.size : Int) - (j : Int) < (n : Int) := by omega
    clear hbad
    go_enter Try.func20, Try.ntmps20
    go_wp2_with (go_at_call 29; refine ((unhide C) _).mono ?_; rintro e w1 ⟨rfl, hb⟩; unfold rvTup)
    go_ret3
    exact ⟨rfl, hb⟩

set_option maxHeartbeats 400000 in
theorem implRS_good (s : ByteArray) (p : Int) (n j : Nat) (w : World) (C : Hid (∀ W, Calls Try.prog 29 #[.string s, .int .i64 p] W fun e w' => e = .returned (rvTup (some (n, j))) ∧ Below W.heap.size W w'))
    (hs : s.size ≤ 1048576) (h1 : ¬ (20000 : Int) < (n : Int)) (h2 : ¬ (s.size : Int) - (j : Int) < (n : Int)) :
    Calls Try.prog 20 #[.string s, .int .i64 p] w fun e w' => e = .returned (.tuple #[.string (s.extract j (j + n)), .int .i64 ((j + n : Nat) : Int), .bool true]) ∧ Below w.heap.size w w' := by
  have h3 : (j : Int) ≤ (j : Int) + (n : Int) := by omega
  have h4 : (j : Int) + (n : Int) ≤ (s.size : Int) := by omega
  have h5 : (0 : Int) ≤ (j : Int) := by omega
  have hsz : ∀ b, (s.extract j b).size ≤ 281474976710656 := fun b => by rw [ByteArray.size_extract]; omega
  have HS := hide hsz
  clear hsz
  go_enter Try.func20, Try.ntmps20
  go_wp2_with (first
      | (go_at_call 29; refine ((unhide C) _).mono ?_; rintro e w1 ⟨rfl, hb⟩; unfold rvTup)
      | (go_at_call 39; refine (Try.stringslite_Clone _ _ (unhide HS _)).mono ?_; rintro e w3 ⟨rfl, hb3⟩)
      | go_in)
  go_ret3
  exact ⟨rfl, hb.trans (hb3.mono hb.size)⟩



end Go.Proofs.Ytinnaajkdkfnaab

/- Texts that are wrapped and unwrapped by the project's own functions, over the loaded program. -/
namespace Go.Proofs.Ytinnaajkdkfnaab
open Go.RowKit
theorem ext_l9 (F : ByteArray) (a b : Nat) : (F.extract a b).data.toList = (F.data.toList.drop a).take (b - a) := by
  rw [ByteArray.data_extract, Array.toList_extract, List.extract_eq_take_drop]
theorem ext_b9 {A B : ByteArray} (h : A.data.toList = B.data.toList) : A = B := ByteArray.ext (Array.toList_inj.1 h)
theorem rep_zero (c : Nat) : (⟨(Lib.repeatL (⟨#[0]⟩ : ByteArray).data.toList c).toArray⟩ : ByteArray) = ⟨(List.replicate c 0).toArray⟩ := by
  have := Lib.repeatL_replicate 0 1 c
  rw [Nat.mul_one] at this
  exact congrArg (fun l => (⟨l.toArray⟩ : ByteArray)) this
/-- A text was wrapped so where what is behind it fills the last unit. -/
theorem un_alt {key t : ByteArray} {n j : Nat} (ho : opOk key 0 t = true) (h : rvRun (opB key 0 t) 0 0 1 0 = some (n, j)) (hn : n ≤ (opB key 0 t).size - j) (h4 : n ≤ 400) :
    wrB key ((opB key 0 t).extract j (j + n)) = t ↔ (opB key 0 t).extract (j + n) (opB key 0 t).size = ⟨(List.replicate (zrN (j + n)) 0).toArray⟩ := by
  obtain ⟨_, h2, _, _, h5⟩ := rvRun_own (Nat.zero_le _) h
  obtain ⟨hlo, hback⟩ := lo_op ho
  generalize opB key 0 t = F at *
  obtain ⟨s, hs⟩ : ∃ s, s = F.extract j (j + n) := ⟨_, rfl⟩
  have hsz : s.size = n := by rw [hs, ByteArray.size_extract]; omega
  have hsl : s.data.toList = (F.data.toList.drop j).take n := by rw [hs, ext_l9, Nat.add_sub_cancel_left]
  have hFl : F.data.toList.length = F.size := rfl
  rw [List.drop_zero, Nat.sub_zero] at h5
  have hvl : (varB n).length = j := by rw [h5, List.length_take]; omega
  have hpd : pdL s = F.data.toList.take (j + n) := by
    unfold pdL
    rw [hsz, hsl, h5, ← List.take_add]
  have hpl : (pdL s).length = j + n := by rw [pdL_len, hsz, hvl]
  have hok : wrOk s = true := decide_eq_true (by omega)
  have hw : wrB key s = loB key 0 (pdB s) := by unfold wrB; rw [if_pos hok]
  have hpb : (pdB s).data.toList = F.data.toList.take (j + n) ++ List.replicate (zrN (j + n)) 0 := by
    show pdL s ++ List.replicate (zrN (pdL s).length) 0 = _
    rw [hpl, hpd]
  rw [← hs, hw]
  constructor
  · intro e
    have e2 := (op_lo (key := key) (pd_lo hok)).2
    have e3 : F = pdB s := by
      have e4 := (op_lo (key := key) hlo).2
      rw [hback] at e4
      rw [e] at e2
      rw [← e4, e2]
    apply ext_b9
    rw [ext_l9]
    show _ = List.replicate (zrN (j + n)) 0
    have e5 : F.data.toList = F.data.toList.take (j + n) ++ List.replicate (zrN (j + n)) 0 := (congrArg (fun x => x.data.toList) e3).trans hpb
    have e6 : F.data.toList.drop (j + n) = List.replicate (zrN (j + n)) 0 := by
      have := List.take_append_drop (j + n) F.data.toList
      rw [e5] at this
      have h9 := List.append_cancel_left (this.trans (by rw [← e5]; exact e5))
      rw [← e5] at h9
      exact h9
    rw [e6]
    apply List.take_of_length_le
    rw [← e6, List.length_drop]
    omega
  · intro e
    have e1 : F.data.toList.drop (j + n) = List.replicate (zrN (j + n)) 0 := by
      have := congrArg (fun x => x.data.toList) e
      simp only [ext_l9] at this
      rw [List.take_of_length_le (by rw [List.length_drop]; omega)] at this
      exact this
    have e2 : pdB s = F := by
      apply ext_b9
      rw [hpb, ← e1, List.take_append_drop]
    rw [e2, hback]
set_option maxRecDepth 20000 in
set_option maxHeartbeats 400000 in
theorem filling_any (n : Nat) (hn : n ≤ 2000000) (w : World) :
    Calls Try.prog 22 #[.int .i64 (n : Int)] w fun e w' => e = .returned (.string ⟨(List.replicate (zrN n) 0).toArray⟩) ∧ Below w.heap.size w w' := by
  obtain ⟨r, hr⟩ : ∃ r : Nat, r = n % 16 := ⟨_, rfl⟩
  obtain ⟨k, hk⟩ : ∃ k : Nat, k = 16 - r := ⟨_, rfl⟩
  have hz : zrN n = k % 16 := by unfold zrN; rw [hk, hr]
  obtain ⟨q, hq⟩ : ∃ q : Nat, q = k % 16 := ⟨_, rfl⟩
  rw [← hq] at hz
  have C := hide (fun W => Try.strings_Repeat ⟨#[0]⟩ q W (by omega) (by show 1 * q ≤ _; omega))
  rw [rep_zero, ← hz] at C
  have hl : zrN n = q := hz
  have t1 : ((n : Int)).tmod 16 = (r : Int) := by rw [Int.tmod_eq_emod_of_nonneg (by omega)]; omega
  have t2 : ((n : Int)) % 16 = (r : Int) := by omega
  have t3 : (16 : Int) - (r : Int) = (k : Int) := by omega
  have t4 : IntKind.i64.wrap (k : Int) = (k : Int) := by rw [IntKind.wrap_i64]; omega
  have t5 : ((k : Int)).tmod 16 = (q : Int) := by rw [Int.tmod_eq_emod_of_nonneg (by omega)]; omega
  have t6 : ((k : Int)) % 16 = (q : Int) := by omega
  have t7 : IntKind.i64.wrap (r : Int) = (r : Int) := by rw [IntKind.wrap_i64]; omega
  have t8 : IntKind.i64.wrap (q : Int) = (q : Int) := by rw [IntKind.wrap_i64]; omega
  generalize (⟨(List.replicate (zrN n) 0).toArray⟩ : ByteArray) = out at *
  rw [hl] at C
  clear hz hr hk hq hl
  go_enter Try.func22, Try.ntmps22
  go_wp2_with fail
  refine (unhide C w).mono ?_
  rintro e w1 ⟨rfl, hb1⟩
  clear C
  go_wp2
  go_ret
  exact ⟨rfl, hb1⟩
set_option maxRecDepth 20000 in
set_option maxHeartbeats 400000 in
theorem unwrap_shut (key t : ByteArray) (w : World) (CO : ∀ W : World, Calls Try.prog 19 #[.agg #[.string key, .int .i64 0], .string t] W fun e w' => e = wrongE ∧ Below W.heap.size W w') :
    Calls Try.prog 10 #[.agg #[.string key, .int .i64 0], .string t] w fun e w' => e = wrongE ∧ Below w.heap.size w w' := by
  replace CO := hide CO
  go_enter Try.func10, Try.ntmps10
  go_wp2_with fail
  obtain ⟨W, hW, hR, hB, hs1⟩ := one_cb w #[.string key, .int .i64 0] 31
  rw [hW]
  clear hW
  refine (unhide CO W).mono ?_
  rintro e w1 ⟨rfl, hb1⟩
  have hb := hB.trans (hb1.mono hB.size)
  clear CO hb1 hB hR
  unfold wrongE
  go_wp2
  exact ⟨rfl, rfl, hb⟩
set_option maxRecDepth 20000 in
set_option maxHeartbeats 800000 in
theorem unwrap_bad (key t F x : ByteArray) (p : Int) (ok : Bool) (hbad : ok = false ∨ (ok = true ∧ ¬ (x.size : Int) ≤ 400)) (w : World) (CO : ∀ W : World, Calls Try.prog 19 #[.agg #[.string key, .int .i64 0], .string t] W fun e w' => e = .returned (.string F) ∧ Below W.heap.size W w')
    (CR : ∀ W : World, Calls Try.prog 20 #[.string F, .int .i64 0] W fun e w' => e = .returned (.tuple #[.string x, .int .i64 p, .bool ok]) ∧ Below W.heap.size W w') :
    Calls Try.prog 10 #[.agg #[.string key, .int .i64 0], .string t] w fun e w' => e = wrongE ∧ Below w.heap.size w w' := by
  replace CO := hide CO
  replace CR := hide CR
  have CN0 := hide (fun W => need_no key 0 W)
  rcases hbad with rfl | ⟨rfl, hx⟩
  all_goals
    go_enter Try.func10, Try.ntmps10
    go_wp2_with fail
    obtain ⟨W, hW, hR, hB, hs1⟩ := one_cb w #[.string key, .int .i64 0] 31
    rw [hW]
    clear hW
    refine (unhide CO W).mono ?_
    rintro e w1 ⟨rfl, hb1⟩
    have hB1 := hB.trans (hb1.mono hB.size)
    have hR1 := hR.step hb1
    clear CO hb1 hB hR
    go_wp2_with fail
    refine (unhide CR w1).mono ?_
    rintro e w2 ⟨rfl, hb2⟩
    have hB2 := hB1.trans (hb2.mono hB1.size)
    have hR2 := hR1.step hb2
    have r0 := hR2.cell 0 (v := .string key) rfl
    have r1 := hR2.cell 1 (v := .int .i64 0) rfl
    clear CR hb2 hB1 hR1
    go_wp2_with fail
    try simp only [show decide ((x.size : Int) ≤ 400) = false from decide_eq_false (by omega)]
    refine (unhide CN0 w2).mono ?_
    rintro e w3 ⟨rfl, hb3⟩
    have hb := hB2.trans (hb3.mono hB2.size)
    clear CN0 hb3 hB2 hR2 r0 r1
    unfold wrongE
    go_wp2
    exact ⟨rfl, rfl, hb⟩
set_option maxRecDepth 20000 in
set_option maxHeartbeats 1600000 in
theorem unwrap_good (key t F x : ByteArray) (p : Nat) (hp : p ≤ F.size) (hF : F.size ≤ 1048576) (hx : (x.size : Int) ≤ 400) (ok : Bool) (hok : ok = decide (F.extract p F.size = ⟨(List.replicate (zrN p) 0).toArray⟩)) (w : World) (CO : ∀ W : World, Calls Try.prog 19 #[.agg #[.string key, .int .i64 0], .string t] W fun e w' => e = .returned (.string F) ∧ Below W.heap.size W w')
    (CR : ∀ W : World, Calls Try.prog 20 #[.string F, .int .i64 0] W fun e w' => e = .returned (.tuple #[.string x, .int .i64 (p : Int), .bool true]) ∧ Below W.heap.size W w') :
    Calls Try.prog 10 #[.agg #[.string key, .int .i64 0], .string t] w fun e w' => e = (if ok = true then .returned (.string x) else wrongE) ∧ Below w.heap.size w w' := by
  replace CO := hide CO
  replace CR := hide CR
  have CN0 := hide (fun W => need_no key 0 W)
  have CN1 := hide (fun W => need_yes key 0 W)
  have CF := hide (fun W => filling_any p (by omega) W)
  have hp0 : (0 : Int) ≤ (p : Int) := by omega
  have hpF : (p : Int) ≤ (F.size : Int) := by omega
  rw [← text_same] at hok
  generalize (⟨(List.replicate (zrN p) 0).toArray⟩ : ByteArray) = zs at *
  have hmin : min p F.size = p := Nat.min_eq_left hp
  go_enter Try.func10, Try.ntmps10
  go_wp2_with fail
  obtain ⟨W, hW, hR, hB, hs1⟩ := one_cb w #[.string key, .int .i64 0] 31
  rw [hW]
  clear hW
  refine (unhide CO W).mono ?_
  rintro e w1 ⟨rfl, hb1⟩
  have hB1 := hB.trans (hb1.mono hB.size)
  have hR1 := hR.step hb1
  clear CO hb1 hB hR
  go_wp2_with fail
  refine (unhide CR w1).mono ?_
  rintro e w2 ⟨rfl, hb2⟩
  have hB2 := hB1.trans (hb2.mono hB1.size)
  have hR2 := hR1.step hb2
  have s0 := hR2.cell 0 (v := .string key) rfl
  have s1 := hR2.cell 1 (v := .int .i64 0) rfl
  clear CR hb2 hB1 hR1
  go_wp2_with fail
  clear s0 s1
  refine (unhide CN1 w2).mono ?_
  rintro e w3 ⟨rfl, hb3⟩
  have hB3 := hB2.trans (hb3.mono hB2.size)
  have hR3 := hR2.step hb3
  have hl := hR3.lt
  have r0 := hR3.cell 0 (v := .string key) rfl
  have r1 := hR3.cell 1 (v := .int .i64 0) rfl
  clear hb3 hB2 hR2
  have KS := hide (fun (W : World) (h : Below w3.heap.size w3 W) => (⟨(h.cell (p := ⟨w.heap.size, 0, none⟩) hl).trans r0, (h.cell (p := ⟨w.heap.size, 1, none⟩) hl).trans r1⟩ : W.cell? ⟨w.heap.size, 0, none⟩ = some (.string key) ∧ W.cell? ⟨w.heap.size, 1, none⟩ = some (.int .i64 0)))
  go_wp2_with fail
  cases ok with
  | true =>
    have hok' := hok.symm
    clear hok
    go_region_held3 (fun W => W.cell? ⟨w.heap.size, 0, none⟩ = some (.string key) ∧ W.cell? ⟨w.heap.size, 1, none⟩ = some (.int .i64 0)) (first | exact ⟨r0, r1⟩ | exact unhide KS _ K2 | exact unhide KS _ K1 | fail) (first
      | (go_at_call 22; refine (unhide CF _).mono ?_; rintro e wA ⟨rfl, hbA⟩; have K1 := (Below.refl w3.heap.size w3).drew.trans hbA)
      | (go_at_call 21; refine (unhide CN1 _).mono ?_; rintro e wC ⟨rfl, hbC⟩; have K2 := K1.trans (hbC.mono K1.size))
      | fail)
    all_goals
      have hb := hB3.trans (K2.mono hB3.size)
      clear hbA hbC K1 K2 KS r0 r1 CF CN0 CN1
      go_wp2
      go_ret
      exact ⟨rfl, hb⟩
  | false =>
    have hok' := hok.symm
    clear hok
    refine wp_region_held_drew (S := (fun W => W.cell? ⟨w.heap.size, 0, none⟩ = some (.string key) ∧ W.cell? ⟨w.heap.size, 1, none⟩ = some (.int .i64 0))) (by kernel_rfl) ⟨r0, r1⟩ (fun hHeld => ?_)
    refine wpAnyH_take (i := 0) (v := ?_) rfl (by kernel_rfl) (by kernel_rfl) (by kernel_rfl) (fun _ _ _ h => h) (Or.inl ⟨by rfl, ?_⟩) (by assumption) ?_
    rotate_left
    · intro W9 hSw
      obtain ⟨e0, e1⟩ := hSw
      go_simp
      all_goals with_reducible rfl
    refine wpAnyH_take (i := 1) (v := ?_) rfl (by kernel_rfl) (by kernel_rfl) (by kernel_rfl) (fun _ _ _ h => h) (Or.inl ⟨by rfl, ?_⟩) (by assumption) ?_
    rotate_left
    · intro W9 hSw
      obtain ⟨e0, e1⟩ := hSw
      go_simp
      all_goals with_reducible rfl
    refine wpAnyH_take (i := 2) (v := ?_) rfl (by kernel_rfl) (by kernel_rfl) (by kernel_rfl) (fun _ _ _ h => h) (Or.inl ⟨by rfl, ?_⟩) (by assumption) ?_
    rotate_left
    · intro W9 hSw
      obtain ⟨e0, e1⟩ := hSw
      go_simp
      all_goals with_reducible rfl
    refine wpAnyH_take (i := 3) (v := ?_) rfl (by kernel_rfl) (by kernel_rfl) (by kernel_rfl) (fun _ _ _ h => h) (Or.inl ⟨by rfl, ?_⟩) (by assumption) ?_
    rotate_left
    · intro W9 hSw
      obtain ⟨e0, e1⟩ := hSw
      go_simp
      all_goals with_reducible rfl
    refine wpAnyH_take (i := 4) (v := ?_) rfl (by kernel_rfl) (by kernel_rfl) (by kernel_rfl) (fun _ _ _ h => h) (Or.inl ⟨by rfl, ?_⟩) (by assumption) ?_
    rotate_left
    · intro W9 hSw
      obtain ⟨e0, e1⟩ := hSw
      go_simp
      all_goals with_reducible rfl
    refine wpAnyH_ready (rs := [5]) (by kernel_rfl) (by simp) ?_
    refine AllReadyH.cons rfl (fun K hK => ?_) AllReadyH.nil
    go_simp
    go_at_call 22
    refine (unhide CF _).mono ?_
    rintro e wA ⟨rfl, hbA⟩
    have KA := (Below.refl w3.heap.size w3).drew.trans hbA
    go_wp2_with fail
    refine hK.out _ _ (unhide KS _ KA) (fun hHeld => ?_)
    clear hK K
    refine wpAnyH_take (i := 6) (v := ?_) rfl (by kernel_rfl) (by kernel_rfl) (by kernel_rfl) (fun _ _ _ h => h) (Or.inl ⟨by rfl, ?_⟩) (by assumption) ?_
    rotate_left
    · intro W9 hSw
      obtain ⟨e0, e1⟩ := hSw
      go_simp
      all_goals with_reducible rfl
    refine wpAnyH_ready (rs := [7]) (by kernel_rfl) (by simp) ?_
    refine AllReadyH.cons rfl (fun K hK => ?_) AllReadyH.nil
    go_simp
    go_at_call 21
    refine (unhide CN0 _).mono ?_
    rintro e wC ⟨rfl, hbC⟩
    have KC := KA.trans (hbC.mono KA.size)
    unfold wrongE
    exact ⟨rfl, rfl, hB3.trans (KC.mono hB3.size)⟩
/-- A reader finds what was wrapped, and panics where nothing was. -/
theorem unwrap_any (key : ByteArray) (hk : key.size ≤ 1048576) (t : ByteArray) (ht : t.size ≤ 1048576) (w : World) :
    Calls Try.prog 10 #[.agg #[.string key, .int .i64 0], .string t] w fun e w' => e = (if unOk key t = true then .returned (.string (unB key t)) else wrongE) ∧ Below w.heap.size w w' := by
  have CO := fun W => open_any key hk 0 t ht W
  have hle := opB_le key 0 t
  cases ho : opOk key 0 t with
  | false =>
    have hun : unOk key t = false := by
      unfold unOk unTry
      rw [ho]
      split
      · rfl
      · rw [if_neg (fun h => Bool.false_ne_true h.1)]
        rfl
    rw [hun, if_neg Bool.false_ne_true]
    refine unwrap_shut key t w fun W => ?_
    have := CO W
    rw [ho, if_neg Bool.false_ne_true] at this
    exact this
  | true =>
    rw [ho] at CO
    replace CO := fun W => (show Calls Try.prog 19 #[.agg #[.string key, .int .i64 0], .string t] W fun e w' => e = .returned (.string (opB key 0 t)) ∧ Below W.heap.size W w' from CO W)
    have hbel : ∀ (W : World) (v : Value), (Calls Try.prog 29 #[.string (opB key 0 t), .int .i64 ((0 : Nat) : Int)] W fun e w' => e = .returned v ∧ w' = W) → Calls Try.prog 29 #[.string (opB key 0 t), .int .i64 ((0 : Nat) : Int)] W fun e w' => e = .returned v ∧ Below W.heap.size W w' := fun W v h => h.mono fun e w' ⟨h1, h2⟩ => ⟨h1, h2 ▸ Below.refl _ _⟩
    have CV := fun W => hbel W _ (implReadVar_yes (opB key 0 t) 0 W (by unfold maxLen; omega) (Nat.zero_le _))
    have hF : (opB key 0 t).size ≤ 1048576 := by omega
    cases hr : rvRun (opB key 0 t) 0 0 1 0 with
    | none =>
      obtain ⟨h1, _⟩ := un_none hr
      rw [h1, if_neg Bool.false_ne_true]
      rw [hr] at CV
      exact unwrap_bad key t (opB key 0 t) _ _ false (.inl rfl) w CO fun W => implRS_none (opB key 0 t) ((0 : Nat) : Int) W (hide CV)
    | some y =>
      obtain ⟨n, j⟩ := y
      obtain ⟨hj, hn⟩ := rvRun_some (s := opB key 0 t) (a := 0) _ 0 1 0 n j (Nat.le_refl _) hr
      rw [hr] at CV
      by_cases hb : (20000 : Int) < (n : Int) ∨ ((opB key 0 t).size : Int) - (j : Int) < (n : Int)
      · obtain ⟨h1, _⟩ := un_some hr (fun hc => by
          have h3 : ((opB key 0 t).extract j (j + n)).size ≤ 400 := of_decide_eq_true hc.2.2.1
          rw [ByteArray.size_extract] at h3
          have := hc.2.1
          omega)
        rw [h1, if_neg Bool.false_ne_true]
        exact unwrap_bad key t (opB key 0 t) _ _ false (.inl rfl) w CO fun W => implRS_bad (opB key 0 t) ((0 : Nat) : Int) n j W (hide CV) hF hj hn hb
      · have CR := fun W => implRS_good (opB key 0 t) ((0 : Nat) : Int) n j W (hide CV) hF (by omega) (by omega)
        have hxs : ((opB key 0 t).extract j (j + n)).size = n := by rw [ByteArray.size_extract]; omega
        by_cases h4 : n ≤ 400
        · have halt := un_alt ho hr (by omega) h4
          refine (unwrap_good key t (opB key 0 t) ((opB key 0 t).extract j (j + n)) (j + n) (by omega) hF (by rw [hxs]; omega) _ rfl w CO CR).mono ?_
          rintro e w' ⟨rfl, hb'⟩
          refine ⟨?_, hb'⟩
          by_cases hc : (opB key 0 t).extract (j + n) (opB key 0 t).size = ⟨(List.replicate (zrN (j + n)) 0).toArray⟩
          · obtain ⟨h1, h2⟩ := un_yes hr ⟨ho, by omega, decide_eq_true (by rw [hxs]; exact h4), halt.2 hc⟩
            rw [decide_eq_true hc, h1, h2]
          · obtain ⟨h1, _⟩ := un_some hr (fun h => hc (halt.1 h.2.2.2))
            rw [decide_eq_false hc, h1]
            rfl
        · obtain ⟨h1, _⟩ := un_some hr (fun hc => by
            have h3 : ((opB key 0 t).extract j (j + n)).size ≤ 400 := of_decide_eq_true hc.2.2.1
            omega)
          rw [h1, if_neg Bool.false_ne_true]
          exact unwrap_bad key t (opB key 0 t) _ _ true (.inr ⟨rfl, by rw [hxs]; omega⟩) w CO CR
set_option maxRecDepth 20000 in
set_option maxHeartbeats 400000 in
theorem implUnwrap_any (key : ByteArray) (hk : key.size ≤ 1048576) (t : ByteArray) (ht : t.size ≤ 1048576) (w : World) :
    Calls Try.prog 5 #[.string key, .string t] w fun e w' => e = .returned (.tuple #[.string (unB key t), .bool (unOk key t)]) ∧ Below w.heap.size w w' := by
  have hmf : ∀ (fn : Fn) (first cap : Array Value) (w : World), (Instr.makeFunc fn first cap).run Try.prog w = .ok (.func fn first cap) w := fun _ _ _ _ => rfl
  have C := hide (fun W => found_unwrap key 0 t (unB key t) (unOk key t) W (fun W' => unwrap_any key hk t ht W'))
  rw [show (if unOk key t = true then unB key t else ⟨#[]⟩) = unB key t by split; rfl; next h => unfold unB; unfold unOk at h; cases hu : unTry key t with | none => rfl | some x => rw [hu] at h; exact absurd rfl h] at C
  generalize unB key t = out at *
  generalize unOk key t = ok at *
  go_enter Try.func5, Try.ntmps5
  go_wp2_with fail
  refine (unhide C w).mono ?_
  rintro e w1 ⟨rfl, hb1⟩
  clear C
  go_wp2
  refine bodyPost_ret (v := .tuple #[.string out, .bool ok]) (by simp [results, Try.results5, go_sem]) rfl ⟨rfl, hb1⟩
end Go.Proofs.Ytinnaajkdkfnaab

