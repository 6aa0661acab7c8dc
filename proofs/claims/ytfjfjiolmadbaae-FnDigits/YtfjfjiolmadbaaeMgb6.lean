/- Merged: DrawT, DrawN, DrawH, DrawY, DrawV, DrawZ, LawCh2. -/
import Derived.Test.YtfjfjiolmadbaaeMga1
import Derived.Test.YtfjfjiolmadbaaeMga2
import Derived.Test.YtfjfjiolmadbaaeMga3
import Derived.Test.YtfjfjiolmadbaaeMga4
import Derived.Test.YtfjfjiolmadbaaeMga5
import Derived.Deep.QuietTactic
import Derived.BigQuiet
/- What big, DrawSumOf and DrawPlaces come to: some text of fewer than 40 bytes; twelve numbers below 10000. -/
namespace Go.Proofs.Ytfjfjiolmadbaae
open Go.RowKit

set_option maxRecDepth 20000 in
set_option maxHeartbeats 400000 in
theorem big_any (w : World) (o : Option Addr) (n c : Nat) :
    Calls Try.prog 6 #[.slice o n c] w fun e w' => e = .returned (.bool (decide ((1048576 : Int) < (n : Int)))) ∧ w' = w := by
  go_enter Try.func6, Try.ntmps6
  go_wp2
  go_ret
  exact ⟨rfl, rfl⟩


theorem Try.infoIC : (Try.prog.info? 3).map (fun i => (i.zero, i.size, i.bytes)) = some (some (.int .i64 0), 1, 8) := by kernel_rfl

def ints (xs : List Nat) : List Value := xs.map fun (x : Nat) => Value.int .i64 (x : Int)

set_option maxRecDepth 20000 in
set_option maxHeartbeats 400000 in
theorem drawPlaces_any (w : World) (o : Option Addr) (n c : Nat) (hs : Src w w.heap.size o n) (hn : n ≤ 1048576) :
    Calls Try.prog 8 #[.slice o n c] w fun e w' => ∃ (v : Value) (xs : List Nat), xs.length = 12 ∧ (∀ x ∈ xs, x < 10000) ∧ e = .returned v ∧ OwnV w' w.heap.size 3 v (ints xs) ∧ Below w.heap.size w w' := by
  obtain ⟨i0, hi, hz0, hz1, hz2⟩ := info_parts Try.infoIC
  have HS := hide hs
  clear hs
  go_enter Try.func8, Try.ntmps8
  go_wp2_with fail
  go_at_call 24
  refine (l01New_any w o n c (unhide HS) hn).mono ?_
  rintro e w1 ⟨rfl, hb1, hc1⟩
  replace hc1 := hide hc1
  go_wp2_with fail
  go_at_call 28
  refine (l01Byte_any (unhide hc1) hn).mono ?_
  rintro e w2 ⟨x, hx, rfl, ho2, hc2⟩
  have hb2 := hb1.trans (ho2.below (Nat.le_refl _))
  have hg := hc2.lt
  replace hc2 := hide hc2
  replace ho2 := hide ho2
  clear hb1 hc1
  go_wp2
  go_loopw [4, 5] (fun v ti wr => ∃ (k : Nat) (xs : List Nat), k ≤ 12 ∧ xs.length = k ∧ ti = .int .i64 (k : Int) ∧ Hid (∀ x ∈ xs, x < 10000) ∧ OwnV wr w2.heap.size 3 v (ints xs) ∧ Below w.heap.size w wr ∧ w2.heap.size ≤ wr.heap.size ∧ Hid (Cur wr w.heap.size w.heap.size o n c))
    (fun _ ti _ => 12 - (intOf ti).toNat)
  case atStart => exact ⟨0, [], Nat.zero_le _, rfl, rfl, hide (by simp), World.ownsRow_made w2 #[] 0 (Nat.le_refl _) (by decide) (by simp), hb2.alloc hb2.size _, by simp, (unhide hc2).below ((Below.refl (w.heap.size + 1) w2).alloc (by omega) _) (by omega)⟩
  case round =>
    obtain ⟨k, xs, hk, hxl, rfl, HX, hown, hb, hsz, HC⟩ := hrel
    clear hc2 ho2 hb2
    by_cases hlt : k < 12
    · go_wp2_with fail
      go_at_call 26
      refine (l01Below_any (unhide HC) hn 10000 (by decide) (by decide)).mono ?_
      rintro e w3 ⟨y, hy, rfl, ho, hc3⟩
      have hown1 := hown.only ho hg
      have hb3 := hb.trans (ho.below (Nat.le_refl _))
      have hsz3 : w2.heap.size ≤ w3.heap.size := by rw [ho.size]; exact hsz
      have hil : (ints xs).length ≤ 12 := by simp [ints]; omega
      replace hc3 := hide hc3
      replace ho := hide ho
      clear hown hb HC
      go_wp2_with (at_builtin; refine wpList_append_vals rfl (.tmp 15) (.tmp 18) 26 rfl w2.heap.size w2.heap.size 3 i0 (.int .i64 0) 8 Try.underlying26 hi hz0 hz1 hz2 rfl _ (ints xs) rfl hown1 _ [.int .i64 (y : Int)] rfl (by intro u hu; simp only [List.mem_singleton] at hu; subst hu; rfl) 1 1 rfl rfl (by unfold maxLen; omega) (by omega) (Nat.le_refl _) hsz3 (Below.refl _ w3) ?_; intro v' w4 hown' hb4)
      have hc4 := hide ((unhide hc3).below hb4 hg)
      have hb' := hb3.trans (hb4.mono (show w.heap.size ≤ w2.heap.size by omega))
      have hsz4 : w2.heap.size ≤ w4.heap.size := Nat.le_trans hsz3 hb4.size
      have hown2 : OwnV w4 w2.heap.size 3 v' (ints (xs ++ [y])) := by unfold ints at hown' ⊢; rw [List.map_append]; exact hown'
      clear hown1 hb3 hb4 hc3 hown'
      go_wp2
      go_roundw
      case rel => exact ⟨k + 1, xs ++ [y], by omega, by simp [hxl], by go_num, hide (by intro z hz; rw [List.mem_append] at hz; rcases hz with hz | hz; exact unhide HX z hz; simp only [List.mem_singleton] at hz; omega), hown2, hb', hsz4, hc4⟩
      case measure => simp [intOf]; omega
    · have hke : k = 12 := by omega
      have hw : w.heap.size ≤ w2.heap.size := by omega
      replace hown := hide hown
      go_wp2
      go_ret
      exact ⟨_, xs, by omega, unhide HX, rfl, (unhide hown).low hw, hb⟩

end Go.Proofs.Ytfjfjiolmadbaae

/- More draws by contracts: once in so many times, one of a list of numbers, many bytes of one kind, a number, a text. -/
namespace Go.Proofs.Ytfjfjiolmadbaae
open Go.RowKit

set_option maxRecDepth 20000 in
set_option maxHeartbeats 400000 in
theorem l01Once_any {w : World} {base g n c : Nat} {o : Option Addr} (h : Cur w base g o n c) (hn : n ≤ 1048576) (m : Nat) (hm : 0 < m) (hm2 : m ≤ 4294967296) :
    Calls Try.prog 43 #[.pointer (some ⟨g, 0, none⟩), .int .i64 (m : Int)] w fun e w' => ∃ b : Bool, e = .returned (.bool b) ∧ Only g w w' ∧ Cur w' base g o n c := by
  have H := hide h
  clear h
  go_enter Try.func43, Try.ntmps43
  go_wp2_with (go_at_call 26; refine (l01Below_any (unhide H) hn m hm hm2).mono ?_; rintro e w1 ⟨x, hx, rfl, ho, hc⟩; replace hc := hide hc)
  go_ret
  exact ⟨_, rfl, ho, unhide hc⟩

/-- A row of numbers in block b. -/
def Nums (w : World) (b k : Nat) : Prop := ∀ j, j < k → ∃ z : Int, -9223372036854775808 ≤ z ∧ z ≤ 9223372036854775807 ∧ w.cell? ⟨b, j, none⟩ = some (.int .i64 z)

set_option maxRecDepth 20000 in
set_option maxHeartbeats 400000 in
theorem l01PickInt_any {w : World} {base g n c : Nat} {o : Option Addr} (h : Cur w base g o n c) (hn : n ≤ 1048576) (b k cap : Nat) (hk : 0 < k) (hk2 : k ≤ 1000) (hN : Nums w b k) (hbg : b ≠ g) :
    Calls Try.prog 44 #[.pointer (some ⟨g, 0, none⟩), .slice (some ⟨b, 0, none⟩) k cap] w fun e w' => ∃ z : Int, -9223372036854775808 ≤ z ∧ z ≤ 9223372036854775807 ∧ e = .returned (.int .i64 z) ∧ Only g w w' ∧ Cur w' base g o n c := by
  have H := hide h
  have HN := hide hN
  clear h hN
  go_enter Try.func44, Try.ntmps44
  go_wp2_with fail
  go_at_call 26
  refine (l01Below_any (unhide H) hn k hk (by omega)).mono ?_
  rintro e w1 ⟨x, hx, rfl, ho, hc⟩
  replace hc := hide hc
  obtain ⟨z, hz1, hz2, hcell⟩ := (unhide HN) x hx
  have hcell1 : w1.cell? ⟨b, x, none⟩ = some (.int .i64 z) := (World.cell?_of_block (w := w) (ho.block b hbg)).trans hcell
  replace ho := hide ho
  have hx0 : (0 : Int) ≤ (x : Int) := by omega
  have hx1 : (x : Int) < (k : Int) := by omega
  go_wp2
  go_ret
  exact ⟨z, hz1, hz2, rfl, unhide ho, unhide hc⟩


theorem map_set_bv (l : List UInt8) (k x : Nat) (hx : x < 256) : (l.map bv).set k (.int .u8 (x : Int)) = (l.set k (byteOf x)).map bv := by
  rw [List.map_set]
  congr 1
  simp only [bv, byteOf_toNat hx]
theorem rep_bv (n : Nat) : List.replicate n (Value.int .u8 0) = (List.replicate n (0 : UInt8)).map bv := by
  rw [List.map_replicate]; rfl

set_option maxRecDepth 20000 in
set_option maxHeartbeats 400000 in
theorem l01Long_any (m x : Nat) (w : World) (hm : 0 < m) (hm2 : m ≤ 1000000) (hx : x < 256) :
    Calls Try.prog 48 #[.int .i64 (m : Int), .int .u8 (x : Int)] w fun e w' => ∃ l : List UInt8, l.length = m ∧ e = .returned (.string ⟨l.toArray⟩) ∧ Below w.heap.size w w' := by
  obtain ⟨i0, hi, hz0, hz1, hz2⟩ := info_parts Try.infoBC
  go_enter Try.func48, Try.ntmps48
  go_wp2_with (at_make; refine wpList_make_full _ rfl _ _ 22 rfl w.heap.size 5 i0 (.int .u8 0) 1 Try.underlying22 hi hz0 hz1 _ _ _ _ m rfl rfl rfl rfl (by rw [hz2]; omega) (by unfold maxLen; omega) (Nat.le_refl _) ?_; intro w1 hown1 hgrow1)
  have hb1 : Below w.heap.size w w1 := (Below.refl _ _).grown hgrow1 (Nat.le_refl _) (fun k hk => by cases hk)
  have hown0 : OwnB w1 w.heap.size 5 (.slice (some ⟨w.heap.size, 0, none⟩) m m) (List.replicate m (0 : UInt8)) := by
    have e1 : (madeCells (Value.int .u8 0).cells (m * 1)).toList = (List.replicate m (0 : UInt8)).map bv := by
      show (madeCells #[Value.int .u8 0] (m * 1)).toList = _
      rw [Nat.mul_one, toList_madeCells_one, rep_bv]
    rw [e1] at hown1
    unfold OwnB
    rw [List.length_replicate]
    exact hown1
  clear hown1 hgrow1
  go_loopw [6] (fun ti wr => ∃ (k : Nat) (l : List UInt8), k ≤ m ∧ ti = .int .i64 (k : Int) ∧ l.length = m ∧ OwnB wr w.heap.size 5 (.slice (some ⟨w.heap.size, 0, none⟩) m m) l ∧ Below w.heap.size w wr)
    (fun ti _ => m - (intOf ti).toNat)
  case atStart => exact ⟨0, _, Nat.zero_le _, rfl, List.length_replicate, hown0, hb1⟩
  case round =>
    obtain ⟨k, l, hk, rfl, hl, hown, hb⟩ := hrel
    clear hown0 hb1
    by_cases hlt : k < m
    · have hownV : OwnV wr w.heap.size 5 (.slice (some ⟨w.heap.size, 0, none⟩) m m) (l.map bv) := by unfold OwnV; rw [List.length_map]; exact hown
      have hset := hownV.set k (.int .u8 (x : Int))
      rw [map_set_bv l k x hx] at hset
      have hown2 : OwnB (wr.setCell ⟨w.heap.size, k, none⟩ (.int .u8 (x : Int))) w.heap.size 5 (.slice (some ⟨w.heap.size, 0, none⟩) m m) (l.set k (byteOf x)) := by
        unfold OwnV at hset; rw [List.length_map] at hset; exact hset
      have hcell : wr.cell? ⟨w.heap.size, k, none⟩ = some (bv (l[k]'(by omega))) := hownV.cell (by rw [List.getElem?_map, List.getElem?_eq_getElem (by omega)]; rfl)
      have hfr := hownV.frozen k
      have hb2 := hb.setCell (p := ⟨w.heap.size, k, none⟩) (Nat.le_refl _) (.int .u8 (x : Int))
      have hl2 : (l.set k (byteOf x)).length = m := by rw [List.length_set]; exact hl
      replace hset := hide hset
      replace hownV := hide hownV
      replace hown2 := hide hown2
      replace hb2 := hide hb2
      replace hown := hide hown
      replace hl2 := hide hl2
      clear hb
      go_wp2
      go_roundw
      case rel => exact ⟨k + 1, _, by omega, by go_num, unhide hl2, unhide hown2, unhide hb2⟩
      case measure => simp [intOf]; omega
    · have hc := run_string_owned (P := Try.prog) wr 22 9 5 w.heap.size _ _ Try.underlying22 Try.underlying5 Try.underlying9 hown
      replace hown := hide hown
      go_wp2
      go_ret
      exact ⟨l, hl, rfl, hb⟩

end Go.Proofs.Ytfjfjiolmadbaae

/- The draws of chapter 5 by contracts, over the loaded program. -/
namespace Go.Proofs.Ytfjfjiolmadbaae
open Go.RowKit
set_option maxRecDepth 20000 in
set_option maxHeartbeats 400000 in
theorem l01PickP_any {w : World} {base g n c : Nat} {o : Option Addr} (p : Int → Prop) (h : Cur w base g o n c) (hn : n ≤ 1048576) (b k cap : Nat) (hk : 0 < k) (hk2 : k ≤ 1000) (hN : ∀ j, j < k → ∃ z, w.cell? ⟨b, j, none⟩ = some (.int .i64 z) ∧ p z) (hbg : b ≠ g) :
    Calls Try.prog 44 #[.pointer (some ⟨g, 0, none⟩), .slice (some ⟨b, 0, none⟩) k cap] w fun e w' => ∃ z : Int, p z ∧ e = .returned (.int .i64 z) ∧ Only g w w' ∧ Cur w' base g o n c := by
  have H := hide h
  have HN := hide hN
  clear h hN
  go_enter Try.func44, Try.ntmps44
  go_wp2_with fail
  go_at_call 26
  refine (l01Below_any (unhide H) hn k hk (by omega)).mono ?_
  rintro e w1 ⟨x, hx, rfl, ho, hc⟩
  replace hc := hide hc
  obtain ⟨z, hcell, hz⟩ := (unhide HN) x hx
  have hcell1 : w1.cell? ⟨b, x, none⟩ = some (.int .i64 z) := (World.cell?_of_block (w := w) (ho.block b hbg)).trans hcell
  replace ho := hide ho
  replace hz := hide hz
  have hx0 : (0 : Int) ≤ (x : Int) := by omega
  have hx1 : (x : Int) < (k : Int) := by omega
  go_wp2
  go_ret
  exact ⟨z, unhide hz, rfl, unhide ho, unhide hc⟩
set_option maxRecDepth 20000 in
set_option maxHeartbeats 400000 in
theorem l01Long0_any (m x : Nat) (w : World) (hm2 : m ≤ 1000000) (hx : x < 256) :
    Calls Try.prog 48 #[.int .i64 (m : Int), .int .u8 (x : Int)] w fun e w' => ∃ l : List UInt8, l.length = m ∧ e = .returned (.string ⟨l.toArray⟩) ∧ Below w.heap.size w w' := by
  obtain ⟨i0, hi, hz0, hz1, hz2⟩ := info_parts Try.infoBC
  go_enter Try.func48, Try.ntmps48
  go_wp2_with (at_make; refine wpList_make_full _ rfl _ _ 22 rfl w.heap.size 5 i0 (.int .u8 0) 1 Try.underlying22 hi hz0 hz1 _ _ _ _ m rfl rfl rfl rfl (by rw [hz2]; omega) (by unfold maxLen; omega) (Nat.le_refl _) ?_; intro w1 hown1 hgrow1)
  have hb1 : Below w.heap.size w w1 := (Below.refl _ _).grown hgrow1 (Nat.le_refl _) (fun k hk => by cases hk)
  have hown0 : OwnB w1 w.heap.size 5 (.slice (some ⟨w.heap.size, 0, none⟩) m m) (List.replicate m (0 : UInt8)) := by
    have e1 : (madeCells (Value.int .u8 0).cells (m * 1)).toList = (List.replicate m (0 : UInt8)).map bv := by
      show (madeCells #[Value.int .u8 0] (m * 1)).toList = _
      rw [Nat.mul_one, toList_madeCells_one, rep_bv]
    rw [e1] at hown1
    unfold OwnB
    rw [List.length_replicate]
    exact hown1
  clear hown1 hgrow1
  go_loopw [6] (fun ti wr => ∃ (k : Nat) (l : List UInt8), k ≤ m ∧ ti = .int .i64 (k : Int) ∧ l.length = m ∧ OwnB wr w.heap.size 5 (.slice (some ⟨w.heap.size, 0, none⟩) m m) l ∧ Below w.heap.size w wr)
    (fun ti _ => m - (intOf ti).toNat)
  case atStart => exact ⟨0, _, Nat.zero_le _, rfl, List.length_replicate, hown0, hb1⟩
  case round =>
    obtain ⟨k, l, hk, rfl, hl, hown, hb⟩ := hrel
    clear hown0 hb1
    by_cases hlt : k < m
    · have hownV : OwnV wr w.heap.size 5 (.slice (some ⟨w.heap.size, 0, none⟩) m m) (l.map bv) := by unfold OwnV; rw [List.length_map]; exact hown
      have hset := hownV.set k (.int .u8 (x : Int))
      rw [map_set_bv l k x hx] at hset
      have hown2 : OwnB (wr.setCell ⟨w.heap.size, k, none⟩ (.int .u8 (x : Int))) w.heap.size 5 (.slice (some ⟨w.heap.size, 0, none⟩) m m) (l.set k (byteOf x)) := by
        unfold OwnV at hset; rw [List.length_map] at hset; exact hset
      have hcell : wr.cell? ⟨w.heap.size, k, none⟩ = some (bv (l[k]'(by omega))) := hownV.cell (by rw [List.getElem?_map, List.getElem?_eq_getElem (by omega)]; rfl)
      have hfr := hownV.frozen k
      have hb2 := hb.setCell (p := ⟨w.heap.size, k, none⟩) (Nat.le_refl _) (.int .u8 (x : Int))
      have hl2 : (l.set k (byteOf x)).length = m := by rw [List.length_set]; exact hl
      replace hset := hide hset
      replace hownV := hide hownV
      replace hown2 := hide hown2
      replace hb2 := hide hb2
      replace hown := hide hown
      replace hl2 := hide hl2
      clear hb
      go_wp2
      go_roundw
      case rel => exact ⟨k + 1, _, by omega, by go_num, unhide hl2, unhide hown2, unhide hb2⟩
      case measure => simp [intOf]; omega
    · have hc := run_string_owned (P := Try.prog) wr 22 9 5 w.heap.size _ _ Try.underlying22 Try.underlying5 Try.underlying9 hown
      replace hown := hide hown
      go_wp2
      go_ret
      exact ⟨l, hl, rfl, hb⟩
theorem nums13 (w : World) (T : TypeId) : ∀ j, j < 13 → ∃ z, (w.alloc (.cells #[.int .i64 0, .int .i64 3, .int .i64 10, .int .i64 54, .int .i64 55, .int .i64 56, .int .i64 57, .int .i64 63, .int .i64 64, .int .i64 65, .int .i64 119, .int .i64 120, .int .i64 130] T)).cell? ⟨w.heap.size, j, none⟩ = some (.int .i64 z) ∧ (0 ≤ z ∧ z ≤ 130) := by
  intro j hj
  rw [cell_of_row _ w.heap.size j _ T (0, 0) (heap_alloc_new w _)]
  match j, hj with
  | 0, _ => exact ⟨0, rfl, by decide⟩
  | 1, _ => exact ⟨3, rfl, by decide⟩
  | 2, _ => exact ⟨10, rfl, by decide⟩
  | 3, _ => exact ⟨54, rfl, by decide⟩
  | 4, _ => exact ⟨55, rfl, by decide⟩
  | 5, _ => exact ⟨56, rfl, by decide⟩
  | 6, _ => exact ⟨57, rfl, by decide⟩
  | 7, _ => exact ⟨63, rfl, by decide⟩
  | 8, _ => exact ⟨64, rfl, by decide⟩
  | 9, _ => exact ⟨65, rfl, by decide⟩
  | 10, _ => exact ⟨119, rfl, by decide⟩
  | 11, _ => exact ⟨120, rfl, by decide⟩
  | 12, _ => exact ⟨130, rfl, by decide⟩
  | j + 13, hj => exact absurd hj (by omega)
set_option maxRecDepth 20000 in
set_option maxHeartbeats 400000 in
theorem l05Text_any {w : World} {base g n c : Nat} {o : Option Addr} (h : Cur w base g o n c) (hn : n ≤ 1048576) :
    Calls Try.prog 35 #[.pointer (some ⟨g, 0, none⟩)] w fun e w' => ∃ s : ByteArray, s.size ≤ 200 ∧ e = .returned (.string s) ∧ Below base w w' ∧ Cur w' base g o n c := by
  have hlo := h.lo
  have hgl := h.lt
  have H1 := hide (h.below ((Below.refl w.heap.size w).alloc (Nat.le_refl _) (.cells #[.int .i64 0, .int .i64 3, .int .i64 10, .int .i64 54, .int .i64 55, .int .i64 56, .int .i64 57, .int .i64 63, .int .i64 64, .int .i64 65, .int .i64 119, .int .i64 120, .int .i64 130] 3)) hgl)
  have HN := hide (nums13 w 3)
  have hb1 : Below base w (w.alloc (.cells #[.int .i64 0, .int .i64 3, .int .i64 10, .int .i64 54, .int .i64 55, .int .i64 56, .int .i64 57, .int .i64 63, .int .i64 64, .int .i64 65, .int .i64 119, .int .i64 120, .int .i64 130] 3)) := (Below.refl base w).alloc (by omega) _
  have hne : w.heap.size ≠ g := by omega
  clear h
  go_enter Try.func35, Try.ntmps35
  go_wp2_with fail
  generalize w.alloc (.cells #[.int .i64 0, .int .i64 3, .int .i64 10, .int .i64 54, .int .i64 55, .int .i64 56, .int .i64 57, .int .i64 63, .int .i64 64, .int .i64 65, .int .i64 119, .int .i64 120, .int .i64 130] 3) = w1 at *
  refine (l01PickP_any (fun z => 0 ≤ z ∧ z ≤ 130) (unhide H1) hn w.heap.size 13 13 (by omega) (by omega) (unhide HN) hne).mono ?_
  rintro e w2 ⟨z, ⟨hz0, hz1⟩, rfl, ho2, hc2⟩
  obtain ⟨m, rfl⟩ : ∃ m : Nat, z = (m : Int) := ⟨z.toNat, by omega⟩
  have hb2 := hb1.trans (ho2.below hlo)
  replace hc2 := hide hc2
  clear hb1 ho2 H1 HN
  go_wp2_with fail
  refine (l01Below_any (unhide hc2) hn 5 (by omega) (by omega)).mono ?_
  rintro e w3 ⟨x, hx, rfl, ho3, hc3⟩
  have hb3 := hb2.trans (ho3.below hlo)
  replace hc3 := hide hc3
  clear hb2 ho3 hc2
  go_wp2_with fail
  refine (l01Text_any (unhide hc3) hn x (by omega)).mono ?_
  rintro e w4 ⟨l, hl, rfl, hb34, hc4⟩
  have hb4 := hb3.trans hb34
  replace hc4 := hide hc4
  clear hb3 hb34 hc3
  go_wp2_with fail
  refine (l01Below_any (unhide hc4) hn 20 (by omega) (by omega)).mono ?_
  rintro e w5 ⟨y, hy, rfl, ho5, hc5⟩
  have hb5 := hb4.trans (ho5.below hlo)
  clear hb4 ho5 hc4
  have hgl5 := hc5.lt
  replace hc5 := hide hc5
  obtain ⟨y2, hy2⟩ : ∃ y2, y2 = 65 + y := ⟨_, rfl⟩
  have ey : IntKind.i64.wrap (65 + (y : Int)) = (y2 : Int) := by rw [IntKind.wrap_i64]; omega
  have ey2 : IntKind.u8.wrap (y2 : Int) = (y2 : Int) := by rw [IntKind.wrap_u8]; omega
  have hyl : y2 < 256 := by omega
  replace hy2 := hide hy2
  go_wp2_with fail
  refine (l01Long0_any m y2 w5 (by omega) hyl).mono ?_
  rintro e w6 ⟨l2, hl2, rfl, hb56⟩
  have hc6 := (unhide hc5).below hb56 hgl5
  have hb6 := hb5.trans (hb56.mono (by omega))
  clear hb5 hb56 hc5
  go_wp2
  go_ret
  refine ⟨_, ?_, rfl, hb6, hc6⟩
  rw [ByteArray.size_append]
  show l.length + l2.length ≤ 200
  omega
end Go.Proofs.Ytfjfjiolmadbaae

/- Drawn polynomials, by contracts, over the loaded program. -/
namespace Go.Proofs.Ytfjfjiolmadbaae
open Go.RowKit
theorem gTB9 {w w1 w2 : World} {r : Option Nat} (h : w.grownBy w1 r) (hb : Below w.heap.size w1 w2) : w.grownBy w2 r :=
  ⟨by rw [hb.os, h.os], by rw [hb.tape, h.tape], by rw [hb.output, h.output], Nat.le_trans h.size hb.size, fun j hj hr => by rw [hb.block j hj, h.block j hj hr]⟩
theorem gO9 {g : Nat} {w w' : World} (h : Only g w w') : w.grownBy w' (some g) := ⟨h.os, h.tape, h.output, by rw [h.size]; exact Nat.le_refl _, fun k _ hk => h.block k (fun e => hk (by rw [e]))⟩
def rngL (l : List Int) : Prop := ∀ x ∈ l, 0 ≤ x ∧ x ≤ 3328
theorem rngL_add {l : List Int} (h : rngL l) {x : Int} (hx : 0 ≤ x ∧ x ≤ 3328) : rngL (l ++ [x]) := by
  intro y hy
  rw [List.mem_append] at hy
  rcases hy with h1 | h1
  · exact h y h1
  · rw [List.mem_singleton] at h1; rw [h1]; exact hx
theorem rngL_set {l : List Int} (h : rngL l) (k : Nat) {x : Int} (hx : 0 ≤ x ∧ x ≤ 3328) : rngL (l.set k x) := by
  intro y hy
  rcases List.mem_or_eq_of_mem_set hy with h1 | h1
  · exact h y h1
  · rw [h1]; exact hx
theorem okPl_rng {l : List Int} (hl : l.length = 256) (h : rngL l) : okPl l = true :=
  okPl_of hl fun i hi => by rw [cAt_lt (by omega)]; exact h _ (List.getElem_mem _)
theorem map_add_iv (l : List Int) (x : Int) : l.map iv ++ [.int .i64 x] = (l ++ [x]).map iv := by rw [List.map_append]; rfl
theorem OwnV.some9 {w : World} {base n c : Nat} {a : Option Addr} {e : TypeId} {xs : List Value} (h : OwnV w base e (.slice a n c) xs) (hn : 0 < n) : ∃ g, a = some ⟨g, 0, none⟩ ∧ base ≤ g ∧ g < w.heap.size := by
  rcases h.2 with ⟨h1, _⟩ | ⟨g, cap, cur, h1, hb, h2, _⟩
  · simp only [Value.slice.injEq] at h1; omega
  · simp only [Value.slice.injEq] at h1
    refine ⟨g, h1.1, hb, ?_⟩
    rcases Nat.lt_or_ge g w.heap.size with h3 | h3
    · exact h3
    · rw [Array.getElem?_eq_none h3] at h2; cases h2
end Go.Proofs.Ytfjfjiolmadbaae

/- Draws of a seed and two places, over the loaded program. -/
namespace Go.Proofs.Ytfjfjiolmadbaae
open Go.RowKit
theorem nums5v (w : World) (T : TypeId) (a b : Int) (ha : -9223372036854775808 ≤ a ∧ a ≤ 9223372036854775807) (hb : -9223372036854775808 ≤ b ∧ b ≤ 9223372036854775807) : Nums (w.alloc (.cells #[.int .i64 (-1), .int .i64 a, .int .i64 b, .int .i64 9223372036854775807, .int .i64 (-9223372036854775808)] T)) w.heap.size 5 := by
  intro j hj
  rw [cell_of_row _ w.heap.size j _ T (0, 0) (heap_alloc_new w _)]
  match j, hj with
  | 0, _ => exact ⟨_, by decide, by decide, rfl⟩
  | 1, _ => exact ⟨a, ha.1, ha.2, rfl⟩
  | 2, _ => exact ⟨b, hb.1, hb.2, rfl⟩
  | 3, _ => exact ⟨_, by decide, by decide, rfl⟩
  | 4, _ => exact ⟨_, by decide, by decide, rfl⟩
  | j + 5, hj => exact absurd hj (by omega)

set_option maxRecDepth 20000 in
set_option maxHeartbeats 1000000 in
theorem l01Place_v {w : World} {base g n c : Nat} {o : Option Addr} (h : Cur w base g o n c) (hn : n ≤ 1048576) (m : Nat) (hm : 0 < m) (hm2 : m ≤ 1000000) :
    Calls Try.prog 27 #[.pointer (some ⟨g, 0, none⟩), .int .i64 (m : Int)] w fun e w' => ∃ z : Int, e = .returned (.int .i64 z) ∧ w.grownBy w' (some g) ∧ Cur w' base g o n c := by
  have hg := h.lt
  have H := hide h
  clear h
  go_enter Try.func27, Try.ntmps27
  go_wp2_with fail
  go_at_call 43
  refine (l01Once_any (unhide H) hn 15 (by decide) (by decide)).mono ?_
  rintro e w1 ⟨b, rfl, ho1, hc1⟩
  have G1 := hide (gO9 ho1)
  have s1 : w.heap.size ≤ w1.heap.size := by rw [ho1.size]; exact Nat.le_refl _
  replace hc1 := hide hc1
  clear ho1
  cases b with
  | true =>
    go_wp2_with fail
    go_at_call 44
    refine (l01PickInt_any ((unhide hc1).below ((Below.refl w1.heap.size w1).alloc (Nat.le_refl _) _) (by omega)) hn w1.heap.size 5 5 (by decide) (by decide) (nums5v w1 _ (m : Int) ((m : Int) + 1) (by omega) (by omega)) (by omega)).mono ?_
    rintro e w2 ⟨z, _, _, rfl, ho2, hc2⟩
    have G2 := hide (gT (unhide G1) (gT (gB ((Below.refl w1.heap.size w1).alloc (Nat.le_refl _) _) (some g)) (gO9 ho2)))
    replace hc2 := hide hc2
    replace ho2 := hide ho2
    go_wp2
    go_ret
    exact ⟨z, rfl, unhide G2, unhide hc2⟩
  | false =>
    go_wp2_with fail
    go_at_call 26
    refine (l01Below_any (unhide hc1) hn m hm (by omega)).mono ?_
    rintro e w2 ⟨x, hx, rfl, ho2, hc2⟩
    have G2 := hide (gT (unhide G1) (gO9 ho2))
    replace hc2 := hide hc2
    replace ho2 := hide ho2
    go_wp2
    go_ret
    exact ⟨(x : Int), rfl, unhide G2, unhide hc2⟩
end Go.Proofs.Ytfjfjiolmadbaae

/- Three drawn polynomials; rows of numbers held against each other, over the loaded program. -/
namespace Go.Proofs.Ytfjfjiolmadbaae
open Go.RowKit
theorem take_eq_next {a b : List Int} {k : Nat} (ha : k < a.length) (hb : k < b.length) (h : a.take k = b.take k) (he : cAt a k = cAt b k) : a.take (k + 1) = b.take (k + 1) := by
  rw [cAt_lt ha, cAt_lt hb] at he
  rw [List.take_add_one, List.take_add_one, h, List.getElem?_eq_getElem ha, List.getElem?_eq_getElem hb, he]
set_option maxRecDepth 20000 in
set_option maxHeartbeats 400000 in
theorem sameInts_any (a b : List Int) (hn2 : b.length ≤ 2000000) (va vb : Value) (w : World) (ra : RdV w va (a.map iv)) (rb : RdV w vb (b.map iv)) :
    Calls Try.prog 14 #[va, vb] w fun e w' => e = .returned (.bool (decide (a = b))) ∧ Below w.heap.size w w' := by
  obtain ⟨a1, c1, rfl, hc1⟩ := ra.open
  obtain ⟨a2, c2, rfl, hc2⟩ := rb.open
  clear ra rb
  rw [List.length_map, List.length_map]
  by_cases hl : a.length = b.length
  · obtain ⟨n, hnn⟩ : ∃ n, b.length = n := ⟨_, rfl⟩
    rw [hl, hnn]
    rw [hnn] at hn2
    have hna := hide (hl.trans hnn)
    replace hnn := hide hnn
    replace hl := hide hl
    go_enter Try.func14, Try.ntmps14
    go_wp2
    go_loopw [5] (fun ti wr => ∃ k q : Nat, k ≤ n ∧ ti = .int .i64 k ∧ wr = w.drewN q ∧ Hid (a.take k = b.take k)) (fun ti _ => n - (intOf ti).toNat)
    case atStart => exact ⟨0, 0, Nat.zero_le _, rfl, rfl, hide rfl⟩
    case round =>
      obtain ⟨k, q, hk, rfl, rfl, HT⟩ := hrel
      by_cases hlt : k < n
      · have hka : k < a.length := by rw [unhide hna]; exact hlt
        have hkb : k < b.length := by rw [unhide hnn]; exact hlt
        obtain ⟨g1, o1, rfl, hg1, d1⟩ := hc1 k _ (get_iv a k hka)
        obtain ⟨g2, o2, rfl, hg2, d2⟩ := hc2 k _ (get_iv b k hkb)
        have hi0 : (0 : Int) ≤ (k : Int) := by omega
        have hi1 : (k : Int) < (n : Int) := by omega
        by_cases he : cAt a k = cAt b k
        · have HT2 := hide (take_eq_next hka hkb (unhide HT) he)
          rw [he] at d1
          generalize cAt b k = y at d1 d2
          clear hc1 hc2 HT he hka hkb
          go_wp2
          go_quiet (fail)
          go_wp2
          go_roundw
          case rel => exact ⟨k + 1, _, by omega, by go_num, by first | rfl | rw [World.drewN_drewN], HT2⟩
          case measure => simp [intOf]; omega
        · have E := hide (show decide (a = b) = false by rw [decide_eq_false_iff_not]; intro h; exact he (by rw [h]))
          have he' : (cAt a k == cAt b k) = false := by rw [beq_eq_false_iff_ne]; exact he
          generalize cAt a k = x at d1 he he'
          generalize cAt b k = y at d2 he he'
          clear hc1 hc2 HT hka hkb
          go_wp2
          go_quiet (fail)
          go_wp2
          go_ret
          exact ⟨by rw [unhide E]; rfl, bDN (bDN (Below.refl _ w) _) _⟩
      · have hke : k = n := by omega
        have E := hide (show decide (a = b) = true by
          rw [decide_eq_true_iff]
          have h := unhide HT
          rw [List.take_of_length_le (by rw [unhide hna]; omega), List.take_of_length_le (by rw [unhide hnn]; omega)] at h
          exact h)
        replace hke := hide hke
        clear hc1 hc2 HT
        go_wp2
        go_ret
        exact ⟨by rw [unhide E]; rfl, bDN (Below.refl _ w) _⟩
  · have E := hide (show decide (a = b) = false by rw [decide_eq_false_iff_not]; intro h; exact hl (by rw [h]))
    have hl' : ((a.length : Int) == (b.length : Int)) = false := by rw [beq_eq_false_iff_ne]; omega
    have hl2 : ¬ (a.length : Int) = (b.length : Int) := by omega
    generalize a.length = na at *
    generalize b.length = nb at *
    go_enter Try.func14, Try.ntmps14
    go_wp2
    go_ret
    exact ⟨by rw [unhide E]; rfl, Below.refl _ _⟩
end Go.Proofs.Ytfjfjiolmadbaae

/- The law FnDigits, walked over the loaded program; what the project's functions answer is a premise. -/
namespace Go.Proofs.Ytfjfjiolmadbaae
open Go.RowKit
/-- How much is left of the first k digits. -/
def lfD (m : ByteArray) : Nat → Nat
  | 0 => 0
  | k + 1 => lfD m k + 15 - dgAt m k
theorem lfD_le (m : ByteArray) (k : Nat) : lfD m k ≤ 15 * k := by
  induction k with
  | zero => exact Nat.le_refl _
  | succ k ih => show lfD m k + 15 - dgAt m k ≤ _; omega
theorem lfD_two (m : ByteArray) (k : Nat) (hk : k ≤ 4) : lfD m (2 * k) = lfN (chopB m) k := by
  induction k with
  | zero => rfl
  | succ k ih =>
    have h1 := ih (by omega)
    have hb := byA_lt (chopB m) k
    have d1 : dgAt m (2 * k) = byA (chopB m) k / 16 := by unfold dgAt; rw [if_pos (by omega)]; exact (dgN_pair (chopB m) k).1
    have d2 : dgAt m (2 * k + 1) = byA (chopB m) k % 16 := by unfold dgAt; rw [if_pos (by omega)]; exact (dgN_pair (chopB m) k).2
    show lfD m (2 * k) + 15 - dgAt m (2 * k) + 15 - dgAt m (2 * k + 1) = lfN (chopB m) k + 30 - byA (chopB m) k / 16 - byA (chopB m) k % 16
    rw [h1, d1, d2]
    omega
theorem lfD_sum (m : ByteArray) : dgAt m 8 * 16 + dgAt m 9 = lfD m 8 := by
  rw [show (8 : Nat) = 2 * 4 from rfl, lfD_two m 4 (by omega)]
  have h1 : dgAt m (2 * 4) = lfN (chopB m) 4 / 16 := rfl
  have h2 : dgAt m 9 = lfN (chopB m) 4 % 16 := rfl
  rw [h1, h2]
  omega
def anyL (p : Nat → Bool) : Nat → Bool
  | 0 => false
  | k + 1 => anyL p k || p k
theorem anyL_false {p : Nat → Bool} {k : Nat} (h : anyL p k = false) : ∀ i, i < k → p i = false := by
  induction k with
  | zero => exact fun i hi => absurd hi (Nat.not_lt_zero _)
  | succ k ih =>
    have h2 : (anyL p k || p k) = false := h
    rw [Bool.or_eq_false_iff] at h2
    intro i hi
    by_cases e : i = k
    · rw [e]; exact h2.2
    · exact ih h2.1 i (by omega)
theorem anyL_none {p : Nat → Bool} {k : Nat} (h : ∀ i, i < k → p i = false) : anyL p k = false := by
  induction k with
  | zero => rfl
  | succ k ih => show (anyL p k || p k) = false; rw [ih fun i hi => h i (by omega), h k (by omega)]; rfl
theorem lfD_mono {s t : ByteArray} (k : Nat) (h : ∀ i, i < k → dgAt s i ≤ dgAt t i) : lfD t k ≤ lfD s k ∧ (lfD t k = lfD s k → ∀ i, i < k → dgAt s i = dgAt t i) := by
  induction k with
  | zero => exact ⟨Nat.le_refl _, fun _ i hi => absurd hi (Nat.not_lt_zero _)⟩
  | succ k ih =>
    obtain ⟨h1, h2⟩ := ih fun i hi => h i (by omega)
    have h3 := h k (by omega)
    have b1 := dgAt_le s k
    have b2 := dgAt_le t k
    have e1 : lfD s (k + 1) = lfD s k + 15 - dgAt s k := rfl
    have e2 : lfD t (k + 1) = lfD t k + 15 - dgAt t k := rfl
    refine ⟨by omega, fun h4 i hi => ?_⟩
    have h5 : lfD t k = lfD s k ∧ dgAt s k = dgAt t k := by omega
    by_cases e : i = k
    · rw [e]; exact h5.2
    · exact h2 h5.1 i (by omega)
theorem dg_none {s t : ByteArray} (h : ∀ i, i < 10 → dgAt s i ≤ dgAt t i) : ∀ i, i < 10 → dgAt s i = dgAt t i := by
  obtain ⟨h1, h2⟩ := lfD_mono 8 (s := s) (t := t) fun i hi => h i (by omega)
  have e1 := lfD_sum s
  have e2 := lfD_sum t
  have a8 := h 8 (by omega)
  have a9 := h 9 (by omega)
  have b1 := dgAt_le s 9
  have b2 := dgAt_le t 9
  have h3 : lfD t 8 = lfD s 8 := by omega
  intro i hi
  have h4 := h2 h3
  by_cases hi8 : i < 8
  · exact h4 i hi8
  · have : i = 8 ∨ i = 9 := by omega
    rcases this with rfl | rfl <;> omega
/-- Of two texts one has a lesser digit, or they have the same. -/
theorem less_more (s t : ByteArray) : anyL (fun i => decide (dgAt t i < dgAt s i)) 10 = anyL (fun i => decide (dgAt s i < dgAt t i)) 10 := by
  have key : ∀ a b : ByteArray, anyL (fun i => decide (dgAt a i < dgAt b i)) 10 = false → anyL (fun i => decide (dgAt b i < dgAt a i)) 10 = false := fun a b h => by
    have h1 : ∀ i, i < 10 → dgAt b i ≤ dgAt a i := fun i hi => by
      have := anyL_false h i hi
      rw [decide_eq_false_iff_not] at this
      omega
    have h2 := dg_none h1
    exact anyL_none fun i hi => by rw [decide_eq_false_iff_not, h2 i hi]; omega
  cases h1 : anyL (fun i => decide (dgAt t i < dgAt s i)) 10 with
  | false => exact (key t s h1).symm
  | true =>
    cases h2 : anyL (fun i => decide (dgAt s i < dgAt t i)) 10 with
    | true => rfl
    | false => rw [key s t h2] at h1; cases h1
theorem digL_get2 (m : ByteArray) (i : Nat) (h : i < 10) : ((digL m).map iv)[i]? = some (.int .i64 (dgAt m i : Int)) := by
  rw [List.getElem?_map, digL_at m i h]
  rfl
set_option maxRecDepth 20000 in
theorem drawDigitsOf_any (w : World) (o : Option Addr) (n c : Nat) (hs : Src w w.heap.size o n) (hn : n ≤ 1048576) :
    Calls Try.prog 12 #[.slice o n c] w fun e w' => ∃ s : ByteArray, s.size ≤ 200 ∧ e = .returned (.string s) ∧ Below w.heap.size w w' := by
  have HS := hide hs
  clear hs
  go_enter Try.func12, Try.ntmps12
  go_wp2_with fail
  refine (l01New_any w o n c (unhide HS) hn).mono ?_
  rintro e w1 ⟨rfl, hb1, hc1⟩
  replace hc1 := hide hc1
  go_wp2_with fail
  refine (l05Text_any (unhide hc1) hn).mono ?_
  rintro e w2 ⟨s, hs2, rfl, hb2, -⟩
  have hb2' := hb1.trans hb2
  clear hc1 hb1 hb2
  go_wp2
  go_ret
  exact ⟨s, hs2, rfl, hb2'⟩
set_option maxRecDepth 20000 in
set_option maxHeartbeats 1600000 in
theorem lawDigits_any {T : TypeId} (w : World) (o : Option Addr) (n c : Nat) (hs : Src w w.heap.size o n)
    (CI : ∀ m : ByteArray, m.size ≤ 1048576 → ∀ W : World, Below w.heap.size w W → Calls Try.prog 13 #[.string m] W fun e w' => (∃ v, e = .returned v ∧ OwnV w' W.heap.size T v ((digL m).map iv)) ∧ Below W.heap.size W w') :
    Calls Try.prog 4 #[.slice o n c] w fun e w' => e = .returned (.bool true) ∧ Below w.heap.size w w' := by
  have HS := hide hs
  clear hs
  replace CI := hide CI
  by_cases hbig : (1048576 : Int) < (n : Int)
  · have hd : decide ((1048576 : Int) < (n : Int)) = true := by rw [decide_eq_true_iff]; exact hbig
    go_enter Try.func4, Try.ntmps4
    go_wp2_with (go_at_call 6; refine (big_any w o n c).mono ?_; rintro e w1 ⟨rfl, rfl⟩)
    go_ret
    exact ⟨rfl, Below.refl _ _⟩
  have hd : decide ((1048576 : Int) < (n : Int)) = false := by rw [decide_eq_false_iff_not]; exact hbig
  have hn : n ≤ 1048576 := by omega
  go_enter Try.func4, Try.ntmps4
  go_wp2_with fail
  refine (big_any w o n c).mono ?_
  rintro e w0 ⟨rfl, hw0⟩
  have hw0' := hw0.symm
  subst hw0'
  clear hw0
  go_wp2_with fail
  refine (drawDigitsOf_any w o n c (unhide HS) hn).mono ?_
  rintro e w1 ⟨s, hs2, rfl, HT1⟩
  clear HS
  have c1 := hide (unhide CI s (by omega))
  have c2 := hide (fun W => specDigits_any s (by omega) W)
  have hsx : (s ++ ⟨#[120]⟩ : ByteArray).size ≤ 1048576 := by rw [ByteArray.size_append]; show s.size + 1 ≤ _; omega
  have c4 := hide (unhide CI (s ++ ⟨#[120]⟩) hsx)
  have dl1 := digL_len s
  have dl2 := digL_len (s ++ ⟨#[120]⟩)
  have g1 := hide (fun k (h : k < 10) => digL_get2 s k h)
  have g2 := hide (fun k (h : k < 10) => digL_get2 (s ++ ⟨#[120]⟩) k h)
  have fsum := lfD_sum s
  have flm := less_more s (s ++ ⟨#[120]⟩)
  have fle := hide (fun k => dgAt_le s k)
  have c3 := hide (fun W va vb ra rb => sameInts_any (digL s) (digL s) (by omega) va vb W ra rb)
  rw [decide_eq_true (show digL s = digL s from rfl)] at c3
  have hlf := hide (fun k => lfD_le s k)
  have hls := hide (show ∀ k, lfD s (k + 1) = lfD s k + 15 - dgAt s k from fun k => rfl)
  have hl0 := hide (show lfD s 0 = 0 from rfl)
  have ha1 := hide (show ∀ k, anyL (fun i => decide (dgAt (s ++ ⟨#[120]⟩) i < dgAt s i)) (k + 1) = (anyL (fun i => decide (dgAt (s ++ ⟨#[120]⟩) i < dgAt s i)) k || decide (dgAt (s ++ ⟨#[120]⟩) k < dgAt s k)) from fun k => rfl)
  have ha2 := hide (show ∀ k, anyL (fun i => decide (dgAt s i < dgAt (s ++ ⟨#[120]⟩) i)) (k + 1) = (anyL (fun i => decide (dgAt s i < dgAt (s ++ ⟨#[120]⟩) i)) k || decide (dgAt s k < dgAt (s ++ ⟨#[120]⟩) k)) from fun k => rfl)
  have hz1 := hide (show anyL (fun i => decide (dgAt (s ++ ⟨#[120]⟩) i < dgAt s i)) 0 = false from rfl)
  have hz2 := hide (show anyL (fun i => decide (dgAt s i < dgAt (s ++ ⟨#[120]⟩) i)) 0 = false from rfl)
  generalize anyL (fun i => decide (dgAt (s ++ ⟨#[120]⟩) i < dgAt s i)) = LS at *
  generalize anyL (fun i => decide (dgAt s i < dgAt (s ++ ⟨#[120]⟩) i)) = MR at *
  generalize dgAt (s ++ ⟨#[120]⟩) = d2 at *
  generalize dgAt s = d1 at *
  generalize lfD s = lf at *
  generalize digL s = D1 at *
  generalize digL (s ++ ⟨#[120]⟩) = D2 at *
  replace flm := hide flm; replace fsum := hide fsum; replace dl1 := hide dl1; replace dl2 := hide dl2; replace hsx := hide hsx
  clear CI
  go_wp2_with fail
  refine (unhide c1 w1 HT1).mono ?_
  rintro e w2 ⟨⟨va, rfl, oa⟩, hb2⟩
  have HT2 := HT1.trans (hb2.mono HT1.size)
  have ra := oa.rdv
  obtain ⟨aa, ca, rfl, hca⟩ := ra.open
  have hl10 : (D1.map iv).length = 10 := by rw [List.length_map]; exact unhide dl1
  rw [hl10] at ra ⊢
  clear oa hb2 HT1 c1
  go_wp2_with fail
  refine (unhide c2 w2).mono ?_
  rintro e w3 ⟨⟨vb, rfl, ob⟩, hb3⟩
  have HT3 := HT2.trans (hb3.mono HT2.size)
  have rb := ob.rdv
  have ra3 := ra.below hb3
  clear ob c2
  go_wp2_with fail
  refine (unhide c3 w3 _ _ ra3 rb).mono ?_
  rintro e w4 ⟨rfl, hb4⟩
  have HT4 := HT3.trans (hb4.mono HT3.size)
  have hQ4 := hb3.trans (hb4.mono hb3.size)
  clear c3 hb4 hb3 rb ra3 HT3
  have KA := hide (fun (W : World) (h : Below w2.heap.size w2 W) (k : Nat) (hk : k < 10) => (show ∃ g o, aa = some ⟨g, o, none⟩ ∧ W.cell? ⟨g, o + k, none⟩ = some (.int .i64 (d1 k : Int)) from by
    obtain ⟨g, o, e1, e2, e3⟩ := hca k _ (unhide g1 k hk)
    exact ⟨g, o, e1, (h.cell (p := ⟨g, o + k, none⟩) e2).trans e3⟩))
  clear hca g1 hl10
  go_wp2
  go_loopw [5, 6] (fun tz ti wr => ∃ (k q : Nat), k ≤ 8 ∧ ti = .int .i64 (k : Int) ∧ tz = .int .i64 (q : Int) ∧ Hid (q = lf k) ∧ Hid (Below w2.heap.size w2 wr) ∧ Below w.heap.size w wr) (fun _ ti _ => 8 - (intOf ti).toNat)
  case atStart => exact ⟨0, 0, by omega, rfl, rfl, hide (unhide hl0).symm, hide hQ4, HT4⟩
  case round =>
    clear hQ4 HT4
    obtain ⟨k, q, hk, rfl, rfl, hq, HQ, HT⟩ := hrel
    by_cases hlt : k < 8
    · have hk' : (k : Int) < 8 := by omega
      have hk10 : (k : Int) < 10 := by omega
      have hk0 : (0 : Int) ≤ (k : Int) := by omega
      obtain ⟨g, o, rfl, cA⟩ := unhide KA wr (unhide HQ) k (by omega)
      have dle := unhide fle k
      have hl := unhide hlf k
      have hn2 := unhide hls k
      rw [← unhide hq] at hl hn2
      obtain ⟨x, hx⟩ : ∃ x, x = d1 k := ⟨_, rfl⟩
      rw [← hx] at cA dle hn2
      obtain ⟨y1, hy1⟩ : ∃ y : Nat, y = q + 15 := ⟨_, rfl⟩
      obtain ⟨y2, hy2⟩ : ∃ y : Nat, y + x = y1 := ⟨y1 - x, by omega⟩
      have q1 : IntKind.i64.wrap ((q : Int) + 15) = (y1 : Int) := by rw [IntKind.wrap_i64]; omega
      have q2 : IntKind.i64.wrap ((y1 : Int) - (x : Int)) = (y2 : Int) := by rw [IntKind.wrap_i64]; omega
      have q3 : decide ((x : Int) < 0) = false := by rw [decide_eq_false_iff_not]; omega
      have q4 : ¬ (15 : Int) < (x : Int) := by omega
      have q5 : ¬ (x : Int) < 0 := by omega
      have hq2 := hide (show y2 = lf (k + 1) by omega)
      replace hx := hide hx; replace hy1 := hide hy1; replace hy2 := hide hy2
      clear hl hn2 KA
      go_wp2
      exact ⟨⟨k + 1, y2, by omega, by go_num, by first | rfl | trivial, hq2, HQ, HT⟩, by simp [intOf]; omega⟩
    · have hk' : ¬ (k : Int) < 8 := by omega
      obtain rfl : k = 8 := by omega
      have hs2' : s.size ≤ 1000 := by omega
      obtain ⟨w6, hw6⟩ : ∃ x, x = wr := ⟨_, rfl⟩
      subst hw6
      go_wp2_with fail
      refine (unhide c4 w6 HT).mono ?_
      rintro e w7 ⟨⟨ve, rfl, oe⟩, hb7⟩
      have HT7 := HT.trans (hb7.mono HT.size)
      have HQ7 := hide ((unhide HQ).trans (hb7.mono (unhide HQ).size))
      obtain ⟨ae, ce, rfl, hce⟩ := oe.rdv.open
      have hl10 : (D2.map iv).length = 10 := by rw [List.length_map]; exact unhide dl2
      rw [hl10]
      have KE := hide (fun (W : World) (h : Below w7.heap.size w7 W) (k : Nat) (hk : k < 10) => (show ∃ g o, ae = some ⟨g, o, none⟩ ∧ W.cell? ⟨g, o + k, none⟩ = some (.int .i64 (d2 k : Int)) from by
        obtain ⟨g, o, e1, e2, e3⟩ := hce k _ (unhide g2 k hk)
        exact ⟨g, o, e1, (h.cell (p := ⟨g, o + k, none⟩) e2).trans e3⟩))
      clear oe hb7 HT HQ hce c4 g2 hl10
      go_wp2
      go_loopw [8, 9, 10] (fun tl tm ti wr => ∃ (k j : Nat), k ≤ 10 ∧ ti = .int .i64 (k : Int) ∧ tl = .bool (LS k) ∧ tm = .bool (MR k) ∧ wr = w7.drewN j) (fun _ _ ti _ => 10 - (intOf ti).toNat)
      case atStart => exact ⟨0, 0, by omega, rfl, by rw [unhide hz1], by rw [unhide hz2], rfl⟩
      case round =>
        obtain ⟨k, j, hk2, rfl, rfl, rfl, rfl⟩ := hrel
        by_cases hlt2 : k < 10
        · have hk' : (k : Int) < 10 := by omega
          have hk0 : (0 : Int) ≤ (k : Int) := by omega
          obtain ⟨g, o, rfl, cA⟩ := unhide KA w7 (unhide HQ7) k hlt2
          obtain ⟨ge, oe, rfl, cE⟩ := unhide KE w7 (Below.refl _ _) k hlt2
          have HL := hide (unhide ha1 k)
          have HM := hide (unhide ha2 k)
          obtain ⟨x, hx⟩ : ∃ x, x = d1 k := ⟨_, rfl⟩
          obtain ⟨y, hy⟩ : ∃ y, y = d2 k := ⟨_, rfl⟩
          rw [← hx] at cA
          rw [← hy] at cE
          rw [← hx, ← hy] at HL HM
          replace hx := hide hx; replace hy := hide hy
          have i1 : decide ((y : Int) < (x : Int)) = decide (y < x) := by rw [decide_eq_decide]; omega
          have i2 : decide ((x : Int) < (y : Int)) = decide (x < y) := by rw [decide_eq_decide]; omega
          clear KA KE
          generalize LS k = L at *
          generalize MR k = M at *
          cases L <;> cases M <;>
            (go_wp2
             go_quiet (fail)
             go_wp2
             go_quiet (fail)
             go_wp2
             refine ⟨⟨k + 1, _, by omega, by go_num, by rw [unhide HL]; simp, by rw [unhide HM]; simp, by first | rfl | rw [World.drewN_drewN]⟩, by simp [intOf]; omega⟩)
        · have hk' : ¬ (k : Int) < 10 := by omega
          obtain rfl : k = 10 := by omega
          obtain ⟨g, o, rfl, cA⟩ := unhide KA w7 (unhide HQ7) 8 (by omega)
          obtain ⟨g', o', he, cB⟩ := unhide KA w7 (unhide HQ7) 9 (by omega)
          cases he
          have b8 := unhide fle 8
          have b9 := unhide fle 9
          have fs := unhide fsum
          rw [← unhide hq] at fs
          rw [unhide flm]
          obtain ⟨x, hx⟩ : ∃ x, x = d1 8 := ⟨_, rfl⟩
          obtain ⟨y, hy⟩ : ∃ y, y = d1 9 := ⟨_, rfl⟩
          rw [← hx] at cA b8 fs
          rw [← hy] at cB b9 fs
          obtain ⟨z, hz⟩ : ∃ z : Nat, z = x * 16 := ⟨_, rfl⟩
          rw [← hz] at fs
          have q1 : IntKind.i64.wrap ((x : Int) * 16) = (z : Int) := by rw [IntKind.wrap_i64]; omega
          have q2 : IntKind.i64.wrap ((z : Int) + (y : Int)) = (q : Int) := by rw [IntKind.wrap_i64]; omega
          replace hx := hide hx; replace hy := hide hy; replace hz := hide hz; replace fs := hide fs
          generalize MR 10 = M at *
          clear KA KE
          go_wp2
          go_quiet (fail)
          go_wp2
          go_ret
          exact ⟨by simp, bDN (bDN HT7 _) _⟩
end Go.Proofs.Ytfjfjiolmadbaae

