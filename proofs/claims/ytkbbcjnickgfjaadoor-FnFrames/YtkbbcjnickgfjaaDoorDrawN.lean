/- More draws by contracts: once in so many times, one of a list of numbers, many bytes of one kind, a number, a text. -/
import Derived.Test.YtkbbcjnickgfjaaDoorCur
namespace Go.Proofs.YtkbbcjnickgfjaaDoor
open Go.RowKit

set_option maxRecDepth 20000 in
set_option maxHeartbeats 400000 in
theorem l01Once_any {w : World} {base g n c : Nat} {o : Option Addr} (h : Cur w base g o n c) (hn : n ≤ 1048576) (m : Nat) (hm : 0 < m) (hm2 : m ≤ 4294967296) :
    Calls Tryd.prog 18 #[.pointer (some ⟨g, 0, none⟩), .int .i64 (m : Int)] w fun e w' => ∃ b : Bool, e = .returned (.bool b) ∧ Only g w w' ∧ Cur w' base g o n c := by
  have H := hide h
  clear h
  go_enter Tryd.func18, Tryd.ntmps18
  go_wp2_with (go_at_call 17; refine (l01Below_any (unhide H) hn m hm hm2).mono ?_; rintro e w1 ⟨x, hx, rfl, ho, hc⟩; replace hc := hide hc)
  go_ret
  exact ⟨_, rfl, ho, unhide hc⟩

/-- A row of numbers in block b. -/
def Nums (w : World) (b k : Nat) : Prop := ∀ j, j < k → ∃ z : Int, -9223372036854775808 ≤ z ∧ z ≤ 9223372036854775807 ∧ w.cell? ⟨b, j, none⟩ = some (.int .i64 z)



theorem map_set_bv (l : List UInt8) (k x : Nat) (hx : x < 256) : (l.map bv).set k (.int .u8 (x : Int)) = (l.set k (byteOf x)).map bv := by
  rw [List.map_set]
  congr 1
  simp only [bv, byteOf_toNat hx]
theorem rep_bv (n : Nat) : List.replicate n (Value.int .u8 0) = (List.replicate n (0 : UInt8)).map bv := by
  rw [List.map_replicate]; rfl

set_option maxRecDepth 20000 in
set_option maxHeartbeats 400000 in
theorem l01Long_any (m x : Nat) (w : World) (hm : 0 < m) (hm2 : m ≤ 1000000) (hx : x < 256) :
    Calls Tryd.prog 19 #[.int .i64 (m : Int), .int .u8 (x : Int)] w fun e w' => ∃ l : List UInt8, l.length = m ∧ e = .returned (.string ⟨l.toArray⟩) ∧ Below w.heap.size w w' := by
  obtain ⟨i0, hi, hz0, hz1, hz2⟩ := info_parts Tryd.infoBC
  go_enter Tryd.func19, Tryd.ntmps19
  go_wp2_with (at_make; refine wpList_make_full _ rfl _ _ 22 rfl w.heap.size 5 i0 (.int .u8 0) 1 Tryd.underlying22 hi hz0 hz1 _ _ _ _ m rfl rfl rfl rfl (by rw [hz2]; omega) (by unfold maxLen; omega) (Nat.le_refl _) ?_; intro w1 hown1 hgrow1)
  have hb1 : Below w.heap.size w w1 := (Below.refl _ _).grown hgrow1 (Nat.le_refl _) (fun k hk => by cases hk)
  have hown0 : OwnB w1 w.heap.size 5 (.slice (some ⟨w.heap.size, 0, none⟩) m m) (List.replicate m (0 : UInt8)) := by
    have e1 : (madeCells (Value.int .u8 0).cells (m * 1)).toList = (List.replicate m (0 : UInt8)).map bv := by
      show (madeCells #[Value.int .u8 0] (m * 1)).toList = _
      rw [Nat.mul_one, toList_madeCells_one, rep_bv]
    rw [e1] at hown1
    unfold OwnB
    rw [List.length_replicate]
    exact hown1
  clear hown1 hgrow1
  go_loopw [6] (fun ti wr => ∃ (k : Nat) (l : List UInt8), k ≤ m ∧ ti = .int .i64 (k : Int) ∧ l.length = m ∧ OwnB wr w.heap.size 5 (.slice (some ⟨w.heap.size, 0, none⟩) m m) l ∧ Below w.heap.size w wr)
    (fun ti _ => m - (intOf ti).toNat)
  case atStart => exact ⟨0, _, Nat.zero_le _, rfl, List.length_replicate, hown0, hb1⟩
  case round =>
    obtain ⟨k, l, hk, rfl, hl, hown, hb⟩ := hrel
    clear hown0 hb1
    by_cases hlt : k < m
    · have hownV : OwnV wr w.heap.size 5 (.slice (some ⟨w.heap.size, 0, none⟩) m m) (l.map bv) := by unfold OwnV; rw [List.length_map]; exact hown
      have hset := hownV.set k (.int .u8 (x : Int))
      rw [map_set_bv l k x hx] at hset
      have hown2 : OwnB (wr.setCell ⟨w.heap.size, k, none⟩ (.int .u8 (x : Int))) w.heap.size 5 (.slice (some ⟨w.heap.size, 0, none⟩) m m) (l.set k (byteOf x)) := by
        unfold OwnV at hset; rw [List.length_map] at hset; exact hset
      have hcell : wr.cell? ⟨w.heap.size, k, none⟩ = some (bv (l[k]'(by omega))) := hownV.cell (by rw [List.getElem?_map, List.getElem?_eq_getElem (by omega)]; rfl)
      have hfr := hownV.frozen k
      have hb2 := hb.setCell (p := ⟨w.heap.size, k, none⟩) (Nat.le_refl _) (.int .u8 (x : Int))
      have hl2 : (l.set k (byteOf x)).length = m := by rw [List.length_set]; exact hl
      replace hset := hide hset
      replace hownV := hide hownV
      replace hown2 := hide hown2
      replace hb2 := hide hb2
      replace hown := hide hown
      replace hl2 := hide hl2
      clear hb
      go_wp2
      go_roundw
      case rel => exact ⟨k + 1, _, by omega, by go_num, unhide hl2, unhide hown2, unhide hb2⟩
      case measure => simp [intOf]; omega
    · have hc := run_string_owned (P := Tryd.prog) wr 22 9 5 w.heap.size _ _ Tryd.underlying22 Tryd.underlying5 Tryd.underlying9 hown
      replace hown := hide hown
      go_wp2
      go_ret
      exact ⟨l, hl, rfl, hb⟩

set_option maxRecDepth 20000 in
set_option maxHeartbeats 400000 in
theorem drawHex_any (w : World) (o : Option Addr) (n c : Nat) (hs : Src w w.heap.size o n) (hn : n ≤ 1048576) :
    Calls Tryd.prog 7 #[.slice o n c] w fun e w' => ∃ s : ByteArray, s.size ≤ 20001 ∧ e = .returned (.string s) ∧ Below w.heap.size w w' := by
  have HS := hide hs
  clear hs
  go_enter Tryd.func7, Tryd.ntmps7
  go_wp2_with fail
  go_at_call 15
  refine (l01New_any w o n c (unhide HS) hn).mono ?_
  rintro e w1 ⟨rfl, hb1, hc1⟩
  replace hc1 := hide hc1
  go_wp2_with fail
  go_at_call 18
  refine (l01Once_any (unhide hc1) hn 60 (by decide) (by decide)).mono ?_
  rintro e w2 ⟨b, rfl, ho2, hc2⟩
  have hb2 := hb1.trans (ho2.below (Nat.le_refl _))
  replace hc2 := hide hc2
  replace ho2 := hide ho2
  cases b with
  | true =>
    go_wp2_with fail
    go_at_call 17
    refine (l01Below_any (unhide hc2) hn 2 (by decide) (by decide)).mono ?_
    rintro e w3 ⟨x, hx, rfl, ho3, hc3⟩
    have hb3 := hb2.trans (ho3.below (Nat.le_refl _))
    replace hc3 := hide hc3
    replace ho3 := hide ho3
    have C := hide (l01Long_any (20000 + x) 200 w3 (by omega) (by omega) (by decide))
    have e1 : ((20000 + x : Nat) : Int) = 20000 + (x : Int) := by omega
    rw [e1] at C
    go_wp2_with fail
    go_at_call 19
    refine (unhide C).mono ?_
    rintro e w4 ⟨l, hl, rfl, hb4⟩
    go_wp2
    go_ret
    exact ⟨_, by show l.length ≤ 20001; omega, rfl, hb3.trans (hb4.mono hb3.size)⟩
  | false =>
    go_wp2_with fail
    go_at_call 17
    refine (l01Below_any (unhide hc2) hn 30 (by decide) (by decide)).mono ?_
    rintro e w3 ⟨x, hx, rfl, ho3, hc3⟩
    have hb3 := hb2.trans (ho3.below (Nat.le_refl _))
    replace hc3 := hide hc3
    replace ho3 := hide ho3
    go_wp2_with fail
    go_at_call 20
    refine (l01Text_any (unhide hc3) hn x (by omega)).mono ?_
    rintro e w4 ⟨l, hl, rfl, hb4, -⟩
    go_wp2
    go_ret
    exact ⟨_, by show l.length ≤ 20001; omega, rfl, hb3.trans hb4⟩
end Go.Proofs.YtkbbcjnickgfjaaDoor
