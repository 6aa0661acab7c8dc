/- The cursor that the draws go by: a struct of the call's own that holds the code, a place in it and a number; what the draws of a byte, of a number and of a text come to. -/
import Derived.Test.YtkbbcjnickgfjaaDoorProg
import Derived.Test.YtkbbcjnickgfjaaDoorChecked
import Derived.Test.YtkbbcjnickgfjaaDoorStrs
import Derived.Laws.BitsLemmas
import Derived.Deep.RegionHeld3
import Derived.Deep.QuietTactic
import Derived.BigQuiet
namespace Go.Proofs.YtkbbcjnickgfjaaDoor
open Go.RowKit

theorem and255 (y : Int) : ∃ x : Nat, x < 256 ∧ bits .and .i64 y 255 = (x : Int) := by
  refine ⟨(BitVec.ofInt 64 y &&& BitVec.ofInt 64 255).toNat, ?_, ?_⟩
  · rw [BitVec.toNat_and]
    exact Nat.lt_of_le_of_lt Nat.and_le_right (by decide)
  · have h : (BitVec.ofInt 64 y &&& BitVec.ofInt 64 255).toNat < 256 := by
      rw [BitVec.toNat_and]
      exact Nat.lt_of_le_of_lt Nat.and_le_right (by decide)
    show IntKind.i64.wrap (((BitVec.ofInt 64 y &&& BitVec.ofInt 64 255).toNat : Nat) : Int) = _
    rw [IntKind.wrap_i64]
    omega

theorem and30 (y : Int) : ∃ x : Nat, x ≤ 1073741823 ∧ bits .and .i64 y 1073741823 = (x : Int) := by
  have h : (BitVec.ofInt 64 y &&& BitVec.ofInt 64 1073741823).toNat ≤ 1073741823 := by
    rw [BitVec.toNat_and]
    exact Nat.le_trans Nat.and_le_right (by decide)
  refine ⟨_, h, ?_⟩
  show IntKind.i64.wrap (((BitVec.ofInt 64 y &&& BitVec.ofInt 64 1073741823).toNat : Nat) : Int) = _
  rw [IntKind.wrap_i64]
  omega

/-- The bytes that the code holds. -/
def Src (w : World) (base : Nat) (o : Option Addr) (n : Nat) : Prop :=
  ∀ j, j < n → ∃ (b off z : Nat), o = some ⟨b, off, none⟩ ∧ b < base ∧ z < 256 ∧ w.cell? ⟨b, off + j, none⟩ = some (.int .u8 (z : Int))
theorem Src.below {w w' : World} {base B n : Nat} {o : Option Addr} (h : Src w base o n) (hb : Below B w w') (hB : base ≤ B) : Src w' base o n := by
  intro j hj
  obtain ⟨b, off, z, h1, h2, h3, h4⟩ := h j hj
  exact ⟨b, off, z, h1, h2, h3, by rw [hb.cell (by show b < B; omega)]; exact h4⟩
theorem Src.up {w : World} {base B n : Nat} {o : Option Addr} (h : Src w base o n) (hB : base ≤ B) : Src w B o n := by
  intro j hj
  obtain ⟨b, off, z, h1, h2, h3, h4⟩ := h j hj
  exact ⟨b, off, z, h1, by omega, h3, h4⟩

/-- A cursor in block g (of the call's own, from base on) over the code. -/
structure Cur (w : World) (base g : Nat) (o : Option Addr) (n c : Nat) : Prop where
  lo : base ≤ g
  blk : ∃ i h : Int, 0 ≤ i ∧ w.heap[g]? = some (.cells #[.slice o n c, .int .i64 i, .int .i64 h] 55 (0, 0))
  src : Src w base o n

theorem Cur.lt {w : World} {base g n c : Nat} {o : Option Addr} (h : Cur w base g o n c) : g < w.heap.size := by
  obtain ⟨i, k, _, hh⟩ := h.blk
  exact (Array.getElem?_eq_some_iff.1 hh).1
theorem Cur.below {w w' : World} {base B g n c : Nat} {o : Option Addr} (h : Cur w base g o n c) (hb : Below B w w') (hB : g < B) : Cur w' base g o n c := by
  obtain ⟨i, k, hi, hh⟩ := h.blk
  exact ⟨h.lo, ⟨i, k, hi, by rw [hb.block g hB]; exact hh⟩, h.src.below hb (by have := h.lo; omega)⟩

/-- Nothing but block g has turned. -/
structure Only (g : Nat) (w w' : World) : Prop where
  os : w'.os = w.os
  tape : w'.tape = w.tape
  output : w'.output = w.output
  size : w'.heap.size = w.heap.size
  block : ∀ k, k ≠ g → w'.heap[k]? = w.heap[k]?
theorem Only.below {g base : Nat} {w w' : World} (h : Only g w w') (hb : base ≤ g) : Below base w w' := ⟨h.os, h.tape, h.output, by rw [h.size]; exact Nat.le_refl _, fun k hk => h.block k (by omega)⟩
theorem Only.refl (g : Nat) (w : World) : Only g w w := ⟨rfl, rfl, rfl, rfl, fun _ _ => rfl⟩
theorem Only.trans {g : Nat} {a b c : World} (h : Only g a b) (k : Only g b c) : Only g a c :=
  ⟨k.os.trans h.os, k.tape.trans h.tape, k.output.trans h.output, k.size.trans h.size, fun i hi => (k.block i hi).trans (h.block i hi)⟩
theorem Only.drewN {g : Nat} {a b : World} (h : Only g a b) (n : Nat) : Only g a (b.drewN n) := ⟨h.os, h.tape, h.output, h.size, h.block⟩
theorem Only.drew {g : Nat} {a b : World} (h : Only g a b) : Only g a b.drew := ⟨h.os, h.tape, h.output, h.size, h.block⟩
theorem Only.setCell {g : Nat} {a w : World} (h : Only g a w) (k : Nat) (u : Value) : Only g a (w.setCell ⟨g, k, none⟩ u) :=
  h.trans ⟨rfl, rfl, rfl, by simp [World.setCell], fun k hk => Below.heap_setCell _ _ _ _ (by simpa using hk)⟩
theorem OwnB.only {w w' : World} {base g : Nat} {e : TypeId} {v : Value} {l : List UInt8} (h : OwnB w base e v l) (ho : Only g w w') (hg : g < base) : OwnB w' base e v l := by
  refine ⟨h.1, ?_⟩
  rcases h.2 with hn | ⟨g', cap, cur, rfl, hbg, hgg, rest⟩
  · exact .inl hn
  · exact .inr ⟨g', cap, cur, rfl, hbg, by rw [ho.block g' (by omega)]; exact hgg, rest⟩
theorem OwnV.only {w w' : World} {base g : Nat} {e : TypeId} {v : Value} {xs : List Value} (h : OwnV w base e v xs) (ho : Only g w w') (hg : g < base) : OwnV w' base e v xs := by
  refine ⟨h.1, ?_⟩
  rcases h.2 with hn | ⟨g', cap, cur, rfl, hbg, hgg, rest⟩
  · exact .inl hn
  · exact .inr ⟨g', cap, cur, rfl, hbg, by rw [ho.block g' (by omega)]; exact hgg, rest⟩

theorem heap_set3 {w : World} {g : Nat} {a b c : Value} {T : TypeId} (h : w.heap[g]? = some (.cells #[a, b, c] T (0, 0))) (u : Value) :
    (w.setCell ⟨g, 2, none⟩ u).heap[g]? = some (.cells #[a, b, u] T (0, 0)) := heap_setCell_same w g 2 #[a, b, c] T u h
theorem heap_set2 {w : World} {g : Nat} {a b c : Value} {T : TypeId} (h : w.heap[g]? = some (.cells #[a, b, c] T (0, 0))) (u : Value) :
    (w.setCell ⟨g, 1, none⟩ u).heap[g]? = some (.cells #[a, u, c] T (0, 0)) := heap_setCell_same w g 1 #[a, b, c] T u h

set_option maxRecDepth 20000 in
set_option maxHeartbeats 400000 in
theorem l01Byte_end (w : World) (g n c : Nat) (o : Option Addr) (i h : Int) (hh : Hid (w.heap[g]? = some (.cells #[.slice o n c, .int .i64 i, .int .i64 h] 55 (0, 0)))) (hi0 : 0 ≤ i) (hi : ¬ i < (n : Int)) :
    Calls Tryd.prog 16 #[.pointer (some ⟨g, 0, none⟩)] w fun e w' => ∃ x : Nat, x < 256 ∧ e = .returned (.int .i64 (x : Int)) ∧ Only g w w' ∧ ∃ i h : Int, 0 ≤ i ∧ w'.heap[g]? = some (.cells #[.slice o n c, .int .i64 i, .int .i64 h] 55 (0, 0)) := by
  have hc0 : w.cell? ⟨g, 0, none⟩ = some (.slice o n c) := by rw [cell_of_row w g 0 _ _ (0, 0) (unhide hh)]; rfl
  have hc1 : w.cell? ⟨g, 1, none⟩ = some (.int .i64 i) := by rw [cell_of_row w g 1 _ _ (0, 0) (unhide hh)]; rfl
  have hc2 : w.cell? ⟨g, 2, none⟩ = some (.int .i64 h) := by rw [cell_of_row w g 2 _ _ (0, 0) (unhide hh)]; rfl
  have hf1 : w.frozen? ⟨g, 1, none⟩ = false := frozen_of_row w g 1 _ _ (unhide hh)
  have hf2 : w.frozen? ⟨g, 2, none⟩ = false := frozen_of_row w g 2 _ _ (unhide hh)
  obtain ⟨h1, e1⟩ : ∃ h1, wrap64 (wrap64 (h * 6364136223846793005) + 1442695040888963407) = h1 := ⟨_, rfl⟩
  obtain ⟨x, hx, e2⟩ := and255 (bits .xor .i64 (h1 / 8589934592) (h1 / 35184372088832))
  have HH := hide (heap_set3 (unhide hh) (.int .i64 h1))
  have hd : decide (i < (n : Int)) = false := by rw [decide_eq_false_iff_not]; exact hi
  go_enter Tryd.func16, Tryd.ntmps16
  go_wp2
  go_quiet (fail)
  go_wp2
  go_quiet (fail)
  go_wp2
  go_ret
  exact ⟨x, hx, rfl, (((Only.refl g w).setCell 2 _).drewN _).drewN _, i, h1, hi0, unhide HH⟩

set_option maxRecDepth 20000 in
set_option maxHeartbeats 400000 in
theorem l01Byte_more (w : World) (g n c : Nat) (b off z : Nat) (k : Nat) (h : Int) (hh : Hid (w.heap[g]? = some (.cells #[.slice (some ⟨b, off, none⟩) n c, .int .i64 (k : Int), .int .i64 h] 55 (0, 0)))) (hi : (k : Int) < (n : Int))
    (hn : n ≤ 1048576) (hz : z < 256) (hcell : w.cell? ⟨b, off + k, none⟩ = some (.int .u8 (z : Int))) (hbg : b ≠ g) :
    Calls Tryd.prog 16 #[.pointer (some ⟨g, 0, none⟩)] w fun e w' => ∃ x : Nat, x < 256 ∧ e = .returned (.int .i64 (x : Int)) ∧ Only g w w' ∧ ∃ i h : Int, 0 ≤ i ∧ w'.heap[g]? = some (.cells #[.slice (some ⟨b, off, none⟩) n c, .int .i64 i, .int .i64 h] 55 (0, 0)) := by
  have hc0 : w.cell? ⟨g, 0, none⟩ = some (.slice (some ⟨b, off, none⟩) n c) := by rw [cell_of_row w g 0 _ _ (0, 0) (unhide hh)]; rfl
  have hc1 : w.cell? ⟨g, 1, none⟩ = some (.int .i64 (k : Int)) := by rw [cell_of_row w g 1 _ _ (0, 0) (unhide hh)]; rfl
  have hc2 : w.cell? ⟨g, 2, none⟩ = some (.int .i64 h) := by rw [cell_of_row w g 2 _ _ (0, 0) (unhide hh)]; rfl
  have hf1 : w.frozen? ⟨g, 1, none⟩ = false := frozen_of_row w g 1 _ _ (unhide hh)
  have hf2 : w.frozen? ⟨g, 2, none⟩ = false := frozen_of_row w g 2 _ _ (unhide hh)
  obtain ⟨h1, e1⟩ : ∃ h1, wrap64 (wrap64 (h * 6364136223846793005) + 1442695040888963407) = h1 := ⟨_, rfl⟩
  obtain ⟨x, hx, e2⟩ := and255 (bits .xor .i64 (h1 / 8589934592) (h1 / 35184372088832))
  obtain ⟨x2, hx2, e3⟩ := and255 ((x : Int) + (z : Int))
  have HH := hide (heap_set2 (heap_set3 (unhide hh) (.int .i64 h1)) (.int .i64 ((k + 1 : Nat) : Int)))
  have hd : decide ((k : Int) < (n : Int)) = true := by rw [decide_eq_true_iff]; exact hi
  have hk0 : (0 : Int) ≤ (k : Int) := by omega
  go_enter Tryd.func16, Tryd.ntmps16
  go_wp2
  go_quiet (fail)
  go_wp2
  go_quiet (fail)
  go_wp2
  go_quiet (fail)
  go_wp2
  go_ret
  exact ⟨x2, hx2, rfl, (((Only.refl g w).setCell 2 _).drewN _).setCell 1 _, (k + 1 : Nat), h1, by omega, unhide HH⟩

/-- A drawn byte. -/
theorem l01Byte_any {w : World} {base g n c : Nat} {o : Option Addr} (h : Cur w base g o n c) (hn : n ≤ 1048576) :
    Calls Tryd.prog 16 #[.pointer (some ⟨g, 0, none⟩)] w fun e w' => ∃ x : Nat, x < 256 ∧ e = .returned (.int .i64 (x : Int)) ∧ Only g w w' ∧ Cur w' base g o n c := by
  obtain ⟨i, k, hi, hh⟩ := h.blk
  have fin : ∀ (e : Ending) (w' : World), (∃ x : Nat, x < 256 ∧ e = .returned (.int .i64 (x : Int)) ∧ Only g w w' ∧ ∃ i h : Int, 0 ≤ i ∧ w'.heap[g]? = some (.cells #[.slice o n c, .int .i64 i, .int .i64 h] 55 (0, 0))) →
      ∃ x : Nat, x < 256 ∧ e = .returned (.int .i64 (x : Int)) ∧ Only g w w' ∧ Cur w' base g o n c := by
    rintro e w' ⟨x, hx, he, ho, hb⟩
    exact ⟨x, hx, he, ho, ⟨h.lo, hb, h.src.below (ho.below h.lo) (Nat.le_refl _)⟩⟩
  by_cases hlt : i < (n : Int)
  · obtain ⟨j, rfl⟩ := Int.eq_ofNat_of_zero_le hi
    obtain ⟨b, off, z, rfl, hb, hz, hc⟩ := h.src j (by omega)
    exact (l01Byte_more w g n c b off z j k (hide hh) hlt hn hz hc (by have := h.lo; omega)).mono fin
  · exact (l01Byte_end w g n c o i k (hide hh) hi hlt).mono fin

set_option maxRecDepth 20000 in
set_option maxHeartbeats 400000 in
/-- A drawn number below m. -/
theorem l01Below_any {w : World} {base g n c : Nat} {o : Option Addr} (h : Cur w base g o n c) (hn : n ≤ 1048576) (m : Nat) (hm : 0 < m) (hm2 : m ≤ 4294967296) :
    Calls Tryd.prog 17 #[.pointer (some ⟨g, 0, none⟩), .int .i64 (m : Int)] w fun e w' => ∃ x : Nat, x < m ∧ e = .returned (.int .i64 (x : Int)) ∧ Only g w w' ∧ Cur w' base g o n c := by
  have H := hide h
  clear h
  have h0 : ¬ (m : Int) ≤ 0 := by omega
  by_cases h1 : (m : Int) ≤ 256
  · go_enter Tryd.func17, Tryd.ntmps17
    go_wp2_with (go_at_call 16; refine (l01Byte_any (unhide H) hn).mono ?_; rintro e w1 ⟨x, hx, rfl, ho, hc⟩; replace hc := hide hc)
    go_ret
    exact ⟨x % m, Nat.mod_lt _ hm, rfl, ho, unhide hc⟩
  · go_enter Tryd.func17, Tryd.ntmps17
    go_wp2_with fail
    go_at_call 16
    refine (l01Byte_any (unhide H) hn).mono ?_
    rintro e w1 ⟨x1, hx1, rfl, ho1, hc1⟩
    replace hc1 := hide hc1
    go_wp2_with fail
    go_at_call 16
    refine (l01Byte_any (unhide hc1) hn).mono ?_
    rintro e w2 ⟨x2, hx2, rfl, ho2, hc2⟩
    replace hc2 := hide hc2
    go_wp2_with fail
    go_at_call 16
    refine (l01Byte_any (unhide hc2) hn).mono ?_
    rintro e w3 ⟨x3, hx3, rfl, ho3, hc3⟩
    replace hc3 := hide hc3
    go_wp2_with fail
    go_at_call 16
    refine (l01Byte_any (unhide hc3) hn).mono ?_
    rintro e w4 ⟨x4, hx4, rfl, ho4, hc4⟩
    replace hc4 := hide hc4
    go_wp2
    go_ret
    exact ⟨(x1 * 16777216 + x2 * 65536 + x3 * 256 + x4) % m, Nat.mod_lt _ hm, rfl, ((ho1.trans ho2).trans ho3).trans ho4, unhide hc4⟩

theorem cs_at {b : UInt8} {v : Int} (h : (b.toNat : Int) = v) : (#[Value.int .u8 v] : Array Value).toList = [b].map bv := by subst h; rfl

theorem Tryd.infoBC : (Tryd.prog.info? 5).map (fun i => (i.zero, i.size, i.bytes)) = some (some (.int .u8 0), 1, 1) := by kernel_rfl

set_option maxRecDepth 20000 in
set_option maxHeartbeats 400000 in
/-- A drawn text of m bytes. -/
theorem l01Text_any {w : World} {base g n c : Nat} {o : Option Addr} (h : Cur w base g o n c) (hn : n ≤ 1048576) (m : Nat) (hm : m ≤ 5000) :
    Calls Tryd.prog 20 #[.pointer (some ⟨g, 0, none⟩), .int .i64 (m : Int)] w fun e w' => ∃ l : List UInt8, l.length = m ∧ e = .returned (.string ⟨l.toArray⟩) ∧ Below base w w' ∧ Cur w' base g o n c := by
  obtain ⟨i0, hi, hz0, hz1, hz2⟩ := info_parts Tryd.infoBC
  have H := hide h
  clear h
  have h0 : ¬ (5000 : Int) < (m : Int) := by omega
  go_enter Tryd.func20, Tryd.ntmps20
  go_wp2
  have hg := (unhide H).lt
  have hlo := (unhide H).lo
  go_loopw [5, 6] (fun v ti wr => ∃ (k : Nat) (pre : List UInt8), k ≤ m ∧ pre.length = k ∧ ti = .int .i64 (k : Int) ∧ OwnB wr w.heap.size 5 v pre ∧ Below base w wr ∧ Hid (Cur wr base g o n c))
    (fun _ ti _ => m - (intOf ti).toNat)
  case atStart => exact ⟨0, [], Nat.zero_le _, rfl, rfl, World.ownsRow_made w #[] 0 (Nat.le_refl _) (by decide) (by simp), (Below.refl base w).alloc (by omega) _, (unhide H).below ((Below.refl (g + 1) w).alloc (by omega) _) (by omega)⟩
  case round =>
    clear H h0
    obtain ⟨k, pre, hk, hpl, rfl, hown, hb, HC⟩ := hrel
    have hsz := hb.size
    by_cases hlt : k < m
    · go_wp2_with fail
      go_at_call 16
      refine (l01Byte_any (unhide HC) hn).mono ?_
      rintro e w1 ⟨x, hx, rfl, ho, hc1⟩
      have hown1 := hown.only ho hg
      have hb1 := hb.trans (ho.below hlo)
      have hsz1 := hb1.size
      replace hc1 := hide hc1
      replace ho := hide ho
      clear hown hb HC
      have hbx : ((byteOf x).toNat : Int) = (x : Int) := by rw [byteOf_toNat hx]
      go_wp2_with (at_builtin; refine wpList_append_bytes rfl (.tmp 15) (.tmp 19) 22 rfl w.heap.size w.heap.size 5 i0 Tryd.underlying22 hi hz0 hz1 hz2 _ pre rfl hown1 _ [byteOf x] (cs_at hbx) 1 1 rfl rfl (by omega) (Nat.le_refl _) hsz1 (Below.refl _ w1) ?_; intro v' w2 hown' hb2)
      have hc2 := hide ((unhide hc1).below hb2 hg)
      have hb' := hb1.trans (hb2.mono (show base ≤ w.heap.size by omega))
      clear hown1 hb1 hb2 hc1
      go_wp2
      go_roundw
      case rel => exact ⟨k + 1, pre ++ [byteOf x], by omega, by simp [hpl], by go_num, hown', hb', hc2⟩
      case measure => simp [intOf]; omega
    · have hke : k = m := by omega
      have hc := run_string_owned (P := Tryd.prog) wr 22 9 5 w.heap.size _ _ Tryd.underlying22 Tryd.underlying5 Tryd.underlying9 hown
      clear hown
      go_wp2
      go_ret
      exact ⟨pre, by omega, rfl, hb, unhide HC⟩

set_option maxRecDepth 20000 in
set_option maxHeartbeats 400000 in
/-- A new cursor over the code. -/
theorem l01New_any (w : World) (o : Option Addr) (n c : Nat) (hs : Src w w.heap.size o n) (hn : n ≤ 1048576) :
    Calls Tryd.prog 15 #[.slice o n c] w fun e w' => e = .returned (.pointer (some ⟨w.heap.size, 0, none⟩)) ∧ Below w.heap.size w w' ∧ Cur w' w.heap.size w.heap.size o n c := by
  have HS := hide hs
  clear hs
  go_enter Tryd.func15, Tryd.ntmps15
  go_wp2
  go_loop [3, 4] (fun th ti => ∃ h k : Nat, h ≤ 1073741823 ∧ k ≤ n ∧ th = .int .i64 (h : Int) ∧ ti = .int .i64 (k : Int)) (fun _ ti => n - (intOf ti).toNat)
  case atStart => exact ⟨27401 + n, 0, by omega, Nat.zero_le _, by simp, rfl⟩
  case round =>
    obtain ⟨h, k, hh, hk, rfl, rfl⟩ := hrel
    by_cases hlt : (k : Int) < (n : Int)
    · have hd : decide ((k : Int) < (n : Int)) = true := by rw [decide_eq_true_iff]; exact hlt
      by_cases hlt2 : (k : Int) < 4000
      · have hd2 : decide ((k : Int) < 4000) = true := by rw [decide_eq_true_iff]; exact hlt2
        obtain ⟨b, off, z, rfl, hb, hz, hcell⟩ := (unhide HS) k (by omega)
        obtain ⟨x, hx, e3⟩ := and30 ((h : Int) * 131 + (z : Int) + 7)
        have hk0 : (0 : Int) ≤ (k : Int) := by omega
        go_wp2
        go_round
        case rel => exact ⟨x, k + 1, by omega, by omega, rfl, by go_num⟩
        case measure => simp [intOf]; omega
      · have hd2 : decide ((k : Int) < 4000) = false := by rw [decide_eq_false_iff_not]; exact hlt2
        go_wp2
        go_ret
        exact ⟨rfl, (Below.refl _ _).alloc (Nat.le_refl _) _, Nat.le_refl _, ⟨0, h, by omega, heap_alloc_new w _⟩, (unhide HS).below ((Below.refl _ _).alloc (Nat.le_refl _) _) (Nat.le_refl _)⟩
    · have hd : decide ((k : Int) < (n : Int)) = false := by rw [decide_eq_false_iff_not]; exact hlt
      go_wp2
      go_ret
      exact ⟨rfl, (Below.refl _ _).alloc (Nat.le_refl _) _, Nat.le_refl _, ⟨0, h, by omega, heap_alloc_new w _⟩, (unhide HS).below ((Below.refl _ _).alloc (Nat.le_refl _) _) (Nat.le_refl _)⟩

end Go.Proofs.YtkbbcjnickgfjaaDoor
