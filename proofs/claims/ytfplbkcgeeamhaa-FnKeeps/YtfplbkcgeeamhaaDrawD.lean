/- What l01Pick, l03Named and DrawRightDisk come to: some right disk. -/
import Derived.Test.YtfplbkcgeeamhaaPutP
import Derived.Test.YtfplbkcgeeamhaaCur
import Derived.Test.YtfplbkcgeeamhaaDrawP
namespace Go.Proofs.Ytfplbkcgeeamhaa
open Go.RowKit

theorem gO {g : Nat} {w w' : World} (h : Only g w w') : w.grownBy w' (some g) := ⟨h.os, h.tape, h.output, by rw [h.size]; exact Nat.le_refl _, fun k _ hk => h.block k (fun e => hk (by rw [e]))⟩
theorem gTB {w w1 w2 : World} {r : Option Nat} (h : w.grownBy w1 r) (hb : Below w.heap.size w1 w2) : w.grownBy w2 r :=
  ⟨hb.os.trans h.os, hb.tape.trans h.tape, hb.output.trans h.output, Nat.le_trans h.size hb.size, fun i hi hr => (hb.block i hi).trans (h.block i hi hr)⟩
theorem Cur.grown {w w' : World} {base g n c : Nat} {o : Option Addr} {r : Option Nat} (h : Cur w base g o n c) (hg : w.grownBy w' r) (hr : ∀ k, r = some k → g < k) : Cur w' base g o n c := by
  obtain ⟨i, k, hi, hh⟩ := h.blk
  have hlt := h.lt
  refine ⟨h.lo, ⟨i, k, hi, ?_⟩, h.src.below (B := g) (gBelow hg (by omega) (fun k hk => Nat.le_of_lt (hr k hk))) h.lo⟩
  rw [hg.block g hlt (fun e => by have := hr g e.symm; omega)]
  exact hh

set_option maxRecDepth 20000 in
set_option maxHeartbeats 400000 in
/-- A drawn text of m bytes. -/
theorem l01Text_g {w : World} {base g n c : Nat} {o : Option Addr} (h : Cur w base g o n c) (hn : n ≤ 1048576) (m : Nat) (hm : m ≤ 5000) :
    Calls Try.prog 23 #[.pointer (some ⟨g, 0, none⟩), .int .i64 (m : Int)] w fun e w' => ∃ l : List UInt8, l.length = m ∧ e = .returned (.string ⟨l.toArray⟩) ∧ w.grownBy w' (some g) ∧ Cur w' base g o n c := by
  obtain ⟨i0, hi, hz0, hz1, hz2⟩ := info_parts Try.infoBC
  have H := hide h
  clear h
  have h0 : ¬ (5000 : Int) < (m : Int) := by omega
  go_enter Try.func23, Try.ntmps23
  go_wp2
  have hg := (unhide H).lt
  have hlo := (unhide H).lo
  go_loopw [5, 6] (fun v ti wr => ∃ (k : Nat) (pre : List UInt8), k ≤ m ∧ pre.length = k ∧ ti = .int .i64 (k : Int) ∧ OwnB wr w.heap.size 5 v pre ∧ w.grownBy wr (some g) ∧ Hid (Cur wr base g o n c))
    (fun _ ti _ => m - (intOf ti).toNat)
  case atStart => exact ⟨0, [], Nat.zero_le _, rfl, rfl, World.ownsRow_made w #[] 0 (Nat.le_refl _) (by decide) (by simp), gB ((Below.refl w.heap.size w).alloc (Nat.le_refl _) _) _, (unhide H).below ((Below.refl (g + 1) w).alloc (by omega) _) (by omega)⟩
  case round =>
    clear H h0
    obtain ⟨k, pre, hk, hpl, rfl, hown, hb, HC⟩ := hrel
    have hsz := hb.size
    by_cases hlt : k < m
    · go_wp2_with fail
      go_at_call 26
      refine (l01Byte_any (unhide HC) hn).mono ?_
      rintro e w1 ⟨x, hx, rfl, ho, hc1⟩
      have hown1 := hown.only ho hg
      have hb1 := gT hb (gO ho)
      have hsz1 := hb1.size
      replace hc1 := hide hc1
      replace ho := hide ho
      clear hown hb HC
      have hbx : ((byteOf x).toNat : Int) = (x : Int) := by rw [byteOf_toNat hx]
      go_wp2_with (at_builtin; refine wpList_append_bytes rfl (.tmp 15) (.tmp 19) 22 rfl w.heap.size w.heap.size 5 i0 Try.underlying22 hi hz0 hz1 hz2 _ pre rfl hown1 _ [byteOf x] (cs_at hbx) 1 1 rfl rfl (by omega) (Nat.le_refl _) hsz1 (Below.refl _ w1) ?_; intro v' w2 hown' hb2)
      have hc2 := hide ((unhide hc1).below hb2 hg)
      have hb' := gTB hb1 hb2
      clear hown1 hb1 hb2 hc1
      go_wp2
      go_roundw
      case rel => exact ⟨k + 1, pre ++ [byteOf x], by omega, by simp [hpl], by go_num, hown', hb', hc2⟩
      case measure => simp [intOf]; omega
    · have hke : k = m := by omega
      have hc := run_string_owned (P := Try.prog) wr 22 9 5 w.heap.size _ _ Try.underlying22 Try.underlying5 Try.underlying9 hown
      clear hown
      go_wp2
      go_ret
      exact ⟨pre, by omega, rfl, hb, unhide HC⟩


def Names (w : World) (b k : Nat) : Prop := ∀ j, j < k → ∃ s : ByteArray, nameB s = true ∧ s.size ≤ 8 ∧ w.cell? ⟨b, j, none⟩ = some (.string s)
set_option maxHeartbeats 400000 in
theorem l01Pick_any {w : World} {base g n c : Nat} {o : Option Addr} (h : Cur w base g o n c) (hn : n ≤ 1048576) (b k cap : Nat) (hk : 0 < k) (hk2 : k ≤ 1000) (hN : Names w b k) (hbg : b ≠ g) :
    Calls Try.prog 42 #[.pointer (some ⟨g, 0, none⟩), .slice (some ⟨b, 0, none⟩) k cap] w fun e w' => ∃ s : ByteArray, nameB s = true ∧ s.size ≤ 8 ∧ e = .returned (.string s) ∧ Only g w w' ∧ Cur w' base g o n c := by
  have H := hide h
  have HN := hide hN
  clear h hN
  go_enter Try.func42, Try.ntmps42
  go_wp2_with fail
  go_at_call 22
  refine (l01Below_any (unhide H) hn k hk (by omega)).mono ?_
  rintro e w1 ⟨x, hx, rfl, ho, hc⟩
  replace hc := hide hc
  obtain ⟨z, hz1, hz2, hcell⟩ := (unhide HN) x hx
  have hcell1 : w1.cell? ⟨b, x, none⟩ = some (.string z) := (World.cell?_of_block (w := w) (ho.block b hbg)).trans hcell
  replace ho := hide ho
  replace hz1 := hide hz1
  have hx0 : (0 : Int) ≤ (x : Int) := by omega
  have hx1 : (x : Int) < (k : Int) := by omega
  go_wp2
  go_ret
  exact ⟨z, unhide hz1, hz2, rfl, unhide ho, unhide hc⟩
theorem names8 (w : World) (T : TypeId) : Names (w.alloc (.cells #[.string ⟨#[97]⟩, .string ⟨#[98]⟩, .string ⟨#[99]⟩, .string ⟨#[98, 111, 111, 107]⟩, .string ⟨#[98, 111, 111, 107, 43]⟩, .string ⟨#[120]⟩, .string ⟨#[121]⟩, .string ⟨#[122]⟩] T)) w.heap.size 8 := by
  intro j hj
  rw [cell_of_row _ w.heap.size j _ T (0, 0) (heap_alloc_new w _)]
  match j, hj with
  | 0, _ => exact ⟨_, rfl, by decide, rfl⟩
  | 1, _ => exact ⟨_, rfl, by decide, rfl⟩
  | 2, _ => exact ⟨_, rfl, by decide, rfl⟩
  | 3, _ => exact ⟨_, rfl, by decide, rfl⟩
  | 4, _ => exact ⟨_, rfl, by decide, rfl⟩
  | 5, _ => exact ⟨_, rfl, by decide, rfl⟩
  | 6, _ => exact ⟨_, rfl, by decide, rfl⟩
  | 7, _ => exact ⟨_, rfl, by decide, rfl⟩
  | j + 8, hj => exact absurd hj (by omega)
set_option maxHeartbeats 400000 in
theorem l03Named_any {w : World} {base g n c : Nat} {o : Option Addr} (h : Cur w base g o n c) (hn : n ≤ 1048576) :
    Calls Try.prog 25 #[.pointer (some ⟨g, 0, none⟩)] w fun e w' => ∃ s : ByteArray, nameB s = true ∧ s.size ≤ 8 ∧ e = .returned (.string s) ∧ w.grownBy w' (some g) ∧ Cur w' base g o n c := by
  have hg := h.lt
  have H := hide h
  clear h
  go_enter Try.func25, Try.ntmps25
  go_wp2_with fail
  go_at_call 42
  refine (l01Pick_any ((unhide H).below ((Below.refl w.heap.size w).alloc (Nat.le_refl _) _) hg) hn w.heap.size 8 8 (by decide) (by decide) (names8 w _) (by omega)).mono ?_
  rintro e w1 ⟨s, hs1, hs2, rfl, ho, hc⟩
  replace hs1 := hide hs1
  replace hc := hide hc
  have hgg := hide (gT (gB ((Below.refl w.heap.size w).alloc (Nat.le_refl _) _) (some g)) (gO ho))
  replace ho := hide ho
  go_wp2
  go_ret
  exact ⟨s, unhide hs1, hs2, rfl, unhide hgg, unhide hc⟩
end Go.Proofs.Ytfplbkcgeeamhaa
