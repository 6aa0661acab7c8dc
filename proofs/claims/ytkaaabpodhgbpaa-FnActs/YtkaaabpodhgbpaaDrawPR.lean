/- What big and DrawPlaces come to: twelve numbers below 10000. What l01Pick, l03Named and DrawRightDisk come to: some right disk. What spec.DrawRightDisk comes to: some right disk. -/
import Derived.Test.YtkaaabpodhgbpaaCur
import Derived.Test.YtkaaabpodhgbpaaPutP
namespace Go.Proofs.Ytkaaabpodhgbpaa
open Go.RowKit

set_option maxHeartbeats 400000 in
theorem big_any (w : World) (o : Option Addr) (n c : Nat) :
    Calls Try.prog 5 #[.slice o n c] w fun e w' => e = .returned (.bool (decide ((1048576 : Int) < (n : Int)))) ∧ w' = w := by
  go_enter Try.func5, Try.ntmps5
  go_wp2
  go_ret
  exact ⟨rfl, rfl⟩

theorem Try.infoIC : (Try.prog.info? 3).map (fun i => (i.zero, i.size, i.bytes)) = some (some (.int .i64 0), 1, 8) := by kernel_rfl

def ints (xs : List Nat) : List Value := xs.map fun (x : Nat) => Value.int .i64 (x : Int)

set_option maxRecDepth 20000 in
set_option maxHeartbeats 400000 in
theorem drawPlaces_any (w : World) (o : Option Addr) (n c : Nat) (hs : Src w w.heap.size o n) (hn : n ≤ 1048576) :
    Calls Try.prog 8 #[.slice o n c] w fun e w' => ∃ (v : Value) (xs : List Nat), xs.length = 12 ∧ (∀ x ∈ xs, x < 10000) ∧ e = .returned v ∧ OwnV w' w.heap.size 3 v (ints xs) ∧ Below w.heap.size w w' := by
  obtain ⟨i0, hi, hz0, hz1, hz2⟩ := info_parts Try.infoIC
  have HS := hide hs
  clear hs
  go_enter Try.func8, Try.ntmps8
  go_wp2_with fail
  go_at_call 21
  refine (l01New_any w o n c (unhide HS) hn).mono ?_
  rintro e w1 ⟨rfl, hb1, hc1⟩
  replace hc1 := hide hc1
  go_wp2_with fail
  go_at_call 26
  refine (l01Byte_any (unhide hc1) hn).mono ?_
  rintro e w2 ⟨x, hx, rfl, ho2, hc2⟩
  have hb2 := hb1.trans (ho2.below (Nat.le_refl _))
  have hg := hc2.lt
  replace hc2 := hide hc2
  replace ho2 := hide ho2
  clear hb1 hc1
  go_wp2
  go_loopw [4, 5] (fun v ti wr => ∃ (k : Nat) (xs : List Nat), k ≤ 12 ∧ xs.length = k ∧ ti = .int .i64 (k : Int) ∧ Hid (∀ x ∈ xs, x < 10000) ∧ OwnV wr w2.heap.size 3 v (ints xs) ∧ Below w.heap.size w wr ∧ w2.heap.size ≤ wr.heap.size ∧ Hid (Cur wr w.heap.size w.heap.size o n c))
    (fun _ ti _ => 12 - (intOf ti).toNat)
  case atStart => exact ⟨0, [], Nat.zero_le _, rfl, rfl, hide (by simp), World.ownsRow_made w2 #[] 0 (Nat.le_refl _) (by decide) (by simp), hb2.alloc hb2.size _, by simp, (unhide hc2).below ((Below.refl (w.heap.size + 1) w2).alloc (by omega) _) (by omega)⟩
  case round =>
    obtain ⟨k, xs, hk, hxl, rfl, HX, hown, hb, hsz, HC⟩ := hrel
    clear hc2 ho2 hb2
    by_cases hlt : k < 12
    · go_wp2_with fail
      go_at_call 22
      refine (l01Below_any (unhide HC) hn 10000 (by decide) (by decide)).mono ?_
      rintro e w3 ⟨y, hy, rfl, ho, hc3⟩
      have hown1 := hown.only ho hg
      have hb3 := hb.trans (ho.below (Nat.le_refl _))
      have hsz3 : w2.heap.size ≤ w3.heap.size := by rw [ho.size]; exact hsz
      have hil : (ints xs).length ≤ 12 := by simp [ints]; omega
      replace hc3 := hide hc3
      replace ho := hide ho
      clear hown hb HC
      go_wp2_with (at_builtin; refine wpList_append_vals rfl (.tmp 15) (.tmp 18) 28 rfl w2.heap.size w2.heap.size 3 i0 (.int .i64 0) 8 Try.underlying28 hi hz0 hz1 hz2 rfl _ (ints xs) rfl hown1 _ [.int .i64 (y : Int)] rfl (by intro u hu; simp only [List.mem_singleton] at hu; subst hu; rfl) 1 1 rfl rfl (by unfold maxLen; omega) (by omega) (Nat.le_refl _) hsz3 (Below.refl _ w3) ?_; intro v' w4 hown' hb4)
      have hc4 := hide ((unhide hc3).below hb4 hg)
      have hb' := hb3.trans (hb4.mono (show w.heap.size ≤ w2.heap.size by omega))
      have hsz4 : w2.heap.size ≤ w4.heap.size := Nat.le_trans hsz3 hb4.size
      have hown2 : OwnV w4 w2.heap.size 3 v' (ints (xs ++ [y])) := by unfold ints at hown' ⊢; rw [List.map_append]; exact hown'
      clear hown1 hb3 hb4 hc3 hown'
      go_wp2
      go_roundw
      case rel => exact ⟨k + 1, xs ++ [y], by omega, by simp [hxl], by go_num, hide (by intro z hz; rw [List.mem_append] at hz; rcases hz with hz | hz; exact unhide HX z hz; simp only [List.mem_singleton] at hz; omega), hown2, hb', hsz4, hc4⟩
      case measure => simp [intOf]; omega
    · have hke : k = 12 := by omega
      have hw : w.heap.size ≤ w2.heap.size := by omega
      replace hown := hide hown
      go_wp2
      go_ret
      exact ⟨_, xs, by omega, unhide HX, rfl, (unhide hown).low hw, hb⟩

end Go.Proofs.Ytkaaabpodhgbpaa

namespace Go.Proofs.Ytkaaabpodhgbpaa
open Go.RowKit

theorem gO {g : Nat} {w w' : World} (h : Only g w w') : w.grownBy w' (some g) := ⟨h.os, h.tape, h.output, by rw [h.size]; exact Nat.le_refl _, fun k _ hk => h.block k (fun e => hk (by rw [e]))⟩
theorem gTB {w w1 w2 : World} {r : Option Nat} (h : w.grownBy w1 r) (hb : Below w.heap.size w1 w2) : w.grownBy w2 r :=
  ⟨hb.os.trans h.os, hb.tape.trans h.tape, hb.output.trans h.output, Nat.le_trans h.size hb.size, fun i hi hr => (hb.block i hi).trans (h.block i hi hr)⟩
theorem Cur.grown {w w' : World} {base g n c : Nat} {o : Option Addr} {r : Option Nat} (h : Cur w base g o n c) (hg : w.grownBy w' r) (hr : ∀ k, r = some k → g < k) : Cur w' base g o n c := by
  obtain ⟨i, k, hi, hh⟩ := h.blk
  have hlt := h.lt
  refine ⟨h.lo, ⟨i, k, hi, ?_⟩, h.src.below (B := g) (gBelow hg (by omega) (fun k hk => Nat.le_of_lt (hr k hk))) h.lo⟩
  rw [hg.block g hlt (fun e => by have := hr g e.symm; omega)]
  exact hh

set_option maxRecDepth 20000 in
set_option maxHeartbeats 400000 in
/-- A drawn text of m bytes. -/
theorem l01Text_g {w : World} {base g n c : Nat} {o : Option Addr} (h : Cur w base g o n c) (hn : n ≤ 1048576) (m : Nat) (hm : m ≤ 5000) :
    Calls Try.prog 23 #[.pointer (some ⟨g, 0, none⟩), .int .i64 (m : Int)] w fun e w' => ∃ l : List UInt8, l.length = m ∧ e = .returned (.string ⟨l.toArray⟩) ∧ w.grownBy w' (some g) ∧ Cur w' base g o n c := by
  obtain ⟨i0, hi, hz0, hz1, hz2⟩ := info_parts Try.infoBC
  have H := hide h
  clear h
  have h0 : ¬ (5000 : Int) < (m : Int) := by omega
  go_enter Try.func23, Try.ntmps23
  go_wp2
  have hg := (unhide H).lt
  have hlo := (unhide H).lo
  go_loopw [5, 6] (fun v ti wr => ∃ (k : Nat) (pre : List UInt8), k ≤ m ∧ pre.length = k ∧ ti = .int .i64 (k : Int) ∧ OwnB wr w.heap.size 5 v pre ∧ w.grownBy wr (some g) ∧ Hid (Cur wr base g o n c))
    (fun _ ti _ => m - (intOf ti).toNat)
  case atStart => exact ⟨0, [], Nat.zero_le _, rfl, rfl, World.ownsRow_made w #[] 0 (Nat.le_refl _) (by decide) (by simp), gB ((Below.refl w.heap.size w).alloc (Nat.le_refl _) _) _, (unhide H).below ((Below.refl (g + 1) w).alloc (by omega) _) (by omega)⟩
  case round =>
    clear H h0
    obtain ⟨k, pre, hk, hpl, rfl, hown, hb, HC⟩ := hrel
    have hsz := hb.size
    by_cases hlt : k < m
    · go_wp2_with fail
      go_at_call 26
      refine (l01Byte_any (unhide HC) hn).mono ?_
      rintro e w1 ⟨x, hx, rfl, ho, hc1⟩
      have hown1 := hown.only ho hg
      have hb1 := gT hb (gO ho)
      have hsz1 := hb1.size
      replace hc1 := hide hc1
      replace ho := hide ho
      clear hown hb HC
      have hbx : ((byteOf x).toNat : Int) = (x : Int) := by rw [byteOf_toNat hx]
      go_wp2_with (at_builtin; refine wpList_append_bytes rfl (.tmp 15) (.tmp 19) 22 rfl w.heap.size w.heap.size 5 i0 Try.underlying22 hi hz0 hz1 hz2 _ pre rfl hown1 _ [byteOf x] (cs_at hbx) 1 1 rfl rfl (by omega) (Nat.le_refl _) hsz1 (Below.refl _ w1) ?_; intro v' w2 hown' hb2)
      have hc2 := hide ((unhide hc1).below hb2 hg)
      have hb' := gTB hb1 hb2
      clear hown1 hb1 hb2 hc1
      go_wp2
      go_roundw
      case rel => exact ⟨k + 1, pre ++ [byteOf x], by omega, by simp [hpl], by go_num, hown', hb', hc2⟩
      case measure => simp [intOf]; omega
    · have hke : k = m := by omega
      have hc := run_string_owned (P := Try.prog) wr 22 9 5 w.heap.size _ _ Try.underlying22 Try.underlying5 Try.underlying9 hown
      clear hown
      go_wp2
      go_ret
      exact ⟨pre, by omega, rfl, hb, unhide HC⟩


def Names (w : World) (b k : Nat) : Prop := ∀ j, j < k → ∃ s : ByteArray, nameB s = true ∧ s.size ≤ 8 ∧ w.cell? ⟨b, j, none⟩ = some (.string s)
set_option maxHeartbeats 400000 in
theorem l01Pick_any {w : World} {base g n c : Nat} {o : Option Addr} (h : Cur w base g o n c) (hn : n ≤ 1048576) (b k cap : Nat) (hk : 0 < k) (hk2 : k ≤ 1000) (hN : Names w b k) (hbg : b ≠ g) :
    Calls Try.prog 42 #[.pointer (some ⟨g, 0, none⟩), .slice (some ⟨b, 0, none⟩) k cap] w fun e w' => ∃ s : ByteArray, nameB s = true ∧ s.size ≤ 8 ∧ e = .returned (.string s) ∧ Only g w w' ∧ Cur w' base g o n c := by
  have H := hide h
  have HN := hide hN
  clear h hN
  go_enter Try.func42, Try.ntmps42
  go_wp2_with fail
  go_at_call 22
  refine (l01Below_any (unhide H) hn k hk (by omega)).mono ?_
  rintro e w1 ⟨x, hx, rfl, ho, hc⟩
  replace hc := hide hc
  obtain ⟨z, hz1, hz2, hcell⟩ := (unhide HN) x hx
  have hcell1 : w1.cell? ⟨b, x, none⟩ = some (.string z) := (World.cell?_of_block (w := w) (ho.block b hbg)).trans hcell
  replace ho := hide ho
  replace hz1 := hide hz1
  have hx0 : (0 : Int) ≤ (x : Int) := by omega
  have hx1 : (x : Int) < (k : Int) := by omega
  go_wp2
  go_ret
  exact ⟨z, unhide hz1, hz2, rfl, unhide ho, unhide hc⟩
theorem names8 (w : World) (T : TypeId) : Names (w.alloc (.cells #[.string ⟨#[97]⟩, .string ⟨#[98]⟩, .string ⟨#[99]⟩, .string ⟨#[98, 111, 111, 107]⟩, .string ⟨#[98, 111, 111, 107, 43]⟩, .string ⟨#[120]⟩, .string ⟨#[121]⟩, .string ⟨#[122]⟩] T)) w.heap.size 8 := by
  intro j hj
  rw [cell_of_row _ w.heap.size j _ T (0, 0) (heap_alloc_new w _)]
  match j, hj with
  | 0, _ => exact ⟨_, rfl, by decide, rfl⟩
  | 1, _ => exact ⟨_, rfl, by decide, rfl⟩
  | 2, _ => exact ⟨_, rfl, by decide, rfl⟩
  | 3, _ => exact ⟨_, rfl, by decide, rfl⟩
  | 4, _ => exact ⟨_, rfl, by decide, rfl⟩
  | 5, _ => exact ⟨_, rfl, by decide, rfl⟩
  | 6, _ => exact ⟨_, rfl, by decide, rfl⟩
  | 7, _ => exact ⟨_, rfl, by decide, rfl⟩
  | j + 8, hj => exact absurd hj (by omega)
set_option maxHeartbeats 400000 in
theorem l03Named_any {w : World} {base g n c : Nat} {o : Option Addr} (h : Cur w base g o n c) (hn : n ≤ 1048576) :
    Calls Try.prog 25 #[.pointer (some ⟨g, 0, none⟩)] w fun e w' => ∃ s : ByteArray, nameB s = true ∧ s.size ≤ 8 ∧ e = .returned (.string s) ∧ w.grownBy w' (some g) ∧ Cur w' base g o n c := by
  have hg := h.lt
  have H := hide h
  clear h
  go_enter Try.func25, Try.ntmps25
  go_wp2_with fail
  go_at_call 42
  refine (l01Pick_any ((unhide H).below ((Below.refl w.heap.size w).alloc (Nat.le_refl _) _) hg) hn w.heap.size 8 8 (by decide) (by decide) (names8 w _) (by omega)).mono ?_
  rintro e w1 ⟨s, hs1, hs2, rfl, ho, hc⟩
  replace hs1 := hide hs1
  replace hc := hide hc
  have hgg := hide (gT (gB ((Below.refl w.heap.size w).alloc (Nat.le_refl _) _) (some g)) (gO ho))
  replace ho := hide ho
  go_wp2
  go_ret
  exact ⟨s, unhide hs1, hs2, rfl, unhide hgg, unhide hc⟩
end Go.Proofs.Ytkaaabpodhgbpaa

namespace Go.Proofs.Ytkaaabpodhgbpaa
open Go.RowKit

theorem bd_ok {fs : List Fl} (h : okL fs = true) : Bd fs := by
  intro f hf
  have h1 := (okL_iff.1 h).2.1 f hf
  have h2 := fileB_kept h1
  have h3 := fileB_name h1
  unfold nameB at h3
  rw [decide_eq_true_iff] at h3
  omega

theorem bTrG2 {B g : Nat} {w W W' : World} (h : Below B w W) (hg : W.grownBy W' (some g)) (hB : B ≤ g) (hBW : B ≤ W.heap.size) : Below B w W' :=
  h.trans (gBelow hg hBW (fun k hk => by cases hk; exact hB))
theorem l01Below_at {w : World} {base g n c : Nat} {o : Option Addr} (h : Cur w base g o n c) (hn : n ≤ 1048576) (z : Int) (m : Nat) (hz : z = m) (hm : 0 < m) (hm2 : m ≤ 4294967296) :
    Calls Try.prog 22 #[.pointer (some ⟨g, 0, none⟩), .int .i64 z] w fun e w' => ∃ x : Nat, x < m ∧ e = .returned (.int .i64 (x : Int)) ∧ Only g w w' ∧ Cur w' base g o n c := by
  rw [hz]; exact l01Below_any h hn m hm hm2
set_option maxRecDepth 20000 in
set_option maxHeartbeats 4000000 in
theorem drawRight_any (w : World) (o : Option Addr) (n c : Nat) (hs : Src w w.heap.size o n) (hn : n ≤ 1048576) :
    Calls Try.prog 6 #[.slice o n c] w fun e w' => (∃ (fs : List Fl) (a : Option Addr) (cc : Nat), okL fs = true ∧ e = .returned (.agg #[.slice a fs.length cc]) ∧ OwnF w' w.heap.size 36 (.slice a fs.length cc) fs) ∧ Below w.heap.size w w' := by
  have HS := hide (show Src (w.alloc (.cells #[.slice none 0 0] 26)) (w.alloc (.cells #[.slice none 0 0] 26)).heap.size o n from (hs.below ((Below.refl w.heap.size w).alloc (Nat.le_refl _) _) (Nat.le_refl _)).up (by simp))
  clear hs
  go_enter Try.func6, Try.ntmps6
  go_wp2_with fail
  go_at_call 21
  refine (l01New_any _ o n c (unhide HS) hn).mono ?_
  rintro e w1 ⟨rfl, hb1, hc1⟩
  have e0 : (w.alloc (.cells #[.slice none 0 0] 26)).heap.size = w.heap.size + 1 := by simp
  rw [e0] at hb1 hc1
  have hg := hc1.lt
  have xR := hide ((Box.new w 26 (.slice none 0 0)).below hb1 (Nat.lt_succ_self _))
  have HB1 := hide (((Below.refl w.heap.size w).alloc (Nat.le_refl _) _).trans (hb1.mono (Nat.le_succ _)))
  replace hc1 := hide hc1
  clear hb1
  simp only [e0]
  clear e0
  go_wp2_with fail
  go_loopw [5] (fun ti wr => ∃ (k : Nat) (fs : List Fl) (a' : Option Addr) (c' : Nat), k ≤ 6 ∧ ti = .int .i64 (k : Int) ∧ fs.length ≤ k ∧ Hid (okL fs = true) ∧ Box wr w1.heap.size 26 (.slice a' fs.length c') ∧ OwnF wr (w1.heap.size + 1) 36 (.slice a' fs.length c') fs ∧ Below (w.heap.size + 1) w1 wr ∧ Hid (Cur wr (w.heap.size + 1) (w.heap.size + 1) o n c)) (fun ti _ => 6 - (intOf ti).toNat)
  case atStart =>
    exact ⟨0, [], none, 0, by omega, rfl, Nat.le_refl _, rfl, Box.new w1 _ _, OwnF.nil _ _ _, (Below.refl _ w1).alloc (by omega) _, (unhide hc1).below ((Below.refl w1.heap.size w1).alloc (Nat.le_refl _) _) hg⟩
  case round =>
    obtain ⟨k, fs, a', c', hk, rfl, hfk, hok, hbx, hown, hb, HC⟩ := hrel
    have hss := hb.size
    have hbl := hbx.lt
    replace hbx := hide hbx
    replace hown := hide hown
    replace hb := hide hb
    clear hc1
    go_wp2_with fail
    go_at_call 22
    refine (l01Below_any (unhide HC) hn 6 (by decide) (by decide)).mono ?_
    rintro e w2 ⟨x, hx, rfl, ho2, hc2⟩
    have g2 := hide (gO ho2)
    have s2 := ho2.size
    replace hc2 := hide hc2
    clear ho2 HC
    by_cases hkx : (k : Int) < (x : Int)
    · go_wp2_with fail
      go_at_call 22
      refine (l01Below_any (unhide hc2) hn 30 (by decide) (by decide)).mono ?_
      rintro e w3 ⟨y, hy, rfl, ho3, hc3⟩
      have g3 := hide (gT (unhide g2) (gO ho3))
      have s3 := ho3.size
      replace hc3 := hide hc3
      clear ho3 hc2
      go_wp2_with fail
      go_at_call 23
      refine (l01Text_g (unhide hc3) hn y (by omega)).mono ?_
      rintro e w4 ⟨l, hl, rfl, hg4, hc4⟩
      have g4 := hide (gT (unhide g3) hg4)
      have s4 := hg4.size
      replace hc4 := hide hc4
      clear hg4 hc3 g2 g3
      obtain ⟨t, ht⟩ : ∃ t : ByteArray, t = ⟨l.toArray⟩ := ⟨_, rfl⟩
      have hts : t.size = y := by rw [ht]; exact hl
      rw [← ht]
      replace ht := hide ht
      have ne1 : ∀ k, some (w.heap.size + 1) = some k → True := fun _ _ => trivial
      have bx4 := hide ((unhide hbx).grown (unhide g4) (by simp; omega))
      have ow4 := hide ((unhide hown).grown (unhide g4) (fun k hk => by have := ((unhide hown).lt k hk).1; simp; omega))
      have hw4 : wr.heap.size ≤ w4.heap.size := (unhide g4).size
      have cb4 := (unhide bx4).cell
      have lb4 := (unhide bx4).lt
      clear ne1
      have hc4d := hide ((unhide hc4).below (Below.refl w4.heap.size w4).drew (by omega))
      have ht29 : (t.size : Int) < 30 := by omega
      replace hts := hide hts
      have hwr : IntKind.i64.wrap ((t.size : Int) + 1) = (t.size : Int) + 1 := by rw [IntKind.wrap_i64]; omega
      go_wp2_with fail
      go_region_law (first
        | (refine step_call rfl (F := 25) (l03Named_any (unhide hc4d) hn) (by go_simp) ?_; rintro e w5 ⟨nm, hn1, hn2, rfl, hg5, hc5⟩; refine ⟨_, rfl, ?_⟩; (have bx5 := hide ((unhide bx4).drew.grown hg5 (by simp; omega))); (have ow5 := hide ((unhide ow4).drew.grown hg5 (fun k hk => by have := ((unhide ow4).lt k hk).1; simp; omega))); (have s5 : w4.heap.size ≤ w5.heap.size := hg5.size); (have cb5 := (unhide bx5).cell); (have lb5 := (unhide bx5).lt); (have g5 := hide (gT (unhide g4) (gT (gB (Below.refl w4.heap.size w4).drew (some (w.heap.size + 1))) hg5))); replace hc5 := hide hc5; replace hn1 := hide hn1; clear hg5)
        | (refine step_call rfl (F := 22) (l01Below_at (unhide hc5) hn ((t.size : Int) + 1) (t.size + 1) (by omega) (by omega) (by omega)) (by go_simp) ?_; rintro e w6 ⟨kp, hkp, rfl, ho6, hc6⟩; refine ⟨_, rfl, ?_⟩; (have hg6 := gO ho6); (have bx6 := hide ((unhide bx5).grown hg6 (by simp; omega))); (have ow6 := hide ((unhide ow5).grown hg6 (fun k hk => by have := ((unhide ow5).lt k hk).1; simp; omega))); (have s6 : w5.heap.size ≤ w6.heap.size := hg6.size); (have cb6 := (unhide bx6).cell); (have lb6 := (unhide bx6).lt); (have g6 := hide (gT (unhide g5) hg6)); replace hc6 := hide hc6; clear hg6 ho6)
        | (refine step_call rfl (F := 24) (l03Put_any fs ⟨nm, t, (kp : Int)⟩ _ w6 (unhide ow6).rd (by omega)) (by go_simp) ?_; rintro e w7 ⟨⟨a7, c7, rfl, ow7⟩, hb7⟩; refine ⟨_, rfl, ?_⟩; (have bx7 := (unhide bx6).step hb7); (have cb7 := bx7.cell); (have cz7 := bx7.frozen)))
      all_goals
        have HOK2 := hide (putL_ok (f := ⟨nm, t, (kp : Int)⟩) (unhide hok) (fileB_mk (unhide hn1) (by show t.size ≤ 20000; omega) (by show (0 : Int) ≤ (kp : Int) ∧ (kp : Int) ≤ (t.size : Int); omega)) (by omega))
        have hl7 := putL_len' fs ⟨nm, t, (kp : Int)⟩
        have s7 := hb7.size
        have hb6 := bTrG2 (unhide hb) (unhide g6) (Nat.le_refl _) (by omega)
        have hb8 := (hb6.trans (hb7.mono (by omega))).setCell (p := ⟨w1.heap.size, 0, none⟩) (show w.heap.size + 1 ≤ w1.heap.size by omega) (.slice a7 (putL fs ⟨nm, t, (kp : Int)⟩).length c7)
        have bx8 := bx7.set (.slice a7 (putL fs ⟨nm, t, (kp : Int)⟩).length c7)
        have ow8 := (ow7.other (a := ⟨w1.heap.size, 0, none⟩) (by show w1.heap.size < _; omega) (.slice a7 (putL fs ⟨nm, t, (kp : Int)⟩).length c7)).low (base' := w1.heap.size + 1) (by omega)
        have hc8 := hide (((unhide hc6).below hb7 (by omega)).below ((Below.refl w1.heap.size w7).setCell (p := ⟨w1.heap.size, 0, none⟩) (Nat.le_refl _) (.slice a7 (putL fs ⟨nm, t, (kp : Int)⟩).length c7)) hg)
        replace hb7 := hide hb7
        go_wp2
        go_roundw
        case rel => exact ⟨k + 1, putL fs ⟨nm, t, (kp : Int)⟩, a7, c7, by omega, by go_num, by omega, unhide HOK2, bx8, ow8, hb8, hc8⟩
        case measure => simp [intOf]; omega
    · have bx4 := (unhide hbx).grown (unhide g2) (by simp; omega)
      have ow4 := (unhide hown).grown (unhide g2) (fun k hk => by have := ((unhide hown).lt k hk).1; simp; omega)
      have hb4 := bTrG2 (unhide hb) (unhide g2) (Nat.le_refl _) (by omega)
      have cb4 := bx4.cell
      have xr := (unhide xR).below hb4 (Nat.lt_succ_self _)
      have cr := xr.cell
      have cz := xr.frozen
      have hof := hide ((ow4.other (a := ⟨w.heap.size, 0, none⟩) (by show w.heap.size < _; omega) (.slice a' fs.length c')).low (base' := w.heap.size) (by omega))
      have hbf := hide (((unhide HB1).trans (hb4.mono (Nat.le_succ _))).setCell (p := ⟨w.heap.size, 0, none⟩) (Nat.le_refl _) (.slice a' fs.length c'))
      replace hb4 := hide hb4
      go_wp2
      exact bodyPost_ret (v := .agg #[.slice a' fs.length c']) (by simp [results, Try.results6, go_sem, cr]) rfl ⟨⟨fs, a', c', unhide hok, rfl, unhide hof⟩, unhide hbf⟩
end Go.Proofs.Ytkaaabpodhgbpaa
