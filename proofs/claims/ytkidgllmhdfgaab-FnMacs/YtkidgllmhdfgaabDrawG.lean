/- The draws that leave every block but the cursor's. -/
import Derived.Test.YtkidgllmhdfgaabDrawH
import Derived.Test.YtkidgllmhdfgaabHsh
namespace Go.Proofs.Ytkidgllmhdfgaab
open Go.RowKit
theorem gB {w w' : World} (hb : Below w.heap.size w w') (r : Option Nat) : w.grownBy w' r := ⟨hb.os, hb.tape, hb.output, hb.size, fun k hk _ => hb.block k hk⟩
theorem gS (w : World) (g o : Nat) (u : Value) : w.grownBy (w.setCell ⟨g, o, none⟩ u) (some g) := ⟨rfl, rfl, rfl, by simp, fun k _ hk => RowKit.Below.heap_setCell _ _ _ _ (fun e => hk (by rw [e]))⟩
theorem gT {a b c : World} {r : Option Nat} (h : a.grownBy b r) (k : b.grownBy c r) : a.grownBy c r :=
  ⟨k.os.trans h.os, k.tape.trans h.tape, k.output.trans h.output, Nat.le_trans h.size k.size, fun i hi hr => (k.block i (Nat.lt_of_lt_of_le hi h.size) hr).trans (h.block i hi hr)⟩
theorem gR (w : World) (r : Option Nat) : w.grownBy w r := ⟨rfl, rfl, rfl, Nat.le_refl _, fun _ _ _ => rfl⟩
theorem gBelow {w w' : World} {r : Option Nat} (h : w.grownBy w' r) {B : Nat} (hB : B ≤ w.heap.size) (hr : ∀ k, r = some k → B ≤ k) : Below B w w' := (Below.refl B w).grown h hB hr

theorem gO {g : Nat} {w w' : World} (h : Only g w w') : w.grownBy w' (some g) := ⟨h.os, h.tape, h.output, by rw [h.size]; exact Nat.le_refl _, fun k _ hk => h.block k (fun e => hk (by rw [e]))⟩
theorem gTB {w w1 w2 : World} {r : Option Nat} (h : w.grownBy w1 r) (hb : Below w.heap.size w1 w2) : w.grownBy w2 r :=
  ⟨hb.os.trans h.os, hb.tape.trans h.tape, hb.output.trans h.output, Nat.le_trans h.size hb.size, fun i hi hr => (hb.block i hi).trans (h.block i hi hr)⟩
set_option maxRecDepth 20000 in
set_option maxHeartbeats 400000 in
theorem l01Text_g {w : World} {base g n c : Nat} {o : Option Addr} (h : Cur w base g o n c) (hn : n ≤ 1048576) (m : Nat) (hm : m ≤ 5000) :
    Calls Try.prog 50 #[.pointer (some ⟨g, 0, none⟩), .int .i64 (m : Int)] w fun e w' => ∃ l : List UInt8, l.length = m ∧ e = .returned (.string ⟨l.toArray⟩) ∧ w.grownBy w' (some g) ∧ Cur w' base g o n c := by
  obtain ⟨i0, hi, hz0, hz1, hz2⟩ := info_parts Try.infoBC
  have H := hide h
  clear h
  have h0 : ¬ (5000 : Int) < (m : Int) := by omega
  go_enter Try.func50, Try.ntmps50
  go_wp2
  have hg := (unhide H).lt
  have hlo := (unhide H).lo
  go_loopw [5, 6] (fun v ti wr => ∃ (k : Nat) (pre : List UInt8), k ≤ m ∧ pre.length = k ∧ ti = .int .i64 (k : Int) ∧ OwnB wr w.heap.size 5 v pre ∧ w.grownBy wr (some g) ∧ Hid (Cur wr base g o n c))
    (fun _ ti _ => m - (intOf ti).toNat)
  case atStart => exact ⟨0, [], Nat.zero_le _, rfl, rfl, World.ownsRow_made w #[] 0 (Nat.le_refl _) (by decide) (by simp), gB ((Below.refl w.heap.size w).alloc (Nat.le_refl _) _) _, (unhide H).below ((Below.refl (g + 1) w).alloc (by omega) _) (by omega)⟩
  case round =>
    clear H h0
    obtain ⟨k, pre, hk, hpl, rfl, hown, hb, HC⟩ := hrel
    have hsz := hb.size
    by_cases hlt : k < m
    · go_wp2_with fail
      go_at_call 27
      refine (l01Byte_any (unhide HC) hn).mono ?_
      rintro e w1 ⟨x, hx, rfl, ho, hc1⟩
      have hown1 := hown.only ho hg
      have hb1 := gT hb (gO ho)
      have hsz1 := hb1.size
      replace hc1 := hide hc1
      replace ho := hide ho
      clear hown hb HC
      have hbx : ((byteOf x).toNat : Int) = (x : Int) := by rw [byteOf_toNat hx]
      go_wp2_with (at_builtin; refine wpList_append_bytes rfl (.tmp 15) (.tmp 19) 22 rfl w.heap.size w.heap.size 5 i0 Try.underlying22 hi hz0 hz1 hz2 _ pre rfl hown1 _ [byteOf x] (cs_at hbx) 1 1 rfl rfl (by omega) (Nat.le_refl _) hsz1 (Below.refl _ w1) ?_; intro v' w2 hown' hb2)
      have hc2 := hide ((unhide hc1).below hb2 hg)
      have hb' := gTB hb1 hb2
      clear hown1 hb1 hb2 hc1
      go_wp2
      go_roundw
      case rel => exact ⟨k + 1, pre ++ [byteOf x], by omega, by simp [hpl], by go_num, hown', hb', hc2⟩
      case measure => simp [intOf]; omega
    · have hke : k = m := by omega
      have hc := run_string_owned (P := Try.prog) wr 22 9 5 w.heap.size _ _ Try.underlying22 Try.underlying5 Try.underlying9 hown
      clear hown
      go_wp2
      go_ret
      exact ⟨pre, by omega, rfl, hb, unhide HC⟩

theorem HB.grown {w w' : World} {k g : Nat} {T : TypeId} {a : Hs} (h : HB w k T a) (hg : w.grownBy w' (some g)) (hne : k ≠ g) : HB w' k T a := by
  have hl := h.lt
  unfold HB at h ⊢
  rw [hg.block k hl (fun e => hne (Option.some.inj e))]; exact h
set_option maxRecDepth 20000 in
set_option maxHeartbeats 400000 in
theorem l05Text_g {w : World} {base g n c : Nat} {o : Option Addr} (h : Cur w base g o n c) (hn : n ≤ 1048576) :
    Calls Try.prog 25 #[.pointer (some ⟨g, 0, none⟩)] w fun e w' => ∃ s : ByteArray, s.size ≤ 200 ∧ e = .returned (.string s) ∧ w.grownBy w' (some g) ∧ Cur w' base g o n c := by
  have hgl := h.lt
  have H1 := hide (h.below ((Below.refl w.heap.size w).alloc (Nat.le_refl _) (.cells #[.int .i64 0, .int .i64 3, .int .i64 10, .int .i64 54, .int .i64 55, .int .i64 56, .int .i64 57, .int .i64 63, .int .i64 64, .int .i64 65, .int .i64 119, .int .i64 120, .int .i64 130] 3)) hgl)
  have HN := hide (nums13 w 3)
  have hb1 : w.grownBy (w.alloc (.cells #[.int .i64 0, .int .i64 3, .int .i64 10, .int .i64 54, .int .i64 55, .int .i64 56, .int .i64 57, .int .i64 63, .int .i64 64, .int .i64 65, .int .i64 119, .int .i64 120, .int .i64 130] 3)) (some g) := gB ((Below.refl w.heap.size w).alloc (Nat.le_refl _) _) _
  have hne : w.heap.size ≠ g := by omega
  clear h
  go_enter Try.func25, Try.ntmps25
  go_wp2_with fail
  generalize w.alloc (.cells #[.int .i64 0, .int .i64 3, .int .i64 10, .int .i64 54, .int .i64 55, .int .i64 56, .int .i64 57, .int .i64 63, .int .i64 64, .int .i64 65, .int .i64 119, .int .i64 120, .int .i64 130] 3) = w1 at *
  refine (l01PickP_any (fun z => 0 ≤ z ∧ z ≤ 130) (unhide H1) hn w.heap.size 13 13 (by omega) (by omega) (unhide HN) hne).mono ?_
  rintro e w2 ⟨z, ⟨hz0, hz1⟩, rfl, ho2, hc2⟩
  obtain ⟨m, rfl⟩ : ∃ m : Nat, z = (m : Int) := ⟨z.toNat, by omega⟩
  have hb2 := gT hb1 (gO ho2)
  replace hc2 := hide hc2
  clear hb1 ho2 H1 HN
  go_wp2_with fail
  refine (l01Below_any (unhide hc2) hn 5 (by omega) (by omega)).mono ?_
  rintro e w3 ⟨x, hx, rfl, ho3, hc3⟩
  have hb3 := gT hb2 (gO ho3)
  replace hc3 := hide hc3
  clear hb2 ho3 hc2
  go_wp2_with fail
  refine (l01Text_g (unhide hc3) hn x (by omega)).mono ?_
  rintro e w4 ⟨l, hl, rfl, hb34, hc4⟩
  have hb4 := gT hb3 hb34
  replace hc4 := hide hc4
  clear hb3 hb34 hc3
  go_wp2_with fail
  refine (l01Below_any (unhide hc4) hn 20 (by omega) (by omega)).mono ?_
  rintro e w5 ⟨y, hy, rfl, ho5, hc5⟩
  have hb5 := gT hb4 (gO ho5)
  clear hb4 ho5 hc4
  have hgl5 := hc5.lt
  replace hc5 := hide hc5
  obtain ⟨y2, hy2⟩ : ∃ y2, y2 = 65 + y := ⟨_, rfl⟩
  have ey : IntKind.i64.wrap (65 + (y : Int)) = (y2 : Int) := by rw [IntKind.wrap_i64]; omega
  have ey2 : IntKind.u8.wrap (y2 : Int) = (y2 : Int) := by rw [IntKind.wrap_u8]; omega
  have hyl : y2 < 256 := by omega
  replace hy2 := hide hy2
  go_wp2_with fail
  refine (l01Long0_any m y2 w5 (by omega) hyl).mono ?_
  rintro e w6 ⟨l2, hl2, rfl, hb56⟩
  have hc6 := (unhide hc5).below hb56 hgl5
  have hb6 := gT hb5 (gB hb56 _)
  clear hb5 hb56 hc5
  go_wp2
  go_ret
  refine ⟨_, ?_, rfl, hb6, hc6⟩
  rw [ByteArray.size_append]
  show l.length + l2.length ≤ 200
  omega
end Go.Proofs.Ytkidgllmhdfgaab
