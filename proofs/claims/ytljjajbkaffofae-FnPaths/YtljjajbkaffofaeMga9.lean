/- Merged: DrawG, Tre3, LawPth. -/
import Derived.Test.YtljjajbkaffofaeMga1
import Derived.Test.YtljjajbkaffofaeMga2
import Derived.Test.YtljjajbkaffofaeMga3
import Derived.Test.YtljjajbkaffofaeMga4
import Derived.Test.YtljjajbkaffofaeMga5
import Derived.Test.YtljjajbkaffofaeMga6
import Derived.Test.YtljjajbkaffofaeMga7
import Derived.Test.YtljjajbkaffofaeMga8
/- The draws that leave every block but the cursor's. -/
namespace Go.Proofs.Ytljjajbkaffofae
open Go.RowKit
theorem gO {g : Nat} {w w' : World} (h : Only g w w') : w.grownBy w' (some g) := ⟨h.os, h.tape, h.output, by rw [h.size]; exact Nat.le_refl _, fun k _ hk => h.block k (fun e => hk (by rw [e]))⟩
theorem gTB {w w1 w2 : World} {r : Option Nat} (h : w.grownBy w1 r) (hb : Below w.heap.size w1 w2) : w.grownBy w2 r :=
  ⟨hb.os.trans h.os, hb.tape.trans h.tape, hb.output.trans h.output, Nat.le_trans h.size hb.size, fun i hi hr => (hb.block i hi).trans (h.block i hi hr)⟩
set_option maxRecDepth 20000 in
set_option maxHeartbeats 400000 in
theorem l01Text_g {w : World} {base g n c : Nat} {o : Option Addr} (h : Cur w base g o n c) (hn : n ≤ 1048576) (m : Nat) (hm : m ≤ 5000) :
    Calls Try.prog 33 #[.pointer (some ⟨g, 0, none⟩), .int .i64 (m : Int)] w fun e w' => ∃ l : List UInt8, l.length = m ∧ e = .returned (.string ⟨l.toArray⟩) ∧ w.grownBy w' (some g) ∧ Cur w' base g o n c := by
  obtain ⟨i0, hi, hz0, hz1, hz2⟩ := info_parts Try.infoBC
  have H := hide h
  clear h
  have h0 : ¬ (5000 : Int) < (m : Int) := by omega
  go_enter Try.func33, Try.ntmps33
  go_wp2
  have hg := (unhide H).lt
  have hlo := (unhide H).lo
  go_loopw [5, 6] (fun v ti wr => ∃ (k : Nat) (pre : List UInt8), k ≤ m ∧ pre.length = k ∧ ti = .int .i64 (k : Int) ∧ OwnB wr w.heap.size 5 v pre ∧ w.grownBy wr (some g) ∧ Hid (Cur wr base g o n c))
    (fun _ ti _ => m - (intOf ti).toNat)
  case atStart => exact ⟨0, [], Nat.zero_le _, rfl, rfl, World.ownsRow_made w #[] 0 (Nat.le_refl _) (by decide) (by simp), gB ((Below.refl w.heap.size w).alloc (Nat.le_refl _) _) _, (unhide H).below ((Below.refl (g + 1) w).alloc (by omega) _) (by omega)⟩
  case round =>
    clear H h0
    obtain ⟨k, pre, hk, hpl, rfl, hown, hb, HC⟩ := hrel
    have hsz := hb.size
    by_cases hlt : k < m
    · go_wp2_with fail
      go_at_call 36
      refine (l01Byte_any (unhide HC) hn).mono ?_
      rintro e w1 ⟨x, hx, rfl, ho, hc1⟩
      have hown1 := hown.only ho hg
      have hb1 := gT hb (gO ho)
      have hsz1 := hb1.size
      replace hc1 := hide hc1
      replace ho := hide ho
      clear hown hb HC
      have hbx : ((byteOf x).toNat : Int) = (x : Int) := by rw [byteOf_toNat hx]
      go_wp2_with (at_builtin; refine wpList_append_bytes rfl (.tmp 15) (.tmp 19) 22 rfl w.heap.size w.heap.size 5 i0 Try.underlying22 hi hz0 hz1 hz2 _ pre rfl hown1 _ [byteOf x] (cs_at hbx) 1 1 rfl rfl (by omega) (Nat.le_refl _) hsz1 (Below.refl _ w1) ?_; intro v' w2 hown' hb2)
      have hc2 := hide ((unhide hc1).below hb2 hg)
      have hb' := gTB hb1 hb2
      clear hown1 hb1 hb2 hc1
      go_wp2
      go_roundw
      case rel => exact ⟨k + 1, pre ++ [byteOf x], by omega, by simp [hpl], by go_num, hown', hb', hc2⟩
      case measure => simp [intOf]; omega
    · have hke : k = m := by omega
      have hc := run_string_owned (P := Try.prog) wr 22 9 5 w.heap.size _ _ Try.underlying22 Try.underlying5 Try.underlying9 hown
      clear hown
      go_wp2
      go_ret
      exact ⟨pre, by omega, rfl, hb, unhide HC⟩

theorem HB.grown {w w' : World} {k g : Nat} {T : TypeId} {a : Hs} (h : HB w k T a) (hg : w.grownBy w' (some g)) (hne : k ≠ g) : HB w' k T a := by
  have hl := h.lt
  unfold HB at h ⊢
  rw [hg.block k hl (fun e => hne (Option.some.inj e))]; exact h
set_option maxRecDepth 20000 in
set_option maxHeartbeats 400000 in
theorem l05Text_g {w : World} {base g n c : Nat} {o : Option Addr} (h : Cur w base g o n c) (hn : n ≤ 1048576) :
    Calls Try.prog 43 #[.pointer (some ⟨g, 0, none⟩)] w fun e w' => ∃ s : ByteArray, s.size ≤ 200 ∧ e = .returned (.string s) ∧ w.grownBy w' (some g) ∧ Cur w' base g o n c := by
  have hgl := h.lt
  have H1 := hide (h.below ((Below.refl w.heap.size w).alloc (Nat.le_refl _) (.cells #[.int .i64 0, .int .i64 3, .int .i64 10, .int .i64 54, .int .i64 55, .int .i64 56, .int .i64 57, .int .i64 63, .int .i64 64, .int .i64 65, .int .i64 119, .int .i64 120, .int .i64 130] 3)) hgl)
  have HN := hide (nums13 w 3)
  have hb1 : w.grownBy (w.alloc (.cells #[.int .i64 0, .int .i64 3, .int .i64 10, .int .i64 54, .int .i64 55, .int .i64 56, .int .i64 57, .int .i64 63, .int .i64 64, .int .i64 65, .int .i64 119, .int .i64 120, .int .i64 130] 3)) (some g) := gB ((Below.refl w.heap.size w).alloc (Nat.le_refl _) _) _
  have hne : w.heap.size ≠ g := by omega
  clear h
  go_enter Try.func43, Try.ntmps43
  go_wp2_with fail
  generalize w.alloc (.cells #[.int .i64 0, .int .i64 3, .int .i64 10, .int .i64 54, .int .i64 55, .int .i64 56, .int .i64 57, .int .i64 63, .int .i64 64, .int .i64 65, .int .i64 119, .int .i64 120, .int .i64 130] 3) = w1 at *
  refine (l01PickP_any (fun z => 0 ≤ z ∧ z ≤ 130) (unhide H1) hn w.heap.size 13 13 (by omega) (by omega) (unhide HN) hne).mono ?_
  rintro e w2 ⟨z, ⟨hz0, hz1⟩, rfl, ho2, hc2⟩
  obtain ⟨m, rfl⟩ : ∃ m : Nat, z = (m : Int) := ⟨z.toNat, by omega⟩
  have hb2 := gT hb1 (gO ho2)
  replace hc2 := hide hc2
  clear hb1 ho2 H1 HN
  go_wp2_with fail
  refine (l01Below_any (unhide hc2) hn 5 (by omega) (by omega)).mono ?_
  rintro e w3 ⟨x, hx, rfl, ho3, hc3⟩
  have hb3 := gT hb2 (gO ho3)
  replace hc3 := hide hc3
  clear hb2 ho3 hc2
  go_wp2_with fail
  refine (l01Text_g (unhide hc3) hn x (by omega)).mono ?_
  rintro e w4 ⟨l, hl, rfl, hb34, hc4⟩
  have hb4 := gT hb3 hb34
  replace hc4 := hide hc4
  clear hb3 hb34 hc3
  go_wp2_with fail
  refine (l01Below_any (unhide hc4) hn 20 (by omega) (by omega)).mono ?_
  rintro e w5 ⟨y, hy, rfl, ho5, hc5⟩
  have hb5 := gT hb4 (gO ho5)
  clear hb4 ho5 hc4
  have hgl5 := hc5.lt
  replace hc5 := hide hc5
  obtain ⟨y2, hy2⟩ : ∃ y2, y2 = 65 + y := ⟨_, rfl⟩
  have ey : IntKind.i64.wrap (65 + (y : Int)) = (y2 : Int) := by rw [IntKind.wrap_i64]; omega
  have ey2 : IntKind.u8.wrap (y2 : Int) = (y2 : Int) := by rw [IntKind.wrap_u8]; omega
  have hyl : y2 < 256 := by omega
  replace hy2 := hide hy2
  go_wp2_with fail
  refine (l01Long0_any m y2 w5 (by omega) hyl).mono ?_
  rintro e w6 ⟨l2, hl2, rfl, hb56⟩
  have hc6 := (unhide hc5).below hb56 hgl5
  have hb6 := gT hb5 (gB hb56 _)
  clear hb5 hb56 hc5
  go_wp2
  go_ret
  refine ⟨_, ?_, rfl, hb6, hc6⟩
  rw [ByteArray.size_append]
  show l.length + l2.length ≤ 200
  omega
end Go.Proofs.Ytljjajbkaffofae

/- Drawn leaves, and the law FnPaths, walked over the loaded program; what the project's functions answer is a premise. -/
namespace Go.Proofs.Ytljjajbkaffofae
open Go.RowKit
theorem OwnV.loU {w : World} {base : Nat} {e : TypeId} {v : Value} {xs : List Value} (h : OwnV w base e v xs) : ∀ k, v.ownBlock = some k → base ≤ k ∧ k < w.heap.size := fun k hk => World.ownsRow.lt h k hk
set_option maxRecDepth 20000 in
set_option maxHeartbeats 1000000 in
theorem l15Leaves_any {w : World} {base g n c : Nat} {o : Option Addr} (h : Cur w base g o n c) (hn : n ≤ 1048576) :
    Calls Try.prog 51 #[.pointer (some ⟨g, 0, none⟩)] w fun e w' => ∃ (l : List ByteArray) (v : Value), l.length ≤ 6 ∧ (∀ x ∈ l, x.size ≤ 4) ∧ e = .returned v ∧ OwnV w' w.heap.size 9 v (l.map sv) ∧ w.grownBy w' (some g) ∧ Cur w' base g o n c := by
  obtain ⟨i0, hi, hz0, hz1, hz2⟩ := info_parts infoTxt
  have hgl := h.lt
  have H := hide (h.below ((Below.refl w.heap.size w).alloc (Nat.le_refl _) (.cells #[] 9)) hgl)
  have ho0 := hide (show OwnV (w.alloc (.cells #[] 9)) w.heap.size 9 (.slice (some ⟨w.heap.size, 0, none⟩) 0 0) (([] : List ByteArray).map sv) from World.ownsRow_made w #[] 0 (Nat.le_refl _) (by decide) (by simp))
  have G0 := gB ((Below.refl w.heap.size w).alloc (Nat.le_refl _) (.cells #[] 9)) (some g)
  clear h
  go_enter Try.func51, Try.ntmps51
  go_wp2_with fail
  generalize w.alloc (.cells #[] 9) = w0 at *
  refine (l01Once_any (unhide H) hn 10 (by decide) (by decide)).mono ?_
  rintro e w1 ⟨b, rfl, ho1, hc1⟩
  have G1 := gT G0 (gO ho1)
  have HO1 := hide ((unhide ho0).grown (gO ho1) (fun b hb h => by have h1 := ((unhide ho0).loU b hb).1; have h2 := Option.some.inj h; omega))
  clear H G0 ho0 ho1
  cases b with
  | false =>
    go_wp2
    go_loopw [3, 5] (fun tv ti wr => ∃ (k : Nat) (l : List ByteArray), k ≤ 4 ∧ ti = .int .i64 (k : Int) ∧ l.length = k ∧ Hid (∀ x ∈ l, x.size ≤ 4) ∧ Hid (OwnV wr w.heap.size 9 tv (l.map sv)) ∧ w.grownBy wr (some g) ∧ Hid (Cur wr base g o n c)) (fun _ ti _ => 4 - (intOf ti).toNat)
    case atStart => exact ⟨0, [], by omega, rfl, rfl, hide (fun x hx => absurd hx (by simp)), HO1, G1, hide hc1⟩
    case round =>
      clear HO1 G1 hc1
      obtain ⟨k, l, hk, rfl, hlk, hls, HO, G9, HC⟩ := hrel
      have hszB := G9.size
      by_cases hlt : k < 4
      · have hk' : (k : Int) < 4 := by omega
        have hl1 : (l.map sv).length + 1 ≤ maxLen := by rw [List.length_map, hlk]; unfold maxLen; omega
        have hl2 : ((l.map sv).length + 1) * 16 ≤ 140737488355328 := by rw [List.length_map, hlk]; omega
        replace hl1 := hide hl1; replace hl2 := hide hl2
        go_wp2_with fail
        refine (l01Below_any (unhide HC) hn 5 (by decide) (by decide)).mono ?_
        rintro e w5 ⟨x, hx, rfl, ho5, hc5⟩
        have G5 := gT G9 (gO ho5)
        have HO5 := hide ((unhide HO).grown (gO ho5) (fun b hb h => by have h1 := ((unhide HO).loU b hb).1; have h2 := Option.some.inj h; omega))
        clear HO HC G9 ho5
        go_wp2_with fail
        refine (l01Text_g hc5 hn x (by omega)).mono ?_
        rintro e w6 ⟨lt, hlt6, rfl, g6, hc6⟩
        have G6 := gT G5 g6
        have HO6 := hide ((unhide HO5).grown g6 (fun b hb h => by have h1 := ((unhide HO5).loU b hb).1; have h2 := Option.some.inj h; omega))
        have hsz : (⟨lt.toArray⟩ : ByteArray).size ≤ 4 := by show lt.length ≤ 4; omega
        generalize (⟨lt.toArray⟩ : ByteArray) = s at *
        have hszB6 := G6.size
        clear HO5 hc5 G5 g6 hlt6
        go_wp2_with (at_builtin; refine wpList_append_grow (w := w6) rfl (.tmp 16) (.tmp 21) 33 rfl w.heap.size 9 i0 (.string ⟨#[]⟩) 16 Try.underlying33 hi hz0 hz1 hz2 rfl u3 _ (by rfl) (unhide HO6) (.string s) rfl rfl (unhide hl1) (unhide hl2) hszB6 ?_; intro v' w7 ho7 hg7)
        have hal := (Below.refl w6.heap.size w6).alloc (Nat.le_refl _) (.cells #[.string s] 9)
        have hg6 := hc6.lt
        have HC7 := hide (hc6.below (gBelow hg7 (B := g + 1) (by simp; omega) (fun b hb => by have := ((unhide HO6).loU b hb).1; omega) |> fun q => ((hal.mono (show g + 1 ≤ w6.heap.size by omega)).trans q)) (Nat.lt_succ_self g))
        have B7 := (hal.mono hszB6).trans (gBelow hg7 (B := w.heap.size) (by simp; omega) (fun b hb => ((unhide HO6).loU b hb).1))
        have G7 := gTB G6 B7
        have ho8 := hide (show OwnV w7 w.heap.size 9 v' ((l ++ [s]).map sv) by rw [List.map_append]; exact ho7)
        have hls8 := hide (show ∀ x ∈ l ++ [s], x.size ≤ 4 from fun x hx => by
          rcases List.mem_append.1 hx with h | h
          · exact unhide hls x h
          · rw [List.mem_singleton.1 h]; exact hsz)
        clear ho7 HO6 hc6 G6 hg7 hal B7
        go_wp2
        exact ⟨⟨k + 1, l ++ [s], by omega, by go_num, by rw [List.length_append, hlk]; rfl, hls8, ho8, G7, HC7⟩, by simp [intOf]; omega⟩
      · have hk' : ¬ (k : Int) < 4 := by omega
        go_wp2
        go_ret
        exact ⟨l, by omega, unhide hls, _, rfl, unhide HO, G9, unhide HC⟩
  | true =>
    go_wp2_with fail
    refine (l01Below_any hc1 hn 7 (by decide) (by decide)).mono ?_
    rintro e w2 ⟨m, hm, rfl, ho2, hc2⟩
    have G2 := gT G1 (gO ho2)
    have HO2 := hide ((unhide HO1).grown (gO ho2) (fun b hb h => by have h1 := ((unhide HO1).loU b hb).1; have h2 := Option.some.inj h; omega))
    clear hc1 G1 HO1 ho2
    go_wp2
    go_loopw [3, 5] (fun tv ti wr => ∃ (k : Nat) (l : List ByteArray), k ≤ m ∧ ti = .int .i64 (k : Int) ∧ l.length = k ∧ Hid (∀ x ∈ l, x.size ≤ 4) ∧ Hid (OwnV wr w.heap.size 9 tv (l.map sv)) ∧ w.grownBy wr (some g) ∧ Hid (Cur wr base g o n c)) (fun _ ti _ => m - (intOf ti).toNat)
    case atStart => exact ⟨0, [], by omega, rfl, rfl, hide (fun x hx => absurd hx (by simp)), HO2, G2, hide hc2⟩
    case round =>
      clear HO2 G2 hc2
      obtain ⟨k, l, hk, rfl, hlk, hls, HO, G9, HC⟩ := hrel
      have hszB := G9.size
      by_cases hlt : k < m
      · have hk' : (k : Int) < (m : Int) := by omega
        have hl1 : (l.map sv).length + 1 ≤ maxLen := by rw [List.length_map, hlk]; unfold maxLen; omega
        have hl2 : ((l.map sv).length + 1) * 16 ≤ 140737488355328 := by rw [List.length_map, hlk]; omega
        replace hl1 := hide hl1; replace hl2 := hide hl2
        go_wp2_with fail
        refine (l01Below_any (unhide HC) hn 5 (by decide) (by decide)).mono ?_
        rintro e w5 ⟨x, hx, rfl, ho5, hc5⟩
        have G5 := gT G9 (gO ho5)
        have HO5 := hide ((unhide HO).grown (gO ho5) (fun b hb h => by have h1 := ((unhide HO).loU b hb).1; have h2 := Option.some.inj h; omega))
        clear HO HC G9 ho5
        go_wp2_with fail
        refine (l01Text_g hc5 hn x (by omega)).mono ?_
        rintro e w6 ⟨lt, hlt6, rfl, g6, hc6⟩
        have G6 := gT G5 g6
        have HO6 := hide ((unhide HO5).grown g6 (fun b hb h => by have h1 := ((unhide HO5).loU b hb).1; have h2 := Option.some.inj h; omega))
        have hsz : (⟨lt.toArray⟩ : ByteArray).size ≤ 4 := by show lt.length ≤ 4; omega
        generalize (⟨lt.toArray⟩ : ByteArray) = s at *
        have hszB6 := G6.size
        clear HO5 hc5 G5 g6 hlt6
        go_wp2_with (at_builtin; refine wpList_append_grow (w := w6) rfl (.tmp 16) (.tmp 21) 33 rfl w.heap.size 9 i0 (.string ⟨#[]⟩) 16 Try.underlying33 hi hz0 hz1 hz2 rfl u3 _ (by rfl) (unhide HO6) (.string s) rfl rfl (unhide hl1) (unhide hl2) hszB6 ?_; intro v' w7 ho7 hg7)
        have hal := (Below.refl w6.heap.size w6).alloc (Nat.le_refl _) (.cells #[.string s] 9)
        have hg6 := hc6.lt
        have HC7 := hide (hc6.below (gBelow hg7 (B := g + 1) (by simp; omega) (fun b hb => by have := ((unhide HO6).loU b hb).1; omega) |> fun q => ((hal.mono (show g + 1 ≤ w6.heap.size by omega)).trans q)) (Nat.lt_succ_self g))
        have B7 := (hal.mono hszB6).trans (gBelow hg7 (B := w.heap.size) (by simp; omega) (fun b hb => ((unhide HO6).loU b hb).1))
        have G7 := gTB G6 B7
        have ho8 := hide (show OwnV w7 w.heap.size 9 v' ((l ++ [s]).map sv) by rw [List.map_append]; exact ho7)
        have hls8 := hide (show ∀ x ∈ l ++ [s], x.size ≤ 4 from fun x hx => by
          rcases List.mem_append.1 hx with h | h
          · exact unhide hls x h
          · rw [List.mem_singleton.1 h]; exact hsz)
        clear ho7 HO6 hc6 G6 hg7 hal B7
        go_wp2
        exact ⟨⟨k + 1, l ++ [s], by omega, by go_num, by rw [List.length_append, hlk]; rfl, hls8, ho8, G7, HC7⟩, by simp [intOf]; omega⟩
      · have hk' : ¬ (k : Int) < (m : Int) := by omega
        go_wp2
        go_ret
        exact ⟨l, by omega, unhide hls, _, rfl, unhide HO, G9, unhide HC⟩
theorem drawRootOf_any (w : World) (o : Option Addr) (n c : Nat) (hs : Src w w.heap.size o n) (hn : n ≤ 1048576) :
    Calls Try.prog 25 #[.slice o n c] w fun e w' => ∃ (l : List ByteArray) (v : Value), l.length ≤ 6 ∧ (∀ x ∈ l, x.size ≤ 4) ∧ e = .returned v ∧ RdV w' v (l.map sv) ∧ Below w.heap.size w w' := by
  have HS := hide hs
  clear hs
  go_enter Try.func25, Try.ntmps25
  go_wp2_with fail
  refine (l01New_any w o n c (unhide HS) hn).mono ?_
  rintro e w1 ⟨rfl, hb1, hc1⟩
  obtain ⟨g, hg⟩ : ∃ g, g = w.heap.size := ⟨_, rfl⟩
  rw [← hg] at hc1 ⊢
  have hgle : w.heap.size ≤ g := by omega
  clear HS hg
  go_wp2_with fail
  refine (l15Leaves_any hc1 hn).mono ?_
  rintro e w2 ⟨l, v, hl, hsz, rfl, ow, g2, hc2⟩
  have hb2 := hb1.grown g2 hb1.size (fun k hk => by cases hk; exact hgle)
  have hr2 := hide ow.rdv
  clear hc1 hb1 g2 ow hc2
  go_wp2
  go_ret
  exact ⟨l, v, hl, hsz, rfl, unhide hr2, hb2⟩
end Go.Proofs.Ytljjajbkaffofae

/- The law FnPaths, walked over the loaded program; what the project's functions answer is a premise. -/
namespace Go.Proofs.Ytljjajbkaffofae
open Go.RowKit
theorem sumS_mostT (l : List ByteArray) (c : Nat) (h : ∀ x ∈ l, x.size ≤ c) : sumS l ≤ c * l.length := by
  induction l with
  | nil => exact Nat.zero_le _
  | cons x xs ih =>
    have h1 := h x (by simp)
    have h2 := ih (fun y hy => h y (by simp [hy]))
    show x.size + sumS xs ≤ c * (xs.length + 1)
    rw [Nat.mul_add, Nat.mul_one]
    omega
theorem pathL_sizes (l : List ByteArray) (leaf : Int) (h : ∀ x ∈ l, x.size ≤ 4) : ∀ x ∈ pathL l leaf, x.size ≤ 4 := by
  intro x hx
  unfold pathL at hx
  split at hx
  · obtain ⟨k, _, rfl⟩ := List.mem_map.1 hx
    exact bAt_sizeT _ _ _ (lvs_size l 4 (Nat.le_refl _) h k)
  · exact absurd hx (by simp)
set_option maxRecDepth 20000 in
set_option maxHeartbeats 1000000 in
theorem lawPaths_any (w : World) (o : Option Addr) (n c : Nat) (hs : Src w w.heap.size o n)
    (CR : ∀ (l : List ByteArray) (W : World) (ua : Value), l.length + sumS l ≤ 1048576 → Below w.heap.size w W → RdV W ua (l.map sv) → Calls Try.prog 26 #[ua] W fun e w' => e = .returned (.string (rootB l)) ∧ Below W.heap.size W w')
    (CP : ∀ (l : List ByteArray) (leaf : Int) (W : World) (ua : Value), l.length + sumS l ≤ 1048576 → Below w.heap.size w W → RdV W ua (l.map sv) → Calls Try.prog 27 #[ua, .int .i64 leaf] W fun e w' => (∃ v, e = .returned v ∧ OwnV w' W.heap.size 9 v ((pathL l leaf).map sv)) ∧ Below W.heap.size W w')
    (CB : ∀ (x : ByteArray) (leaf : Int) (l : List ByteArray) (W : World) (ua : Value), x.size ≤ 1048576 → l.length + sumS l ≤ 1048576 → Below w.heap.size w W → RdV W ua (l.map sv) → Calls Try.prog 28 #[.string x, .int .i64 leaf, ua] W fun e w' => e = .returned (.string (rootBy x leaf l)) ∧ Below W.heap.size W w')
    (CU : ∀ (level : Int) (l : List ByteArray) (W : World) (ua : Value), l.length + sumS l ≤ 1048576 → Below w.heap.size w W → RdV W ua (l.map sv) → Calls Try.prog 29 #[.int .i64 level, ua] W fun e w' => (∃ v, e = .returned v ∧ OwnV w' W.heap.size 9 v ((lvL level l).map sv)) ∧ Below W.heap.size W w')
    (CN : ∀ (level place : Int) (a b : ByteArray) (W : World), a.size ≤ 1048576 → b.size ≤ 1048576 → Below w.heap.size w W → Calls Try.prog 30 #[.int .i64 level, .int .i64 place, .string a, .string b] W fun e w' => e = .returned (.string (nodeB level place a b)) ∧ Below W.heap.size W w') :
    Calls Try.prog 6 #[.slice o n c] w fun e w' => e = .returned (.bool true) ∧ Below w.heap.size w w' := by
  have HS := hide hs
  replace CR := hide CR; replace CP := hide CP; replace CB := hide CB; replace CU := hide CU; replace CN := hide CN
  clear hs
  by_cases hbig : (1048576 : Int) < (n : Int)
  · have hd : decide ((1048576 : Int) < (n : Int)) = true := by rw [decide_eq_true_iff]; exact hbig
    go_enter Try.func6, Try.ntmps6
    go_wp2_with (go_at_call 7; refine (big_any w o n c).mono ?_; rintro e w1 ⟨rfl, rfl⟩)
    go_ret
    exact ⟨rfl, Below.refl _ _⟩
  have hd : decide ((1048576 : Int) < (n : Int)) = false := by rw [decide_eq_false_iff_not]; exact hbig
  have hn : n ≤ 1048576 := by omega
  go_enter Try.func6, Try.ntmps6
  go_wp2_with fail
  refine (big_any w o n c).mono ?_
  rintro e w0 ⟨rfl, hw0⟩
  have hw0' := hw0.symm
  subst hw0'
  clear hw0
  go_wp2_with fail
  refine (drawRootOf_any w o n c (unhide HS) hn).mono ?_
  rintro e w1 ⟨l, v, hl, hsz, rfl, hr, HT1⟩
  clear HS
  have hsum := sumS_mostT l 4 hsz
  have hls : l.length + sumS l ≤ 1048576 := by omega
  obtain ⟨av, cv, rfl, -⟩ := hr.open
  rw [List.length_map] at hr ⊢
  replace hsum := hide hsum
  go_wp2_with fail
  refine ((unhide CR) l w1 _ hls HT1 hr).mono ?_
  rintro e w2 ⟨rfl, hb2⟩
  have HT2 := HT1.trans (hb2.mono HT1.size)
  have hr2 := hr.below hb2
  clear hb2 HT1 hr CR
  by_cases h4 : l.length = 4
  · have RB9 := hide (fun (k : Nat) (hk : k < 4) => root_by l h4 k hk)
    have PL := hide (fun (k : Nat) (hk : k < 4) => pathL_len l (k : Int) h4 (by omega))
    have PZ := hide (fun (k : Nat) (hk : k < 4) => (show (pathL l (k : Int)).length + sumS (pathL l (k : Int)) ≤ 1048576 from by
      have h1 := unhide PL k hk
      have h2 := sumS_mostT _ 4 (pathL_sizes l (k : Int) hsz)
      omega))
    have XZ := hide (fun (k : Nat) => (show (bAt l k).size ≤ 1048576 from Nat.le_trans (bAt_sizeT l k 4 hsz) (by omega)))
    have UL : (lvL 1 l).length = 2 := by rw [lvL_len, h4]
    have CELL := hide (fun (W : World) (h : RdV W (.slice av l.length cv) (l.map sv)) (k : Nat) (hk : k < 4) => (show ∃ g o, av = some ⟨g, o, none⟩ ∧ g < W.heap.size ∧ W.cell? ⟨g, o + k, none⟩ = some (.string (bAt l k)) from by
      obtain ⟨a', c', he, hc⟩ := h.open
      obtain ⟨rfl, _, _⟩ := Value.slice.inj he
      exact hc k _ (bAt_getT l k (by omega))))
    have CS := hide (fun (W : World) (r : RdV W (.slice av l.length cv) (l.map sv)) => specRootOf_any l _ W r (fun x hx => Nat.le_trans (hsz x hx) (by omega)))
    have UN := hide (show nodeB 1 0 (bAt l 0) (bAt l 1) = bAt (lvL 1 l) 0 by rw [lvL_at 1 l 0 (by omega)]; rfl)
    have hlb : Hid (l.length = 4) := hide h4
    rw [h4] at hr2 CELL CS ⊢
    generalize rootB l = R at *
    replace h4 := hide h4
    go_wp2
    go_loopw [5] (fun ti wr => ∃ k : Nat, k ≤ 4 ∧ ti = .int .i64 (k : Int) ∧ Hid (RdV wr (.slice av 4 cv) (l.map sv)) ∧ Below w.heap.size w wr) (fun ti _ => 4 - (intOf ti).toNat)
    case atStart => exact ⟨0, by omega, rfl, hide hr2, HT2⟩
    case round =>
      clear hr2 HT2
      obtain ⟨k, hk, rfl, HR, hB⟩ := hrel
      by_cases hlt : k < 4
      · have hk' : (k : Int) < 4 := by omega
        have hk0 : (0 : Int) ≤ (k : Int) := by omega
        have c1 := hide (unhide CP l (k : Int) wr _ hls hB (unhide HR))
        have hpl := unhide PL k hlt
        have hpz := unhide PZ k hlt
        have hxz := unhide XZ k
        have hrb := unhide RB9 k hlt
        have CC := hide (fun W h => unhide CELL W h k hlt)
        generalize pathL l (k : Int) = pl at *
        clear CP RB9 PL PZ XZ CELL
        go_wp2_with fail
        refine (unhide c1).mono ?_
        rintro e w3 ⟨⟨vP, rfl, oP⟩, hb3⟩
        have HT3 := hB.trans (hb3.mono hB.size)
        have HR3 := hide ((unhide HR).below hb3)
        have rP := oP.rdv
        obtain ⟨aP, cP, rfl, -⟩ := rP.open
        rw [List.length_map, hpl] at rP ⊢
        obtain ⟨g, o', rfl, hg, d1⟩ := unhide CC w3 (unhide HR3)
        have c2 := hide (unhide CB (bAt l k) (k : Int) pl w3 _ hxz hpz HT3 rP)
        rw [hrb] at c2
        generalize bAt l k = xk at *
        clear hb3 oP c1 CC HR hB CB rP
        replace hrb := hide hrb; replace hpz := hide hpz; replace hpl := hide hpl
        go_wp2_with fail
        refine (unhide c2).mono ?_
        rintro e w4 ⟨rfl, hb4⟩
        have HT4 := HT3.trans (hb4.mono HT3.size)
        have HR4 := hide ((unhide HR3).below hb4)
        clear hb4 HT3 HR3 c2 d1
        go_wp2
        exact ⟨⟨k + 1, by omega, by go_num, HR4, HT4⟩, by simp [intOf]; omega⟩
      · have hk' : ¬ (k : Int) < 4 := by omega
        obtain rfl : k = 4 := by omega
        have c1 := hide (unhide CU 1 l wr _ hls hB (unhide HR))
        clear CP CB RB9 PL PZ CU
        go_wp2_with fail
        refine (unhide c1).mono ?_
        rintro e w3 ⟨⟨vU, rfl, oU⟩, hb3⟩
        have HT3 := hB.trans (hb3.mono hB.size)
        have HR3 := hide ((unhide HR).below hb3)
        have rU := oU.rdv
        obtain ⟨aU, cU, hvU, hcU⟩ := rU.open
        subst hvU
        rw [List.length_map, UL] at rU ⊢
        obtain ⟨gU, oU', rfl, hgU, dU⟩ := hcU 0 _ (bAt_getT (lvL 1 l) 0 (by omega))
        obtain ⟨g, o', rfl, hg, d0⟩ := unhide CELL w3 (unhide HR3) 0 (by omega)
        obtain ⟨g', o'', he, _, d1⟩ := unhide CELL w3 (unhide HR3) 1 (by omega)
        obtain ⟨rfl, rfl, _⟩ := Addr.mk.inj (Option.some.inj he)
        have KS := hide (fun (W : World) (h : Below w3.heap.size w3 W) => (⟨(h.cell (p := ⟨gU, oU' + 0, none⟩) hgU).trans dU, (h.cell (p := ⟨g, o' + 0, none⟩) hg).trans d0, (h.cell (p := ⟨g, o' + 1, none⟩) hg).trans d1⟩ : W.cell? ⟨gU, oU' + 0, none⟩ = some (.string (bAt (lvL 1 l) 0)) ∧ W.cell? ⟨g, o' + 0, none⟩ = some (.string (bAt l 0)) ∧ W.cell? ⟨g, o' + 1, none⟩ = some (.string (bAt l 1))))
        have c2 := hide (fun (W : World) (h : Below w.heap.size w W) => unhide CN 1 0 (bAt l 0) (bAt l 1) W (unhide XZ 0) (unhide XZ 1) h)
        rw [unhide UN] at c2
        have c3 := hide (fun (W : World) (h : Below w3.heap.size w3 W) => unhide CS W ((unhide HR3).below h))
        generalize bAt (lvL 1 l) 0 = u0 at *
        generalize bAt l 0 = x0 at *
        generalize bAt l 1 = x1 at *
        rw [Nat.add_zero, Nat.add_zero] at KS
        rw [Nat.add_zero] at dU d0
        have B0 := Below.refl w3.heap.size w3
        clear hb3 oU c1 CELL HR hB CN XZ UN CS hcU he rU HR3
        go_wp2
        go_region_held3 (fun W => W.cell? ⟨gU, oU', none⟩ = some (.string u0) ∧ W.cell? ⟨g, o', none⟩ = some (.string x0) ∧ W.cell? ⟨g, o' + 1, none⟩ = some (.string x1)) (first | exact ⟨dU, d0, d1⟩ | exact (unhide KS) _ B6 | exact (unhide KS) _ B5 | exact (unhide KS) _ B0.drew | fail) (first
          | (go_at_call 30; refine (unhide c2 _ (by first | exact HT3.drew | exact HT3)).mono ?_; rintro e w5 ⟨rfl, hb5⟩; have HT5 := (HT3.drew).trans (hb5.mono HT3.size); have B5 := (B0.drew).trans hb5)
          | (go_at_call 31; refine (unhide c3 _ (by first | exact B5 | exact B5.drew)).mono ?_; rintro e w6 ⟨rfl, hb6⟩; have HT6 := HT5.trans (hb6.mono HT5.size); have B6 := B5.trans (hb6.mono B5.size)))
        all_goals go_wp2
        all_goals go_ret
        all_goals exact ⟨by simp, HT6⟩
  · have h4' : ¬ (l.length : Int) = 4 := by omega
    have hR0 : rootB l = ⟨#[]⟩ := by unfold rootB; rw [if_neg h4]
    have hP0 : pathL l 0 = [] := by unfold pathL; rw [if_neg (fun h => h4 h.1)]
    rw [hR0]
    have c1 := hide (unhide CP l 0 w2 _ hls HT2 hr2)
    rw [hP0] at c1
    replace h4 := hide h4; replace hR0 := hide hR0; replace hP0 := hide hP0
    clear CP CU CN
    go_wp2_with fail
    refine (unhide c1).mono ?_
    rintro e w3 ⟨⟨vP, rfl, oP⟩, hb3⟩
    have HT3 := HT2.trans (hb3.mono HT2.size)
    have rP := oP.rdv
    obtain ⟨aP, cP, rfl, -⟩ := rP.open
    have c2 := hide (unhide CB ⟨#[120]⟩ 0 [] (w3.alloc (.cells #[] 9)) (.slice (some ⟨w3.heap.size, 0, none⟩) 0 0) (by decide) (by decide) (HT3.alloc HT3.size _) (.inl ⟨_, _, rfl, rfl⟩))
    rw [show rootBy ⟨#[120]⟩ 0 [] = ⟨#[]⟩ from rfl] at c2
    have HT4 := HT3.alloc HT3.size (.cells #[] 9)
    clear CB c1 hb3 oP rP hr2 HT2 HT3
    go_wp2_with fail
    generalize w3.alloc (.cells #[] 9) = w4 at *
    refine (unhide c2).mono ?_
    rintro e w5 ⟨rfl, hb5⟩
    have HT5 := HT4.trans (hb5.mono HT4.size)
    go_wp2
    go_ret
    exact ⟨by simp, HT5⟩
end Go.Proofs.Ytljjajbkaffofae

