/- More text comes, by impl, over the loaded program. -/
import Derived.Test.YtkidgllmhdfgaabShaD
import Derived.Test.YtkidgllmhdfgaabShelf
namespace Go.Proofs.Ytkidgllmhdfgaab
open Go.RowKit
def moreT (a : Hs) (s : ByteArray) : ByteArray := a.rs ++ s
def moreH (a : Hs) (s : ByteArray) : Hs := ⟨(blocksW (stOf a.st) (moreT a s) 0 ((moreT a s).size / 64)).text, (moreT a s).extract (64 * ((moreT a s).size / 64)) (moreT a s).size, a.ct + (s.size : Int)⟩
theorem two_hash (w : World) (a b : Hs) (T U : TypeId) : ∃ W, (w.alloc (.cells #[.string a.st, .string a.rs, .int .i64 a.ct] T)).alloc (.cells #[.string b.st, .string b.rs, .int .i64 b.ct] U) = W ∧ HB W w.heap.size T a ∧ HB W (w.heap.size + 1) U b ∧ Below w.heap.size w W ∧ w.heap.size + 1 < W.heap.size := by
  obtain ⟨W1, hW1, hB1, hb1, hl1⟩ := one_hash w a T
  obtain ⟨W2, hW2, hB2, hb2, hl2⟩ := one_hash W1 b U
  have hsz : W1.heap.size = w.heap.size + 1 := by rw [← hW1]; simp
  refine ⟨W2, by rw [hW1]; exact hW2, hB1.below hb2 (by omega), by rw [← hsz]; exact hB2, hb1.trans (hb2.mono (by omega)), by omega⟩
theorem keep3 {w : World} {g h : Nat} {u x y z : Value} (hc : w.cell? ⟨g, 2, none⟩ = some u) (hne : g < h) : (((w.setCell ⟨h, 0, none⟩ x).setCell ⟨h, 1, none⟩ y).setCell ⟨h, 2, none⟩ z).cell? ⟨g, 2, none⟩ = some u :=
  (((((Below.refl h w).setCell (p := ⟨h, 0, none⟩) (Nat.le_refl _) x).setCell (p := ⟨h, 1, none⟩) (Nat.le_refl _) y).setCell (p := ⟨h, 2, none⟩) (Nat.le_refl _) z).cell (p := ⟨g, 2, none⟩) hne).trans hc
theorem clone_any (s : ByteArray) (w : World) (h : s.size ≤ 281474976710656) :
    Calls Try.prog 31 #[.string s] w fun e w' => e = .returned (.string s) ∧ Below w.heap.size w w' := by
  go_enter Try.func31, Try.ntmps31
  go_wp2_with (go_at_call 52; refine (Try.stringslite_Clone _ _ h).mono ?_; rintro e w2 ⟨rfl, hb2⟩)
  go_ret
  exact ⟨rfl, hb2⟩
set_option maxRecDepth 20000 in
set_option maxHeartbeats 400000 in
theorem implMore_yes (a : Hs) (s : ByteArray) (w : World) (h1 : a.st.size ≤ maxLen) (h2 : a.rs.size ≤ 1048576) (hs : s.size ≤ 1048576) (hok : okH a = true) (hc : a.ct + (s.size : Int) ≤ 1000000000) :
    Calls Try.prog 10 #[hsv a, .string s] w fun e w' => e = .returned (hsv (moreH a s)) ∧ Below w.heap.size w w' := by
  have hmf : ∀ (fn : Fn) (first cap : Array Value) (w : World), (Instr.makeFunc fn first cap).run Try.prog w = .ok (.func fn first cap) w := fun _ _ _ _ => rfl
  have CO := hide (fun W => implOk_any a W h1 (by unfold maxLen; omega))
  rw [hok] at CO
  obtain ⟨q1, q2, q3, q4⟩ := okH_yes hok
  obtain ⟨st, rs, ct⟩ := a
  dsimp only at *
  obtain ⟨m, rfl⟩ : ∃ m : Nat, ct = (m : Int) := ⟨ct.toNat, by omega⟩
  have hts : (moreT ⟨st, rs, (m : Int)⟩ s).size ≤ 10000000 := by unfold moreT; rw [ByteArray.size_append]; dsimp only; omega
  have C1 := hide (fun W => stateIn_any st q1 W)
  have C2 := hide (fun g W hW => eachBlock_any (stOf st) (stOf_ok _) (moreT ⟨st, rs, (m : Int)⟩ s) hts g W hW)
  have hlt1 : ¬ (1000000000 - (m : Int)) < (s.size : Int) := by omega
  have hm : m ≤ 1000000000 := by omega
  unfold hsv at CO ⊢
  dsimp only at CO ⊢
  clear q1 q2 q3 q4 h1 hok
  go_enter Try.func10, Try.ntmps10
  go_wp2_with fail
  obtain ⟨W, hW, hB, hR, hb, hlt⟩ := two_hash w ⟨st, rs, (m : Int)⟩ h0 28 28
  unfold h0 at hW
  dsimp only at hW
  rw [hW]
  clear hW
  refine ((unhide CO) W).mono ?_
  rintro e w1 ⟨rfl, hb1⟩
  have hB1 := hB.step hb1
  have hR1 := hide (hR.step hb1)
  have k0 := hB1.c0
  have k1 := hB1.c1
  have k2 := hB1.c2
  dsimp only at k0 k1 k2
  have hl1 := (unhide hR1).lt
  have hl1' := hB1.lt
  have HT1 := hide (hb.trans (hb1.mono (by omega)))
  replace hB1 := hide hB1
  clear hB hb hb1 hR hlt
  go_wp2_with fail
  refine ((unhide C1) w1).mono ?_
  rintro e w2 ⟨rfl, hb2⟩
  have hB2 := (unhide hB1).step hb2
  have hR2 := hide ((unhide hR1).step hb2)
  have j1 := hB2.c1
  have j2 := hB2.c2
  dsimp only at j1 j2
  have hl2 := (unhide hR2).lt
  have hl2' := hB2.lt
  have HT2 := hide ((unhide HT1).trans (hb2.mono (by omega)))
  have H8 := hide (one_z8 w2 50)
  replace hB2 := hide hB2
  clear hb2 k0 k1 k2 hR1 hB1 HT1 hl1 hl1'
  go_wp2_with (refine wpList_store_arr_as rfl 50 _ _ rfl w2.heap.size _ zeros8 rfl rfl 50 (unhide H8).1 (info8 (stOf st)) rfl ?_; intro w3 hA3 _ hB3; have hb3 := (unhide H8).2.trans hB3; have hB3' := (unhide hB2).below hb3 hl2'; have hR3 := hide ((unhide hR2).below hb3 hl2); have i1 := hB3'.c1; have i2 := hB3'.c2; dsimp only at i1 i2; have hl3 := hA3.lt; replace hB3' := hide hB3'; clear hB3 H8 j1 j2)
  refine ((unhide C2) w2.heap.size w3 hA3).mono ?_
  rintro e w4 ⟨rfl, hA4, hg4⟩
  have hb4 := grown_new hb3 hg4 (by omega)
  have hs4 := hb4.size
  have hB4 := (unhide hB2).below hb4 hl2'
  have n2 := hB4.c2
  dsimp only at n2
  have hOk := hide (blocksW_ok (stOf_ok st) (moreT ⟨st, rs, (m : Int)⟩ s) 0 ((moreT ⟨st, rs, (m : Int)⟩ s).size / 64))
  have HM : Hid (moreH ⟨st, rs, (m : Int)⟩ s = ⟨(blocksW (stOf st) (moreT ⟨st, rs, (m : Int)⟩ s) 0 ((moreT ⟨st, rs, (m : Int)⟩ s).size / 64)).text, (moreT ⟨st, rs, (m : Int)⟩ s).extract (64 * ((moreT ⟨st, rs, (m : Int)⟩ s).size / 64)) (moreT ⟨st, rs, (m : Int)⟩ s).size, (m : Int) + (s.size : Int)⟩) := hide rfl
  have hxs : ((moreT ⟨st, rs, (m : Int)⟩ s).extract (64 * ((moreT ⟨st, rs, (m : Int)⟩ s).size / 64)) (moreT ⟨st, rs, (m : Int)⟩ s).size).size ≤ 281474976710656 := by rw [ByteArray.size_extract]; omega
  generalize (moreT ⟨st, rs, (m : Int)⟩ s).extract (64 * ((moreT ⟨st, rs, (m : Int)⟩ s).size / 64)) (moreT ⟨st, rs, (m : Int)⟩ s).size = tl at *
  generalize blocksW (stOf st) (moreT ⟨st, rs, (m : Int)⟩ s) 0 ((moreT ⟨st, rs, (m : Int)⟩ s).size / 64) = v2 at *
  have C5 := hide (fun W hW => inBytes_any v2 (unhide hOk) w2.heap.size W hW)
  have C6 := hide (fun W => clone_any tl W hxs)
  replace hA4 := hide hA4
  clear hA3 hg4 hb3 hB3' hR3 i1 i2 hl3 C2 CO C1 hts hxs hB4
  have hs2 := (unhide HT2).size
  go_wp2
  go_region_held3 (fun W => W.cell? ⟨w.heap.size, 2, none⟩ = some (.int .i64 (m : Int))) (first | exact n2 | exact n5 | exact n6 | exact keep3 n6 (by omega)) (first
    | (go_at_call 30; refine ((unhide C5) _ (by exact unhide hA4)).mono ?_; rintro e w5 ⟨rfl, hb5⟩; have hb5' := hb4.drew.trans (hb5.mono hs4); have hs5 := hb5'.size; have n5 := ((unhide hB2).below hb5' hl2').c2)
    | (go_at_call 31; refine ((unhide C6) _).mono ?_; rintro e w6 ⟨rfl, hb6⟩; have hb6' := hb5'.trans (hb6.mono hs5); have hs6 := hb6'.size; have n6 := ((unhide hB2).below hb6' hl2').c2; have hR6 := (unhide hR2).below hb6' hl2; have r0 := hR6.c0; have r1 := hR6.c1; have r2 := hR6.c2; have f0 := hR6.frozen 0; have f1 := hR6.frozen 1; have f2 := hR6.frozen 2))
  have ew : IntKind.i64.wrap ((m : Int) + (s.size : Int)) = (m : Int) + (s.size : Int) := by rw [IntKind.wrap_i64]; omega
  rw [ew]
  have HT6 := hide ((unhide HT2).trans (hb6'.mono hs2))
  replace hR6 := hide hR6
  clear ew hb6 hb5 hb5' hb4 hb6' n2 n5 n6 r0 r1 r2 f0 f1 f2 hA4
  go_wp2
  refine bodyPost_ret (v := hsv ⟨v2.text, tl, (m : Int) + (s.size : Int)⟩) (results_hash Try.results10 _ _ (w.heap.size + 1) 28 _ _ rfl (HB.set3 (unhide hR6) ⟨v2.text, tl, (m : Int) + (s.size : Int)⟩) Try.underlying28 (by kernel_rfl)) rfl ⟨by rw [unhide HM]; rfl, ?_⟩
  exact (((unhide HT6).setCell (p := ⟨w.heap.size + 1, 0, none⟩) (Nat.le_succ _) _).setCell (p := ⟨w.heap.size + 1, 1, none⟩) (Nat.le_succ _) _).setCell (p := ⟨w.heap.size + 1, 2, none⟩) (Nat.le_succ _) _
set_option maxRecDepth 20000 in
set_option maxHeartbeats 400000 in
theorem implMore_no (a : Hs) (s : ByteArray) (w : World) (h1 : a.st.size ≤ 281474976710656) (h2 : a.rs.size ≤ 281474976710656) (hs : s.size ≤ 1048576) (hok : okH a = false ∨ (okH a = true ∧ 1000000000 < a.ct + (s.size : Int))) :
    Calls Try.prog 10 #[hsv a, .string s] w fun e w' => e = .returned (hsv a) ∧ Below w.heap.size w w' := by
  have CO := hide (fun W => implOk_any a W (by unfold maxLen; omega) (by unfold maxLen; omega))
  have hbd : okH a = true → 0 ≤ a.ct ∧ a.ct ≤ 1000000000 := fun h => ⟨(okH_yes h).2.1, (okH_yes h).2.2.1⟩
  obtain ⟨st, rs, ct⟩ := a
  dsimp only at *
  have C1 := hide (fun W => clone_any st W h1)
  have C2 := hide (fun W => clone_any rs W h2)
  clear h1 h2
  unfold hsv
  dsimp only
  unfold hsv at CO
  dsimp only at CO
  generalize okH ⟨st, rs, ct⟩ = ok at *
  go_enter Try.func10, Try.ntmps10
  go_wp2_with fail
  obtain ⟨W, hW, hB, hR, hb, hlt⟩ := two_hash w ⟨st, rs, ct⟩ h0 28 28
  unfold h0 at hW
  dsimp only at hW
  rw [hW]
  clear hW
  refine ((unhide CO) W).mono ?_
  rintro e w1 ⟨rfl, hb1⟩
  have hB1 := hB.step hb1
  have hR1 := hide (hR.step hb1)
  have k0 := hB1.c0
  have k1 := hB1.c1
  have k2 := hB1.c2
  dsimp only at k0 k1 k2
  have hl1 := (unhide hR1).lt
  have hl1' := hB1.lt
  have HT1 := hide (hb.trans (hb1.mono (by omega)))
  replace hB1 := hide hB1
  clear hB hb hb1 hR hlt CO
  rcases hok with rfl | ⟨rfl, hbig⟩
  · clear hbd
    go_wp2
    go_region_held3 (fun W => W.cell? ⟨w.heap.size, 0, none⟩ = some (.string st) ∧ W.cell? ⟨w.heap.size, 1, none⟩ = some (.string rs) ∧ W.cell? ⟨w.heap.size, 2, none⟩ = some (.int .i64 ct)) (first | exact ⟨k0, k1, k2⟩ | exact ⟨HB5.c0, HB5.c1, HB5.c2⟩ | exact ⟨HB6.c0, HB6.c1, HB6.c2⟩ | exact ⟨(SB6 _ _ _).c0, (SB6 _ _ _).c1, (SB6 _ _ _).c2⟩) (first
      | (go_at_call 31; refine ((unhide C1) _).mono ?_; rintro e w5 ⟨rfl, hb5⟩; have hb5' := (Below.refl w1.heap.size w1).drew.trans hb5; have HB5 := (unhide hB1).below hb5' hl1'; have hs5 := hb5'.size)
      | (go_at_call 31; refine ((unhide C2) _).mono ?_; rintro e w6 ⟨rfl, hb6⟩; have hb6' := hb5'.trans (hb6.mono hs5); have HB6 := (unhide hB1).below hb6' hl1'; have SB6 := (fun x y z => HB6.below ((((Below.refl (w.heap.size + 1) w6).setCell (p := ⟨w.heap.size + 1, 0, none⟩) (Nat.le_refl _) x).setCell (p := ⟨w.heap.size + 1, 1, none⟩) (Nat.le_refl _) y).setCell (p := ⟨w.heap.size + 1, 2, none⟩) (Nat.le_refl _) z) (Nat.lt_succ_self _)); have hR6 := (unhide hR1).below hb6' hl1; have r0 := hR6.c0; have r1 := hR6.c1; have r2 := hR6.c2; have f0 := hR6.frozen 0; have f1 := hR6.frozen 1; have f2 := hR6.frozen 2))
    have HT6 := hide ((unhide HT1).trans (hb6'.mono (by omega)))
    replace hR6 := hide hR6
    clear hb6 hb5 hb5' hb6' HB5 HB6 SB6 k0 k1 k2 r0 r1 r2 f0 f1 f2
    go_wp2
    refine bodyPost_ret (v := hsv ⟨st, rs, ct⟩) (results_hash Try.results10 _ _ (w.heap.size + 1) 28 _ _ rfl (HB.set3 (unhide hR6) ⟨st, rs, ct⟩) Try.underlying28 (by kernel_rfl)) rfl ⟨rfl, ?_⟩
    exact (((unhide HT6).setCell (p := ⟨w.heap.size + 1, 0, none⟩) (Nat.le_succ _) _).setCell (p := ⟨w.heap.size + 1, 1, none⟩) (Nat.le_succ _) _).setCell (p := ⟨w.heap.size + 1, 2, none⟩) (Nat.le_succ _) _
  · obtain ⟨hb0, hb9⟩ := hbd rfl
    have hlt1 : (1000000000 - ct) < (s.size : Int) := by omega
    have hw1 : IntKind.i64.wrap (1000000000 - ct) = 1000000000 - ct := by rw [IntKind.wrap_i64]; omega
    clear hbd
    go_wp2
    go_region_held3 (fun W => W.cell? ⟨w.heap.size, 0, none⟩ = some (.string st) ∧ W.cell? ⟨w.heap.size, 1, none⟩ = some (.string rs) ∧ W.cell? ⟨w.heap.size, 2, none⟩ = some (.int .i64 ct)) (first | exact ⟨k0, k1, k2⟩ | exact ⟨HB5.c0, HB5.c1, HB5.c2⟩ | exact ⟨HB6.c0, HB6.c1, HB6.c2⟩ | exact ⟨(SB6 _ _ _).c0, (SB6 _ _ _).c1, (SB6 _ _ _).c2⟩) (first
      | (go_at_call 31; refine ((unhide C1) _).mono ?_; rintro e w5 ⟨rfl, hb5⟩; have hb5' := (Below.refl w1.heap.size w1).drew.trans hb5; have HB5 := (unhide hB1).below hb5' hl1'; have hs5 := hb5'.size)
      | (go_at_call 31; refine ((unhide C2) _).mono ?_; rintro e w6 ⟨rfl, hb6⟩; have hb6' := hb5'.trans (hb6.mono hs5); have HB6 := (unhide hB1).below hb6' hl1'; have SB6 := (fun x y z => HB6.below ((((Below.refl (w.heap.size + 1) w6).setCell (p := ⟨w.heap.size + 1, 0, none⟩) (Nat.le_refl _) x).setCell (p := ⟨w.heap.size + 1, 1, none⟩) (Nat.le_refl _) y).setCell (p := ⟨w.heap.size + 1, 2, none⟩) (Nat.le_refl _) z) (Nat.lt_succ_self _)); have hR6 := (unhide hR1).below hb6' hl1; have r0 := hR6.c0; have r1 := hR6.c1; have r2 := hR6.c2; have f0 := hR6.frozen 0; have f1 := hR6.frozen 1; have f2 := hR6.frozen 2))
    have HT6 := hide ((unhide HT1).trans (hb6'.mono (by omega)))
    replace hR6 := hide hR6
    clear hb6 hb5 hb5' hb6' HB5 HB6 SB6 k0 k1 k2 r0 r1 r2 f0 f1 f2
    go_wp2
    refine bodyPost_ret (v := hsv ⟨st, rs, ct⟩) (results_hash Try.results10 _ _ (w.heap.size + 1) 28 _ _ rfl (HB.set3 (unhide hR6) ⟨st, rs, ct⟩) Try.underlying28 (by kernel_rfl)) rfl ⟨rfl, ?_⟩
    exact (((unhide HT6).setCell (p := ⟨w.heap.size + 1, 0, none⟩) (Nat.le_succ _) _).setCell (p := ⟨w.heap.size + 1, 1, none⟩) (Nat.le_succ _) _).setCell (p := ⟨w.heap.size + 1, 2, none⟩) (Nat.le_succ _) _
end Go.Proofs.Ytkidgllmhdfgaab
