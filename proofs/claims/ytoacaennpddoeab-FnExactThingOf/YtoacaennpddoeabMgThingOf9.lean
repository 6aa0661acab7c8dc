/- Merged: LawBk. -/
import Derived.Test.YtoacaennpddoeabMgThingOf1
import Derived.Test.YtoacaennpddoeabMgThingOf2
import Derived.Test.YtoacaennpddoeabMgThingOf3
import Derived.Test.YtoacaennpddoeabMgThingOf4
import Derived.Test.YtoacaennpddoeabMgThingOf5
import Derived.Test.YtoacaennpddoeabMgThingOf6
import Derived.Test.YtoacaennpddoeabMgThingOf7
import Derived.Test.YtoacaennpddoeabMgThingOf8
/- Exact laws over books, over the loaded program, the project's functions as premises. -/
namespace Go.Proofs.Ytoacaennpddoeab
open Go.RowKit
set_option maxRecDepth 20000 in
set_option maxHeartbeats 4000000 in
theorem lawThingOf_any (b : Bk) (id : Int) (v : Value) (w : World) (hr : RdBk w v b) (hz : BkTx b) (CI : bkSz b ≤ 1048576 → ∀ (u : Value) (W : World), Below w.heap.size w W → RdBk W (bkv b u) b → Calls Try.prog 26 #[bkv b u, .int .i64 id] W fun e w' => e = .returned (.tuple #[.agg (thC (ofT b.ths id)), .bool (hasT b.ths id)]) ∧ Below W.heap.size W w') :
    Calls Try.prog 6 #[v, .int .i64 id] w fun e w' => e = .returned (.bool true) ∧ Below w.heap.size w w' := by
  obtain ⟨a, n, c, rfl, hn, hu⟩ := hr.open
  subst hn
  have CZ := hide (fun W (h : RdBk W (bkv b (.slice a b.ths.length c)) b) => szBook_any b _ 1048576 (by omega) W h hz)
  have HU := hide hu
  replace CI := hide CI
  clear hr hu hz
  go_enter Try.func6, Try.ntmps6
  go_upto_region 1 with fail
  obtain ⟨W0, hW, hA, hB, hs1⟩ := one_cb w #[.string b.wd, .int .i64 b.tr, .slice a b.ths.length c, .int .i64 b.la, .string b.ch, .int .i64 b.ct] 32
  first | rw [hW] | skip
  clear hW hs1
  replace hA := hide hA; replace hB := hide hB
  go_upto_region 3 with (first
    | (refine wpList_load_row (P := Try.prog) rfl 32 (.tmp 2) rfl w.heap.size rfl 32 #[.string b.wd, .int .i64 b.tr, .slice a b.ths.length c, .int .i64 b.la, .string b.ch, .int .i64 b.ct] (0, 0) _ (unhide hA) Try.underlying32 rfl rfl ?_)
    | (go_at_call 10; refine (unhide CZ _ ⟨_, rfl, (unhide HU).below (unhide hB)⟩).mono ?_; rintro e w1 ⟨⟨z, rfl, hz⟩, hb1⟩))
  have hA1 := hide ((unhide hA).step hb1)
  have T1 := hide ((unhide hB).trans (hb1.mono (unhide hB).size))
  clear hb1 hA hB CZ
  rcases hz with hz | ⟨hz, hz0⟩
  · clear CI
    go_wp2
    go_ret
    exact ⟨rfl, unhide T1⟩
  have hz' : ¬ z < 0 := by omega
  have hsm : bkSz b ≤ 1048576 := by omega
  have hl9 : b.ths.length ≤ 1048576 := by unfold bkSz at hsm; omega
  have hw9 : b.wd.size ≤ 1048576 := by unfold bkSz at hsm; omega
  have hc9 : b.ch.size ≤ 1048576 := by unfold bkSz at hsm; omega
  have CI := hide (unhide CI hsm)
  clear hz hz0 hsm
  replace hz' := hide hz'
  have CT := hide (fun W (h : RdBk W (bkv b (.slice a b.ths.length c)) b) => toBook_any b _ W h hl9)
  have CE := hide (fun v1 v2 W (h1 : RdBk W v1 b) (h2 : RdBk W v2 b) => eqBook_any b v1 v2 W h1 h2 (by omega))
  have hz' := unhide hz'
  have CS := (fun v W (h : RdBk W v b) => specThingOf_any b id v W h (by omega))
  have CI := unhide CI
  generalize ofT b.ths id = Y at *
  generalize hasT b.ths id = r at *
  have CQ := (fun W => eqThing_any Y W)
  obtain ⟨yi, yk, yh, yf, ys, yw, yv, yn⟩ := Y
  simp only [thC] at CS CI CQ
  replace CS := hide CS; replace CI := hide CI; replace CQ := hide CQ
  go_upto_region 6 with (first
    | (refine wpList_load_row (P := Try.prog) rfl 32 (.tmp 2) rfl w.heap.size rfl 32 #[.string b.wd, .int .i64 b.tr, .slice a b.ths.length c, .int .i64 b.la, .string b.ch, .int .i64 b.ct] (0, 0) _ (unhide hA1) Try.underlying32 rfl rfl ?_)
    | (go_at_call 13; refine (unhide CT _ ⟨_, rfl, (unhide HU).below (unhide T1)⟩).mono ?_; rintro e w2 ⟨⟨a2, c2, rfl, o2⟩, hb2⟩)
    | (go_at_call 25; refine (unhide CS _ _ ⟨_, rfl, o2.rd⟩).mono ?_; rintro e w3 ⟨rfl, hb3⟩))
  obtain ⟨Wa, hW, hU, hB, hs1⟩ := one_cb w3 #[.int .i64 yi, .int .i64 yk, .bool yh, .bool yf, .bool ys, .bool yw, .string yv, .int .i64 yn] 23
  first | rw [hW] | skip
  clear hW hs1
  have hb23 := (hb2.trans (hb3.mono hb2.size)).trans (hB.mono (Nat.le_trans hb2.size hb3.size))
  have hA3 := hide ((unhide hA1).step hb23)
  have T3 := hide ((unhide T1).trans (hb23.mono (unhide T1).size))
  obtain ⟨gu, hgu⟩ : ∃ g, g = w3.heap.size := ⟨_, rfl⟩
  rw [← hgu] at hU ⊢
  replace hU := hide hU
  clear hb2 hb3 hb23 o2 hA1 T1 CS hB hgu
  go_upto_region 7 with (first
    | (refine wpList_load_row (P := Try.prog) rfl 32 (.tmp 2) rfl w.heap.size rfl 32 #[.string b.wd, .int .i64 b.tr, .slice a b.ths.length c, .int .i64 b.la, .string b.ch, .int .i64 b.ct] (0, 0) _ (unhide hA3) Try.underlying32 rfl rfl ?_)
    | (go_at_call 13; refine (unhide CT _ ⟨_, rfl, (unhide HU).below (unhide T3)⟩).mono ?_; rintro e w4 ⟨⟨a4, c4, rfl, o4⟩, hb4⟩; simp only [bkv]))
  obtain ⟨W5, hW, hX, hB, hs1⟩ := one_cb w4 #[.string b.wd, .int .i64 b.tr, .slice a4 b.ths.length c4, .int .i64 b.la, .string b.ch, .int .i64 b.ct] 40
  first | rw [hW] | skip
  clear hW hs1
  have hb45 := hb4.trans (hB.mono hb4.size)
  have hA5 := hide ((unhide hA3).step hb45)
  have hU5 := hide ((unhide hU).step hb45)
  have T5 := hide ((unhide T3).trans (hb45.mono (unhide T3).size))
  have o5 := hide (o4.below hB)
  obtain ⟨gx, hgx⟩ : ∃ g, g = w4.heap.size := ⟨_, rfl⟩
  rw [← hgx] at hX ⊢
  replace hX := hide hX
  clear hb4 hB hb45 o4 hA3 T3 hgx hU
  go_upto_region 8 with (first
    | (refine wpList_load_row (P := Try.prog) rfl 40 (.tmp 8) rfl gx rfl 40 #[.string b.wd, .int .i64 b.tr, .slice a4 b.ths.length c4, .int .i64 b.la, .string b.ch, .int .i64 b.ct] (0, 0) _ (unhide hX) Try.underlying40 rfl rfl ?_)
    | (go_at_call 26; refine (unhide CI _ _ (unhide T5) ⟨_, rfl, (unhide o5).rd⟩).mono ?_; rintro e w6 ⟨rfl, hb6⟩))
  obtain ⟨W7, hW, hV, hB, hs1⟩ := one_cb w6 #[.int .i64 yi, .int .i64 yk, .bool yh, .bool yf, .bool ys, .bool yw, .string yv, .int .i64 yn] 23
  first | rw [hW] | skip
  clear hW hs1
  have hb67 := hb6.trans (hB.mono hb6.size)
  have hA7 := hide ((unhide hA5).step hb67)
  have hX7 := hide ((unhide hX).step hb67)
  have hU7 := (unhide hU5).step hb67
  have T7 := hide ((unhide T5).trans (hb67.mono (unhide T5).size))
  have o7 := hide ((unhide o5).below hb67)
  obtain ⟨gv, hgv⟩ : ∃ g, g = w6.heap.size := ⟨_, rfl⟩
  rw [← hgv] at hV ⊢
  clear hb6 hB hb67 hA5 hX T5 o5 hU5 CI hgv
  have p0 := hU7.cell 0 (v := (.int .i64 yi)) rfl
  have q0 := hV.cell 0 (v := (.int .i64 yi)) rfl
  have p1 := hU7.cell 1 (v := (.int .i64 yk)) rfl
  have q1 := hV.cell 1 (v := (.int .i64 yk)) rfl
  have p2 := hU7.cell 2 (v := (.bool yh)) rfl
  have q2 := hV.cell 2 (v := (.bool yh)) rfl
  have p3 := hU7.cell 3 (v := (.bool yf)) rfl
  have q3 := hV.cell 3 (v := (.bool yf)) rfl
  have p4 := hU7.cell 4 (v := (.bool ys)) rfl
  have q4 := hV.cell 4 (v := (.bool ys)) rfl
  have p5 := hU7.cell 5 (v := (.bool yw)) rfl
  have q5 := hV.cell 5 (v := (.bool yw)) rfl
  have p6 := hU7.cell 6 (v := (.string yv)) rfl
  have q6 := hV.cell 6 (v := (.string yv)) rfl
  have p7 := hU7.cell 7 (v := (.int .i64 yn)) rfl
  have q7 := hV.cell 7 (v := (.int .i64 yn)) rfl
  clear hU7 hV
  go_upto_region 10 with (go_at_call 27; refine (unhide CQ _).mono ?_; rintro e w8 ⟨rfl, hb8⟩)
  have hA8 := hide ((unhide hA7).step hb8)
  have hX8 := hide ((unhide hX7).step hb8)
  have T8 := hide ((unhide T7).trans (hb8.mono (unhide T7).size))
  have o8 := hide ((unhide o7).below hb8)
  clear hb8 hA7 hX7 T7 o7 CQ
  clear p0 q0 p1 q1 p2 q2 p3 q3 p4 q4 p5 q5 p6 q6 p7 q7
  have KF := hide (fun W' (h : Below w8.heap.size w8 W') => (⟨(unhide hX8).step h, (unhide hA8).step h⟩ : CB W' gx 40 #[.string b.wd, .int .i64 b.tr, .slice a4 b.ths.length c4, .int .i64 b.la, .string b.ch, .int .i64 b.ct] ∧ CB W' w.heap.size 32 #[.string b.wd, .int .i64 b.tr, .slice a b.ths.length c, .int .i64 b.la, .string b.ch, .int .i64 b.ct]))
  refine wp_region_held_drew (S := fun W => Below w8.heap.size w8 W) (by kernel_rfl) (Below.refl _ w8).drew (fun hHeld => ?_)
  refine held_take (i := 0) 40 (v := ?vc_0) rfl rfl (by kernel_rfl) (by kernel_rfl) (by kernel_rfl) (fun _ _ _ h => h) (Or.inl ⟨by rfl, ?hyc_0⟩) hHeld ?restc_0
  case hyc_0 => (intro W hS; obtain ⟨kx, ka⟩ := unhide KF W hS; have x0 := kx.cell 0 (v := (.string _)) rfl; have x1 := kx.cell 1 (v := (.int .i64 _)) rfl; have x2 := kx.cell 2 (v := (.slice _ _ _)) rfl; have x3 := kx.cell 3 (v := (.int .i64 _)) rfl; have x4 := kx.cell 4 (v := (.string _)) rfl; have x5 := kx.cell 5 (v := (.int .i64 _)) rfl; go_simp; try with_reducible rfl)
  simp only [Act.put, List.setIfInBounds_toArray, List.set_cons_zero, List.set_cons_succ]
  refine held_take (i := 1) 41 (v := ?vc_1) rfl rfl (by kernel_rfl) (by kernel_rfl) (by kernel_rfl) (fun _ _ _ h => h) (Or.inl ⟨by rfl, ?hyc_1⟩) hHeld ?restc_1
  case hyc_1 => (intro W hS; obtain ⟨kx, ka⟩ := unhide KF W hS; have x0 := ka.cell 0 (v := (.string _)) rfl; have x1 := ka.cell 1 (v := (.int .i64 _)) rfl; have x2 := ka.cell 2 (v := (.slice _ _ _)) rfl; have x3 := ka.cell 3 (v := (.int .i64 _)) rfl; have x4 := ka.cell 4 (v := (.string _)) rfl; have x5 := ka.cell 5 (v := (.int .i64 _)) rfl; go_simp; try with_reducible rfl)
  simp only [Act.put, List.setIfInBounds_toArray, List.set_cons_zero, List.set_cons_succ]
  refine wpAnyH_ready (rs := [2]) (by kernel_rfl) (by simp) ?_
  refine AllReadyH.cons rfl (fun K hK => ?_) AllReadyH.nil
  go_simp
  refine (unhide CT _ ⟨_, rfl, (unhide HU).below ((unhide T8).trans (hHeld.mono (unhide T8).size))⟩).mono ?_
  rintro e w9 ⟨⟨a9, c9, rfl, o9⟩, hb9⟩
  refine hK.out _ _ (hHeld.trans (hb9.mono hHeld.size)) (fun hHeld => ?_)
  clear hK K hb9
  refine wpAnyH_ready (rs := [3]) (by kernel_rfl) (by simp) ?_
  refine AllReadyH.cons rfl (fun K hK => ?_) AllReadyH.nil
  go_simp
  refine (unhide CE _ _ _ ⟨_, rfl, ((unhide o8).below hHeld).rd⟩ ⟨_, rfl, o9.rd⟩).mono ?_
  rintro e w10 ⟨rfl, hb10⟩
  refine hK.out _ _ (hHeld.trans (hb10.mono hHeld.size)) (fun hHeld => ?_)
  clear hK K hb10
  refine held_take (i := 4) 44 (v := ?vc_4) rfl rfl (by kernel_rfl) (by kernel_rfl) (by kernel_rfl) (fun _ _ _ h => h) (Or.inl ⟨by rfl, ?hyc_4⟩) hHeld ?restc_4
  case hyc_4 => (intro W hS; go_simp; try with_reducible rfl)
  simp only [Act.put, List.setIfInBounds_toArray, List.set_cons_zero, List.set_cons_succ]
  refine wpAnyH_done (by kernel_rfl) ?_ _
  have T9 := (unhide T8).trans (hHeld.mono (unhide T8).size)
  clear hHeld CT CE
  go_wp2
  go_ret
  exact ⟨rfl, T9⟩
end Go.Proofs.Ytoacaennpddoeab

