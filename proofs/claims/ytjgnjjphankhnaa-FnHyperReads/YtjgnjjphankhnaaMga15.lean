/- Merged: LawHrd. -/
import Derived.Test.YtjgnjjphankhnaaMga1
import Derived.Test.YtjgnjjphankhnaaMga2
import Derived.Test.YtjgnjjphankhnaaMga3
import Derived.Test.YtjgnjjphankhnaaMga4
import Derived.Test.YtjgnjjphankhnaaMga5
import Derived.Test.YtjgnjjphankhnaaMga6
import Derived.Test.YtjgnjjphankhnaaMga7
import Derived.Test.YtjgnjjphankhnaaMga8
import Derived.Test.YtjgnjjphankhnaaMga9
import Derived.Test.YtjgnjjphankhnaaMga10
import Derived.Test.YtjgnjjphankhnaaMga11
import Derived.Test.YtjgnjjphankhnaaMga12
import Derived.Test.YtjgnjjphankhnaaMga13
import Derived.Test.YtjgnjjphankhnaaMga14
import Derived.Deep.RegionHeld3
/- The law FnHyperReads, walked over the loaded program; what the project's functions answer are premises. -/
namespace Go.Proofs.Ytjgnjjphankhnaa
open Go.RowKit
set_option maxRecDepth 20000 in
set_option maxHeartbeats 3200000 in
theorem lawHyperReads_any (w : World) (o : Option Addr) (n c : Nat) (hs : Src w w.heap.size o n)
    (CT : ∀ (S : Hy) (W : World) (v : Value), lnHy S 1048576 → Below w.heap.size w W → RdHy W v S → Calls Try.prog 20 #[v] W fun e w' => e = .returned (.tuple #[.string (htx S), .bool (htxOk S)]) ∧ Below W.heap.size W w')
    (CR : ∀ (t : ByteArray) (W : World), t.size ≤ 1048576 → Below w.heap.size w W → Calls Try.prog 18 #[.string t] W fun e w' => (∃ v, e = .returned (.tuple #[v, .bool (hrdOk t)]) ∧ OwnHy w' W.heap.size v (hrdS t)) ∧ Below W.heap.size W w')
    (CI : ∀ (S : Hy) (W : World) (v : Value), lnHy S 1048576 → Below w.heap.size w W → RdHy W v S → Calls Try.prog 22 #[v] W fun e w' => e = .returned (.int .i64 (hidx S)) ∧ Below W.heap.size W w') :
    Calls Try.prog 4 #[.slice o n c] w fun e w' => e = .returned (.bool true) ∧ Below w.heap.size w w' := by
  have HS := hide (fun W (h : Below w.heap.size w W) => ((hs.below h (Nat.le_refl _)).up h.size))
  replace CT := hide CT; replace CR := hide CR; replace CI := hide CI
  clear hs
  by_cases hbig : (1048576 : Int) < (n : Int)
  · have hd : decide ((1048576 : Int) < (n : Int)) = true := by rw [decide_eq_true_iff]; exact hbig
    go_enter Try.func4, Try.ntmps4
    go_wp2_with (go_at_call 7; refine (big_any w o n c).mono ?_; rintro e w1 ⟨rfl, rfl⟩)
    go_ret
    exact ⟨rfl, Below.refl _ _⟩
  have hd : decide ((1048576 : Int) < (n : Int)) = false := by rw [decide_eq_false_iff_not]; exact hbig
  have hn : n ≤ 1048576 := by omega
  go_enter Try.func4, Try.ntmps4
  go_wp2_with fail
  refine (big_any w o n c).mono ?_
  rintro e w0 ⟨rfl, hw0⟩
  have hw0' := hw0.symm
  subst hw0'
  clear hw0
  go_wp2_with fail
  refine (drawReadHyper_any w o n c (unhide HS w (Below.refl _ _)) hn).mono ?_
  rintro e w1 ⟨t, ht, rfl, T1⟩
  have C1 := hide (unhide CR t w1 (by omega) T1)
  have C2 := hide (fun (W' : World) => specReadHyper_any t W')
  have hl := (hrd_len t).mono (m := 1048576) (by omega)
  have C3 := hide (fun (W' : World) (v : Value) (h : Below w.heap.size w W') (r : RdHy W' v (hrdS t)) => unhide CT (hrdS t) W' v hl h r)
  have C4 := hide (fun (W' : World) (v : Value) (h : Below w.heap.size w W') (r : RdHy W' v (hrdS t)) => unhide CI (hrdS t) W' v hl h r)
  have HE := hide (show hrdOk t = true → htx (hrdS t) = t ∧ 0 ≤ hidx (hrdS t) from fun h => ⟨htx_hrd h, hidx_nonneg (hrd_both h)⟩)
  generalize hrdS t = R at *
  generalize hrdOk t = rk at *
  generalize htx R = tx at *
  generalize htxOk R = rk2 at *
  generalize hidx R = ir at *
  clear CT CR hl
  go_wp2_with fail
  refine (unhide C1).mono ?_
  rintro e w2 ⟨⟨v2, rfl, o2⟩, hb2⟩
  have T2 := T1.trans (hb2.mono T1.size)
  obtain ⟨a1, an1, ac1, a2, an2, ac2, a3, an3, ac3, a4, an4, ac4, rfl⟩ := o2.open
  replace o2 := hide o2.rd
  clear hb2 T1 C1
  go_wp2_with fail
  obtain ⟨W2, hW, P4, hB2, hs2⟩ := one_cb w2 #[.int .i64 R.top.leaf, .slice a1 an1 ac1, .slice a2 an2 ac2, .string R.root, .int .i64 R.low.leaf, .slice a3 an3 ac3, .slice a4 an4 ac4] 37
  rw [hW]
  clear hW
  have T3 := T2.trans (hB2.mono T2.size)
  have r3 := hide ((unhide o2).below hB2)
  obtain ⟨g4, hg4⟩ : ∃ x, x = w2.heap.size := ⟨_, rfl⟩
  rw [← hg4] at P4 ⊢
  clear o2 T2 hB2 hs2 hg4
  refine (unhide C2 W2).mono ?_
  rintro e w4 ⟨⟨v4, rfl, o4⟩, hb4⟩
  have T4 := T3.trans (hb4.mono T3.size)
  have P4a := P4.step hb4
  have r4 := hide ((unhide r3).below hb4)
  obtain ⟨b1, bn1, bc1, b2, bn2, bc2, b3, bn3, bc3, b4, bn4, bc4, rfl⟩ := o4.open
  have p0 := P4a.cell 0 (v := .int .i64 R.top.leaf) rfl
  have p1 := P4a.cell 1 (v := .slice a1 an1 ac1) rfl
  have p2 := P4a.cell 2 (v := .slice a2 an2 ac2) rfl
  have p3 := P4a.cell 3 (v := .string R.root) rfl
  have p4 := P4a.cell 4 (v := .int .i64 R.low.leaf) rfl
  have p5 := P4a.cell 5 (v := .slice a3 an3 ac3) rfl
  have p6 := P4a.cell 6 (v := .slice a4 an4 ac4) rfl
  have l4 := P4a.lt
  clear o4 hb4 T3 r3 P4 C2
  go_wp2_with fail
  obtain ⟨W4, hW, P6, hB4, hs4⟩ := one_cb w4 #[.int .i64 R.top.leaf, .slice b1 bn1 bc1, .slice b2 bn2 bc2, .string R.root, .int .i64 R.low.leaf, .slice b3 bn3 bc3, .slice b4 bn4 bc4] 37
  rw [hW]
  clear hW p0 p1 p2 p3 p4 p5 p6 l4 P6
  have T5 := T4.trans (hB4.mono T4.size)
  have r5 := hide ((unhide r4).below hB4)
  have P4b := P4a.step hB4
  clear r4 T4 hB4 hs4 P4a
  refine (unhide C3 W4 _ T5 (unhide r5)).mono ?_
  rintro e w6 ⟨rfl, hb6⟩
  have T6 := T5.trans (hb6.mono T5.size)
  have r6 := hide ((unhide r5).below hb6)
  have P4c := P4b.step hb6
  clear r5 T5 hb6 P4b C3
  go_wp2_with fail
  refine (drawHyperIndex_any w6 o n c (unhide HS w6 T6) hn).mono ?_
  rintro e w7 ⟨v7, rfl, ⟨H, hlH, hzH, hrH⟩, hb7⟩
  obtain ⟨d1, dn1, dc1, d2, dn2, dc2, d3, dn3, dc3, d4, dn4, dc4, rfl⟩ := hrH.open
  have T7 := T6.trans (hb7.mono T6.size)
  have r7 := hide ((unhide r6).below hb7)
  have P4d := P4c.step hb7
  replace hrH := hide hrH
  clear r6 T6 hb7 P4c HS
  go_wp2_with fail
  obtain ⟨W7, hW, P10, hB7, hs7⟩ := one_cb w7 #[.int .i64 H.top.leaf, .slice d1 dn1 dc1, .slice d2 dn2 dc2, .string H.root, .int .i64 H.low.leaf, .slice d3 dn3 dc3, .slice d4 dn4 dc4] 37
  rw [hW]
  clear hW
  have T8 := T7.trans (hB7.mono T7.size)
  have r8 := hide ((unhide r7).below hB7)
  have h8 := hide ((unhide hrH).below hB7)
  have P4e := P4d.step hB7
  obtain ⟨g10, hg10⟩ : ∃ x, x = w7.heap.size := ⟨_, rfl⟩
  rw [← hg10] at P10 ⊢
  clear r7 T7 hB7 hs7 P4d hrH hg10
  have D1 := hide (fun (W' : World) (h : Below W7.heap.size W7 W') => unhide C4 W' _ (T8.trans (h.mono T8.size)) ((unhide r8).below h))
  have D2 := hide (fun (W' : World) (h : Below W7.heap.size W7 W') => unhide CI H W' _ (hlH.mono (by omega)) (T8.trans (h.mono T8.size)) ((unhide h8).below h))
  have D3 := hide (fun (W' : World) (h : Below W7.heap.size W7 W') => specHyperIndex_any H _ W' ((unhide h8).below h) (hlH.mono (m := 2000000) (by omega)))
  generalize hidx H = ih at *
  have KS := hide (fun (W' : World) (h : Below W7.heap.size W7 W') => (show CB W' g4 37 #[.int .i64 R.top.leaf, .slice a1 an1 ac1, .slice a2 an2 ac2, .string R.root, .int .i64 R.low.leaf, .slice a3 an3 ac3, .slice a4 an4 ac4] ∧ CB W' g10 37 #[.int .i64 H.top.leaf, .slice d1 dn1 dc1, .slice d2 dn2 dc2, .string H.root, .int .i64 H.low.leaf, .slice d3 dn3 dc3, .slice d4 dn4 dc4] from ⟨P4e.step h, P10.step h⟩))
  have HT0 := (Below.refl W7.heap.size W7).drew
  clear C4 CI r8 h8 hlH hzH P4e P10
  cases rk with
  | true =>
    obtain ⟨hE, hI⟩ := unhide HE rfl
    subst hE
    clear HE
    go_wp2_with fail
    refine wp_region_held_drew (S := fun W => CB W g4 37 #[.int .i64 R.top.leaf, .slice a1 an1 ac1, .slice a2 an2 ac2, .string R.root, .int .i64 R.low.leaf, .slice a3 an3 ac3, .slice a4 an4 ac4] ∧ CB W g10 37 #[.int .i64 H.top.leaf, .slice d1 dn1 dc1, .slice d2 dn2 dc2, .string H.root, .int .i64 H.low.leaf, .slice d3 dn3 dc3, .slice d4 dn4 dc4]) (by kernel_rfl) (unhide KS _ HT0) (fun hHeld => ?_)
    refine wpAnyH_take (i := 0) (v := .bool true) rfl (by kernel_rfl) (by kernel_rfl) (by kernel_rfl) (fun _ _ _ h => h) (Or.inl ⟨by kernel_rfl, fun W hS => by obtain ⟨s4, s10⟩ := hS; go_simp⟩) hHeld ?_
    refine wpAnyH_take (i := 1) (v := .bool true) rfl (by kernel_rfl) (by kernel_rfl) (by kernel_rfl) (fun _ _ _ h => h) (Or.inl ⟨by kernel_rfl, fun W hS => by obtain ⟨s4, s10⟩ := hS; go_simp⟩) hHeld ?_
    refine wpAnyH_take (i := 2) (v := .bool true) rfl (by kernel_rfl) (by kernel_rfl) (by kernel_rfl) (fun _ _ _ h => h) (Or.inl ⟨by kernel_rfl, fun W hS => by obtain ⟨s4, s10⟩ := hS; go_simp⟩) hHeld ?_
    refine wpAnyH_take (i := 3) (v := .bool true) rfl (by kernel_rfl) (by kernel_rfl) (by kernel_rfl) (fun _ _ _ h => h) (Or.inl ⟨by kernel_rfl, fun W hS => by obtain ⟨s4, s10⟩ := hS; go_simp⟩) hHeld ?_
    refine wpAnyH_take (i := 4) (v := .bool true) rfl (by kernel_rfl) (by kernel_rfl) (by kernel_rfl) (fun _ _ _ h => h) (Or.inl ⟨by kernel_rfl, fun W hS => by obtain ⟨s4, s10⟩ := hS; go_simp⟩) hHeld ?_
    refine wpAnyH_take (i := 5) (v := .bool false) rfl (by kernel_rfl) (by kernel_rfl) (by kernel_rfl) (fun _ _ _ h => h) (Or.inl ⟨by kernel_rfl, fun W hS => by obtain ⟨s4, s10⟩ := hS; go_simp⟩) hHeld ?_
    refine wpAnyH_take (i := 6) (v := .bool false) rfl (by kernel_rfl) (by kernel_rfl) (by kernel_rfl) (fun _ _ _ h => h) (Or.inl ⟨by kernel_rfl, fun W hS => by obtain ⟨s4, s10⟩ := hS; go_simp⟩) hHeld ?_
    refine wpAnyH_take (i := 7) (v := .string tx) rfl (by kernel_rfl) (by kernel_rfl) (by kernel_rfl) (fun _ _ _ h => h) (Or.inl ⟨by kernel_rfl, fun W hS => by obtain ⟨s4, s10⟩ := hS; go_simp⟩) hHeld ?_
    refine wpAnyH_take (i := 8) (v := .string tx) rfl (by kernel_rfl) (by kernel_rfl) (by kernel_rfl) (fun _ _ _ h => h) (Or.inl ⟨by kernel_rfl, fun W hS => by obtain ⟨s4, s10⟩ := hS; go_simp⟩) hHeld ?_
    refine wpAnyH_take (i := 9) (v := .bool true) rfl (by kernel_rfl) (by kernel_rfl) (by kernel_rfl) (fun _ _ _ h => h) (Or.inl ⟨by kernel_rfl, fun W hS => by obtain ⟨s4, s10⟩ := hS; go_simp⟩) hHeld ?_
    refine wpAnyH_take (i := 10) (v := .bool true) rfl (by kernel_rfl) (by kernel_rfl) (by kernel_rfl) (fun _ _ _ h => h) (Or.inl ⟨by kernel_rfl, fun W hS => by obtain ⟨s4, s10⟩ := hS; go_simp⟩) hHeld ?_
    refine wpAnyH_take (i := 11) (v := .agg #[.int .i64 R.top.leaf, .slice a1 an1 ac1, .slice a2 an2 ac2, .string R.root, .int .i64 R.low.leaf, .slice a3 an3 ac3, .slice a4 an4 ac4]) rfl (by kernel_rfl) (by kernel_rfl) (by kernel_rfl) (fun _ _ _ h => h) (Or.inl ⟨by kernel_rfl, fun W hS => by obtain ⟨s4, s10⟩ := hS; have p0 := s4.cell 0 (v := .int .i64 R.top.leaf) rfl; have p1 := s4.cell 1 (v := .slice a1 an1 ac1) rfl; have p2 := s4.cell 2 (v := .slice a2 an2 ac2) rfl; have p3 := s4.cell 3 (v := .string R.root) rfl; have p4 := s4.cell 4 (v := .int .i64 R.low.leaf) rfl; have p5 := s4.cell 5 (v := .slice a3 an3 ac3) rfl; have p6 := s4.cell 6 (v := .slice a4 an4 ac4) rfl; go_simp⟩) hHeld ?_
    refine wpAnyH_ready (rs := [12]) (by kernel_rfl) (by simp) ?_
    refine AllReadyH.cons rfl (fun K hK => ?_) AllReadyH.nil
    go_simp
    refine (unhide D1 _ HT0).mono ?_
    rintro e wA ⟨rfl, hbwA⟩
    have HT0 := HT0.trans (hbwA.mono HT0.size)
    refine hK.out _ _ (unhide KS _ HT0) (fun hHeld => ?_)
    clear hK K hbwA
    refine wpAnyH_take (i := 13) (v := .bool true) rfl (by kernel_rfl) (by kernel_rfl) (by kernel_rfl) (fun _ _ _ h => h) (Or.inl ⟨by kernel_rfl, fun W hS => by obtain ⟨s4, s10⟩ := hS; go_simp⟩) hHeld ?_
    refine wpAnyH_take (i := 14) (v := .bool true) rfl (by kernel_rfl) (by kernel_rfl) (by kernel_rfl) (fun _ _ _ h => h) (Or.inl ⟨by kernel_rfl, fun W hS => by obtain ⟨s4, s10⟩ := hS; go_simp⟩) hHeld ?_
    refine wpAnyH_take (i := 15) (v := .bool true) rfl (by kernel_rfl) (by kernel_rfl) (by kernel_rfl) (fun _ _ _ h => h) (Or.inl ⟨by kernel_rfl, fun W hS => by obtain ⟨s4, s10⟩ := hS; go_simp⟩) hHeld ?_
    refine wpAnyH_take (i := 16) (v := .bool true) rfl (by kernel_rfl) (by kernel_rfl) (by kernel_rfl) (fun _ _ _ h => h) (Or.inl ⟨by kernel_rfl, fun W hS => by obtain ⟨s4, s10⟩ := hS; go_simp⟩) hHeld ?_
    refine wpAnyH_take (i := 17) (v := .bool true) rfl (by kernel_rfl) (by kernel_rfl) (by kernel_rfl) (fun _ _ _ h => h) (Or.inl ⟨by kernel_rfl, fun W hS => by obtain ⟨s4, s10⟩ := hS; go_simp⟩) hHeld ?_
    refine wpAnyH_take (i := 18) (v := .agg #[.int .i64 H.top.leaf, .slice d1 dn1 dc1, .slice d2 dn2 dc2, .string H.root, .int .i64 H.low.leaf, .slice d3 dn3 dc3, .slice d4 dn4 dc4]) rfl (by kernel_rfl) (by kernel_rfl) (by kernel_rfl) (fun _ _ _ h => h) (Or.inl ⟨by kernel_rfl, fun W hS => by obtain ⟨s4, s10⟩ := hS; have p0 := s10.cell 0 (v := .int .i64 H.top.leaf) rfl; have p1 := s10.cell 1 (v := .slice d1 dn1 dc1) rfl; have p2 := s10.cell 2 (v := .slice d2 dn2 dc2) rfl; have p3 := s10.cell 3 (v := .string H.root) rfl; have p4 := s10.cell 4 (v := .int .i64 H.low.leaf) rfl; have p5 := s10.cell 5 (v := .slice d3 dn3 dc3) rfl; have p6 := s10.cell 6 (v := .slice d4 dn4 dc4) rfl; go_simp⟩) hHeld ?_
    refine wpAnyH_take (i := 20) (v := .agg #[.int .i64 H.top.leaf, .slice d1 dn1 dc1, .slice d2 dn2 dc2, .string H.root, .int .i64 H.low.leaf, .slice d3 dn3 dc3, .slice d4 dn4 dc4]) rfl (by kernel_rfl) (by kernel_rfl) (by kernel_rfl) (fun _ _ _ h => h) (Or.inl ⟨by kernel_rfl, fun W hS => by obtain ⟨s4, s10⟩ := hS; have p0 := s10.cell 0 (v := .int .i64 H.top.leaf) rfl; have p1 := s10.cell 1 (v := .slice d1 dn1 dc1) rfl; have p2 := s10.cell 2 (v := .slice d2 dn2 dc2) rfl; have p3 := s10.cell 3 (v := .string H.root) rfl; have p4 := s10.cell 4 (v := .int .i64 H.low.leaf) rfl; have p5 := s10.cell 5 (v := .slice d3 dn3 dc3) rfl; have p6 := s10.cell 6 (v := .slice d4 dn4 dc4) rfl; go_simp⟩) hHeld ?_
    refine wpAnyH_ready (rs := [19]) (by kernel_rfl) (by simp) ?_
    refine AllReadyH.cons rfl (fun K hK => ?_) AllReadyH.nil
    go_simp
    refine (unhide D2 _ HT0).mono ?_
    rintro e wB ⟨rfl, hbwB⟩
    have HT0 := HT0.trans (hbwB.mono HT0.size)
    refine hK.out _ _ (unhide KS _ HT0) (fun hHeld => ?_)
    clear hK K hbwB
    refine wpAnyH_ready (rs := [21]) (by kernel_rfl) (by simp) ?_
    refine AllReadyH.cons rfl (fun K hK => ?_) AllReadyH.nil
    go_simp
    refine (unhide D3 _ HT0).mono ?_
    rintro e wC ⟨rfl, hbwC⟩
    have HT0 := HT0.trans (hbwC.mono HT0.size)
    refine hK.out _ _ (unhide KS _ HT0) (fun hHeld => ?_)
    clear hK K hbwC
    refine wpAnyH_take (i := 22) (v := .bool true) rfl (by kernel_rfl) (by kernel_rfl) (by kernel_rfl) (fun _ _ _ h => h) (Or.inl ⟨by kernel_rfl, fun W hS => by obtain ⟨s4, s10⟩ := hS; go_simp⟩) hHeld ?_
    refine wpAnyH_take (i := 23) (v := .bool true) rfl (by kernel_rfl) (by kernel_rfl) (by kernel_rfl) (fun _ _ _ h => h) (Or.inl ⟨by kernel_rfl, fun W hS => by obtain ⟨s4, s10⟩ := hS; go_simp⟩) hHeld ?_
    refine wpAnyH_take (i := 24) (v := .bool true) rfl (by kernel_rfl) (by kernel_rfl) (by kernel_rfl) (fun _ _ _ h => h) (Or.inl ⟨by kernel_rfl, fun W hS => by obtain ⟨s4, s10⟩ := hS; go_simp⟩) hHeld ?_
    refine wpAnyH_done (by kernel_rfl) ?_ _
    simp only [Act.put, List.getElem_toArray, List.getElem_cons_zero, List.getElem_cons_succ, List.setIfInBounds_toArray, List.set_cons_zero, List.set_cons_succ]
    have T9 := T8.trans (HT0.mono T8.size)
    clear D1 D2 D3 KS HT0 T8
    go_wp2
    go_ret
    exact ⟨by simp, T9⟩
  | false =>
    clear HE
    go_wp2_with fail
    refine wp_region_held_drew (S := fun W => CB W g4 37 #[.int .i64 R.top.leaf, .slice a1 an1 ac1, .slice a2 an2 ac2, .string R.root, .int .i64 R.low.leaf, .slice a3 an3 ac3, .slice a4 an4 ac4] ∧ CB W g10 37 #[.int .i64 H.top.leaf, .slice d1 dn1 dc1, .slice d2 dn2 dc2, .string H.root, .int .i64 H.low.leaf, .slice d3 dn3 dc3, .slice d4 dn4 dc4]) (by kernel_rfl) (unhide KS _ HT0) (fun hHeld => ?_)
    refine wpAnyH_take (i := 0) (v := .bool false) rfl (by kernel_rfl) (by kernel_rfl) (by kernel_rfl) (fun _ _ _ h => h) (Or.inl ⟨by kernel_rfl, fun W hS => by obtain ⟨s4, s10⟩ := hS; go_simp⟩) hHeld ?_
    refine wpAnyH_take (i := 1) (v := .bool false) rfl (by kernel_rfl) (by kernel_rfl) (by kernel_rfl) (fun _ _ _ h => h) (Or.inl ⟨by kernel_rfl, fun W hS => by obtain ⟨s4, s10⟩ := hS; go_simp⟩) hHeld ?_
    refine wpAnyH_take (i := 2) (v := .bool true) rfl (by kernel_rfl) (by kernel_rfl) (by kernel_rfl) (fun _ _ _ h => h) (Or.inl ⟨by kernel_rfl, fun W hS => by obtain ⟨s4, s10⟩ := hS; go_simp⟩) hHeld ?_
    refine wpAnyH_take (i := 3) (v := .bool true) rfl (by kernel_rfl) (by kernel_rfl) (by kernel_rfl) (fun _ _ _ h => h) (Or.inl ⟨by kernel_rfl, fun W hS => by obtain ⟨s4, s10⟩ := hS; go_simp⟩) hHeld ?_
    refine wpAnyH_take (i := 4) (v := .bool false) rfl (by kernel_rfl) (by kernel_rfl) (by kernel_rfl) (fun _ _ _ h => h) (Or.inl ⟨by kernel_rfl, fun W hS => by obtain ⟨s4, s10⟩ := hS; go_simp⟩) hHeld ?_
    refine wpAnyH_take (i := 5) (v := .bool true) rfl (by kernel_rfl) (by kernel_rfl) (by kernel_rfl) (fun _ _ _ h => h) (Or.inl ⟨by kernel_rfl, fun W hS => by obtain ⟨s4, s10⟩ := hS; go_simp⟩) hHeld ?_
    refine wpAnyH_take (i := 6) (v := .bool true) rfl (by kernel_rfl) (by kernel_rfl) (by kernel_rfl) (fun _ _ _ h => h) (Or.inl ⟨by kernel_rfl, fun W hS => by obtain ⟨s4, s10⟩ := hS; go_simp⟩) hHeld ?_
    refine wpAnyH_take (i := 7) (v := undef) rfl (by kernel_rfl) (by kernel_rfl) (by kernel_rfl) (fun _ _ _ h => h) (Or.inr ⟨by kernel_rfl, rfl⟩) hHeld ?_
    refine wpAnyH_take (i := 8) (v := undef) rfl (by kernel_rfl) (by kernel_rfl) (by kernel_rfl) (fun _ _ _ h => h) (Or.inr ⟨by kernel_rfl, rfl⟩) hHeld ?_
    refine wpAnyH_take (i := 9) (v := undef) rfl (by kernel_rfl) (by kernel_rfl) (by kernel_rfl) (fun _ _ _ h => h) (Or.inr ⟨by kernel_rfl, rfl⟩) hHeld ?_
    refine wpAnyH_take (i := 10) (v := undef) rfl (by kernel_rfl) (by kernel_rfl) (by kernel_rfl) (fun _ _ _ h => h) (Or.inr ⟨by kernel_rfl, rfl⟩) hHeld ?_
    refine wpAnyH_take (i := 11) (v := undef) rfl (by kernel_rfl) (by kernel_rfl) (by kernel_rfl) (fun _ _ _ h => h) (Or.inr ⟨by kernel_rfl, rfl⟩) hHeld ?_
    refine wpAnyH_take (i := 12) (v := undef) rfl (by kernel_rfl) (by kernel_rfl) (by kernel_rfl) (fun _ _ _ h => h) (Or.inr ⟨by kernel_rfl, rfl⟩) hHeld ?_
    refine wpAnyH_take (i := 13) (v := undef) rfl (by kernel_rfl) (by kernel_rfl) (by kernel_rfl) (fun _ _ _ h => h) (Or.inr ⟨by kernel_rfl, rfl⟩) hHeld ?_
    refine wpAnyH_take (i := 14) (v := undef) rfl (by kernel_rfl) (by kernel_rfl) (by kernel_rfl) (fun _ _ _ h => h) (Or.inr ⟨by kernel_rfl, rfl⟩) hHeld ?_
    refine wpAnyH_take (i := 15) (v := .bool true) rfl (by kernel_rfl) (by kernel_rfl) (by kernel_rfl) (fun _ _ _ h => h) (Or.inl ⟨by kernel_rfl, fun W hS => by obtain ⟨s4, s10⟩ := hS; go_simp⟩) hHeld ?_
    refine wpAnyH_take (i := 16) (v := .bool true) rfl (by kernel_rfl) (by kernel_rfl) (by kernel_rfl) (fun _ _ _ h => h) (Or.inl ⟨by kernel_rfl, fun W hS => by obtain ⟨s4, s10⟩ := hS; go_simp⟩) hHeld ?_
    refine wpAnyH_take (i := 17) (v := .bool true) rfl (by kernel_rfl) (by kernel_rfl) (by kernel_rfl) (fun _ _ _ h => h) (Or.inl ⟨by kernel_rfl, fun W hS => by obtain ⟨s4, s10⟩ := hS; go_simp⟩) hHeld ?_
    refine wpAnyH_take (i := 18) (v := .agg #[.int .i64 H.top.leaf, .slice d1 dn1 dc1, .slice d2 dn2 dc2, .string H.root, .int .i64 H.low.leaf, .slice d3 dn3 dc3, .slice d4 dn4 dc4]) rfl (by kernel_rfl) (by kernel_rfl) (by kernel_rfl) (fun _ _ _ h => h) (Or.inl ⟨by kernel_rfl, fun W hS => by obtain ⟨s4, s10⟩ := hS; have p0 := s10.cell 0 (v := .int .i64 H.top.leaf) rfl; have p1 := s10.cell 1 (v := .slice d1 dn1 dc1) rfl; have p2 := s10.cell 2 (v := .slice d2 dn2 dc2) rfl; have p3 := s10.cell 3 (v := .string H.root) rfl; have p4 := s10.cell 4 (v := .int .i64 H.low.leaf) rfl; have p5 := s10.cell 5 (v := .slice d3 dn3 dc3) rfl; have p6 := s10.cell 6 (v := .slice d4 dn4 dc4) rfl; go_simp⟩) hHeld ?_
    refine wpAnyH_take (i := 20) (v := .agg #[.int .i64 H.top.leaf, .slice d1 dn1 dc1, .slice d2 dn2 dc2, .string H.root, .int .i64 H.low.leaf, .slice d3 dn3 dc3, .slice d4 dn4 dc4]) rfl (by kernel_rfl) (by kernel_rfl) (by kernel_rfl) (fun _ _ _ h => h) (Or.inl ⟨by kernel_rfl, fun W hS => by obtain ⟨s4, s10⟩ := hS; have p0 := s10.cell 0 (v := .int .i64 H.top.leaf) rfl; have p1 := s10.cell 1 (v := .slice d1 dn1 dc1) rfl; have p2 := s10.cell 2 (v := .slice d2 dn2 dc2) rfl; have p3 := s10.cell 3 (v := .string H.root) rfl; have p4 := s10.cell 4 (v := .int .i64 H.low.leaf) rfl; have p5 := s10.cell 5 (v := .slice d3 dn3 dc3) rfl; have p6 := s10.cell 6 (v := .slice d4 dn4 dc4) rfl; go_simp⟩) hHeld ?_
    refine wpAnyH_ready (rs := [19]) (by kernel_rfl) (by simp) ?_
    refine AllReadyH.cons rfl (fun K hK => ?_) AllReadyH.nil
    go_simp
    refine (unhide D2 _ HT0).mono ?_
    rintro e wB ⟨rfl, hbwB⟩
    have HT0 := HT0.trans (hbwB.mono HT0.size)
    refine hK.out _ _ (unhide KS _ HT0) (fun hHeld => ?_)
    clear hK K hbwB
    refine wpAnyH_ready (rs := [21]) (by kernel_rfl) (by simp) ?_
    refine AllReadyH.cons rfl (fun K hK => ?_) AllReadyH.nil
    go_simp
    refine (unhide D3 _ HT0).mono ?_
    rintro e wC ⟨rfl, hbwC⟩
    have HT0 := HT0.trans (hbwC.mono HT0.size)
    refine hK.out _ _ (unhide KS _ HT0) (fun hHeld => ?_)
    clear hK K hbwC
    refine wpAnyH_take (i := 22) (v := .bool true) rfl (by kernel_rfl) (by kernel_rfl) (by kernel_rfl) (fun _ _ _ h => h) (Or.inl ⟨by kernel_rfl, fun W hS => by obtain ⟨s4, s10⟩ := hS; go_simp⟩) hHeld ?_
    refine wpAnyH_take (i := 23) (v := .bool true) rfl (by kernel_rfl) (by kernel_rfl) (by kernel_rfl) (fun _ _ _ h => h) (Or.inl ⟨by kernel_rfl, fun W hS => by obtain ⟨s4, s10⟩ := hS; go_simp⟩) hHeld ?_
    refine wpAnyH_take (i := 24) (v := .bool true) rfl (by kernel_rfl) (by kernel_rfl) (by kernel_rfl) (fun _ _ _ h => h) (Or.inl ⟨by kernel_rfl, fun W hS => by obtain ⟨s4, s10⟩ := hS; go_simp⟩) hHeld ?_
    refine wpAnyH_done (by kernel_rfl) ?_ _
    simp only [Act.put, List.getElem_toArray, List.getElem_cons_zero, List.getElem_cons_succ, List.setIfInBounds_toArray, List.set_cons_zero, List.set_cons_succ]
    have T9 := T8.trans (HT0.mono T8.size)
    clear D1 D2 D3 KS HT0 T8
    go_wp2
    go_ret
    exact ⟨by simp, T9⟩
end Go.Proofs.Ytjgnjjphankhnaa

