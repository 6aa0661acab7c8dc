/- Merged: DrSig, Hyp1, Hyp2, Hyp3, LawHyp, LawHps, LawOn1, LawSg2, LawSgn. -/
import Derived.Test.YtjgnjjphankhnaaGreatMga1
import Derived.Test.YtjgnjjphankhnaaGreatMga2
import Derived.Test.YtjgnjjphankhnaaGreatMga3
import Derived.Test.YtjgnjjphankhnaaGreatMga4
import Derived.Test.YtjgnjjphankhnaaGreatMga5
import Derived.Test.YtjgnjjphankhnaaGreatMga6
import Derived.Test.YtjgnjjphankhnaaGreatMga7
import Derived.Test.YtjgnjjphankhnaaGreatMga8
import Derived.Test.YtjgnjjphankhnaaGreatMga9
import Derived.Test.YtjgnjjphankhnaaGreatMga10
import Derived.Test.YtjgnjjphankhnaaGreatMga11
import Derived.Laws.IdiomStrings
import Derived.Deep.RegionHeld3
/- Draws of seeds, leaves and texts, over the loaded program. -/
namespace Go.Proofs.YtjgnjjphankhnaaGreat
open Go.RowKit
set_option maxRecDepth 20000 in
set_option maxHeartbeats 400000 in
theorem l16Seed_any {w : World} {base g n c : Nat} {o : Option Addr} (h : Cur w base g o n c) (hn : n ≤ 1048576) :
    Calls Tryz.prog 26 #[.pointer (some ⟨g, 0, none⟩)] w fun e w' => ∃ s : ByteArray, s.size ≤ 9 ∧ e = .returned (.string s) ∧ w.grownBy w' (some g) ∧ Cur w' base g o n c := by
  have hg := h.lt
  have H := hide h
  clear h
  go_enter Tryz.func26, Tryz.ntmps26
  go_wp2_with fail
  go_at_call 46
  refine (l01Pick_9 ((unhide H).below ((Below.refl w.heap.size w).alloc (Nat.le_refl _) _) hg) hn w.heap.size 4 4 (by decide) (by decide) (txt9_4 w _) (by omega)).mono ?_
  rintro e w1 ⟨s, hs, rfl, ho, hc⟩
  have G1 := hide (gT (gB ((Below.refl w.heap.size w).alloc (Nat.le_refl _) _) (some g)) (gO ho))
  replace hc := hide hc
  clear ho H
  go_wp2
  go_ret
  exact ⟨s, hs, rfl, unhide G1, unhide hc⟩
set_option maxRecDepth 20000 in
set_option maxHeartbeats 400000 in
theorem drawSignAt_any (w : World) (o : Option Addr) (n c : Nat) (hs : Src w w.heap.size o n) (hn : n ≤ 1048576) :
    Calls Tryz.prog 6 #[.slice o n c] w fun e w' => ∃ (s : ByteArray) (leaf : Int) (m : ByteArray), s.size ≤ 9 ∧ m.size ≤ 10 ∧ e = .returned (.tuple #[.string s, .int .i64 leaf, .string m]) ∧ Below w.heap.size w w' := by
  have HS := hide hs
  clear hs
  go_enter Tryz.func6, Tryz.ntmps6
  go_wp2_with fail
  refine (l01New_any w o n c (unhide HS) hn).mono ?_
  rintro e w1 ⟨rfl, hb1, hc1⟩
  obtain ⟨g, hg⟩ : ∃ g, g = w.heap.size := ⟨_, rfl⟩
  rw [← hg] at hc1 ⊢
  have hgle : w.heap.size ≤ g := by omega
  clear HS hg
  go_wp2_with fail
  refine (l16Seed_any hc1 hn).mono ?_
  rintro e w2 ⟨s, hs, rfl, g2, hc2⟩
  have hb2 := hb1.grown g2 hb1.size (fun k hk => by cases hk; exact hgle)
  clear hc1 hb1 g2
  go_wp2_with fail
  refine (l01Place_v hc2 hn 4 (by omega) (by omega)).mono ?_
  rintro e w3 ⟨i, rfl, g3, hc3⟩
  have hb3 := hb2.grown g3 hb2.size (fun k hk => by cases hk; exact hgle)
  clear hc2 hb2 g3
  go_wp2_with fail
  refine (l01Below_any hc3 hn 6 (by decide) (by decide)).mono ?_
  rintro e w4 ⟨x, hx, rfl, ho4, hc4⟩
  have hb4 := hb3.grown (gO ho4) hb3.size (fun k hk => by cases hk; exact hgle)
  clear hc3 hb3 ho4
  go_wp2_with fail
  refine (l01Text_g hc4 hn x (by omega)).mono ?_
  rintro e w5 ⟨l, hl, rfl, g5, hc5⟩
  have hb5 := hb4.grown g5 hb4.size (fun k hk => by cases hk; exact hgle)
  have hm : (ByteArray.mk l.toArray).size ≤ 10 := by show l.toArray.size ≤ 10; simp; omega
  clear hc4 hb4 g5 hc5
  go_wp2
  refine bodyPost_ret (v := .tuple #[.string s, .int .i64 i, .string ⟨l.toArray⟩]) (by simp [results, Tryz.results6, go_sem]) rfl ⟨s, i, _, hs, hm, rfl, hb5⟩
end Go.Proofs.YtjgnjjphankhnaaGreat

/- Trees of trees by the given model: public texts, what is checked, indexes, over the loaded program. -/
namespace Go.Proofs.YtjgnjjphankhnaaGreat
open Go.RowKit
set_option maxRecDepth 20000 in
set_option maxHeartbeats 400000 in
theorem specHyperPublic_any (s : ByteArray) (hs : s.size ≤ 1048576) (w : World) :
    Calls Tryz.prog 24 #[.string s] w fun e w' => e = .returned (.string (hpubO s)) ∧ Below w.heap.size w w' := by
  have C1 := hide (fun W => specPublicOf_any (topB s) (by unfold topB; rw [ByteArray.size_append]; show s.size + 1 ≤ _; omega) W)
  have HE := hide (show s ++ ⟨#[116]⟩ = topB s from rfl)
  have HP := hide (show pubO (topB s) = hpubO s from rfl)
  rw [unhide HP] at C1
  have h1 : ¬ 9223372036854775807 < s.size + 1 := by omega
  have h2 : s.size + 1 ≤ 9223372036854775807 := by omega
  rw [← unhide HE] at C1
  generalize hpubO s = p at *
  clear HP HE
  go_enter Tryz.func24, Tryz.ntmps24
  go_wp2_with fail
  refine (unhide C1 w).mono ?_
  rintro e w1 ⟨rfl, hb1⟩
  clear C1
  go_wp2
  go_ret
  exact ⟨rfl, hb1⟩
def shHy (h : Hy) : Prop := (h.top.once.length ≤ 2000000 ∧ h.top.path.length ≤ 2000000) ∧ h.low.once.length ≤ 2000000 ∧ h.low.path.length ≤ 2000000
set_option maxRecDepth 20000 in
set_option maxHeartbeats 800000 in
theorem specHyperCheck_any (p m : ByteArray) (h : Hy) (v : Value) (w : World) (hr : RdHy w v h) (hn : shHy h) (hz : h.root.size ≤ 1048576) (hm : m.size ≤ 1048576) :
    Calls Tryz.prog 22 #[.string p, .string m, v] w fun e w' => e = .returned (.bool (hchkB p m h)) ∧ Below w.heap.size w w' := by
  obtain ⟨a1, m1, c1, a2, m2, c2, a3, m3, c3, a4, m4, c4, rfl⟩ := hr.open
  obtain ⟨p1, p2⟩ := hr.parts
  have C1 := hide (fun (W : World) (hb : Below w.heap.size w W) => specCheckSig_any p h.root h.top _ W (p1.below hb) hn.1.1 hn.1.2 hz)
  have C2 := hide (fun (W : World) (hb : Below w.heap.size w W) => specCheckSig_any h.root m h.low _ W (p2.below hb) hn.2.1 hn.2.2 hm)
  have HE := hide (show hchkB p m h = (chkB p h.root h.top && chkB h.root m h.low) from rfl)
  rw [unhide HE]
  generalize chkB p h.root h.top = r1 at *
  generalize chkB h.root m h.low = r2 at *
  clear hr p1 p2 hn HE
  cases r1 with
  | true =>
    go_enter Tryz.func22, Tryz.ntmps22
    go_wp2_with fail
    obtain ⟨W, hW, hP, hB, hs⟩ := one_cb w #[.int .i64 h.top.leaf, .slice a1 m1 c1, .slice a2 m2 c2, .string h.root, .int .i64 h.low.leaf, .slice a3 m3 c3, .slice a4 m4 c4] 41
    rw [hW]
    clear hW
    refine (unhide C1 W hB).mono ?_
    rintro e w1 ⟨rfl, hb1⟩
    have T1 := hB.trans (hb1.mono hB.size)
    have hP1 := hP.step hb1
    have x3 := hP1.cell 3 (v := .string h.root) rfl
    have x4 := hP1.cell 4 (v := .int .i64 h.low.leaf) rfl
    have x5 := hP1.cell 5 (v := .slice a3 m3 c3) rfl
    have x6 := hP1.cell 6 (v := .slice a4 m4 c4) rfl
    clear hb1 hB hP C1
    go_wp2_with fail
    refine (unhide C2 w1 T1).mono ?_
    rintro e w2 ⟨rfl, hb2⟩
    have T2 := T1.trans (hb2.mono T1.size)
    clear hb2 T1 hP1 C2 x3 x4 x5 x6
    go_wp2
    go_ret
    exact ⟨rfl, T2⟩
  | false =>
    clear C2
    go_enter Tryz.func22, Tryz.ntmps22
    go_wp2_with fail
    obtain ⟨W, hW, hP, hB, hs⟩ := one_cb w #[.int .i64 h.top.leaf, .slice a1 m1 c1, .slice a2 m2 c2, .string h.root, .int .i64 h.low.leaf, .slice a3 m3 c3, .slice a4 m4 c4] 41
    rw [hW]
    clear hW
    refine (unhide C1 W hB).mono ?_
    rintro e w1 ⟨rfl, hb1⟩
    have T1 := hB.trans (hb1.mono hB.size)
    clear hb1 hB hP C1
    go_wp2
    go_ret
    exact ⟨rfl, T1⟩
end Go.Proofs.YtjgnjjphankhnaaGreat

/- Trees of trees by the given model: signatures, over the loaded program. -/
namespace Go.Proofs.YtjgnjjphankhnaaGreat
open Go.RowKit
end Go.Proofs.YtjgnjjphankhnaaGreat

/- Trees of trees by the given model: texts, over the loaded program. -/
namespace Go.Proofs.YtjgnjjphankhnaaGreat
open Go.RowKit
theorem cutH17 (T : ByteArray) (j : Nat) (w : World) (h2 : j ≤ T.size) : (Instr.slice 9 (.string T) none (some (.int .i64 (j : Int))) none).run Tryz.prog w = .ok (.string (T.extract 0 j)) w := by
  rw [run_slice_string_h w 9 T Tryz.underlying9 .i64 (j : Int) (by omega) (by omega)]
  rfl
theorem cutL17 (T : ByteArray) (j : Nat) (w : World) (h2 : j ≤ T.size) : (Instr.slice 9 (.string T) (some (.int .i64 (j : Int))) none none).run Tryz.prog w = .ok (.string (T.extract j T.size)) w := by
  rw [run_slice_string_l w 9 T Tryz.underlying9 .i64 (j : Int) (by omega) (by omega)]
  rfl
theorem CB.drewn {w : World} {g : Nat} {T : TypeId} {cs : Array Value} (h : CB w g T cs) : CB w.drew g T cs := h
end Go.Proofs.YtjgnjjphankhnaaGreat

/- The laws on signatures of trees of trees, walked over the loaded program; what the project's functions answer are premises. -/
namespace Go.Proofs.YtjgnjjphankhnaaGreat
open Go.RowKit
theorem OwnHy.open {w : World} {base : Nat} {v : Value} {h : Hy} (ho : OwnHy w base v h) : ∃ a1 n1 c1 a2 n2 c2 a3 n3 c3 a4 n4 c4, v = .agg #[.int .i64 h.top.leaf, .slice a1 n1 c1, .slice a2 n2 c2, .string h.root, .int .i64 h.low.leaf, .slice a3 n3 c3, .slice a4 n4 c4] := ho.rd.open
def lnHy (h : Hy) (n : Nat) : Prop := (h.top.once.length ≤ n ∧ h.top.path.length ≤ n) ∧ h.low.once.length ≤ n ∧ h.low.path.length ≤ n
theorem lnHy.mono {h : Hy} {n m : Nat} (hl : lnHy h n) (hm : n ≤ m) : lnHy h m := by
  unfold lnHy at *
  omega
theorem sgn_len (s : ByteArray) (leaf : Int) (m : ByteArray) : (sgnS s leaf m).once.length ≤ 10 ∧ (sgnS s leaf m).path.length ≤ 10 := by
  unfold sgnS
  split
  next h => exact ⟨Nat.le_of_eq (onceS_len _ _ _ (keysO_len _ _)), by have : (pathL (lvsO s) leaf).length = 2 := pathL_len _ _ (lvsO_len _) h; show (pathL (lvsO s) leaf).length ≤ 10; omega⟩
  · exact ⟨Nat.zero_le _, Nat.zero_le _⟩
theorem rd_len (t : ByteArray) : (rdS t).once.length ≤ 10 ∧ (rdS t).path.length ≤ 10 := by
  unfold rdS
  split
  · exact ⟨by show ((List.range 10).map _).length ≤ 10; rw [List.length_map, List.length_range]; exact Nat.le_refl _, by show ((List.range 2).map _).length ≤ 10; rw [List.length_map, List.length_range]; omega⟩
  · exact ⟨Nat.zero_le _, Nat.zero_le _⟩
theorem hsgn_len (s : ByteArray) (i : Int) (m : ByteArray) : lnHy (hsgnS s i m) 10 := by
  unfold hsgnS
  split
  · exact ⟨sgn_len _ _ _, sgn_len _ _ _⟩
  · exact ⟨⟨Nat.zero_le _, Nat.zero_le _⟩, Nat.zero_le _, Nat.zero_le _⟩
theorem hrd_len (t : ByteArray) : lnHy (hrdS t) 10 := by
  unfold hrdS
  split
  · exact ⟨rd_len _, rd_len _⟩
  · exact ⟨⟨Nat.zero_le _, Nat.zero_le _⟩, Nat.zero_le _, Nat.zero_le _⟩
end Go.Proofs.YtjgnjjphankhnaaGreat

/- The law FnHypers, walked over the loaded program; what the project's functions answer are premises. -/
namespace Go.Proofs.YtjgnjjphankhnaaGreat
open Go.RowKit
set_option maxRecDepth 20000 in
set_option maxHeartbeats 400000 in
theorem drawHyperSign_any (w : World) (o : Option Addr) (n c : Nat) (hs : Src w w.heap.size o n) (hn : n ≤ 1048576) :
    Calls Tryz.prog 16 #[.slice o n c] w fun e w' => ∃ (s : ByteArray) (leaf : Int) (m : ByteArray), s.size ≤ 9 ∧ m.size ≤ 10 ∧ e = .returned (.tuple #[.string s, .int .i64 leaf, .string m]) ∧ Below w.heap.size w w' := by
  have HS := hide hs
  clear hs
  go_enter Tryz.func16, Tryz.ntmps16
  go_wp2_with fail
  refine (l01New_any w o n c (unhide HS) hn).mono ?_
  rintro e w1 ⟨rfl, hb1, hc1⟩
  obtain ⟨g, hg⟩ : ∃ g, g = w.heap.size := ⟨_, rfl⟩
  rw [← hg] at hc1 ⊢
  have hgle : w.heap.size ≤ g := by omega
  clear HS hg
  go_wp2_with fail
  refine (l16Seed_any hc1 hn).mono ?_
  rintro e w2 ⟨s, hs, rfl, g2, hc2⟩
  have hb2 := hb1.grown g2 hb1.size (fun k hk => by cases hk; exact hgle)
  clear hc1 hb1 g2
  go_wp2_with fail
  refine (l01Place_v hc2 hn 16 (by omega) (by omega)).mono ?_
  rintro e w3 ⟨i, rfl, g3, hc3⟩
  have hb3 := hb2.grown g3 hb2.size (fun k hk => by cases hk; exact hgle)
  clear hc2 hb2 g3
  go_wp2_with fail
  refine (l01Below_any hc3 hn 6 (by decide) (by decide)).mono ?_
  rintro e w4 ⟨x, hx, rfl, ho4, hc4⟩
  have hb4 := hb3.grown (gO ho4) hb3.size (fun k hk => by cases hk; exact hgle)
  clear hc3 hb3 ho4
  go_wp2_with fail
  refine (l01Text_g hc4 hn x (by omega)).mono ?_
  rintro e w5 ⟨l, hl, rfl, g5, hc5⟩
  have hb5 := hb4.grown g5 hb4.size (fun k hk => by cases hk; exact hgle)
  have hm : (ByteArray.mk l.toArray).size ≤ 10 := by show l.toArray.size ≤ 10; simp; omega
  clear hc4 hb4 g5 hc5
  go_wp2
  refine bodyPost_ret (v := .tuple #[.string s, .int .i64 i, .string ⟨l.toArray⟩]) (by simp [results, Tryz.results16, go_sem]) rfl ⟨s, i, _, hs, hm, rfl, hb5⟩
set_option maxRecDepth 20000 in
set_option maxHeartbeats 3200000 in
theorem lawHypers_any (w : World) (o : Option Addr) (n c : Nat) (hs : Src w w.heap.size o n)
    (CP : ∀ (s : ByteArray) (W : World), s.size ≤ 1048576 → Below w.heap.size w W → Calls Tryz.prog 17 #[.string s] W fun e w' => e = .returned (.string (hpubO s)) ∧ Below W.heap.size W w')
    (CG : ∀ (s m : ByteArray) (i : Int) (W : World), s.size ≤ 1048576 → m.size ≤ 1048576 → Below w.heap.size w W → Calls Tryz.prog 18 #[.string s, .int .i64 i, .string m] W fun e w' => (∃ v, e = .returned (.tuple #[v, .bool (decide (0 ≤ i ∧ i ≤ 15))]) ∧ OwnHy w' W.heap.size v (hsgnS s i m)) ∧ Below W.heap.size W w')
    (CT : ∀ (S : Hy) (W : World) (v : Value), lnHy S 1048576 → Below w.heap.size w W → RdHy W v S → Calls Tryz.prog 19 #[v] W fun e w' => e = .returned (.tuple #[.string (htx S), .bool (htxOk S)]) ∧ Below W.heap.size W w')
    (CR : ∀ (t : ByteArray) (W : World), t.size ≤ 1048576 → Below w.heap.size w W → Calls Tryz.prog 20 #[.string t] W fun e w' => (∃ v, e = .returned (.tuple #[v, .bool (hrdOk t)]) ∧ OwnHy w' W.heap.size v (hrdS t)) ∧ Below W.heap.size W w')
    (CC : ∀ (p m : ByteArray) (S : Hy) (W : World) (v : Value), p.size ≤ 1048576 → m.size ≤ 1048576 → S.root.size ≤ 1048576 → lnHy S 1048576 → Below w.heap.size w W → RdHy W v S → Calls Tryz.prog 21 #[.string p, .string m, v] W fun e w' => e = .returned (.bool (hchkB p m S)) ∧ Below W.heap.size W w')
    (CI : ∀ (S : Hy) (W : World) (v : Value), lnHy S 1048576 → Below w.heap.size w W → RdHy W v S → Calls Tryz.prog 23 #[v] W fun e w' => e = .returned (.int .i64 (hidx S)) ∧ Below W.heap.size W w') :
    Calls Tryz.prog 4 #[.slice o n c] w fun e w' => e = .returned (.bool true) ∧ Below w.heap.size w w' := by
  have HS := hide hs
  replace CP := hide CP; replace CG := hide CG; replace CT := hide CT; replace CR := hide CR; replace CC := hide CC; replace CI := hide CI
  clear hs
  by_cases hbig : (1048576 : Int) < (n : Int)
  · have hd : decide ((1048576 : Int) < (n : Int)) = true := by rw [decide_eq_true_iff]; exact hbig
    go_enter Tryz.func4, Tryz.ntmps4
    go_wp2_with (go_at_call 5; refine (big_any w o n c).mono ?_; rintro e w1 ⟨rfl, rfl⟩)
    go_ret
    exact ⟨rfl, Below.refl _ _⟩
  have hd : decide ((1048576 : Int) < (n : Int)) = false := by rw [decide_eq_false_iff_not]; exact hbig
  have hn : n ≤ 1048576 := by omega
  go_enter Tryz.func4, Tryz.ntmps4
  go_wp2_with fail
  refine (big_any w o n c).mono ?_
  rintro e w0 ⟨rfl, hw0⟩
  have hw0' := hw0.symm
  subst hw0'
  clear hw0
  go_wp2_with fail
  refine (drawHyperSign_any w o n c (unhide HS) hn).mono ?_
  rintro e w1 ⟨s, lfd, m, hs9, hm9, rfl, HT1⟩
  have HS1 := hide (((unhide HS).below HT1 (Nat.le_refl _)).up HT1.size)
  clear HS
  go_wp2_with fail
  refine (drawPlaces_any w1 o n c (unhide HS1) hn).mono ?_
  rintro e w2 ⟨v, xs, hxl, hx, rfl, oX, hb2⟩
  have HT2 := HT1.trans (hb2.mono HT1.size)
  obtain ⟨x0, xs', rfl⟩ : ∃ x t, xs = x :: t := by
    cases xs with
    | nil => cases hxl
    | cons x t => exact ⟨x, t, rfl⟩
  have hx0 := hx x0 (by simp)
  have oX2 := oX
  obtain ⟨aX, cX, rfl⟩ := oX.shape
  have hlX : (ints (x0 :: xs')).length = 12 := by unfold ints; rw [List.length_map]; exact hxl
  rw [hlX] at oX2 ⊢
  obtain ⟨gX, hgX⟩ : ∃ g, aX = some ⟨g, 0, none⟩ := by
    rcases oX2.2 with ⟨_, h2⟩ | ⟨g, cap, cur, h1, _⟩
    · rw [hlX] at h2; cases h2
    · exact ⟨g, (Value.slice.inj h1).1⟩
  subst hgX
  have dX := oX2.cell (k := 0) (u := .int .i64 (x0 : Int)) rfl
  obtain ⟨lf, hlf⟩ : ∃ l : Nat, l = x0 % 16 := ⟨_, rfl⟩
  have hlf16 : lf < 16 := by omega
  have t1 : (x0 : Int).tmod 16 = (lf : Int) := by rw [Int.tmod_eq_emod_of_nonneg (by omega)]; omega
  have t1' : (x0 : Int) % 16 = (lf : Int) := by omega
  have t2 : IntKind.i64.wrap (lf : Int) = (lf : Int) := by rw [IntKind.wrap_i64]; omega
  have hin : (0 : Int) ≤ (lf : Int) ∧ (lf : Int) ≤ 15 := by omega
  have CP1 := hide (fun (W : World) (h : Below w.heap.size w W) => unhide CP s W (by omega) h)
  have CP2 := hide (fun (W : World) => specHyperPublic_any s (by omega) W)
  have CG1 := hide (fun (W : World) (h : Below w.heap.size w W) => unhide CG s m (lf : Int) W (by omega) (by omega) h)
  have CG2 := hide (fun (W : World) (h : Below w.heap.size w W) => unhide CG s m 16 W (by omega) (by omega) h)
  rw [decide_eq_true hin] at CG1
  have hok := hsgn_ok s (lf : Int) m hin
  have hchk := hsgn_chk s (lf : Int) m hin
  have hix := hsgn_idx s (lf : Int) m hin
  have hl := hsgn_len s (lf : Int) m
  have hl1 := hl.mono (m := 1048576) (by omega)
  have hl2 : shHy (hsgnS s (lf : Int) m) := hl.mono (m := 2000000) (by omega)
  have hpz : (hpubO s).size ≤ 1048576 := by
    have h4 : (hpubO s).size = 4 := pubO_four _
    omega
  have hrt : (hsgnS s (lf : Int) m).root.size ≤ 1048576 := by
    have := htxOk_root hok
    omega
  have CT1 := hide (fun (W : World) (v : Value) (h : Below w.heap.size w W) (r : RdHy W v (hsgnS s (lf : Int) m)) => unhide CT _ W v hl1 h r)
  have CI1 := hide (fun (W : World) (v : Value) (h : Below w.heap.size w W) (r : RdHy W v (hsgnS s (lf : Int) m)) => unhide CI _ W v hl1 h r)
  have CC1 := hide (fun (W : World) (v : Value) (h : Below w.heap.size w W) (r : RdHy W v (hsgnS s (lf : Int) m)) => unhide CC (hpubO s) m _ W v hpz (by omega) hrt hl1 h r)
  have CC2 := hide (fun (W : World) (v : Value) (r : RdHy W v (hsgnS s (lf : Int) m)) => specHyperCheck_any (hpubO s) m _ v W r hl2 hrt (by omega))
  have CR1 := hide (fun (W : World) (h : Below w.heap.size w W) => unhide CR (htx (hsgnS s (lf : Int) m)) W (by rw [htx_size hok]; omega) h)
  rw [hrd_htx hok, hrdOk_htx hok] at CR1
  rw [hchk] at CC1 CC2
  rw [hok] at CT1
  rw [hix] at CI1
  have hS4 : decide ((0 : Int) ≤ 16 ∧ (16 : Int) ≤ 15) = false := by decide
  rw [hS4] at CG2
  generalize hsgnS s 16 m = S4 at *
  generalize hsgnS s (lf : Int) m = S at *
  generalize hpubO s = p at *
  generalize htx S = tx at *
  clear CP CG CT CR CC CI oX oX2 hlX hb2 HT1 HS1 hxl hx hok hchk hpz hS4 hin hl hl1 hl2 hrt hix
  replace hlf := hide hlf
  go_wp2_with fail
  refine (unhide CP1 w2 HT2).mono ?_
  rintro e w3 ⟨rfl, hb3⟩
  have HT3 := HT2.trans (hb3.mono HT2.size)
  clear hb3 HT2 CP1 dX
  go_wp2_with fail
  refine (unhide CG1 w3 HT3).mono ?_
  rintro e w4 ⟨⟨v4, rfl, o4⟩, hb4⟩
  have HT4 := HT3.trans (hb4.mono HT3.size)
  obtain ⟨a1, an1, ac1, a2, an2, ac2, a3, an3, ac3, a4, an4, ac4, rfl⟩ := o4.open
  have r4 := hide o4.rd
  clear hb4 HT3 CG1 o4
  go_wp2_with fail
  obtain ⟨W4, hW, P8, hB4, hs4⟩ := one_cb w4 #[.int .i64 S.top.leaf, .slice a1 an1 ac1, .slice a2 an2 ac2, .string S.root, .int .i64 S.low.leaf, .slice a3 an3 ac3, .slice a4 an4 ac4] 41
  rw [hW]
  clear hW
  have HT5 := HT4.trans (hB4.mono HT4.size)
  have r5 := hide ((unhide r4).below hB4)
  clear hB4 r4 HT4
  refine (unhide CT1 W4 _ HT5 (unhide r5)).mono ?_
  rintro e w6 ⟨rfl, hb6⟩
  have HT6 := HT5.trans (hb6.mono HT5.size)
  have r6 := hide ((unhide r5).below hb6)
  have P8a := P8.step hb6
  clear hb6 r5 HT5 P8
  go_wp2_with fail
  refine (unhide CR1 w6 HT6).mono ?_
  rintro e w7 ⟨⟨v7, rfl, o7⟩, hb7⟩
  have HT7 := HT6.trans (hb7.mono HT6.size)
  have r7 := hide ((unhide r6).below hb7)
  have P8b := P8a.step hb7
  obtain ⟨b1, bn1, bc1, b2, bn2, bc2, b3, bn3, bc3, b4, bn4, bc4, rfl⟩ := o7.open
  have x7 := hide o7.rd
  clear hb7 r6 HT6 P8a CR1 o7
  go_wp2_with fail
  obtain ⟨W7, hW, P12, hB7, hs7⟩ := one_cb w7 #[.int .i64 S.top.leaf, .slice b1 bn1 bc1, .slice b2 bn2 bc2, .string S.root, .int .i64 S.low.leaf, .slice b3 bn3 bc3, .slice b4 bn4 bc4] 41
  rw [hW]
  clear hW
  have HT8 := HT7.trans (hB7.mono HT7.size)
  have r8 := hide ((unhide r7).below hB7)
  have x8 := hide ((unhide x7).below hB7)
  have P8c := P8b.step hB7
  clear hB7 r7 x7 HT7 P8b
  refine (unhide CG2 W7 HT8).mono ?_
  rintro e w9 ⟨⟨v9, rfl, o9⟩, hb9⟩
  have HT9 := HT8.trans (hb9.mono HT8.size)
  have r9 := hide ((unhide r8).below hb9)
  have x9 := hide ((unhide x8).below hb9)
  have P8d := P8c.step hb9
  have P12d := P12.step hb9
  obtain ⟨d1, dn1, dc1, d2, dn2, dc2, d3, dn3, dc3, d4, dn4, dc4, rfl⟩ := o9.open
  have p0 := P12d.cell 0 (v := .int .i64 S.top.leaf) rfl
  have p1 := P12d.cell 1 (v := .slice b1 bn1 bc1) rfl
  have p2 := P12d.cell 2 (v := .slice b2 bn2 bc2) rfl
  have p3 := P12d.cell 3 (v := .string S.root) rfl
  have p4 := P12d.cell 4 (v := .int .i64 S.low.leaf) rfl
  have p5 := P12d.cell 5 (v := .slice b3 bn3 bc3) rfl
  have p6 := P12d.cell 6 (v := .slice b4 bn4 bc4) rfl
  have l8 := P12d.lt
  clear hb9 r8 x8 HT8 P8c P12 CG2 o9
  go_wp2_with fail
  obtain ⟨W9, hW, P14, hB9, hs9'⟩ := one_cb w9 #[.int .i64 S4.top.leaf, .slice d1 dn1 dc1, .slice d2 dn2 dc2, .string S4.root, .int .i64 S4.low.leaf, .slice d3 dn3 dc3, .slice d4 dn4 dc4] 41
  rw [hW]
  clear hW p0 p1 p2 p3 p4 p5 p6 l8 P14
  have HT10 := HT9.trans (hB9.mono HT9.size)
  have r10 := hide ((unhide r9).below hB9)
  have x10 := hide ((unhide x9).below hB9)
  have P8e := P8d.step hB9
  have P12e := P12d.step hB9
  clear hB9 r9 x9 HT9 P8d P12d
  refine (unhide CT1 W9 _ HT10 (unhide x10)).mono ?_
  rintro e w11 ⟨rfl, hb11⟩
  have HT11 := HT10.trans (hb11.mono HT10.size)
  have r11 := hide ((unhide r10).below hb11)
  have x11 := hide ((unhide x10).below hb11)
  have P8f := P8e.step hb11
  have P12f := P12e.step hb11
  have p0 := P8f.cell 0 (v := .int .i64 S.top.leaf) rfl
  have p1 := P8f.cell 1 (v := .slice a1 an1 ac1) rfl
  have p2 := P8f.cell 2 (v := .slice a2 an2 ac2) rfl
  have p3 := P8f.cell 3 (v := .string S.root) rfl
  have p4 := P8f.cell 4 (v := .int .i64 S.low.leaf) rfl
  have p5 := P8f.cell 5 (v := .slice a3 an3 ac3) rfl
  have p6 := P8f.cell 6 (v := .slice a4 an4 ac4) rfl
  clear hb11 r10 x10 HT10 P8e P12e CT1
  go_wp2_with fail
  refine (unhide CC1 w11 _ HT11 (unhide r11)).mono ?_
  rintro e w12 ⟨rfl, hb12⟩
  have HT12 := HT11.trans (hb12.mono HT11.size)
  have r12 := hide ((unhide r11).below hb12)
  have x12 := hide ((unhide x11).below hb12)
  have P8g := P8f.step hb12
  have P12g := P12f.step hb12
  clear hb12 r11 x11 HT11 P8f P12f CC1 p0 p1 p2 p3 p4 p5 p6
  have p0 := P12g.cell 0 (v := .int .i64 S.top.leaf) rfl
  have p1 := P12g.cell 1 (v := .slice b1 bn1 bc1) rfl
  have p2 := P12g.cell 2 (v := .slice b2 bn2 bc2) rfl
  have p3 := P12g.cell 3 (v := .string S.root) rfl
  have p4 := P12g.cell 4 (v := .int .i64 S.low.leaf) rfl
  have p5 := P12g.cell 5 (v := .slice b3 bn3 bc3) rfl
  have p6 := P12g.cell 6 (v := .slice b4 bn4 bc4) rfl
  go_wp2_with fail
  refine (unhide CC2 w12 _ (unhide x12)).mono ?_
  rintro e w13 ⟨rfl, hb13⟩
  have HT13 := HT12.trans (hb13.mono HT12.size)
  have r13 := hide ((unhide r12).below hb13)
  have P8h := P8g.step hb13
  clear hb13 r12 x12 HT12 P8g P12g CC2 p0 p1 p2 p3 p4 p5 p6
  have p0 := P8h.cell 0 (v := .int .i64 S.top.leaf) rfl
  have p1 := P8h.cell 1 (v := .slice a1 an1 ac1) rfl
  have p2 := P8h.cell 2 (v := .slice a2 an2 ac2) rfl
  have p3 := P8h.cell 3 (v := .string S.root) rfl
  have p4 := P8h.cell 4 (v := .int .i64 S.low.leaf) rfl
  have p5 := P8h.cell 5 (v := .slice a3 an3 ac3) rfl
  have p6 := P8h.cell 6 (v := .slice a4 an4 ac4) rfl
  go_wp2_with fail
  refine (unhide CI1 w13 _ HT13 (unhide r13)).mono ?_
  rintro e w14 ⟨rfl, hb14⟩
  have HT14 := HT13.trans (hb14.mono HT13.size)
  clear hb14 HT13 P8h r13 CI1 p0 p1 p2 p3 p4 p5 p6
  go_wp2_with fail
  refine (unhide CP2 w14).mono ?_
  rintro e w15 ⟨rfl, hb15⟩
  have HT15 := HT14.trans (hb15.mono HT14.size)
  clear hb15 HT14 CP2
  go_wp2
  go_ret
  exact ⟨rfl, HT15⟩
end Go.Proofs.YtjgnjjphankhnaaGreat

/- The law FnOnce, walked over the loaded program; what the project's functions answer is a premise. -/
namespace Go.Proofs.YtjgnjjphankhnaaGreat
open Go.RowKit
theorem OwnV.loU {w : World} {base : Nat} {e : TypeId} {v : Value} {xs : List Value} (h : OwnV w base e v xs) : ∀ k, v.ownBlock = some k → base ≤ k ∧ k < w.heap.size := fun k hk => World.ownsRow.lt h k hk
theorem row_some15 {w : World} {base : Nat} {e : TypeId} {v : Value} {xs : List Value} (h : OwnV w base e v xs) (hn : 0 < xs.length) : ∃ g c, v = .slice (some ⟨g, 0, none⟩) xs.length c ∧ base ≤ g ∧ g < w.heap.size ∧ xs.length ≤ c := by
  have h0 := h
  rcases h.2 with ⟨_, h2⟩ | ⟨g, cap, cur, h1, hb, _, hc, _⟩
  · omega
  · refine ⟨g, cap, h1, hb, ?_, hc⟩
    have := World.ownsRow.lt h0 g (by rw [h1]; rfl)
    exact this.2
set_option maxRecDepth 20000 in
set_option maxHeartbeats 1000000 in
theorem sameTexts_any (l : List ByteArray) (v1 v2 : Value) (w : World) (hr1 : RdV w v1 (l.map sv)) (hr2 : RdV w v2 (l.map sv)) (hln : l.length ≤ 2000000) :
    Calls Tryz.prog 15 #[v1, v2] w fun e w' => e = .returned (.bool true) ∧ Below w.heap.size w w' := by
  obtain ⟨a1, c1, rfl, hc1⟩ := hr1.open
  obtain ⟨a2, c2, rfl, hc2⟩ := hr2.open
  clear hr1 hr2
  rw [List.length_map]
  obtain ⟨n, hnn⟩ : ∃ n, l.length = n := ⟨_, rfl⟩
  rw [hnn] at hln ⊢
  replace hnn := hide hnn
  go_enter Tryz.func15, Tryz.ntmps15
  go_wp2
  go_loopw [5] (fun ti wr => ∃ k q : Nat, k ≤ n ∧ ti = .int .i64 k ∧ wr = w.drewN q) (fun ti _ => n - (intOf ti).toNat)
  case atStart => exact ⟨0, 0, Nat.zero_le _, rfl, rfl⟩
  case round =>
    obtain ⟨k, q, hk, rfl, rfl⟩ := hrel
    by_cases hlt : k < n
    · have hk' : k < l.length := by rw [unhide hnn]; exact hlt
      have hf := sv_get l k hk'
      obtain ⟨g1, o1, rfl, hg1, d1⟩ := hc1 k _ hf
      obtain ⟨g2, o2, rfl, hg2, d2⟩ := hc2 k _ hf
      have hi0 : (0 : Int) ≤ (k : Int) := by omega
      have hi1 : (k : Int) < (n : Int) := by omega
      generalize l[k] = told at *
      clear hc1 hc2 hf
      go_wp2
      go_quiet (fail)
      go_wp2
      go_roundw
      case rel => exact ⟨k + 1, _, by omega, by go_num, by first | rfl | rw [World.drewN_drewN]⟩
      case measure => simp [intOf]; omega
    · go_wp2
      go_ret
      exact ⟨rfl, bDN (Below.refl _ w) _⟩
theorem keysO_sizes (s : ByteArray) (leaf : Int) : (keysO s leaf).length = 10 ∧ ∀ x ∈ keysO s leaf, x.size = 4 := by
  unfold keysO
  refine ⟨by rw [List.length_map, List.length_range], fun x hx => ?_⟩
  obtain ⟨i, _, rfl⟩ := List.mem_map.1 hx
  unfold keyO
  exact chopB_size _
theorem sumS_most (l : List ByteArray) (c : Nat) (h : ∀ x ∈ l, x.size ≤ c) : sumS l ≤ c * l.length := by
  induction l with
  | nil => exact Nat.zero_le _
  | cons x xs ih =>
    have h1 := h x (by simp)
    have h2 := ih (fun y hy => h y (by simp [hy]))
    show x.size + sumS xs ≤ c * (xs.length + 1)
    rw [Nat.mul_add, Nat.mul_one]
    omega
theorem onceS_sizes (l : List ByteArray) (leaf : Int) (m : ByteArray) (hl : l.length = 10) (h : ∀ x ∈ l, x.size = 4) : (onceS l leaf m).length = 10 ∧ sumS (onceS l leaf m) ≤ 80 := by
  have hlen : (onceS l leaf m).length = 10 := by unfold onceS; rw [if_pos hl, List.length_map, List.length_range]
  refine ⟨hlen, ?_⟩
  have := sumS_most (onceS l leaf m) 8 (fun x hx => by
    unfold onceS at hx
    rw [if_pos hl] at hx
    obtain ⟨i, hi, rfl⟩ := List.mem_map.1 hx
    have h1 := chn_le (bAt l i) leaf (i : Int) 0 (dgAt m i)
    have h2 := bAt_size l i 4 (by rw [hl]; exact List.mem_range.1 hi) (fun x hx => by rw [h x hx]; exact Nat.le_refl _)
    omega)
  rw [hlen] at this
  omega
end Go.Proofs.YtjgnjjphankhnaaGreat

/- The laws FnExactPublicOf, FnExactSigOk, FnExactCheckSig, FnExactSigText, walked over the loaded program; what the project's functions answer are premises. -/
namespace Go.Proofs.YtjgnjjphankhnaaGreat
open Go.RowKit
theorem RdSg.open {w : World} {v : Value} {s : Sg} (h : RdSg w v s) : ∃ a1 n1 c1 a2 n2 c2, v = .agg #[.int .i64 s.leaf, .slice a1 n1 c1, .slice a2 n2 c2] := by
  obtain ⟨v1, v2, rfl, h1, h2, -⟩ := h
  obtain ⟨a1, c1, rfl⟩ := h1.shape
  obtain ⟨a2, c2, rfl⟩ := h2.shape
  exact ⟨_, _, _, _, _, _, rfl⟩
/-- What is asked of a signature's texts, that they may be reckoned with. -/
def okSg (s : Sg) : Prop := (∀ x ∈ s.once, x.size ≤ maxLen) ∧ (∀ x ∈ s.path, x.size ≤ maxLen) ∧ s.once.length ≤ maxLen ∧ s.path.length ≤ maxLen
end Go.Proofs.YtjgnjjphankhnaaGreat

/- The law FnSigns, walked over the loaded program; what the project's functions answer are premises. -/
namespace Go.Proofs.YtjgnjjphankhnaaGreat
open Go.RowKit
set_option maxRecDepth 20000 in
set_option maxHeartbeats 1600000 in
theorem lawSigns_any (w : World) (o : Option Addr) (n c : Nat) (hs : Src w w.heap.size o n)
    (CP : ∀ (s : ByteArray) (W : World), s.size ≤ 1048576 → Below w.heap.size w W → Calls Tryz.prog 8 #[.string s] W fun e w' => e = .returned (.string (pubO s)) ∧ Below W.heap.size W w')
    (CG : ∀ (s m : ByteArray) (leaf : Int) (W : World), s.size ≤ 1048576 → m.size ≤ 1048576 → Below w.heap.size w W → Calls Tryz.prog 9 #[.string s, .int .i64 leaf, .string m] W fun e w' => (∃ v, e = .returned (.tuple #[v, .bool (decide (0 ≤ leaf ∧ leaf ≤ 3))]) ∧ OwnSg w' W.heap.size v (sgnS s leaf m)) ∧ Below W.heap.size W w')
    (CT : ∀ (S : Sg) (W : World) (v : Value), S.once.length ≤ 1048576 → S.path.length ≤ 1048576 → Below w.heap.size w W → RdSg W v S → Calls Tryz.prog 10 #[v] W fun e w' => e = .returned (.tuple #[.string (sgT S), .bool (sgOk S)]) ∧ Below W.heap.size W w')
    (CR : ∀ (t : ByteArray) (W : World), t.size ≤ 1048576 → Below w.heap.size w W → Calls Tryz.prog 11 #[.string t] W fun e w' => (∃ v, e = .returned (.tuple #[v, .bool (rdOk t)]) ∧ OwnSg w' W.heap.size v (rdS t)) ∧ Below W.heap.size W w')
    (CO : ∀ (S : Sg) (W : World) (v : Value), S.once.length ≤ 1048576 → S.path.length ≤ 1048576 → Below w.heap.size w W → RdSg W v S → Calls Tryz.prog 12 #[v] W fun e w' => e = .returned (.bool (sgOk S)) ∧ Below W.heap.size W w')
    (CC : ∀ (p m : ByteArray) (S : Sg) (W : World) (v : Value), p.size ≤ 1048576 → m.size ≤ 1048576 → S.once.length ≤ 1048576 → S.path.length ≤ 1048576 → Below w.heap.size w W → RdSg W v S → Calls Tryz.prog 13 #[.string p, .string m, v] W fun e w' => e = .returned (.bool (chkB p m S)) ∧ Below W.heap.size W w') :
    Calls Tryz.prog 3 #[.slice o n c] w fun e w' => e = .returned (.bool true) ∧ Below w.heap.size w w' := by
  have HS := hide hs
  replace CP := hide CP; replace CG := hide CG; replace CT := hide CT; replace CR := hide CR; replace CO := hide CO; replace CC := hide CC
  clear hs
  by_cases hbig : (1048576 : Int) < (n : Int)
  · have hd : decide ((1048576 : Int) < (n : Int)) = true := by rw [decide_eq_true_iff]; exact hbig
    go_enter Tryz.func3, Tryz.ntmps3
    go_wp2_with (go_at_call 5; refine (big_any w o n c).mono ?_; rintro e w1 ⟨rfl, rfl⟩)
    go_ret
    exact ⟨rfl, Below.refl _ _⟩
  have hd : decide ((1048576 : Int) < (n : Int)) = false := by rw [decide_eq_false_iff_not]; exact hbig
  have hn : n ≤ 1048576 := by omega
  go_enter Tryz.func3, Tryz.ntmps3
  go_wp2_with fail
  refine (big_any w o n c).mono ?_
  rintro e w0 ⟨rfl, hw0⟩
  have hw0' := hw0.symm
  subst hw0'
  clear hw0
  go_wp2_with fail
  refine (drawSignAt_any w o n c (unhide HS) hn).mono ?_
  rintro e w1 ⟨s, lfd, m, hs9, hm9, rfl, HT1⟩
  have HS1 := hide (((unhide HS).below HT1 (Nat.le_refl _)).up HT1.size)
  clear HS
  go_wp2_with fail
  refine (drawPlaces_any w1 o n c (unhide HS1) hn).mono ?_
  rintro e w2 ⟨v, xs, hxl, hx, rfl, oX, hb2⟩
  have HT2 := HT1.trans (hb2.mono HT1.size)
  obtain ⟨x0, xs', rfl⟩ : ∃ x t, xs = x :: t := by
    cases xs with
    | nil => cases hxl
    | cons x t => exact ⟨x, t, rfl⟩
  have hx0 := hx x0 (by simp)
  have oX2 := oX
  obtain ⟨aX, cX, rfl⟩ := oX.shape
  have hlX : (ints (x0 :: xs')).length = 12 := by unfold ints; rw [List.length_map]; exact hxl
  rw [hlX] at oX2 ⊢
  obtain ⟨gX, hgX⟩ : ∃ g, aX = some ⟨g, 0, none⟩ := by
    rcases oX2.2 with ⟨_, h2⟩ | ⟨g, cap, cur, h1, _⟩
    · rw [hlX] at h2; cases h2
    · exact ⟨g, (Value.slice.inj h1).1⟩
  subst hgX
  have dX := oX2.cell (k := 0) (u := .int .i64 (x0 : Int)) rfl
  obtain ⟨lf, hlf⟩ : ∃ l : Nat, l = x0 % 4 := ⟨_, rfl⟩
  have hlf4 : lf < 4 := by omega
  have t1 : (x0 : Int).tmod 4 = (lf : Int) := by rw [Int.tmod_eq_emod_of_nonneg (by omega)]; omega
  have t1' : (x0 : Int) % 4 = (lf : Int) := by omega
  have t2 : IntKind.i64.wrap (lf : Int) = (lf : Int) := by rw [IntKind.wrap_i64]; omega
  have hin : (0 : Int) ≤ (lf : Int) ∧ (lf : Int) ≤ 3 := by omega
  have CP1 := hide (fun (W : World) (h : Below w.heap.size w W) => unhide CP s W (by omega) h)
  have CG1 := hide (fun (W : World) (h : Below w.heap.size w W) => unhide CG s m (lf : Int) W (by omega) (by omega) h)
  have CG2 := hide (fun (W : World) (h : Below w.heap.size w W) => unhide CG s m 4 W (by omega) (by omega) h)
  rw [decide_eq_true hin] at CG1
  have hok := sgnS_ok s (lf : Int) m hin
  have hlS : (sgnS s (lf : Int) m).leaf = (lf : Int) := by unfold sgnS; rw [if_pos hin]
  have hchk := sgn_chk s (lf : Int) m hin
  obtain ⟨_, hS1, hS2⟩ := sgOk_shape hok
  have hpz : (pubO s).size ≤ 1048576 := by
    have h4 : (pubO s).size ≤ 4 := by
      unfold pubO rootB
      rw [if_pos (lvsO_len s)]
      exact Nat.le_of_eq (bAt_four (lvs_four _ (lvsO_size s) 2) 0 (by rw [lvs_len _ (lvsO_len s) 2]; decide))
    omega
  have CT1 := hide (fun (W : World) (v : Value) (h : Below w.heap.size w W) (r : RdSg W v (sgnS s (lf : Int) m)) => unhide CT _ W v (by omega) (by omega) h r)
  have CO1 := hide (fun (W : World) (v : Value) (h : Below w.heap.size w W) (r : RdSg W v (sgnS s (lf : Int) m)) => unhide CO _ W v (by omega) (by omega) h r)
  have CC1 := hide (fun (W : World) (v : Value) (h : Below w.heap.size w W) (r : RdSg W v (sgnS s (lf : Int) m)) => unhide CC (pubO s) m _ W v hpz (by omega) (by omega) (by omega) h r)
  have CC2 := hide (fun (W : World) (v : Value) (r : RdSg W v (sgnS s (lf : Int) m)) => specCheckSig_any (pubO s) m _ v W r (by omega) (by omega) (by omega))
  have CR1 := hide (fun (W : World) (h : Below w.heap.size w W) => unhide CR (sgT (sgnS s (lf : Int) m)) W (by rw [sgT_size hok]; omega) h)
  rw [rd_sgT hok, rdOk_of (rdIn_sgT hok)] at CR1
  rw [hchk] at CC1 CC2
  rw [hok] at CT1 CO1
  have hS4 : decide ((0 : Int) ≤ 4 ∧ (4 : Int) ≤ 3) = false := by decide
  rw [hS4] at CG2
  generalize sgnS s 4 m = S4 at *
  generalize sgnS s (lf : Int) m = S at *
  have CX1 := hide (fun (W : World) (v u : Value) (hv : RdV W v (S.once.map sv)) (hu : RdV W u (S.once.map sv)) => sameTexts_any S.once v u W hv hu (by omega))
  have CX2 := hide (fun (W : World) (v u : Value) (hv : RdV W v (S.path.map sv)) (hu : RdV W u (S.path.map sv)) => sameTexts_any S.path v u W hv hu (by omega))
  generalize pubO s = p at *
  generalize sgT S = tx at *
  clear CP CG CT CR CO CC oX oX2 hlX hb2 HT1 HS1 hxl hx hS1 hS2 hok hchk hpz hS4 hin
  replace hlf := hide hlf
  go_wp2_with fail
  refine (unhide CP1 w2 HT2).mono ?_
  rintro e w3 ⟨rfl, hb3⟩
  have HT3 := HT2.trans (hb3.mono HT2.size)
  clear hb3 HT2 CP1 dX
  go_wp2_with fail
  refine (unhide CG1 w3 HT3).mono ?_
  rintro e w4 ⟨⟨v4, rfl, o4⟩, hb4⟩
  have HT4 := HT3.trans (hb4.mono HT3.size)
  obtain ⟨a1, n1, c1, a2, n2, c2, rfl⟩ := o4.open
  rw [hlS] at o4 ⊢
  have r4 := hide o4.rd
  clear hb4 HT3 CG1 o4
  go_wp2_with fail
  obtain ⟨W4, hW, P8, hB4, hs4⟩ := one_cb w4 #[.int .i64 (lf : Int), .slice a1 n1 c1, .slice a2 n2 c2] 31
  rw [hW]
  clear hW
  have HT5 := HT4.trans (hB4.mono HT4.size)
  have r5 := hide ((unhide r4).below hB4)
  clear hB4 r4 HT4
  refine (unhide CT1 W4 _ HT5 (unhide r5)).mono ?_
  rintro e w6 ⟨rfl, hb6⟩
  have HT6 := HT5.trans (hb6.mono HT5.size)
  have r6 := hide ((unhide r5).below hb6)
  have P8a := P8.step hb6
  clear hb6 r5 HT5 P8 CT1
  go_wp2_with fail
  refine (unhide CR1 w6 HT6).mono ?_
  rintro e w7 ⟨⟨v7, rfl, o7⟩, hb7⟩
  have HT7 := HT6.trans (hb7.mono HT6.size)
  have r7 := hide ((unhide r6).below hb7)
  have P8b := P8a.step hb7
  obtain ⟨a3, n3, c3, a4, n4, c4, rfl⟩ := o7.open
  rw [hlS] at o7 ⊢
  have x7 := hide o7.rd
  clear hb7 r6 HT6 P8a CR1 o7
  go_wp2_with fail
  obtain ⟨W7, hW, P12, hB7, hs7⟩ := one_cb w7 #[.int .i64 (lf : Int), .slice a3 n3 c3, .slice a4 n4 c4] 31
  rw [hW]
  clear hW
  have HT8 := HT7.trans (hB7.mono HT7.size)
  have r8 := hide ((unhide r7).below hB7)
  have x8 := hide ((unhide x7).below hB7)
  have P8c := P8b.step hB7
  clear hB7 r7 x7 HT7 P8b
  refine (unhide CG2 W7 HT8).mono ?_
  rintro e w9 ⟨⟨v9, rfl, o9⟩, hb9⟩
  have HT9 := HT8.trans (hb9.mono HT8.size)
  have r9 := hide ((unhide r8).below hb9)
  have x9 := hide ((unhide x8).below hb9)
  have P8d := P8c.step hb9
  have P12d := P12.step hb9
  obtain ⟨a5, n5, c5, a6, n6, c6, rfl⟩ := o9.open
  have p0 := P8d.cell 0 (v := .int .i64 (lf : Int)) rfl
  have p1 := P8d.cell 1 (v := .slice a1 n1 c1) rfl
  have p2 := P8d.cell 2 (v := .slice a2 n2 c2) rfl
  have l8 := P8d.lt
  clear hb9 r8 x8 HT8 P8c P12 CG2 o9
  go_wp2_with fail
  obtain ⟨W9, hW, P14, hB9, hs9'⟩ := one_cb w9 #[.int .i64 S4.leaf, .slice a5 n5 c5, .slice a6 n6 c6] 31
  rw [hW]
  clear hW p0 p1 p2 l8 P14
  have HT10 := HT9.trans (hB9.mono HT9.size)
  have r10 := hide ((unhide r9).below hB9)
  have x10 := hide ((unhide x9).below hB9)
  have P8e := P8d.step hB9
  have P12e := P12d.step hB9
  clear hB9 r9 x9 HT9 P8d P12d
  refine (unhide CO1 W9 _ HT10 (unhide r10)).mono ?_
  rintro e w11 ⟨rfl, hb11⟩
  have HT11 := HT10.trans (hb11.mono HT10.size)
  have r11 := hide ((unhide r10).below hb11)
  have x11 := hide ((unhide x10).below hb11)
  have P8f := P8e.step hb11
  have P12f := P12e.step hb11
  have p0 := P8f.cell 0 (v := .int .i64 (lf : Int)) rfl
  have p1 := P8f.cell 1 (v := .slice a1 n1 c1) rfl
  have p2 := P8f.cell 2 (v := .slice a2 n2 c2) rfl
  clear hb11 r10 x10 HT10 P8e P12e CO1
  go_wp2_with fail
  refine (unhide CC1 w11 _ HT11 (unhide r11)).mono ?_
  rintro e w12 ⟨rfl, hb12⟩
  have HT12 := HT11.trans (hb12.mono HT11.size)
  have r12 := hide ((unhide r11).below hb12)
  have x12 := hide ((unhide x11).below hb12)
  have P8g := P8f.step hb12
  have P12g := P12f.step hb12
  have q0 := P12g.cell 0 (v := .int .i64 (lf : Int)) rfl
  have q1 := P12g.cell 1 (v := .slice a3 n3 c3) rfl
  have q2 := P12g.cell 2 (v := .slice a4 n4 c4) rfl
  clear hb12 r11 x11 HT11 P8f P12f CC1 p0 p1 p2
  go_wp2_with fail
  refine (unhide CC2 w12 _ (unhide x12)).mono ?_
  rintro e w13 ⟨rfl, hb13⟩
  have HT13 := HT12.trans (hb13.mono HT12.size)
  have r13 := hide ((unhide r12).below hb13)
  have x13 := hide ((unhide x12).below hb13)
  have P8h := P8g.step hb13
  have P12h := P12g.step hb13
  clear hb13 r12 x12 HT12 P8g P12g CC2 q0 q1 q2
  have q0 := P12h.cell 0 (v := .int .i64 (lf : Int)) rfl
  have q1 := P12h.cell 1 (v := .slice a3 n3 c3) rfl
  have p1 := P8h.cell 1 (v := .slice a1 n1 c1) rfl
  obtain ⟨f1, f2, ef, rf1, rf2, -⟩ := unhide r13
  obtain ⟨g1, g2, eg, rg1, rg2, -⟩ := unhide x13
  have ef' : (Value.slice a1 n1 c1 = f1) ∧ (Value.slice a2 n2 c2 = f2) := by unfold sgv at ef; injection ef with ef; simp at ef; exact ef.2
  have eg' : (Value.slice a3 n3 c3 = g1) ∧ (Value.slice a4 n4 c4 = g2) := by unfold sgv at eg; injection eg with eg; simp at eg; exact eg.2
  obtain ⟨rfl, rfl⟩ := ef'
  obtain ⟨rfl, rfl⟩ := eg'
  have HX1 := hide (unhide CX1 w13 _ _ rg1 rf1)
  have HX2 := hide (fun (W : World) (h : Below w13.heap.size w13 W) => unhide CX2 W _ _ (rg2.below h) (rf2.below h))
  clear ef eg rf1 rf2 rg1 rg2 r13 x13 CX1 CX2
  go_wp2_with fail
  refine (unhide HX1).mono ?_
  rintro e w14 ⟨rfl, hb14⟩
  have HT14 := HT13.trans (hb14.mono HT13.size)
  have q2 := (P12h.step hb14).cell 2 (v := .slice a4 n4 c4) rfl
  have p2 := (P8h.step hb14).cell 2 (v := .slice a2 n2 c2) rfl
  replace HX2 := hide (unhide HX2 w14 hb14)
  clear hb14 HT13 HX1 q0 q1 p1 P8h P12h
  go_wp2_with fail
  refine (unhide HX2).mono ?_
  rintro e w15 ⟨rfl, hb15⟩
  have HT15 := HT14.trans (hb15.mono HT14.size)
  clear hb15 HT14 HX2 q2 p2
  go_wp2
  go_ret
  exact ⟨rfl, HT15⟩
end Go.Proofs.YtjgnjjphankhnaaGreat

