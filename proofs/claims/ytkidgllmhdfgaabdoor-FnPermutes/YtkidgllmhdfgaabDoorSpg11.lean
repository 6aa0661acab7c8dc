/- Streams begun, and ShakeOf, by impl, over the loaded program. -/
import Derived.Test.YtkidgllmhdfgaabDoorSpg10
import Derived.Test.YtkidgllmhdfgaabDoorStm
import Derived.Test.YtkidgllmhdfgaabDoorEqa
namespace Go.Proofs.YtkidgllmhdfgaabDoor
open Go.RowKit
def shakeL (s : ByteArray) (n : Nat) : List UInt8 := (gvEnd n ⟨absorbL s 168 31, 0, []⟩).out
theorem shakeSize_any (n : Int) (w : World) :
    Calls Tryd.prog 24 #[.int .i64 n] w fun e w' => e = .returned (.bool (decide (0 ≤ n) && decide (n ≤ 4000))) ∧ w' = w := by
  obtain ⟨r, hr⟩ : ∃ r, r = (decide (0 ≤ n) && decide (n ≤ 4000)) := ⟨_, rfl⟩
  rw [← hr]
  replace hr := hide hr
  by_cases h1 : 0 ≤ n
  · by_cases h2 : n ≤ 4000
    · go_enter Tryd.func24, Tryd.ntmps24
      go_wp2
      go_ret
      exact ⟨by rw [unhide hr, decide_eq_true (show 0 ≤ n by omega), decide_eq_true (show n ≤ 4000 by omega)]; rfl, rfl⟩
    · go_enter Tryd.func24, Tryd.ntmps24
      go_wp2
      go_ret
      exact ⟨by rw [unhide hr, decide_eq_true (show 0 ≤ n by omega), decide_eq_false (show ¬ n ≤ 4000 by omega)]; rfl, rfl⟩
  · go_enter Tryd.func24, Tryd.ntmps24
    go_wp2
    go_ret
    exact ⟨by rw [unhide hr, decide_eq_false (show ¬ 0 ≤ n by omega)]; rfl, rfl⟩
set_option maxRecDepth 20000 in
set_option maxHeartbeats 400000 in
theorem implShake_yes (s : ByteArray) (hs : s.size ≤ 10000000) (n : Nat) (hn : n ≤ 4000) (w : World) (hL : Laid w) :
    Calls Tryd.prog 9 #[.string s, .int .i64 (n : Int)] w fun e w' => e = .returned (.tuple #[.string ⟨(shakeL s n).toArray⟩, .bool true]) ∧ Below w.heap.size w w' := by
  have C0 := hide (fun W => shakeSize_any (n : Int) W)
  rw [show (decide (0 ≤ (n : Int)) && decide ((n : Int) ≤ 4000)) = true by simp; omega] at C0
  have C1 := hide (fun W hL => lanesOf_any s hs 168 31 (by decide) (by decide) (by decide) W hL)
  have hok := absorbL_ok s 168 31
  have hi := hide (info25 hok.1)
  have hzl := hide (show zeros25.length = (absorbL s 168 31).length by rw [hok.1]; rfl)
  have C2 : Hid (∀ g W, 0 ≠ g → Laid W → LnAt W g 45 (absorbL s 168 31) → Calls Tryd.prog 26 #[.pointer (some ⟨g, 0, none⟩), .int .i64 0, .int .i64 (n : Int)] W fun e w' => e = .returned (.tuple #[.string ⟨(gvEnd n ⟨absorbL s 168 31, 0, []⟩).out.toArray⟩, .int .i64 ((gvEnd n ⟨absorbL s 168 31, 0, []⟩).p : Int)]) ∧ LnAt w' g 45 (gvEnd n ⟨absorbL s 168 31, 0, []⟩).a ∧ W.grownBy w' (some g)) := hide (fun g W hne hL hW => give_any (absorbL s 168 31) hok 0 n (by decide) hn g W hne hL hW)
  have HL := hide hL
  have hlt := hL.lt
  clear hL hok
  unfold shakeL
  generalize gvEnd n ⟨absorbL s 168 31, 0, []⟩ = ge at *
  obtain ⟨ga, gp, go⟩ := ge
  dsimp only at *
  generalize absorbL s 168 31 = l at *
  go_enter Tryd.func9, Tryd.ntmps9
  go_wp2_with fail
  refine ((unhide C0) w).mono ?_
  rintro e w0 ⟨rfl, rfl⟩
  go_wp2_with fail
  refine ((unhide C1) w0 (unhide HL)).mono ?_
  rintro e w1 ⟨rfl, hb1⟩
  have hL1 := hide ((unhide HL).below hb1)
  have hs1 := hb1.size
  have HZ := hide (one_z25 w1 45)
  replace hb1 := hide hb1
  go_wp2_with (refine wpList_store_lan_as rfl 45 (.tmp 6) (.tmp 13) rfl w1.heap.size l zeros25 rfl rfl 45 (unhide HZ).1 (unhide hi) (unhide hzl) ?_; intro w2 hA2 _ hB2; have hb2 := (unhide HZ).2.trans hB2; clear hB2 HZ)
  have hL2 := (unhide hL1).below hb2
  refine ((unhide C2) _ w2 (by omega) hL2 hA2).mono ?_
  rintro e w3 ⟨rfl, hA3, hg3⟩
  have hs2 := hb2.size
  have HT3 := hide ((unhide hb1).trans ((bel_grown hb2 hg3 hs2 (Nat.le_refl _)).mono hs1))
  clear hA2 hg3 hA3 hb1 hb2 hL1 hL2
  go_wp2
  go_ret2
  exact ⟨rfl, unhide HT3⟩
set_option maxRecDepth 20000 in
theorem implShake_no (s : ByteArray) (n : Int) (hn : ¬ (0 ≤ n ∧ n ≤ 4000)) (w : World) :
    Calls Tryd.prog 9 #[.string s, .int .i64 n] w fun e w' => e = .returned (.tuple #[.string ⟨#[]⟩, .bool false]) ∧ Below w.heap.size w w' := by
  have C0 := hide (fun W => shakeSize_any n W)
  rw [show (decide (0 ≤ n) && decide (n ≤ 4000)) = false by simp; omega] at C0
  go_enter Tryd.func9, Tryd.ntmps9
  go_wp2_with fail
  refine ((unhide C0) w).mono ?_
  rintro e w0 ⟨rfl, rfl⟩
  go_wp2
  go_ret2
  exact ⟨rfl, Below.refl _ _⟩
def newS (s : ByteArray) : Sm := ⟨textN (absorbL s 168 31), 0⟩
def s0 : Sm := ⟨⟨#[]⟩, 0⟩
set_option maxRecDepth 20000 in
set_option maxHeartbeats 400000 in
theorem implStreamNew_any (s : ByteArray) (hs : s.size ≤ 10000000) (w : World) (hL : Laid w) :
    Calls Tryd.prog 10 #[.string s] w fun e w' => e = .returned (smv (newS s)) ∧ Below w.heap.size w w' := by
  have C1 := hide (fun W hL => lanesOf_any s hs 168 31 (by decide) (by decide) (by decide) W hL)
  have hok := absorbL_ok s 168 31
  have hi := hide (info25 hok.1)
  have hzl := hide (show zeros25.length = (absorbL s 168 31).length by rw [hok.1]; rfl)
  have C2 := hide (fun g W hW => lanesBytes_any (absorbL s 168 31) hok g W hW)
  have HL := hide hL
  clear hL hok
  unfold newS
  generalize textN (absorbL s 168 31) = out at *
  generalize absorbL s 168 31 = l at *
  go_enter Tryd.func10, Tryd.ntmps10
  go_wp2_with fail
  obtain ⟨W, hW, hB, hb, hlt⟩ := one_sm w s0 30
  unfold s0 at hW
  dsimp only at hW
  rw [hW]
  clear hW
  refine ((unhide C1) W ((unhide HL).below hb)).mono ?_
  rintro e w1 ⟨rfl, hb1⟩
  have hB1 := hB.step hb1
  have HT1 := hide (hb.trans (hb1.mono (Nat.le_of_lt hlt)))
  have hl1 := hB1.lt
  have HZ := hide (one_z25 w1 45)
  replace hB1 := hide hB1
  clear hB hb hb1
  go_wp2_with (first
    | (refine wpList_store_lan_as rfl 45 (.tmp 3) (.tmp 5) rfl w1.heap.size l zeros25 rfl rfl 45 (unhide HZ).1 (unhide hi) (unhide hzl) ?_; intro w2 hA2 _ hB2; have hb2 := (unhide HZ).2.trans hB2; clear hB2 HZ)
    | (go_at_call 27; refine ((unhide C2) w1.heap.size w2 hA2).mono ?_; rintro e w3 ⟨rfl, hb3⟩; have hb13 := hb2.trans (hb3.mono hb2.size); have hB3 := (unhide hB1).below hb13 hl1; have k0 := hB3.c0; have k1 := hB3.c1; have f0 := hB3.frozen 0; have f1 := hB3.frozen 1; have hl3 := hB3.lt; have HT3 := hide ((unhide HT1).trans (hb13.mono (Nat.le_of_lt hl1))); clear hb2 hb3 hb13 hA2))
  refine bodyPost_ret (v := smv ⟨out, 0⟩) (results_sm Tryd.results10 _ _ w.heap.size 30 _ _ rfl (hB3.set2 ⟨out, 0⟩) Tryd.underlying30 (by kernel_rfl)) rfl ⟨rfl, ?_⟩
  exact ((unhide HT3).setCell (p := ⟨w.heap.size, 0, none⟩) (Nat.le_refl _) _).setCell (p := ⟨w.heap.size, 1, none⟩) (Nat.le_refl _) _
set_option maxRecDepth 20000 in
set_option maxHeartbeats 400000 in
theorem streamOk_any (x : Sm) (h1 : x.st.size ≤ maxLen) (w : World) :
    Calls Tryd.prog 29 #[smv x] w fun e w' => e = .returned (.bool (okS x)) ∧ Below w.heap.size w w' := by
  unfold maxLen at h1
  obtain ⟨st, p⟩ := x
  obtain ⟨r, hr⟩ : ∃ r, r = okS ⟨st, p⟩ := ⟨_, rfl⟩
  rw [← hr]
  unfold okS at hr
  replace hr := hide hr
  unfold smv
  dsimp only at *
  by_cases c1 : (st.size : Int) = 200
  · by_cases c2 : 0 ≤ p
    · by_cases c3 : p ≤ 168
      · go_enter Tryd.func29, Tryd.ntmps29
        go_wp2
        go_ret
        exact ⟨by rw [unhide hr, decide_eq_true (show st.size = 200 by omega), decide_eq_true (show 0 ≤ p by omega), decide_eq_true (show p ≤ 168 by omega)]; rfl, (Below.refl _ _).alloc (Nat.le_refl _) _⟩
      · go_enter Tryd.func29, Tryd.ntmps29
        go_wp2
        go_ret
        exact ⟨by rw [unhide hr, decide_eq_true (show st.size = 200 by omega), decide_eq_true (show 0 ≤ p by omega), decide_eq_false (show ¬ p ≤ 168 by omega)]; rfl, (Below.refl _ _).alloc (Nat.le_refl _) _⟩
    · go_enter Tryd.func29, Tryd.ntmps29
      go_wp2
      go_ret
      exact ⟨by rw [unhide hr, decide_eq_true (show st.size = 200 by omega), decide_eq_false (show ¬ 0 ≤ p by omega)]; rfl, (Below.refl _ _).alloc (Nat.le_refl _) _⟩
  · go_enter Tryd.func29, Tryd.ntmps29
    go_wp2
    go_ret
    exact ⟨by rw [unhide hr, decide_eq_false (show ¬ st.size = 200 by omega)]; rfl, (Below.refl _ _).alloc (Nat.le_refl _) _⟩
end Go.Proofs.YtkidgllmhdfgaabDoor
