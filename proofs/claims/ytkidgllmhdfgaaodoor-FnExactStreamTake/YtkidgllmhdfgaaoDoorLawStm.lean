/- The laws of streams: StreamNew, StreamTake; the laws' helpers on streams; over the loaded program. -/
import Derived.Test.YtkidgllmhdfgaaoDoorLawSpg
namespace Go.Proofs.YtkidgllmhdfgaaoDoor
open Go.RowKit
set_option maxRecDepth 20000 in
theorem eqStream_same (a : Sm) (w : World) :
    Calls Tryd.prog 7 #[smv a, smv a] w fun e w' => e = .returned (.bool true) ∧ Below w.heap.size w w' := by
  obtain ⟨st, p⟩ := a
  unfold smv
  dsimp only
  go_enter Tryd.func7, Tryd.ntmps7
  go_wp2
  go_ret
  exact ⟨rfl, ((Below.refl _ _).alloc (Nat.le_refl _) _).alloc (by simp) _⟩
theorem stored_sm (w : World) (T : TypeId) (st : ByteArray) (p : Int) : ∃ W, ((w.alloc (.cells #[.string ⟨#[]⟩, .int .i64 0] T)).setCell ⟨w.heap.size, 0, none⟩ (.string st)).setCell ⟨w.heap.size, 1, none⟩ (.int .i64 p) = W ∧
    SB W w.heap.size T ⟨st, p⟩ ∧ Below w.heap.size w W ∧ w.heap.size < W.heap.size := by
  obtain ⟨W, hW, hB, hb, hlt⟩ := one_sm w ⟨⟨#[]⟩, 0⟩ T
  dsimp only at hW
  rw [hW]
  refine ⟨_, rfl, hB.set2 ⟨st, p⟩, ?_, by simpa using hlt⟩
  exact (hb.setCell (p := ⟨w.heap.size, 0, none⟩) (Nat.le_refl _) _).setCell (p := ⟨w.heap.size, 1, none⟩) (Nat.le_refl _) _
set_option maxRecDepth 20000 in
set_option maxHeartbeats 400000 in
theorem lawStreamNew_true (s : ByteArray) (w : World) (hL : Laid w) :
    Calls Tryd.prog 3 #[.string s] w fun e w' => e = .returned (.bool true) ∧ Below w.heap.size w w' := by
  by_cases hs : (1048576 : Int) < (s.size : Int)
  · go_enter Tryd.func3, Tryd.ntmps3
    go_wp2
    go_ret
    exact ⟨rfl, Below.refl _ _⟩
  · have C1 := hide (fun W => specStreamNew_any s (by omega) W)
    have C2 := hide (fun W hL => implStreamNew_any s (by omega) W hL)
    have C3 := hide (fun W => eqStream_same (newS s) W)
    generalize newS s = ns at *
    obtain ⟨st, p⟩ := ns
    unfold smv at C1 C2 C3
    dsimp only at C1 C2 C3
    have HL := hide hL
    clear hL
    go_enter Tryd.func3, Tryd.ntmps3
    go_wp2_with fail
    refine ((unhide C1) w).mono ?_
    rintro e w1 ⟨rfl, hb1⟩
    have hs1 := hb1.size
    obtain ⟨w2, e2, hS2, hb2, hl2⟩ := one_sm w1 ⟨st, p⟩ 23
    dsimp only at e2
    have hL2 := ((unhide HL).below hb1).below hb2
    have HB2 := hide (hb1.trans (hb2.mono hs1))
    replace hL2 := hide hL2
    replace hS2 := hide hS2
    clear hb1 hb2
    go_wp2_with fail
    first | rw [e2] | skip
    refine ((unhide C2) w2 (unhide hL2)).mono ?_
    rintro e w3 ⟨rfl, hb3⟩
    have hS3 := (unhide hS2).step hb3
    have hs2 := (unhide HB2).size
    have HB3 := hide ((unhide HB2).trans (hb3.mono hs2))
    have hs3 := hS3.lt
    obtain ⟨w4, e4, hS4, hb4, hl4⟩ := one_sm w3 ⟨st, p⟩ 23
    dsimp only at e4
    have hS34 := hS3.step hb4
    have a0 := hS34.c0
    have a1 := hS34.c1
    have b0 := hS4.c0
    have b1 := hS4.c1
    dsimp only at a0 a1 b0 b1
    have hs03 := (unhide HB3).size
    have HB4 := hide ((unhide HB3).trans (hb4.mono hs03))
    replace hS3 := hide hS3; replace hS4 := hide hS4; replace hS34 := hide hS34
    clear hb3 hb4
    go_wp2_with fail
    first | rw [e4] | skip
    refine ((unhide C3) w4).mono ?_
    rintro e w5 ⟨rfl, hb5⟩
    have hs04 := (unhide HB4).size
    have HB5 := hide ((unhide HB4).trans (hb5.mono hs04))
    clear hb5
    go_wp2
    go_ret
    exact ⟨rfl, unhide HB5⟩
set_option maxRecDepth 20000 in
theorem szStream_any (a : Sm) (h1 : a.st.size ≤ maxLen) (w : World) :
    Calls Tryd.prog 8 #[smv a, .int .i64 1048576] w fun e w' => (∃ r : Int, e = .returned (.int .i64 r) ∧ (r < 0 ∨ a.st.size ≤ 1048576)) ∧ Below w.heap.size w w' := by
  unfold maxLen at h1
  obtain ⟨st, p⟩ := a
  unfold smv
  dsimp only at *
  by_cases c1 : (1048576 : Int) - (st.size : Int) < 0
  · go_enter Tryd.func8, Tryd.ntmps8
    go_wp2
    go_ret
    exact ⟨⟨_, rfl, .inl (by decide)⟩, (Below.refl _ _).alloc (Nat.le_refl _) _⟩
  · go_enter Tryd.func8, Tryd.ntmps8
    go_wp2
    go_ret
    exact ⟨⟨_, rfl, .inr (by omega)⟩, (Below.refl _ _).alloc (Nat.le_refl _) _⟩
set_option maxRecDepth 20000 in
set_option maxHeartbeats 400000 in
theorem toStream_any (a : Sm) (w : World) :
    Calls Tryd.prog 10 #[smv a] w fun e w' => e = .returned (smv a) ∧ Below w.heap.size w w' := by
  obtain ⟨st, p⟩ := a
  unfold smv
  dsimp only
  go_enter Tryd.func10, Tryd.ntmps10
  go_wp2
  refine bodyPost_ret (v := .agg #[.string st, .int .i64 p]) (by simp [results, Tryd.results10, go_sem]) rfl ⟨rfl, ?_⟩
  exact (((Below.refl _ _).alloc (Nat.le_refl _) _).alloc (by simp) _).alloc (by simp; omega) _
theorem take_same (x : Sm) (hx : x.st.size ≤ 1048576) (n : Int) : ∃ (y : Sm) (t : ByteArray), Hid (∀ W, Calls Tryd.prog 9 #[smv x, .int .i64 n] W fun e w' => e = .returned (.tuple #[smv y, .string t]) ∧ Below W.heap.size W w') ∧ Hid (∀ W, Laid W → Calls Tryd.prog 11 #[smv x, .int .i64 n] W fun e w' => e = .returned (.tuple #[smv y, .string t]) ∧ Below W.heap.size W w') := by
  obtain ⟨st, p⟩ := x
  dsimp only at hx
  by_cases hn : 0 ≤ n ∧ n ≤ 4000
  · by_cases h2 : st.size = 200
    · by_cases hp : 0 ≤ p ∧ p ≤ 168
      · obtain ⟨m, rfl⟩ : ∃ m : Nat, n = (m : Int) := ⟨n.toNat, by omega⟩
        obtain ⟨q, rfl⟩ : ∃ q : Nat, p = (q : Int) := ⟨p.toNat, by omega⟩
        exact ⟨_, _, hide (fun W => specTake_yes st q m h2 (by omega) (by omega) W), hide (fun W hL => implTake_yes st q m h2 (by omega) (by omega) W hL)⟩
      · have hno : okS ⟨st, p⟩ = false := by
          unfold okS
          dsimp only
          rw [decide_eq_true h2]
          simp
          omega
        exact ⟨_, _, hide (fun W => specTake_no3 st p n W hn h2 hp), hide (fun W _ => implTake_no1 st p (by omega) n W hno)⟩
    · have hno : okS ⟨st, p⟩ = false := by
        unfold okS
        dsimp only
        rw [decide_eq_false h2]
        rfl
      exact ⟨_, _, hide (fun W => specTake_no2 st p n W hn h2), hide (fun W _ => implTake_no1 st p (by omega) n W hno)⟩
  · by_cases hok : okS ⟨st, p⟩ = true
    · exact ⟨_, _, hide (fun W => specTake_no1 st p n W hn), hide (fun W _ => implTake_no2 st p (by omega) n W hok hn)⟩
    · exact ⟨_, _, hide (fun W => specTake_no1 st p n W hn), hide (fun W _ => implTake_no1 st p (by omega) n W (by cases h : okS ⟨st, p⟩ with | true => exact absurd h hok | false => rfl))⟩
set_option maxRecDepth 20000 in
set_option maxHeartbeats 1000000 in
theorem lawStreamTake_true (x : Sm) (hx : x.st.size ≤ maxLen) (n : Int) (w : World) (hL : Laid w) :
    Calls Tryd.prog 4 #[smv x, .int .i64 n] w fun e w' => e = .returned (.bool true) ∧ Below w.heap.size w w' := by
  have C0 := hide (fun W => szStream_any x hx W)
  have CT := hide (fun W => toStream_any x W)
  have HS := hide (fun h => take_same x h n)
  have HL := hide hL
  clear hL hx
  obtain ⟨st, p⟩ := x
  unfold smv at C0 CT ⊢
  dsimp only at C0 CT HS ⊢
  go_enter Tryd.func4, Tryd.ntmps4
  go_wp2_with fail
  obtain ⟨W, hW, hB, hb, hlt⟩ := one_sm w ⟨st, p⟩ 27
  dsimp only at hW
  rw [hW]
  clear hW
  refine ((unhide C0) W).mono ?_
  rintro e w1 ⟨⟨r, rfl, hr⟩, hb1⟩
  have hB1 := hB.step hb1
  have hl1 := hB1.lt
  have HB1 := hide (hb.trans (hb1.mono (Nat.le_of_lt hlt)))
  have hL1 := hide (((unhide HL).below hb).below hb1)
  have k0 := hB1.c0
  have k1 := hB1.c1
  dsimp only at k0 k1
  replace hB1 := hide hB1
  clear hB hb hb1
  by_cases hneg : r < 0
  · clear hr
    go_wp2
    go_ret
    exact ⟨rfl, unhide HB1⟩
  · have hsz : st.size ≤ 1048576 := by rcases hr with h | h <;> omega
    obtain ⟨y, t, C1, C2⟩ := (unhide HS) hsz
    obtain ⟨yst, yp⟩ := y
    have C3 := hide (fun W => eqStream_same ⟨yst, yp⟩ W)
    unfold smv at C1 C2 C3
    dsimp only at C1 C2 C3
    clear hr
    go_wp2_with fail
    refine ((unhide CT) w1).mono ?_
    rintro e w2 ⟨rfl, hb2⟩
    have hB2 := (unhide hB1).step hb2
    have hL2 := hide ((unhide hL1).below hb2)
    have hs1 := (unhide HB1).size
    have HB2 := hide ((unhide HB1).trans (hb2.mono hs1))
    have hl2 := hB2.lt
    replace hB2 := hide hB2
    clear hb2 k0 k1 hB1 hL1
    go_wp2_with fail
    refine ((unhide C1) w2).mono ?_
    rintro e w3 ⟨rfl, hb3⟩
    have hB3 := (unhide hB2).step hb3
    have hs2 := (unhide HB2).size
    have HB3 := (unhide HB2).trans (hb3.mono hs2)
    have hL3 := (unhide hL2).below hb3
    have hl3 := hB3.lt
    obtain ⟨w4, e4, hS4, hb4, hl4⟩ := one_sm w3 ⟨yst, yp⟩ 23
    dsimp only at e4
    have hB4 := hB3.step hb4
    have k0 := hB4.c0
    have k1 := hB4.c1
    dsimp only at k0 k1
    have hL4 := hide (hL3.below hb4)
    have hs3 := HB3.size
    have HB4 := hide (HB3.trans (hb4.mono hs3))
    replace hS4 := hide hS4; replace hB4 := hide hB4; replace hB3 := hide hB3; replace hL3 := hide hL3; replace HB3 := hide HB3
    clear hb3 hb4 hB2 hL2
    go_wp2_with fail
    first | rw [e4] | skip
    refine ((unhide CT) w4).mono ?_
    rintro e w5 ⟨rfl, hb5⟩
    have hS5 := hide ((unhide hS4).step hb5)
    have hL5 := hide ((unhide hL4).below hb5)
    have hs4 := (unhide HB4).size
    have HB5 := hide ((unhide HB4).trans (hb5.mono hs4))
    clear hb5 k0 k1 hS4 hL4 hB4
    go_wp2_with fail
    refine ((unhide C2) w5 (unhide hL5)).mono ?_
    rintro e w6 ⟨rfl, hb6⟩
    have hS6 := (unhide hS5).step hb6
    have hs5 := (unhide HB5).size
    have HB6 := (unhide HB5).trans (hb6.mono hs5)
    have hl6 := hS6.lt
    obtain ⟨w7, e7, hS7, hb7, hl7⟩ := one_sm w6 ⟨yst, yp⟩ 23
    dsimp only at e7
    have hS67 := hS6.step hb7
    have a0 := hS67.c0
    have a1 := hS67.c1
    have b0 := hS7.c0
    have b1 := hS7.c1
    dsimp only at a0 a1 b0 b1
    have hs6 := HB6.size
    have HB7 := hide (HB6.trans (hb7.mono hs6))
    replace hS6 := hide hS6; replace hS7 := hide hS7; replace hS67 := hide hS67; replace HB6 := hide HB6
    clear hb6 hb7 hS5 hL5
    go_wp2_with fail
    first | rw [e7] | skip
    refine ((unhide C3) w7).mono ?_
    rintro e w8 ⟨rfl, hb8⟩
    have hs7 := (unhide HB7).size
    have HB8 := hide ((unhide HB7).trans (hb8.mono hs7))
    clear hb8
    go_wp2
    go_ret
    exact ⟨rfl, unhide HB8⟩
end Go.Proofs.YtkidgllmhdfgaaoDoor
