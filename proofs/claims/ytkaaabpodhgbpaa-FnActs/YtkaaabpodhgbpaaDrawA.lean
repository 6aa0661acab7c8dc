/- What spec.l03Act comes to: some act of short texts. -/
import Derived.Test.YtkaaabpodhgbpaaDrawPR
import Derived.Test.YtkaaabpodhgbpaaDrawN
import Derived.Test.YtkaaabpodhgbpaaActA
namespace Go.Proofs.Ytkaaabpodhgbpaa
open Go.RowKit

def Txts (w : World) (b k : Nat) : Prop := ∀ j, j < k → ∃ s : ByteArray, s.size ≤ 9 ∧ w.cell? ⟨b, j, none⟩ = some (.string s)
set_option maxHeartbeats 400000 in
theorem l01Pick_txt {w : World} {base g n c : Nat} {o : Option Addr} (h : Cur w base g o n c) (hn : n ≤ 1048576) (b k cap : Nat) (hk : 0 < k) (hk2 : k ≤ 1000) (hN : Txts w b k) (hbg : b ≠ g) :
    Calls Try.prog 42 #[.pointer (some ⟨g, 0, none⟩), .slice (some ⟨b, 0, none⟩) k cap] w fun e w' => ∃ s : ByteArray, s.size ≤ 9 ∧ e = .returned (.string s) ∧ Only g w w' ∧ Cur w' base g o n c := by
  have H := hide h
  have HN := hide hN
  clear h hN
  go_enter Try.func42, Try.ntmps42
  go_wp2_with fail
  go_at_call 22
  refine (l01Below_any (unhide H) hn k hk (by omega)).mono ?_
  rintro e w1 ⟨x, hx, rfl, ho, hc⟩
  replace hc := hide hc
  obtain ⟨z, hz1, hcell⟩ := (unhide HN) x hx
  have hcell1 : w1.cell? ⟨b, x, none⟩ = some (.string z) := (World.cell?_of_block (w := w) (ho.block b hbg)).trans hcell
  replace ho := hide ho
  have hx0 : (0 : Int) ≤ (x : Int) := by omega
  have hx1 : (x : Int) < (k : Int) := by omega
  go_wp2
  go_ret
  exact ⟨z, hz1, rfl, unhide ho, unhide hc⟩
theorem AcB.set0 {w : World} {g : Nat} {T : TypeId} {a : Ac} (h : AcB w g T a) (u : Int) : AcB (w.setCell ⟨g, 0, none⟩ (.int .i64 u)) g T { a with kd := u } := heap_setCell_same w g 0 _ T _ h
theorem AcB.set1 {w : World} {g : Nat} {T : TypeId} {a : Ac} (h : AcB w g T a) (u : ByteArray) : AcB (w.setCell ⟨g, 1, none⟩ (.string u)) g T { a with nm := u } := heap_setCell_same w g 1 _ T _ h
theorem AcB.set2 {w : World} {g : Nat} {T : TypeId} {a : Ac} (h : AcB w g T a) (u : ByteArray) : AcB (w.setCell ⟨g, 2, none⟩ (.string u)) g T { a with tx := u } := heap_setCell_same w g 2 _ T _ h
theorem AcB.set3 {w : World} {g : Nat} {T : TypeId} {a : Ac} (h : AcB w g T a) (u : ByteArray) : AcB (w.setCell ⟨g, 3, none⟩ (.string u)) g T { a with to := u } := heap_setCell_same w g 3 _ T _ h
theorem AcB.frozen {w : World} {g : Nat} {T : TypeId} {a : Ac} (h : AcB w g T a) (k : Nat) : w.frozen? ⟨g, k, none⟩ = false := frozen_of_row w g k _ T h

theorem nums2 (w : World) (T : TypeId) : Nums (w.alloc (.cells #[.int .i64 0, .int .i64 5] T)) w.heap.size 2 := by
  intro j hj
  rw [cell_of_row _ w.heap.size j _ T (0, 0) (heap_alloc_new w _)]
  match j, hj with
  | 0, _ => exact ⟨_, by decide, by decide, rfl⟩
  | 1, _ => exact ⟨_, by decide, by decide, rfl⟩
  | j + 2, hj => exact absurd hj (by omega)
theorem txts3 (w : World) (T : TypeId) : Txts (w.alloc (.cells #[.string ⟨#[]⟩, .string ⟨#[49, 50, 51, 52, 53, 54, 55, 56, 57]⟩, .string ⟨#[110, 101, 119]⟩] T)) w.heap.size 3 := by
  intro j hj
  rw [cell_of_row _ w.heap.size j _ T (0, 0) (heap_alloc_new w _)]
  match j, hj with
  | 0, _ => exact ⟨_, by decide, rfl⟩
  | 1, _ => exact ⟨_, by decide, rfl⟩
  | 2, _ => exact ⟨_, by decide, rfl⟩
  | j + 3, hj => exact absurd hj (by omega)

set_option maxRecDepth 20000 in
set_option maxHeartbeats 4000000 in
theorem l03Act_any {w : World} {base g n c : Nat} {o : Option Addr} (h : Cur w base g o n c) (hn : n ≤ 1048576) :
    Calls Try.prog 48 #[.pointer (some ⟨g, 0, none⟩)] w fun e w' => ∃ a : Ac, (a.nm.size ≤ 9 ∧ a.tx.size ≤ 9 ∧ a.to.size ≤ 9) ∧ e = .returned (acv a) ∧ w.grownBy w' (some g) ∧ Cur w' base g o n c := by
  have hg := h.lt
  have H := hide h
  clear h
  go_enter Try.func48, Try.ntmps48
  go_wp2_with fail
  refine (l01Below_any ((unhide H).below ((Below.refl w.heap.size w).alloc (Nat.le_refl _) _) hg) hn 4 (by decide) (by decide)).mono ?_
  rintro e w1 ⟨k, hk, rfl, ho1, hc1⟩
  have xR1 := hide (AcB.grown (w := w.alloc (.cells #[.int .i64 0, .string ⟨#[]⟩, .string ⟨#[]⟩, .string ⟨#[]⟩] 45)) (g := w.heap.size) (T := 45) (a := ⟨0, ⟨#[]⟩, ⟨#[]⟩, ⟨#[]⟩⟩) (heap_alloc_new w _) (gO ho1) (by simp; omega))
  have G1 := hide (gT (gB ((Below.refl w.heap.size w).alloc (Nat.le_refl _) (.cells #[.int .i64 0, .string ⟨#[]⟩, .string ⟨#[]⟩, .string ⟨#[]⟩] 45)) (some g)) (gO ho1))
  have s1 : w.heap.size < w1.heap.size := by rw [ho1.size]; simp
  replace hc1 := hide hc1
  replace ho1 := hide ho1
  go_wp2_with fail
  go_at_call 25
  refine (l03Named_any (unhide hc1) hn).mono ?_
  rintro e w2 ⟨nm, _, hnm, rfl, hg2, hc2⟩
  have xR2 := hide ((unhide xR1).grown hg2 (by simp; omega))
  have G2 := hide (gT (unhide G1) hg2)
  have s2 : w1.heap.size ≤ w2.heap.size := (hg2).size
  replace hc2 := hide hc2
  clear hc1
  replace hg2 := hide hg2
  rcases (by omega : k = 0 ∨ k = 1 ∨ k = 2 ∨ k = 3) with rfl | rfl | rfl | rfl
  · obtain ⟨w3, e3, xA3, hb3, z3⟩ : ∃ W, w2.alloc (.cells #[.int .i64 1, .string nm, .string ⟨#[]⟩, .string ⟨#[]⟩] 45) = W ∧ AcB W w2.heap.size 45 ⟨1, nm, ⟨#[]⟩, ⟨#[]⟩⟩ ∧ Below w2.heap.size w2 W ∧ w2.heap.size < W.heap.size := ⟨_, rfl, heap_alloc_new w2 _, (Below.refl _ w2).alloc (Nat.le_refl _) _, by simp⟩
    have xR3 := hide ((unhide xR2).step hb3)
    have G3 := hide (gTB (unhide G2) (hb3.mono (by omega)))
    have hc3 := hide ((unhide hc2).below hb3 (by omega))
    replace xA3 := hide xA3
    replace hb3 := hide hb3
    replace e3 := hide e3
    obtain ⟨u0, u1, u2, u3⟩ := (unhide xA3).at
    have uz := (unhide xA3).frozen
    have lU := (unhide xA3).lt
    go_wp2_with fail
    rw [unhide e3]
    go_at_call 22
    refine (l01Below_any (unhide hc3) hn 6 (by decide) (by decide)).mono ?_
    rintro e w4 ⟨x4, hx4, rfl, ho4, hc4⟩
    have xR4 := hide ((unhide xR3).grown (gO ho4) (by simp; omega))
    have xA4 := hide ((unhide xA3).grown (gO ho4) (by simp; omega))
    have G4 := hide (gT (unhide G3) (gO ho4))
    have s4 : w3.heap.size ≤ w4.heap.size := ((gO ho4)).size
    replace hc4 := hide hc4
    clear hc3
    replace ho4 := hide ho4
    clear u0 u1 u2 u3 uz lU
    go_wp2_with fail
    go_at_call 23
    refine (l01Text_g (unhide hc4) hn x4 (by omega)).mono ?_
    rintro e w5 ⟨l, hl, rfl, hg5, hc5⟩
    have xR5 := hide ((unhide xR4).grown hg5 (by simp; omega))
    have xA5 := hide ((unhide xA4).grown hg5 (by simp; omega))
    have G5 := hide (gT (unhide G4) hg5)
    have s5 : w4.heap.size ≤ w5.heap.size := (hg5).size
    replace hc5 := hide hc5
    clear hc4
    replace hg5 := hide hg5
    obtain ⟨t, ht, hts⟩ : ∃ t : ByteArray, ByteArray.mk l.toArray = t ∧ t.size ≤ 9 := ⟨_, rfl, by show l.toArray.size ≤ 9; rw [List.size_toArray]; omega⟩
    rw [ht]
    clear ht
    obtain ⟨p0, p1, p2, p3⟩ := (unhide xA5).at
    have pz := (unhide xA5).frozen
    have lP := (unhide xA5).lt
    have xA6 := hide ((unhide xA5).set2 t)
    have xR6 := hide ((unhide xR5).grown (gS w5 w2.heap.size 2 (.string t)) (by simp; omega))
    have G6 := hide (gTB (unhide G5) ((Below.refl w.heap.size w5).setCell (p := ⟨w2.heap.size, 2, none⟩) (by show w.heap.size ≤ w2.heap.size; omega) (.string t)))
    have hc6 := hide ((unhide hc5).below (B := w.heap.size) ((Below.refl w.heap.size w5).setCell (p := ⟨w2.heap.size, 2, none⟩) (by show w.heap.size ≤ w2.heap.size; omega) (.string t)) hg)
    generalize hW6 : w5.setCell ⟨w2.heap.size, 2, none⟩ (.string t) = w6 at xA6 xR6 G6 hc6
    have s6 : w2.heap.size < w6.heap.size := (unhide xA6).lt
    obtain ⟨q0, q1, q2, q3⟩ := (unhide xA6).at
    have lA := (unhide xA6).lt
    go_wp2_with fail
    clear q0 q1 q2 q3 lA
    go_at_call 22
    refine (l01Below_any (unhide hc6) hn 40 (by decide) (by decide)).mono ?_
    rintro e w7 ⟨y, hy, rfl, ho7, hc7⟩
    have xR7 := hide ((unhide xR6).grown (gO ho7) (by simp; omega))
    have xA7 := hide ((unhide xA6).grown (gO ho7) (by simp; omega))
    have G7 := hide (gT (unhide G6) (gO ho7))
    have s7 : w6.heap.size ≤ w7.heap.size := ((gO ho7)).size
    replace hc7 := hide hc7
    clear hc6
    replace ho7 := hide ho7
    rcases (by omega : y = 0 ∨ y = 1 ∨ y = 2 ∨ y = 3 ∨ 4 ≤ y) with rfl | rfl | rfl | rfl | hy4
    · go_wp2_with fail
      go_at_call 45
      refine (l01PickInt_any ((unhide hc7).below ((Below.refl w7.heap.size w7).alloc (Nat.le_refl _) _) (by omega)) hn w7.heap.size 2 2 (by decide) (by decide) (nums2 w7 _) (by omega)).mono ?_
      rintro e w8 ⟨z, _, _, rfl, ho8, hc8⟩
      have xR8 := hide ((unhide xR7).grown (gT (gB ((Below.refl w7.heap.size w7).alloc (Nat.le_refl _) _) (some g)) (gO ho8)) (by simp; omega))
      have xA8 := hide ((unhide xA7).grown (gT (gB ((Below.refl w7.heap.size w7).alloc (Nat.le_refl _) _) (some g)) (gO ho8)) (by simp; omega))
      have G8 := hide (gT (unhide G7) (gT (gB ((Below.refl w7.heap.size w7).alloc (Nat.le_refl _) _) (some g)) (gO ho8)))
      have s8 : w7.heap.size ≤ w8.heap.size := ((gT (gB ((Below.refl w7.heap.size w7).alloc (Nat.le_refl _) _) (some g)) (gO ho8))).size
      replace hc8 := hide hc8
      clear hc7
      replace ho8 := hide ho8
      obtain ⟨p0, p1, p2, p3⟩ := (unhide xA8).at
      have pz := (unhide xA8).frozen
      have lP := (unhide xA8).lt
      have xA9 := hide ((unhide xA8).set0 z)
      have xR9 := hide ((unhide xR8).grown (gS w8 w2.heap.size 0 (.int .i64 z)) (by simp; omega))
      have G9 := hide (gTB (unhide G8) ((Below.refl w.heap.size w8).setCell (p := ⟨w2.heap.size, 0, none⟩) (by show w.heap.size ≤ w2.heap.size; omega) (.int .i64 z)))
      have hc9 := hide ((unhide hc8).below (B := w.heap.size) ((Below.refl w.heap.size w8).setCell (p := ⟨w2.heap.size, 0, none⟩) (by show w.heap.size ≤ w2.heap.size; omega) (.int .i64 z)) hg)
      generalize hW9 : w8.setCell ⟨w2.heap.size, 0, none⟩ (.int .i64 z) = w9 at xA9 xR9 G9 hc9
      have s9 : w.heap.size < w9.heap.size := by have := (unhide xA9).lt; omega
      obtain ⟨q0, q1, q2, q3⟩ := (unhide xA9).at
      have lA := (unhide xA9).lt
      obtain ⟨r0, r1, r2, r3⟩ := (unhide xR9).at
      have rz := (unhide xR9).frozen
      have lR := (unhide xR9).lt
      have xF := ((((unhide xR9).set0 z).set1 nm).set2 t).set3 ⟨#[]⟩
      obtain ⟨f0, f1, f2, f3⟩ := xF.at
      have GF := hide (gTB (unhide G9) (((((Below.refl w.heap.size w9).setCell (p := ⟨w.heap.size, 0, none⟩) (Nat.le_refl _) (.int .i64 z)).setCell (p := ⟨w.heap.size, 1, none⟩) (Nat.le_refl _) (.string nm)).setCell (p := ⟨w.heap.size, 2, none⟩) (Nat.le_refl _) (.string t)).setCell (p := ⟨w.heap.size, 3, none⟩) (Nat.le_refl _) (.string ⟨#[]⟩)))
      have CF := hide ((unhide hc9).below (B := w.heap.size) (((((Below.refl w.heap.size w9).setCell (p := ⟨w.heap.size, 0, none⟩) (Nat.le_refl _) (.int .i64 z)).setCell (p := ⟨w.heap.size, 1, none⟩) (Nat.le_refl _) (.string nm)).setCell (p := ⟨w.heap.size, 2, none⟩) (Nat.le_refl _) (.string t)).setCell (p := ⟨w.heap.size, 3, none⟩) (Nat.le_refl _) (.string ⟨#[]⟩)) hg)
      replace xF := hide xF
      go_wp2
      refine bodyPost_ret (v := acv ⟨z, nm, t, ⟨#[]⟩⟩) (by simp [results, Try.results48, go_sem, acv, f0, f1, f2, f3]) rfl ?_
      exact ⟨⟨z, nm, t, ⟨#[]⟩⟩, ⟨(by show nm.size ≤ 9; omega), (by show t.size ≤ 9; omega), (by show ByteArray.size ⟨#[]⟩ ≤ 9; decide)⟩, rfl, unhide GF, unhide CF⟩
    · go_wp2_with fail
      go_at_call 42
      refine (l01Pick_txt ((unhide hc7).below ((Below.refl w7.heap.size w7).alloc (Nat.le_refl _) _) (by omega)) hn w7.heap.size 3 3 (by decide) (by decide) (txts3 w7 _) (by omega)).mono ?_
      rintro e w8 ⟨z, hz9, rfl, ho8, hc8⟩
      have xR8 := hide ((unhide xR7).grown (gT (gB ((Below.refl w7.heap.size w7).alloc (Nat.le_refl _) _) (some g)) (gO ho8)) (by simp; omega))
      have xA8 := hide ((unhide xA7).grown (gT (gB ((Below.refl w7.heap.size w7).alloc (Nat.le_refl _) _) (some g)) (gO ho8)) (by simp; omega))
      have G8 := hide (gT (unhide G7) (gT (gB ((Below.refl w7.heap.size w7).alloc (Nat.le_refl _) _) (some g)) (gO ho8)))
      have s8 : w7.heap.size ≤ w8.heap.size := ((gT (gB ((Below.refl w7.heap.size w7).alloc (Nat.le_refl _) _) (some g)) (gO ho8))).size
      replace hc8 := hide hc8
      clear hc7
      replace ho8 := hide ho8
      obtain ⟨p0, p1, p2, p3⟩ := (unhide xA8).at
      have pz := (unhide xA8).frozen
      have lP := (unhide xA8).lt
      have xA9 := hide ((unhide xA8).set1 z)
      have xR9 := hide ((unhide xR8).grown (gS w8 w2.heap.size 1 (.string z)) (by simp; omega))
      have G9 := hide (gTB (unhide G8) ((Below.refl w.heap.size w8).setCell (p := ⟨w2.heap.size, 1, none⟩) (by show w.heap.size ≤ w2.heap.size; omega) (.string z)))
      have hc9 := hide ((unhide hc8).below (B := w.heap.size) ((Below.refl w.heap.size w8).setCell (p := ⟨w2.heap.size, 1, none⟩) (by show w.heap.size ≤ w2.heap.size; omega) (.string z)) hg)
      generalize hW9 : w8.setCell ⟨w2.heap.size, 1, none⟩ (.string z) = w9 at xA9 xR9 G9 hc9
      have s9 : w.heap.size < w9.heap.size := by have := (unhide xA9).lt; omega
      obtain ⟨q0, q1, q2, q3⟩ := (unhide xA9).at
      have lA := (unhide xA9).lt
      obtain ⟨r0, r1, r2, r3⟩ := (unhide xR9).at
      have rz := (unhide xR9).frozen
      have lR := (unhide xR9).lt
      have xF := ((((unhide xR9).set0 1).set1 z).set2 t).set3 ⟨#[]⟩
      obtain ⟨f0, f1, f2, f3⟩ := xF.at
      have GF := hide (gTB (unhide G9) (((((Below.refl w.heap.size w9).setCell (p := ⟨w.heap.size, 0, none⟩) (Nat.le_refl _) (.int .i64 1)).setCell (p := ⟨w.heap.size, 1, none⟩) (Nat.le_refl _) (.string z)).setCell (p := ⟨w.heap.size, 2, none⟩) (Nat.le_refl _) (.string t)).setCell (p := ⟨w.heap.size, 3, none⟩) (Nat.le_refl _) (.string ⟨#[]⟩)))
      have CF := hide ((unhide hc9).below (B := w.heap.size) (((((Below.refl w.heap.size w9).setCell (p := ⟨w.heap.size, 0, none⟩) (Nat.le_refl _) (.int .i64 1)).setCell (p := ⟨w.heap.size, 1, none⟩) (Nat.le_refl _) (.string z)).setCell (p := ⟨w.heap.size, 2, none⟩) (Nat.le_refl _) (.string t)).setCell (p := ⟨w.heap.size, 3, none⟩) (Nat.le_refl _) (.string ⟨#[]⟩)) hg)
      replace xF := hide xF
      go_wp2
      refine bodyPost_ret (v := acv ⟨1, z, t, ⟨#[]⟩⟩) (by simp [results, Try.results48, go_sem, acv, f0, f1, f2, f3]) rfl ?_
      exact ⟨⟨1, z, t, ⟨#[]⟩⟩, ⟨(by show z.size ≤ 9; omega), (by show t.size ≤ 9; omega), (by show ByteArray.size ⟨#[]⟩ ≤ 9; decide)⟩, rfl, unhide GF, unhide CF⟩
    · skip
      obtain ⟨p0, p1, p2, p3⟩ := (unhide xA7).at
      have pz := (unhide xA7).frozen
      have lP := (unhide xA7).lt
      have xA9 := hide ((unhide xA7).set3 ⟨#[120]⟩)
      have xR9 := hide ((unhide xR7).grown (gS w7 w2.heap.size 3 (.string ⟨#[120]⟩)) (by simp; omega))
      have G9 := hide (gTB (unhide G7) ((Below.refl w.heap.size w7).setCell (p := ⟨w2.heap.size, 3, none⟩) (by show w.heap.size ≤ w2.heap.size; omega) (.string ⟨#[120]⟩)))
      have hc9 := hide ((unhide hc7).below (B := w.heap.size) ((Below.refl w.heap.size w7).setCell (p := ⟨w2.heap.size, 3, none⟩) (by show w.heap.size ≤ w2.heap.size; omega) (.string ⟨#[120]⟩)) hg)
      generalize hW9 : w7.setCell ⟨w2.heap.size, 3, none⟩ (.string ⟨#[120]⟩) = w9 at xA9 xR9 G9 hc9
      have s9 : w.heap.size < w9.heap.size := by have := (unhide xA9).lt; omega
      obtain ⟨q0, q1, q2, q3⟩ := (unhide xA9).at
      have lA := (unhide xA9).lt
      obtain ⟨r0, r1, r2, r3⟩ := (unhide xR9).at
      have rz := (unhide xR9).frozen
      have lR := (unhide xR9).lt
      have xF := ((((unhide xR9).set0 1).set1 nm).set2 t).set3 ⟨#[120]⟩
      obtain ⟨f0, f1, f2, f3⟩ := xF.at
      have GF := hide (gTB (unhide G9) (((((Below.refl w.heap.size w9).setCell (p := ⟨w.heap.size, 0, none⟩) (Nat.le_refl _) (.int .i64 1)).setCell (p := ⟨w.heap.size, 1, none⟩) (Nat.le_refl _) (.string nm)).setCell (p := ⟨w.heap.size, 2, none⟩) (Nat.le_refl _) (.string t)).setCell (p := ⟨w.heap.size, 3, none⟩) (Nat.le_refl _) (.string ⟨#[120]⟩)))
      have CF := hide ((unhide hc9).below (B := w.heap.size) (((((Below.refl w.heap.size w9).setCell (p := ⟨w.heap.size, 0, none⟩) (Nat.le_refl _) (.int .i64 1)).setCell (p := ⟨w.heap.size, 1, none⟩) (Nat.le_refl _) (.string nm)).setCell (p := ⟨w.heap.size, 2, none⟩) (Nat.le_refl _) (.string t)).setCell (p := ⟨w.heap.size, 3, none⟩) (Nat.le_refl _) (.string ⟨#[120]⟩)) hg)
      replace xF := hide xF
      go_wp2
      refine bodyPost_ret (v := acv ⟨1, nm, t, ⟨#[120]⟩⟩) (by simp [results, Try.results48, go_sem, acv, f0, f1, f2, f3]) rfl ?_
      exact ⟨⟨1, nm, t, ⟨#[120]⟩⟩, ⟨(by show nm.size ≤ 9; omega), (by show t.size ≤ 9; omega), (by show ByteArray.size ⟨#[120]⟩ ≤ 9; decide)⟩, rfl, unhide GF, unhide CF⟩
    · skip
      obtain ⟨p0, p1, p2, p3⟩ := (unhide xA7).at
      have pz := (unhide xA7).frozen
      have lP := (unhide xA7).lt
      have xA9 := hide ((unhide xA7).set2 ⟨#[120]⟩)
      have xR9 := hide ((unhide xR7).grown (gS w7 w2.heap.size 2 (.string ⟨#[120]⟩)) (by simp; omega))
      have G9 := hide (gTB (unhide G7) ((Below.refl w.heap.size w7).setCell (p := ⟨w2.heap.size, 2, none⟩) (by show w.heap.size ≤ w2.heap.size; omega) (.string ⟨#[120]⟩)))
      have hc9 := hide ((unhide hc7).below (B := w.heap.size) ((Below.refl w.heap.size w7).setCell (p := ⟨w2.heap.size, 2, none⟩) (by show w.heap.size ≤ w2.heap.size; omega) (.string ⟨#[120]⟩)) hg)
      generalize hW9 : w7.setCell ⟨w2.heap.size, 2, none⟩ (.string ⟨#[120]⟩) = w9 at xA9 xR9 G9 hc9
      have s9 : w.heap.size < w9.heap.size := by have := (unhide xA9).lt; omega
      obtain ⟨q0, q1, q2, q3⟩ := (unhide xA9).at
      have lA := (unhide xA9).lt
      obtain ⟨r0, r1, r2, r3⟩ := (unhide xR9).at
      have rz := (unhide xR9).frozen
      have lR := (unhide xR9).lt
      have xF := ((((unhide xR9).set0 1).set1 nm).set2 ⟨#[120]⟩).set3 ⟨#[]⟩
      obtain ⟨f0, f1, f2, f3⟩ := xF.at
      have GF := hide (gTB (unhide G9) (((((Below.refl w.heap.size w9).setCell (p := ⟨w.heap.size, 0, none⟩) (Nat.le_refl _) (.int .i64 1)).setCell (p := ⟨w.heap.size, 1, none⟩) (Nat.le_refl _) (.string nm)).setCell (p := ⟨w.heap.size, 2, none⟩) (Nat.le_refl _) (.string ⟨#[120]⟩)).setCell (p := ⟨w.heap.size, 3, none⟩) (Nat.le_refl _) (.string ⟨#[]⟩)))
      have CF := hide ((unhide hc9).below (B := w.heap.size) (((((Below.refl w.heap.size w9).setCell (p := ⟨w.heap.size, 0, none⟩) (Nat.le_refl _) (.int .i64 1)).setCell (p := ⟨w.heap.size, 1, none⟩) (Nat.le_refl _) (.string nm)).setCell (p := ⟨w.heap.size, 2, none⟩) (Nat.le_refl _) (.string ⟨#[120]⟩)).setCell (p := ⟨w.heap.size, 3, none⟩) (Nat.le_refl _) (.string ⟨#[]⟩)) hg)
      replace xF := hide xF
      go_wp2
      refine bodyPost_ret (v := acv ⟨1, nm, ⟨#[120]⟩, ⟨#[]⟩⟩) (by simp [results, Try.results48, go_sem, acv, f0, f1, f2, f3]) rfl ?_
      exact ⟨⟨1, nm, ⟨#[120]⟩, ⟨#[]⟩⟩, ⟨(by show nm.size ≤ 9; omega), (by show ByteArray.size ⟨#[120]⟩ ≤ 9; decide), (by show ByteArray.size ⟨#[]⟩ ≤ 9; decide)⟩, rfl, unhide GF, unhide CF⟩
    · have n0 : ((y : Int) == 0) = false := by rw [beq_eq_false_iff_ne]; omega
      have n1 : ((y : Int) == 1) = false := by rw [beq_eq_false_iff_ne]; omega
      have n2 : ((y : Int) == 2) = false := by rw [beq_eq_false_iff_ne]; omega
      have n3 : ((y : Int) == 3) = false := by rw [beq_eq_false_iff_ne]; omega
      obtain ⟨q0, q1, q2, q3⟩ := (unhide xA7).at
      have lA := (unhide xA7).lt
      obtain ⟨r0, r1, r2, r3⟩ := (unhide xR7).at
      have rz := (unhide xR7).frozen
      have lR := (unhide xR7).lt
      have xF := ((((unhide xR7).set0 1).set1 nm).set2 t).set3 ⟨#[]⟩
      obtain ⟨f0, f1, f2, f3⟩ := xF.at
      have GF := hide (gTB (unhide G7) (((((Below.refl w.heap.size w7).setCell (p := ⟨w.heap.size, 0, none⟩) (Nat.le_refl _) (.int .i64 1)).setCell (p := ⟨w.heap.size, 1, none⟩) (Nat.le_refl _) (.string nm)).setCell (p := ⟨w.heap.size, 2, none⟩) (Nat.le_refl _) (.string t)).setCell (p := ⟨w.heap.size, 3, none⟩) (Nat.le_refl _) (.string ⟨#[]⟩)))
      have CF := hide ((unhide hc7).below (B := w.heap.size) (((((Below.refl w.heap.size w7).setCell (p := ⟨w.heap.size, 0, none⟩) (Nat.le_refl _) (.int .i64 1)).setCell (p := ⟨w.heap.size, 1, none⟩) (Nat.le_refl _) (.string nm)).setCell (p := ⟨w.heap.size, 2, none⟩) (Nat.le_refl _) (.string t)).setCell (p := ⟨w.heap.size, 3, none⟩) (Nat.le_refl _) (.string ⟨#[]⟩)) hg)
      replace xF := hide xF
      go_wp2
      refine bodyPost_ret (v := acv ⟨1, nm, t, ⟨#[]⟩⟩) (by simp [results, Try.results48, go_sem, acv, f0, f1, f2, f3]) rfl ?_
      exact ⟨⟨1, nm, t, ⟨#[]⟩⟩, ⟨(by show nm.size ≤ 9; omega), (by show t.size ≤ 9; omega), (by show ByteArray.size ⟨#[]⟩ ≤ 9; decide)⟩, rfl, unhide GF, unhide CF⟩
  · obtain ⟨w3, e3, xA3, hb3, z3⟩ : ∃ W, w2.alloc (.cells #[.int .i64 2, .string nm, .string ⟨#[]⟩, .string ⟨#[]⟩] 45) = W ∧ AcB W w2.heap.size 45 ⟨2, nm, ⟨#[]⟩, ⟨#[]⟩⟩ ∧ Below w2.heap.size w2 W ∧ w2.heap.size < W.heap.size := ⟨_, rfl, heap_alloc_new w2 _, (Below.refl _ w2).alloc (Nat.le_refl _) _, by simp⟩
    have xR3 := hide ((unhide xR2).step hb3)
    have G3 := hide (gTB (unhide G2) (hb3.mono (by omega)))
    have hc3 := hide ((unhide hc2).below hb3 (by omega))
    replace xA3 := hide xA3
    replace hb3 := hide hb3
    replace e3 := hide e3
    obtain ⟨q0, q1, q2, q3⟩ := (unhide xA3).at
    have lA := (unhide xA3).lt
    go_wp2_with fail
    clear q0 q1 q2 q3 lA
    rw [unhide e3]
    go_at_call 22
    refine (l01Below_any (unhide hc3) hn 40 (by decide) (by decide)).mono ?_
    rintro e w4 ⟨y, hy, rfl, ho4, hc4⟩
    have xR4 := hide ((unhide xR3).grown (gO ho4) (by simp; omega))
    have xA4 := hide ((unhide xA3).grown (gO ho4) (by simp; omega))
    have G4 := hide (gT (unhide G3) (gO ho4))
    have s4 : w3.heap.size ≤ w4.heap.size := ((gO ho4)).size
    replace hc4 := hide hc4
    clear hc3
    replace ho4 := hide ho4
    rcases (by omega : y = 0 ∨ y = 1 ∨ y = 2 ∨ y = 3 ∨ 4 ≤ y) with rfl | rfl | rfl | rfl | hy4
    · go_wp2_with fail
      go_at_call 45
      refine (l01PickInt_any ((unhide hc4).below ((Below.refl w4.heap.size w4).alloc (Nat.le_refl _) _) (by omega)) hn w4.heap.size 2 2 (by decide) (by decide) (nums2 w4 _) (by omega)).mono ?_
      rintro e w5 ⟨z, _, _, rfl, ho5, hc5⟩
      have xR5 := hide ((unhide xR4).grown (gT (gB ((Below.refl w4.heap.size w4).alloc (Nat.le_refl _) _) (some g)) (gO ho5)) (by simp; omega))
      have xA5 := hide ((unhide xA4).grown (gT (gB ((Below.refl w4.heap.size w4).alloc (Nat.le_refl _) _) (some g)) (gO ho5)) (by simp; omega))
      have G5 := hide (gT (unhide G4) (gT (gB ((Below.refl w4.heap.size w4).alloc (Nat.le_refl _) _) (some g)) (gO ho5)))
      have s5 : w4.heap.size ≤ w5.heap.size := ((gT (gB ((Below.refl w4.heap.size w4).alloc (Nat.le_refl _) _) (some g)) (gO ho5))).size
      replace hc5 := hide hc5
      clear hc4
      replace ho5 := hide ho5
      obtain ⟨p0, p1, p2, p3⟩ := (unhide xA5).at
      have pz := (unhide xA5).frozen
      have lP := (unhide xA5).lt
      have xA9 := hide ((unhide xA5).set0 z)
      have xR9 := hide ((unhide xR5).grown (gS w5 w2.heap.size 0 (.int .i64 z)) (by simp; omega))
      have G9 := hide (gTB (unhide G5) ((Below.refl w.heap.size w5).setCell (p := ⟨w2.heap.size, 0, none⟩) (by show w.heap.size ≤ w2.heap.size; omega) (.int .i64 z)))
      have hc9 := hide ((unhide hc5).below (B := w.heap.size) ((Below.refl w.heap.size w5).setCell (p := ⟨w2.heap.size, 0, none⟩) (by show w.heap.size ≤ w2.heap.size; omega) (.int .i64 z)) hg)
      generalize hW9 : w5.setCell ⟨w2.heap.size, 0, none⟩ (.int .i64 z) = w9 at xA9 xR9 G9 hc9
      have s9 : w.heap.size < w9.heap.size := by have := (unhide xA9).lt; omega
      obtain ⟨q0, q1, q2, q3⟩ := (unhide xA9).at
      have lA := (unhide xA9).lt
      obtain ⟨r0, r1, r2, r3⟩ := (unhide xR9).at
      have rz := (unhide xR9).frozen
      have lR := (unhide xR9).lt
      have xF := ((((unhide xR9).set0 z).set1 nm).set2 ⟨#[]⟩).set3 ⟨#[]⟩
      obtain ⟨f0, f1, f2, f3⟩ := xF.at
      have GF := hide (gTB (unhide G9) (((((Below.refl w.heap.size w9).setCell (p := ⟨w.heap.size, 0, none⟩) (Nat.le_refl _) (.int .i64 z)).setCell (p := ⟨w.heap.size, 1, none⟩) (Nat.le_refl _) (.string nm)).setCell (p := ⟨w.heap.size, 2, none⟩) (Nat.le_refl _) (.string ⟨#[]⟩)).setCell (p := ⟨w.heap.size, 3, none⟩) (Nat.le_refl _) (.string ⟨#[]⟩)))
      have CF := hide ((unhide hc9).below (B := w.heap.size) (((((Below.refl w.heap.size w9).setCell (p := ⟨w.heap.size, 0, none⟩) (Nat.le_refl _) (.int .i64 z)).setCell (p := ⟨w.heap.size, 1, none⟩) (Nat.le_refl _) (.string nm)).setCell (p := ⟨w.heap.size, 2, none⟩) (Nat.le_refl _) (.string ⟨#[]⟩)).setCell (p := ⟨w.heap.size, 3, none⟩) (Nat.le_refl _) (.string ⟨#[]⟩)) hg)
      replace xF := hide xF
      go_wp2
      refine bodyPost_ret (v := acv ⟨z, nm, ⟨#[]⟩, ⟨#[]⟩⟩) (by simp [results, Try.results48, go_sem, acv, f0, f1, f2, f3]) rfl ?_
      exact ⟨⟨z, nm, ⟨#[]⟩, ⟨#[]⟩⟩, ⟨(by show nm.size ≤ 9; omega), (by show ByteArray.size ⟨#[]⟩ ≤ 9; decide), (by show ByteArray.size ⟨#[]⟩ ≤ 9; decide)⟩, rfl, unhide GF, unhide CF⟩
    · go_wp2_with fail
      go_at_call 42
      refine (l01Pick_txt ((unhide hc4).below ((Below.refl w4.heap.size w4).alloc (Nat.le_refl _) _) (by omega)) hn w4.heap.size 3 3 (by decide) (by decide) (txts3 w4 _) (by omega)).mono ?_
      rintro e w5 ⟨z, hz9, rfl, ho5, hc5⟩
      have xR5 := hide ((unhide xR4).grown (gT (gB ((Below.refl w4.heap.size w4).alloc (Nat.le_refl _) _) (some g)) (gO ho5)) (by simp; omega))
      have xA5 := hide ((unhide xA4).grown (gT (gB ((Below.refl w4.heap.size w4).alloc (Nat.le_refl _) _) (some g)) (gO ho5)) (by simp; omega))
      have G5 := hide (gT (unhide G4) (gT (gB ((Below.refl w4.heap.size w4).alloc (Nat.le_refl _) _) (some g)) (gO ho5)))
      have s5 : w4.heap.size ≤ w5.heap.size := ((gT (gB ((Below.refl w4.heap.size w4).alloc (Nat.le_refl _) _) (some g)) (gO ho5))).size
      replace hc5 := hide hc5
      clear hc4
      replace ho5 := hide ho5
      obtain ⟨p0, p1, p2, p3⟩ := (unhide xA5).at
      have pz := (unhide xA5).frozen
      have lP := (unhide xA5).lt
      have xA9 := hide ((unhide xA5).set1 z)
      have xR9 := hide ((unhide xR5).grown (gS w5 w2.heap.size 1 (.string z)) (by simp; omega))
      have G9 := hide (gTB (unhide G5) ((Below.refl w.heap.size w5).setCell (p := ⟨w2.heap.size, 1, none⟩) (by show w.heap.size ≤ w2.heap.size; omega) (.string z)))
      have hc9 := hide ((unhide hc5).below (B := w.heap.size) ((Below.refl w.heap.size w5).setCell (p := ⟨w2.heap.size, 1, none⟩) (by show w.heap.size ≤ w2.heap.size; omega) (.string z)) hg)
      generalize hW9 : w5.setCell ⟨w2.heap.size, 1, none⟩ (.string z) = w9 at xA9 xR9 G9 hc9
      have s9 : w.heap.size < w9.heap.size := by have := (unhide xA9).lt; omega
      obtain ⟨q0, q1, q2, q3⟩ := (unhide xA9).at
      have lA := (unhide xA9).lt
      obtain ⟨r0, r1, r2, r3⟩ := (unhide xR9).at
      have rz := (unhide xR9).frozen
      have lR := (unhide xR9).lt
      have xF := ((((unhide xR9).set0 2).set1 z).set2 ⟨#[]⟩).set3 ⟨#[]⟩
      obtain ⟨f0, f1, f2, f3⟩ := xF.at
      have GF := hide (gTB (unhide G9) (((((Below.refl w.heap.size w9).setCell (p := ⟨w.heap.size, 0, none⟩) (Nat.le_refl _) (.int .i64 2)).setCell (p := ⟨w.heap.size, 1, none⟩) (Nat.le_refl _) (.string z)).setCell (p := ⟨w.heap.size, 2, none⟩) (Nat.le_refl _) (.string ⟨#[]⟩)).setCell (p := ⟨w.heap.size, 3, none⟩) (Nat.le_refl _) (.string ⟨#[]⟩)))
      have CF := hide ((unhide hc9).below (B := w.heap.size) (((((Below.refl w.heap.size w9).setCell (p := ⟨w.heap.size, 0, none⟩) (Nat.le_refl _) (.int .i64 2)).setCell (p := ⟨w.heap.size, 1, none⟩) (Nat.le_refl _) (.string z)).setCell (p := ⟨w.heap.size, 2, none⟩) (Nat.le_refl _) (.string ⟨#[]⟩)).setCell (p := ⟨w.heap.size, 3, none⟩) (Nat.le_refl _) (.string ⟨#[]⟩)) hg)
      replace xF := hide xF
      go_wp2
      refine bodyPost_ret (v := acv ⟨2, z, ⟨#[]⟩, ⟨#[]⟩⟩) (by simp [results, Try.results48, go_sem, acv, f0, f1, f2, f3]) rfl ?_
      exact ⟨⟨2, z, ⟨#[]⟩, ⟨#[]⟩⟩, ⟨(by show z.size ≤ 9; omega), (by show ByteArray.size ⟨#[]⟩ ≤ 9; decide), (by show ByteArray.size ⟨#[]⟩ ≤ 9; decide)⟩, rfl, unhide GF, unhide CF⟩
    · skip
      obtain ⟨p0, p1, p2, p3⟩ := (unhide xA4).at
      have pz := (unhide xA4).frozen
      have lP := (unhide xA4).lt
      have xA9 := hide ((unhide xA4).set3 ⟨#[120]⟩)
      have xR9 := hide ((unhide xR4).grown (gS w4 w2.heap.size 3 (.string ⟨#[120]⟩)) (by simp; omega))
      have G9 := hide (gTB (unhide G4) ((Below.refl w.heap.size w4).setCell (p := ⟨w2.heap.size, 3, none⟩) (by show w.heap.size ≤ w2.heap.size; omega) (.string ⟨#[120]⟩)))
      have hc9 := hide ((unhide hc4).below (B := w.heap.size) ((Below.refl w.heap.size w4).setCell (p := ⟨w2.heap.size, 3, none⟩) (by show w.heap.size ≤ w2.heap.size; omega) (.string ⟨#[120]⟩)) hg)
      generalize hW9 : w4.setCell ⟨w2.heap.size, 3, none⟩ (.string ⟨#[120]⟩) = w9 at xA9 xR9 G9 hc9
      have s9 : w.heap.size < w9.heap.size := by have := (unhide xA9).lt; omega
      obtain ⟨q0, q1, q2, q3⟩ := (unhide xA9).at
      have lA := (unhide xA9).lt
      obtain ⟨r0, r1, r2, r3⟩ := (unhide xR9).at
      have rz := (unhide xR9).frozen
      have lR := (unhide xR9).lt
      have xF := ((((unhide xR9).set0 2).set1 nm).set2 ⟨#[]⟩).set3 ⟨#[120]⟩
      obtain ⟨f0, f1, f2, f3⟩ := xF.at
      have GF := hide (gTB (unhide G9) (((((Below.refl w.heap.size w9).setCell (p := ⟨w.heap.size, 0, none⟩) (Nat.le_refl _) (.int .i64 2)).setCell (p := ⟨w.heap.size, 1, none⟩) (Nat.le_refl _) (.string nm)).setCell (p := ⟨w.heap.size, 2, none⟩) (Nat.le_refl _) (.string ⟨#[]⟩)).setCell (p := ⟨w.heap.size, 3, none⟩) (Nat.le_refl _) (.string ⟨#[120]⟩)))
      have CF := hide ((unhide hc9).below (B := w.heap.size) (((((Below.refl w.heap.size w9).setCell (p := ⟨w.heap.size, 0, none⟩) (Nat.le_refl _) (.int .i64 2)).setCell (p := ⟨w.heap.size, 1, none⟩) (Nat.le_refl _) (.string nm)).setCell (p := ⟨w.heap.size, 2, none⟩) (Nat.le_refl _) (.string ⟨#[]⟩)).setCell (p := ⟨w.heap.size, 3, none⟩) (Nat.le_refl _) (.string ⟨#[120]⟩)) hg)
      replace xF := hide xF
      go_wp2
      refine bodyPost_ret (v := acv ⟨2, nm, ⟨#[]⟩, ⟨#[120]⟩⟩) (by simp [results, Try.results48, go_sem, acv, f0, f1, f2, f3]) rfl ?_
      exact ⟨⟨2, nm, ⟨#[]⟩, ⟨#[120]⟩⟩, ⟨(by show nm.size ≤ 9; omega), (by show ByteArray.size ⟨#[]⟩ ≤ 9; decide), (by show ByteArray.size ⟨#[120]⟩ ≤ 9; decide)⟩, rfl, unhide GF, unhide CF⟩
    · skip
      obtain ⟨p0, p1, p2, p3⟩ := (unhide xA4).at
      have pz := (unhide xA4).frozen
      have lP := (unhide xA4).lt
      have xA9 := hide ((unhide xA4).set2 ⟨#[120]⟩)
      have xR9 := hide ((unhide xR4).grown (gS w4 w2.heap.size 2 (.string ⟨#[120]⟩)) (by simp; omega))
      have G9 := hide (gTB (unhide G4) ((Below.refl w.heap.size w4).setCell (p := ⟨w2.heap.size, 2, none⟩) (by show w.heap.size ≤ w2.heap.size; omega) (.string ⟨#[120]⟩)))
      have hc9 := hide ((unhide hc4).below (B := w.heap.size) ((Below.refl w.heap.size w4).setCell (p := ⟨w2.heap.size, 2, none⟩) (by show w.heap.size ≤ w2.heap.size; omega) (.string ⟨#[120]⟩)) hg)
      generalize hW9 : w4.setCell ⟨w2.heap.size, 2, none⟩ (.string ⟨#[120]⟩) = w9 at xA9 xR9 G9 hc9
      have s9 : w.heap.size < w9.heap.size := by have := (unhide xA9).lt; omega
      obtain ⟨q0, q1, q2, q3⟩ := (unhide xA9).at
      have lA := (unhide xA9).lt
      obtain ⟨r0, r1, r2, r3⟩ := (unhide xR9).at
      have rz := (unhide xR9).frozen
      have lR := (unhide xR9).lt
      have xF := ((((unhide xR9).set0 2).set1 nm).set2 ⟨#[120]⟩).set3 ⟨#[]⟩
      obtain ⟨f0, f1, f2, f3⟩ := xF.at
      have GF := hide (gTB (unhide G9) (((((Below.refl w.heap.size w9).setCell (p := ⟨w.heap.size, 0, none⟩) (Nat.le_refl _) (.int .i64 2)).setCell (p := ⟨w.heap.size, 1, none⟩) (Nat.le_refl _) (.string nm)).setCell (p := ⟨w.heap.size, 2, none⟩) (Nat.le_refl _) (.string ⟨#[120]⟩)).setCell (p := ⟨w.heap.size, 3, none⟩) (Nat.le_refl _) (.string ⟨#[]⟩)))
      have CF := hide ((unhide hc9).below (B := w.heap.size) (((((Below.refl w.heap.size w9).setCell (p := ⟨w.heap.size, 0, none⟩) (Nat.le_refl _) (.int .i64 2)).setCell (p := ⟨w.heap.size, 1, none⟩) (Nat.le_refl _) (.string nm)).setCell (p := ⟨w.heap.size, 2, none⟩) (Nat.le_refl _) (.string ⟨#[120]⟩)).setCell (p := ⟨w.heap.size, 3, none⟩) (Nat.le_refl _) (.string ⟨#[]⟩)) hg)
      replace xF := hide xF
      go_wp2
      refine bodyPost_ret (v := acv ⟨2, nm, ⟨#[120]⟩, ⟨#[]⟩⟩) (by simp [results, Try.results48, go_sem, acv, f0, f1, f2, f3]) rfl ?_
      exact ⟨⟨2, nm, ⟨#[120]⟩, ⟨#[]⟩⟩, ⟨(by show nm.size ≤ 9; omega), (by show ByteArray.size ⟨#[120]⟩ ≤ 9; decide), (by show ByteArray.size ⟨#[]⟩ ≤ 9; decide)⟩, rfl, unhide GF, unhide CF⟩
    · have n0 : ((y : Int) == 0) = false := by rw [beq_eq_false_iff_ne]; omega
      have n1 : ((y : Int) == 1) = false := by rw [beq_eq_false_iff_ne]; omega
      have n2 : ((y : Int) == 2) = false := by rw [beq_eq_false_iff_ne]; omega
      have n3 : ((y : Int) == 3) = false := by rw [beq_eq_false_iff_ne]; omega
      obtain ⟨q0, q1, q2, q3⟩ := (unhide xA4).at
      have lA := (unhide xA4).lt
      obtain ⟨r0, r1, r2, r3⟩ := (unhide xR4).at
      have rz := (unhide xR4).frozen
      have lR := (unhide xR4).lt
      have xF := ((((unhide xR4).set0 2).set1 nm).set2 ⟨#[]⟩).set3 ⟨#[]⟩
      obtain ⟨f0, f1, f2, f3⟩ := xF.at
      have GF := hide (gTB (unhide G4) (((((Below.refl w.heap.size w4).setCell (p := ⟨w.heap.size, 0, none⟩) (Nat.le_refl _) (.int .i64 2)).setCell (p := ⟨w.heap.size, 1, none⟩) (Nat.le_refl _) (.string nm)).setCell (p := ⟨w.heap.size, 2, none⟩) (Nat.le_refl _) (.string ⟨#[]⟩)).setCell (p := ⟨w.heap.size, 3, none⟩) (Nat.le_refl _) (.string ⟨#[]⟩)))
      have CF := hide ((unhide hc4).below (B := w.heap.size) (((((Below.refl w.heap.size w4).setCell (p := ⟨w.heap.size, 0, none⟩) (Nat.le_refl _) (.int .i64 2)).setCell (p := ⟨w.heap.size, 1, none⟩) (Nat.le_refl _) (.string nm)).setCell (p := ⟨w.heap.size, 2, none⟩) (Nat.le_refl _) (.string ⟨#[]⟩)).setCell (p := ⟨w.heap.size, 3, none⟩) (Nat.le_refl _) (.string ⟨#[]⟩)) hg)
      replace xF := hide xF
      go_wp2
      refine bodyPost_ret (v := acv ⟨2, nm, ⟨#[]⟩, ⟨#[]⟩⟩) (by simp [results, Try.results48, go_sem, acv, f0, f1, f2, f3]) rfl ?_
      exact ⟨⟨2, nm, ⟨#[]⟩, ⟨#[]⟩⟩, ⟨(by show nm.size ≤ 9; omega), (by show ByteArray.size ⟨#[]⟩ ≤ 9; decide), (by show ByteArray.size ⟨#[]⟩ ≤ 9; decide)⟩, rfl, unhide GF, unhide CF⟩
  · obtain ⟨w3, e3, xA3, hb3, z3⟩ : ∃ W, w2.alloc (.cells #[.int .i64 3, .string nm, .string ⟨#[]⟩, .string ⟨#[]⟩] 45) = W ∧ AcB W w2.heap.size 45 ⟨3, nm, ⟨#[]⟩, ⟨#[]⟩⟩ ∧ Below w2.heap.size w2 W ∧ w2.heap.size < W.heap.size := ⟨_, rfl, heap_alloc_new w2 _, (Below.refl _ w2).alloc (Nat.le_refl _) _, by simp⟩
    have xR3 := hide ((unhide xR2).step hb3)
    have G3 := hide (gTB (unhide G2) (hb3.mono (by omega)))
    have hc3 := hide ((unhide hc2).below hb3 (by omega))
    replace xA3 := hide xA3
    replace hb3 := hide hb3
    replace e3 := hide e3
    obtain ⟨u0, u1, u2, u3⟩ := (unhide xA3).at
    have uz := (unhide xA3).frozen
    have lU := (unhide xA3).lt
    go_wp2_with fail
    rw [unhide e3]
    go_at_call 25
    refine (l03Named_any (unhide hc3) hn).mono ?_
    rintro e w5 ⟨t, _, hts, rfl, hg5, hc5⟩
    have xR5 := hide ((unhide xR3).grown hg5 (by simp; omega))
    have xA5 := hide ((unhide xA3).grown hg5 (by simp; omega))
    have G5 := hide (gT (unhide G3) hg5)
    have s5 : w3.heap.size ≤ w5.heap.size := (hg5).size
    replace hc5 := hide hc5
    clear hc3
    replace hg5 := hide hg5
    clear u0 u1 u2 u3 uz lU
    obtain ⟨p0, p1, p2, p3⟩ := (unhide xA5).at
    have pz := (unhide xA5).frozen
    have lP := (unhide xA5).lt
    have xA6 := hide ((unhide xA5).set3 t)
    have xR6 := hide ((unhide xR5).grown (gS w5 w2.heap.size 3 (.string t)) (by simp; omega))
    have G6 := hide (gTB (unhide G5) ((Below.refl w.heap.size w5).setCell (p := ⟨w2.heap.size, 3, none⟩) (by show w.heap.size ≤ w2.heap.size; omega) (.string t)))
    have hc6 := hide ((unhide hc5).below (B := w.heap.size) ((Below.refl w.heap.size w5).setCell (p := ⟨w2.heap.size, 3, none⟩) (by show w.heap.size ≤ w2.heap.size; omega) (.string t)) hg)
    generalize hW6 : w5.setCell ⟨w2.heap.size, 3, none⟩ (.string t) = w6 at xA6 xR6 G6 hc6
    have s6 : w2.heap.size < w6.heap.size := (unhide xA6).lt
    obtain ⟨q0, q1, q2, q3⟩ := (unhide xA6).at
    have lA := (unhide xA6).lt
    go_wp2_with fail
    clear q0 q1 q2 q3 lA
    go_at_call 22
    refine (l01Below_any (unhide hc6) hn 40 (by decide) (by decide)).mono ?_
    rintro e w7 ⟨y, hy, rfl, ho7, hc7⟩
    have xR7 := hide ((unhide xR6).grown (gO ho7) (by simp; omega))
    have xA7 := hide ((unhide xA6).grown (gO ho7) (by simp; omega))
    have G7 := hide (gT (unhide G6) (gO ho7))
    have s7 : w6.heap.size ≤ w7.heap.size := ((gO ho7)).size
    replace hc7 := hide hc7
    clear hc6
    replace ho7 := hide ho7
    rcases (by omega : y = 0 ∨ y = 1 ∨ y = 2 ∨ y = 3 ∨ 4 ≤ y) with rfl | rfl | rfl | rfl | hy4
    · go_wp2_with fail
      go_at_call 45
      refine (l01PickInt_any ((unhide hc7).below ((Below.refl w7.heap.size w7).alloc (Nat.le_refl _) _) (by omega)) hn w7.heap.size 2 2 (by decide) (by decide) (nums2 w7 _) (by omega)).mono ?_
      rintro e w8 ⟨z, _, _, rfl, ho8, hc8⟩
      have xR8 := hide ((unhide xR7).grown (gT (gB ((Below.refl w7.heap.size w7).alloc (Nat.le_refl _) _) (some g)) (gO ho8)) (by simp; omega))
      have xA8 := hide ((unhide xA7).grown (gT (gB ((Below.refl w7.heap.size w7).alloc (Nat.le_refl _) _) (some g)) (gO ho8)) (by simp; omega))
      have G8 := hide (gT (unhide G7) (gT (gB ((Below.refl w7.heap.size w7).alloc (Nat.le_refl _) _) (some g)) (gO ho8)))
      have s8 : w7.heap.size ≤ w8.heap.size := ((gT (gB ((Below.refl w7.heap.size w7).alloc (Nat.le_refl _) _) (some g)) (gO ho8))).size
      replace hc8 := hide hc8
      clear hc7
      replace ho8 := hide ho8
      obtain ⟨p0, p1, p2, p3⟩ := (unhide xA8).at
      have pz := (unhide xA8).frozen
      have lP := (unhide xA8).lt
      have xA9 := hide ((unhide xA8).set0 z)
      have xR9 := hide ((unhide xR8).grown (gS w8 w2.heap.size 0 (.int .i64 z)) (by simp; omega))
      have G9 := hide (gTB (unhide G8) ((Below.refl w.heap.size w8).setCell (p := ⟨w2.heap.size, 0, none⟩) (by show w.heap.size ≤ w2.heap.size; omega) (.int .i64 z)))
      have hc9 := hide ((unhide hc8).below (B := w.heap.size) ((Below.refl w.heap.size w8).setCell (p := ⟨w2.heap.size, 0, none⟩) (by show w.heap.size ≤ w2.heap.size; omega) (.int .i64 z)) hg)
      generalize hW9 : w8.setCell ⟨w2.heap.size, 0, none⟩ (.int .i64 z) = w9 at xA9 xR9 G9 hc9
      have s9 : w.heap.size < w9.heap.size := by have := (unhide xA9).lt; omega
      obtain ⟨q0, q1, q2, q3⟩ := (unhide xA9).at
      have lA := (unhide xA9).lt
      obtain ⟨r0, r1, r2, r3⟩ := (unhide xR9).at
      have rz := (unhide xR9).frozen
      have lR := (unhide xR9).lt
      have xF := ((((unhide xR9).set0 z).set1 nm).set2 ⟨#[]⟩).set3 t
      obtain ⟨f0, f1, f2, f3⟩ := xF.at
      have GF := hide (gTB (unhide G9) (((((Below.refl w.heap.size w9).setCell (p := ⟨w.heap.size, 0, none⟩) (Nat.le_refl _) (.int .i64 z)).setCell (p := ⟨w.heap.size, 1, none⟩) (Nat.le_refl _) (.string nm)).setCell (p := ⟨w.heap.size, 2, none⟩) (Nat.le_refl _) (.string ⟨#[]⟩)).setCell (p := ⟨w.heap.size, 3, none⟩) (Nat.le_refl _) (.string t)))
      have CF := hide ((unhide hc9).below (B := w.heap.size) (((((Below.refl w.heap.size w9).setCell (p := ⟨w.heap.size, 0, none⟩) (Nat.le_refl _) (.int .i64 z)).setCell (p := ⟨w.heap.size, 1, none⟩) (Nat.le_refl _) (.string nm)).setCell (p := ⟨w.heap.size, 2, none⟩) (Nat.le_refl _) (.string ⟨#[]⟩)).setCell (p := ⟨w.heap.size, 3, none⟩) (Nat.le_refl _) (.string t)) hg)
      replace xF := hide xF
      go_wp2
      refine bodyPost_ret (v := acv ⟨z, nm, ⟨#[]⟩, t⟩) (by simp [results, Try.results48, go_sem, acv, f0, f1, f2, f3]) rfl ?_
      exact ⟨⟨z, nm, ⟨#[]⟩, t⟩, ⟨(by show nm.size ≤ 9; omega), (by show ByteArray.size ⟨#[]⟩ ≤ 9; decide), (by show t.size ≤ 9; omega)⟩, rfl, unhide GF, unhide CF⟩
    · go_wp2_with fail
      go_at_call 42
      refine (l01Pick_txt ((unhide hc7).below ((Below.refl w7.heap.size w7).alloc (Nat.le_refl _) _) (by omega)) hn w7.heap.size 3 3 (by decide) (by decide) (txts3 w7 _) (by omega)).mono ?_
      rintro e w8 ⟨z, hz9, rfl, ho8, hc8⟩
      have xR8 := hide ((unhide xR7).grown (gT (gB ((Below.refl w7.heap.size w7).alloc (Nat.le_refl _) _) (some g)) (gO ho8)) (by simp; omega))
      have xA8 := hide ((unhide xA7).grown (gT (gB ((Below.refl w7.heap.size w7).alloc (Nat.le_refl _) _) (some g)) (gO ho8)) (by simp; omega))
      have G8 := hide (gT (unhide G7) (gT (gB ((Below.refl w7.heap.size w7).alloc (Nat.le_refl _) _) (some g)) (gO ho8)))
      have s8 : w7.heap.size ≤ w8.heap.size := ((gT (gB ((Below.refl w7.heap.size w7).alloc (Nat.le_refl _) _) (some g)) (gO ho8))).size
      replace hc8 := hide hc8
      clear hc7
      replace ho8 := hide ho8
      obtain ⟨p0, p1, p2, p3⟩ := (unhide xA8).at
      have pz := (unhide xA8).frozen
      have lP := (unhide xA8).lt
      have xA9 := hide ((unhide xA8).set1 z)
      have xR9 := hide ((unhide xR8).grown (gS w8 w2.heap.size 1 (.string z)) (by simp; omega))
      have G9 := hide (gTB (unhide G8) ((Below.refl w.heap.size w8).setCell (p := ⟨w2.heap.size, 1, none⟩) (by show w.heap.size ≤ w2.heap.size; omega) (.string z)))
      have hc9 := hide ((unhide hc8).below (B := w.heap.size) ((Below.refl w.heap.size w8).setCell (p := ⟨w2.heap.size, 1, none⟩) (by show w.heap.size ≤ w2.heap.size; omega) (.string z)) hg)
      generalize hW9 : w8.setCell ⟨w2.heap.size, 1, none⟩ (.string z) = w9 at xA9 xR9 G9 hc9
      have s9 : w.heap.size < w9.heap.size := by have := (unhide xA9).lt; omega
      obtain ⟨q0, q1, q2, q3⟩ := (unhide xA9).at
      have lA := (unhide xA9).lt
      obtain ⟨r0, r1, r2, r3⟩ := (unhide xR9).at
      have rz := (unhide xR9).frozen
      have lR := (unhide xR9).lt
      have xF := ((((unhide xR9).set0 3).set1 z).set2 ⟨#[]⟩).set3 t
      obtain ⟨f0, f1, f2, f3⟩ := xF.at
      have GF := hide (gTB (unhide G9) (((((Below.refl w.heap.size w9).setCell (p := ⟨w.heap.size, 0, none⟩) (Nat.le_refl _) (.int .i64 3)).setCell (p := ⟨w.heap.size, 1, none⟩) (Nat.le_refl _) (.string z)).setCell (p := ⟨w.heap.size, 2, none⟩) (Nat.le_refl _) (.string ⟨#[]⟩)).setCell (p := ⟨w.heap.size, 3, none⟩) (Nat.le_refl _) (.string t)))
      have CF := hide ((unhide hc9).below (B := w.heap.size) (((((Below.refl w.heap.size w9).setCell (p := ⟨w.heap.size, 0, none⟩) (Nat.le_refl _) (.int .i64 3)).setCell (p := ⟨w.heap.size, 1, none⟩) (Nat.le_refl _) (.string z)).setCell (p := ⟨w.heap.size, 2, none⟩) (Nat.le_refl _) (.string ⟨#[]⟩)).setCell (p := ⟨w.heap.size, 3, none⟩) (Nat.le_refl _) (.string t)) hg)
      replace xF := hide xF
      go_wp2
      refine bodyPost_ret (v := acv ⟨3, z, ⟨#[]⟩, t⟩) (by simp [results, Try.results48, go_sem, acv, f0, f1, f2, f3]) rfl ?_
      exact ⟨⟨3, z, ⟨#[]⟩, t⟩, ⟨(by show z.size ≤ 9; omega), (by show ByteArray.size ⟨#[]⟩ ≤ 9; decide), (by show t.size ≤ 9; omega)⟩, rfl, unhide GF, unhide CF⟩
    · skip
      obtain ⟨p0, p1, p2, p3⟩ := (unhide xA7).at
      have pz := (unhide xA7).frozen
      have lP := (unhide xA7).lt
      have xA9 := hide ((unhide xA7).set3 ⟨#[120]⟩)
      have xR9 := hide ((unhide xR7).grown (gS w7 w2.heap.size 3 (.string ⟨#[120]⟩)) (by simp; omega))
      have G9 := hide (gTB (unhide G7) ((Below.refl w.heap.size w7).setCell (p := ⟨w2.heap.size, 3, none⟩) (by show w.heap.size ≤ w2.heap.size; omega) (.string ⟨#[120]⟩)))
      have hc9 := hide ((unhide hc7).below (B := w.heap.size) ((Below.refl w.heap.size w7).setCell (p := ⟨w2.heap.size, 3, none⟩) (by show w.heap.size ≤ w2.heap.size; omega) (.string ⟨#[120]⟩)) hg)
      generalize hW9 : w7.setCell ⟨w2.heap.size, 3, none⟩ (.string ⟨#[120]⟩) = w9 at xA9 xR9 G9 hc9
      have s9 : w.heap.size < w9.heap.size := by have := (unhide xA9).lt; omega
      obtain ⟨q0, q1, q2, q3⟩ := (unhide xA9).at
      have lA := (unhide xA9).lt
      obtain ⟨r0, r1, r2, r3⟩ := (unhide xR9).at
      have rz := (unhide xR9).frozen
      have lR := (unhide xR9).lt
      have xF := ((((unhide xR9).set0 3).set1 nm).set2 ⟨#[]⟩).set3 ⟨#[120]⟩
      obtain ⟨f0, f1, f2, f3⟩ := xF.at
      have GF := hide (gTB (unhide G9) (((((Below.refl w.heap.size w9).setCell (p := ⟨w.heap.size, 0, none⟩) (Nat.le_refl _) (.int .i64 3)).setCell (p := ⟨w.heap.size, 1, none⟩) (Nat.le_refl _) (.string nm)).setCell (p := ⟨w.heap.size, 2, none⟩) (Nat.le_refl _) (.string ⟨#[]⟩)).setCell (p := ⟨w.heap.size, 3, none⟩) (Nat.le_refl _) (.string ⟨#[120]⟩)))
      have CF := hide ((unhide hc9).below (B := w.heap.size) (((((Below.refl w.heap.size w9).setCell (p := ⟨w.heap.size, 0, none⟩) (Nat.le_refl _) (.int .i64 3)).setCell (p := ⟨w.heap.size, 1, none⟩) (Nat.le_refl _) (.string nm)).setCell (p := ⟨w.heap.size, 2, none⟩) (Nat.le_refl _) (.string ⟨#[]⟩)).setCell (p := ⟨w.heap.size, 3, none⟩) (Nat.le_refl _) (.string ⟨#[120]⟩)) hg)
      replace xF := hide xF
      go_wp2
      refine bodyPost_ret (v := acv ⟨3, nm, ⟨#[]⟩, ⟨#[120]⟩⟩) (by simp [results, Try.results48, go_sem, acv, f0, f1, f2, f3]) rfl ?_
      exact ⟨⟨3, nm, ⟨#[]⟩, ⟨#[120]⟩⟩, ⟨(by show nm.size ≤ 9; omega), (by show ByteArray.size ⟨#[]⟩ ≤ 9; decide), (by show ByteArray.size ⟨#[120]⟩ ≤ 9; decide)⟩, rfl, unhide GF, unhide CF⟩
    · skip
      obtain ⟨p0, p1, p2, p3⟩ := (unhide xA7).at
      have pz := (unhide xA7).frozen
      have lP := (unhide xA7).lt
      have xA9 := hide ((unhide xA7).set2 ⟨#[120]⟩)
      have xR9 := hide ((unhide xR7).grown (gS w7 w2.heap.size 2 (.string ⟨#[120]⟩)) (by simp; omega))
      have G9 := hide (gTB (unhide G7) ((Below.refl w.heap.size w7).setCell (p := ⟨w2.heap.size, 2, none⟩) (by show w.heap.size ≤ w2.heap.size; omega) (.string ⟨#[120]⟩)))
      have hc9 := hide ((unhide hc7).below (B := w.heap.size) ((Below.refl w.heap.size w7).setCell (p := ⟨w2.heap.size, 2, none⟩) (by show w.heap.size ≤ w2.heap.size; omega) (.string ⟨#[120]⟩)) hg)
      generalize hW9 : w7.setCell ⟨w2.heap.size, 2, none⟩ (.string ⟨#[120]⟩) = w9 at xA9 xR9 G9 hc9
      have s9 : w.heap.size < w9.heap.size := by have := (unhide xA9).lt; omega
      obtain ⟨q0, q1, q2, q3⟩ := (unhide xA9).at
      have lA := (unhide xA9).lt
      obtain ⟨r0, r1, r2, r3⟩ := (unhide xR9).at
      have rz := (unhide xR9).frozen
      have lR := (unhide xR9).lt
      have xF := ((((unhide xR9).set0 3).set1 nm).set2 ⟨#[120]⟩).set3 t
      obtain ⟨f0, f1, f2, f3⟩ := xF.at
      have GF := hide (gTB (unhide G9) (((((Below.refl w.heap.size w9).setCell (p := ⟨w.heap.size, 0, none⟩) (Nat.le_refl _) (.int .i64 3)).setCell (p := ⟨w.heap.size, 1, none⟩) (Nat.le_refl _) (.string nm)).setCell (p := ⟨w.heap.size, 2, none⟩) (Nat.le_refl _) (.string ⟨#[120]⟩)).setCell (p := ⟨w.heap.size, 3, none⟩) (Nat.le_refl _) (.string t)))
      have CF := hide ((unhide hc9).below (B := w.heap.size) (((((Below.refl w.heap.size w9).setCell (p := ⟨w.heap.size, 0, none⟩) (Nat.le_refl _) (.int .i64 3)).setCell (p := ⟨w.heap.size, 1, none⟩) (Nat.le_refl _) (.string nm)).setCell (p := ⟨w.heap.size, 2, none⟩) (Nat.le_refl _) (.string ⟨#[120]⟩)).setCell (p := ⟨w.heap.size, 3, none⟩) (Nat.le_refl _) (.string t)) hg)
      replace xF := hide xF
      go_wp2
      refine bodyPost_ret (v := acv ⟨3, nm, ⟨#[120]⟩, t⟩) (by simp [results, Try.results48, go_sem, acv, f0, f1, f2, f3]) rfl ?_
      exact ⟨⟨3, nm, ⟨#[120]⟩, t⟩, ⟨(by show nm.size ≤ 9; omega), (by show ByteArray.size ⟨#[120]⟩ ≤ 9; decide), (by show t.size ≤ 9; omega)⟩, rfl, unhide GF, unhide CF⟩
    · have n0 : ((y : Int) == 0) = false := by rw [beq_eq_false_iff_ne]; omega
      have n1 : ((y : Int) == 1) = false := by rw [beq_eq_false_iff_ne]; omega
      have n2 : ((y : Int) == 2) = false := by rw [beq_eq_false_iff_ne]; omega
      have n3 : ((y : Int) == 3) = false := by rw [beq_eq_false_iff_ne]; omega
      obtain ⟨q0, q1, q2, q3⟩ := (unhide xA7).at
      have lA := (unhide xA7).lt
      obtain ⟨r0, r1, r2, r3⟩ := (unhide xR7).at
      have rz := (unhide xR7).frozen
      have lR := (unhide xR7).lt
      have xF := ((((unhide xR7).set0 3).set1 nm).set2 ⟨#[]⟩).set3 t
      obtain ⟨f0, f1, f2, f3⟩ := xF.at
      have GF := hide (gTB (unhide G7) (((((Below.refl w.heap.size w7).setCell (p := ⟨w.heap.size, 0, none⟩) (Nat.le_refl _) (.int .i64 3)).setCell (p := ⟨w.heap.size, 1, none⟩) (Nat.le_refl _) (.string nm)).setCell (p := ⟨w.heap.size, 2, none⟩) (Nat.le_refl _) (.string ⟨#[]⟩)).setCell (p := ⟨w.heap.size, 3, none⟩) (Nat.le_refl _) (.string t)))
      have CF := hide ((unhide hc7).below (B := w.heap.size) (((((Below.refl w.heap.size w7).setCell (p := ⟨w.heap.size, 0, none⟩) (Nat.le_refl _) (.int .i64 3)).setCell (p := ⟨w.heap.size, 1, none⟩) (Nat.le_refl _) (.string nm)).setCell (p := ⟨w.heap.size, 2, none⟩) (Nat.le_refl _) (.string ⟨#[]⟩)).setCell (p := ⟨w.heap.size, 3, none⟩) (Nat.le_refl _) (.string t)) hg)
      replace xF := hide xF
      go_wp2
      refine bodyPost_ret (v := acv ⟨3, nm, ⟨#[]⟩, t⟩) (by simp [results, Try.results48, go_sem, acv, f0, f1, f2, f3]) rfl ?_
      exact ⟨⟨3, nm, ⟨#[]⟩, t⟩, ⟨(by show nm.size ≤ 9; omega), (by show ByteArray.size ⟨#[]⟩ ≤ 9; decide), (by show t.size ≤ 9; omega)⟩, rfl, unhide GF, unhide CF⟩
  · obtain ⟨w3, e3, xA3, hb3, z3⟩ : ∃ W, w2.alloc (.cells #[.int .i64 4, .string nm, .string ⟨#[]⟩, .string ⟨#[]⟩] 45) = W ∧ AcB W w2.heap.size 45 ⟨4, nm, ⟨#[]⟩, ⟨#[]⟩⟩ ∧ Below w2.heap.size w2 W ∧ w2.heap.size < W.heap.size := ⟨_, rfl, heap_alloc_new w2 _, (Below.refl _ w2).alloc (Nat.le_refl _) _, by simp⟩
    have xR3 := hide ((unhide xR2).step hb3)
    have G3 := hide (gTB (unhide G2) (hb3.mono (by omega)))
    have hc3 := hide ((unhide hc2).below hb3 (by omega))
    replace xA3 := hide xA3
    replace hb3 := hide hb3
    replace e3 := hide e3
    obtain ⟨q0, q1, q2, q3⟩ := (unhide xA3).at
    have lA := (unhide xA3).lt
    go_wp2_with fail
    clear q0 q1 q2 q3 lA
    rw [unhide e3]
    go_at_call 22
    refine (l01Below_any (unhide hc3) hn 40 (by decide) (by decide)).mono ?_
    rintro e w4 ⟨y, hy, rfl, ho4, hc4⟩
    have xR4 := hide ((unhide xR3).grown (gO ho4) (by simp; omega))
    have xA4 := hide ((unhide xA3).grown (gO ho4) (by simp; omega))
    have G4 := hide (gT (unhide G3) (gO ho4))
    have s4 : w3.heap.size ≤ w4.heap.size := ((gO ho4)).size
    replace hc4 := hide hc4
    clear hc3
    replace ho4 := hide ho4
    rcases (by omega : y = 0 ∨ y = 1 ∨ y = 2 ∨ y = 3 ∨ 4 ≤ y) with rfl | rfl | rfl | rfl | hy4
    · go_wp2_with fail
      go_at_call 45
      refine (l01PickInt_any ((unhide hc4).below ((Below.refl w4.heap.size w4).alloc (Nat.le_refl _) _) (by omega)) hn w4.heap.size 2 2 (by decide) (by decide) (nums2 w4 _) (by omega)).mono ?_
      rintro e w5 ⟨z, _, _, rfl, ho5, hc5⟩
      have xR5 := hide ((unhide xR4).grown (gT (gB ((Below.refl w4.heap.size w4).alloc (Nat.le_refl _) _) (some g)) (gO ho5)) (by simp; omega))
      have xA5 := hide ((unhide xA4).grown (gT (gB ((Below.refl w4.heap.size w4).alloc (Nat.le_refl _) _) (some g)) (gO ho5)) (by simp; omega))
      have G5 := hide (gT (unhide G4) (gT (gB ((Below.refl w4.heap.size w4).alloc (Nat.le_refl _) _) (some g)) (gO ho5)))
      have s5 : w4.heap.size ≤ w5.heap.size := ((gT (gB ((Below.refl w4.heap.size w4).alloc (Nat.le_refl _) _) (some g)) (gO ho5))).size
      replace hc5 := hide hc5
      clear hc4
      replace ho5 := hide ho5
      obtain ⟨p0, p1, p2, p3⟩ := (unhide xA5).at
      have pz := (unhide xA5).frozen
      have lP := (unhide xA5).lt
      have xA9 := hide ((unhide xA5).set0 z)
      have xR9 := hide ((unhide xR5).grown (gS w5 w2.heap.size 0 (.int .i64 z)) (by simp; omega))
      have G9 := hide (gTB (unhide G5) ((Below.refl w.heap.size w5).setCell (p := ⟨w2.heap.size, 0, none⟩) (by show w.heap.size ≤ w2.heap.size; omega) (.int .i64 z)))
      have hc9 := hide ((unhide hc5).below (B := w.heap.size) ((Below.refl w.heap.size w5).setCell (p := ⟨w2.heap.size, 0, none⟩) (by show w.heap.size ≤ w2.heap.size; omega) (.int .i64 z)) hg)
      generalize hW9 : w5.setCell ⟨w2.heap.size, 0, none⟩ (.int .i64 z) = w9 at xA9 xR9 G9 hc9
      have s9 : w.heap.size < w9.heap.size := by have := (unhide xA9).lt; omega
      obtain ⟨q0, q1, q2, q3⟩ := (unhide xA9).at
      have lA := (unhide xA9).lt
      obtain ⟨r0, r1, r2, r3⟩ := (unhide xR9).at
      have rz := (unhide xR9).frozen
      have lR := (unhide xR9).lt
      have xF := ((((unhide xR9).set0 z).set1 nm).set2 ⟨#[]⟩).set3 ⟨#[]⟩
      obtain ⟨f0, f1, f2, f3⟩ := xF.at
      have GF := hide (gTB (unhide G9) (((((Below.refl w.heap.size w9).setCell (p := ⟨w.heap.size, 0, none⟩) (Nat.le_refl _) (.int .i64 z)).setCell (p := ⟨w.heap.size, 1, none⟩) (Nat.le_refl _) (.string nm)).setCell (p := ⟨w.heap.size, 2, none⟩) (Nat.le_refl _) (.string ⟨#[]⟩)).setCell (p := ⟨w.heap.size, 3, none⟩) (Nat.le_refl _) (.string ⟨#[]⟩)))
      have CF := hide ((unhide hc9).below (B := w.heap.size) (((((Below.refl w.heap.size w9).setCell (p := ⟨w.heap.size, 0, none⟩) (Nat.le_refl _) (.int .i64 z)).setCell (p := ⟨w.heap.size, 1, none⟩) (Nat.le_refl _) (.string nm)).setCell (p := ⟨w.heap.size, 2, none⟩) (Nat.le_refl _) (.string ⟨#[]⟩)).setCell (p := ⟨w.heap.size, 3, none⟩) (Nat.le_refl _) (.string ⟨#[]⟩)) hg)
      replace xF := hide xF
      go_wp2
      refine bodyPost_ret (v := acv ⟨z, nm, ⟨#[]⟩, ⟨#[]⟩⟩) (by simp [results, Try.results48, go_sem, acv, f0, f1, f2, f3]) rfl ?_
      exact ⟨⟨z, nm, ⟨#[]⟩, ⟨#[]⟩⟩, ⟨(by show nm.size ≤ 9; omega), (by show ByteArray.size ⟨#[]⟩ ≤ 9; decide), (by show ByteArray.size ⟨#[]⟩ ≤ 9; decide)⟩, rfl, unhide GF, unhide CF⟩
    · go_wp2_with fail
      go_at_call 42
      refine (l01Pick_txt ((unhide hc4).below ((Below.refl w4.heap.size w4).alloc (Nat.le_refl _) _) (by omega)) hn w4.heap.size 3 3 (by decide) (by decide) (txts3 w4 _) (by omega)).mono ?_
      rintro e w5 ⟨z, hz9, rfl, ho5, hc5⟩
      have xR5 := hide ((unhide xR4).grown (gT (gB ((Below.refl w4.heap.size w4).alloc (Nat.le_refl _) _) (some g)) (gO ho5)) (by simp; omega))
      have xA5 := hide ((unhide xA4).grown (gT (gB ((Below.refl w4.heap.size w4).alloc (Nat.le_refl _) _) (some g)) (gO ho5)) (by simp; omega))
      have G5 := hide (gT (unhide G4) (gT (gB ((Below.refl w4.heap.size w4).alloc (Nat.le_refl _) _) (some g)) (gO ho5)))
      have s5 : w4.heap.size ≤ w5.heap.size := ((gT (gB ((Below.refl w4.heap.size w4).alloc (Nat.le_refl _) _) (some g)) (gO ho5))).size
      replace hc5 := hide hc5
      clear hc4
      replace ho5 := hide ho5
      obtain ⟨p0, p1, p2, p3⟩ := (unhide xA5).at
      have pz := (unhide xA5).frozen
      have lP := (unhide xA5).lt
      have xA9 := hide ((unhide xA5).set1 z)
      have xR9 := hide ((unhide xR5).grown (gS w5 w2.heap.size 1 (.string z)) (by simp; omega))
      have G9 := hide (gTB (unhide G5) ((Below.refl w.heap.size w5).setCell (p := ⟨w2.heap.size, 1, none⟩) (by show w.heap.size ≤ w2.heap.size; omega) (.string z)))
      have hc9 := hide ((unhide hc5).below (B := w.heap.size) ((Below.refl w.heap.size w5).setCell (p := ⟨w2.heap.size, 1, none⟩) (by show w.heap.size ≤ w2.heap.size; omega) (.string z)) hg)
      generalize hW9 : w5.setCell ⟨w2.heap.size, 1, none⟩ (.string z) = w9 at xA9 xR9 G9 hc9
      have s9 : w.heap.size < w9.heap.size := by have := (unhide xA9).lt; omega
      obtain ⟨q0, q1, q2, q3⟩ := (unhide xA9).at
      have lA := (unhide xA9).lt
      obtain ⟨r0, r1, r2, r3⟩ := (unhide xR9).at
      have rz := (unhide xR9).frozen
      have lR := (unhide xR9).lt
      have xF := ((((unhide xR9).set0 4).set1 z).set2 ⟨#[]⟩).set3 ⟨#[]⟩
      obtain ⟨f0, f1, f2, f3⟩ := xF.at
      have GF := hide (gTB (unhide G9) (((((Below.refl w.heap.size w9).setCell (p := ⟨w.heap.size, 0, none⟩) (Nat.le_refl _) (.int .i64 4)).setCell (p := ⟨w.heap.size, 1, none⟩) (Nat.le_refl _) (.string z)).setCell (p := ⟨w.heap.size, 2, none⟩) (Nat.le_refl _) (.string ⟨#[]⟩)).setCell (p := ⟨w.heap.size, 3, none⟩) (Nat.le_refl _) (.string ⟨#[]⟩)))
      have CF := hide ((unhide hc9).below (B := w.heap.size) (((((Below.refl w.heap.size w9).setCell (p := ⟨w.heap.size, 0, none⟩) (Nat.le_refl _) (.int .i64 4)).setCell (p := ⟨w.heap.size, 1, none⟩) (Nat.le_refl _) (.string z)).setCell (p := ⟨w.heap.size, 2, none⟩) (Nat.le_refl _) (.string ⟨#[]⟩)).setCell (p := ⟨w.heap.size, 3, none⟩) (Nat.le_refl _) (.string ⟨#[]⟩)) hg)
      replace xF := hide xF
      go_wp2
      refine bodyPost_ret (v := acv ⟨4, z, ⟨#[]⟩, ⟨#[]⟩⟩) (by simp [results, Try.results48, go_sem, acv, f0, f1, f2, f3]) rfl ?_
      exact ⟨⟨4, z, ⟨#[]⟩, ⟨#[]⟩⟩, ⟨(by show z.size ≤ 9; omega), (by show ByteArray.size ⟨#[]⟩ ≤ 9; decide), (by show ByteArray.size ⟨#[]⟩ ≤ 9; decide)⟩, rfl, unhide GF, unhide CF⟩
    · skip
      obtain ⟨p0, p1, p2, p3⟩ := (unhide xA4).at
      have pz := (unhide xA4).frozen
      have lP := (unhide xA4).lt
      have xA9 := hide ((unhide xA4).set3 ⟨#[120]⟩)
      have xR9 := hide ((unhide xR4).grown (gS w4 w2.heap.size 3 (.string ⟨#[120]⟩)) (by simp; omega))
      have G9 := hide (gTB (unhide G4) ((Below.refl w.heap.size w4).setCell (p := ⟨w2.heap.size, 3, none⟩) (by show w.heap.size ≤ w2.heap.size; omega) (.string ⟨#[120]⟩)))
      have hc9 := hide ((unhide hc4).below (B := w.heap.size) ((Below.refl w.heap.size w4).setCell (p := ⟨w2.heap.size, 3, none⟩) (by show w.heap.size ≤ w2.heap.size; omega) (.string ⟨#[120]⟩)) hg)
      generalize hW9 : w4.setCell ⟨w2.heap.size, 3, none⟩ (.string ⟨#[120]⟩) = w9 at xA9 xR9 G9 hc9
      have s9 : w.heap.size < w9.heap.size := by have := (unhide xA9).lt; omega
      obtain ⟨q0, q1, q2, q3⟩ := (unhide xA9).at
      have lA := (unhide xA9).lt
      obtain ⟨r0, r1, r2, r3⟩ := (unhide xR9).at
      have rz := (unhide xR9).frozen
      have lR := (unhide xR9).lt
      have xF := ((((unhide xR9).set0 4).set1 nm).set2 ⟨#[]⟩).set3 ⟨#[120]⟩
      obtain ⟨f0, f1, f2, f3⟩ := xF.at
      have GF := hide (gTB (unhide G9) (((((Below.refl w.heap.size w9).setCell (p := ⟨w.heap.size, 0, none⟩) (Nat.le_refl _) (.int .i64 4)).setCell (p := ⟨w.heap.size, 1, none⟩) (Nat.le_refl _) (.string nm)).setCell (p := ⟨w.heap.size, 2, none⟩) (Nat.le_refl _) (.string ⟨#[]⟩)).setCell (p := ⟨w.heap.size, 3, none⟩) (Nat.le_refl _) (.string ⟨#[120]⟩)))
      have CF := hide ((unhide hc9).below (B := w.heap.size) (((((Below.refl w.heap.size w9).setCell (p := ⟨w.heap.size, 0, none⟩) (Nat.le_refl _) (.int .i64 4)).setCell (p := ⟨w.heap.size, 1, none⟩) (Nat.le_refl _) (.string nm)).setCell (p := ⟨w.heap.size, 2, none⟩) (Nat.le_refl _) (.string ⟨#[]⟩)).setCell (p := ⟨w.heap.size, 3, none⟩) (Nat.le_refl _) (.string ⟨#[120]⟩)) hg)
      replace xF := hide xF
      go_wp2
      refine bodyPost_ret (v := acv ⟨4, nm, ⟨#[]⟩, ⟨#[120]⟩⟩) (by simp [results, Try.results48, go_sem, acv, f0, f1, f2, f3]) rfl ?_
      exact ⟨⟨4, nm, ⟨#[]⟩, ⟨#[120]⟩⟩, ⟨(by show nm.size ≤ 9; omega), (by show ByteArray.size ⟨#[]⟩ ≤ 9; decide), (by show ByteArray.size ⟨#[120]⟩ ≤ 9; decide)⟩, rfl, unhide GF, unhide CF⟩
    · skip
      obtain ⟨p0, p1, p2, p3⟩ := (unhide xA4).at
      have pz := (unhide xA4).frozen
      have lP := (unhide xA4).lt
      have xA9 := hide ((unhide xA4).set2 ⟨#[120]⟩)
      have xR9 := hide ((unhide xR4).grown (gS w4 w2.heap.size 2 (.string ⟨#[120]⟩)) (by simp; omega))
      have G9 := hide (gTB (unhide G4) ((Below.refl w.heap.size w4).setCell (p := ⟨w2.heap.size, 2, none⟩) (by show w.heap.size ≤ w2.heap.size; omega) (.string ⟨#[120]⟩)))
      have hc9 := hide ((unhide hc4).below (B := w.heap.size) ((Below.refl w.heap.size w4).setCell (p := ⟨w2.heap.size, 2, none⟩) (by show w.heap.size ≤ w2.heap.size; omega) (.string ⟨#[120]⟩)) hg)
      generalize hW9 : w4.setCell ⟨w2.heap.size, 2, none⟩ (.string ⟨#[120]⟩) = w9 at xA9 xR9 G9 hc9
      have s9 : w.heap.size < w9.heap.size := by have := (unhide xA9).lt; omega
      obtain ⟨q0, q1, q2, q3⟩ := (unhide xA9).at
      have lA := (unhide xA9).lt
      obtain ⟨r0, r1, r2, r3⟩ := (unhide xR9).at
      have rz := (unhide xR9).frozen
      have lR := (unhide xR9).lt
      have xF := ((((unhide xR9).set0 4).set1 nm).set2 ⟨#[120]⟩).set3 ⟨#[]⟩
      obtain ⟨f0, f1, f2, f3⟩ := xF.at
      have GF := hide (gTB (unhide G9) (((((Below.refl w.heap.size w9).setCell (p := ⟨w.heap.size, 0, none⟩) (Nat.le_refl _) (.int .i64 4)).setCell (p := ⟨w.heap.size, 1, none⟩) (Nat.le_refl _) (.string nm)).setCell (p := ⟨w.heap.size, 2, none⟩) (Nat.le_refl _) (.string ⟨#[120]⟩)).setCell (p := ⟨w.heap.size, 3, none⟩) (Nat.le_refl _) (.string ⟨#[]⟩)))
      have CF := hide ((unhide hc9).below (B := w.heap.size) (((((Below.refl w.heap.size w9).setCell (p := ⟨w.heap.size, 0, none⟩) (Nat.le_refl _) (.int .i64 4)).setCell (p := ⟨w.heap.size, 1, none⟩) (Nat.le_refl _) (.string nm)).setCell (p := ⟨w.heap.size, 2, none⟩) (Nat.le_refl _) (.string ⟨#[120]⟩)).setCell (p := ⟨w.heap.size, 3, none⟩) (Nat.le_refl _) (.string ⟨#[]⟩)) hg)
      replace xF := hide xF
      go_wp2
      refine bodyPost_ret (v := acv ⟨4, nm, ⟨#[120]⟩, ⟨#[]⟩⟩) (by simp [results, Try.results48, go_sem, acv, f0, f1, f2, f3]) rfl ?_
      exact ⟨⟨4, nm, ⟨#[120]⟩, ⟨#[]⟩⟩, ⟨(by show nm.size ≤ 9; omega), (by show ByteArray.size ⟨#[120]⟩ ≤ 9; decide), (by show ByteArray.size ⟨#[]⟩ ≤ 9; decide)⟩, rfl, unhide GF, unhide CF⟩
    · have n0 : ((y : Int) == 0) = false := by rw [beq_eq_false_iff_ne]; omega
      have n1 : ((y : Int) == 1) = false := by rw [beq_eq_false_iff_ne]; omega
      have n2 : ((y : Int) == 2) = false := by rw [beq_eq_false_iff_ne]; omega
      have n3 : ((y : Int) == 3) = false := by rw [beq_eq_false_iff_ne]; omega
      obtain ⟨q0, q1, q2, q3⟩ := (unhide xA4).at
      have lA := (unhide xA4).lt
      obtain ⟨r0, r1, r2, r3⟩ := (unhide xR4).at
      have rz := (unhide xR4).frozen
      have lR := (unhide xR4).lt
      have xF := ((((unhide xR4).set0 4).set1 nm).set2 ⟨#[]⟩).set3 ⟨#[]⟩
      obtain ⟨f0, f1, f2, f3⟩ := xF.at
      have GF := hide (gTB (unhide G4) (((((Below.refl w.heap.size w4).setCell (p := ⟨w.heap.size, 0, none⟩) (Nat.le_refl _) (.int .i64 4)).setCell (p := ⟨w.heap.size, 1, none⟩) (Nat.le_refl _) (.string nm)).setCell (p := ⟨w.heap.size, 2, none⟩) (Nat.le_refl _) (.string ⟨#[]⟩)).setCell (p := ⟨w.heap.size, 3, none⟩) (Nat.le_refl _) (.string ⟨#[]⟩)))
      have CF := hide ((unhide hc4).below (B := w.heap.size) (((((Below.refl w.heap.size w4).setCell (p := ⟨w.heap.size, 0, none⟩) (Nat.le_refl _) (.int .i64 4)).setCell (p := ⟨w.heap.size, 1, none⟩) (Nat.le_refl _) (.string nm)).setCell (p := ⟨w.heap.size, 2, none⟩) (Nat.le_refl _) (.string ⟨#[]⟩)).setCell (p := ⟨w.heap.size, 3, none⟩) (Nat.le_refl _) (.string ⟨#[]⟩)) hg)
      replace xF := hide xF
      go_wp2
      refine bodyPost_ret (v := acv ⟨4, nm, ⟨#[]⟩, ⟨#[]⟩⟩) (by simp [results, Try.results48, go_sem, acv, f0, f1, f2, f3]) rfl ?_
      exact ⟨⟨4, nm, ⟨#[]⟩, ⟨#[]⟩⟩, ⟨(by show nm.size ≤ 9; omega), (by show ByteArray.size ⟨#[]⟩ ≤ 9; decide), (by show ByteArray.size ⟨#[]⟩ ≤ 9; decide)⟩, rfl, unhide GF, unhide CF⟩
end Go.Proofs.Ytkaaabpodhgbpaa
