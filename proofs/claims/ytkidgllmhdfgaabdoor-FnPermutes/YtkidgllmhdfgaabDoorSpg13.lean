/- Streams taken from, by impl, over the loaded program: what is given. -/
import Derived.Test.YtkidgllmhdfgaabDoorSpg12
import Derived.Test.YtkidgllmhdfgaabDoorRnd
namespace Go.Proofs.YtkidgllmhdfgaabDoor
open Go.RowKit
theorem LnAt.sb {w : World} {g h k : Nat} {T : TypeId} {l : List Nat} (hA : LnAt w g T l) (v : Value) (hne : g ≠ h) : LnAt (w.setCell ⟨h, k, none⟩ v) g T l := hA.set_other hne v
def endS (st : ByteArray) (p n : Nat) : Gv := gvEnd n ⟨lanesS st, p, []⟩
theorem neqLanes (l l' : List Nat) (hl : l.length = 25) (hl' : l'.length = 25) (W : World) : (binOp .neq 45 (aggL l) (aggL l')).run Tryd.prog W = .ok (.bool (!(decide (l = l')))) W := by
  unfold aggL
  rw [run_neq_struct]
  have := run_equal_lanes (P := Tryd.prog) W 9997 45 43 42 Tryd.underlying45 Tryd.underlying43 Tryd.underlying42 (fun w => by kernel_rfl) (fun w => by kernel_rfl) l l' hl hl'
  unfold aggL at this
  rw [this]
  rfl
theorem guardLanes (x y : Operand) (l l' : List Nat) (W : World) : (eqGuard .neq 45 x y (aggL l) (aggL l')).run Tryd.prog W = .ok () W := by
  have h : Tryd.prog.eqGuardType Tryd.prog.depth 45 = false := by kernel_rfl
  unfold eqGuard aggL
  simp [Sem.run_bind, run_program, h]
set_option maxRecDepth 20000 in
set_option maxHeartbeats 1000000 in
theorem implTake_same (st : ByteArray) (p n : Nat) (h2 : st.size = 200) (hp : p ≤ 168) (hn : n ≤ 4000) (w : World) (hL : Laid w) (hcase : (endS st p n).a = lanesS st) :
    Calls Tryd.prog 11 #[smv ⟨st, (p : Int)⟩, .int .i64 (n : Int)] w fun e w' => e = .returned (.tuple #[smv ⟨textN (endS st p n).a, ((endS st p n).p : Int)⟩, .string ⟨(endS st p n).out.toArray⟩]) ∧ Below w.heap.size w w' := by
  have hx : st.size ≤ 140737488351232 := by omega
  have hlg := hL.lt
  have HL := hide hL
  clear hL
  have C1 := hide (fun W => clone_all st W (by omega))
  have C2 := hide (fun W => streamOk_any ⟨st, (p : Int)⟩ (show st.size ≤ maxLen by unfold maxLen; omega) W)
  unfold smv at C2
  dsimp only at C2
  rw [show okS ⟨st, (p : Int)⟩ = true by unfold okS; dsimp only; rw [decide_eq_true h2, decide_eq_true (by omega), decide_eq_true (by omega)]; rfl] at C2
  have C3 := hide (fun W => shakeSize_any (n : Int) W)
  rw [show (decide (0 ≤ (n : Int)) && decide ((n : Int) ≤ 4000)) = true by simp; omega] at C3
  have C4 := hide (fun W => lanesIn_any st (by omega) W)
  have hok := lanesS_ok st
  have hi := hide (info25 hok.1)
  have hzl := hide (show zeros25.length = (lanesS st).length by rw [hok.1]; rfl)
  have C5 : Hid (∀ g W, 0 ≠ g → Laid W → LnAt W g 45 (lanesS st) → Calls Tryd.prog 26 #[.pointer (some ⟨g, 0, none⟩), .int .i64 (p : Int), .int .i64 (n : Int)] W fun e w' => e = .returned (.tuple #[.string ⟨(endS st p n).out.toArray⟩, .int .i64 ((endS st p n).p : Int)]) ∧ LnAt w' g 45 (endS st p n).a ∧ W.grownBy w' (some g)) := hide (fun g W hne hL hW => give_any (lanesS st) hok p n hp hn g W hne hL hW)
  have hgok : LanesOk (endS st p n).a := (gvRun_ok (n := n) (g := ⟨lanesS st, p, []⟩) ⟨hok, hp, Nat.zero_le _⟩ n).1
  have hi2 := hide (info25 hgok.1)
  have hgrd := guardLanes (.tmp 39) (.tmp 40) (endS st p n).a (lanesS st)
  have hcmp := neqLanes (endS st p n).a (lanesS st) hgok.1 hok.1
  rw [decide_eq_true hcase, Bool.not_true] at hcmp
  have C6 := hide (fun g W hW => lanesBytes_any (endS st p n).a hgok g W hW)
  have HTX : Hid (textN (endS st p n).a = st) := hide (by rw [hcase]; exact text_lanes st h2)
  replace hcase := hide hcase
  generalize endS st p n = ge at *
  obtain ⟨ga, gp, go⟩ := ge
  dsimp only at *
  generalize lanesS st = l at *
  clear C6
  obtain ⟨pz, hpz⟩ : ∃ pz, pz = (p : Int) := ⟨_, rfl⟩
  rw [← hpz] at C2 C5 ⊢
  replace hpz := hide hpz
  clear hok hgok h2
  unfold smv
  dsimp only
  go_enter Tryd.func11, Tryd.ntmps11
  go_wp2
  obtain ⟨W, hW, hB, hR, hb, hlt⟩ := two_sm w ⟨st, pz⟩ s0 30 30
  unfold s0 at hW
  dsimp only at hW
  rw [hW]
  clear hW
  have k0 := hB.c0
  have k1 := hB.c1
  dsimp only at k0 k1
  have hl := hB.lt
  have k0a := (hB.alloc (.cells #[.string ⟨#[]⟩, .int .i64 0] 30)).c0
  have k1a := (hB.alloc (.cells #[.string ⟨#[]⟩, .int .i64 0] 30)).c1
  dsimp only at k0a k1a
  have hNew : Hid (SB (W.alloc (.cells #[.string ⟨#[]⟩, .int .i64 0] 30)) W.heap.size 30 s0) := hide (heap_alloc_new W _)
  have hlb : Hid (w.heap.size ≠ W.heap.size) := hide (by omega)
  go_region_held3 (fun V => V.cell? ⟨w.heap.size, 0, none⟩ = some (.string st) ∧ V.cell? ⟨w.heap.size, 1, none⟩ = some (.int .i64 pz)) (first
      | exact ⟨k0, k1⟩ | exact ⟨k0a, k1a⟩ | exact ⟨k05, k15⟩ | exact ⟨k05a, k15a⟩ | exact ⟨k05b, k15b⟩ | exact ⟨cell_off (cell_off k05 (unhide hlb)) (unhide hlb), cell_off (cell_off k15 (unhide hlb)) (unhide hlb)⟩ | exact ⟨cell_off (cell_off k05a (unhide hlb5)) (unhide hlb5), cell_off (cell_off k15a (unhide hlb5)) (unhide hlb5)⟩ | fail) (first
      | (go_at_call 28; refine ((unhide C1) _).mono ?_; rintro e w5 ⟨rfl, hb5⟩; have hB5 := SB.step (by first | exact hB | exact hB.alloc _) hb5; have k15 := hB5.c1; have k05 := hB5.c0; have k05a := (hB5.alloc (.cells #[.string ⟨#[]⟩, .int .i64 0] 30)).c0; have k15a := (hB5.alloc (.cells #[.string ⟨#[]⟩, .int .i64 0] 30)).c1; have k05b := (hB5.alloc (.cells #[.string st, .int .i64 pz] 30)).c0; have k15b := (hB5.alloc (.cells #[.string st, .int .i64 pz] 30)).c1; dsimp only at k15 k05 k05a k15a k05b k15b; have hlb5 : Hid (w.heap.size ≠ w5.heap.size) := hide (by have := hB5.lt; omega); try (have hN5 := SB.step (g := W.heap.size) (T := 30) (a := s0) (by exact unhide hNew) hb5; have n0 := hN5.c0; have n1 := hN5.c1; have f0 := hN5.frozen 0; have f1 := hN5.frozen 1)))
  all_goals first
    | (obtain ⟨b, w6, hN6, hB6, hR6, hb6, hlb6, eb, ew⟩ := take_joinA w W w5 st pz 30 hB hR hb hlt hb5; rw [ew, eb])
    | (obtain ⟨b, w6, hN6, hB6, hR6, hb6, hlb6, eb, ew⟩ := take_joinB w W w5 st pz 30 hB hR hb hlt hb5; rw [ew, eb])
  all_goals (clear eb ew hb5 hB5 hNew hlb hB hR hb hlt k0 k1 k0a k1a k15 k05 k05a k15a k05b k15b hlb5 hl C1)
  all_goals (
    have j0 := hB6.c0
    have j1 := hB6.c1
    dsimp only at j0 j1
    have hs6 := hN6.lt
    have hL6 := hide ((unhide HL).below hb6)
    replace hN6 := hide hN6
    replace hB6 := hide hB6
    replace hR6 := hide hR6
    replace hb6 := hide hb6
    go_wp2_with fail
    refine ((unhide C2) w6).mono ?_
    rintro e w7 ⟨rfl, hb7⟩
    have hN7 := hide ((unhide hN6).step hb7)
    have hB7 := hide ((unhide hB6).step hb7)
    have hR7 := hide ((unhide hR6).step hb7)
    have hL7 := hide ((unhide hL6).below hb7)
    have j0 := (unhide hB7).c0
    have j1 := (unhide hB7).c1
    dsimp only at j0 j1
    have HT7 := hide ((unhide hb6).trans (hb7.mono (by omega)))
    have hs7 := (unhide hN7).lt
    clear hb7 hN6 hB6 hR6 hb6 hL6
    go_wp2_with fail
    refine ((unhide C3) w7).mono ?_
    rintro e w8 ⟨rfl, rfl⟩
    go_wp2_with fail
    refine ((unhide C4) w8).mono ?_
    rintro e w9 ⟨rfl, hb9⟩
    have hN9 := hide ((unhide hN7).step hb9)
    have hB9 := hide ((unhide hB7).step hb9)
    have hR9 := hide ((unhide hR7).step hb9)
    have hL9 := hide ((unhide hL7).below hb9)
    have HT9 := hide ((unhide HT7).trans (hb9.mono (by omega)))
    have hs9 := (unhide hN9).lt
    have HZ := hide (one_z25 w9 45)
    clear hb9 hN7 hB7 hR7 hL7 HT7 j0 j1
    go_wp2_with (first
      | (refine wpList_store_lan_as rfl 45 (.tmp 7) (.tmp 28) rfl w9.heap.size l zeros25 rfl rfl 45 (unhide HZ).1 (unhide hi) (unhide hzl) ?_; intro wa hAa _ hBa; have hba := (unhide HZ).2.trans hBa; have hNa := hide ((unhide hN9).step hba); have hBb := hide ((unhide hB9).step hba); have hRa := hide ((unhide hR9).step hba); have hLa := hide ((unhide hL9).below hba); have HTa := hide ((unhide HT9).trans (hba.mono (by omega))); have hsa := hAa.lt; have HZ2 := hide (one_z25 wa 45); replace hAa := hide hAa; clear hBa hba HZ hN9 hB9 hR9 hL9 HT9)
      | (refine wpList_load_lan rfl 45 (.tmp 7) rfl w9.heap.size rfl 45 l (unhide hAa) _ _ Tryd.underlying45 (unhide hi) ?_)
      | (refine wpList_store_lan_as rfl 45 (.tmp 8) (.tmp 29) rfl wa.heap.size l zeros25 rfl rfl 45 (unhide HZ2).1 (unhide hi) (unhide hzl) ?_; intro wb hAb _ hBc; have hbb := (unhide HZ2).2.trans hBc; have hNb := hide ((unhide hNa).step hbb); have hBd := (unhide hBb).step hbb; have hRb := hide ((unhide hRa).step hbb); have hLb := hide ((unhide hLa).below hbb); have HTb := hide ((unhide HTa).trans (hbb.mono (by omega))); have hA7 := hide ((unhide hAa).below hbb hsa); have hsb := hAb.lt; have y1 := hBd.c1; dsimp only at y1; replace hAb := hide hAb; replace hBd := hide hBd; clear hBc hbb HZ2 hNa hBb hRa hLa HTa hAa))
    refine ((unhide C5) _ wb (by omega) (unhide hLb) (unhide hAb)).mono ?_
    rintro e wc ⟨rfl, hAc, hgc⟩
    have hNc := (unhide hNb).grown hgc (by omega)
    have hRc := hide ((unhide hRb).grown hgc (by omega))
    have hA7c := hide ((unhide hA7).grown hgc (by omega))
    have hsb2 := (unhide HTb).size
    have HTc := hide (bel_grown (unhide HTb) hgc hsb2 (by omega))
    have n1 := hNc.c1
    have fn1 := hNc.frozen 1
    have hNd := hide (hNc.set1 (gp : Int))
    have hRd := hide ((unhide hRc).set_other (h := b) (k := 1) (by omega) (.int .i64 (gp : Int)))
    have hA7d := hide ((unhide hA7c).set_other (h := b) (k := 1) (by omega) (.int .i64 (gp : Int)))
    have hA8d := hide (hAc.set_other (h := b) (k := 1) (by omega) (.int .i64 (gp : Int)))
    have HTd := hide ((unhide HTc).setCell (p := ⟨b, 1, none⟩) (show w.heap.size ≤ b by omega) (.int .i64 (gp : Int)))
    clear hNc hRc hA7c HTc hAc hgc hNb hRb hLb HTb hA7 hAb hBd y1
    go_wp2_with (first
      | (refine wpList_load_lan rfl 45 (.tmp 8) rfl wa.heap.size rfl 45 ga (unhide hA8d) _ _ Tryd.underlying45 (unhide hi2) ?_)
      | (refine wpList_load_lan rfl 45 (.tmp 7) rfl w9.heap.size rfl 45 l (unhide hA7d) _ _ Tryd.underlying45 (unhide hi) ?_; have i0 := (unhide hNd).c0; have i1 := (unhide hNd).c1; have r0 := (unhide hRd).c0; have r1 := (unhide hRd).c1; have q0 := (unhide hRd).frozen 0; have q1 := (unhide hRd).frozen 1; dsimp only at i0 i1))
    refine bodyPost_ret (v := .tuple #[smv ⟨st, (gp : Int)⟩, .string ⟨go.toArray⟩]) ?_ rfl ⟨by rw [unhide HTX]; rfl, ((unhide HTd).setCell (p := ⟨w.heap.size + 1, 0, none⟩) (by show w.heap.size ≤ w.heap.size + 1; omega) _).setCell (p := ⟨w.heap.size + 1, 1, none⟩) (by show w.heap.size ≤ w.heap.size + 1; omega) _⟩
    have hF := (unhide hRd).set2 ⟨st, (gp : Int)⟩
    have g0 := hF.c0
    have g1 := hF.c1
    dsimp only at g0 g1
    simp [results, Tryd.results11, go_sem, smv, g0, g1])
set_option maxRecDepth 20000 in
set_option maxHeartbeats 1000000 in
theorem implTake_diff (st : ByteArray) (p n : Nat) (h2 : st.size = 200) (hp : p ≤ 168) (hn : n ≤ 4000) (w : World) (hL : Laid w) (hcase : ¬ (endS st p n).a = lanesS st) :
    Calls Tryd.prog 11 #[smv ⟨st, (p : Int)⟩, .int .i64 (n : Int)] w fun e w' => e = .returned (.tuple #[smv ⟨textN (endS st p n).a, ((endS st p n).p : Int)⟩, .string ⟨(endS st p n).out.toArray⟩]) ∧ Below w.heap.size w w' := by
  have hx : st.size ≤ 140737488351232 := by omega
  have hlg := hL.lt
  have HL := hide hL
  clear hL
  have C1 := hide (fun W => clone_all st W (by omega))
  have C2 := hide (fun W => streamOk_any ⟨st, (p : Int)⟩ (show st.size ≤ maxLen by unfold maxLen; omega) W)
  unfold smv at C2
  dsimp only at C2
  rw [show okS ⟨st, (p : Int)⟩ = true by unfold okS; dsimp only; rw [decide_eq_true h2, decide_eq_true (by omega), decide_eq_true (by omega)]; rfl] at C2
  have C3 := hide (fun W => shakeSize_any (n : Int) W)
  rw [show (decide (0 ≤ (n : Int)) && decide ((n : Int) ≤ 4000)) = true by simp; omega] at C3
  have C4 := hide (fun W => lanesIn_any st (by omega) W)
  have hok := lanesS_ok st
  have hi := hide (info25 hok.1)
  have hzl := hide (show zeros25.length = (lanesS st).length by rw [hok.1]; rfl)
  have C5 : Hid (∀ g W, 0 ≠ g → Laid W → LnAt W g 45 (lanesS st) → Calls Tryd.prog 26 #[.pointer (some ⟨g, 0, none⟩), .int .i64 (p : Int), .int .i64 (n : Int)] W fun e w' => e = .returned (.tuple #[.string ⟨(endS st p n).out.toArray⟩, .int .i64 ((endS st p n).p : Int)]) ∧ LnAt w' g 45 (endS st p n).a ∧ W.grownBy w' (some g)) := hide (fun g W hne hL hW => give_any (lanesS st) hok p n hp hn g W hne hL hW)
  have hgok : LanesOk (endS st p n).a := (gvRun_ok (n := n) (g := ⟨lanesS st, p, []⟩) ⟨hok, hp, Nat.zero_le _⟩ n).1
  have hi2 := hide (info25 hgok.1)
  have hgrd := guardLanes (.tmp 39) (.tmp 40) (endS st p n).a (lanesS st)
  have hcmp := neqLanes (endS st p n).a (lanesS st) hgok.1 hok.1
  rw [decide_eq_false hcase, Bool.not_false] at hcmp
  have C6 := hide (fun g W hW => lanesBytes_any (endS st p n).a hgok g W hW)
  replace hcase := hide hcase
  generalize endS st p n = ge at *
  obtain ⟨ga, gp, go⟩ := ge
  dsimp only at *
  generalize lanesS st = l at *
  generalize textN ga = out at *
  obtain ⟨pz, hpz⟩ : ∃ pz, pz = (p : Int) := ⟨_, rfl⟩
  rw [← hpz] at C2 C5 ⊢
  replace hpz := hide hpz
  clear hok hgok h2
  unfold smv
  dsimp only
  go_enter Tryd.func11, Tryd.ntmps11
  go_wp2
  obtain ⟨W, hW, hB, hR, hb, hlt⟩ := two_sm w ⟨st, pz⟩ s0 30 30
  unfold s0 at hW
  dsimp only at hW
  rw [hW]
  clear hW
  have k0 := hB.c0
  have k1 := hB.c1
  dsimp only at k0 k1
  have hl := hB.lt
  have k0a := (hB.alloc (.cells #[.string ⟨#[]⟩, .int .i64 0] 30)).c0
  have k1a := (hB.alloc (.cells #[.string ⟨#[]⟩, .int .i64 0] 30)).c1
  dsimp only at k0a k1a
  have hNew : Hid (SB (W.alloc (.cells #[.string ⟨#[]⟩, .int .i64 0] 30)) W.heap.size 30 s0) := hide (heap_alloc_new W _)
  have hlb : Hid (w.heap.size ≠ W.heap.size) := hide (by omega)
  go_region_held3 (fun V => V.cell? ⟨w.heap.size, 0, none⟩ = some (.string st) ∧ V.cell? ⟨w.heap.size, 1, none⟩ = some (.int .i64 pz)) (first
      | exact ⟨k0, k1⟩ | exact ⟨k0a, k1a⟩ | exact ⟨k05, k15⟩ | exact ⟨k05a, k15a⟩ | exact ⟨k05b, k15b⟩ | exact ⟨cell_off (cell_off k05 (unhide hlb)) (unhide hlb), cell_off (cell_off k15 (unhide hlb)) (unhide hlb)⟩ | exact ⟨cell_off (cell_off k05a (unhide hlb5)) (unhide hlb5), cell_off (cell_off k15a (unhide hlb5)) (unhide hlb5)⟩ | fail) (first
      | (go_at_call 28; refine ((unhide C1) _).mono ?_; rintro e w5 ⟨rfl, hb5⟩; have hB5 := SB.step (by first | exact hB | exact hB.alloc _) hb5; have k15 := hB5.c1; have k05 := hB5.c0; have k05a := (hB5.alloc (.cells #[.string ⟨#[]⟩, .int .i64 0] 30)).c0; have k15a := (hB5.alloc (.cells #[.string ⟨#[]⟩, .int .i64 0] 30)).c1; have k05b := (hB5.alloc (.cells #[.string st, .int .i64 pz] 30)).c0; have k15b := (hB5.alloc (.cells #[.string st, .int .i64 pz] 30)).c1; dsimp only at k15 k05 k05a k15a k05b k15b; have hlb5 : Hid (w.heap.size ≠ w5.heap.size) := hide (by have := hB5.lt; omega); try (have hN5 := SB.step (g := W.heap.size) (T := 30) (a := s0) (by exact unhide hNew) hb5; have n0 := hN5.c0; have n1 := hN5.c1; have f0 := hN5.frozen 0; have f1 := hN5.frozen 1)))
  all_goals first
    | (obtain ⟨b, w6, hN6, hB6, hR6, hb6, hlb6, eb, ew⟩ := take_joinA w W w5 st pz 30 hB hR hb hlt hb5; rw [ew, eb])
    | (obtain ⟨b, w6, hN6, hB6, hR6, hb6, hlb6, eb, ew⟩ := take_joinB w W w5 st pz 30 hB hR hb hlt hb5; rw [ew, eb])
  all_goals (clear eb ew hb5 hB5 hNew hlb hB hR hb hlt k0 k1 k0a k1a k15 k05 k05a k15a k05b k15b hlb5 hl C1)
  all_goals (
    have j0 := hB6.c0
    have j1 := hB6.c1
    dsimp only at j0 j1
    have hs6 := hN6.lt
    have hL6 := hide ((unhide HL).below hb6)
    replace hN6 := hide hN6
    replace hB6 := hide hB6
    replace hR6 := hide hR6
    replace hb6 := hide hb6
    go_wp2_with fail
    refine ((unhide C2) w6).mono ?_
    rintro e w7 ⟨rfl, hb7⟩
    have hN7 := hide ((unhide hN6).step hb7)
    have hB7 := hide ((unhide hB6).step hb7)
    have hR7 := hide ((unhide hR6).step hb7)
    have hL7 := hide ((unhide hL6).below hb7)
    have j0 := (unhide hB7).c0
    have j1 := (unhide hB7).c1
    dsimp only at j0 j1
    have HT7 := hide ((unhide hb6).trans (hb7.mono (by omega)))
    have hs7 := (unhide hN7).lt
    clear hb7 hN6 hB6 hR6 hb6 hL6
    go_wp2_with fail
    refine ((unhide C3) w7).mono ?_
    rintro e w8 ⟨rfl, rfl⟩
    go_wp2_with fail
    refine ((unhide C4) w8).mono ?_
    rintro e w9 ⟨rfl, hb9⟩
    have hN9 := hide ((unhide hN7).step hb9)
    have hB9 := hide ((unhide hB7).step hb9)
    have hR9 := hide ((unhide hR7).step hb9)
    have hL9 := hide ((unhide hL7).below hb9)
    have HT9 := hide ((unhide HT7).trans (hb9.mono (by omega)))
    have hs9 := (unhide hN9).lt
    have HZ := hide (one_z25 w9 45)
    clear hb9 hN7 hB7 hR7 hL7 HT7 j0 j1
    go_wp2_with (first
      | (refine wpList_store_lan_as rfl 45 (.tmp 7) (.tmp 28) rfl w9.heap.size l zeros25 rfl rfl 45 (unhide HZ).1 (unhide hi) (unhide hzl) ?_; intro wa hAa _ hBa; have hba := (unhide HZ).2.trans hBa; have hNa := hide ((unhide hN9).step hba); have hBb := hide ((unhide hB9).step hba); have hRa := hide ((unhide hR9).step hba); have hLa := hide ((unhide hL9).below hba); have HTa := hide ((unhide HT9).trans (hba.mono (by omega))); have hsa := hAa.lt; have HZ2 := hide (one_z25 wa 45); replace hAa := hide hAa; clear hBa hba HZ hN9 hB9 hR9 hL9 HT9)
      | (refine wpList_load_lan rfl 45 (.tmp 7) rfl w9.heap.size rfl 45 l (unhide hAa) _ _ Tryd.underlying45 (unhide hi) ?_)
      | (refine wpList_store_lan_as rfl 45 (.tmp 8) (.tmp 29) rfl wa.heap.size l zeros25 rfl rfl 45 (unhide HZ2).1 (unhide hi) (unhide hzl) ?_; intro wb hAb _ hBc; have hbb := (unhide HZ2).2.trans hBc; have hNb := hide ((unhide hNa).step hbb); have hBd := (unhide hBb).step hbb; have hRb := hide ((unhide hRa).step hbb); have hLb := hide ((unhide hLa).below hbb); have HTb := hide ((unhide HTa).trans (hbb.mono (by omega))); have hA7 := hide ((unhide hAa).below hbb hsa); have hsb := hAb.lt; have y1 := hBd.c1; dsimp only at y1; replace hAb := hide hAb; replace hBd := hide hBd; clear hBc hbb HZ2 hNa hBb hRa hLa HTa hAa))
    refine ((unhide C5) _ wb (by omega) (unhide hLb) (unhide hAb)).mono ?_
    rintro e wc ⟨rfl, hAc, hgc⟩
    have hNc := (unhide hNb).grown hgc (by omega)
    have hRc := hide ((unhide hRb).grown hgc (by omega))
    have hA7c := hide ((unhide hA7).grown hgc (by omega))
    have hsb2 := (unhide HTb).size
    have HTc := hide (bel_grown (unhide HTb) hgc hsb2 (by omega))
    have n1 := hNc.c1
    have fn1 := hNc.frozen 1
    have hNd := hide (hNc.set1 (gp : Int))
    have hRd := hide ((unhide hRc).set_other (h := b) (k := 1) (by omega) (.int .i64 (gp : Int)))
    have hA7d := hide ((unhide hA7c).set_other (h := b) (k := 1) (by omega) (.int .i64 (gp : Int)))
    have hA8d := hide (hAc.set_other (h := b) (k := 1) (by omega) (.int .i64 (gp : Int)))
    have HTd := hide ((unhide HTc).setCell (p := ⟨b, 1, none⟩) (show w.heap.size ≤ b by omega) (.int .i64 (gp : Int)))
    clear hNc hRc hA7c HTc hAc hgc hNb hRb hLb HTb hA7 hAb hBd y1
    go_wp2_with (first
      | (refine wpList_load_lan rfl 45 (.tmp 8) rfl wa.heap.size rfl 45 ga (unhide hA8d) _ _ Tryd.underlying45 (unhide hi2) ?_)
      | (refine wpList_load_lan rfl 45 (.tmp 7) rfl w9.heap.size rfl 45 l (unhide hA7d) _ _ Tryd.underlying45 (unhide hi) ?_))
    refine ((unhide C6) _ _ (unhide hA8d)).mono ?_
    rintro e we ⟨rfl, hbe⟩
    have hNe := (unhide hNd).step hbe
    have hRe := hide ((unhide hRd).step hbe)
    have hsd := (unhide HTd).size
    have HTe := hide ((unhide HTd).trans (hbe.mono hsd))
    have n0 := hNe.c0
    have fn0 := hNe.frozen 0
    have hNf := hNe.set0 out
    have hRf := hide ((unhide hRe).set_other (h := b) (k := 0) (by omega) (.string out))
    have HTf := hide ((unhide HTe).setCell (p := ⟨b, 0, none⟩) (show w.heap.size ≤ b by omega) (.string out))
    have i0 := hNf.c0
    have i1 := hNf.c1
    have r0 := (unhide hRf).c0
    have r1 := (unhide hRf).c1
    have q0 := (unhide hRf).frozen 0
    have q1 := (unhide hRf).frozen 1
    dsimp only at i0 i1
    replace hNf := hide hNf
    replace hNe := hide hNe
    clear hbe hA8d hA7d hNd hRd HTd hsd
    go_wp2
    refine bodyPost_ret (v := .tuple #[smv ⟨out, (gp : Int)⟩, .string ⟨go.toArray⟩]) ?_ rfl ⟨rfl, ((unhide HTf).setCell (p := ⟨w.heap.size + 1, 0, none⟩) (by show w.heap.size ≤ w.heap.size + 1; omega) _).setCell (p := ⟨w.heap.size + 1, 1, none⟩) (by show w.heap.size ≤ w.heap.size + 1; omega) _⟩
    have hF := (unhide hRf).set2 ⟨out, (gp : Int)⟩
    have g0 := hF.c0
    have g1 := hF.c1
    dsimp only at g0 g1
    simp [results, Tryd.results11, go_sem, smv, g0, g1])
theorem implTake_yes (st : ByteArray) (p n : Nat) (h2 : st.size = 200) (hp : p ≤ 168) (hn : n ≤ 4000) (w : World) (hL : Laid w) :
    Calls Tryd.prog 11 #[smv ⟨st, (p : Int)⟩, .int .i64 (n : Int)] w fun e w' => e = .returned (.tuple #[smv ⟨textN (endS st p n).a, ((endS st p n).p : Int)⟩, .string ⟨(endS st p n).out.toArray⟩]) ∧ Below w.heap.size w w' := by
  by_cases h : (endS st p n).a = lanesS st
  · exact implTake_same st p n h2 hp hn w hL h
  · exact implTake_diff st p n h2 hp hn w hL h
end Go.Proofs.YtkidgllmhdfgaabDoor
