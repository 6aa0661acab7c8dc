/- Streams taken from, by impl, over the loaded program. -/
import Derived.Test.YtkidgllmhdfgaabDoorSpg11
namespace Go.Proofs.YtkidgllmhdfgaabDoor
open Go.RowKit
theorem take_joinA (w W w5 : World) (st : ByteArray) (p : Int) (T : TypeId) (hB : SB W w.heap.size T ⟨st, p⟩) (hR : SB W (w.heap.size + 1) T s0) (hb : Below w.heap.size w W) (hlt : w.heap.size + 1 < W.heap.size) (hb5 : Below W.drew.heap.size W.drew w5) :
    ∃ b w6, SB w6 b T ⟨st, p⟩ ∧ SB w6 w.heap.size T ⟨st, p⟩ ∧ SB w6 (w.heap.size + 1) T s0 ∧ Below w.heap.size w w6 ∧ w.heap.size + 1 < b ∧ w5.heap.size = b ∧ w5.alloc (.cells #[.string st, .int .i64 p] T) = w6 := by
  have hB5 : SB w5 w.heap.size T ⟨st, p⟩ := SB.step (w := W.drew) (by exact hB) hb5
  have hR5 : SB w5 (w.heap.size + 1) T s0 := SB.step (w := W.drew) (by exact hR) hb5
  have hs : W.heap.size ≤ w5.heap.size := hb5.size
  have hb0 : Below w.heap.size w w5 := (Below.drew hb).trans (hb5.mono (show w.heap.size ≤ W.heap.size by omega))
  exact ⟨_, _, heap_alloc_new w5 _, hB5.alloc _, hR5.alloc _, hb0.alloc (by omega) _, by omega, rfl, rfl⟩
theorem take_joinB (w W w5 : World) (st : ByteArray) (p : Int) (T : TypeId) (hB : SB W w.heap.size T ⟨st, p⟩) (hR : SB W (w.heap.size + 1) T s0) (hb : Below w.heap.size w W) (hlt : w.heap.size + 1 < W.heap.size) (hb5 : Below (W.alloc (.cells #[.string ⟨#[]⟩, .int .i64 0] T)).drew.heap.size (W.alloc (.cells #[.string ⟨#[]⟩, .int .i64 0] T)).drew w5) :
    ∃ b w6, SB w6 b T ⟨st, p⟩ ∧ SB w6 w.heap.size T ⟨st, p⟩ ∧ SB w6 (w.heap.size + 1) T s0 ∧ Below w.heap.size w w6 ∧ w.heap.size + 1 < b ∧ W.heap.size = b ∧ (w5.setCell ⟨W.heap.size, 0, none⟩ (.string st)).setCell ⟨W.heap.size, 1, none⟩ (.int .i64 p) = w6 := by
  have hB5 : SB w5 w.heap.size T ⟨st, p⟩ := SB.step (w := (W.alloc (.cells #[.string ⟨#[]⟩, .int .i64 0] T)).drew) (by exact hB.alloc _) hb5
  have hR5 : SB w5 (w.heap.size + 1) T s0 := SB.step (w := (W.alloc (.cells #[.string ⟨#[]⟩, .int .i64 0] T)).drew) (by exact hR.alloc _) hb5
  have hN5 : SB w5 W.heap.size T s0 := SB.step (w := (W.alloc (.cells #[.string ⟨#[]⟩, .int .i64 0] T)).drew) (by exact heap_alloc_new W _) hb5
  have hs : (W.alloc (.cells #[.string ⟨#[]⟩, .int .i64 0] T)).heap.size ≤ w5.heap.size := hb5.size
  have hsa : (W.alloc (.cells #[.string ⟨#[]⟩, .int .i64 0] T)).heap.size = W.heap.size + 1 := by simp
  have hb0 : Below w.heap.size w w5 := (Below.drew (hb.alloc (by omega) _)).trans (hb5.mono (show w.heap.size ≤ (W.alloc (.cells #[.string ⟨#[]⟩, .int .i64 0] T)).heap.size by omega))
  exact ⟨_, _, hN5.set2 ⟨st, p⟩, (hB5.set_other (by omega) _).set_other (by omega) _, (hR5.set_other (by omega) _).set_other (by omega) _, (hb0.setCell (p := ⟨W.heap.size, 0, none⟩) (by show w.heap.size ≤ W.heap.size; omega) _).setCell (p := ⟨W.heap.size, 1, none⟩) (by show w.heap.size ≤ W.heap.size; omega) _, by omega, rfl, rfl⟩
set_option maxRecDepth 20000 in
set_option maxHeartbeats 1000000 in
theorem implTake_no1 (st : ByteArray) (p : Int) (hx : st.size ≤ 140737488351232) (n : Int) (w : World) (hno : okS ⟨st, p⟩ = false) :
    Calls Tryd.prog 11 #[smv ⟨st, p⟩, .int .i64 n] w fun e w' => e = .returned (.tuple #[smv ⟨st, p⟩, .string ⟨#[]⟩]) ∧ Below w.heap.size w w' := by
  have C1 := hide (fun W => clone_all st W (by omega))
  have C2 := hide (fun W => streamOk_any ⟨st, p⟩ (show st.size ≤ maxLen by unfold maxLen; omega) W)
  unfold smv at C2
  dsimp only at C2
  rw [hno] at C2
  unfold smv
  dsimp only
  go_enter Tryd.func11, Tryd.ntmps11
  go_wp2
  obtain ⟨W, hW, hB, hR, hb, hlt⟩ := two_sm w ⟨st, p⟩ s0 30 30
  unfold s0 at hW
  dsimp only at hW
  rw [hW]
  clear hW
  have k0 := hB.c0
  have k1 := hB.c1
  dsimp only at k0 k1
  have hl := hB.lt
  have k0a := (hB.alloc (.cells #[.string ⟨#[]⟩, .int .i64 0] 30)).c0
  have k1a := (hB.alloc (.cells #[.string ⟨#[]⟩, .int .i64 0] 30)).c1
  dsimp only at k0a k1a
  have hNew : Hid (SB (W.alloc (.cells #[.string ⟨#[]⟩, .int .i64 0] 30)) W.heap.size 30 s0) := hide (heap_alloc_new W _)
  have hlb : Hid (w.heap.size ≠ W.heap.size) := hide (by omega)
  go_region_held3 (fun V => V.cell? ⟨w.heap.size, 0, none⟩ = some (.string st) ∧ V.cell? ⟨w.heap.size, 1, none⟩ = some (.int .i64 p)) (first
      | exact ⟨k0, k1⟩ | exact ⟨k0a, k1a⟩ | exact ⟨k05, k15⟩ | exact ⟨k05a, k15a⟩ | exact ⟨k05b, k15b⟩ | exact ⟨cell_off (cell_off k05 (unhide hlb)) (unhide hlb), cell_off (cell_off k15 (unhide hlb)) (unhide hlb)⟩ | exact ⟨cell_off (cell_off k05a (unhide hlb5)) (unhide hlb5), cell_off (cell_off k15a (unhide hlb5)) (unhide hlb5)⟩ | fail) (first
      | (go_at_call 28; refine ((unhide C1) _).mono ?_; rintro e w5 ⟨rfl, hb5⟩; have hB5 := SB.step (by first | exact hB | exact hB.alloc _) hb5; have k15 := hB5.c1; have k05 := hB5.c0; have k05a := (hB5.alloc (.cells #[.string ⟨#[]⟩, .int .i64 0] 30)).c0; have k15a := (hB5.alloc (.cells #[.string ⟨#[]⟩, .int .i64 0] 30)).c1; have k05b := (hB5.alloc (.cells #[.string st, .int .i64 p] 30)).c0; have k15b := (hB5.alloc (.cells #[.string st, .int .i64 p] 30)).c1; dsimp only at k15 k05 k05a k15a k05b k15b; have hlb5 : Hid (w.heap.size ≠ w5.heap.size) := hide (by have := hB5.lt; omega); try (have hN5 := SB.step (g := W.heap.size) (T := 30) (a := s0) (by exact unhide hNew) hb5; have n0 := hN5.c0; have n1 := hN5.c1; have f0 := hN5.frozen 0; have f1 := hN5.frozen 1)))
  all_goals first
    | (obtain ⟨b, w6, hN6, hB6, hR6, hb6, hlb6, eb, ew⟩ := take_joinA w W w5 st p 30 hB hR hb hlt hb5; rw [ew, eb])
    | (obtain ⟨b, w6, hN6, hB6, hR6, hb6, hlb6, eb, ew⟩ := take_joinB w W w5 st p 30 hB hR hb hlt hb5; rw [ew, eb])
  all_goals (clear eb ew hb5 hB5 hNew hlb hB hR hb hlt k0 k1 k0a k1a k15 k05 k05a k15a k05b k15b hlb5 hl C1)
  all_goals (
    have j0 := hB6.c0
    have j1 := hB6.c1
    have i0 := hN6.c0
    have i1 := hN6.c1
    have r0 := hR6.c0
    have r1 := hR6.c1
    have q0 := hR6.frozen 0
    have q1 := hR6.frozen 1
    dsimp only at j0 j1 i0 i1
    have hs6 := hN6.lt
    replace hN6 := hide hN6
    replace hB6 := hide hB6
    replace hR6 := hide hR6
    replace hb6 := hide hb6
    go_wp2_with fail
    refine ((unhide C2) w6).mono ?_
    rintro e w7 ⟨rfl, hb7⟩
    have hN7 := (unhide hN6).step hb7
    have hR7 := (unhide hR6).step hb7
    have i0 := hN7.c0
    have i1 := hN7.c1
    have r0 := hR7.c0
    have r1 := hR7.c1
    have q0 := hR7.frozen 0
    have q1 := hR7.frozen 1
    dsimp only at i0 i1
    have HT7 := hide ((unhide hb6).trans (hb7.mono (by omega)))
    replace hR7 := hide hR7
    replace hN7 := hide hN7
    clear hb7
    go_wp2
    refine bodyPost_ret (v := .tuple #[smv ⟨st, p⟩, .string ⟨#[]⟩]) ?_ rfl ⟨rfl, ((unhide HT7).setCell (p := ⟨w.heap.size + 1, 0, none⟩) (by show w.heap.size ≤ w.heap.size + 1; omega) _).setCell (p := ⟨w.heap.size + 1, 1, none⟩) (by show w.heap.size ≤ w.heap.size + 1; omega) _⟩
    have hF := (unhide hR7).set2 ⟨st, p⟩
    have g0 := hF.c0
    have g1 := hF.c1
    dsimp only at g0 g1
    simp [results, Tryd.results11, go_sem, smv, g0, g1])
set_option maxRecDepth 20000 in
set_option maxHeartbeats 1000000 in
theorem implTake_no2 (st : ByteArray) (p : Int) (hx : st.size ≤ 140737488351232) (n : Int) (w : World) (hok : okS ⟨st, p⟩ = true) (hno : ¬ (0 ≤ n ∧ n ≤ 4000)) :
    Calls Tryd.prog 11 #[smv ⟨st, p⟩, .int .i64 n] w fun e w' => e = .returned (.tuple #[smv ⟨st, p⟩, .string ⟨#[]⟩]) ∧ Below w.heap.size w w' := by
  have C1 := hide (fun W => clone_all st W (by omega))
  have C2 := hide (fun W => streamOk_any ⟨st, p⟩ (show st.size ≤ maxLen by unfold maxLen; omega) W)
  unfold smv at C2
  dsimp only at C2
  rw [hok] at C2
  have C3 := hide (fun W => shakeSize_any n W)
  rw [show (decide (0 ≤ n) && decide (n ≤ 4000)) = false by simp; omega] at C3
  clear hno
  unfold smv
  dsimp only
  go_enter Tryd.func11, Tryd.ntmps11
  go_wp2
  obtain ⟨W, hW, hB, hR, hb, hlt⟩ := two_sm w ⟨st, p⟩ s0 30 30
  unfold s0 at hW
  dsimp only at hW
  rw [hW]
  clear hW
  have k0 := hB.c0
  have k1 := hB.c1
  dsimp only at k0 k1
  have hl := hB.lt
  have k0a := (hB.alloc (.cells #[.string ⟨#[]⟩, .int .i64 0] 30)).c0
  have k1a := (hB.alloc (.cells #[.string ⟨#[]⟩, .int .i64 0] 30)).c1
  dsimp only at k0a k1a
  have hNew : Hid (SB (W.alloc (.cells #[.string ⟨#[]⟩, .int .i64 0] 30)) W.heap.size 30 s0) := hide (heap_alloc_new W _)
  have hlb : Hid (w.heap.size ≠ W.heap.size) := hide (by omega)
  go_region_held3 (fun V => V.cell? ⟨w.heap.size, 0, none⟩ = some (.string st) ∧ V.cell? ⟨w.heap.size, 1, none⟩ = some (.int .i64 p)) (first
      | exact ⟨k0, k1⟩ | exact ⟨k0a, k1a⟩ | exact ⟨k05, k15⟩ | exact ⟨k05a, k15a⟩ | exact ⟨k05b, k15b⟩ | exact ⟨cell_off (cell_off k05 (unhide hlb)) (unhide hlb), cell_off (cell_off k15 (unhide hlb)) (unhide hlb)⟩ | exact ⟨cell_off (cell_off k05a (unhide hlb5)) (unhide hlb5), cell_off (cell_off k15a (unhide hlb5)) (unhide hlb5)⟩ | fail) (first
      | (go_at_call 28; refine ((unhide C1) _).mono ?_; rintro e w5 ⟨rfl, hb5⟩; have hB5 := SB.step (by first | exact hB | exact hB.alloc _) hb5; have k15 := hB5.c1; have k05 := hB5.c0; have k05a := (hB5.alloc (.cells #[.string ⟨#[]⟩, .int .i64 0] 30)).c0; have k15a := (hB5.alloc (.cells #[.string ⟨#[]⟩, .int .i64 0] 30)).c1; have k05b := (hB5.alloc (.cells #[.string st, .int .i64 p] 30)).c0; have k15b := (hB5.alloc (.cells #[.string st, .int .i64 p] 30)).c1; dsimp only at k15 k05 k05a k15a k05b k15b; have hlb5 : Hid (w.heap.size ≠ w5.heap.size) := hide (by have := hB5.lt; omega); try (have hN5 := SB.step (g := W.heap.size) (T := 30) (a := s0) (by exact unhide hNew) hb5; have n0 := hN5.c0; have n1 := hN5.c1; have f0 := hN5.frozen 0; have f1 := hN5.frozen 1)))
  all_goals first
    | (obtain ⟨b, w6, hN6, hB6, hR6, hb6, hlb6, eb, ew⟩ := take_joinA w W w5 st p 30 hB hR hb hlt hb5; rw [ew, eb])
    | (obtain ⟨b, w6, hN6, hB6, hR6, hb6, hlb6, eb, ew⟩ := take_joinB w W w5 st p 30 hB hR hb hlt hb5; rw [ew, eb])
  all_goals (clear eb ew hb5 hB5 hNew hlb hB hR hb hlt k0 k1 k0a k1a k15 k05 k05a k15a k05b k15b hlb5 hl C1)
  all_goals (
    have j0 := hB6.c0
    have j1 := hB6.c1
    have i0 := hN6.c0
    have i1 := hN6.c1
    have r0 := hR6.c0
    have r1 := hR6.c1
    have q0 := hR6.frozen 0
    have q1 := hR6.frozen 1
    dsimp only at j0 j1 i0 i1
    have hs6 := hN6.lt
    replace hN6 := hide hN6
    replace hB6 := hide hB6
    replace hR6 := hide hR6
    replace hb6 := hide hb6
    go_wp2_with fail
    refine ((unhide C2) w6).mono ?_
    rintro e w7 ⟨rfl, hb7⟩
    have hN7 := (unhide hN6).step hb7
    have hR7 := (unhide hR6).step hb7
    have i0 := hN7.c0
    have i1 := hN7.c1
    have r0 := hR7.c0
    have r1 := hR7.c1
    have q0 := hR7.frozen 0
    have q1 := hR7.frozen 1
    dsimp only at i0 i1
    have HT7 := hide ((unhide hb6).trans (hb7.mono (by omega)))
    replace hR7 := hide hR7
    replace hN7 := hide hN7
    clear hb7
    go_wp2_with (go_at_call 24; refine ((unhide C3) _).mono ?_; rintro e w8 ⟨rfl, rfl⟩)
    refine bodyPost_ret (v := .tuple #[smv ⟨st, p⟩, .string ⟨#[]⟩]) ?_ rfl ⟨rfl, ((unhide HT7).setCell (p := ⟨w.heap.size + 1, 0, none⟩) (by show w.heap.size ≤ w.heap.size + 1; omega) _).setCell (p := ⟨w.heap.size + 1, 1, none⟩) (by show w.heap.size ≤ w.heap.size + 1; omega) _⟩
    have hF := (unhide hR7).set2 ⟨st, p⟩
    have g0 := hF.c0
    have g1 := hF.c1
    dsimp only at g0 g1
    simp [results, Tryd.results11, go_sem, smv, g0, g1])
end Go.Proofs.YtkidgllmhdfgaabDoor
