/- A held pool: its block; its steps and its mixing, over the loaded program. -/
import Derived.Test.YtanianfealalgaoPol1
import Derived.Test.YtanianfealalgaoMac3
import Derived.Deep.RegionWith
namespace Go.Proofs.Ytanianfealalgao
open Go.RowKit
def HP (w : World) (g : Nat) (T : TypeId) (s : Int) (a : Hs) : Prop := w.heap[g]? = some (.cells #[.int .i32 s, .int .u32 0, .string a.st, .string a.rs, .int .i64 a.ct] T (0, 0))
theorem HP.lt {w : World} {g : Nat} {T : TypeId} {s : Int} {a : Hs} (h : HP w g T s a) : g < w.heap.size := by
  unfold HP at h
  rcases Nat.lt_or_ge g w.heap.size with h' | h'
  · exact h'
  · rw [Array.getElem?_eq_none h'] at h; cases h
theorem HP.below {w w' : World} {g B : Nat} {T : TypeId} {s : Int} {a : Hs} (h : HP w g T s a) (hb : Below B w w') (hg : g < B) : HP w' g T s a := by
  unfold HP at h ⊢
  rw [hb.block g hg]; exact h
theorem HP.step {w w' : World} {g : Nat} {T : TypeId} {s : Int} {a : Hs} (h : HP w g T s a) (hb : Below w.heap.size w w') : HP w' g T s a := h.below hb h.lt
theorem HP.c0 {w : World} {g : Nat} {T : TypeId} {s : Int} {a : Hs} (h : HP w g T s a) : w.cell? ⟨g, 0, none⟩ = some (.int .i32 s) := by unfold HP at h; simp [World.cell?, h]
theorem HP.c2 {w : World} {g : Nat} {T : TypeId} {s : Int} {a : Hs} (h : HP w g T s a) : w.cell? ⟨g, 2, none⟩ = some (.string a.st) := by unfold HP at h; simp [World.cell?, h]
theorem HP.c3 {w : World} {g : Nat} {T : TypeId} {s : Int} {a : Hs} (h : HP w g T s a) : w.cell? ⟨g, 3, none⟩ = some (.string a.rs) := by unfold HP at h; simp [World.cell?, h]
theorem HP.c4 {w : World} {g : Nat} {T : TypeId} {s : Int} {a : Hs} (h : HP w g T s a) : w.cell? ⟨g, 4, none⟩ = some (.int .i64 a.ct) := by unfold HP at h; simp [World.cell?, h]
theorem HP.frozen {w : World} {g : Nat} {T : TypeId} {s : Int} {a : Hs} (h : HP w g T s a) (k : Nat) : w.frozen? ⟨g, k, none⟩ = false := frozen_of_row w g k _ T h
theorem HP.set0 {w : World} {g : Nat} {T : TypeId} {s : Int} {a : Hs} (h : HP w g T s a) (z : Int) : HP (w.setCell ⟨g, 0, none⟩ (.int .i32 z)) g T z a := by
  unfold HP
  rw [heap_setCell_same w g 0 _ T (.int .i32 z) h]
  rfl
theorem HP.set2 {w : World} {g : Nat} {T : TypeId} {s : Int} {a : Hs} (h : HP w g T s a) (x : ByteArray) : HP (w.setCell ⟨g, 2, none⟩ (.string x)) g T s ⟨x, a.rs, a.ct⟩ := by
  unfold HP
  rw [heap_setCell_same w g 2 _ T (.string x) h]
  rfl
theorem HP.set3 {w : World} {g : Nat} {T : TypeId} {s : Int} {a : Hs} (h : HP w g T s a) (x : ByteArray) : HP (w.setCell ⟨g, 3, none⟩ (.string x)) g T s ⟨a.st, x, a.ct⟩ := by
  unfold HP
  rw [heap_setCell_same w g 3 _ T (.string x) h]
  rfl
theorem HP.set4 {w : World} {g : Nat} {T : TypeId} {s : Int} {a : Hs} (h : HP w g T s a) (z : Int) : HP (w.setCell ⟨g, 4, none⟩ (.int .i64 z)) g T s ⟨a.st, a.rs, z⟩ := by
  unfold HP
  rw [heap_setCell_same w g 4 _ T (.int .i64 z) h]
  rfl
theorem HP.set_off {w : World} {g h k : Nat} {T : TypeId} {s : Int} {a : Hs} (hA : HP w g T s a) (hne : g ≠ h) (v : Value) : HP (w.setCell ⟨h, k, none⟩ v) g T s a := by
  unfold HP at hA ⊢
  rw [Below.heap_setCell _ _ _ g hne]
  exact hA
theorem pB {w w' : World} (hb : Below w.heap.size w w') (r : Option Nat) : w.grownBy w' r := ⟨hb.os, hb.tape, hb.output, hb.size, fun k hk _ => hb.block k hk⟩
theorem pS (w : World) (g o : Nat) (u : Value) : w.grownBy (w.setCell ⟨g, o, none⟩ u) (some g) := ⟨rfl, rfl, rfl, by simp, fun k _ hk => RowKit.Below.heap_setCell _ _ _ _ (fun e => hk (by rw [e]))⟩
theorem pT {a b c : World} {r : Option Nat} (h : a.grownBy b r) (k : b.grownBy c r) : a.grownBy c r :=
  ⟨by rw [k.os, h.os], by rw [k.tape, h.tape], by rw [k.output, h.output], Nat.le_trans h.size k.size, fun j hj hr => by rw [k.block j (Nat.lt_of_lt_of_le hj h.size) hr, h.block j hj hr]⟩
theorem pBelow {w w' : World} {r : Option Nat} (h : w.grownBy w' r) {B : Nat} (hB : B ≤ w.heap.size) (hr : ∀ k, r = some k → B ≤ k) : Below B w w' := (Below.refl B w).grown h hB hr
theorem pTB {w w1 w2 : World} {r : Option Nat} (h : w.grownBy w1 r) (hb : Below w.heap.size w1 w2) : w.grownBy w2 r :=
  ⟨by rw [hb.os, h.os], by rw [hb.tape, h.tape], by rw [hb.output, h.output], Nat.le_trans h.size hb.size, fun j hj hr => by rw [hb.block j hj, h.block j hj hr]⟩
theorem one_hp (w : World) (T : TypeId) (a : Hs) : ∃ W, w.alloc (.cells #[.int .i32 0, .int .u32 0, .string a.st, .string a.rs, .int .i64 a.ct] T) = W ∧ HP W w.heap.size T 0 a ∧ Below w.heap.size w W ∧ w.heap.size < W.heap.size :=
  ⟨_, rfl, heap_alloc_new w _, (Below.refl _ w).alloc (Nat.le_refl _) _, by simp⟩
set_option maxRecDepth 20000 in
set_option maxHeartbeats 400000 in
theorem step_any (g : Nat) (s : Int) (a : Hs) (h1 : a.st.size ≤ 1048576) (h2 : a.rs.size ≤ 2000000) (w : World) (hA : HP w g 47 s a) :
    Calls Try.prog 37 #[.pointer (some ⟨g, 0, none⟩)] w fun e w' => e = .returned (.tuple #[]) ∧ HP w' g 47 s ⟨a.st, macB a.st a.rs, a.ct⟩ ∧ w.grownBy w' (some g) := by
  have CM := hide (fun W => implMac_any a.st a.rs h1 h2 W)
  obtain ⟨st, rs, ct⟩ := a
  dsimp only at CM h1 h2 ⊢
  generalize macB st rs = m at *
  have q2 := hA.c2
  have q3 := hA.c3
  have p3 := hA.frozen 3
  dsimp only at q2 q3
  go_enter Try.func37, Try.ntmps37
  go_region_with (first
    | (go_at_call 50; refine ((unhide CM) _).mono ?_; rintro e w1 ⟨rfl, hb1⟩; have hB1 : Below w.heap.size w w1 := (Below.refl w.heap.size w).drew.trans hb1; have hA1 := hA.step hB1; have t3 := hA1.c3; have f3 := hA1.frozen 3; dsimp only at t3))
  all_goals
    go_wp2
    go_end0
    exact ⟨rfl, hA1.set3 m, pT (pB hB1 _) (pS w1 g 3 _)⟩
theorem three_tx8 (w : World) (a b c : ByteArray) (T : TypeId) : ∀ (j : Nat) x, [a, b, c][j]? = some x → (w.alloc (.cells #[.string a, .string b, .string c] T)).cell? ⟨w.heap.size, j, none⟩ = some (.string x) := by
  intro j x hx
  rw [cell_of_row _ w.heap.size j _ T (0, 0) (heap_alloc_new w _)]
  match j, hx with
  | 0, h => cases h; rfl
  | 1, h => cases h; rfl
  | 2, h => cases h; rfl
  | j + 3, h => simp at h
set_option maxRecDepth 20000 in
set_option maxHeartbeats 400000 in
theorem mixRound_any (g : Nat) (s : Int) (a : Hs) (z x : ByteArray) (h1 : a.st.size ≤ 1048576) (h2 : a.rs.size ≤ 1000) (hzs : z.size ≤ 10) (hx : x.size ≤ 1048576) (w : World) (hA : HP w g 47 s a) :
    Calls Try.prog 46 #[.pointer (some ⟨g, 0, none⟩), .string z, .string x] w fun e w' => e = .returned (.tuple #[]) ∧ HP w' g 47 s (mixO a z x) ∧ w.grownBy w' (some g) := by
  have CM := hide (macParts_any a.st h1 w.heap.size 3 3 [a.rs, z, x] rfl (a.rs ++ z ++ x) (by simp [ByteArray.data_append]) (by rw [ByteArray.size_append, ByteArray.size_append]; omega) (w.alloc (.cells #[.string a.rs, .string z, .string x] 9)).drew (three_tx8 w a.rs z x 9) (by simp) (by omega))
  have CS := hide (fun W => step_any g s ⟨mixK a z x, a.rs, a.ct⟩ (by show (mixK a z x).size ≤ _; unfold mixK; rw [macB_size]; omega) (by show a.rs.size ≤ _; omega) W)
  unfold mixO
  rw [show macB a.st (a.rs ++ z ++ x) = mixK a z x from rfl] at CM
  dsimp only at CS
  obtain ⟨st, rs, ct⟩ := a
  dsimp only at CM CS h1 h2 ⊢
  generalize macB (mixK ⟨st, rs, ct⟩ z x) rs = v at *
  generalize mixK ⟨st, rs, ct⟩ z x = k at *
  have q2 := hA.c2
  have q3 := hA.c3
  dsimp only at q2 q3
  have hlt := hA.lt
  go_enter Try.func46, Try.ntmps46
  go_wp2
  go_region_with (first
    | (go_at_call 61; refine (unhide CM).mono ?_; rintro e w1 ⟨rfl, hb1⟩; have hB1 : Below w.heap.size w w1 := ((Below.refl w.heap.size w).alloc (Nat.le_refl _) _).drew.trans (hb1.mono (by simp)); have hA1 := hA.step hB1; have t2 := hA1.c2; have f2 := hA1.frozen 2; dsimp only at t2))
  all_goals
    have hA2 := hide (hA1.set2 k)
    have hG2 := hide (pT (pB hB1 (some g)) (pS w1 g 2 (.string k)))
    dsimp only at hA2
    generalize w1.setCell ⟨g, 2, none⟩ (.string k) = w2 at *
    clear hA1 hB1 hb1 t2 f2 q2 q3
    go_wp2_with fail
    refine ((unhide CS) _ (unhide hA2)).mono ?_
    rintro e w3 ⟨rfl, hA3, hG3⟩
    go_wp2
    go_end0
    exact ⟨rfl, hA3, pT (unhide hG2) hG3⟩
set_option maxRecDepth 20000 in
set_option maxHeartbeats 400000 in
theorem mix_any (g : Nat) (s : Int) (a : Hs) (x : ByteArray) (h1 : a.st.size ≤ 1048576) (h2 : a.rs.size ≤ 1000) (hx : x.size ≤ 1048576) (w : World) (hA : HP w g 47 s a) :
    Calls Try.prog 34 #[.pointer (some ⟨g, 0, none⟩), .string x] w fun e w' => e = .returned (.tuple #[]) ∧ HP w' g 47 s (mixH a x) ∧ w.grownBy w' (some g) := by
  have C0 := hide (mixRound_any g s a z0B x h1 h2 (by decide) hx w hA)
  unfold z0B at C0
  have k1 : (mixO a z0B x).st.size = 32 := macB_size _ _
  have k2 : (mixO a z0B x).rs.size = 32 := macB_size _ _
  have C1 := hide (fun W => mixRound_any g s (mixO a z0B x) z1B x (by rw [k1]; omega) (by rw [k2]; omega) (by decide) hx W)
  rw [show z1B = ⟨#[1]⟩ from rfl] at C1
  rw [show (⟨#[0]⟩ : ByteArray) = z0B from rfl] at *
  by_cases hs : x.size = 0
  · have hx0 : x = ⟨#[]⟩ := by
      obtain ⟨d⟩ := x
      cases d with | mk l => cases l with
        | nil => rfl
        | cons _ _ => simp [ByteArray.size] at hs
    subst hx0
    rw [show mixH a ⟨#[]⟩ = mixO a z0B ⟨#[]⟩ from rfl]
    go_enter Try.func34, Try.ntmps34
    go_wp2_with fail
    refine (unhide C0).mono ?_
    rintro e w1 ⟨rfl, hA1, hG1⟩
    go_wp2
    first | go_end0 | skip
    exact ⟨rfl, hA1, hG1⟩
  · rw [show mixH a x = mixO (mixO a z0B x) z1B x by unfold mixH; rw [if_neg hs]]
    have hne : x.toList.isEmpty = false := by
      rw [List.isEmpty_eq_false_iff]
      intro hh
      have : x.data.toList.length = 0 := by rw [← ByteArray.toList_eq, hh]; rfl
      exact hs this
    go_enter Try.func34, Try.ntmps34
    go_wp2_with fail
    refine (unhide C0).mono ?_
    rintro e w1 ⟨rfl, hA1, hG1⟩
    go_wp2_with fail
    refine ((unhide C1) w1 hA1).mono ?_
    rintro e w2 ⟨rfl, hA2, hG2⟩
    go_wp2
    first | go_end0 | skip
    exact ⟨rfl, hA2, pT hG1 hG2⟩
end Go.Proofs.Ytanianfealalgao
