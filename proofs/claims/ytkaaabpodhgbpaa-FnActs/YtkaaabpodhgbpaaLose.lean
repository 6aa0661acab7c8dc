/- One file cut, one file copied: what (File).copied and (File).cutTo come to. -/
import Derived.Test.YtkaaabpodhgbpaaAllKept
import Derived.Test.YtkaaabpodhgbpaaShelf
namespace Go.Proofs.Ytkaaabpodhgbpaa
open Go.RowKit

/-- Block g holds just the one value v. -/
def Box (w : World) (g : Nat) (T : TypeId) (v : Value) : Prop := w.heap[g]? = some (.cells #[v] T (0, 0))
theorem Box.cell {w : World} {g : Nat} {T : TypeId} {v : Value} (h : Box w g T v) : w.cell? ⟨g, 0, none⟩ = some v := by
  rw [cell_of_row w g 0 #[v] T (0, 0) h]; rfl
theorem Box.frozen {w : World} {g : Nat} {T : TypeId} {v : Value} (h : Box w g T v) : w.frozen? ⟨g, 0, none⟩ = false := frozen_of_row w g 0 #[v] T h
theorem Box.lt {w : World} {g : Nat} {T : TypeId} {v : Value} (h : Box w g T v) : g < w.heap.size := (Array.getElem?_eq_some_iff.1 h).1
theorem Box.below {w w' : World} {g B : Nat} {T : TypeId} {v : Value} (h : Box w g T v) (hb : Below B w w') (hg : g < B) : Box w' g T v := by
  unfold Box; rw [hb.block g hg]; exact h
theorem Box.set {w : World} {g : Nat} {T : TypeId} {v : Value} (h : Box w g T v) (u : Value) : Box (w.setCell ⟨g, 0, none⟩ u) g T u := by
  have := heap_setCell_same w g 0 #[v] T u h
  exact this
theorem Box.new (w : World) (T : TypeId) (v : Value) : Box (w.alloc (.cells #[v] T)) w.heap.size T v := heap_alloc_new w _
theorem Box.alloc {w : World} {g : Nat} {T : TypeId} {v : Value} (h : Box w g T v) (o : Obj) : Box (w.alloc o) g T v := h.below ((Below.refl _ w).alloc (Nat.le_refl _) _) h.lt
theorem Box.drew {w : World} {g : Nat} {T : TypeId} {v : Value} (h : Box w g T v) : Box w.drew g T v := h
theorem Box.other {w : World} {g : Nat} {T : TypeId} {v : Value} (h : Box w g T v) {a : Addr} (ha : a.block ≠ g) (u : Value) : Box (w.setCell a u) g T v := by
  unfold Box; rw [RowKit.Below.heap_setCell _ _ _ _ (fun e => ha e.symm)]; exact h

theorem Box.grown {w w' : World} {g : Nat} {T : TypeId} {v : Value} {r : Option Nat} (h : Box w g T v) (hg : w.grownBy w' r) (hne : r ≠ some g) : Box w' g T v := by
  unfold Box; rw [hg.block g h.lt (fun e => hne e.symm)]; exact h
theorem Box.step {w w' : World} {g : Nat} {T : TypeId} {v : Value} (h : Box w g T v) (hb : Below w.heap.size w w') : Box w' g T v := h.below hb h.lt
theorem bTr {w W W' : World} (h : Below w.heap.size w W) (hb : Below W.heap.size W W') : Below w.heap.size w W' := h.trans (hb.mono h.size)
theorem bTrA {w W : World} (h : Below w.heap.size w W) (o : Obj) : Below w.heap.size w (W.alloc o) := h.alloc h.size o
theorem bTrG {w W W' : World} {r : Option Nat} (h : Below w.heap.size w W) (hg : W.grownBy W' r) (hr : ∀ k, r = some k → w.heap.size ≤ k) : Below w.heap.size w W' := h.trans (gBelow hg h.size hr)
theorem sz1 {W W' : World} {o : Obj} (hb : Below (W.alloc o).heap.size (W.alloc o) W') : W.heap.size + 1 ≤ W'.heap.size := by have := hb.size; simpa using this
theorem sz0 {W W' : World} (hb : Below W.heap.size W W') : W.heap.size ≤ W'.heap.size := hb.size
/-- Where a row of the call's own lies. -/
def Lies (v : Value) (lo hi : Nat) : Prop := ∀ k, v.ownBlock = some k → lo ≤ k ∧ k < hi
theorem Lies.apart {v u : Value} {a b c d : Nat} (h : Lies v a b) (k : Lies u c d) (hh : b ≤ c ∨ d ≤ a) : ∀ i, v.ownBlock = some i → u.ownBlock ≠ some i := by
  intro i h1 h2
  have := h i h1
  have := k i h2
  omega
theorem Lies.box {v : Value} {a b g : Nat} (h : Lies v a b) (hh : g < a ∨ b ≤ g) : v.ownBlock ≠ some g := by
  intro h1
  have := h g h1
  omega
theorem Lies.from {v : Value} {a b B : Nat} (h : Lies v a b) (hh : B ≤ a) : ∀ k, v.ownBlock = some k → B ≤ k := fun k hk => by have := h k hk; omega

/-- Block g holds just the file f. -/
def FlB (w : World) (g : Nat) (T : TypeId) (f : Fl) : Prop := w.heap[g]? = some (.cells #[.string f.nm, .string f.tx, .int .i64 f.kp] T (0, 0))
theorem FlB.at {w : World} {g : Nat} {T : TypeId} {f : Fl} (h : FlB w g T f) : FlAt w g 0 f :=
  ⟨by rw [cell_of_row w g 0 _ T (0, 0) h]; rfl, by rw [cell_of_row w g (0 + 1) _ T (0, 0) h]; rfl, by rw [cell_of_row w g (0 + 2) _ T (0, 0) h]; rfl⟩
theorem FlB.frozen {w : World} {g : Nat} {T : TypeId} {f : Fl} (h : FlB w g T f) (k : Nat) : w.frozen? ⟨g, k, none⟩ = false := frozen_of_row w g k _ T h
theorem FlB.lt {w : World} {g : Nat} {T : TypeId} {f : Fl} (h : FlB w g T f) : g < w.heap.size := (Array.getElem?_eq_some_iff.1 h).1
theorem FlB.below {w w' : World} {g B : Nat} {T : TypeId} {f : Fl} (h : FlB w g T f) (hb : Below B w w') (hg : g < B) : FlB w' g T f := by
  unfold FlB; rw [hb.block g hg]; exact h
theorem FlB.new (w : World) (T : TypeId) (f : Fl) : FlB (w.alloc (.cells #[.string f.nm, .string f.tx, .int .i64 f.kp] T)) w.heap.size T f := heap_alloc_new w _
theorem FlB.alloc {w : World} {g : Nat} {T : TypeId} {f : Fl} (h : FlB w g T f) (o : Obj) : FlB (w.alloc o) g T f := h.below ((Below.refl _ w).alloc (Nat.le_refl _) _) h.lt

theorem c1o {w : World} {g h o : Nat} {x : Value} (hne : h ≠ g) (i : Nat) (a : Value) (hc : w.cell? ⟨h, o, none⟩ = some x) : (w.setCell ⟨g, i, none⟩ a).cell? ⟨h, o, none⟩ = some x := by
  rw [← hc]
  unfold World.cell?
  rw [RowKit.Below.heap_setCell _ _ _ _ hne]
theorem c3o {w : World} {g h o : Nat} {x : Value} (hne : h ≠ g) (i j k : Nat) (a b c : Value) (hc : w.cell? ⟨h, o, none⟩ = some x) : (((w.setCell ⟨g, i, none⟩ a).setCell ⟨g, j, none⟩ b).setCell ⟨g, k, none⟩ c).cell? ⟨h, o, none⟩ = some x := c1o hne k c (c1o hne j b (c1o hne i a hc))

theorem two_new (w : World) (f : Fl) (T : TypeId) (z : Array Value) : ∃ W0, (w.alloc (.cells #[.string f.nm, .string f.tx, .int .i64 f.kp] T)).alloc (.cells z T) = W0 ∧ W0.cell? ⟨w.heap.size, 0, none⟩ = some (.string f.nm) ∧ W0.cell? ⟨w.heap.size, 1, none⟩ = some (.string f.tx) ∧ W0.cell? ⟨w.heap.size, 2, none⟩ = some (.int .i64 f.kp) ∧
    W0.heap[w.heap.size + 1]? = some (.cells z T (0, 0)) ∧ W0.heap.size = w.heap.size + 1 + 1 ∧ Below w.heap.size w W0 := by
  refine ⟨_, rfl, by simp, by simp, by simp, ?_, by simp, ((Below.refl w.heap.size w).alloc (Nat.le_refl _) _).alloc (by simp) _⟩
  have := heap_alloc_new (w.alloc (.cells #[.string f.nm, .string f.tx, .int .i64 f.kp] T)) (.cells z T)
  simpa using this

def cutN (f : Fl) (told : Int) : Int := min (max told f.kp) f.tx.size
def cutF (f : Fl) (told : Int) : Fl := ⟨f.nm, f.tx.extract 0 (cutN f told).toNat, cutN f told⟩

set_option maxHeartbeats 400000 in
theorem stringsClone_any (s : ByteArray) (w : World) (hs : s.size ≤ 4000000) :
    Calls Try.prog 39 #[.string s] w fun e w' => e = .returned (.string s) ∧ Below w.heap.size w w' := by
  have hlim : s.size ≤ 281474976710656 := by omega
  go_enter Try.func39, Try.ntmps39
  go_wp2_with (go_at_call 60; refine (Try.stringslite_Clone _ _ hlim).mono ?_; rintro e w2 ⟨rfl, hb2⟩)
  go_ret
  exact ⟨rfl, hb2⟩
set_option maxRecDepth 20000 in
set_option maxHeartbeats 1000000 in
theorem copied_any (f : Fl) (w : World) (h1 : f.nm.size ≤ 4000000) (h2 : f.tx.size ≤ 4000000) :
    Calls Try.prog 43 #[flv f] w fun e w' => e = .returned (flv f) ∧ Below w.heap.size w w' := by
  have C1 : Hid (∀ W, Calls Try.prog 39 #[.string f.nm] W fun e w' => e = .returned (.string f.nm) ∧ Below W.heap.size W w') := fun W => stringsClone_any f.nm W h1
  have C2 : Hid (∀ W, Calls Try.prog 39 #[.string f.tx] W fun e w' => e = .returned (.string f.tx) ∧ Below W.heap.size W w') := fun W => stringsClone_any f.tx W h2
  go_enter Try.func43, Try.ntmps43
  go_wp2
  obtain ⟨W0, hW0, c0, c1, c2, hblk, hsz, hb0⟩ := two_new w f 36 #[.string ⟨#[]⟩, .string ⟨#[]⟩, .int .i64 0]
  rw [hW0]
  clear hW0
  have hl0 : w.heap.size < W0.heap.size := by omega
  have hl1 : w.heap.size + 1 < W0.heap.size := by omega
  have hne : w.heap.size ≠ w.heap.size + 1 := by omega
  replace hsz := hide hsz
  replace hblk := hide hblk
  go_region_held3 (fun W => W.cell? ⟨w.heap.size, 0, none⟩ = some (.string f.nm) ∧ W.cell? ⟨w.heap.size, 1, none⟩ = some (.string f.tx) ∧ W.cell? ⟨w.heap.size, 2, none⟩ = some (.int .i64 f.kp))
    (first | exact ⟨c0, c1, c2⟩ | exact ⟨(hb1.cell (p := ⟨w.heap.size, 0, none⟩) hl0).trans c0, (hb1.cell (p := ⟨w.heap.size, 1, none⟩) hl0).trans c1, (hb1.cell (p := ⟨w.heap.size, 2, none⟩) hl0).trans c2⟩ | exact ⟨((hb1.trans (hb2.mono hb1.size)).cell (p := ⟨w.heap.size, 0, none⟩) hl0).trans c0, ((hb1.trans (hb2.mono hb1.size)).cell (p := ⟨w.heap.size, 1, none⟩) hl0).trans c1, ((hb1.trans (hb2.mono hb1.size)).cell (p := ⟨w.heap.size, 2, none⟩) hl0).trans c2⟩ | exact ⟨c3o hne _ _ _ _ _ _ ((hb12.cell (p := ⟨w.heap.size, 0, none⟩) hl0).trans c0), c3o hne _ _ _ _ _ _ ((hb12.cell (p := ⟨w.heap.size, 1, none⟩) hl0).trans c1), c3o hne _ _ _ _ _ _ ((hb12.cell (p := ⟨w.heap.size, 2, none⟩) hl0).trans c2)⟩)
    (first
      | (go_at_call 39; refine ((unhide C1) _).mono ?_; rintro e w1 ⟨rfl, hb1⟩)
      | (go_at_call 39; refine ((unhide C2) _).mono ?_; rintro e w2 ⟨rfl, hb2⟩; have hb12 := hb1.trans (hb2.mono hb1.size); have hk2 : w2.heap[w.heap.size + 1]? = _ := (hb12.block (w.heap.size + 1) hl1).trans (unhide hblk); have e0 := cell_of_row w2 _ 0 _ _ _ hk2; have e1 := cell_of_row w2 _ 1 _ _ _ hk2; have e2 := cell_of_row w2 _ 2 _ _ _ hk2; have ez := fun k => frozen_of_row w2 (w.heap.size + 1) k _ _ hk2))
  have hb02 : Below w.heap.size w (((w2.setCell ⟨w.heap.size + 1, 0, none⟩ (.string f.nm)).setCell ⟨w.heap.size + 1, 1, none⟩ (.string f.tx)).setCell ⟨w.heap.size + 1, 2, none⟩ (.int .i64 f.kp)) :=
    (((hb0.drew.trans (hb12.mono (by show _ ≤ W0.heap.size; omega))).setCell (p := ⟨w.heap.size + 1, 0, none⟩) (Nat.le_succ _) _).setCell (p := ⟨w.heap.size + 1, 1, none⟩) (Nat.le_succ _) _).setCell (p := ⟨w.heap.size + 1, 2, none⟩) (Nat.le_succ _) _
  go_wp2
  exact bodyPost_ret (v := flv f) (by simp [results, Try.results43, go_sem, e0, e1, e2]) rfl ⟨rfl, hb02⟩
set_option maxRecDepth 20000 in
set_option maxHeartbeats 1000000 in
theorem cutTo_any (f : Fl) (told : Int) (w : World) (h1 : f.nm.size ≤ 4000000) (h2 : f.tx.size ≤ 4000000) (hk : 0 ≤ f.kp ∧ f.kp ≤ f.tx.size) :
    Calls Try.prog 27 #[flv f, .int .i64 told] w fun e w' => e = .returned (flv (cutF f told)) ∧ Below w.heap.size w w' := by
  have hcn : 0 ≤ cutN f told ∧ cutN f told ≤ f.tx.size := by unfold cutN; omega
  have hes : (f.tx.extract 0 (cutN f told).toNat).size ≤ 4000000 := by rw [ByteArray.size_extract]; omega
  have C : Hid (∀ W, Calls Try.prog 43 #[flv (cutF f told)] W fun e w' => e = .returned (flv (cutF f told)) ∧ Below W.heap.size W w') := fun W => copied_any (cutF f told) W h1 hes
  unfold cutF at C ⊢
  have hz : Hid (min (max told f.kp) (f.tx.size : Int) = cutN f told) := rfl
  obtain ⟨z, hzz⟩ : ∃ z, cutN f told = z := ⟨_, rfl⟩
  rw [hzz] at C hz hcn hes ⊢
  clear hzz
  obtain ⟨hcn1, hcn2⟩ := hcn
  go_enter Try.func27, Try.ntmps27
  go_wp2
  rw [show min (max told f.kp) (f.tx.size : Int) = z from unhide hz]
  obtain ⟨W0, hW0, c0, c1, c2, hblk, hsz, hb0⟩ := two_new w f 36 #[.string ⟨#[]⟩, .string ⟨#[]⟩, .int .i64 0]
  rw [hW0]
  clear hW0
  have hl0 : w.heap.size < W0.heap.size := by omega
  have hl1 : w.heap.size + 1 < W0.heap.size := by omega
  have hne : w.heap.size ≠ w.heap.size + 1 := by omega
  replace hsz := hide hsz
  replace hblk := hide hblk
  go_region_held3 (fun W => W.cell? ⟨w.heap.size, 0, none⟩ = some (.string f.nm) ∧ W.cell? ⟨w.heap.size, 1, none⟩ = some (.string f.tx) ∧ W.cell? ⟨w.heap.size, 2, none⟩ = some (.int .i64 f.kp))
    (first | exact ⟨c0, c1, c2⟩ | exact ⟨(hb1.cell (p := ⟨w.heap.size, 0, none⟩) hl0).trans c0, (hb1.cell (p := ⟨w.heap.size, 1, none⟩) hl0).trans c1, (hb1.cell (p := ⟨w.heap.size, 2, none⟩) hl0).trans c2⟩ | exact ⟨c3o hne _ _ _ _ _ _ ((hb1.cell (p := ⟨w.heap.size, 0, none⟩) hl0).trans c0), c3o hne _ _ _ _ _ _ ((hb1.cell (p := ⟨w.heap.size, 1, none⟩) hl0).trans c1), c3o hne _ _ _ _ _ _ ((hb1.cell (p := ⟨w.heap.size, 2, none⟩) hl0).trans c2)⟩)
    (first
      | (go_at_call 43; refine ((unhide C) _).mono ?_; rintro e w1 ⟨rfl, hb1⟩; have hk1 : w1.heap[w.heap.size + 1]? = _ := (hb1.block (w.heap.size + 1) hl1).trans (unhide hblk); have e0 := cell_of_row w1 _ 0 _ _ _ hk1; have e1 := cell_of_row w1 _ 1 _ _ _ hk1; have e2 := cell_of_row w1 _ 2 _ _ _ hk1; have ez := fun k => frozen_of_row w1 (w.heap.size + 1) k _ _ hk1))
  have hb02 : Below w.heap.size w (((w1.setCell ⟨w.heap.size + 1, 0, none⟩ (.string f.nm)).setCell ⟨w.heap.size + 1, 1, none⟩ (.string (f.tx.extract 0 z.toNat))).setCell ⟨w.heap.size + 1, 2, none⟩ (.int .i64 z)) :=
    (((hb0.drew.trans (hb1.mono (by show _ ≤ W0.heap.size; omega))).setCell (p := ⟨w.heap.size + 1, 0, none⟩) (Nat.le_succ _) _).setCell (p := ⟨w.heap.size + 1, 1, none⟩) (Nat.le_succ _) _).setCell (p := ⟨w.heap.size + 1, 2, none⟩) (Nat.le_succ _) _
  go_wp2
  exact bodyPost_ret (v := flv ⟨f.nm, f.tx.extract 0 z.toNat, z⟩) (by simp [results, Try.results27, go_sem, e0, e1, e2]) rfl ⟨rfl, hb02⟩
end Go.Proofs.Ytkaaabpodhgbpaa
