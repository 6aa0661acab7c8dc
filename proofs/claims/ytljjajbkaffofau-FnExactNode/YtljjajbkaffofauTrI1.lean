/- Trees by the project's own functions: nodes that know who stands beside and above, over the loaded program. -/
import Derived.Test.YtljjajbkaffofauTre2
import Derived.Test.YtljjajbkaffofauChI1
namespace Go.Proofs.Ytljjajbkaffofau
open Go.RowKit
theorem chop5_any (a b c d f : ByteArray) (ha : a.size ≤ 1) (hb : b.size ≤ 1) (hc : c.size ≤ 1048576) (hd : d.size ≤ 1048576) (hf : f.size ≤ 1) (w : World) :
    Calls Try.prog 36 #[.slice (some ⟨w.heap.size, 0, none⟩) 5 5] (w.alloc (.cells #[.string a, .string b, .string c, .string d, .string f] 9)) fun e w' => e = .returned (.string (chopB (a ++ b ++ c ++ d ++ f))) ∧ Below w.heap.size w w' := by
  have h := chopParts_any w.heap.size 0 5 5 [a, b, c, d, f] rfl (a ++ b ++ c ++ d ++ f) (by simp [ByteArray.data_append, Array.toList_append]) (by rw [ByteArray.size_append, ByteArray.size_append, ByteArray.size_append, ByteArray.size_append]; omega) (w.alloc (.cells #[.string a, .string b, .string c, .string d, .string f] 9)) (row_texts w [a, b, c, d, f] 9) (by simp) (Nat.le_refl _) (by omega)
  refine h.mono ?_
  rintro e w1 ⟨rfl, hb1⟩
  exact ⟨rfl, ((Below.refl w.heap.size w).alloc (Nat.le_refl _) _).trans (hb1.mono (by simp))⟩
set_option maxRecDepth 20000 in
set_option maxHeartbeats 800000 in
theorem implNode_any (level place : Int) (a b : ByteArray) (ha : a.size ≤ 1048576) (hb : b.size ≤ 1048576) (w : World) :
    Calls Try.prog 21 #[.int .i64 level, .int .i64 place, .string a, .string b] w fun e w' => e = .returned (.string (nodeB level place a b)) ∧ Below w.heap.size w w' := by
  have c1 := hide (fun W => implByteY_any level W)
  have c2 := hide (fun W => implByteY_any place W)
  have CC := hide (fun W => chop5_any (oneY level) (oneY place) a b ⟨#[110]⟩ (by rw [oneY_size]; omega) (by rw [oneY_size]; omega) ha hb (by show 1 ≤ 1; omega) W)
  have HN := hide (show chopB (oneY level ++ oneY place ++ a ++ b ++ ⟨#[110]⟩) = nodeB level place a b from rfl)
  rw [unhide HN] at CC
  generalize nodeB level place a b = R at *
  generalize oneY level = ya at *
  generalize oneY place = yb at *
  clear HN
  go_enter Try.func21, Try.ntmps21
  go_wp2_with fail
  refine (unhide c1 w).mono ?_
  rintro e w1 ⟨rfl, hb1⟩
  go_wp2_with fail
  refine (unhide c2 w1).mono ?_
  rintro e w2 ⟨rfl, hb2⟩
  have hB2 := hb1.trans (hb2.mono hb1.size)
  go_wp2_with fail
  refine (unhide CC w2).mono ?_
  rintro e w3 ⟨rfl, hb3⟩
  have hB3 := hB2.trans (hb3.mono hB2.size)
  go_wp2
  go_ret
  exact ⟨rfl, hB3⟩
/-- What a call leaves of the older blocks: all but those in S. -/
def KpS (S : Nat → Prop) (w w' : World) : Prop := w'.os = w.os ∧ w'.tape = w.tape ∧ w'.output = w.output ∧ w.heap.size ≤ w'.heap.size ∧ ∀ k, k < w.heap.size → ¬ S k → w'.heap[k]? = w.heap[k]?
theorem KpS.refl (S : Nat → Prop) (w : World) : KpS S w w := ⟨rfl, rfl, rfl, Nat.le_refl _, fun _ _ _ => rfl⟩
theorem KpS.trans {S : Nat → Prop} {a b c : World} (h : KpS S a b) (k : KpS S b c) : KpS S a c :=
  ⟨k.1.trans h.1, k.2.1.trans h.2.1, k.2.2.1.trans h.2.2.1, Nat.le_trans h.2.2.2.1 k.2.2.2.1, fun i hi hs => (k.2.2.2.2 i (Nat.lt_of_lt_of_le hi h.2.2.2.1) hs).trans (h.2.2.2.2 i hi hs)⟩
theorem KpS.mono {S T : Nat → Prop} {a b : World} (h : KpS S a b) (hst : ∀ k, k < a.heap.size → S k → T k) : KpS T a b :=
  ⟨h.1, h.2.1, h.2.2.1, h.2.2.2.1, fun i hi hs => h.2.2.2.2 i hi fun hS => hs (hst i hi hS)⟩
theorem KpS.trans2 {S T : Nat → Prop} {a b c : World} (h : KpS S a b) (k : KpS T b c) (hst : ∀ i, i < a.heap.size → T i → S i) : KpS S a c :=
  ⟨k.1.trans h.1, k.2.1.trans h.2.1, k.2.2.1.trans h.2.2.1, Nat.le_trans h.2.2.2.1 k.2.2.2.1, fun i hi hs => (k.2.2.2.2 i (Nat.lt_of_lt_of_le hi h.2.2.2.1) fun hT => hs (hst i hi hT)).trans (h.2.2.2.2 i hi hs)⟩
theorem KpS.size {S : Nat → Prop} {a b : World} (h : KpS S a b) : a.heap.size ≤ b.heap.size := h.2.2.2.1
theorem below_kps {a b : World} (h : Below a.heap.size a b) (S : Nat → Prop) : KpS S a b := ⟨h.os, h.tape, h.output, h.size, fun k hk _ => h.block k hk⟩
theorem KpS.set {S : Nat → Prop} {a b : World} (h : KpS S a b) (g o : Nat) (u : Value) (hg : g < a.heap.size → S g) : KpS S a (b.setCell ⟨g, o, none⟩ u) :=
  ⟨h.1, h.2.1, h.2.2.1, by have := h.size; simpa using this, fun k hk hs => (RowKit.Below.heap_setCell _ _ _ _ (fun e => hs (by have e2 : k = g := e; rw [e2]; exact hg (by rw [← e2]; exact hk)))).trans (h.2.2.2.2 k hk hs)⟩
theorem KpS.below {S : Nat → Prop} {a b : World} (h : KpS S a b) (B : Nat) (hB : B ≤ a.heap.size) (hS : ∀ k, k < B → ¬ S k) : Below B a b :=
  ⟨h.1, h.2.1, h.2.2.1, h.size, fun k hk => h.2.2.2.2 k (Nat.lt_of_lt_of_le hk hB) (hS k hk)⟩
theorem CB.kps {w w' : World} {g : Nat} {T : TypeId} {cs : Array Value} {S : Nat → Prop} (h : CB w g T cs) (hb : KpS S w w') (hg : ¬ S g) : CB w' g T cs := by
  unfold CB
  rw [hb.2.2.2.2 g h.lt hg]
  exact h
theorem OwnV.kps {w w' : World} {base : Nat} {e : TypeId} {v : Value} {xs : List Value} {S : Nat → Prop} (h : OwnV w base e v xs) (hb : KpS S w w') (hB : ∀ g, v.ownBlock = some g → ¬ S g) : OwnV w' base e v xs := by
  have hlt := h.lt
  refine ⟨h.1, ?_⟩
  rcases h.2 with hn | ⟨g, cap, cur, rfl, hbg, hgg, rest⟩
  · exact .inl hn
  · refine .inr ⟨g, cap, cur, rfl, hbg, ?_, rest⟩
    rw [hb.2.2.2.2 g (hlt g rfl).2 (hB g rfl)]
    exact hgg
/-- A pointer to a node, and a node's cells. -/
def pv (g : Nat) : Value := .pointer (some ⟨g, 0, none⟩)
def nilP : Value := .pointer none
abbrev tn (s : ByteArray) (b u : Value) : Array Value := #[.string s, b, u]
def gAt (gs : List Nat) (i : Nat) : Nat := gs.getD i 0
theorem gAt_get (gs : List Nat) (i : Nat) (h : i < gs.length) : (gs.map pv)[i]? = some (pv (gAt gs i)) := by
  unfold gAt
  rw [List.getElem?_map, List.getD_eq_getElem?_getD, List.getElem?_eq_getElem h]
  rfl
theorem gAt_mem (gs : List Nat) (i : Nat) (h : i < gs.length) : gAt gs i ∈ gs := by
  unfold gAt
  rw [List.getD_eq_getElem?_getD, List.getElem?_eq_getElem h]
  exact List.getElem_mem h
theorem gAt_of_mem (gs : List Nat) (g : Nat) (h : g ∈ gs) : ∃ i, i < gs.length ∧ gAt gs i = g := by
  obtain ⟨i, hi, e⟩ := List.getElem_of_mem h
  refine ⟨i, hi, ?_⟩
  unfold gAt
  rw [List.getD_eq_getElem?_getD, List.getElem?_eq_getElem hi]
  exact e
theorem gAt_inj (gs : List Nat) (hn : gs.Nodup) (i j : Nat) (hi : i < gs.length) (hj : j < gs.length) (h : gAt gs i = gAt gs j) : i = j := by
  unfold gAt at h
  rw [List.getD_eq_getElem?_getD, List.getElem?_eq_getElem hi, List.getD_eq_getElem?_getD, List.getElem?_eq_getElem hj] at h
  exact (List.getElem_inj hn).1 h
theorem gAt_app_lt (gs : List Nat) (g i : Nat) (h : i < gs.length) : gAt (gs ++ [g]) i = gAt gs i := by
  unfold gAt
  rw [List.getD_eq_getElem?_getD, List.getElem?_append_left h, ← List.getD_eq_getElem?_getD]
theorem gAt_app_new (gs : List Nat) (g : Nat) : gAt (gs ++ [g]) gs.length = g := by
  unfold gAt
  rw [List.getD_eq_getElem?_getD, List.getElem?_append_right (Nat.le_refl _), Nat.sub_self]
  rfl
/-- The row that is filled as far as k. -/
def filG (gs : List Nat) (m : Nat) : List Value := gs.map pv ++ List.replicate (m - gs.length) nilP
theorem filG_len (gs : List Nat) (m : Nat) (h : gs.length ≤ m) : (filG gs m).length = m := by unfold filG; rw [List.length_append, List.length_map, List.length_replicate]; omega
theorem filG_set (gs : List Nat) (m k : Nat) (hk : gs.length = k) (h : k < m) (g : Nat) : (filG gs m).set k (pv g) = filG (gs ++ [g]) m := by
  subst hk
  unfold filG
  rw [List.set_append, if_neg (by rw [List.length_map]; omega), List.length_map, Nat.sub_self, List.map_append, List.length_append, List.append_assoc]
  congr 1
  obtain ⟨r, hr⟩ : ∃ r, m - gs.length = r + 1 := ⟨m - gs.length - 1, by omega⟩
  rw [hr, show m - (gs.length + [g].length) = r by show m - (gs.length + 1) = r; omega, List.replicate_succ, List.set_cons_zero]
  rfl
theorem filG_full (gs : List Nat) (m : Nat) (h : gs.length = m) : filG gs m = gs.map pv := by unfold filG; rw [h, Nat.sub_self, List.replicate_zero, List.append_nil]
theorem madeP (n : Nat) : (madeCells nilP.cells (n * 1)).toList = filG [] n := by
  unfold madeCells filG
  apply List.ext_getElem?
  intro j
  rw [Array.toList_map, Array.toList_range, List.map_nil, List.nil_append, List.getElem?_map, List.getElem?_replicate, Nat.mul_one]
  by_cases hj : j < n
  · rw [List.getElem?_range hj, if_pos (by show j < n - 0; omega)]
    show some ((#[nilP] : Array Value)[j % 1]!) = _
    rw [Nat.mod_one]; rfl
  · rw [List.getElem?_eq_none (by simp; omega), if_neg (by show ¬ j < n - 0; omega)]; rfl
theorem infoPtr : (Try.prog.info? 52).map (fun i => (i.zero, i.size, i.bytes)) = some (some (.pointer none), 1, 8) := by kernel_rfl
/-- A row of nodes with these texts, all of the call's own. -/
def Nds (w : World) (base : Nat) (v : Value) (gs : List Nat) (l : List ByteArray) : Prop :=
  OwnV w base 52 v (gs.map pv) ∧ gs.length = l.length ∧ gs.Nodup ∧ ∀ i, i < l.length → base ≤ gAt gs i ∧ ∃ b u, CB w (gAt gs i) 54 (tn (bAt l i) b u)
theorem Nds.low {w : World} {base base' : Nat} {v : Value} {gs : List Nat} {l : List ByteArray} (h : Nds w base v gs l) (hb : base' ≤ base) : Nds w base' v gs l :=
  ⟨h.1.low hb, h.2.1, h.2.2.1, fun i hi => ⟨Nat.le_trans hb (h.2.2.2 i hi).1, (h.2.2.2 i hi).2⟩⟩
theorem Nds.mem {w : World} {base : Nat} {v : Value} {gs : List Nat} {l : List ByteArray} (h : Nds w base v gs l) (g : Nat) (hg : g ∈ gs) : base ≤ g ∧ g < w.heap.size := by
  obtain ⟨i, hi, rfl⟩ := gAt_of_mem gs g hg
  obtain ⟨h1, b, u, h2⟩ := h.2.2.2 i (by rw [← h.2.1]; exact hi)
  exact ⟨h1, h2.lt⟩
theorem Nds.off {w : World} {base : Nat} {v : Value} {gs : List Nat} {l : List ByteArray} (h : Nds w base v gs l) (g : Nat) (hg : g ∈ gs) : v.ownBlock ≠ some g := by
  obtain ⟨i, hi, rfl⟩ := gAt_of_mem gs g hg
  obtain ⟨h1, b, u, h2⟩ := h.2.2.2 i (by rw [← h.2.1]; exact hi)
  exact h2.off h.1 (by decide)
end Go.Proofs.Ytljjajbkaffofau
