/- Merged: Sig0, SgH, Dpt, ChI1, Chn1, Apw, Chn2, Apg. -/
import Derived.Test.YtjgnjjphankhnabGreatMga1
import Derived.Test.YtjgnjjphankhnabGreatMga2
import Derived.Test.YtjgnjjphankhnabGreatMga3
import Derived.Test.YtjgnjjphankhnabGreatMga4
import Derived.Test.YtjgnjjphankhnabGreatMga5
import Derived.Laws.DeepStrings4
import Derived.Deep.RegionHeld3
import Derived.BigQuiet
/- Keys of a tree, reckoned: leaves, signatures, whether they are right, their texts. -/
namespace Go.Proofs.YtjgnjjphankhnabGreat
open Go.RowKit
structure Sg where
  leaf : Int
  once : List ByteArray
  path : List ByteArray
def lefO (seed : ByteArray) (i : Nat) : ByteArray := onceP (keysO seed (i : Int)) (i : Int)
def lvsO (seed : ByteArray) : List ByteArray := (List.range 4).map (lefO seed)
theorem lvsO_len (seed : ByteArray) : (lvsO seed).length = 4 := by unfold lvsO; rw [List.length_map, List.length_range]
theorem keysO_len (seed : ByteArray) (leaf : Int) : (keysO seed leaf).length = 10 := by unfold keysO; rw [List.length_map, List.length_range]
theorem keysO_size (seed : ByteArray) (leaf : Int) : ∀ x ∈ keysO seed leaf, x.size = 4 := by
  intro x hx
  unfold keysO at hx
  obtain ⟨i, _, rfl⟩ := List.mem_map.1 hx
  exact chopB_size _
theorem onceP_size (l : List ByteArray) (leaf : Int) (h : l.length = 10) : (onceP l leaf).size = 4 := by unfold onceP; rw [if_pos h]; exact chopB_size _
theorem lefO_size (seed : ByteArray) (i : Nat) : (lefO seed i).size = 4 := onceP_size _ _ (keysO_len _ _)
theorem lvsO_size (seed : ByteArray) : ∀ x ∈ lvsO seed, x.size = 4 := by
  intro x hx
  unfold lvsO at hx
  obtain ⟨i, _, rfl⟩ := List.mem_map.1 hx
  exact lefO_size _ _
theorem bAt_map (f : Nat → ByteArray) (n i : Nat) (h : i < n) : bAt ((List.range n).map f) i = f i := by
  unfold bAt
  rw [List.getD_eq_getElem?_getD, List.getElem?_map, List.getElem?_range h]
  rfl
def pubO (seed : ByteArray) : ByteArray := rootB (lvsO seed)
def sgnS (seed : ByteArray) (leaf : Int) (m : ByteArray) : Sg := if 0 ≤ leaf ∧ leaf ≤ 3 then ⟨leaf, onceS (keysO seed leaf) leaf m, pathL (lvsO seed) leaf⟩ else ⟨0, [], []⟩
def four (l : List ByteArray) : Bool := l.all fun x => decide (x.size = 4)
theorem four_yes {l : List ByteArray} (h : four l = true) : ∀ x ∈ l, x.size = 4 := fun x hx => by
  have := List.all_eq_true.1 h x hx
  simpa using this
theorem four_of {l : List ByteArray} (h : ∀ x ∈ l, x.size = 4) : four l = true := List.all_eq_true.2 fun x hx => by simpa using h x hx
theorem four_no {l : List ByteArray} (k : Nat) (hk : k < l.length) (h : ¬ (bAt l k).size = 4) : four l = false := by
  cases e : four l with
  | false => rfl
  | true =>
    refine absurd (four_yes e (bAt l k) ?_) h
    unfold bAt
    rw [List.getD_eq_getElem?_getD, List.getElem?_eq_getElem hk]
    exact List.getElem_mem hk
theorem four_bAt {l : List ByteArray} (h : ∀ k, k < l.length → (bAt l k).size = 4) : four l = true := four_of fun x hx => by
  obtain ⟨k, hk, rfl⟩ := List.mem_iff_getElem.1 hx
  have := h k hk
  unfold bAt at this
  rw [List.getD_eq_getElem?_getD, List.getElem?_eq_getElem hk] at this
  exact this
theorem bAt_four {l : List ByteArray} (h : four l = true) (k : Nat) (hk : k < l.length) : (bAt l k).size = 4 := by
  refine four_yes h _ ?_
  unfold bAt
  rw [List.getD_eq_getElem?_getD, List.getElem?_eq_getElem hk]
  exact List.getElem_mem hk
def sgShape (s : Sg) : Prop := (0 ≤ s.leaf ∧ s.leaf ≤ 3) ∧ s.once.length = 10 ∧ s.path.length = 2
def sgSh (s : Sg) : Bool := decide ((0 ≤ s.leaf ∧ s.leaf ≤ 3) ∧ s.once.length = 10 ∧ s.path.length = 2)
def sgOk (s : Sg) : Bool := sgSh s && (four s.once && four s.path)
theorem sgOk_shape {s : Sg} (h : sgOk s = true) : sgShape s := by unfold sgOk at h; rw [Bool.and_eq_true] at h; have h1 := h.1; unfold sgSh at h1; have h2 := of_decide_eq_true h1; exact h2
theorem sgOk_once {s : Sg} (h : sgOk s = true) : four s.once = true := by unfold sgOk at h; rw [Bool.and_eq_true, Bool.and_eq_true] at h; exact h.2.1
theorem sgOk_path {s : Sg} (h : sgOk s = true) : four s.path = true := by unfold sgOk at h; rw [Bool.and_eq_true, Bool.and_eq_true] at h; exact h.2.2
theorem sgSh_of {s : Sg} (h : sgShape s) : sgSh s = true := by unfold sgSh; exact decide_eq_true h
theorem sgSh_no {s : Sg} (h : ¬ sgShape s) : sgSh s = false := by unfold sgSh; exact decide_eq_false h
theorem sgOk_of {s : Sg} (h1 : sgShape s) (h2 : four s.once = true) (h3 : four s.path = true) : sgOk s = true := by unfold sgOk; rw [sgSh_of h1, h2, h3]; rfl
theorem sgOk_no1 {s : Sg} (h : ¬ sgShape s) : sgOk s = false := by unfold sgOk; rw [sgSh_no h]; rfl
theorem sgOk_no2 {s : Sg} (h : four s.once = false) : sgOk s = false := by unfold sgOk; rw [h]; cases sgSh s <;> rfl
theorem sgOk_no3 {s : Sg} (h : four s.path = false) : sgOk s = false := by unfold sgOk; rw [h]; cases sgSh s <;> cases four s.once <;> rfl
def fndB (m : ByteArray) (s : Sg) : ByteArray := rootBy (onceF s.once s.leaf m) s.leaf s.path
def chkB (p m : ByteArray) (s : Sg) : Bool := sgOk s && decide (fndB m s = p)
/-- The texts f 0 .. f (k - 1), one behind the other, behind t. -/
def catT (t : ByteArray) (f : Nat → ByteArray) : Nat → ByteArray
  | 0 => t
  | k + 1 => catT t f k ++ f k
theorem catT_size (t : ByteArray) (f : Nat → ByteArray) (n : Nat) (h : ∀ i, i < n → (f i).size = 4) (k : Nat) (hk : k ≤ n) : (catT t f k).size = t.size + 4 * k := by
  induction k with
  | zero => rfl
  | succ k ih =>
    show (catT t f k ++ f k).size = _
    rw [ByteArray.size_append, ih (by omega), h k (by omega)]
    omega
theorem catT_part (t : ByteArray) (f : Nat → ByteArray) (n : Nat) (h : ∀ i, i < n → (f i).size = 4) (k : Nat) (hk : k ≤ n) (i : Nat) (hi : i < k) : (catT t f k).extract (t.size + 4 * i) (t.size + 4 * (i + 1)) = f i := by
  induction k with
  | zero => omega
  | succ k ih =>
    show (catT t f k ++ f k).extract _ _ = _
    have hs := catT_size t f n h k (by omega)
    rw [ByteArray.extract_append, hs]
    by_cases e : i = k
    · subst e
      have h1 : (catT t f i).extract (t.size + 4 * i) (t.size + 4 * (i + 1)) = ByteArray.empty := ByteArray.extract_eq_empty_iff.2 (by rw [hs]; omega)
      have h2 : (f i).extract (t.size + 4 * i - (t.size + 4 * i)) (t.size + 4 * (i + 1) - (t.size + 4 * i)) = f i := by
        rw [Nat.sub_self, show t.size + 4 * (i + 1) - (t.size + 4 * i) = (f i).size by rw [h i (by omega)]; omega]
        exact ByteArray.extract_zero_size
      rw [h1, h2, ByteArray.empty_append]
    · have h2 : (f k).extract (t.size + 4 * i - (t.size + 4 * k)) (t.size + 4 * (i + 1) - (t.size + 4 * k)) = ByteArray.empty := ByteArray.extract_eq_empty_iff.2 (by omega)
      rw [h2, ByteArray.append_empty, ih (by omega) (by omega)]
theorem catT_head (t : ByteArray) (f : Nat → ByteArray) (k : Nat) (a b : Nat) (hb : b ≤ t.size) : (catT t f k).extract a b = t.extract a b := by
  induction k with
  | zero => rfl
  | succ k ih =>
    show (catT t f k ++ f k).extract _ _ = _
    have hs : t.size ≤ (catT t f k).size := by
      clear ih
      induction k with
      | zero => exact Nat.le_refl _
      | succ k ih => show _ ≤ (catT t f k ++ f k).size; rw [ByteArray.size_append]; omega
    have h2 : (f k).extract (a - (catT t f k).size) (b - (catT t f k).size) = ByteArray.empty := ByteArray.extract_eq_empty_iff.2 (by omega)
    rw [ByteArray.extract_append, h2, ByteArray.append_empty, ih]
def sgT (s : Sg) : ByteArray := if sgOk s = true then catT (catT (oneY s.leaf) (bAt s.once) 10) (bAt s.path) 2 else ⟨#[]⟩
/-- The part i of a text. -/
def prtB (t : ByteArray) (i : Nat) : ByteArray := t.extract (1 + i * 4) (1 + (i + 1) * 4)
def rdIn (t : ByteArray) : Prop := t.size = 49 ∧ byA t 0 < 4
def rdOk (t : ByteArray) : Bool := decide (t.size = 49 ∧ byA t 0 < 4)
theorem rdOk_of {t : ByteArray} (h : rdIn t) : rdOk t = true := by unfold rdOk; exact decide_eq_true h
theorem rdOk_in {t : ByteArray} (h : rdOk t = true) : rdIn t := by unfold rdOk at h; have h2 := of_decide_eq_true h; exact h2
def rdS (t : ByteArray) : Sg := if rdOk t = true then ⟨(byA t 0 : Int), (List.range 10).map (prtB t), (List.range 2).map fun i => prtB t (10 + i)⟩ else ⟨0, [], []⟩
theorem prtB_size (t : ByteArray) (h : t.size = 49) (i : Nat) (hi : i < 12) : (prtB t i).size = 4 := by unfold prtB; rw [ByteArray.size_extract, h]; omega
theorem rdS_ok {t : ByteArray} (h : rdIn t) : sgOk (rdS t) = true := by
  unfold rdS
  rw [if_pos (rdOk_of h)]
  refine sgOk_of ⟨⟨Int.natCast_nonneg _, ?_⟩, ?_, ?_⟩ ?_ ?_
  · have := h.2; show ((byA t 0 : Nat) : Int) ≤ 3; omega
  · show ((List.range 10).map _).length = 10; rw [List.length_map, List.length_range]
  · show ((List.range 2).map _).length = 2; rw [List.length_map, List.length_range]
  · refine four_of fun x hx => ?_
    obtain ⟨i, hi, rfl⟩ := List.mem_map.1 hx
    exact prtB_size t h.1 i (by have := List.mem_range.1 hi; omega)
  · refine four_of fun x hx => ?_
    obtain ⟨i, hi, rfl⟩ := List.mem_map.1 hx
    exact prtB_size t h.1 _ (by have := List.mem_range.1 hi; omega)
theorem ext_bAt {a b : List ByteArray} (n : Nat) (ha : a.length = n) (hb : b.length = n) (h : ∀ i, i < n → bAt a i = bAt b i) : a = b := by
  apply List.ext_getElem (by omega)
  intro i h1 h2
  have := h i (by omega)
  unfold bAt at this
  rw [List.getD_eq_getElem?_getD, List.getD_eq_getElem?_getD, List.getElem?_eq_getElem h1, List.getElem?_eq_getElem h2] at this
  exact this
theorem sgT_is {s : Sg} (h : sgOk s = true) : sgT s = catT (catT (oneY s.leaf) (bAt s.once) 10) (bAt s.path) 2 := by unfold sgT; rw [if_pos h]
theorem sgT_size {s : Sg} (h : sgOk s = true) : (sgT s).size = 49 := by
  obtain ⟨_, h1, h2⟩ := sgOk_shape h
  rw [sgT_is h, catT_size _ _ 2 (fun i hi => bAt_four (sgOk_path h) i (by omega)) 2 (Nat.le_refl _), catT_size _ _ 10 (fun i hi => bAt_four (sgOk_once h) i (by omega)) 10 (Nat.le_refl _), oneY_size]
theorem prt_sgT1 {s : Sg} (h : sgOk s = true) (i : Nat) (hi : i < 10) : prtB (sgT s) i = bAt s.once i := by
  obtain ⟨_, h1, h2⟩ := sgOk_shape h
  have hs := catT_size (oneY s.leaf) (bAt s.once) 10 (fun i hi => bAt_four (sgOk_once h) i (by omega)) 10 (Nat.le_refl _)
  rw [oneY_size] at hs
  unfold prtB
  rw [sgT_is h, catT_head _ _ _ _ _ (by rw [hs]; omega)]
  have := catT_part (oneY s.leaf) (bAt s.once) 10 (fun i hi => bAt_four (sgOk_once h) i (by omega)) 10 (Nat.le_refl _) i hi
  rw [oneY_size] at this
  rw [Nat.mul_comm i 4, Nat.mul_comm (i + 1) 4]
  exact this
theorem prt_sgT2 {s : Sg} (h : sgOk s = true) (i : Nat) (hi : i < 2) : prtB (sgT s) (10 + i) = bAt s.path i := by
  obtain ⟨_, h1, h2⟩ := sgOk_shape h
  have hs := catT_size (oneY s.leaf) (bAt s.once) 10 (fun i hi => bAt_four (sgOk_once h) i (by omega)) 10 (Nat.le_refl _)
  rw [oneY_size] at hs
  unfold prtB
  rw [sgT_is h]
  have := catT_part (catT (oneY s.leaf) (bAt s.once) 10) (bAt s.path) 2 (fun i hi => bAt_four (sgOk_path h) i (by omega)) 2 (Nat.le_refl _) i hi
  rw [hs] at this
  rw [show 1 + (10 + i) * 4 = 1 + 4 * 10 + 4 * i by omega, show 1 + (10 + i + 1) * 4 = 1 + 4 * 10 + 4 * (i + 1) by omega]
  exact this
theorem ext_one (t : ByteArray) (h : 0 < t.size) (b : ByteArray) : t.extract 0 1 = b → byA t 0 = byA b 0 := by
  intro e
  rw [← e]
  unfold byA
  rw [ByteArray.data_extract, Array.getD_eq_getD_getElem?, Array.getD_eq_getD_getElem?, Array.getElem?_extract]
  have hd : 0 < min 1 t.data.size := by have : 0 < t.data.size := h; omega
  rw [if_pos (by simpa using hd)]
theorem byA_oneY (z : Int) (h : 0 ≤ z ∧ z ≤ 255) : (byA (oneY z) 0 : Int) = z := by
  unfold byA oneY b256
  obtain ⟨n, rfl⟩ : ∃ n : Nat, z = n := ⟨z.toNat, by omega⟩
  simp
  omega
theorem byA_sgT {s : Sg} (h : sgOk s = true) : (byA (sgT s) 0 : Int) = s.leaf := by
  obtain ⟨⟨h0, h3⟩, _, _⟩ := sgOk_shape h
  have hz := sgT_size h
  have e : (sgT s).extract 0 1 = oneY s.leaf := by
    rw [sgT_is h]
    have hs := catT_size (oneY s.leaf) (bAt s.once) 10 (fun i hi => bAt_four (sgOk_once h) i (by have := (sgOk_shape h).2.1; omega)) 10 (Nat.le_refl _)
    rw [oneY_size] at hs
    rw [catT_head _ _ _ _ _ (by rw [hs]; omega), catT_head _ _ _ _ _ (by rw [oneY_size]; omega)]
    exact ByteArray.extract_zero_size
  rw [ext_one _ (by omega) _ e]
  exact byA_oneY _ (by omega)
theorem rdIn_sgT {s : Sg} (h : sgOk s = true) : rdIn (sgT s) := ⟨sgT_size h, by have := byA_sgT h; obtain ⟨⟨h0, h3⟩, _, _⟩ := sgOk_shape h; omega⟩
/-- What is written is read. -/
theorem rd_sgT {s : Sg} (h : sgOk s = true) : rdS (sgT s) = s := by
  obtain ⟨_, h1, h2⟩ := sgOk_shape h
  unfold rdS
  rw [if_pos (rdOk_of (rdIn_sgT h)), byA_sgT h]
  obtain ⟨lf, on, pt⟩ := s
  rw [Sg.mk.injEq]
  refine ⟨rfl, ext_bAt 10 (by rw [List.length_map, List.length_range]) h1 fun i hi => ?_, ext_bAt 2 (by rw [List.length_map, List.length_range]) h2 fun i hi => ?_⟩
  · rw [bAt_map _ _ _ hi]; exact prt_sgT1 h i hi
  · rw [bAt_map _ _ _ hi]; exact prt_sgT2 h i hi
theorem catT_prt (t : ByteArray) (k : Nat) (x : ByteArray) (hx : x = t.extract 0 1) : catT x (prtB t) k = t.extract 0 (1 + k * 4) := by
  induction k with
  | zero => rw [hx]; rfl
  | succ k ih =>
    show catT x (prtB t) k ++ prtB t k = _
    rw [ih]
    unfold prtB
    rw [ByteArray.extract_append_extract]
    congr 1 <;> omega
theorem catT_two (x : ByteArray) (f : Nat → ByteArray) (a b : Nat) : catT (catT x f a) (fun i => f (a + i)) b = catT x f (a + b) := by
  induction b with
  | zero => rfl
  | succ b ih => show catT (catT x f a) _ b ++ f (a + b) = catT x f (a + b) ++ f (a + b); rw [ih]
theorem catT_congr {f g : Nat → ByteArray} (x : ByteArray) (k : Nat) (h : ∀ i, i < k → f i = g i) : catT x f k = catT x g k := by
  induction k with
  | zero => rfl
  | succ k ih => show catT x f k ++ f k = catT x g k ++ g k; rw [ih fun i hi => h i (by omega), h k (by omega)]
theorem head_oneY (t : ByteArray) (h : 0 < t.size) : t.extract 0 1 = oneY (byA t 0 : Int) := by
  have hd : 0 < t.data.size := h
  apply ByteArray.ext
  rw [ByteArray.data_extract]
  unfold oneY byA b256
  apply Array.ext
  · simp; omega
  · intro i h1 h2
    have hi : i = 0 := by simp at h1; omega
    subst hi
    apply UInt8.toNat_inj.1
    have e : t.data[0]? = some t.data[0] := Array.getElem?_eq_getElem hd
    have hl : t.data[0].toNat < 256 := UInt8.toNat_lt _
    simp [e]
    omega
/-- What is read is written so. -/
theorem sgT_rd {t : ByteArray} (h : rdIn t) : sgT (rdS t) = t := by
  have ho := rdS_ok h
  rw [sgT_is ho]
  unfold rdS
  rw [if_pos (rdOk_of h)]
  show catT (catT (oneY (byA t 0 : Int)) (bAt ((List.range 10).map (prtB t))) 10) (bAt ((List.range 2).map fun i => prtB t (10 + i))) 2 = t
  rw [catT_congr _ 10 (fun i hi => bAt_map (prtB t) 10 i hi), catT_congr _ 2 (fun i hi => bAt_map (fun i => prtB t (10 + i)) 2 i hi), catT_two, catT_prt t 12 _ (head_oneY t (by have := h.1; omega)).symm, show 1 + 12 * 4 = t.size by rw [h.1]]
  exact ByteArray.extract_zero_size
theorem onceS_len (l : List ByteArray) (leaf : Int) (m : ByteArray) (h : l.length = 10) : (onceS l leaf m).length = 10 := by unfold onceS; rw [if_pos h, List.length_map, List.length_range]
theorem chnB_four (x : ByteArray) (leaf chain frm : Int) (k : Nat) (h : x.size = 4) : (chnB x leaf chain frm k).size = 4 := by
  cases k with
  | zero => exact h
  | succ k => exact chopB_size _
theorem lvs_four (l : List ByteArray) (h : ∀ x ∈ l, x.size = 4) (k : Nat) : four (lvs l k) = true := four_of (by
  cases k with
  | zero => exact h
  | succ k => exact fun x hx => lvL_size _ _ x hx)
theorem sibS_lt (n k : Nat) (hn : n < 4) (hk : k < 2) : sibN (n / 2 ^ k) < 4 / 2 ^ k := by
  rcases show k = 0 ∨ k = 1 by omega with rfl | rfl
  · rw [Nat.pow_zero, Nat.div_one, Nat.div_one]; unfold sibN; split <;> omega
  · rw [Nat.pow_one]; unfold sibN; split <;> omega
theorem sibS_size (seed : ByteArray) (leaf : Int) (h : 0 ≤ leaf ∧ leaf ≤ 3) (k : Nat) (hk : k < 2) : (pthN (lvsO seed) leaf.toNat k).size = 4 := by
  unfold pthN
  refine bAt_four (lvs_four _ (lvsO_size seed) k) _ ?_
  rw [lvs_len _ (lvsO_len seed) k]
  exact sibS_lt _ _ (by have := h.1; have := h.2; omega) hk
theorem sgnS_ok (seed : ByteArray) (leaf : Int) (m : ByteArray) (h : 0 ≤ leaf ∧ leaf ≤ 3) : sgOk (sgnS seed leaf m) = true := by
  unfold sgnS
  rw [if_pos h]
  refine sgOk_of ⟨h, onceS_len _ _ _ (keysO_len _ _), pathL_len _ _ (lvsO_len _) h⟩ ?_ ?_
  · refine four_of fun x hx => ?_
    have hx' : x ∈ onceS (keysO seed leaf) leaf m := hx
    unfold onceS at hx'
    rw [if_pos (keysO_len _ _)] at hx'
    obtain ⟨i, hi, rfl⟩ := List.mem_map.1 hx'
    refine chnB_four _ _ _ _ _ (bAt_four (four_of (keysO_size seed leaf)) i ?_)
    rw [keysO_len]
    exact List.mem_range.1 hi
  · refine four_of fun x hx => ?_
    have hx' : x ∈ pathL (lvsO seed) leaf := hx
    unfold pathL at hx'
    rw [if_pos ⟨lvsO_len _, h⟩] at hx'
    obtain ⟨i, hi, rfl⟩ := List.mem_map.1 hx'
    have hi2 := List.mem_range.1 hi
    exact sibS_size seed leaf h i hi2
theorem sgn_chk (seed : ByteArray) (leaf : Int) (m : ByteArray) (h : 0 ≤ leaf ∧ leaf ≤ 3) : chkB (pubO seed) m (sgnS seed leaf m) = true := by
  unfold chkB
  rw [sgnS_ok seed leaf m h, Bool.true_and]
  apply decide_eq_true
  unfold fndB sgnS pubO
  rw [if_pos h]
  show rootBy (onceF (onceS (keysO seed leaf) leaf m) leaf m) leaf (pathL (lvsO seed) leaf) = _
  obtain ⟨n, rfl⟩ : ∃ n : Nat, leaf = n := ⟨leaf.toNat, by have := h.1; omega⟩
  have hn : n < 4 := by have := h.2; omega
  rw [once_found _ _ _ (keysO_len _ _), show onceP (keysO seed (n : Int)) (n : Int) = bAt (lvsO seed) n from (bAt_map (lefO seed) 4 n hn).symm]
  exact root_by _ (lvsO_len _) n hn
end Go.Proofs.YtjgnjjphankhnabGreat

/- The laws' helpers on signatures, over the loaded program. -/
namespace Go.Proofs.YtjgnjjphankhnabGreat
open Go.RowKit
def sgv (lf : Int) (v1 v2 : Value) : Value := .agg #[.int .i64 lf, v1, v2]
/-- The signature s, read. -/
def RdSg (w : World) (v : Value) (s : Sg) : Prop := ∃ v1 v2, v = sgv s.leaf v1 v2 ∧ RdV w v1 (s.once.map sv) ∧ RdV w v2 (s.path.map sv) ∧ CapV v1 ∧ CapV v2
/-- The signature s, in memory of the call's own. -/
def OwnSg (w : World) (base : Nat) (v : Value) (s : Sg) : Prop := ∃ v1 v2, v = sgv s.leaf v1 v2 ∧ OwnV w base 9 v1 (s.once.map sv) ∧ OwnV w base 9 v2 (s.path.map sv) ∧ ∀ k, v1.ownBlock = some k → v2.ownBlock ≠ some k
theorem OwnSg.rd {w : World} {base : Nat} {v : Value} {s : Sg} (h : OwnSg w base v s) : RdSg w v s := by
  obtain ⟨v1, v2, e, h1, h2, _⟩ := h
  exact ⟨v1, v2, e, h1.rdv, h2.rdv, h1.capv, h2.capv⟩
theorem RdSg.below {w w' : World} {v : Value} {s : Sg} (h : RdSg w v s) (hb : Below w.heap.size w w') : RdSg w' v s := by
  obtain ⟨v1, v2, e, h1, h2, hc⟩ := h
  exact ⟨v1, v2, e, h1.below hb, h2.below hb, hc⟩
theorem OwnSg.below {w w' : World} {base : Nat} {v : Value} {s : Sg} (h : OwnSg w base v s) (hb : Below w.heap.size w w') : OwnSg w' base v s := by
  obtain ⟨v1, v2, e, h1, h2, h3⟩ := h
  exact ⟨v1, v2, e, h1.below hb, h2.below hb, h3⟩
theorem OwnSg.low {w : World} {base base' : Nat} {v : Value} {s : Sg} (h : OwnSg w base v s) (hb : base' ≤ base) : OwnSg w base' v s := by
  obtain ⟨v1, v2, e, h1, h2, h3⟩ := h
  exact ⟨v1, v2, e, h1.low hb, h2.low hb, h3⟩
theorem OwnSg.open {w : World} {base : Nat} {v : Value} {s : Sg} (h : OwnSg w base v s) : ∃ a1 n1 c1 a2 n2 c2, v = .agg #[.int .i64 s.leaf, .slice a1 n1 c1, .slice a2 n2 c2] := by
  obtain ⟨v1, v2, rfl, h1, h2, _⟩ := h
  obtain ⟨a1, c1, rfl⟩ := h1.shape
  obtain ⟨a2, c2, rfl⟩ := h2.shape
  exact ⟨_, _, _, _, _, _, rfl⟩
set_option maxRecDepth 20000 in
set_option maxHeartbeats 400000 in
theorem eqSig_any (s : Sg) (v u : Value) (w : World) (hv : RdSg w v s) (hu : RdSg w u s) (n1 : s.once.length ≤ 2000000) (n2 : s.path.length ≤ 2000000) :
    Calls Tryz.prog 16 #[v, u] w fun e w' => e = .returned (.bool true) ∧ Below w.heap.size w w' := by
  obtain ⟨lf, l1, l2⟩ := s
  obtain ⟨v1, v2, rfl, r1, r2, -⟩ := hv
  obtain ⟨u1, u2, rfl, p1, p2, -⟩ := hu
  have C1 := hide (fun (W : World) (h : Below w.heap.size w W) => eqStrS_any l1 v1 u1 W (r1.below h) (p1.below h) n1)
  have C2 := hide (fun (W : World) (h : Below w.heap.size w W) => eqStrS_any l2 v2 u2 W (r2.below h) (p2.below h) n2)
  obtain ⟨a1, c1, rfl⟩ := r1.shape
  obtain ⟨a2, c2, rfl⟩ := r2.shape
  obtain ⟨a3, c3, rfl⟩ := p1.shape
  obtain ⟨a4, c4, rfl⟩ := p2.shape
  unfold sgv
  clear r1 r2 p1 p2 n1 n2
  generalize ((Sg.mk lf l1 l2).once.map sv).length = k1 at *
  generalize ((Sg.mk lf l1 l2).path.map sv).length = k2 at *
  go_enter Tryz.func16, Tryz.ntmps16
  go_wp2_with fail
  obtain ⟨W, hW, hP, hR, hB, hs⟩ := two_cb w #[.int .i64 lf, .slice a1 k1 c1, .slice a2 k2 c2] #[.int .i64 lf, .slice a3 k1 c3, .slice a4 k2 c4] 24 24
  rw [hW]
  clear hW
  refine (unhide C1 W hB).mono ?_
  rintro e w1 ⟨rfl, hb1⟩
  have hB1 := hB.trans (hb1.mono hB.size)
  have d1 := (hP.step hb1).cell 2 (v := .slice a2 k2 c2) rfl
  have d2 := (hR.step hb1).cell 2 (v := .slice a4 k2 c4) rfl
  replace C2 := hide (unhide C2 w1 hB1)
  clear hb1 hP hR C1 hB
  go_wp2_with fail
  refine (unhide C2).mono ?_
  rintro e w2 ⟨rfl, hb2⟩
  have hB2 := hB1.trans (hb2.mono hB1.size)
  clear hb2 C2 d1 d2 hB1
  go_wp2
  go_ret
  exact ⟨rfl, hB2⟩
/-- The marks of a signature's texts. -/
theorem RdSg.len {w : World} {v : Value} {s : Sg} (h : RdSg w v s) : ∃ v1 v2, v = sgv s.leaf v1 v2 := by
  obtain ⟨v1, v2, e, _⟩ := h
  exact ⟨v1, v2, e⟩
/-- A signature whose texts are marked from k on. -/
def MkSgK (w : World) (base : Nat) (v : Value) (s : Sg) (k : Nat) : Prop := ∃ v1 v2, v = sgv s.leaf v1 v2 ∧ OwnV w base 9 v1 (mkT k s.once.length) ∧ OwnV w base 9 v2 (mkT (k + s.once.length) s.path.length)
theorem MkSgK.below {w w' : World} {base k : Nat} {v : Value} {s : Sg} (h : MkSgK w base v s k) (hb : Below w.heap.size w w') : MkSgK w' base v s k := by
  obtain ⟨v1, v2, e, h1, h2⟩ := h
  exact ⟨v1, v2, e, h1.below hb, h2.below hb⟩
def MkSg (w : World) (base : Nat) (v : Value) (s : Sg) : Prop := MkSgK w base v s 1
theorem MkSg.below {w w' : World} {base : Nat} {v : Value} {s : Sg} (h : MkSg w base v s) (hb : Below w.heap.size w w') : MkSg w' base v s := MkSgK.below h hb
set_option maxRecDepth 20000 in
set_option maxHeartbeats 400000 in
theorem markSigK_any (k : Nat) (hk1 : 1 ≤ k) (hk2 : k ≤ 10000000) (s : Sg) (v : Value) (base M : Nat) (w w0 : World) (hM : M = k + s.once.length + s.path.length) (ho : OwnSg w base v s) (hW : Below base w0 w) (hbw : base ≤ w.heap.size) (n1 : s.once.length ≤ 2000000) (n2 : s.path.length ≤ 2000000) :
    Calls Tryz.prog 17 #[v, .int .i64 (k : Int)] w fun e w' => e = .returned (.int .i64 (M : Int)) ∧ MkSgK w' base v s k ∧ Below base w0 w' ∧ (∀ g T cs, CB w g T cs → T ≠ 9 → CB w' g T cs) ∧ ∀ v1 v2, v = sgv s.leaf v1 v2 → ∀ (u : Value) (xs : List Value) (b : Nat), OwnV w b 9 u xs → (∀ j, u.ownBlock = some j → v1.ownBlock ≠ some j ∧ v2.ownBlock ≠ some j) → OwnV w' b 9 u xs := by
  obtain ⟨lf, l1, l2⟩ := s
  obtain ⟨v1, v2, rfl, o1, o2, ap⟩ := ho
  have hl1 : ((Sg.mk lf l1 l2).once.map sv).length = l1.length := by rw [List.length_map]
  have hl2 : ((Sg.mk lf l1 l2).path.map sv).length = l2.length := by rw [List.length_map]
  have C1 := hide (fun (W : World) (h : OwnV W base 9 v1 ((Sg.mk lf l1 l2).once.map sv)) => markStrS_own v1 base k (k + l1.length) ((Sg.mk lf l1 l2).once.map sv) W (by rw [hl1]) (by rw [hl1]; exact n1) hk1 (by omega) h)
  have C2 := hide (fun (W : World) (h : OwnV W base 9 v2 ((Sg.mk lf l1 l2).path.map sv)) => markStrS_own v2 base (k + l1.length) M ((Sg.mk lf l1 l2).path.map sv) W (by rw [hl2]; exact hM) (by rw [hl2]; exact n2) (by omega) (by have : l1.length ≤ 2000000 := n1; omega) h)
  rw [hl1] at C1
  rw [hl2] at C2
  have lo1 := hide (fun j (hj : v1.ownBlock = some j) => o1.lt j hj)
  have lo2 := hide (fun j (hj : v2.ownBlock = some j) => o2.lt j hj)
  have s1 := o1.shape
  have s2 := o2.shape
  rw [hl1] at s1
  rw [hl2] at s2
  obtain ⟨a1, c1, rfl⟩ := s1
  obtain ⟨a2, c2, rfl⟩ := s2
  unfold sgv
  replace o1 := hide o1; replace o2 := hide o2; replace ap := hide ap; replace hM := hide hM
  clear hl1 hl2 n1 n2
  show Calls _ _ _ _ fun e w' => e = .returned (.int .i64 (M : Int)) ∧ MkSgK w' base (sgv lf (.slice a1 l1.length c1) (.slice a2 l2.length c2)) ⟨lf, l1, l2⟩ k ∧ Below base w0 w' ∧ (∀ g T cs, CB w g T cs → T ≠ 9 → CB w' g T cs) ∧ ∀ v1 v2, sgv lf (.slice a1 l1.length c1) (.slice a2 l2.length c2) = sgv lf v1 v2 → ∀ (u : Value) (xs : List Value) (b : Nat), OwnV w b 9 u xs → (∀ j, u.ownBlock = some j → v1.ownBlock ≠ some j ∧ v2.ownBlock ≠ some j) → OwnV w' b 9 u xs
  have HV := hide (show ∀ v1 v2, sgv lf (.slice a1 l1.length c1) (.slice a2 l2.length c2) = sgv lf v1 v2 → v1 = .slice a1 l1.length c1 ∧ v2 = .slice a2 l2.length c2 from fun v1 v2 e => by unfold sgv at e; injection e with e; simp at e; exact ⟨e.1.symm, e.2.symm⟩)
  have HF := hide (fun (W : World) (h1 : OwnV W base 9 (.slice a1 l1.length c1) (mkT k l1.length)) (h2 : OwnV W base 9 (.slice a2 l2.length c2) (mkT (k + l1.length) l2.length)) => show MkSgK W base (sgv lf (.slice a1 l1.length c1) (.slice a2 l2.length c2)) ⟨lf, l1, l2⟩ k from ⟨_, _, rfl, h1, h2⟩)
  obtain ⟨q, hq⟩ : ∃ q, k + l1.length = q := ⟨_, rfl⟩
  rw [hq] at C1 C2 HF
  replace hq := hide hq
  generalize l1.length = m1 at *
  generalize l2.length = m2 at *
  go_enter Tryz.func17, Tryz.ntmps17
  go_wp2_with fail
  obtain ⟨W, hW1, hP, hB, hs⟩ := one_cb w #[.int .i64 lf, .slice a1 m1 c1, .slice a2 m2 c2] 24
  rw [hW1]
  clear hW1
  have o1' := (unhide o1).below hB
  have o2' := (unhide o2).below hB
  have hBW := hW.trans (hB.mono hbw)
  have off1 := hide (hP.off o1' (by decide))
  have KC := hide (fun gg T cs (h : CB w gg T cs) (hT : T ≠ 9) => show CB W gg T cs from h.step hB)
  refine (unhide C1 W o1').mono ?_
  rintro e w1 ⟨rfl, o3, hg3⟩
  have o4 := hide (o2'.grown hg3 (fun j hj e => unhide ap j e hj))
  have KC2 := hide (fun gg T cs (h : CB w gg T cs) (hT : T ≠ 9) => show CB w1 gg T cs from (unhide KC gg T cs h hT).grown hg3 ((unhide KC gg T cs h hT).off o1' hT))
  have KO := hide (unhide o4)
  have KU := hide (fun (u : Value) (xs : List Value) (b : Nat) (h : OwnV w b 9 u xs) (hap : ∀ j, u.ownBlock = some j → (Value.slice a1 m1 c1).ownBlock ≠ some j ∧ (Value.slice a2 m2 c2).ownBlock ≠ some j) => show OwnV w1 b 9 u xs from (h.below hB).grown hg3 (fun j hj e => (hap j hj).1 e))
  clear KC
  have hP1 := hP.grown hg3 (unhide off1)
  have hB1 := hBW.grown hg3 (by omega) (fun j hj => (unhide lo1 j hj).1)
  have d2 := hP1.cell 2 (v := .slice a2 m2 c2) rfl
  have hsz1 := hg3.size
  replace C2 := hide (unhide C2 w1 (unhide o4))
  replace o3 := hide o3
  clear hg3 hP hP1 C1 hB hBW off1 o1' o2' o4
  go_wp2_with fail
  refine (unhide C2).mono ?_
  rintro e w2 ⟨rfl, o5, hg5⟩
  have hB2 := hB1.grown hg5 (by omega) (fun j hj => (unhide lo2 j hj).1)
  have KC3 := hide (fun gg T cs (h : CB w gg T cs) (hT : T ≠ 9) => show CB w2 gg T cs from (unhide KC2 gg T cs h hT).grown hg5 ((unhide KC2 gg T cs h hT).off (unhide KO) hT))
  have KU3 := hide (show ∀ v1 v2, sgv lf (.slice a1 m1 c1) (.slice a2 m2 c2) = sgv lf v1 v2 → ∀ (u : Value) (xs : List Value) (b : Nat), OwnV w b 9 u xs → (∀ j, u.ownBlock = some j → v1.ownBlock ≠ some j ∧ v2.ownBlock ≠ some j) → OwnV w2 b 9 u xs from fun v1 v2 e u xs b h hap => by
    obtain ⟨rfl, rfl⟩ := unhide HV v1 v2 e
    exact (unhide KU u xs b h hap).grown hg5 (fun j hj e => (hap j hj).2 e))
  clear KC2 KO KU HV
  have o6 := (unhide o3).grown hg5 (fun j hj e => unhide ap j hj e)
  have HR := hide (unhide HF w2 o6 o5)
  clear hg5 C2 d2 hB1 o5 o6 o3 HF
  go_wp2
  go_ret
  exact ⟨rfl, unhide HR, hB2, unhide KC3, unhide KU3⟩
theorem markSig_any (s : Sg) (v : Value) (base M : Nat) (w w0 : World) (hM : M = 1 + s.once.length + s.path.length) (ho : OwnSg w base v s) (hW : Below base w0 w) (hbw : base ≤ w.heap.size) (n1 : s.once.length ≤ 2000000) (n2 : s.path.length ≤ 2000000) :
    Calls Tryz.prog 17 #[v, .int .i64 1] w fun e w' => e = .returned (.int .i64 (M : Int)) ∧ MkSg w' base v s ∧ Below base w0 w' ∧ ∀ g T cs, CB w g T cs → T ≠ 9 → CB w' g T cs :=
  (markSigK_any 1 (Nat.le_refl _) (by omega) s v base M w w0 hM ho hW hbw n1 n2).mono fun _ _ ⟨h1, h2, h3, h4, _⟩ => ⟨h1, h2, h3, h4⟩
set_option maxRecDepth 20000 in
set_option maxHeartbeats 400000 in
theorem heldSigK_any (k : Nat) (hk1 : 1 ≤ k) (hk2 : k ≤ 10000000) (s : Sg) (v : Value) (base M : Nat) (w : World) (hM : M = k + s.once.length + s.path.length) (ho : MkSgK w base v s k) (n1 : s.once.length ≤ 2000000) (n2 : s.path.length ≤ 2000000) :
    Calls Tryz.prog 18 #[v, .int .i64 (k : Int)] w fun e w' => e = .returned (.int .i64 (M : Int)) ∧ Below w.heap.size w w' := by
  obtain ⟨lf, l1, l2⟩ := s
  obtain ⟨v1, v2, rfl, o1, o2⟩ := ho
  have C1 := hide (fun (W : World) (h : Below w.heap.size w W) => heldStrS_any v1 k l1.length (k + l1.length) W rfl n1 hk1 (by omega) (o1.rdv.below h))
  have C2 := hide (fun (W : World) (h : Below w.heap.size w W) => heldStrS_any v2 (k + l1.length) l2.length M W hM n2 (by omega) (by have : l1.length ≤ 2000000 := n1; omega) (o2.rdv.below h))
  have s1 := o1.shape
  have s2 := o2.shape
  rw [mkT_len] at s1 s2
  obtain ⟨a1, c1, rfl⟩ := s1
  obtain ⟨a2, c2, rfl⟩ := s2
  have hq0 : 0 ≤ ((k + l1.length : Nat) : Int) := by omega
  have hM0 : 0 ≤ (M : Int) := by omega
  obtain ⟨q, hq⟩ : ∃ q, k + l1.length = q := ⟨_, rfl⟩
  rw [hq] at C1 C2 hq0
  replace hq := hide hq
  replace hM := hide hM
  unfold sgv
  clear o1 o2 n1 n2
  show Calls _ _ #[.agg #[.int .i64 lf, .slice a1 l1.length c1, .slice a2 l2.length c2], _] _ _
  generalize l1.length = m1 at *
  generalize l2.length = m2 at *
  have hq' : ¬ (q : Int) < 0 := by omega
  have hM' : ¬ (M : Int) < 0 := by omega
  go_enter Tryz.func18, Tryz.ntmps18
  go_wp2_with fail
  obtain ⟨W, hW1, hP, hB, hs⟩ := one_cb w #[.int .i64 lf, .slice a1 m1 c1, .slice a2 m2 c2] 24
  rw [hW1]
  clear hW1
  refine (unhide C1 W hB).mono ?_
  rintro e w1 ⟨rfl, hb1⟩
  have hB1 := hB.trans (hb1.mono hB.size)
  have d2 := (hP.step hb1).cell 2 (v := .slice a2 m2 c2) rfl
  replace C2 := hide (unhide C2 w1 hB1)
  clear hb1 hP C1 hB
  go_wp2_with fail
  refine (unhide C2).mono ?_
  rintro e w2 ⟨rfl, hb2⟩
  have hB2 := hB1.trans (hb2.mono hB1.size)
  clear hb2 C2 d2 hB1
  go_wp2
  go_ret
  exact ⟨rfl, hB2⟩
theorem heldSig_any (s : Sg) (v : Value) (base M : Nat) (w : World) (hM : M = 1 + s.once.length + s.path.length) (ho : MkSg w base v s) (n1 : s.once.length ≤ 2000000) (n2 : s.path.length ≤ 2000000) :
    Calls Tryz.prog 18 #[v, .int .i64 1] w fun e w' => e = .returned (.int .i64 (M : Int)) ∧ Below w.heap.size w w' :=
  heldSigK_any 1 (Nat.le_refl _) (by omega) s v base M w hM ho n1 n2
theorem sgv_inj {a b : Int} {v1 v2 u1 u2 : Value} (h : sgv a v1 v2 = sgv b u1 u2) : v1 = u1 ∧ v2 = u2 := by
  unfold sgv at h
  injection h with h
  simp at h
  exact h.2
theorem OwnSg.rows {w : World} {base : Nat} {lf : Int} {v1 v2 : Value} {s : Sg} (h : OwnSg w base (sgv lf v1 v2) s) : OwnV w base 9 v1 (s.once.map sv) ∧ OwnV w base 9 v2 (s.path.map sv) ∧ ∀ k, v1.ownBlock = some k → v2.ownBlock ≠ some k := by
  obtain ⟨u1, u2, e, h1, h2, h3⟩ := h
  obtain ⟨rfl, rfl⟩ := sgv_inj e
  exact ⟨h1, h2, h3⟩
theorem gR9 (w : World) (r : Option Nat) : w.grownBy w r := ⟨rfl, rfl, rfl, Nat.le_refl _, fun _ _ _ => rfl⟩
theorem gSet {a b : World} {g : Nat} (h : a.grownBy b (some g)) (k : Nat) (u : Value) : a.grownBy (b.setCell ⟨g, k, none⟩ u) (some g) := tT h (tS b g k u)
theorem OwnSg.grownO {w w' : World} {base g : Nat} {lf : Int} {v1 v2 : Value} {s : Sg} (h : OwnSg w base (sgv lf v1 v2) s) (hG : w.grownBy w' (some g)) (h1 : v1.ownBlock ≠ some g) (h2 : v2.ownBlock ≠ some g) : OwnSg w' base (sgv lf v1 v2) s := by
  obtain ⟨u1, u2, e, q1, q2, q3⟩ := h
  obtain ⟨rfl, rfl⟩ := sgv_inj e
  exact ⟨_, _, e, q1.grown hG (fun k hk e => h1 (by rw [hk, e])), q2.grown hG (fun k hk e => h2 (by rw [hk, e])), q3⟩
theorem OwnSg.offs {w : World} {base g : Nat} {T : TypeId} {cs : Array Value} {lf : Int} {v1 v2 : Value} {s : Sg} (h : OwnSg w base (sgv lf v1 v2) s) (hA : CB w g T cs) (hT : T ≠ 9) : v1.ownBlock ≠ some g ∧ v2.ownBlock ≠ some g :=
  ⟨hA.off h.rows.1 hT, hA.off h.rows.2.1 hT⟩
theorem OwnSg.bounds {w : World} {base : Nat} {lf : Int} {v1 v2 : Value} {s : Sg} (h : OwnSg w base (sgv lf v1 v2) s) : ∀ k, (v1.ownBlock = some k ∨ v2.ownBlock = some k) → base ≤ k ∧ k < w.heap.size := fun k hk => hk.elim (fun e => h.rows.1.lt k e) (fun e => h.rows.2.1.lt k e)
end Go.Proofs.YtjgnjjphankhnabGreat

/- Parts put behind one another, and their digest, over the loaded program. -/
namespace Go.Proofs.YtjgnjjphankhnabGreat
open Go.RowKit
theorem join_flat (xs : List (List UInt8)) : Lib.join xs [] = xs.flatten := by
  unfold Lib.join
  induction xs with
  | nil => rfl
  | cons x xs ih =>
    cases xs with
    | nil => simp [List.intercalate]
    | cons y ys =>
      have e : [].intercalate (x :: y :: ys) = x ++ ([] ++ [].intercalate (y :: ys)) := by simp [List.intercalate, List.intersperse]
      rw [e, ih]
      rfl
theorem barr_eq {a b : ByteArray} (h : a.data.toList = b.data.toList) : a = b := ByteArray.ext (Array.toList_inj.1 h)
set_option maxRecDepth 20000 in
set_option maxHeartbeats 400000 in
theorem digParts_any (bk o c n : Nat) (xs : List ByteArray) (hn : xs.length = n) (T : ByteArray) (hT : T.data.toList = (xs.map (·.data.toList)).flatten) (hTs : T.size ≤ 4000000) (w : World) (hcells : ∀ (j : Nat) x, xs[j]? = some x → w.cell? ⟨bk, o + j, none⟩ = some (.string x)) (hbk : bk < w.heap.size) (hcap : n ≤ c) (hN : n ≤ 1000) :
    Calls Tryz.prog 74 #[.slice (some ⟨bk, o, none⟩) n c] w fun e w' => e = .returned (.string (digB T)) ∧ Below w.heap.size w w' := by
  subst hn
  have hj : (⟨(Lib.join (xs.map (·.data.toList)) (⟨#[]⟩ : ByteArray).data.toList).toArray⟩ : ByteArray) = T := by
    apply barr_eq
    rw [hT]
    exact join_flat _
  have hz : (Lib.join (xs.map (·.data.toList)) (⟨#[]⟩ : ByteArray).data.toList).length ≤ 140737488355328 := by
    have e : (Lib.join (xs.map (·.data.toList)) (⟨#[]⟩ : ByteArray).data.toList) = T.data.toList := by rw [← hj]
    rw [e]
    show T.size ≤ _
    omega
  have CJ := hide (Tryz.strings_Join bk o c xs ⟨#[]⟩ w hcells hbk (by omega) hcap hz)
  rw [hj] at CJ
  have CD := hide (fun W => implDigest_any T hTs W)
  rw [show endV (blocksW first8 T 0 (T.size / 64)) (T.extract (64 * (T.size / 64)) T.size) T.size = digB T from rfl] at CD
  clear hz hj hT hcells
  generalize digB T = d at *
  go_enter Tryz.func74, Tryz.ntmps74
  go_wp2_with fail
  refine (unhide CJ).mono ?_
  rintro e w1 ⟨rfl, hb1⟩
  go_wp2_with fail
  refine ((unhide CD) w1).mono ?_
  rintro e w2 ⟨rfl, hb2⟩
  have hb12 := hb1.trans (hb2.mono hb1.size)
  clear hb1 hb2
  go_wp2
  go_ret
  exact ⟨rfl, hb12⟩
end Go.Proofs.YtjgnjjphankhnabGreat

/- Chains by the project's own functions: bytes, what is chopped, a step, chains, over the loaded program. -/
namespace Go.Proofs.YtjgnjjphankhnabGreat
open Go.RowKit
theorem below_grown14 {w w' : World} (hb : Below w.heap.size w w') (g : Nat) : w.grownBy w' (some g) := ⟨hb.os, hb.tape, hb.output, hb.size, fun k hk _ => hb.block k hk⟩
set_option maxRecDepth 20000 in
set_option maxHeartbeats 400000 in
theorem implByteY_any (z : Int) (w : World) :
    Calls Tryz.prog 39 #[.int .i64 z] w fun e w' => e = .returned (.string (oneY z)) ∧ Below w.heap.size w w' := by
  have hx := b256_lt z
  have E := hide (show oneY z = ⟨#[UInt8.ofNat (b256 z)]⟩ from rfl)
  rw [unhide E]
  have ew : IntKind.u8.wrap z = (b256 z : Int) := by rw [IntKind.wrap_u8]; unfold b256; omega
  have ew8 : z % 256 = (b256 z : Int) := by unfold b256; omega
  generalize b256 z = x at *
  have hcv := conv_oneY w x hx
  have hb : Below w.heap.size w (w.alloc (.cells #[.int .u8 (x : Int)] 5)) := (Below.refl w.heap.size w).alloc (Nat.le_refl _) _
  go_enter Tryz.func39, Tryz.ntmps39
  go_wp2
  go_ret
  exact ⟨rfl, hb⟩
set_option maxRecDepth 20000 in
set_option maxHeartbeats 400000 in
theorem chopParts_any (bk o c n : Nat) (xs : List ByteArray) (hn : xs.length = n) (T : ByteArray) (hT : T.data.toList = (xs.map (·.data.toList)).flatten) (hTs : T.size ≤ 4000000) (w : World) (hcells : ∀ (j : Nat) x, xs[j]? = some x → w.cell? ⟨bk, o + j, none⟩ = some (.string x)) (hbk : bk < w.heap.size) (hcap : n ≤ c) (hN : n ≤ 1000) :
    Calls Tryz.prog 62 #[.slice (some ⟨bk, o, none⟩) n c] w fun e w' => e = .returned (.string (chopB T)) ∧ Below w.heap.size w w' := by
  have C := hide (digParts_any bk o c n xs hn T hT hTs w hcells hbk hcap hN)
  have hz : (digB T).size = 32 := digB_size0 _
  have E := hide (show chopB T = (digB T).extract 0 4 from rfl)
  rw [unhide E]
  have hz' : (4 : Int) ≤ ((digB T).size : Int) := by omega
  generalize digB T = d at *
  replace hz := hide hz
  clear hcells hT
  go_enter Tryz.func62, Tryz.ntmps62
  go_wp2_with fail
  refine (unhide C).mono ?_
  rintro e w1 ⟨rfl, hb1⟩
  go_wp2
  go_ret
  exact ⟨rfl, hb1⟩
theorem row_texts (w : World) (xs : List ByteArray) (T : TypeId) : ∀ (j : Nat) x, xs[j]? = some x → (w.alloc (.cells (xs.map Value.string).toArray T)).cell? ⟨w.heap.size, 0 + j, none⟩ = some (.string x) := by
  intro j x hx
  rw [Nat.zero_add, cell_of_row _ w.heap.size j _ T (0, 0) (heap_alloc_new w _)]
  simp [hx]
theorem chop4_any (a b c d : ByteArray) (ha : a.size ≤ 2000000) (hb : b.size ≤ 1) (hc : c.size ≤ 1) (hd : d.size ≤ 1100000) (w : World) :
    Calls Tryz.prog 62 #[.slice (some ⟨w.heap.size, 0, none⟩) 4 4] (w.alloc (.cells #[.string a, .string b, .string c, .string d] 9)) fun e w' => e = .returned (.string (chopB (a ++ b ++ c ++ d))) ∧ Below w.heap.size w w' := by
  have h := chopParts_any w.heap.size 0 4 4 [a, b, c, d] rfl (a ++ b ++ c ++ d) (by simp [ByteArray.data_append, Array.toList_append]) (by rw [ByteArray.size_append, ByteArray.size_append, ByteArray.size_append]; omega) (w.alloc (.cells #[.string a, .string b, .string c, .string d] 9)) (row_texts w [a, b, c, d] 9) (by simp) (Nat.le_refl _) (by omega)
  refine h.mono ?_
  rintro e w1 ⟨rfl, hb1⟩
  exact ⟨rfl, ((Below.refl w.heap.size w).alloc (Nat.le_refl _) _).trans (hb1.mono (by simp))⟩
set_option maxRecDepth 20000 in
set_option maxHeartbeats 400000 in
theorem implChop_any (s : ByteArray) (hs : s.size ≤ 4000000) (w : World) :
    Calls Tryz.prog 64 #[.string s] w fun e w' => e = .returned (.string (chopB s)) ∧ Below w.heap.size w w' := by
  have C := hide (chopParts_any w.heap.size 0 1 1 [s] rfl s (by simp) hs (w.alloc (.cells #[.string s] 9)) (row_texts w [s] 9) (by simp) (Nat.le_refl _) (by omega))
  have hb0 : Below w.heap.size w (w.alloc (.cells #[.string s] 9)) := (Below.refl w.heap.size w).alloc (Nat.le_refl _) _
  generalize chopB s = d at *
  go_enter Tryz.func64, Tryz.ntmps64
  go_wp2_with fail
  refine (unhide C).mono ?_
  rintro e w1 ⟨rfl, hb1⟩
  have hb01 := hb0.trans (hb1.mono hb0.size)
  clear hb0 hb1 C
  go_wp2
  go_ret
  exact ⟨rfl, hb01⟩
abbrev plC (a b c : Int) : Array Value := #[.int .i64 a, .int .i64 b, .int .i64 c]
set_option maxRecDepth 20000 in
set_option maxHeartbeats 1000000 in
theorem chainStep_any (g : Nat) (a b c : Int) (x : ByteArray) (hx : x.size ≤ 1048576) (w : World) (hC : CB w g 96 (plC a b c)) :
    Calls Tryz.prog 76 #[.pointer (some ⟨g, 0, none⟩), .string x] w fun e w' => e = .returned (.string (chopB (oneY a ++ oneY b ++ oneY c ++ x))) ∧ CB w' g 96 (plC a b (IntKind.i64.wrap (c + 1))) ∧ w.grownBy w' (some g) := by
  obtain ⟨c', hc'⟩ : ∃ c', IntKind.i64.wrap (c + 1) = c' := ⟨_, rfl⟩
  have hc2 : wrap64 (c + 1) = c' := (IntWalk.i64_left (c + 1)).symm.trans hc'
  rw [hc']
  have hg := hC.lt
  have c0 := hC.cell 0 rfl
  have c1 := hC.cell 1 rfl
  have c2 := hC.cell 2 rfl
  have KS := hide (fun (W : World) (h : Below w.heap.size w W) => (⟨(h.cell (p := ⟨g, 0, none⟩) hg).trans c0, (h.cell (p := ⟨g, 1, none⟩) hg).trans c1, (h.cell (p := ⟨g, 2, none⟩) hg).trans c2⟩ : W.cell? ⟨g, 0, none⟩ = some (.int .i64 a) ∧ W.cell? ⟨g, 1, none⟩ = some (.int .i64 b) ∧ W.cell? ⟨g, 2, none⟩ = some (.int .i64 c)))
  have CY := hide (fun z W => implByteY_any z W)
  have CC := hide (fun W => chop4_any (oneY a) (oneY b) (oneY c) x (by rw [oneY_size]; omega) (by rw [oneY_size]; omega) (by rw [oneY_size]; omega) (by omega) W)
  generalize chopB (oneY a ++ oneY b ++ oneY c ++ x) = q at *
  obtain ⟨Y, hY⟩ : ∃ Y : Int → ByteArray, Y = oneY := ⟨_, rfl⟩
  rw [← hY] at CY CC
  clear hY
  have HC := hide hC
  clear hC
  go_enter Tryz.func76, Tryz.ntmps76
  go_wp2
  go_region_held3 (fun W => W.cell? ⟨g, 0, none⟩ = some (.int .i64 a) ∧ W.cell? ⟨g, 1, none⟩ = some (.int .i64 b) ∧ W.cell? ⟨g, 2, none⟩ = some (.int .i64 c)) (first | exact ⟨c0, c1, c2⟩ | exact (unhide KS) _ hB4 | exact (unhide KS) _ hB3 | exact (unhide KS) _ hB2 | exact (unhide KS) _ hB1 | exact (unhide KS) _ (hB3.alloc (by have := hB3.size; omega) _) | fail) (first
    | (go_at_call 39; have hB2' := hB2; refine ((unhide CY) _ _).mono ?_; rintro e w3 ⟨rfl, hb3⟩; have hB3 : Below w.heap.size w w3 := hB2.trans (hb3.mono hB2.size))
    | (go_at_call 39; have hB1' := hB1; refine ((unhide CY) _ _).mono ?_; rintro e w2 ⟨rfl, hb2⟩; have hB2 : Below w.heap.size w w2 := hB1.trans (hb2.mono hB1.size))
    | (go_at_call 39; refine ((unhide CY) _ _).mono ?_; rintro e w1 ⟨rfl, hb1⟩; have hB1 : Below w.heap.size w w1 := (Below.refl _ w).drew.trans hb1)
    | (go_at_call 62; refine ((unhide CC) _).mono ?_; rintro e w4 ⟨rfl, hb4⟩; have hB4 : Below w.heap.size w w4 := hB3.trans (hb4.mono hB3.size))
    | fail)
  all_goals
    obtain ⟨d0, d1, d2⟩ := (unhide KS) _ hB4
    have HC4 := (unhide HC).below hB4 hg
    have f2 := HC4.frozen 2
    have HC5 := hide (HC4.set 2 (.int .i64 c'))
    have G5 := hide (grownBy_trans (below_grown14 hB4 g) (tS0 w4 g 2 (.int .i64 c')))
    clear hb1 hb2 hb3 hb4 hB1 hB2 hB3 hB4 KS c0 c1 c2 HC HC4 CY CC
    go_wp2
    go_ret
    exact ⟨rfl, unhide HC5, unhide G5⟩
/-- Where a chain stands behind k steps. -/
def frK (c : Int) : Nat → Int
  | 0 => c
  | k + 1 => IntKind.i64.wrap (frK c k + 1)
theorem frK_mod (c : Int) (k : Nat) : (frK c k) % 256 = (c.tmod 256 + (k : Int)) % 256 := by
  induction k with
  | zero =>
    show c % 256 = _
    have e := @Int.tmod_eq_emod c 256
    split at e
    · rw [e]; omega
    · have e2 : c.tmod 256 = c % 256 - 256 := e
      rw [e2]; omega
  | succ k ih =>
    show (IntKind.i64.wrap (frK c k + 1)) % 256 = _
    rw [IntKind.wrap_i64]
    generalize c.tmod 256 = r at *
    generalize frK c k = f at *
    omega
theorem frK_one (c : Int) (k : Nat) : oneY (frK c k) = oneY (c.tmod 256 + (k : Int)) := by
  unfold oneY b256
  rw [frK_mod]
set_option maxRecDepth 20000 in
set_option maxHeartbeats 1000000 in
theorem repeated_any (g : Nat) (a b c d : Int) (x : ByteArray) (hx : x.size ≤ 1048576) (hd : d ≤ 15) (w : World) (hC : CB w g 96 (plC a b c)) :
    Calls Tryz.prog 75 #[.func (Fn.func 76) #[.pointer (some ⟨g, 0, none⟩)] #[], .string x, .int .i64 d] w fun e w' => e = .returned (.string (chnB x a b c d.toNat)) ∧ w.grownBy w' (some g) := by
  have HN := hide (show ∀ k, chopB (oneY a ++ oneY b ++ oneY (frK c k) ++ chnB x a b c k) = chnB x a b c (k + 1) from fun k => by rw [frK_one]; rfl)
  have HS := hide (fun k => chnB_size x a b c k hx)
  have H0 := hide (show chnB x a b c 0 = x from rfl)
  have HF0 := hide (show frK c 0 = c from rfl)
  have HFn := hide (show ∀ k, IntKind.i64.wrap (frK c k + 1) = frK c (k + 1) from fun k => rfl)
  have CSt := hide (fun (k : Nat) (W : World) (h : CB W g 96 (plC a b (frK c k))) => chainStep_any g a b (frK c k) (chnB x a b c k) (unhide HS k) W h)
  simp only [unhide HN, unhide HFn] at CSt
  have HC := hide hC
  clear hC HN HFn HS
  generalize chnB x a b c = F at *
  generalize frK c = R at *
  go_enter Tryz.func75, Tryz.ntmps75
  go_wp2
  go_loopw [1, 8] (fun tx ti wr => ∃ k : Nat, k ≤ d.toNat ∧ ti = .int .i64 (k : Int) ∧ tx = .string (F k) ∧ Hid (CB wr g 96 (plC a b (R k))) ∧ Hid (w.grownBy wr (some g))) (fun _ ti _ => 20 - (intOf ti).toNat)
  case atStart => exact ⟨0, Nat.zero_le _, rfl, by rw [unhide H0], by rw [unhide HF0]; exact HC, hide (World.grownBy.refl w _)⟩
  case round =>
    clear HC
    obtain ⟨k, hk, rfl, rfl, HM, HG⟩ := hrel
    by_cases hlt : (k : Int) < d
    · have C := hide (unhide CSt k wr (unhide HM))
      have hk15 : k < 15 := by omega
      obtain ⟨f2, hf2⟩ : ∃ f2, f2 = F (k + 1) := ⟨_, rfl⟩
      rw [← hf2] at C
      replace hf2 := hide hf2
      generalize F k = fk at *
      clear CSt
      go_wp2_with (go_at_call 76; refine (unhide C).mono ?_; rintro e w1 ⟨rfl, hA1, hg1⟩)
      go_roundw
      case rel => exact ⟨k + 1, by omega, by go_num, by rw [unhide hf2], hide hA1, hide (grownBy_trans (unhide HG) hg1)⟩
      case measure => simp [intOf]; omega
    · have hkk := hide (show d.toNat = k by omega)
      go_wp2
      go_ret
      rw [unhide hkk]
      exact ⟨rfl, unhide HG⟩
set_option maxRecDepth 20000 in
theorem stringsClone14_any (s : ByteArray) (w : World) (hs : s.size ≤ 4000000) :
    Calls Tryz.prog 57 #[.string s] w fun e w' => e = .returned (.string s) ∧ Below w.heap.size w w' := by
  have hlim : s.size ≤ 281474976710656 := by omega
  have C := hide (Tryz.stringslite_Clone s w hlim)
  go_enter Tryz.func57, Tryz.ntmps57
  go_wp2_with fail
  refine (unhide C).mono ?_
  rintro e w2 ⟨rfl, hb2⟩
  go_wp2
  go_ret
  exact ⟨rfl, hb2⟩
theorem grown_below14 {a b c : World} {g : Nat} (h : Below a.heap.size a b) (k : b.grownBy c (some g)) (hg : a.heap.size ≤ g) : Below a.heap.size a c :=
  ⟨k.os.trans h.os, k.tape.trans h.tape, k.output.trans h.output, Nat.le_trans h.size k.size, fun q hq => (k.block q (Nat.lt_of_lt_of_le hq h.size) (fun e => by have := Option.some.inj e; omega)).trans (h.block q hq)⟩
set_option maxRecDepth 20000 in
set_option maxHeartbeats 1000000 in
theorem implChain_any (x : ByteArray) (a b c d : Int) (hx : x.size ≤ 1048576) (w : World) :
    Calls Tryz.prog 63 #[.string x, .int .i64 a, .int .i64 b, .int .i64 c, .int .i64 d] w fun e w' => e = .returned (.string (chnB x a b c (stepsN d))) ∧ Below w.heap.size w w' := by
  have CCl := hide (fun W => stringsClone14_any x W (by omega))
  have hst : stepsN d = (if d ≤ 15 then d else 15).toNat := by unfold stepsN; split <;> rfl
  obtain ⟨m, hm⟩ : ∃ m : Int, m = if d ≤ 15 then d else 15 := ⟨_, rfl⟩
  have hm15 : m ≤ 15 := by rw [hm]; split <;> omega
  rw [← hm] at hst
  have hmin : min d 15 = m := by rw [hm]; split <;> omega
  have hmin2 : (if d ≤ 15 then d else 15) = m := hm.symm
  have CR := hide (fun (g : Nat) (W : World) (h : CB W g 96 (plC a b c)) => repeated_any g a b c m x hx hm15 W h)
  rw [hst]
  generalize chnB x a b c m.toNat = q at *
  obtain ⟨W, hW, hC, hb, hlt⟩ := one_cb w (plC a b c) 96
  replace hst := hide hst
  replace hm := hide hm
  go_enter Tryz.func63, Tryz.ntmps63
  go_wp2_with fail
  refine (unhide CCl W).mono ?_
  rintro e w1 ⟨rfl, hb1⟩
  have hC1 := hC.below hb1 hlt
  have hB1 := hb.trans (hb1.mono hb.size)
  clear hb hb1 hC hW
  go_wp2_with fail
  refine (unhide CR _ w1 hC1).mono ?_
  rintro e w2 ⟨rfl, hg2⟩
  have hB2 := grown_below14 hB1 hg2 (Nat.le_refl _)
  clear hg2 hB1 hC1
  go_wp2
  go_ret
  exact ⟨rfl, hB2⟩
end Go.Proofs.YtjgnjjphankhnabGreat

/- Chains by the given model: what is chopped, chains, over the loaded program. -/
namespace Go.Proofs.YtjgnjjphankhnabGreat
open Go.RowKit
theorem specChop_any (s : ByteArray) (hs : s.size ≤ 4000000) (w : World) :
    Calls Tryz.prog 38 #[.string s] w fun e w' => e = .returned (.string (chopB s)) ∧ Below w.heap.size w w' := by
  have C := hide (specDigest_any s hs w)
  have hz : (digB s).size = 32 := V8.text_size _
  have E := hide (show chopB s = (digB s).extract 0 4 from rfl)
  rw [unhide E]
  have hz' : (4 : Int) ≤ ((digB s).size : Int) := by omega
  generalize digB s = d at *
  replace hz := hide hz
  go_enter Tryz.func38, Tryz.ntmps38
  go_wp2_with fail
  refine (unhide C).mono ?_
  rintro e w1 ⟨rfl, hb1⟩
  go_wp2
  go_ret
  exact ⟨rfl, hb1⟩
theorem steps_facts (z : Int) (k : Nat) (h : k ≤ stepsN z) : (k < stepsN z ∧ (k : Int) < z ∧ (k : Int) < 15) ∨ (k = stepsN z ∧ (¬ (k : Int) < z ∨ ((k : Int) < z ∧ ¬ (k : Int) < 15))) := by
  unfold stepsN at *
  by_cases hz : z ≤ 15
  · rw [if_pos hz] at *; omega
  · rw [if_neg hz] at *; omega
set_option maxRecDepth 20000 in
set_option maxHeartbeats 800000 in
theorem specChain_any (x : ByteArray) (leaf chain frm steps : Int) (hx : x.size ≤ 1048576) (w : World) :
    Calls Tryz.prog 37 #[.string x, .int .i64 leaf, .int .i64 chain, .int .i64 frm, .int .i64 steps] w fun e w' => e = .returned (.string (chnB x leaf chain frm (stepsN steps))) ∧ Below w.heap.size w w' := by
  have CB := hide (fun z W => specByteY_any z W)
  have CC := hide (fun s hs W => specChop_any s hs W)
  have HS := hide (fun k => chnB_size x leaf chain frm k hx)
  have HN := hide (show ∀ k, chnB x leaf chain frm (k + 1) = chopB (oneY leaf ++ oneY chain ++ oneY (frm.tmod 256 + (k : Int)) ++ chnB x leaf chain frm k) from fun k => rfl)
  have H0 := hide (show chnB x leaf chain frm 0 = x from rfl)
  have hl15 := stepsN_le steps
  obtain ⟨r, hr⟩ : ∃ r, frm.tmod 256 = r := ⟨_, rfl⟩
  have hr1 : -255 ≤ r ∧ r ≤ 255 := by
    have h1 := Int.tmod_lt_of_pos frm (show (0 : Int) < 256 by decide)
    have h2 := Int.lt_tmod_of_pos frm (show (0 : Int) < 256 by decide)
    omega
  have er : IntKind.i64.wrap r = r := by rw [IntKind.wrap_i64]; omega
  rw [hr] at HN
  generalize chnB x leaf chain frm = F at *
  obtain ⟨N, hN⟩ : ∃ N, N = stepsN steps := ⟨_, rfl⟩
  rw [← hN] at hl15 ⊢
  have SF := hide (show ∀ k : Nat, k ≤ N → (k < N ∧ (k : Int) < steps ∧ (k : Int) < 15) ∨ (k = N ∧ (¬ (k : Int) < steps ∨ ((k : Int) < steps ∧ ¬ (k : Int) < 15))) from fun k h => by rw [hN] at h ⊢; exact steps_facts steps k h)
  replace hN := hide hN
  go_enter Tryz.func37, Tryz.ntmps37
  go_wp2
  go_loopw [0, 11] (fun tx ti wr => ∃ k : Nat, k ≤ N ∧ ti = .int .i64 (k : Int) ∧ tx = .string (F k) ∧ Below w.heap.size w wr) (fun _ ti _ => 20 - (intOf ti).toNat)
  case atStart => exact ⟨0, Nat.zero_le _, rfl, by rw [unhide H0], Below.refl _ _⟩
  case round =>
    obtain ⟨k, hk, rfl, rfl, hB⟩ := hrel
    rcases unhide SF k hk with ⟨h1, h2, h3⟩ | ⟨h1, h2⟩
    · obtain ⟨q, hq⟩ : ∃ q : Int, q = r + (k : Int) := ⟨_, rfl⟩
      have e1 : IntKind.i64.wrap (r + (k : Int)) = q := by rw [IntKind.wrap_i64]; omega
      have HF := unhide HN k
      rw [← hq] at HF
      have hs := unhide HS k
      have za := oneY_size leaf
      have zb := oneY_size chain
      have zc := oneY_size q
      have c1 := hide (unhide CB leaf)
      have c2 := hide (unhide CB chain)
      have c3 := hide (unhide CB q)
      generalize oneY leaf = ya at *
      generalize oneY chain = yb at *
      generalize oneY q = yc at *
      generalize F k = fk at *
      have za' : ya.size ≤ 1 := by omega
      have zb' : yb.size ≤ 1 := by omega
      have zc' : yc.size ≤ 1 := by omega
      have c4 := hide (unhide CC (ya ++ yb ++ yc ++ fk) (by rw [ByteArray.size_append, ByteArray.size_append, ByteArray.size_append]; omega))
      rw [← HF] at c4
      replace HF := hide HF; replace hq := hide hq; replace za := hide za; replace zb := hide zb; replace zc := hide zc
      have hF2 : ∃ G, G = F (k + 1) := ⟨_, rfl⟩
      obtain ⟨G, hG⟩ := hF2
      rw [← hG] at c4
      replace hG := hide hG
      clear CB CC
      go_wp2_with fail
      refine (unhide c1 wr).mono ?_
      rintro e w1 ⟨rfl, hb1⟩
      have hB1 := hB.trans (hb1.mono hB.size)
      clear hb1 hB c1
      go_wp2_with fail
      refine (unhide c2 w1).mono ?_
      rintro e w2 ⟨rfl, hb2⟩
      have hB2 := hB1.trans (hb2.mono hB1.size)
      clear hb2 hB1 c2
      go_wp2_with fail
      refine (unhide c3 w2).mono ?_
      rintro e w3 ⟨rfl, hb3⟩
      have hB3 := hB2.trans (hb3.mono hB2.size)
      clear hb3 hB2 c3
      go_wp2_with fail
      refine (unhide c4 w3).mono ?_
      rintro e w4 ⟨rfl, hb4⟩
      have hB4 := hB3.trans (hb4.mono hB3.size)
      clear hb4 hB3 c4
      go_wp2
      exact ⟨⟨k + 1, by omega, by go_num, by rw [unhide hG], hB4⟩, by simp [intOf]; omega⟩
    · rcases h2 with h2 | ⟨h2, h3⟩
      · have d1 : decide ((k : Int) < steps) = false := by rw [decide_eq_false_iff_not]; omega
        replace h1 := hide h1
        go_wp2
        go_ret
        exact ⟨by rw [← unhide h1]; rfl, hB⟩
      · have d1 : decide ((k : Int) < 15) = false := by rw [decide_eq_false_iff_not]; omega
        replace h1 := hide h1
        go_wp2
        go_ret
        exact ⟨by rw [← unhide h1]; rfl, hB⟩
end Go.Proofs.YtjgnjjphankhnabGreat

/- Laws of no program: two numbers appended in a region that draws its order. -/
namespace Go.Proofs.YtjgnjjphankhnabGreat
open Go.RowKit
theorem step_append_w9 {P : Program} {w W : World} {ops : Array Oper} {o : Oper} {a : Act} {K : Act → World → Prop} {Q : Exit → Act → World → Prop} {E : Prop} {e : TypeId} {x1 x2 : Int} (hW : W = w.alloc (.cells #[.int .i64 x1, .int .i64 x2] e)) (hg : o.guard = none) (s y : Operand) (t : TypeId)
    (ho : o.op = .call { callee := .builtin .append, args := #[s, y], argTypes := #[t, t] })
    (base B : Nat) (i : TypeInfo) (z : Value) (nb : Nat) (ht : P.underlying t = some (.slice e)) (hi : P.info? e = some i) (hz : i.zero = some z) (hsize : i.size = 1) (hby : i.bytes = nb) (hzs : z.cells.size = 1)
    (v : Value) (xs : List Value) (hs : a.eval s = v) (hown : OwnV w base e v xs)
    (hx : a.eval y = .slice (some ⟨w.heap.size, 0, none⟩) 2 2)
    (h63 : xs.length + 2 ≤ maxLen) (hbytes : (xs.length + 2) * nb ≤ 140737488355328) (hB : B ≤ base) (hbase : base ≤ w.heap.size) {w00 : World} (hbel : Below B w00 w)
    (h : ∀ v' w', OwnV w' base e v' (xs ++ [.int .i64 x1, .int .i64 x2]) → Below B w00 w' → K (a.put o.dst v') w') :
    if Region.wanted o (yielded ops a.tmps) = true then Oper.wp P o a W K Q else E := by
  subst hW
  have hw : Region.wanted o (yielded ops a.tmps) = true := by simp [Region.wanted, hg]
  rw [if_pos hw]
  exact wp_append_vals s y t ho base B e i z nb ht hi hz hsize hby hzs v xs hs (hown.alloc _) w.heap.size #[.int .i64 x1, .int .i64 x2] (heap_alloc_new w _) [.int .i64 x1, .int .i64 x2] rfl (by intro u hu; simp only [List.mem_cons, List.not_mem_nil, or_false] at hu; rcases hu with rfl | rfl <;> rfl) 2 2 rfl hx h63 hbytes hB (by simp; omega) (hbel.alloc (by omega) _) h
theorem pre_two (f : Nat → Int) (k : Nat) : preL f (2 * (k + 1)) = preL f (2 * k) ++ [f (2 * k), f (2 * k + 1)] := by
  rw [show 2 * (k + 1) = 2 * k + 1 + 1 by omega, preL_succ, preL_succ, List.append_assoc]
  rfl
end Go.Proofs.YtjgnjjphankhnabGreat

/- Chains by the given model: digits, over the loaded program. -/
namespace Go.Proofs.YtjgnjjphankhnabGreat
open Go.RowKit
theorem byA_at (s : ByteArray) (i : Nat) (h : i < s.size) : (s[i]'h).toNat = byA s i := by
  unfold byA
  have hd : i < s.data.size := h
  unfold Array.getD
  rw [dif_pos hd]
  rfl
theorem dgN_pair (s : ByteArray) (k : Nat) : dgN s (2 * k) = byA s k / 16 ∧ dgN s (2 * k + 1) = byA s k % 16 := by
  unfold dgN
  constructor
  · rw [if_pos (by omega), show 2 * k / 2 = k by omega]
  · rw [if_neg (by omega), show (2 * k + 1) / 2 = k by omega]
theorem wpList_append_two14 {P : Program} {w : World} {ops : Array Oper} {rest : List Oper} {o : Oper} {a : Act} {Q : Exit → Act → World → Prop} (hgd : o.guard = none) (s x : Operand) (t : TypeId)
    (ho : o.op = .call { callee := .builtin .append, args := #[s, x], argTypes := #[t, t] })
    (base : Nat) (e : TypeId) (i : TypeInfo) (z : Value) (nb : Nat) (ht : P.underlying t = some (.slice e)) (hi : P.info? e = some i) (hz : i.zero = some z) (hsize : i.size = 1) (hby : i.bytes = nb) (hzs : z.cells.size = 1)
    (v : Value) (xs : List Value) (hs : a.eval s = v) (hown : OwnV w base e v xs) (x1 x2 : Int) (hx : a.eval x = .slice (some ⟨w.heap.size, 0, none⟩) 2 2)
    (h63 : xs.length + 2 ≤ maxLen) (hbytes : (xs.length + 2) * nb ≤ 140737488355328) (hbase : base ≤ w.heap.size) {w0 : World} (hB : Below base w0 w)
    (h : ∀ v' w', OwnV w' base e v' (xs ++ [.int .i64 x1, .int .i64 x2]) → Below base w0 w' → wpList P ops Q rest (a.put o.dst v') w') :
    wpList P ops Q (o :: rest) a (w.alloc (.cells #[.int .i64 x1, .int .i64 x2] e)) :=
  wpList_plain hgd fun K hK =>
    wp_append_vals s x t ho base base e i z nb ht hi hz hsize hby hzs v xs hs (hown.alloc _) w.heap.size #[.int .i64 x1, .int .i64 x2] (heap_alloc_new w _) [.int .i64 x1, .int .i64 x2] rfl (by intro u hu; simp only [List.mem_cons, List.not_mem_nil, or_false] at hu; rcases hu with rfl | rfl <;> rfl) 2 2 rfl hx h63 hbytes (Nat.le_refl _) (by simp; omega) (hB.alloc hbase _) (fun v' w' h1 h2 => hK _ _ (h v' w' h1 h2))
set_option maxRecDepth 20000 in
set_option maxHeartbeats 1000000 in
theorem specDigits_any (m : ByteArray) (hm : m.size ≤ 4000000) (w : World) :
    Calls Tryz.prog 36 #[.string m] w fun e w' => (∃ v, e = .returned v ∧ OwnV w' w.heap.size 3 v ((digL m).map iv)) ∧ Below w.heap.size w w' := by
  obtain ⟨i0, hi, hz0, hz1, hz2⟩ := info_parts infoInt
  have C := hide (specChop_any m hm w)
  have hs4 := chopB_size m
  have ED := hide (show digL m = preL (fun i => (dgN (chopB m) i : Int)) 8 ++ [((lfN (chopB m) 4 / 16 : Nat) : Int), ((lfN (chopB m) 4 % 16 : Nat) : Int)] from rfl)
  generalize chopB m = s at *
  obtain ⟨f, hf⟩ : ∃ f : Nat → Int, f = fun i => (dgN s i : Int) := ⟨_, rfl⟩
  rw [← hf] at ED
  have hs4' : (s.size : Int) = 4 := by omega
  replace hf := hide hf
  go_enter Tryz.func36, Tryz.ntmps36
  go_wp2_with fail
  refine (unhide C).mono ?_
  rintro e w1 ⟨rfl, hb1⟩
  have hsz1 := hb1.size
  have hb2 := hb1.alloc hsz1 (.cells #[] 3)
  have ho0 : OwnV (w1.alloc (.cells #[] 3)) w.heap.size 3 (.slice (some ⟨w1.heap.size, 0, none⟩) 0 0) ((preL f (2 * 0)).map iv) := World.ownsRow_made w1 #[] 0 hsz1 (by decide) (by simp)
  replace ho0 := hide ho0
  clear C hb1
  go_wp2
  go_loopw [4, 5, 6] (fun tv ts ti wr => ∃ (k : Nat) (q : Nat), k ≤ 4 ∧ ti = .int .i64 (k : Int) ∧ ts = .int .i64 (q : Int) ∧ Hid (q = lfN s k) ∧ Hid (OwnV wr w.heap.size 3 tv ((preL f (2 * k)).map iv)) ∧ Below w.heap.size w wr) (fun _ _ ti _ => 4 - (intOf ti).toNat)
  case atStart => exact ⟨0, 0, by omega, rfl, rfl, hide rfl, ho0, hb2⟩
  case round =>
    clear ho0 hb2
    obtain ⟨k, q, hk, rfl, rfl, hq, HO, hB⟩ := hrel
    have hsz := hB.size
    by_cases hlt : k < 4
    · have hk' : (k : Int) < 4 := by omega
      have hk0 : (0 : Int) ≤ (k : Int) := by omega
      have hks : k < s.size := by omega
      have hby := byA_at s k hks
      have hbl := byA_lt s k
      have hdp := dgN_pair s k
      have HL := hide (show lfN s (k + 1) = lfN s k + 30 - byA s k / 16 - byA s k % 16 from rfl)
      have hql := lfN_le s k
      rw [← unhide hq] at HL hql
      have HP := hide (pre_two f k)
      have HF : f (2 * k) = ((byA s k / 16 : Nat) : Int) ∧ f (2 * k + 1) = ((byA s k % 16 : Nat) : Int) := by
        rw [unhide hf]
        exact ⟨congrArg (fun n : Nat => (n : Int)) hdp.1, congrArg (fun n : Nat => (n : Int)) hdp.2⟩
      rw [HF.1, HF.2] at HP
      obtain ⟨b, hb⟩ : ∃ b, b = byA s k := ⟨_, rfl⟩
      rw [← hb] at hby hbl HL HP
      obtain ⟨x1, hx1⟩ : ∃ x : Nat, x = b / 16 := ⟨_, rfl⟩
      obtain ⟨x2, hx2⟩ : ∃ x : Nat, x = b % 16 := ⟨_, rfl⟩
      rw [← hx1, ← hx2] at HL HP
      have q1 : (b : Int).tdiv 16 = (x1 : Int) := by rw [Int.tdiv_eq_ediv_of_nonneg (by omega)]; omega
      have q1' : (b : Int) / 16 = (x1 : Int) := by omega
      have q2 : (b : Int).tmod 16 = (x2 : Int) := by rw [Int.tmod_eq_emod_of_nonneg (by omega)]; omega
      have q2' : (b : Int) % 16 = (x2 : Int) := by omega
      have q3 : IntKind.i64.wrap (x1 : Int) = (x1 : Int) := by rw [IntKind.wrap_i64]; omega
      have q4 : IntKind.i64.wrap (x2 : Int) = (x2 : Int) := by rw [IntKind.wrap_i64]; omega
      have q5 : IntKind.i64.wrap (b : Int) = (b : Int) := by rw [IntKind.wrap_i64]; omega
      obtain ⟨y1, hy1⟩ : ∃ y : Nat, y = q + 30 := ⟨_, rfl⟩
      obtain ⟨y2, hy2⟩ : ∃ y : Nat, y + x1 = y1 := ⟨y1 - x1, by omega⟩
      obtain ⟨y3, hy3⟩ : ∃ y : Nat, y + x2 = y2 := ⟨y2 - x2, by omega⟩
      have q6 : IntKind.i64.wrap ((q : Int) + 30) = (y1 : Int) := by rw [IntKind.wrap_i64]; omega
      have q7 : IntKind.i64.wrap ((y1 : Int) - (x1 : Int)) = (y2 : Int) := by rw [IntKind.wrap_i64]; omega
      have q8 : IntKind.i64.wrap ((y2 : Int) - (x2 : Int)) = (y3 : Int) := by rw [IntKind.wrap_i64]; omega
      have HQ := hide (show y3 = lfN s (k + 1) by have := unhide HL; omega)
      have hl1 : ((preL f (2 * k)).map iv).length + 2 ≤ maxLen := by rw [List.length_map, preL_len]; unfold maxLen; omega
      have hl2 : (((preL f (2 * k)).map iv).length + 2) * 8 ≤ 140737488355328 := by rw [List.length_map, preL_len]; omega
      have hix : ∀ h : k < s.size, (s[k]'h).toNat = b := fun h => hby
      replace hl1 := hide hl1; replace hl2 := hide hl2; replace hb := hide hb; replace hx1 := hide hx1; replace hx2 := hide hx2; replace hy1 := hide hy1; replace hy2 := hide hy2; replace hy3 := hide hy3; replace HF := hide HF; replace hdp := hide hdp; replace hby := hide hby
      clear HL hql
      go_wp2
      go_region_held3 (fun _ => True) (trivial) (first
        | (refine step_append_w9 (w := wr.drew) (x1 := (x1 : Int)) (x2 := (x2 : Int)) (e := 3) rfl rfl (.tmp 14) (.tmp 25) 62 rfl w.heap.size w.heap.size i0 (.int .i64 0) 8 Tryz.underlying62 hi hz0 hz1 hz2 rfl _ _ rfl (by exact unhide HO) rfl (unhide hl1) (unhide hl2) (Nat.le_refl _) (by exact hsz) (by exact hB.drew) ?_; intro v' w2 hown2 hb2))
      all_goals
        have hown3 := hide (show OwnV w2 w.heap.size 3 v' ((preL f (2 * (k + 1))).map iv) by rw [unhide HP, List.map_append]; exact hown2)
        clear hown2 HP HO hB hsz
        go_wp2
        go_quiet (fail)
        go_wp2
        exact ⟨⟨k + 1, y3, by omega, by go_num, by first | rfl | trivial, HQ, hide (unhide hown3), bDN hb2 _⟩, by simp [intOf]; omega⟩
    · have hk' : ¬ (k : Int) < 4 := by omega
      obtain rfl : k = 4 := by omega
      have hql := lfN_le s 4
      rw [← unhide hq] at hql ED
      obtain ⟨x1, hx1⟩ : ∃ x : Nat, x = q / 16 := ⟨_, rfl⟩
      obtain ⟨x2, hx2⟩ : ∃ x : Nat, x = q % 16 := ⟨_, rfl⟩
      rw [← hx1, ← hx2] at ED
      have q1 : (q : Int).tdiv 16 = (x1 : Int) := by rw [Int.tdiv_eq_ediv_of_nonneg (by omega)]; omega
      have q1' : (q : Int) / 16 = (x1 : Int) := by omega
      have q2 : (q : Int).tmod 16 = (x2 : Int) := by rw [Int.tmod_eq_emod_of_nonneg (by omega)]; omega
      have q2' : (q : Int) % 16 = (x2 : Int) := by omega
      have q3 : IntKind.i64.wrap (x1 : Int) = (x1 : Int) := by rw [IntKind.wrap_i64]; omega
      have q4 : IntKind.i64.wrap (x2 : Int) = (x2 : Int) := by rw [IntKind.wrap_i64]; omega
      have hl1 : ((preL f (2 * 4)).map iv).length + 2 ≤ maxLen := by rw [List.length_map, preL_len]; unfold maxLen; omega
      have hl2 : (((preL f (2 * 4)).map iv).length + 2) * 8 ≤ 140737488355328 := by rw [List.length_map, preL_len]; omega
      replace hl1 := hide hl1; replace hl2 := hide hl2; replace hx1 := hide hx1; replace hx2 := hide hx2
      clear hql
      go_wp2_with (at_builtin; refine wpList_append_two14 (w := wr) rfl (.tmp 41) (.tmp 46) 62 rfl w.heap.size 3 i0 (.int .i64 0) 8 Tryz.underlying62 hi hz0 hz1 hz2 rfl u4 _ (by rfl) (unhide HO) (x1 : Int) (x2 : Int) rfl (unhide hl1) (unhide hl2) hsz hB ?_; intro v' w2 hown2 hb2)
      have hown3 := hide (show OwnV w2 w.heap.size 3 v' ((digL m).map iv) by rw [unhide ED, List.map_append]; exact hown2)
      clear hown2 HO
      go_ret
      exact ⟨⟨_, rfl, unhide hown3⟩, hb2⟩
end Go.Proofs.YtjgnjjphankhnabGreat

/- Laws of no program: an append of one value to a row of the call's own, and which blocks stay; rows of unlike kinds lie in unlike blocks. -/
namespace Go.Proofs.YtjgnjjphankhnabGreat
open Go.RowKit
theorem wpList_append_grow {P : Program} {w : World} {ops : Array Oper} {rest : List Oper} {o : Oper} {a : Act} {Q : Exit → Act → World → Prop} (hgd : o.guard = none) (s x : Operand) (t : TypeId)
    (ho : o.op = .call { callee := .builtin .append, args := #[s, x], argTypes := #[t, t] })
    (base : Nat) (e : TypeId) (i : TypeInfo) (z : Value) (nb : Nat) (ht : P.underlying t = some (.slice e)) (hi : P.info? e = some i) (hz : i.zero = some z) (hsize : i.size = 1) (hby : i.bytes = nb) (hzs : z.cells.size = 1)
    (v : Value) (xs : List Value) (hs : a.eval s = v) (hown : OwnV w base e v xs) (u : Value) (h1 : u.oneCell' = true) (hx : a.eval x = .slice (some ⟨w.heap.size, 0, none⟩) 1 1)
    (h63 : xs.length + 1 ≤ maxLen) (hbytes : (xs.length + 1) * nb ≤ 140737488355328) (hbase : base ≤ w.heap.size)
    (h : ∀ v' w', OwnV w' base e v' (xs ++ [u]) → (w.alloc (.cells #[u] e)).grownBy w' v.ownBlock → wpList P ops Q rest (a.put o.dst v') w') :
    wpList P ops Q (o :: rest) a (w.alloc (.cells #[u] e)) :=
  wpList_plain hgd fun _ hK => by
    refine wp_append_own (w.alloc (.cells #[u] e)) s x t ho base e i z 1 nb ht hi hz hsize hby hzs (by decide) v xs.length xs hs (hown.alloc _) ⟨w.heap.size, 0, none⟩ 1 1 [u] hx rfl (fun j y hy => ?_) (by intro y hy; simp only [List.mem_singleton] at hy; subst hy; exact h1) h63 hbytes (by simp; omega) ?_
    · have hadd : (⟨w.heap.size, 0, none⟩ : Addr).add j = ⟨w.heap.size, j, none⟩ := by unfold Addr.add; split <;> simp_all
      rw [hadd, cell_of_row _ w.heap.size j _ e (0, 0) (heap_alloc_new w _)]
      simpa using hy
    · intro v' w' h2 h3 _
      exact hK _ _ (h v' w' (by unfold OwnV; simpa using h2) h3)
theorem OwnV.apart {w : World} {b1 b2 : Nat} {e1 e2 : TypeId} {v1 v2 : Value} {x1 x2 : List Value} (h1 : OwnV w b1 e1 v1 x1) (h2 : OwnV w b2 e2 v2 x2) (he : e1 ≠ e2) (k : Nat) (hk : v1.ownBlock = some k) : v2.ownBlock ≠ some k := by
  intro hv
  rcases h1.2 with ⟨a1, _⟩ | ⟨g, cap, cur, a1, _, a3, _⟩
  · rw [a1] at hk; cases hk
  · rcases h2.2 with ⟨c1, _⟩ | ⟨g', cap', cur', c1, _, c3, _⟩
    · rw [c1] at hv; cases hv
    · rw [a1] at hk
      rw [c1] at hv
      have hk' : (some g : Option Nat) = some k := hk
      have hv' : (some g' : Option Nat) = some k := hv
      have e1' := Option.some.inj hk'
      have e2' := Option.some.inj hv'
      subst e1' e2'
      rw [a3] at c3
      have h4 := Option.some.inj c3
      injection h4 with h5 h6
      exact he h6
end Go.Proofs.YtjgnjjphankhnabGreat

