/- Keys of a tree, reckoned: leaves, signatures, whether they are right, their texts. -/
import Derived.Test.YtecononlghjepawTre0
namespace Go.Proofs.Ytecononlghjepaw
open Go.RowKit
structure Sg where
  leaf : Int
  once : List ByteArray
  path : List ByteArray
def lefO (seed : ByteArray) (i : Nat) : ByteArray := onceP (keysO seed (i : Int)) (i : Int)
def lvsO (seed : ByteArray) : List ByteArray := (List.range 4).map (lefO seed)
theorem lvsO_len (seed : ByteArray) : (lvsO seed).length = 4 := by unfold lvsO; rw [List.length_map, List.length_range]
theorem keysO_len (seed : ByteArray) (leaf : Int) : (keysO seed leaf).length = 10 := by unfold keysO; rw [List.length_map, List.length_range]
theorem keysO_size (seed : ByteArray) (leaf : Int) : ∀ x ∈ keysO seed leaf, x.size = 4 := by
  intro x hx
  unfold keysO at hx
  obtain ⟨i, _, rfl⟩ := List.mem_map.1 hx
  exact chopB_size _
theorem onceP_size (l : List ByteArray) (leaf : Int) (h : l.length = 10) : (onceP l leaf).size = 4 := by unfold onceP; rw [if_pos h]; exact chopB_size _
theorem lefO_size (seed : ByteArray) (i : Nat) : (lefO seed i).size = 4 := onceP_size _ _ (keysO_len _ _)
theorem lvsO_size (seed : ByteArray) : ∀ x ∈ lvsO seed, x.size = 4 := by
  intro x hx
  unfold lvsO at hx
  obtain ⟨i, _, rfl⟩ := List.mem_map.1 hx
  exact lefO_size _ _
theorem bAt_map (f : Nat → ByteArray) (n i : Nat) (h : i < n) : bAt ((List.range n).map f) i = f i := by
  unfold bAt
  rw [List.getD_eq_getElem?_getD, List.getElem?_map, List.getElem?_range h]
  rfl
def pubO (seed : ByteArray) : ByteArray := rootB (lvsO seed)
def sgnS (seed : ByteArray) (leaf : Int) (m : ByteArray) : Sg := if 0 ≤ leaf ∧ leaf ≤ 3 then ⟨leaf, onceS (keysO seed leaf) leaf m, pathL (lvsO seed) leaf⟩ else ⟨0, [], []⟩
def four (l : List ByteArray) : Bool := l.all fun x => decide (x.size = 4)
theorem four_yes {l : List ByteArray} (h : four l = true) : ∀ x ∈ l, x.size = 4 := fun x hx => by
  have := List.all_eq_true.1 h x hx
  simpa using this
theorem four_of {l : List ByteArray} (h : ∀ x ∈ l, x.size = 4) : four l = true := List.all_eq_true.2 fun x hx => by simpa using h x hx
theorem four_no {l : List ByteArray} (k : Nat) (hk : k < l.length) (h : ¬ (bAt l k).size = 4) : four l = false := by
  cases e : four l with
  | false => rfl
  | true =>
    refine absurd (four_yes e (bAt l k) ?_) h
    unfold bAt
    rw [List.getD_eq_getElem?_getD, List.getElem?_eq_getElem hk]
    exact List.getElem_mem hk
theorem four_bAt {l : List ByteArray} (h : ∀ k, k < l.length → (bAt l k).size = 4) : four l = true := four_of fun x hx => by
  obtain ⟨k, hk, rfl⟩ := List.mem_iff_getElem.1 hx
  have := h k hk
  unfold bAt at this
  rw [List.getD_eq_getElem?_getD, List.getElem?_eq_getElem hk] at this
  exact this
theorem bAt_four {l : List ByteArray} (h : four l = true) (k : Nat) (hk : k < l.length) : (bAt l k).size = 4 := by
  refine four_yes h _ ?_
  unfold bAt
  rw [List.getD_eq_getElem?_getD, List.getElem?_eq_getElem hk]
  exact List.getElem_mem hk
def sgShape (s : Sg) : Prop := (0 ≤ s.leaf ∧ s.leaf ≤ 3) ∧ s.once.length = 10 ∧ s.path.length = 2
def sgSh (s : Sg) : Bool := decide ((0 ≤ s.leaf ∧ s.leaf ≤ 3) ∧ s.once.length = 10 ∧ s.path.length = 2)
def sgOk (s : Sg) : Bool := sgSh s && (four s.once && four s.path)
theorem sgOk_shape {s : Sg} (h : sgOk s = true) : sgShape s := by unfold sgOk at h; rw [Bool.and_eq_true] at h; have h1 := h.1; unfold sgSh at h1; have h2 := of_decide_eq_true h1; exact h2
theorem sgOk_once {s : Sg} (h : sgOk s = true) : four s.once = true := by unfold sgOk at h; rw [Bool.and_eq_true, Bool.and_eq_true] at h; exact h.2.1
theorem sgOk_path {s : Sg} (h : sgOk s = true) : four s.path = true := by unfold sgOk at h; rw [Bool.and_eq_true, Bool.and_eq_true] at h; exact h.2.2
theorem sgSh_of {s : Sg} (h : sgShape s) : sgSh s = true := by unfold sgSh; exact decide_eq_true h
theorem sgSh_no {s : Sg} (h : ¬ sgShape s) : sgSh s = false := by unfold sgSh; exact decide_eq_false h
theorem sgOk_of {s : Sg} (h1 : sgShape s) (h2 : four s.once = true) (h3 : four s.path = true) : sgOk s = true := by unfold sgOk; rw [sgSh_of h1, h2, h3]; rfl
theorem sgOk_no1 {s : Sg} (h : ¬ sgShape s) : sgOk s = false := by unfold sgOk; rw [sgSh_no h]; rfl
theorem sgOk_no2 {s : Sg} (h : four s.once = false) : sgOk s = false := by unfold sgOk; rw [h]; cases sgSh s <;> rfl
theorem sgOk_no3 {s : Sg} (h : four s.path = false) : sgOk s = false := by unfold sgOk; rw [h]; cases sgSh s <;> cases four s.once <;> rfl
def fndB (m : ByteArray) (s : Sg) : ByteArray := rootBy (onceF s.once s.leaf m) s.leaf s.path
def chkB (p m : ByteArray) (s : Sg) : Bool := sgOk s && decide (fndB m s = p)
/-- The texts f 0 .. f (k - 1), one behind the other, behind t. -/
def catT (t : ByteArray) (f : Nat → ByteArray) : Nat → ByteArray
  | 0 => t
  | k + 1 => catT t f k ++ f k
theorem catT_size (t : ByteArray) (f : Nat → ByteArray) (n : Nat) (h : ∀ i, i < n → (f i).size = 4) (k : Nat) (hk : k ≤ n) : (catT t f k).size = t.size + 4 * k := by
  induction k with
  | zero => rfl
  | succ k ih =>
    show (catT t f k ++ f k).size = _
    rw [ByteArray.size_append, ih (by omega), h k (by omega)]
    omega
theorem catT_part (t : ByteArray) (f : Nat → ByteArray) (n : Nat) (h : ∀ i, i < n → (f i).size = 4) (k : Nat) (hk : k ≤ n) (i : Nat) (hi : i < k) : (catT t f k).extract (t.size + 4 * i) (t.size + 4 * (i + 1)) = f i := by
  induction k with
  | zero => omega
  | succ k ih =>
    show (catT t f k ++ f k).extract _ _ = _
    have hs := catT_size t f n h k (by omega)
    rw [ByteArray.extract_append, hs]
    by_cases e : i = k
    · subst e
      have h1 : (catT t f i).extract (t.size + 4 * i) (t.size + 4 * (i + 1)) = ByteArray.empty := ByteArray.extract_eq_empty_iff.2 (by rw [hs]; omega)
      have h2 : (f i).extract (t.size + 4 * i - (t.size + 4 * i)) (t.size + 4 * (i + 1) - (t.size + 4 * i)) = f i := by
        rw [Nat.sub_self, show t.size + 4 * (i + 1) - (t.size + 4 * i) = (f i).size by rw [h i (by omega)]; omega]
        exact ByteArray.extract_zero_size
      rw [h1, h2, ByteArray.empty_append]
    · have h2 : (f k).extract (t.size + 4 * i - (t.size + 4 * k)) (t.size + 4 * (i + 1) - (t.size + 4 * k)) = ByteArray.empty := ByteArray.extract_eq_empty_iff.2 (by omega)
      rw [h2, ByteArray.append_empty, ih (by omega) (by omega)]
theorem catT_head (t : ByteArray) (f : Nat → ByteArray) (k : Nat) (a b : Nat) (hb : b ≤ t.size) : (catT t f k).extract a b = t.extract a b := by
  induction k with
  | zero => rfl
  | succ k ih =>
    show (catT t f k ++ f k).extract _ _ = _
    have hs : t.size ≤ (catT t f k).size := by
      clear ih
      induction k with
      | zero => exact Nat.le_refl _
      | succ k ih => show _ ≤ (catT t f k ++ f k).size; rw [ByteArray.size_append]; omega
    have h2 : (f k).extract (a - (catT t f k).size) (b - (catT t f k).size) = ByteArray.empty := ByteArray.extract_eq_empty_iff.2 (by omega)
    rw [ByteArray.extract_append, h2, ByteArray.append_empty, ih]
def sgT (s : Sg) : ByteArray := if sgOk s = true then catT (catT (oneY s.leaf) (bAt s.once) 10) (bAt s.path) 2 else ⟨#[]⟩
/-- The part i of a text. -/
def prtB (t : ByteArray) (i : Nat) : ByteArray := t.extract (1 + i * 4) (1 + (i + 1) * 4)
def rdIn (t : ByteArray) : Prop := t.size = 49 ∧ byA t 0 < 4
def rdOk (t : ByteArray) : Bool := decide (t.size = 49 ∧ byA t 0 < 4)
theorem rdOk_of {t : ByteArray} (h : rdIn t) : rdOk t = true := by unfold rdOk; exact decide_eq_true h
theorem rdOk_in {t : ByteArray} (h : rdOk t = true) : rdIn t := by unfold rdOk at h; have h2 := of_decide_eq_true h; exact h2
def rdS (t : ByteArray) : Sg := if rdOk t = true then ⟨(byA t 0 : Int), (List.range 10).map (prtB t), (List.range 2).map fun i => prtB t (10 + i)⟩ else ⟨0, [], []⟩
theorem prtB_size (t : ByteArray) (h : t.size = 49) (i : Nat) (hi : i < 12) : (prtB t i).size = 4 := by unfold prtB; rw [ByteArray.size_extract, h]; omega
theorem rdS_ok {t : ByteArray} (h : rdIn t) : sgOk (rdS t) = true := by
  unfold rdS
  rw [if_pos (rdOk_of h)]
  refine sgOk_of ⟨⟨Int.natCast_nonneg _, ?_⟩, ?_, ?_⟩ ?_ ?_
  · have := h.2; show ((byA t 0 : Nat) : Int) ≤ 3; omega
  · show ((List.range 10).map _).length = 10; rw [List.length_map, List.length_range]
  · show ((List.range 2).map _).length = 2; rw [List.length_map, List.length_range]
  · refine four_of fun x hx => ?_
    obtain ⟨i, hi, rfl⟩ := List.mem_map.1 hx
    exact prtB_size t h.1 i (by have := List.mem_range.1 hi; omega)
  · refine four_of fun x hx => ?_
    obtain ⟨i, hi, rfl⟩ := List.mem_map.1 hx
    exact prtB_size t h.1 _ (by have := List.mem_range.1 hi; omega)
theorem ext_bAt {a b : List ByteArray} (n : Nat) (ha : a.length = n) (hb : b.length = n) (h : ∀ i, i < n → bAt a i = bAt b i) : a = b := by
  apply List.ext_getElem (by omega)
  intro i h1 h2
  have := h i (by omega)
  unfold bAt at this
  rw [List.getD_eq_getElem?_getD, List.getD_eq_getElem?_getD, List.getElem?_eq_getElem h1, List.getElem?_eq_getElem h2] at this
  exact this
theorem sgT_is {s : Sg} (h : sgOk s = true) : sgT s = catT (catT (oneY s.leaf) (bAt s.once) 10) (bAt s.path) 2 := by unfold sgT; rw [if_pos h]
theorem sgT_size {s : Sg} (h : sgOk s = true) : (sgT s).size = 49 := by
  obtain ⟨_, h1, h2⟩ := sgOk_shape h
  rw [sgT_is h, catT_size _ _ 2 (fun i hi => bAt_four (sgOk_path h) i (by omega)) 2 (Nat.le_refl _), catT_size _ _ 10 (fun i hi => bAt_four (sgOk_once h) i (by omega)) 10 (Nat.le_refl _), oneY_size]
theorem prt_sgT1 {s : Sg} (h : sgOk s = true) (i : Nat) (hi : i < 10) : prtB (sgT s) i = bAt s.once i := by
  obtain ⟨_, h1, h2⟩ := sgOk_shape h
  have hs := catT_size (oneY s.leaf) (bAt s.once) 10 (fun i hi => bAt_four (sgOk_once h) i (by omega)) 10 (Nat.le_refl _)
  rw [oneY_size] at hs
  unfold prtB
  rw [sgT_is h, catT_head _ _ _ _ _ (by rw [hs]; omega)]
  have := catT_part (oneY s.leaf) (bAt s.once) 10 (fun i hi => bAt_four (sgOk_once h) i (by omega)) 10 (Nat.le_refl _) i hi
  rw [oneY_size] at this
  rw [Nat.mul_comm i 4, Nat.mul_comm (i + 1) 4]
  exact this
theorem prt_sgT2 {s : Sg} (h : sgOk s = true) (i : Nat) (hi : i < 2) : prtB (sgT s) (10 + i) = bAt s.path i := by
  obtain ⟨_, h1, h2⟩ := sgOk_shape h
  have hs := catT_size (oneY s.leaf) (bAt s.once) 10 (fun i hi => bAt_four (sgOk_once h) i (by omega)) 10 (Nat.le_refl _)
  rw [oneY_size] at hs
  unfold prtB
  rw [sgT_is h]
  have := catT_part (catT (oneY s.leaf) (bAt s.once) 10) (bAt s.path) 2 (fun i hi => bAt_four (sgOk_path h) i (by omega)) 2 (Nat.le_refl _) i hi
  rw [hs] at this
  rw [show 1 + (10 + i) * 4 = 1 + 4 * 10 + 4 * i by omega, show 1 + (10 + i + 1) * 4 = 1 + 4 * 10 + 4 * (i + 1) by omega]
  exact this
theorem ext_one (t : ByteArray) (h : 0 < t.size) (b : ByteArray) : t.extract 0 1 = b → byA t 0 = byA b 0 := by
  intro e
  rw [← e]
  unfold byA
  rw [ByteArray.data_extract, Array.getD_eq_getD_getElem?, Array.getD_eq_getD_getElem?, Array.getElem?_extract]
  have hd : 0 < min 1 t.data.size := by have : 0 < t.data.size := h; omega
  rw [if_pos (by simpa using hd)]
theorem byA_oneY (z : Int) (h : 0 ≤ z ∧ z ≤ 255) : (byA (oneY z) 0 : Int) = z := by
  unfold byA oneY b256
  obtain ⟨n, rfl⟩ : ∃ n : Nat, z = n := ⟨z.toNat, by omega⟩
  simp
  omega
theorem byA_sgT {s : Sg} (h : sgOk s = true) : (byA (sgT s) 0 : Int) = s.leaf := by
  obtain ⟨⟨h0, h3⟩, _, _⟩ := sgOk_shape h
  have hz := sgT_size h
  have e : (sgT s).extract 0 1 = oneY s.leaf := by
    rw [sgT_is h]
    have hs := catT_size (oneY s.leaf) (bAt s.once) 10 (fun i hi => bAt_four (sgOk_once h) i (by have := (sgOk_shape h).2.1; omega)) 10 (Nat.le_refl _)
    rw [oneY_size] at hs
    rw [catT_head _ _ _ _ _ (by rw [hs]; omega), catT_head _ _ _ _ _ (by rw [oneY_size]; omega)]
    exact ByteArray.extract_zero_size
  rw [ext_one _ (by omega) _ e]
  exact byA_oneY _ (by omega)
theorem rdIn_sgT {s : Sg} (h : sgOk s = true) : rdIn (sgT s) := ⟨sgT_size h, by have := byA_sgT h; obtain ⟨⟨h0, h3⟩, _, _⟩ := sgOk_shape h; omega⟩
/-- What is written is read. -/
theorem rd_sgT {s : Sg} (h : sgOk s = true) : rdS (sgT s) = s := by
  obtain ⟨_, h1, h2⟩ := sgOk_shape h
  unfold rdS
  rw [if_pos (rdOk_of (rdIn_sgT h)), byA_sgT h]
  obtain ⟨lf, on, pt⟩ := s
  rw [Sg.mk.injEq]
  refine ⟨rfl, ext_bAt 10 (by rw [List.length_map, List.length_range]) h1 fun i hi => ?_, ext_bAt 2 (by rw [List.length_map, List.length_range]) h2 fun i hi => ?_⟩
  · rw [bAt_map _ _ _ hi]; exact prt_sgT1 h i hi
  · rw [bAt_map _ _ _ hi]; exact prt_sgT2 h i hi
theorem catT_prt (t : ByteArray) (k : Nat) (x : ByteArray) (hx : x = t.extract 0 1) : catT x (prtB t) k = t.extract 0 (1 + k * 4) := by
  induction k with
  | zero => rw [hx]; rfl
  | succ k ih =>
    show catT x (prtB t) k ++ prtB t k = _
    rw [ih]
    unfold prtB
    rw [ByteArray.extract_append_extract]
    congr 1 <;> omega
theorem catT_two (x : ByteArray) (f : Nat → ByteArray) (a b : Nat) : catT (catT x f a) (fun i => f (a + i)) b = catT x f (a + b) := by
  induction b with
  | zero => rfl
  | succ b ih => show catT (catT x f a) _ b ++ f (a + b) = catT x f (a + b) ++ f (a + b); rw [ih]
theorem catT_congr {f g : Nat → ByteArray} (x : ByteArray) (k : Nat) (h : ∀ i, i < k → f i = g i) : catT x f k = catT x g k := by
  induction k with
  | zero => rfl
  | succ k ih => show catT x f k ++ f k = catT x g k ++ g k; rw [ih fun i hi => h i (by omega), h k (by omega)]
theorem head_oneY (t : ByteArray) (h : 0 < t.size) : t.extract 0 1 = oneY (byA t 0 : Int) := by
  have hd : 0 < t.data.size := h
  apply ByteArray.ext
  rw [ByteArray.data_extract]
  unfold oneY byA b256
  apply Array.ext
  · simp; omega
  · intro i h1 h2
    have hi : i = 0 := by simp at h1; omega
    subst hi
    apply UInt8.toNat_inj.1
    have e : t.data[0]? = some t.data[0] := Array.getElem?_eq_getElem hd
    have hl : t.data[0].toNat < 256 := UInt8.toNat_lt _
    simp [e]
    omega
/-- What is read is written so. -/
theorem sgT_rd {t : ByteArray} (h : rdIn t) : sgT (rdS t) = t := by
  have ho := rdS_ok h
  rw [sgT_is ho]
  unfold rdS
  rw [if_pos (rdOk_of h)]
  show catT (catT (oneY (byA t 0 : Int)) (bAt ((List.range 10).map (prtB t))) 10) (bAt ((List.range 2).map fun i => prtB t (10 + i))) 2 = t
  rw [catT_congr _ 10 (fun i hi => bAt_map (prtB t) 10 i hi), catT_congr _ 2 (fun i hi => bAt_map (fun i => prtB t (10 + i)) 2 i hi), catT_two, catT_prt t 12 _ (head_oneY t (by have := h.1; omega)).symm, show 1 + 12 * 4 = t.size by rw [h.1]]
  exact ByteArray.extract_zero_size
theorem onceS_len (l : List ByteArray) (leaf : Int) (m : ByteArray) (h : l.length = 10) : (onceS l leaf m).length = 10 := by unfold onceS; rw [if_pos h, List.length_map, List.length_range]
theorem chnB_four (x : ByteArray) (leaf chain frm : Int) (k : Nat) (h : x.size = 4) : (chnB x leaf chain frm k).size = 4 := by
  cases k with
  | zero => exact h
  | succ k => exact chopB_size _
theorem lvs_four (l : List ByteArray) (h : ∀ x ∈ l, x.size = 4) (k : Nat) : four (lvs l k) = true := four_of (by
  cases k with
  | zero => exact h
  | succ k => exact fun x hx => lvL_size _ _ x hx)
theorem sibS_lt (n k : Nat) (hn : n < 4) (hk : k < 2) : sibN (n / 2 ^ k) < 4 / 2 ^ k := by
  rcases show k = 0 ∨ k = 1 by omega with rfl | rfl
  · rw [Nat.pow_zero, Nat.div_one, Nat.div_one]; unfold sibN; split <;> omega
  · rw [Nat.pow_one]; unfold sibN; split <;> omega
theorem sibS_size (seed : ByteArray) (leaf : Int) (h : 0 ≤ leaf ∧ leaf ≤ 3) (k : Nat) (hk : k < 2) : (pthN (lvsO seed) leaf.toNat k).size = 4 := by
  unfold pthN
  refine bAt_four (lvs_four _ (lvsO_size seed) k) _ ?_
  rw [lvs_len _ (lvsO_len seed) k]
  exact sibS_lt _ _ (by have := h.1; have := h.2; omega) hk
theorem sgnS_ok (seed : ByteArray) (leaf : Int) (m : ByteArray) (h : 0 ≤ leaf ∧ leaf ≤ 3) : sgOk (sgnS seed leaf m) = true := by
  unfold sgnS
  rw [if_pos h]
  refine sgOk_of ⟨h, onceS_len _ _ _ (keysO_len _ _), pathL_len _ _ (lvsO_len _) h⟩ ?_ ?_
  · refine four_of fun x hx => ?_
    have hx' : x ∈ onceS (keysO seed leaf) leaf m := hx
    unfold onceS at hx'
    rw [if_pos (keysO_len _ _)] at hx'
    obtain ⟨i, hi, rfl⟩ := List.mem_map.1 hx'
    refine chnB_four _ _ _ _ _ (bAt_four (four_of (keysO_size seed leaf)) i ?_)
    rw [keysO_len]
    exact List.mem_range.1 hi
  · refine four_of fun x hx => ?_
    have hx' : x ∈ pathL (lvsO seed) leaf := hx
    unfold pathL at hx'
    rw [if_pos ⟨lvsO_len _, h⟩] at hx'
    obtain ⟨i, hi, rfl⟩ := List.mem_map.1 hx'
    have hi2 := List.mem_range.1 hi
    exact sibS_size seed leaf h i hi2
theorem sgn_chk (seed : ByteArray) (leaf : Int) (m : ByteArray) (h : 0 ≤ leaf ∧ leaf ≤ 3) : chkB (pubO seed) m (sgnS seed leaf m) = true := by
  unfold chkB
  rw [sgnS_ok seed leaf m h, Bool.true_and]
  apply decide_eq_true
  unfold fndB sgnS pubO
  rw [if_pos h]
  show rootBy (onceF (onceS (keysO seed leaf) leaf m) leaf m) leaf (pathL (lvsO seed) leaf) = _
  obtain ⟨n, rfl⟩ : ∃ n : Nat, leaf = n := ⟨leaf.toNat, by have := h.1; omega⟩
  have hn : n < 4 := by have := h.2; omega
  rw [once_found _ _ _ (keysO_len _ _), show onceP (keysO seed (n : Int)) (n : Int) = bAt (lvsO seed) n from (bAt_map (lefO seed) 4 n hn).symm]
  exact root_by _ (lvsO_len _) n hn
end Go.Proofs.Ytecononlghjepaw
