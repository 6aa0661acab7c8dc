/- Merged: Chn0, Tre0, Sig0, SgH, Dpt. -/
import Derived.Test.YtjgnjjphankhnabMga1
import Derived.Test.YtjgnjjphankhnabMga2
import Derived.Test.YtjgnjjphankhnabMga3
import Derived.Test.YtjgnjjphankhnabMga4
import Derived.Test.YtjgnjjphankhnabMga5
/- Chains, reckoned: what is chopped, chains, digits, keys for once. -/
namespace Go.Proofs.Ytjgnjjphankhnab
open Go.RowKit
theorem digB_size0 (s : ByteArray) : (digB s).size = 32 := V8.text_size _
def chopB (s : ByteArray) : ByteArray := (digB s).extract 0 4
theorem chopB_size (s : ByteArray) : (chopB s).size = 4 := by
  have h := digB_size0 s
  unfold chopB
  rw [ByteArray.size_extract, h]
  rfl
/-- The text x behind k steps of a chain. -/
def chnB (x : ByteArray) (leaf chain frm : Int) : Nat → ByteArray
  | 0 => x
  | k + 1 => chopB (oneY leaf ++ oneY chain ++ oneY (frm.tmod 256 + (k : Int)) ++ chnB x leaf chain frm k)
def stepsN (z : Int) : Nat := if z ≤ 15 then z.toNat else 15
theorem stepsN_le (z : Int) : stepsN z ≤ 15 := by unfold stepsN; split <;> omega
theorem oneY_size (z : Int) : (oneY z).size = 1 := rfl
theorem chnB_size (x : ByteArray) (leaf chain frm : Int) (k : Nat) (h : x.size ≤ 1048576) : (chnB x leaf chain frm k).size ≤ 1048576 := by
  cases k with
  | zero => exact h
  | succ k => show (chopB _).size ≤ _; rw [chopB_size]; omega
/-- The digit i of the digits of m. -/
def byA (s : ByteArray) (i : Nat) : Nat := (s.data.getD i 0).toNat
def dgN (s : ByteArray) (i : Nat) : Nat := if i % 2 = 0 then byA s (i / 2) / 16 else byA s (i / 2) % 16
/-- How much is left of the first k pairs of digits. -/
def lfN (s : ByteArray) : Nat → Nat
  | 0 => 0
  | k + 1 => lfN s k + 30 - byA s k / 16 - byA s k % 16
def digL (m : ByteArray) : List Int := preL (fun i => (dgN (chopB m) i : Int)) 8 ++ [((lfN (chopB m) 4 / 16 : Nat) : Int), ((lfN (chopB m) 4 % 16 : Nat) : Int)]
theorem byA_lt (s : ByteArray) (i : Nat) : byA s i < 256 := UInt8.toNat_lt _
theorem digL_len (m : ByteArray) : (digL m).length = 10 := by unfold digL; rw [List.length_append, preL_len]; rfl
theorem lfN_le (s : ByteArray) (k : Nat) : lfN s k ≤ 30 * k := by
  induction k with
  | zero => exact Nat.le_refl _
  | succ k ih => show lfN s k + 30 - byA s k / 16 - byA s k % 16 ≤ _; omega
/-- The digit i, as a number. -/
def dgAt (m : ByteArray) (i : Nat) : Nat := if i < 8 then dgN (chopB m) i else if i = 8 then lfN (chopB m) 4 / 16 else lfN (chopB m) 4 % 16
theorem digL_at (m : ByteArray) (i : Nat) (h : i < 10) : (digL m)[i]? = some (dgAt m i : Int) := by
  unfold digL dgAt
  by_cases h8 : i < 8
  · rw [List.getElem?_append_left (by rw [preL_len]; exact h8), if_pos h8]
    unfold preL
    rw [List.getElem?_map, List.getElem?_range h8]
    rfl
  · rw [List.getElem?_append_right (by rw [preL_len]; omega), preL_len, if_neg h8]
    have h9 : i = 8 ∨ i = 9 := by omega
    rcases h9 with rfl | rfl
    · rfl
    · rfl
theorem dgAt_le (m : ByteArray) (i : Nat) : dgAt m i ≤ 15 := by
  unfold dgAt dgN
  have h1 := byA_lt (chopB m) (i / 2)
  have h2 := lfN_le (chopB m) 4
  split
  · split <;> omega
  · split <;> omega
def keyO (seed : ByteArray) (leaf : Int) (i : Nat) : ByteArray := chopB (seed ++ oneY leaf ++ oneY (i : Int) ++ ⟨#[111]⟩)
def keysO (seed : ByteArray) (leaf : Int) : List ByteArray := (List.range 10).map (keyO seed leaf)
def bAt (l : List ByteArray) (i : Nat) : ByteArray := l.getD i ⟨#[]⟩
/-- The texts f 0 .. f (k - 1), one behind the other. -/
def catC (f : Nat → ByteArray) : Nat → ByteArray
  | 0 => ⟨#[]⟩
  | k + 1 => catC f k ++ f k
def onceP (l : List ByteArray) (leaf : Int) : ByteArray := if l.length = 10 then chopB (catC (fun i => chnB (bAt l i) leaf (i : Int) 0 15) 10) else ⟨#[]⟩
def onceS (l : List ByteArray) (leaf : Int) (m : ByteArray) : List ByteArray := if l.length = 10 then (List.range 10).map (fun i => chnB (bAt l i) leaf (i : Int) 0 (dgAt m i)) else []
def onceF (l : List ByteArray) (leaf : Int) (m : ByteArray) : ByteArray := if l.length = 10 then chopB (catC (fun i => chnB (bAt l i) leaf (i : Int) (dgAt m i : Int) (15 - dgAt m i)) 10) else ⟨#[]⟩
/-- A chain goes on where it stopped. -/
theorem chn_on (x : ByteArray) (leaf chain : Int) (a b : Nat) (ha : a < 256) : chnB (chnB x leaf chain 0 a) leaf chain (a : Int) b = chnB x leaf chain 0 (a + b) := by
  induction b with
  | zero => rfl
  | succ b ih =>
    show chopB (oneY leaf ++ oneY chain ++ oneY ((a : Int).tmod 256 + (b : Int)) ++ chnB (chnB x leaf chain 0 a) leaf chain (a : Int) b) = chopB (oneY leaf ++ oneY chain ++ oneY ((0 : Int).tmod 256 + ((a + b : Nat) : Int)) ++ chnB x leaf chain 0 (a + b))
    rw [ih, Int.tmod_eq_emod_of_nonneg (by omega), show (0 : Int).tmod 256 = 0 from rfl, show (a : Int) % 256 + (b : Int) = 0 + ((a + b : Nat) : Int) by omega]
theorem catC_congr {f g : Nat → ByteArray} (k : Nat) (h : ∀ i, i < k → f i = g i) : catC f k = catC g k := by
  induction k with
  | zero => rfl
  | succ k ih => show catC f k ++ f k = catC g k ++ g k; rw [ih fun i hi => h i (by omega), h k (by omega)]
/-- What is signed is found to be of its key. -/
theorem once_found (l : List ByteArray) (leaf : Int) (m : ByteArray) (hl : l.length = 10) : onceF (onceS l leaf m) leaf m = onceP l leaf := by
  have hs : onceS l leaf m = (List.range 10).map (fun i => chnB (bAt l i) leaf (i : Int) 0 (dgAt m i)) := by unfold onceS; rw [if_pos hl]
  have hsl : (onceS l leaf m).length = 10 := by rw [hs, List.length_map, List.length_range]
  unfold onceF onceP
  rw [if_pos hsl, if_pos hl]
  refine congrArg chopB (catC_congr 10 fun i hi => ?_)
  have hb : bAt (onceS l leaf m) i = chnB (bAt l i) leaf (i : Int) 0 (dgAt m i) := by
    rw [hs]
    unfold bAt
    rw [List.getD_eq_getElem?_getD, List.getElem?_map, List.getElem?_range hi]
    rfl
  have hd := dgAt_le m i
  rw [hb, chn_on _ _ _ _ _ (by omega), show dgAt m i + (15 - dgAt m i) = 15 by omega]
theorem catC_le (f : Nat → ByteArray) (n k : Nat) (h : ∀ i, (f i).size ≤ n) : (catC f k).size ≤ k * n := by
  induction k with
  | zero => exact Nat.zero_le _
  | succ k ih =>
    show (catC f k ++ f k).size ≤ _
    rw [ByteArray.size_append, Nat.succ_mul]
    have := h k
    omega
end Go.Proofs.Ytjgnjjphankhnab

/- Trees, reckoned: nodes, levels, roots, paths. -/
namespace Go.Proofs.Ytjgnjjphankhnab
open Go.RowKit
def nodeB (level place : Int) (a b : ByteArray) : ByteArray := chopB (oneY level ++ oneY place ++ a ++ b ++ ⟨#[110]⟩)
theorem nodeB_size (level place : Int) (a b : ByteArray) : (nodeB level place a b).size = 4 := chopB_size _
def lvN (level : Int) (l : List ByteArray) (i : Nat) : ByteArray := nodeB level (i : Int) (bAt l (2 * i)) (bAt l (2 * i + 1))
def lvL (level : Int) (l : List ByteArray) : List ByteArray := (List.range (l.length / 2)).map (lvN level l)
theorem lvL_len (level : Int) (l : List ByteArray) : (lvL level l).length = l.length / 2 := by unfold lvL; rw [List.length_map, List.length_range]
theorem lvL_at (level : Int) (l : List ByteArray) (i : Nat) (h : i < l.length / 2) : bAt (lvL level l) i = lvN level l i := by
  unfold bAt lvL
  rw [List.getD_eq_getElem?_getD, List.getElem?_map, List.getElem?_range h]
  rfl
theorem lvL_size (level : Int) (l : List ByteArray) : ∀ x ∈ lvL level l, x.size = 4 := by
  intro x hx
  unfold lvL at hx
  obtain ⟨i, _, rfl⟩ := List.mem_map.1 hx
  exact nodeB_size _ _ _ _
/-- The row behind k levels. -/
def lvs (l : List ByteArray) : Nat → List ByteArray
  | 0 => l
  | k + 1 => lvL ((k + 1 : Nat) : Int) (lvs l k)
theorem lvs_len (l : List ByteArray) (hl : l.length = 4) (k : Nat) : (lvs l k).length = 4 / 2 ^ k := by
  induction k with
  | zero => rw [Nat.pow_zero, Nat.div_one]; exact hl
  | succ k ih => show (lvL _ (lvs l k)).length = _; rw [lvL_len, ih, Nat.div_div_eq_div_mul, Nat.pow_succ]
theorem lvs_size (l : List ByteArray) (n : Nat) (hn : 4 ≤ n) (h : ∀ x ∈ l, x.size ≤ n) (k : Nat) : ∀ x ∈ lvs l k, x.size ≤ n := by
  cases k with
  | zero => exact h
  | succ k => intro x hx; rw [lvL_size _ _ x hx]; exact hn
def rootB (l : List ByteArray) : ByteArray := if l.length = 4 then bAt (lvs l 2) 0 else ⟨#[]⟩
/-- The other one of a pair. -/
def sibN (i : Nat) : Nat := if i % 2 = 1 then i - 1 else i + 1
def pthN (l : List ByteArray) (leaf k : Nat) : ByteArray := bAt (lvs l k) (sibN (leaf / 2 ^ k))
def pathL (l : List ByteArray) (leaf : Int) : List ByteArray := if l.length = 4 ∧ (0 ≤ leaf ∧ leaf ≤ 3) then (List.range 2).map (pthN l leaf.toNat) else []
def stpB (level : Int) (i : Nat) (x p : ByteArray) : ByteArray := if i % 2 = 1 then nodeB level ((i / 2 : Nat) : Int) p x else nodeB level ((i / 2 : Nat) : Int) x p
def rbB (x : ByteArray) (leaf : Nat) (path : List ByteArray) : Nat → ByteArray
  | 0 => x
  | k + 1 => stpB ((k + 1 : Nat) : Int) (leaf / 2 ^ k) (rbB x leaf path k) (bAt path k)
theorem rbB_size (x : ByteArray) (leaf : Nat) (path : List ByteArray) (k n : Nat) (hn : 4 ≤ n) (h : x.size ≤ n) : (rbB x leaf path k).size ≤ n := by
  cases k with
  | zero => exact h
  | succ k =>
    show (stpB _ _ _ _).size ≤ n
    unfold stpB
    split <;> rw [nodeB_size] <;> exact hn
def rootBy (x : ByteArray) (leaf : Int) (path : List ByteArray) : ByteArray := if path.length = 2 ∧ (0 ≤ leaf ∧ leaf ≤ 3) then rbB x leaf.toNat path 2 else ⟨#[]⟩
theorem pathL_len (l : List ByteArray) (leaf : Int) (hl : l.length = 4) (h : 0 ≤ leaf ∧ leaf ≤ 3) : (pathL l leaf).length = 2 := by unfold pathL; rw [if_pos ⟨hl, h⟩, List.length_map, List.length_range]
theorem pathL_at (l : List ByteArray) (leaf : Int) (hl : l.length = 4) (h : 0 ≤ leaf ∧ leaf ≤ 3) (k : Nat) (hk : k < 2) : bAt (pathL l leaf) k = pthN l leaf.toNat k := by
  unfold pathL bAt
  rw [if_pos ⟨hl, h⟩, List.getD_eq_getElem?_getD, List.getElem?_map, List.getElem?_range hk]
  rfl
/-- One step up the path is the node above. -/
theorem stp_up (l : List ByteArray) (hl : l.length = 4) (k i : Nat) (hk : k < 2) (hi : i < 4 / 2 ^ k) : stpB ((k + 1 : Nat) : Int) i (bAt (lvs l k) i) (bAt (lvs l k) (sibN i)) = bAt (lvs l (k + 1)) (i / 2) := by
  have hlen := lvs_len l hl k
  have h2 : i / 2 < (lvs l k).length / 2 := by
    rw [hlen]
    have : k = 0 ∨ k = 1 := by omega
    rcases this with rfl | rfl
    · rw [Nat.pow_zero, Nat.div_one] at hi ⊢; omega
    · rw [Nat.pow_one] at hi ⊢; omega
  show _ = bAt (lvL ((k + 1 : Nat) : Int) (lvs l k)) (i / 2)
  rw [lvL_at _ _ _ h2]
  unfold lvN stpB sibN
  by_cases h : i % 2 = 1
  · rw [if_pos h, if_pos h, show 2 * (i / 2) = i - 1 by omega, show i - 1 + 1 = i by omega]
  · rw [if_neg h, if_neg h, show 2 * (i / 2) = i by omega]
theorem rb_up (l : List ByteArray) (hl : l.length = 4) (leaf : Nat) (h : leaf < 4) (path : List ByteArray) (hp : ∀ k, k < 2 → bAt path k = pthN l leaf k) : ∀ k, k ≤ 2 → rbB (bAt l leaf) leaf path k = bAt (lvs l k) (leaf / 2 ^ k) := by
  intro k
  induction k with
  | zero => intro _; rw [Nat.pow_zero, Nat.div_one]; rfl
  | succ k ih =>
    intro hk
    show stpB ((k + 1 : Nat) : Int) (leaf / 2 ^ k) (rbB (bAt l leaf) leaf path k) (bAt path k) = _
    have hlt : leaf / 2 ^ k < 4 / 2 ^ k := by
      have : k = 0 ∨ k = 1 := by omega
      rcases this with rfl | rfl
      · rw [Nat.pow_zero, Nat.div_one]; omega
      · rw [Nat.pow_one]; omega
    rw [ih (by omega), hp k (by omega), pthN, stp_up l hl k _ (by omega) hlt, Nat.div_div_eq_div_mul, Nat.pow_succ]
/-- A path with its leaf makes the root. -/
theorem root_by (l : List ByteArray) (hl : l.length = 4) (leaf : Nat) (h : leaf < 4) : rootBy (bAt l leaf) (leaf : Int) (pathL l (leaf : Int)) = rootB l := by
  have h03 : (0 : Int) ≤ (leaf : Int) ∧ (leaf : Int) ≤ 3 := by omega
  unfold rootBy rootB
  rw [if_pos ⟨pathL_len l _ hl h03, h03⟩, if_pos hl, Int.toNat_natCast, rb_up l hl leaf h _ (fun k hk => by rw [pathL_at l _ hl h03 k hk, Int.toNat_natCast]) 2 (by omega)]
  rw [show leaf / 2 ^ 2 = 0 by rw [show (2 : Nat) ^ 2 = 4 from rfl]; omega]
end Go.Proofs.Ytjgnjjphankhnab

/- Keys of a tree, reckoned: leaves, signatures, whether they are right, their texts. -/
namespace Go.Proofs.Ytjgnjjphankhnab
open Go.RowKit
structure Sg where
  leaf : Int
  once : List ByteArray
  path : List ByteArray
def lefO (seed : ByteArray) (i : Nat) : ByteArray := onceP (keysO seed (i : Int)) (i : Int)
def lvsO (seed : ByteArray) : List ByteArray := (List.range 4).map (lefO seed)
theorem lvsO_len (seed : ByteArray) : (lvsO seed).length = 4 := by unfold lvsO; rw [List.length_map, List.length_range]
theorem keysO_len (seed : ByteArray) (leaf : Int) : (keysO seed leaf).length = 10 := by unfold keysO; rw [List.length_map, List.length_range]
theorem keysO_size (seed : ByteArray) (leaf : Int) : ∀ x ∈ keysO seed leaf, x.size = 4 := by
  intro x hx
  unfold keysO at hx
  obtain ⟨i, _, rfl⟩ := List.mem_map.1 hx
  exact chopB_size _
theorem onceP_size (l : List ByteArray) (leaf : Int) (h : l.length = 10) : (onceP l leaf).size = 4 := by unfold onceP; rw [if_pos h]; exact chopB_size _
theorem lefO_size (seed : ByteArray) (i : Nat) : (lefO seed i).size = 4 := onceP_size _ _ (keysO_len _ _)
theorem lvsO_size (seed : ByteArray) : ∀ x ∈ lvsO seed, x.size = 4 := by
  intro x hx
  unfold lvsO at hx
  obtain ⟨i, _, rfl⟩ := List.mem_map.1 hx
  exact lefO_size _ _
theorem bAt_map (f : Nat → ByteArray) (n i : Nat) (h : i < n) : bAt ((List.range n).map f) i = f i := by
  unfold bAt
  rw [List.getD_eq_getElem?_getD, List.getElem?_map, List.getElem?_range h]
  rfl
def pubO (seed : ByteArray) : ByteArray := rootB (lvsO seed)
def sgnS (seed : ByteArray) (leaf : Int) (m : ByteArray) : Sg := if 0 ≤ leaf ∧ leaf ≤ 3 then ⟨leaf, onceS (keysO seed leaf) leaf m, pathL (lvsO seed) leaf⟩ else ⟨0, [], []⟩
def four (l : List ByteArray) : Bool := l.all fun x => decide (x.size = 4)
theorem four_yes {l : List ByteArray} (h : four l = true) : ∀ x ∈ l, x.size = 4 := fun x hx => by
  have := List.all_eq_true.1 h x hx
  simpa using this
theorem four_of {l : List ByteArray} (h : ∀ x ∈ l, x.size = 4) : four l = true := List.all_eq_true.2 fun x hx => by simpa using h x hx
theorem four_no {l : List ByteArray} (k : Nat) (hk : k < l.length) (h : ¬ (bAt l k).size = 4) : four l = false := by
  cases e : four l with
  | false => rfl
  | true =>
    refine absurd (four_yes e (bAt l k) ?_) h
    unfold bAt
    rw [List.getD_eq_getElem?_getD, List.getElem?_eq_getElem hk]
    exact List.getElem_mem hk
theorem four_bAt {l : List ByteArray} (h : ∀ k, k < l.length → (bAt l k).size = 4) : four l = true := four_of fun x hx => by
  obtain ⟨k, hk, rfl⟩ := List.mem_iff_getElem.1 hx
  have := h k hk
  unfold bAt at this
  rw [List.getD_eq_getElem?_getD, List.getElem?_eq_getElem hk] at this
  exact this
theorem bAt_four {l : List ByteArray} (h : four l = true) (k : Nat) (hk : k < l.length) : (bAt l k).size = 4 := by
  refine four_yes h _ ?_
  unfold bAt
  rw [List.getD_eq_getElem?_getD, List.getElem?_eq_getElem hk]
  exact List.getElem_mem hk
def sgShape (s : Sg) : Prop := (0 ≤ s.leaf ∧ s.leaf ≤ 3) ∧ s.once.length = 10 ∧ s.path.length = 2
def sgSh (s : Sg) : Bool := decide ((0 ≤ s.leaf ∧ s.leaf ≤ 3) ∧ s.once.length = 10 ∧ s.path.length = 2)
def sgOk (s : Sg) : Bool := sgSh s && (four s.once && four s.path)
theorem sgOk_shape {s : Sg} (h : sgOk s = true) : sgShape s := by unfold sgOk at h; rw [Bool.and_eq_true] at h; have h1 := h.1; unfold sgSh at h1; have h2 := of_decide_eq_true h1; exact h2
theorem sgOk_once {s : Sg} (h : sgOk s = true) : four s.once = true := by unfold sgOk at h; rw [Bool.and_eq_true, Bool.and_eq_true] at h; exact h.2.1
theorem sgOk_path {s : Sg} (h : sgOk s = true) : four s.path = true := by unfold sgOk at h; rw [Bool.and_eq_true, Bool.and_eq_true] at h; exact h.2.2
theorem sgSh_of {s : Sg} (h : sgShape s) : sgSh s = true := by unfold sgSh; exact decide_eq_true h
theorem sgSh_no {s : Sg} (h : ¬ sgShape s) : sgSh s = false := by unfold sgSh; exact decide_eq_false h
theorem sgOk_of {s : Sg} (h1 : sgShape s) (h2 : four s.once = true) (h3 : four s.path = true) : sgOk s = true := by unfold sgOk; rw [sgSh_of h1, h2, h3]; rfl
theorem sgOk_no1 {s : Sg} (h : ¬ sgShape s) : sgOk s = false := by unfold sgOk; rw [sgSh_no h]; rfl
theorem sgOk_no2 {s : Sg} (h : four s.once = false) : sgOk s = false := by unfold sgOk; rw [h]; cases sgSh s <;> rfl
theorem sgOk_no3 {s : Sg} (h : four s.path = false) : sgOk s = false := by unfold sgOk; rw [h]; cases sgSh s <;> cases four s.once <;> rfl
def fndB (m : ByteArray) (s : Sg) : ByteArray := rootBy (onceF s.once s.leaf m) s.leaf s.path
def chkB (p m : ByteArray) (s : Sg) : Bool := sgOk s && decide (fndB m s = p)
/-- The texts f 0 .. f (k - 1), one behind the other, behind t. -/
def catT (t : ByteArray) (f : Nat → ByteArray) : Nat → ByteArray
  | 0 => t
  | k + 1 => catT t f k ++ f k
theorem catT_size (t : ByteArray) (f : Nat → ByteArray) (n : Nat) (h : ∀ i, i < n → (f i).size = 4) (k : Nat) (hk : k ≤ n) : (catT t f k).size = t.size + 4 * k := by
  induction k with
  | zero => rfl
  | succ k ih =>
    show (catT t f k ++ f k).size = _
    rw [ByteArray.size_append, ih (by omega), h k (by omega)]
    omega
theorem catT_part (t : ByteArray) (f : Nat → ByteArray) (n : Nat) (h : ∀ i, i < n → (f i).size = 4) (k : Nat) (hk : k ≤ n) (i : Nat) (hi : i < k) : (catT t f k).extract (t.size + 4 * i) (t.size + 4 * (i + 1)) = f i := by
  induction k with
  | zero => omega
  | succ k ih =>
    show (catT t f k ++ f k).extract _ _ = _
    have hs := catT_size t f n h k (by omega)
    rw [ByteArray.extract_append, hs]
    by_cases e : i = k
    · subst e
      have h1 : (catT t f i).extract (t.size + 4 * i) (t.size + 4 * (i + 1)) = ByteArray.empty := ByteArray.extract_eq_empty_iff.2 (by rw [hs]; omega)
      have h2 : (f i).extract (t.size + 4 * i - (t.size + 4 * i)) (t.size + 4 * (i + 1) - (t.size + 4 * i)) = f i := by
        rw [Nat.sub_self, show t.size + 4 * (i + 1) - (t.size + 4 * i) = (f i).size by rw [h i (by omega)]; omega]
        exact ByteArray.extract_zero_size
      rw [h1, h2, ByteArray.empty_append]
    · have h2 : (f k).extract (t.size + 4 * i - (t.size + 4 * k)) (t.size + 4 * (i + 1) - (t.size + 4 * k)) = ByteArray.empty := ByteArray.extract_eq_empty_iff.2 (by omega)
      rw [h2, ByteArray.append_empty, ih (by omega) (by omega)]
theorem catT_head (t : ByteArray) (f : Nat → ByteArray) (k : Nat) (a b : Nat) (hb : b ≤ t.size) : (catT t f k).extract a b = t.extract a b := by
  induction k with
  | zero => rfl
  | succ k ih =>
    show (catT t f k ++ f k).extract _ _ = _
    have hs : t.size ≤ (catT t f k).size := by
      clear ih
      induction k with
      | zero => exact Nat.le_refl _
      | succ k ih => show _ ≤ (catT t f k ++ f k).size; rw [ByteArray.size_append]; omega
    have h2 : (f k).extract (a - (catT t f k).size) (b - (catT t f k).size) = ByteArray.empty := ByteArray.extract_eq_empty_iff.2 (by omega)
    rw [ByteArray.extract_append, h2, ByteArray.append_empty, ih]
def sgT (s : Sg) : ByteArray := if sgOk s = true then catT (catT (oneY s.leaf) (bAt s.once) 10) (bAt s.path) 2 else ⟨#[]⟩
/-- The part i of a text. -/
def prtB (t : ByteArray) (i : Nat) : ByteArray := t.extract (1 + i * 4) (1 + (i + 1) * 4)
def rdIn (t : ByteArray) : Prop := t.size = 49 ∧ byA t 0 < 4
def rdOk (t : ByteArray) : Bool := decide (t.size = 49 ∧ byA t 0 < 4)
theorem rdOk_of {t : ByteArray} (h : rdIn t) : rdOk t = true := by unfold rdOk; exact decide_eq_true h
theorem rdOk_in {t : ByteArray} (h : rdOk t = true) : rdIn t := by unfold rdOk at h; have h2 := of_decide_eq_true h; exact h2
def rdS (t : ByteArray) : Sg := if rdOk t = true then ⟨(byA t 0 : Int), (List.range 10).map (prtB t), (List.range 2).map fun i => prtB t (10 + i)⟩ else ⟨0, [], []⟩
theorem prtB_size (t : ByteArray) (h : t.size = 49) (i : Nat) (hi : i < 12) : (prtB t i).size = 4 := by unfold prtB; rw [ByteArray.size_extract, h]; omega
theorem rdS_ok {t : ByteArray} (h : rdIn t) : sgOk (rdS t) = true := by
  unfold rdS
  rw [if_pos (rdOk_of h)]
  refine sgOk_of ⟨⟨Int.natCast_nonneg _, ?_⟩, ?_, ?_⟩ ?_ ?_
  · have := h.2; show ((byA t 0 : Nat) : Int) ≤ 3; omega
  · show ((List.range 10).map _).length = 10; rw [List.length_map, List.length_range]
  · show ((List.range 2).map _).length = 2; rw [List.length_map, List.length_range]
  · refine four_of fun x hx => ?_
    obtain ⟨i, hi, rfl⟩ := List.mem_map.1 hx
    exact prtB_size t h.1 i (by have := List.mem_range.1 hi; omega)
  · refine four_of fun x hx => ?_
    obtain ⟨i, hi, rfl⟩ := List.mem_map.1 hx
    exact prtB_size t h.1 _ (by have := List.mem_range.1 hi; omega)
theorem ext_bAt {a b : List ByteArray} (n : Nat) (ha : a.length = n) (hb : b.length = n) (h : ∀ i, i < n → bAt a i = bAt b i) : a = b := by
  apply List.ext_getElem (by omega)
  intro i h1 h2
  have := h i (by omega)
  unfold bAt at this
  rw [List.getD_eq_getElem?_getD, List.getD_eq_getElem?_getD, List.getElem?_eq_getElem h1, List.getElem?_eq_getElem h2] at this
  exact this
theorem sgT_is {s : Sg} (h : sgOk s = true) : sgT s = catT (catT (oneY s.leaf) (bAt s.once) 10) (bAt s.path) 2 := by unfold sgT; rw [if_pos h]
theorem sgT_size {s : Sg} (h : sgOk s = true) : (sgT s).size = 49 := by
  obtain ⟨_, h1, h2⟩ := sgOk_shape h
  rw [sgT_is h, catT_size _ _ 2 (fun i hi => bAt_four (sgOk_path h) i (by omega)) 2 (Nat.le_refl _), catT_size _ _ 10 (fun i hi => bAt_four (sgOk_once h) i (by omega)) 10 (Nat.le_refl _), oneY_size]
theorem prt_sgT1 {s : Sg} (h : sgOk s = true) (i : Nat) (hi : i < 10) : prtB (sgT s) i = bAt s.once i := by
  obtain ⟨_, h1, h2⟩ := sgOk_shape h
  have hs := catT_size (oneY s.leaf) (bAt s.once) 10 (fun i hi => bAt_four (sgOk_once h) i (by omega)) 10 (Nat.le_refl _)
  rw [oneY_size] at hs
  unfold prtB
  rw [sgT_is h, catT_head _ _ _ _ _ (by rw [hs]; omega)]
  have := catT_part (oneY s.leaf) (bAt s.once) 10 (fun i hi => bAt_four (sgOk_once h) i (by omega)) 10 (Nat.le_refl _) i hi
  rw [oneY_size] at this
  rw [Nat.mul_comm i 4, Nat.mul_comm (i + 1) 4]
  exact this
theorem prt_sgT2 {s : Sg} (h : sgOk s = true) (i : Nat) (hi : i < 2) : prtB (sgT s) (10 + i) = bAt s.path i := by
  obtain ⟨_, h1, h2⟩ := sgOk_shape h
  have hs := catT_size (oneY s.leaf) (bAt s.once) 10 (fun i hi => bAt_four (sgOk_once h) i (by omega)) 10 (Nat.le_refl _)
  rw [oneY_size] at hs
  unfold prtB
  rw [sgT_is h]
  have := catT_part (catT (oneY s.leaf) (bAt s.once) 10) (bAt s.path) 2 (fun i hi => bAt_four (sgOk_path h) i (by omega)) 2 (Nat.le_refl _) i hi
  rw [hs] at this
  rw [show 1 + (10 + i) * 4 = 1 + 4 * 10 + 4 * i by omega, show 1 + (10 + i + 1) * 4 = 1 + 4 * 10 + 4 * (i + 1) by omega]
  exact this
theorem ext_one (t : ByteArray) (h : 0 < t.size) (b : ByteArray) : t.extract 0 1 = b → byA t 0 = byA b 0 := by
  intro e
  rw [← e]
  unfold byA
  rw [ByteArray.data_extract, Array.getD_eq_getD_getElem?, Array.getD_eq_getD_getElem?, Array.getElem?_extract]
  have hd : 0 < min 1 t.data.size := by have : 0 < t.data.size := h; omega
  rw [if_pos (by simpa using hd)]
theorem byA_oneY (z : Int) (h : 0 ≤ z ∧ z ≤ 255) : (byA (oneY z) 0 : Int) = z := by
  unfold byA oneY b256
  obtain ⟨n, rfl⟩ : ∃ n : Nat, z = n := ⟨z.toNat, by omega⟩
  simp
  omega
theorem byA_sgT {s : Sg} (h : sgOk s = true) : (byA (sgT s) 0 : Int) = s.leaf := by
  obtain ⟨⟨h0, h3⟩, _, _⟩ := sgOk_shape h
  have hz := sgT_size h
  have e : (sgT s).extract 0 1 = oneY s.leaf := by
    rw [sgT_is h]
    have hs := catT_size (oneY s.leaf) (bAt s.once) 10 (fun i hi => bAt_four (sgOk_once h) i (by have := (sgOk_shape h).2.1; omega)) 10 (Nat.le_refl _)
    rw [oneY_size] at hs
    rw [catT_head _ _ _ _ _ (by rw [hs]; omega), catT_head _ _ _ _ _ (by rw [oneY_size]; omega)]
    exact ByteArray.extract_zero_size
  rw [ext_one _ (by omega) _ e]
  exact byA_oneY _ (by omega)
theorem rdIn_sgT {s : Sg} (h : sgOk s = true) : rdIn (sgT s) := ⟨sgT_size h, by have := byA_sgT h; obtain ⟨⟨h0, h3⟩, _, _⟩ := sgOk_shape h; omega⟩
/-- What is written is read. -/
theorem rd_sgT {s : Sg} (h : sgOk s = true) : rdS (sgT s) = s := by
  obtain ⟨_, h1, h2⟩ := sgOk_shape h
  unfold rdS
  rw [if_pos (rdOk_of (rdIn_sgT h)), byA_sgT h]
  obtain ⟨lf, on, pt⟩ := s
  rw [Sg.mk.injEq]
  refine ⟨rfl, ext_bAt 10 (by rw [List.length_map, List.length_range]) h1 fun i hi => ?_, ext_bAt 2 (by rw [List.length_map, List.length_range]) h2 fun i hi => ?_⟩
  · rw [bAt_map _ _ _ hi]; exact prt_sgT1 h i hi
  · rw [bAt_map _ _ _ hi]; exact prt_sgT2 h i hi
theorem catT_prt (t : ByteArray) (k : Nat) (x : ByteArray) (hx : x = t.extract 0 1) : catT x (prtB t) k = t.extract 0 (1 + k * 4) := by
  induction k with
  | zero => rw [hx]; rfl
  | succ k ih =>
    show catT x (prtB t) k ++ prtB t k = _
    rw [ih]
    unfold prtB
    rw [ByteArray.extract_append_extract]
    congr 1 <;> omega
theorem catT_two (x : ByteArray) (f : Nat → ByteArray) (a b : Nat) : catT (catT x f a) (fun i => f (a + i)) b = catT x f (a + b) := by
  induction b with
  | zero => rfl
  | succ b ih => show catT (catT x f a) _ b ++ f (a + b) = catT x f (a + b) ++ f (a + b); rw [ih]
theorem catT_congr {f g : Nat → ByteArray} (x : ByteArray) (k : Nat) (h : ∀ i, i < k → f i = g i) : catT x f k = catT x g k := by
  induction k with
  | zero => rfl
  | succ k ih => show catT x f k ++ f k = catT x g k ++ g k; rw [ih fun i hi => h i (by omega), h k (by omega)]
theorem head_oneY (t : ByteArray) (h : 0 < t.size) : t.extract 0 1 = oneY (byA t 0 : Int) := by
  have hd : 0 < t.data.size := h
  apply ByteArray.ext
  rw [ByteArray.data_extract]
  unfold oneY byA b256
  apply Array.ext
  · simp; omega
  · intro i h1 h2
    have hi : i = 0 := by simp at h1; omega
    subst hi
    apply UInt8.toNat_inj.1
    have e : t.data[0]? = some t.data[0] := Array.getElem?_eq_getElem hd
    have hl : t.data[0].toNat < 256 := UInt8.toNat_lt _
    simp [e]
    omega
/-- What is read is written so. -/
theorem sgT_rd {t : ByteArray} (h : rdIn t) : sgT (rdS t) = t := by
  have ho := rdS_ok h
  rw [sgT_is ho]
  unfold rdS
  rw [if_pos (rdOk_of h)]
  show catT (catT (oneY (byA t 0 : Int)) (bAt ((List.range 10).map (prtB t))) 10) (bAt ((List.range 2).map fun i => prtB t (10 + i))) 2 = t
  rw [catT_congr _ 10 (fun i hi => bAt_map (prtB t) 10 i hi), catT_congr _ 2 (fun i hi => bAt_map (fun i => prtB t (10 + i)) 2 i hi), catT_two, catT_prt t 12 _ (head_oneY t (by have := h.1; omega)).symm, show 1 + 12 * 4 = t.size by rw [h.1]]
  exact ByteArray.extract_zero_size
theorem onceS_len (l : List ByteArray) (leaf : Int) (m : ByteArray) (h : l.length = 10) : (onceS l leaf m).length = 10 := by unfold onceS; rw [if_pos h, List.length_map, List.length_range]
theorem chnB_four (x : ByteArray) (leaf chain frm : Int) (k : Nat) (h : x.size = 4) : (chnB x leaf chain frm k).size = 4 := by
  cases k with
  | zero => exact h
  | succ k => exact chopB_size _
theorem lvs_four (l : List ByteArray) (h : ∀ x ∈ l, x.size = 4) (k : Nat) : four (lvs l k) = true := four_of (by
  cases k with
  | zero => exact h
  | succ k => exact fun x hx => lvL_size _ _ x hx)
theorem sibS_lt (n k : Nat) (hn : n < 4) (hk : k < 2) : sibN (n / 2 ^ k) < 4 / 2 ^ k := by
  rcases show k = 0 ∨ k = 1 by omega with rfl | rfl
  · rw [Nat.pow_zero, Nat.div_one, Nat.div_one]; unfold sibN; split <;> omega
  · rw [Nat.pow_one]; unfold sibN; split <;> omega
theorem sibS_size (seed : ByteArray) (leaf : Int) (h : 0 ≤ leaf ∧ leaf ≤ 3) (k : Nat) (hk : k < 2) : (pthN (lvsO seed) leaf.toNat k).size = 4 := by
  unfold pthN
  refine bAt_four (lvs_four _ (lvsO_size seed) k) _ ?_
  rw [lvs_len _ (lvsO_len seed) k]
  exact sibS_lt _ _ (by have := h.1; have := h.2; omega) hk
theorem sgnS_ok (seed : ByteArray) (leaf : Int) (m : ByteArray) (h : 0 ≤ leaf ∧ leaf ≤ 3) : sgOk (sgnS seed leaf m) = true := by
  unfold sgnS
  rw [if_pos h]
  refine sgOk_of ⟨h, onceS_len _ _ _ (keysO_len _ _), pathL_len _ _ (lvsO_len _) h⟩ ?_ ?_
  · refine four_of fun x hx => ?_
    have hx' : x ∈ onceS (keysO seed leaf) leaf m := hx
    unfold onceS at hx'
    rw [if_pos (keysO_len _ _)] at hx'
    obtain ⟨i, hi, rfl⟩ := List.mem_map.1 hx'
    refine chnB_four _ _ _ _ _ (bAt_four (four_of (keysO_size seed leaf)) i ?_)
    rw [keysO_len]
    exact List.mem_range.1 hi
  · refine four_of fun x hx => ?_
    have hx' : x ∈ pathL (lvsO seed) leaf := hx
    unfold pathL at hx'
    rw [if_pos ⟨lvsO_len _, h⟩] at hx'
    obtain ⟨i, hi, rfl⟩ := List.mem_map.1 hx'
    have hi2 := List.mem_range.1 hi
    exact sibS_size seed leaf h i hi2
theorem sgn_chk (seed : ByteArray) (leaf : Int) (m : ByteArray) (h : 0 ≤ leaf ∧ leaf ≤ 3) : chkB (pubO seed) m (sgnS seed leaf m) = true := by
  unfold chkB
  rw [sgnS_ok seed leaf m h, Bool.true_and]
  apply decide_eq_true
  unfold fndB sgnS pubO
  rw [if_pos h]
  show rootBy (onceF (onceS (keysO seed leaf) leaf m) leaf m) leaf (pathL (lvsO seed) leaf) = _
  obtain ⟨n, rfl⟩ : ∃ n : Nat, leaf = n := ⟨leaf.toNat, by have := h.1; omega⟩
  have hn : n < 4 := by have := h.2; omega
  rw [once_found _ _ _ (keysO_len _ _), show onceP (keysO seed (n : Int)) (n : Int) = bAt (lvsO seed) n from (bAt_map (lefO seed) 4 n hn).symm]
  exact root_by _ (lvsO_len _) n hn
end Go.Proofs.Ytjgnjjphankhnab

/- The laws' helpers on signatures, over the loaded program. -/
namespace Go.Proofs.Ytjgnjjphankhnab
open Go.RowKit
def sgv (lf : Int) (v1 v2 : Value) : Value := .agg #[.int .i64 lf, v1, v2]
set_option maxRecDepth 20000 in
set_option maxHeartbeats 400000 in
theorem szStrL_any (l : List ByteArray) (v : Value) (L : Nat) (hL : L ≤ 1048576) (w : World) (hr : RdV w v (l.map sv)) (hb : ∀ x ∈ l, x.size ≤ maxLen) (hlen : l.length ≤ maxLen) :
    Calls Try.prog 23 #[v, .int .i64 (L : Int)] w fun e w' => (∃ z : Int, e = .returned (.int .i64 z) ∧ (z < 0 ∨ ∃ m : Nat, z = m ∧ m + l.length + sumS l = L)) ∧ w' = w := by
  obtain ⟨a, c, rfl, hc⟩ := hr.open
  clear hr
  rw [List.length_map]
  have hm : maxLen = 9223372036854775807 := by first | rfl | (unfold maxLen; rfl)
  obtain ⟨n, hnn⟩ : ∃ n, l.length = n := ⟨_, rfl⟩
  rw [hnn] at hlen ⊢
  have HE := hide (sumS_all l)
  rw [hnn] at HE
  replace hnn := hide hnn
  obtain ⟨z0, hz0⟩ : ∃ z : Int, z = (L : Int) - (n : Int) := ⟨_, rfl⟩
  have w0 : IntKind.i64.wrap ((L : Int) - (n : Int)) = z0 := by rw [IntKind.wrap_i64]; omega
  by_cases h0 : z0 < 0
  · replace hz0 := hide hz0
    clear hc hm
    go_enter Try.func23, Try.ntmps23
    go_wp2
    go_ret
    exact ⟨⟨-1, rfl, .inl (by decide)⟩, rfl⟩
  · have hn2 : n ≤ 1048576 := by omega
    replace hz0 := hide hz0
    go_enter Try.func23, Try.ntmps23
    go_wp2
    go_loopw [1, 5] (fun tz ti wr => ∃ (k : Nat) (z : Int), k ≤ n ∧ ti = .int .i64 (k : Int) ∧ tz = .int .i64 z ∧ Hid (0 ≤ z ∧ z + (sumS (l.take k) : Int) + (n : Int) = (L : Int)) ∧ wr = w) (fun _ ti _ => n - (intOf ti).toNat)
    case atStart => exact ⟨0, z0, Nat.zero_le _, rfl, rfl, hide ⟨by omega, by rw [List.take_zero]; show z0 + ((0 : Nat) : Int) + _ = _; have := unhide hz0; omega⟩, rfl⟩
    case round =>
      obtain ⟨k, z, hk, rfl, rfl, hz, hw⟩ := hrel
      have hw' := hw.symm
      subst hw'
      clear hw
      have hzz := unhide hz
      by_cases hlt : k < n
      · have hk' : k < l.length := by rw [unhide hnn]; exact hlt
        have hlt' : (k : Int) < (n : Int) := by omega
        obtain ⟨g, o, rfl, hg, d1⟩ := hc k _ (sv_get l k hk')
        have hsb := hb l[k] (List.getElem_mem hk')
        have HS := hide (sumS_take l k hk')
        obtain ⟨x, hx⟩ : ∃ x, x = l[k] := ⟨_, rfl⟩
        rw [← hx] at d1 hsb HS
        obtain ⟨z2, hz2⟩ : ∃ y : Int, y = z - (x.size : Int) := ⟨_, rfl⟩
        have w1 : IntKind.i64.wrap (z - (x.size : Int)) = z2 := by rw [IntKind.wrap_i64]; omega
        by_cases hneg : z2 < 0
        · replace hz2 := hide hz2; replace hx := hide hx
          clear hc hzz hsb hm
          go_wp2
          go_ret
          exact ⟨⟨-1, rfl, .inl (by decide)⟩, rfl⟩
        · have HZ := hide (show 0 ≤ z2 ∧ z2 + (sumS (l.take (k + 1)) : Int) + (n : Int) = (L : Int) by have h1 := unhide HS; omega)
          replace hz2 := hide hz2; replace hx := hide hx
          clear hc hzz hsb hm hz HS
          go_wp2
          go_roundw
          case rel => exact ⟨k + 1, z2, by omega, by go_num, by first | rfl | trivial, HZ, by first | rfl | trivial⟩
          case measure => simp [intOf]; omega
      · have hke : k = n := by omega
        have HF := hide (show ∃ m : Nat, z = m ∧ m + n + sumS l = L by have h1 := unhide HE; rw [hke] at hzz; rw [h1] at hzz; exact ⟨z.toNat, by omega, by omega⟩)
        replace hke := hide hke
        clear hc hzz hm
        go_wp2
        go_ret
        obtain ⟨m, hm1, hm2⟩ := unhide HF
        exact ⟨⟨z, rfl, .inr ⟨m, hm1, hm2⟩⟩, rfl⟩
set_option maxRecDepth 20000 in
set_option maxHeartbeats 400000 in
theorem szSigL_any (L : Nat) (hL : L ≤ 1048576) (lf : Int) (l1 l2 : List ByteArray) (v1 v2 : Value) (w : World) (r1 : RdV w v1 (l1.map sv)) (r2 : RdV w v2 (l2.map sv)) (b1 : ∀ x ∈ l1, x.size ≤ maxLen) (b2 : ∀ x ∈ l2, x.size ≤ maxLen) (n1 : l1.length ≤ maxLen) (n2 : l2.length ≤ maxLen) :
    Calls Try.prog 8 #[sgv lf v1 v2, .int .i64 (L : Int)] w fun e w' => (∃ z : Int, e = .returned (.int .i64 z) ∧ (z < 0 ∨ ∃ m : Nat, z = m ∧ m + (l1.length + sumS l1 + l2.length + sumS l2) = L)) ∧ Below w.heap.size w w' := by
  have C1 := hide (fun (W : World) (h : Below w.heap.size w W) => szStrL_any l1 v1 L hL W (r1.below h) b1 n1)
  have C2 := hide (fun (L : Nat) (hL : L ≤ 1048576) (W : World) (h : Below w.heap.size w W) => szStrL_any l2 v2 L hL W (r2.below h) b2 n2)
  obtain ⟨a1, c1, rfl⟩ := r1.shape
  obtain ⟨a2, c2, rfl⟩ := r2.shape
  unfold sgv
  clear r1 r2 b1 b2 n1 n2
  generalize (l1.map sv).length = k1 at *
  generalize (l2.map sv).length = k2 at *
  go_enter Try.func8, Try.ntmps8
  go_wp2_with fail
  have hA := CB.new w #[.int .i64 lf, .slice a1 k1 c1, .slice a2 k2 c2] 24
  have hB : Below w.heap.size w (w.alloc (.cells #[.int .i64 lf, .slice a1 k1 c1, .slice a2 k2 c2] 24)) := (Below.refl _ _).alloc (Nat.le_refl _) _
  generalize w.alloc (.cells #[.int .i64 lf, .slice a1 k1 c1, .slice a2 k2 c2] 24) = W at *
  refine (unhide C1 W hB).mono ?_
  rintro e w1 ⟨⟨z, rfl, hz⟩, hw1⟩
  have hw2 := hw1.symm
  subst hw2
  clear hw1 C1
  have d2 := hA.cell 2 (v := .slice a2 k2 c2) rfl
  rcases hz with hz | ⟨m, rfl, hm⟩
  · clear C2 d2 hA
    go_wp2
    go_ret
    exact ⟨⟨-1, rfl, .inl (by decide)⟩, hB⟩
  · have hm2 : m ≤ 1048576 := by omega
    have hneg : ¬ (m : Int) < 0 := by omega
    replace C2 := hide (unhide C2 m hm2 W hB)
    go_wp2_with fail
    refine (unhide C2).mono ?_
    rintro e w1 ⟨⟨z, rfl, hz⟩, hw1⟩
    have hw2 := hw1.symm
    subst hw2
    clear hw1 C2 d2 hA
    rcases hz with hz | ⟨m', rfl, hm'⟩
    · go_wp2
      go_ret
      exact ⟨⟨-1, rfl, .inl (by decide)⟩, hB⟩
    · have hneg2 : ¬ (m' : Int) < 0 := by omega
      have HF := hide (show m' + (l1.length + sumS l1 + l2.length + sumS l2) = L by omega)
      clear hm hm' hm2 hneg
      go_wp2
      go_ret
      exact ⟨⟨_, rfl, .inr ⟨m', rfl, unhide HF⟩⟩, hB⟩
theorem szSig_any (lf : Int) (l1 l2 : List ByteArray) (v1 v2 : Value) (w : World) (r1 : RdV w v1 (l1.map sv)) (r2 : RdV w v2 (l2.map sv)) (b1 : ∀ x ∈ l1, x.size ≤ maxLen) (b2 : ∀ x ∈ l2, x.size ≤ maxLen) (n1 : l1.length ≤ maxLen) (n2 : l2.length ≤ maxLen) :
    Calls Try.prog 8 #[sgv lf v1 v2, .int .i64 1048576] w fun e w' => (∃ z : Int, e = .returned (.int .i64 z) ∧ (z < 0 ∨ (0 ≤ z ∧ l1.length + sumS l1 + l2.length + sumS l2 ≤ 1048576))) ∧ Below w.heap.size w w' :=
  (szSigL_any 1048576 (Nat.le_refl _) lf l1 l2 v1 v2 w r1 r2 b1 b2 n1 n2).mono fun _ _ ⟨⟨z, h1, h2⟩, h3⟩ => ⟨⟨z, h1, h2.imp id fun ⟨_, h4, h5⟩ => ⟨by omega, by omega⟩⟩, h3⟩
/-- The signature s, read. -/
def RdSg (w : World) (v : Value) (s : Sg) : Prop := ∃ v1 v2, v = sgv s.leaf v1 v2 ∧ RdV w v1 (s.once.map sv) ∧ RdV w v2 (s.path.map sv) ∧ CapV v1 ∧ CapV v2
/-- The signature s, in memory of the call's own. -/
def OwnSg (w : World) (base : Nat) (v : Value) (s : Sg) : Prop := ∃ v1 v2, v = sgv s.leaf v1 v2 ∧ OwnV w base 9 v1 (s.once.map sv) ∧ OwnV w base 9 v2 (s.path.map sv) ∧ ∀ k, v1.ownBlock = some k → v2.ownBlock ≠ some k
theorem OwnSg.rd {w : World} {base : Nat} {v : Value} {s : Sg} (h : OwnSg w base v s) : RdSg w v s := by
  obtain ⟨v1, v2, e, h1, h2, _⟩ := h
  exact ⟨v1, v2, e, h1.rdv, h2.rdv, h1.capv, h2.capv⟩
theorem RdSg.below {w w' : World} {v : Value} {s : Sg} (h : RdSg w v s) (hb : Below w.heap.size w w') : RdSg w' v s := by
  obtain ⟨v1, v2, e, h1, h2, hc⟩ := h
  exact ⟨v1, v2, e, h1.below hb, h2.below hb, hc⟩
theorem OwnSg.below {w w' : World} {base : Nat} {v : Value} {s : Sg} (h : OwnSg w base v s) (hb : Below w.heap.size w w') : OwnSg w' base v s := by
  obtain ⟨v1, v2, e, h1, h2, h3⟩ := h
  exact ⟨v1, v2, e, h1.below hb, h2.below hb, h3⟩
theorem OwnSg.low {w : World} {base base' : Nat} {v : Value} {s : Sg} (h : OwnSg w base v s) (hb : base' ≤ base) : OwnSg w base' v s := by
  obtain ⟨v1, v2, e, h1, h2, h3⟩ := h
  exact ⟨v1, v2, e, h1.low hb, h2.low hb, h3⟩
theorem OwnSg.open {w : World} {base : Nat} {v : Value} {s : Sg} (h : OwnSg w base v s) : ∃ a1 n1 c1 a2 n2 c2, v = .agg #[.int .i64 s.leaf, .slice a1 n1 c1, .slice a2 n2 c2] := by
  obtain ⟨v1, v2, rfl, h1, h2, _⟩ := h
  obtain ⟨a1, c1, rfl⟩ := h1.shape
  obtain ⟨a2, c2, rfl⟩ := h2.shape
  exact ⟨_, _, _, _, _, _, rfl⟩
set_option maxRecDepth 20000 in
set_option maxHeartbeats 400000 in
theorem toSig_any (s : Sg) (v : Value) (w : World) (hr : RdSg w v s) (n1 : s.once.length ≤ 1048576) (n2 : s.path.length ≤ 1048576) :
    Calls Try.prog 10 #[v] w fun e w' => (∃ u, e = .returned u ∧ OwnSg w' w.heap.size u s) ∧ Below w.heap.size w w' := by
  obtain ⟨lf, l1, l2⟩ := s
  obtain ⟨v1, v2, rfl, r1, r2, -⟩ := hr
  have C1 := hide (fun (W : World) (h : Below w.heap.size w W) => toStrS_any l1 v1 W (r1.below h) n1)
  have C2 := hide (fun (W : World) (h : Below w.heap.size w W) => toStrS_any l2 v2 W (r2.below h) n2)
  obtain ⟨a1, c1, rfl⟩ := r1.shape
  obtain ⟨a2, c2, rfl⟩ := r2.shape
  unfold sgv
  clear r1 r2 n1 n2
  generalize ((Sg.mk lf l1 l2).once.map sv).length = k1 at *
  generalize ((Sg.mk lf l1 l2).path.map sv).length = k2 at *
  go_enter Try.func10, Try.ntmps10
  go_wp2_with fail
  obtain ⟨W, hW, hP, hR, hO, hB, hs⟩ := three_cb w #[.int .i64 lf, .slice a1 k1 c1, .slice a2 k2 c2] #[.int .i64 0, .slice none 0 0, .slice none 0 0] #[.int .i64 lf, .slice none 0 0, .slice none 0 0] 24 27 27
  rw [hW]
  clear hW
  refine (unhide C1 W hB).mono ?_
  rintro e w1 ⟨⟨b1, e1, rfl, o1⟩, hb1⟩
  have hB1 := hB.trans (hb1.mono hB.size)
  have hP1 := hP.step hb1
  have hR1 := hR.step hb1
  have hO1 := hO.step hb1
  have lo1 := hide (fun k (hk : (Value.slice b1 l1.length e1).ownBlock = some k) => o1.lt k hk)
  have hsz1 := hb1.size
  have off1 := hide (hO1.off o1 (by decide))
  clear hb1 hP hR hO C1
  have p2 := hP1.cell 2 (v := .slice a2 k2 c2) rfl
  have q1 := hO1.cell 1 (v := .slice none 0 0) rfl
  have f1 := hO1.frozen 1
  have hO2 := hide (hO1.set 1 (.slice b1 l1.length e1))
  have hR2 := hide (hR1.set_other (h := w.heap.size + 1 + 1) (k := 1) (by omega) (.slice b1 l1.length e1))
  have hB2 := hide (hB1.setCell (p := ⟨w.heap.size + 1 + 1, 1, none⟩) (by simp; omega) (.slice b1 l1.length e1))
  have o2 := hide (o1.grown (tS w1 (w.heap.size + 1 + 1) 1 (.slice b1 l1.length e1)) (fun k hk e => unhide off1 (by rw [hk, ← e])))
  generalize l1.length = m1 at *
  go_wp2_with fail
  have hs2 : (w1.setCell ⟨w.heap.size + 1 + 1, 1, none⟩ (.slice b1 m1 e1)).heap.size = w1.heap.size := by simp
  generalize w1.setCell ⟨w.heap.size + 1 + 1, 1, none⟩ (.slice b1 m1 e1) = W2 at *
  refine (unhide C2 W2 (unhide hB2)).mono ?_
  rintro e w3 ⟨⟨b2, e2, rfl, o3⟩, hb3⟩
  have hB3 := (unhide hB2).trans (hb3.mono (unhide hB2).size)
  have hR3 := (unhide hR2).step hb3
  have hO3 := (unhide hO2).step hb3
  have o4 := hide ((unhide o2).below hb3)
  have ap := hide (show ∀ k, (Value.slice b1 m1 e1).ownBlock = some k → (Value.slice b2 l2.length e2).ownBlock ≠ some k from fun k hk hk2 => by
    have h1 := (unhide lo1 k hk).2
    have h2 := (o3.lt k hk2).1
    omega)
  have off3 := hide (hO3.off o3 (by decide))
  have off4 := hide (hO3.off (unhide o4) (by decide))
  have ofr3 := hide (hR3.off o3 (by decide))
  have ofr4 := hide (hR3.off (unhide o4) (by decide))
  have hsz3 := hb3.size
  clear hb3 C2 hR2 hO2 hB2 o2 p2 q1 f1 hP1 hR1 hO1 hB1 hB lo1 off1
  generalize l2.length = m2 at *
  have q0 := hO3.cell 0 (v := .int .i64 lf) rfl
  have q1 := hO3.cell 1 (v := .slice b1 m1 e1) rfl
  have q2 := hO3.cell 2 (v := .slice none 0 0) rfl
  have f2 := hO3.frozen 2
  have r0 := hR3.cell 0 (v := .int .i64 0) rfl
  have r1 := hR3.cell 1 (v := .slice none 0 0) rfl
  have r2 := hR3.cell 2 (v := .slice none 0 0) rfl
  have g0 := hR3.frozen 0
  have g1 := hR3.frozen 1
  have g2 := hR3.frozen 2
  go_wp2
  have hO4 := hide ((((hR3.set_other (h := w.heap.size + 1 + 1) (k := 2) (by omega) (.slice b2 m2 e2)).set 0 (.int .i64 lf)).set 1 (.slice b1 m1 e1)).set 2 (.slice b2 m2 e2))
  have hB4 := hide ((((hB3.setCell (p := ⟨w.heap.size + 1 + 1, 2, none⟩) (by simp; omega) (.slice b2 m2 e2)).setCell (p := ⟨w.heap.size + 1, 0, none⟩) (by simp) (.int .i64 lf)).setCell (p := ⟨w.heap.size + 1, 1, none⟩) (by simp) (.slice b1 m1 e1)).setCell (p := ⟨w.heap.size + 1, 2, none⟩) (by simp) (.slice b2 m2 e2))
  have o5 := hide (((((unhide o4).setO (w.heap.size + 1 + 1) 2 (.slice b2 m2 e2) (unhide off4)).setO (w.heap.size + 1) 0 (.int .i64 lf) (unhide ofr4)).setO (w.heap.size + 1) 1 (.slice b1 m1 e1) (unhide ofr4)).setO (w.heap.size + 1) 2 (.slice b2 m2 e2) (unhide ofr4))
  have o6 := hide ((((o3.setO (w.heap.size + 1 + 1) 2 (.slice b2 m2 e2) (unhide off3)).setO (w.heap.size + 1) 0 (.int .i64 lf) (unhide ofr3)).setO (w.heap.size + 1) 1 (.slice b1 m1 e1) (unhide ofr3)).setO (w.heap.size + 1) 2 (.slice b2 m2 e2) (unhide ofr3))
  have hbw := hB3.size
  refine bodyPost_ret (results_cb (by exact Try.results10) _ _ _ _ _ _ rfl (unhide hO4) Try.underlying27 (by kernel_rfl)) rfl ⟨⟨_, rfl, _, _, rfl, (unhide o5).low ?_, (unhide o6).low ?_, unhide ap⟩, unhide hB4⟩
  · have := (unhide hB4).size; omega
  · omega
set_option maxRecDepth 20000 in
set_option maxHeartbeats 400000 in
theorem eqSig_any (s : Sg) (v u : Value) (w : World) (hv : RdSg w v s) (hu : RdSg w u s) (n1 : s.once.length ≤ 2000000) (n2 : s.path.length ≤ 2000000) :
    Calls Try.prog 12 #[v, u] w fun e w' => e = .returned (.bool true) ∧ Below w.heap.size w w' := by
  obtain ⟨lf, l1, l2⟩ := s
  obtain ⟨v1, v2, rfl, r1, r2, -⟩ := hv
  obtain ⟨u1, u2, rfl, p1, p2, -⟩ := hu
  have C1 := hide (fun (W : World) (h : Below w.heap.size w W) => eqStrS_any l1 v1 u1 W (r1.below h) (p1.below h) n1)
  have C2 := hide (fun (W : World) (h : Below w.heap.size w W) => eqStrS_any l2 v2 u2 W (r2.below h) (p2.below h) n2)
  obtain ⟨a1, c1, rfl⟩ := r1.shape
  obtain ⟨a2, c2, rfl⟩ := r2.shape
  obtain ⟨a3, c3, rfl⟩ := p1.shape
  obtain ⟨a4, c4, rfl⟩ := p2.shape
  unfold sgv
  clear r1 r2 p1 p2 n1 n2
  generalize ((Sg.mk lf l1 l2).once.map sv).length = k1 at *
  generalize ((Sg.mk lf l1 l2).path.map sv).length = k2 at *
  go_enter Try.func12, Try.ntmps12
  go_wp2_with fail
  obtain ⟨W, hW, hP, hR, hB, hs⟩ := two_cb w #[.int .i64 lf, .slice a1 k1 c1, .slice a2 k2 c2] #[.int .i64 lf, .slice a3 k1 c3, .slice a4 k2 c4] 27 27
  rw [hW]
  clear hW
  refine (unhide C1 W hB).mono ?_
  rintro e w1 ⟨rfl, hb1⟩
  have hB1 := hB.trans (hb1.mono hB.size)
  have d1 := (hP.step hb1).cell 2 (v := .slice a2 k2 c2) rfl
  have d2 := (hR.step hb1).cell 2 (v := .slice a4 k2 c4) rfl
  replace C2 := hide (unhide C2 w1 hB1)
  clear hb1 hP hR C1 hB
  go_wp2_with fail
  refine (unhide C2).mono ?_
  rintro e w2 ⟨rfl, hb2⟩
  have hB2 := hB1.trans (hb2.mono hB1.size)
  clear hb2 C2 d1 d2 hB1
  go_wp2
  go_ret
  exact ⟨rfl, hB2⟩
/-- The marks of a signature's texts. -/
theorem RdSg.len {w : World} {v : Value} {s : Sg} (h : RdSg w v s) : ∃ v1 v2, v = sgv s.leaf v1 v2 := by
  obtain ⟨v1, v2, e, _⟩ := h
  exact ⟨v1, v2, e⟩
/-- A signature whose texts are marked from k on. -/
def MkSgK (w : World) (base : Nat) (v : Value) (s : Sg) (k : Nat) : Prop := ∃ v1 v2, v = sgv s.leaf v1 v2 ∧ OwnV w base 9 v1 (mkT k s.once.length) ∧ OwnV w base 9 v2 (mkT (k + s.once.length) s.path.length)
theorem MkSgK.below {w w' : World} {base k : Nat} {v : Value} {s : Sg} (h : MkSgK w base v s k) (hb : Below w.heap.size w w') : MkSgK w' base v s k := by
  obtain ⟨v1, v2, e, h1, h2⟩ := h
  exact ⟨v1, v2, e, h1.below hb, h2.below hb⟩
def MkSg (w : World) (base : Nat) (v : Value) (s : Sg) : Prop := MkSgK w base v s 1
theorem MkSg.below {w w' : World} {base : Nat} {v : Value} {s : Sg} (h : MkSg w base v s) (hb : Below w.heap.size w w') : MkSg w' base v s := MkSgK.below h hb
set_option maxRecDepth 20000 in
set_option maxHeartbeats 400000 in
theorem markSigK_any (k : Nat) (hk1 : 1 ≤ k) (hk2 : k ≤ 10000000) (s : Sg) (v : Value) (base M : Nat) (w w0 : World) (hM : M = k + s.once.length + s.path.length) (ho : OwnSg w base v s) (hW : Below base w0 w) (hbw : base ≤ w.heap.size) (n1 : s.once.length ≤ 2000000) (n2 : s.path.length ≤ 2000000) :
    Calls Try.prog 19 #[v, .int .i64 (k : Int)] w fun e w' => e = .returned (.int .i64 (M : Int)) ∧ MkSgK w' base v s k ∧ Below base w0 w' ∧ (∀ g T cs, CB w g T cs → T ≠ 9 → CB w' g T cs) ∧ ∀ v1 v2, v = sgv s.leaf v1 v2 → ∀ (u : Value) (xs : List Value) (b : Nat), OwnV w b 9 u xs → (∀ j, u.ownBlock = some j → v1.ownBlock ≠ some j ∧ v2.ownBlock ≠ some j) → OwnV w' b 9 u xs := by
  obtain ⟨lf, l1, l2⟩ := s
  obtain ⟨v1, v2, rfl, o1, o2, ap⟩ := ho
  have hl1 : ((Sg.mk lf l1 l2).once.map sv).length = l1.length := by rw [List.length_map]
  have hl2 : ((Sg.mk lf l1 l2).path.map sv).length = l2.length := by rw [List.length_map]
  have C1 := hide (fun (W : World) (h : OwnV W base 9 v1 ((Sg.mk lf l1 l2).once.map sv)) => markStrS_own v1 base k (k + l1.length) ((Sg.mk lf l1 l2).once.map sv) W (by rw [hl1]) (by rw [hl1]; exact n1) hk1 (by omega) h)
  have C2 := hide (fun (W : World) (h : OwnV W base 9 v2 ((Sg.mk lf l1 l2).path.map sv)) => markStrS_own v2 base (k + l1.length) M ((Sg.mk lf l1 l2).path.map sv) W (by rw [hl2]; exact hM) (by rw [hl2]; exact n2) (by omega) (by have : l1.length ≤ 2000000 := n1; omega) h)
  rw [hl1] at C1
  rw [hl2] at C2
  have lo1 := hide (fun j (hj : v1.ownBlock = some j) => o1.lt j hj)
  have lo2 := hide (fun j (hj : v2.ownBlock = some j) => o2.lt j hj)
  have s1 := o1.shape
  have s2 := o2.shape
  rw [hl1] at s1
  rw [hl2] at s2
  obtain ⟨a1, c1, rfl⟩ := s1
  obtain ⟨a2, c2, rfl⟩ := s2
  unfold sgv
  replace o1 := hide o1; replace o2 := hide o2; replace ap := hide ap; replace hM := hide hM
  clear hl1 hl2 n1 n2
  show Calls _ _ _ _ fun e w' => e = .returned (.int .i64 (M : Int)) ∧ MkSgK w' base (sgv lf (.slice a1 l1.length c1) (.slice a2 l2.length c2)) ⟨lf, l1, l2⟩ k ∧ Below base w0 w' ∧ (∀ g T cs, CB w g T cs → T ≠ 9 → CB w' g T cs) ∧ ∀ v1 v2, sgv lf (.slice a1 l1.length c1) (.slice a2 l2.length c2) = sgv lf v1 v2 → ∀ (u : Value) (xs : List Value) (b : Nat), OwnV w b 9 u xs → (∀ j, u.ownBlock = some j → v1.ownBlock ≠ some j ∧ v2.ownBlock ≠ some j) → OwnV w' b 9 u xs
  have HV := hide (show ∀ v1 v2, sgv lf (.slice a1 l1.length c1) (.slice a2 l2.length c2) = sgv lf v1 v2 → v1 = .slice a1 l1.length c1 ∧ v2 = .slice a2 l2.length c2 from fun v1 v2 e => by unfold sgv at e; injection e with e; simp at e; exact ⟨e.1.symm, e.2.symm⟩)
  have HF := hide (fun (W : World) (h1 : OwnV W base 9 (.slice a1 l1.length c1) (mkT k l1.length)) (h2 : OwnV W base 9 (.slice a2 l2.length c2) (mkT (k + l1.length) l2.length)) => show MkSgK W base (sgv lf (.slice a1 l1.length c1) (.slice a2 l2.length c2)) ⟨lf, l1, l2⟩ k from ⟨_, _, rfl, h1, h2⟩)
  obtain ⟨q, hq⟩ : ∃ q, k + l1.length = q := ⟨_, rfl⟩
  rw [hq] at C1 C2 HF
  replace hq := hide hq
  generalize l1.length = m1 at *
  generalize l2.length = m2 at *
  go_enter Try.func19, Try.ntmps19
  go_wp2_with fail
  obtain ⟨W, hW1, hP, hB, hs⟩ := one_cb w #[.int .i64 lf, .slice a1 m1 c1, .slice a2 m2 c2] 27
  rw [hW1]
  clear hW1
  have o1' := (unhide o1).below hB
  have o2' := (unhide o2).below hB
  have hBW := hW.trans (hB.mono hbw)
  have off1 := hide (hP.off o1' (by decide))
  have KC := hide (fun gg T cs (h : CB w gg T cs) (hT : T ≠ 9) => show CB W gg T cs from h.step hB)
  refine (unhide C1 W o1').mono ?_
  rintro e w1 ⟨rfl, o3, hg3⟩
  have o4 := hide (o2'.grown hg3 (fun j hj e => unhide ap j e hj))
  have KC2 := hide (fun gg T cs (h : CB w gg T cs) (hT : T ≠ 9) => show CB w1 gg T cs from (unhide KC gg T cs h hT).grown hg3 ((unhide KC gg T cs h hT).off o1' hT))
  have KO := hide (unhide o4)
  have KU := hide (fun (u : Value) (xs : List Value) (b : Nat) (h : OwnV w b 9 u xs) (hap : ∀ j, u.ownBlock = some j → (Value.slice a1 m1 c1).ownBlock ≠ some j ∧ (Value.slice a2 m2 c2).ownBlock ≠ some j) => show OwnV w1 b 9 u xs from (h.below hB).grown hg3 (fun j hj e => (hap j hj).1 e))
  clear KC
  have hP1 := hP.grown hg3 (unhide off1)
  have hB1 := hBW.grown hg3 (by omega) (fun j hj => (unhide lo1 j hj).1)
  have d2 := hP1.cell 2 (v := .slice a2 m2 c2) rfl
  have hsz1 := hg3.size
  replace C2 := hide (unhide C2 w1 (unhide o4))
  replace o3 := hide o3
  clear hg3 hP hP1 C1 hB hBW off1 o1' o2' o4
  go_wp2_with fail
  refine (unhide C2).mono ?_
  rintro e w2 ⟨rfl, o5, hg5⟩
  have hB2 := hB1.grown hg5 (by omega) (fun j hj => (unhide lo2 j hj).1)
  have KC3 := hide (fun gg T cs (h : CB w gg T cs) (hT : T ≠ 9) => show CB w2 gg T cs from (unhide KC2 gg T cs h hT).grown hg5 ((unhide KC2 gg T cs h hT).off (unhide KO) hT))
  have KU3 := hide (show ∀ v1 v2, sgv lf (.slice a1 m1 c1) (.slice a2 m2 c2) = sgv lf v1 v2 → ∀ (u : Value) (xs : List Value) (b : Nat), OwnV w b 9 u xs → (∀ j, u.ownBlock = some j → v1.ownBlock ≠ some j ∧ v2.ownBlock ≠ some j) → OwnV w2 b 9 u xs from fun v1 v2 e u xs b h hap => by
    obtain ⟨rfl, rfl⟩ := unhide HV v1 v2 e
    exact (unhide KU u xs b h hap).grown hg5 (fun j hj e => (hap j hj).2 e))
  clear KC2 KO KU HV
  have o6 := (unhide o3).grown hg5 (fun j hj e => unhide ap j hj e)
  have HR := hide (unhide HF w2 o6 o5)
  clear hg5 C2 d2 hB1 o5 o6 o3 HF
  go_wp2
  go_ret
  exact ⟨rfl, unhide HR, hB2, unhide KC3, unhide KU3⟩
theorem markSig_any (s : Sg) (v : Value) (base M : Nat) (w w0 : World) (hM : M = 1 + s.once.length + s.path.length) (ho : OwnSg w base v s) (hW : Below base w0 w) (hbw : base ≤ w.heap.size) (n1 : s.once.length ≤ 2000000) (n2 : s.path.length ≤ 2000000) :
    Calls Try.prog 19 #[v, .int .i64 1] w fun e w' => e = .returned (.int .i64 (M : Int)) ∧ MkSg w' base v s ∧ Below base w0 w' ∧ ∀ g T cs, CB w g T cs → T ≠ 9 → CB w' g T cs :=
  (markSigK_any 1 (Nat.le_refl _) (by omega) s v base M w w0 hM ho hW hbw n1 n2).mono fun _ _ ⟨h1, h2, h3, h4, _⟩ => ⟨h1, h2, h3, h4⟩
set_option maxRecDepth 20000 in
set_option maxHeartbeats 400000 in
theorem heldSigK_any (k : Nat) (hk1 : 1 ≤ k) (hk2 : k ≤ 10000000) (s : Sg) (v : Value) (base M : Nat) (w : World) (hM : M = k + s.once.length + s.path.length) (ho : MkSgK w base v s k) (n1 : s.once.length ≤ 2000000) (n2 : s.path.length ≤ 2000000) :
    Calls Try.prog 20 #[v, .int .i64 (k : Int)] w fun e w' => e = .returned (.int .i64 (M : Int)) ∧ Below w.heap.size w w' := by
  obtain ⟨lf, l1, l2⟩ := s
  obtain ⟨v1, v2, rfl, o1, o2⟩ := ho
  have C1 := hide (fun (W : World) (h : Below w.heap.size w W) => heldStrS_any v1 k l1.length (k + l1.length) W rfl n1 hk1 (by omega) (o1.rdv.below h))
  have C2 := hide (fun (W : World) (h : Below w.heap.size w W) => heldStrS_any v2 (k + l1.length) l2.length M W hM n2 (by omega) (by have : l1.length ≤ 2000000 := n1; omega) (o2.rdv.below h))
  have s1 := o1.shape
  have s2 := o2.shape
  rw [mkT_len] at s1 s2
  obtain ⟨a1, c1, rfl⟩ := s1
  obtain ⟨a2, c2, rfl⟩ := s2
  have hq0 : 0 ≤ ((k + l1.length : Nat) : Int) := by omega
  have hM0 : 0 ≤ (M : Int) := by omega
  obtain ⟨q, hq⟩ : ∃ q, k + l1.length = q := ⟨_, rfl⟩
  rw [hq] at C1 C2 hq0
  replace hq := hide hq
  replace hM := hide hM
  unfold sgv
  clear o1 o2 n1 n2
  show Calls _ _ #[.agg #[.int .i64 lf, .slice a1 l1.length c1, .slice a2 l2.length c2], _] _ _
  generalize l1.length = m1 at *
  generalize l2.length = m2 at *
  have hq' : ¬ (q : Int) < 0 := by omega
  have hM' : ¬ (M : Int) < 0 := by omega
  go_enter Try.func20, Try.ntmps20
  go_wp2_with fail
  obtain ⟨W, hW1, hP, hB, hs⟩ := one_cb w #[.int .i64 lf, .slice a1 m1 c1, .slice a2 m2 c2] 27
  rw [hW1]
  clear hW1
  refine (unhide C1 W hB).mono ?_
  rintro e w1 ⟨rfl, hb1⟩
  have hB1 := hB.trans (hb1.mono hB.size)
  have d2 := (hP.step hb1).cell 2 (v := .slice a2 m2 c2) rfl
  replace C2 := hide (unhide C2 w1 hB1)
  clear hb1 hP C1 hB
  go_wp2_with fail
  refine (unhide C2).mono ?_
  rintro e w2 ⟨rfl, hb2⟩
  have hB2 := hB1.trans (hb2.mono hB1.size)
  clear hb2 C2 d2 hB1
  go_wp2
  go_ret
  exact ⟨rfl, hB2⟩
theorem heldSig_any (s : Sg) (v : Value) (base M : Nat) (w : World) (hM : M = 1 + s.once.length + s.path.length) (ho : MkSg w base v s) (n1 : s.once.length ≤ 2000000) (n2 : s.path.length ≤ 2000000) :
    Calls Try.prog 20 #[v, .int .i64 1] w fun e w' => e = .returned (.int .i64 (M : Int)) ∧ Below w.heap.size w w' :=
  heldSigK_any 1 (Nat.le_refl _) (by omega) s v base M w hM ho n1 n2
theorem sgv_inj {a b : Int} {v1 v2 u1 u2 : Value} (h : sgv a v1 v2 = sgv b u1 u2) : v1 = u1 ∧ v2 = u2 := by
  unfold sgv at h
  injection h with h
  simp at h
  exact h.2
theorem OwnSg.rows {w : World} {base : Nat} {lf : Int} {v1 v2 : Value} {s : Sg} (h : OwnSg w base (sgv lf v1 v2) s) : OwnV w base 9 v1 (s.once.map sv) ∧ OwnV w base 9 v2 (s.path.map sv) ∧ ∀ k, v1.ownBlock = some k → v2.ownBlock ≠ some k := by
  obtain ⟨u1, u2, e, h1, h2, h3⟩ := h
  obtain ⟨rfl, rfl⟩ := sgv_inj e
  exact ⟨h1, h2, h3⟩
theorem gR9 (w : World) (r : Option Nat) : w.grownBy w r := ⟨rfl, rfl, rfl, Nat.le_refl _, fun _ _ _ => rfl⟩
theorem gSet {a b : World} {g : Nat} (h : a.grownBy b (some g)) (k : Nat) (u : Value) : a.grownBy (b.setCell ⟨g, k, none⟩ u) (some g) := tT h (tS b g k u)
theorem OwnSg.grownO {w w' : World} {base g : Nat} {lf : Int} {v1 v2 : Value} {s : Sg} (h : OwnSg w base (sgv lf v1 v2) s) (hG : w.grownBy w' (some g)) (h1 : v1.ownBlock ≠ some g) (h2 : v2.ownBlock ≠ some g) : OwnSg w' base (sgv lf v1 v2) s := by
  obtain ⟨u1, u2, e, q1, q2, q3⟩ := h
  obtain ⟨rfl, rfl⟩ := sgv_inj e
  exact ⟨_, _, e, q1.grown hG (fun k hk e => h1 (by rw [hk, e])), q2.grown hG (fun k hk e => h2 (by rw [hk, e])), q3⟩
theorem OwnSg.offs {w : World} {base g : Nat} {T : TypeId} {cs : Array Value} {lf : Int} {v1 v2 : Value} {s : Sg} (h : OwnSg w base (sgv lf v1 v2) s) (hA : CB w g T cs) (hT : T ≠ 9) : v1.ownBlock ≠ some g ∧ v2.ownBlock ≠ some g :=
  ⟨hA.off h.rows.1 hT, hA.off h.rows.2.1 hT⟩
theorem OwnSg.bounds {w : World} {base : Nat} {lf : Int} {v1 v2 : Value} {s : Sg} (h : OwnSg w base (sgv lf v1 v2) s) : ∀ k, (v1.ownBlock = some k ∨ v2.ownBlock = some k) → base ≤ k ∧ k < w.heap.size := fun k hk => hk.elim (fun e => h.rows.1.lt k e) (fun e => h.rows.2.1.lt k e)
end Go.Proofs.Ytjgnjjphankhnab

/- Parts put behind one another, and their digest, over the loaded program. -/
namespace Go.Proofs.Ytjgnjjphankhnab
open Go.RowKit
theorem join_flat (xs : List (List UInt8)) : Lib.join xs [] = xs.flatten := by
  unfold Lib.join
  induction xs with
  | nil => rfl
  | cons x xs ih =>
    cases xs with
    | nil => simp [List.intercalate]
    | cons y ys =>
      have e : [].intercalate (x :: y :: ys) = x ++ ([] ++ [].intercalate (y :: ys)) := by simp [List.intercalate, List.intersperse]
      rw [e, ih]
      rfl
theorem barr_eq {a b : ByteArray} (h : a.data.toList = b.data.toList) : a = b := ByteArray.ext (Array.toList_inj.1 h)
set_option maxRecDepth 20000 in
set_option maxHeartbeats 400000 in
theorem digParts_any (bk o c n : Nat) (xs : List ByteArray) (hn : xs.length = n) (T : ByteArray) (hT : T.data.toList = (xs.map (·.data.toList)).flatten) (hTs : T.size ≤ 4000000) (w : World) (hcells : ∀ (j : Nat) x, xs[j]? = some x → w.cell? ⟨bk, o + j, none⟩ = some (.string x)) (hbk : bk < w.heap.size) (hcap : n ≤ c) (hN : n ≤ 1000) :
    Calls Try.prog 80 #[.slice (some ⟨bk, o, none⟩) n c] w fun e w' => e = .returned (.string (digB T)) ∧ Below w.heap.size w w' := by
  subst hn
  have hj : (⟨(Lib.join (xs.map (·.data.toList)) (⟨#[]⟩ : ByteArray).data.toList).toArray⟩ : ByteArray) = T := by
    apply barr_eq
    rw [hT]
    exact join_flat _
  have hz : (Lib.join (xs.map (·.data.toList)) (⟨#[]⟩ : ByteArray).data.toList).length ≤ 140737488355328 := by
    have e : (Lib.join (xs.map (·.data.toList)) (⟨#[]⟩ : ByteArray).data.toList) = T.data.toList := by rw [← hj]
    rw [e]
    show T.size ≤ _
    omega
  have CJ := hide (Try.strings_Join bk o c xs ⟨#[]⟩ w hcells hbk (by omega) hcap hz)
  rw [hj] at CJ
  have CD := hide (fun W => implDigest_any T hTs W)
  rw [show endV (blocksW first8 T 0 (T.size / 64)) (T.extract (64 * (T.size / 64)) T.size) T.size = digB T from rfl] at CD
  clear hz hj hT hcells
  generalize digB T = d at *
  go_enter Try.func80, Try.ntmps80
  go_wp2_with fail
  refine (unhide CJ).mono ?_
  rintro e w1 ⟨rfl, hb1⟩
  go_wp2_with fail
  refine ((unhide CD) w1).mono ?_
  rintro e w2 ⟨rfl, hb2⟩
  have hb12 := hb1.trans (hb2.mono hb1.size)
  clear hb1 hb2
  go_wp2
  go_ret
  exact ⟨rfl, hb12⟩
end Go.Proofs.Ytjgnjjphankhnab

