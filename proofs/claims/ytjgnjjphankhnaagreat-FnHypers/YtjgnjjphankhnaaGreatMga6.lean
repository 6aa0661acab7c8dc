/- Merged: Chn0, Tre0, Sig0, SgH, Hyp0, HyH, Dpt, ChI1, Chn1, Apw. -/
import Derived.Test.YtjgnjjphankhnaaGreatMga1
import Derived.Test.YtjgnjjphankhnaaGreatMga2
import Derived.Test.YtjgnjjphankhnaaGreatMga3
import Derived.Test.YtjgnjjphankhnaaGreatMga4
import Derived.Test.YtjgnjjphankhnaaGreatMga5
import Derived.Laws.DeepStrings4
/- Chains, reckoned: what is chopped, chains, digits, keys for once. -/
namespace Go.Proofs.YtjgnjjphankhnaaGreat
open Go.RowKit
theorem digB_size0 (s : ByteArray) : (digB s).size = 32 := V8.text_size _
def chopB (s : ByteArray) : ByteArray := (digB s).extract 0 4
theorem chopB_size (s : ByteArray) : (chopB s).size = 4 := by
  have h := digB_size0 s
  unfold chopB
  rw [ByteArray.size_extract, h]
  rfl
/-- The text x behind k steps of a chain. -/
def chnB (x : ByteArray) (leaf chain frm : Int) : Nat → ByteArray
  | 0 => x
  | k + 1 => chopB (oneY leaf ++ oneY chain ++ oneY (frm.tmod 256 + (k : Int)) ++ chnB x leaf chain frm k)
def stepsN (z : Int) : Nat := if z ≤ 15 then z.toNat else 15
theorem stepsN_le (z : Int) : stepsN z ≤ 15 := by unfold stepsN; split <;> omega
theorem oneY_size (z : Int) : (oneY z).size = 1 := rfl
theorem chnB_size (x : ByteArray) (leaf chain frm : Int) (k : Nat) (h : x.size ≤ 1048576) : (chnB x leaf chain frm k).size ≤ 1048576 := by
  cases k with
  | zero => exact h
  | succ k => show (chopB _).size ≤ _; rw [chopB_size]; omega
/-- The digit i of the digits of m. -/
def byA (s : ByteArray) (i : Nat) : Nat := (s.data.getD i 0).toNat
def dgN (s : ByteArray) (i : Nat) : Nat := if i % 2 = 0 then byA s (i / 2) / 16 else byA s (i / 2) % 16
/-- How much is left of the first k pairs of digits. -/
def lfN (s : ByteArray) : Nat → Nat
  | 0 => 0
  | k + 1 => lfN s k + 30 - byA s k / 16 - byA s k % 16
def digL (m : ByteArray) : List Int := preL (fun i => (dgN (chopB m) i : Int)) 8 ++ [((lfN (chopB m) 4 / 16 : Nat) : Int), ((lfN (chopB m) 4 % 16 : Nat) : Int)]
theorem byA_lt (s : ByteArray) (i : Nat) : byA s i < 256 := UInt8.toNat_lt _
theorem digL_len (m : ByteArray) : (digL m).length = 10 := by unfold digL; rw [List.length_append, preL_len]; rfl
theorem lfN_le (s : ByteArray) (k : Nat) : lfN s k ≤ 30 * k := by
  induction k with
  | zero => exact Nat.le_refl _
  | succ k ih => show lfN s k + 30 - byA s k / 16 - byA s k % 16 ≤ _; omega
/-- The digit i, as a number. -/
def dgAt (m : ByteArray) (i : Nat) : Nat := if i < 8 then dgN (chopB m) i else if i = 8 then lfN (chopB m) 4 / 16 else lfN (chopB m) 4 % 16
theorem digL_at (m : ByteArray) (i : Nat) (h : i < 10) : (digL m)[i]? = some (dgAt m i : Int) := by
  unfold digL dgAt
  by_cases h8 : i < 8
  · rw [List.getElem?_append_left (by rw [preL_len]; exact h8), if_pos h8]
    unfold preL
    rw [List.getElem?_map, List.getElem?_range h8]
    rfl
  · rw [List.getElem?_append_right (by rw [preL_len]; omega), preL_len, if_neg h8]
    have h9 : i = 8 ∨ i = 9 := by omega
    rcases h9 with rfl | rfl
    · rfl
    · rfl
theorem dgAt_le (m : ByteArray) (i : Nat) : dgAt m i ≤ 15 := by
  unfold dgAt dgN
  have h1 := byA_lt (chopB m) (i / 2)
  have h2 := lfN_le (chopB m) 4
  split
  · split <;> omega
  · split <;> omega
def keyO (seed : ByteArray) (leaf : Int) (i : Nat) : ByteArray := chopB (seed ++ oneY leaf ++ oneY (i : Int) ++ ⟨#[111]⟩)
def keysO (seed : ByteArray) (leaf : Int) : List ByteArray := (List.range 10).map (keyO seed leaf)
def bAt (l : List ByteArray) (i : Nat) : ByteArray := l.getD i ⟨#[]⟩
/-- The texts f 0 .. f (k - 1), one behind the other. -/
def catC (f : Nat → ByteArray) : Nat → ByteArray
  | 0 => ⟨#[]⟩
  | k + 1 => catC f k ++ f k
def onceP (l : List ByteArray) (leaf : Int) : ByteArray := if l.length = 10 then chopB (catC (fun i => chnB (bAt l i) leaf (i : Int) 0 15) 10) else ⟨#[]⟩
def onceS (l : List ByteArray) (leaf : Int) (m : ByteArray) : List ByteArray := if l.length = 10 then (List.range 10).map (fun i => chnB (bAt l i) leaf (i : Int) 0 (dgAt m i)) else []
def onceF (l : List ByteArray) (leaf : Int) (m : ByteArray) : ByteArray := if l.length = 10 then chopB (catC (fun i => chnB (bAt l i) leaf (i : Int) (dgAt m i : Int) (15 - dgAt m i)) 10) else ⟨#[]⟩
/-- A chain goes on where it stopped. -/
theorem chn_on (x : ByteArray) (leaf chain : Int) (a b : Nat) (ha : a < 256) : chnB (chnB x leaf chain 0 a) leaf chain (a : Int) b = chnB x leaf chain 0 (a + b) := by
  induction b with
  | zero => rfl
  | succ b ih =>
    show chopB (oneY leaf ++ oneY chain ++ oneY ((a : Int).tmod 256 + (b : Int)) ++ chnB (chnB x leaf chain 0 a) leaf chain (a : Int) b) = chopB (oneY leaf ++ oneY chain ++ oneY ((0 : Int).tmod 256 + ((a + b : Nat) : Int)) ++ chnB x leaf chain 0 (a + b))
    rw [ih, Int.tmod_eq_emod_of_nonneg (by omega), show (0 : Int).tmod 256 = 0 from rfl, show (a : Int) % 256 + (b : Int) = 0 + ((a + b : Nat) : Int) by omega]
theorem catC_congr {f g : Nat → ByteArray} (k : Nat) (h : ∀ i, i < k → f i = g i) : catC f k = catC g k := by
  induction k with
  | zero => rfl
  | succ k ih => show catC f k ++ f k = catC g k ++ g k; rw [ih fun i hi => h i (by omega), h k (by omega)]
/-- What is signed is found to be of its key. -/
theorem once_found (l : List ByteArray) (leaf : Int) (m : ByteArray) (hl : l.length = 10) : onceF (onceS l leaf m) leaf m = onceP l leaf := by
  have hs : onceS l leaf m = (List.range 10).map (fun i => chnB (bAt l i) leaf (i : Int) 0 (dgAt m i)) := by unfold onceS; rw [if_pos hl]
  have hsl : (onceS l leaf m).length = 10 := by rw [hs, List.length_map, List.length_range]
  unfold onceF onceP
  rw [if_pos hsl, if_pos hl]
  refine congrArg chopB (catC_congr 10 fun i hi => ?_)
  have hb : bAt (onceS l leaf m) i = chnB (bAt l i) leaf (i : Int) 0 (dgAt m i) := by
    rw [hs]
    unfold bAt
    rw [List.getD_eq_getElem?_getD, List.getElem?_map, List.getElem?_range hi]
    rfl
  have hd := dgAt_le m i
  rw [hb, chn_on _ _ _ _ _ (by omega), show dgAt m i + (15 - dgAt m i) = 15 by omega]
theorem catC_le (f : Nat → ByteArray) (n k : Nat) (h : ∀ i, (f i).size ≤ n) : (catC f k).size ≤ k * n := by
  induction k with
  | zero => exact Nat.zero_le _
  | succ k ih =>
    show (catC f k ++ f k).size ≤ _
    rw [ByteArray.size_append, Nat.succ_mul]
    have := h k
    omega
end Go.Proofs.YtjgnjjphankhnaaGreat

/- Trees, reckoned: nodes, levels, roots, paths. -/
namespace Go.Proofs.YtjgnjjphankhnaaGreat
open Go.RowKit
def nodeB (level place : Int) (a b : ByteArray) : ByteArray := chopB (oneY level ++ oneY place ++ a ++ b ++ ⟨#[110]⟩)
theorem nodeB_size (level place : Int) (a b : ByteArray) : (nodeB level place a b).size = 4 := chopB_size _
def lvN (level : Int) (l : List ByteArray) (i : Nat) : ByteArray := nodeB level (i : Int) (bAt l (2 * i)) (bAt l (2 * i + 1))
def lvL (level : Int) (l : List ByteArray) : List ByteArray := (List.range (l.length / 2)).map (lvN level l)
theorem lvL_len (level : Int) (l : List ByteArray) : (lvL level l).length = l.length / 2 := by unfold lvL; rw [List.length_map, List.length_range]
theorem lvL_at (level : Int) (l : List ByteArray) (i : Nat) (h : i < l.length / 2) : bAt (lvL level l) i = lvN level l i := by
  unfold bAt lvL
  rw [List.getD_eq_getElem?_getD, List.getElem?_map, List.getElem?_range h]
  rfl
theorem lvL_size (level : Int) (l : List ByteArray) : ∀ x ∈ lvL level l, x.size = 4 := by
  intro x hx
  unfold lvL at hx
  obtain ⟨i, _, rfl⟩ := List.mem_map.1 hx
  exact nodeB_size _ _ _ _
/-- The row behind k levels. -/
def lvs (l : List ByteArray) : Nat → List ByteArray
  | 0 => l
  | k + 1 => lvL ((k + 1 : Nat) : Int) (lvs l k)
theorem lvs_len (l : List ByteArray) (hl : l.length = 4) (k : Nat) : (lvs l k).length = 4 / 2 ^ k := by
  induction k with
  | zero => rw [Nat.pow_zero, Nat.div_one]; exact hl
  | succ k ih => show (lvL _ (lvs l k)).length = _; rw [lvL_len, ih, Nat.div_div_eq_div_mul, Nat.pow_succ]
theorem lvs_size (l : List ByteArray) (n : Nat) (hn : 4 ≤ n) (h : ∀ x ∈ l, x.size ≤ n) (k : Nat) : ∀ x ∈ lvs l k, x.size ≤ n := by
  cases k with
  | zero => exact h
  | succ k => intro x hx; rw [lvL_size _ _ x hx]; exact hn
def rootB (l : List ByteArray) : ByteArray := if l.length = 4 then bAt (lvs l 2) 0 else ⟨#[]⟩
/-- The other one of a pair. -/
def sibN (i : Nat) : Nat := if i % 2 = 1 then i - 1 else i + 1
def pthN (l : List ByteArray) (leaf k : Nat) : ByteArray := bAt (lvs l k) (sibN (leaf / 2 ^ k))
def pathL (l : List ByteArray) (leaf : Int) : List ByteArray := if l.length = 4 ∧ (0 ≤ leaf ∧ leaf ≤ 3) then (List.range 2).map (pthN l leaf.toNat) else []
def stpB (level : Int) (i : Nat) (x p : ByteArray) : ByteArray := if i % 2 = 1 then nodeB level ((i / 2 : Nat) : Int) p x else nodeB level ((i / 2 : Nat) : Int) x p
def rbB (x : ByteArray) (leaf : Nat) (path : List ByteArray) : Nat → ByteArray
  | 0 => x
  | k + 1 => stpB ((k + 1 : Nat) : Int) (leaf / 2 ^ k) (rbB x leaf path k) (bAt path k)
theorem rbB_size (x : ByteArray) (leaf : Nat) (path : List ByteArray) (k n : Nat) (hn : 4 ≤ n) (h : x.size ≤ n) : (rbB x leaf path k).size ≤ n := by
  cases k with
  | zero => exact h
  | succ k =>
    show (stpB _ _ _ _).size ≤ n
    unfold stpB
    split <;> rw [nodeB_size] <;> exact hn
def rootBy (x : ByteArray) (leaf : Int) (path : List ByteArray) : ByteArray := if path.length = 2 ∧ (0 ≤ leaf ∧ leaf ≤ 3) then rbB x leaf.toNat path 2 else ⟨#[]⟩
theorem pathL_len (l : List ByteArray) (leaf : Int) (hl : l.length = 4) (h : 0 ≤ leaf ∧ leaf ≤ 3) : (pathL l leaf).length = 2 := by unfold pathL; rw [if_pos ⟨hl, h⟩, List.length_map, List.length_range]
theorem pathL_at (l : List ByteArray) (leaf : Int) (hl : l.length = 4) (h : 0 ≤ leaf ∧ leaf ≤ 3) (k : Nat) (hk : k < 2) : bAt (pathL l leaf) k = pthN l leaf.toNat k := by
  unfold pathL bAt
  rw [if_pos ⟨hl, h⟩, List.getD_eq_getElem?_getD, List.getElem?_map, List.getElem?_range hk]
  rfl
/-- One step up the path is the node above. -/
theorem stp_up (l : List ByteArray) (hl : l.length = 4) (k i : Nat) (hk : k < 2) (hi : i < 4 / 2 ^ k) : stpB ((k + 1 : Nat) : Int) i (bAt (lvs l k) i) (bAt (lvs l k) (sibN i)) = bAt (lvs l (k + 1)) (i / 2) := by
  have hlen := lvs_len l hl k
  have h2 : i / 2 < (lvs l k).length / 2 := by
    rw [hlen]
    have : k = 0 ∨ k = 1 := by omega
    rcases this with rfl | rfl
    · rw [Nat.pow_zero, Nat.div_one] at hi ⊢; omega
    · rw [Nat.pow_one] at hi ⊢; omega
  show _ = bAt (lvL ((k + 1 : Nat) : Int) (lvs l k)) (i / 2)
  rw [lvL_at _ _ _ h2]
  unfold lvN stpB sibN
  by_cases h : i % 2 = 1
  · rw [if_pos h, if_pos h, show 2 * (i / 2) = i - 1 by omega, show i - 1 + 1 = i by omega]
  · rw [if_neg h, if_neg h, show 2 * (i / 2) = i by omega]
theorem rb_up (l : List ByteArray) (hl : l.length = 4) (leaf : Nat) (h : leaf < 4) (path : List ByteArray) (hp : ∀ k, k < 2 → bAt path k = pthN l leaf k) : ∀ k, k ≤ 2 → rbB (bAt l leaf) leaf path k = bAt (lvs l k) (leaf / 2 ^ k) := by
  intro k
  induction k with
  | zero => intro _; rw [Nat.pow_zero, Nat.div_one]; rfl
  | succ k ih =>
    intro hk
    show stpB ((k + 1 : Nat) : Int) (leaf / 2 ^ k) (rbB (bAt l leaf) leaf path k) (bAt path k) = _
    have hlt : leaf / 2 ^ k < 4 / 2 ^ k := by
      have : k = 0 ∨ k = 1 := by omega
      rcases this with rfl | rfl
      · rw [Nat.pow_zero, Nat.div_one]; omega
      · rw [Nat.pow_one]; omega
    rw [ih (by omega), hp k (by omega), pthN, stp_up l hl k _ (by omega) hlt, Nat.div_div_eq_div_mul, Nat.pow_succ]
/-- A path with its leaf makes the root. -/
theorem root_by (l : List ByteArray) (hl : l.length = 4) (leaf : Nat) (h : leaf < 4) : rootBy (bAt l leaf) (leaf : Int) (pathL l (leaf : Int)) = rootB l := by
  have h03 : (0 : Int) ≤ (leaf : Int) ∧ (leaf : Int) ≤ 3 := by omega
  unfold rootBy rootB
  rw [if_pos ⟨pathL_len l _ hl h03, h03⟩, if_pos hl, Int.toNat_natCast, rb_up l hl leaf h _ (fun k hk => by rw [pathL_at l _ hl h03 k hk, Int.toNat_natCast]) 2 (by omega)]
  rw [show leaf / 2 ^ 2 = 0 by rw [show (2 : Nat) ^ 2 = 4 from rfl]; omega]
end Go.Proofs.YtjgnjjphankhnaaGreat

/- Keys of a tree, reckoned: leaves, signatures, whether they are right, their texts. -/
namespace Go.Proofs.YtjgnjjphankhnaaGreat
open Go.RowKit
structure Sg where
  leaf : Int
  once : List ByteArray
  path : List ByteArray
def lefO (seed : ByteArray) (i : Nat) : ByteArray := onceP (keysO seed (i : Int)) (i : Int)
def lvsO (seed : ByteArray) : List ByteArray := (List.range 4).map (lefO seed)
theorem lvsO_len (seed : ByteArray) : (lvsO seed).length = 4 := by unfold lvsO; rw [List.length_map, List.length_range]
theorem keysO_len (seed : ByteArray) (leaf : Int) : (keysO seed leaf).length = 10 := by unfold keysO; rw [List.length_map, List.length_range]
theorem keysO_size (seed : ByteArray) (leaf : Int) : ∀ x ∈ keysO seed leaf, x.size = 4 := by
  intro x hx
  unfold keysO at hx
  obtain ⟨i, _, rfl⟩ := List.mem_map.1 hx
  exact chopB_size _
theorem onceP_size (l : List ByteArray) (leaf : Int) (h : l.length = 10) : (onceP l leaf).size = 4 := by unfold onceP; rw [if_pos h]; exact chopB_size _
theorem lefO_size (seed : ByteArray) (i : Nat) : (lefO seed i).size = 4 := onceP_size _ _ (keysO_len _ _)
theorem lvsO_size (seed : ByteArray) : ∀ x ∈ lvsO seed, x.size = 4 := by
  intro x hx
  unfold lvsO at hx
  obtain ⟨i, _, rfl⟩ := List.mem_map.1 hx
  exact lefO_size _ _
theorem bAt_map (f : Nat → ByteArray) (n i : Nat) (h : i < n) : bAt ((List.range n).map f) i = f i := by
  unfold bAt
  rw [List.getD_eq_getElem?_getD, List.getElem?_map, List.getElem?_range h]
  rfl
def pubO (seed : ByteArray) : ByteArray := rootB (lvsO seed)
def sgnS (seed : ByteArray) (leaf : Int) (m : ByteArray) : Sg := if 0 ≤ leaf ∧ leaf ≤ 3 then ⟨leaf, onceS (keysO seed leaf) leaf m, pathL (lvsO seed) leaf⟩ else ⟨0, [], []⟩
def four (l : List ByteArray) : Bool := l.all fun x => decide (x.size = 4)
theorem four_yes {l : List ByteArray} (h : four l = true) : ∀ x ∈ l, x.size = 4 := fun x hx => by
  have := List.all_eq_true.1 h x hx
  simpa using this
theorem four_of {l : List ByteArray} (h : ∀ x ∈ l, x.size = 4) : four l = true := List.all_eq_true.2 fun x hx => by simpa using h x hx
theorem four_no {l : List ByteArray} (k : Nat) (hk : k < l.length) (h : ¬ (bAt l k).size = 4) : four l = false := by
  cases e : four l with
  | false => rfl
  | true =>
    refine absurd (four_yes e (bAt l k) ?_) h
    unfold bAt
    rw [List.getD_eq_getElem?_getD, List.getElem?_eq_getElem hk]
    exact List.getElem_mem hk
theorem four_bAt {l : List ByteArray} (h : ∀ k, k < l.length → (bAt l k).size = 4) : four l = true := four_of fun x hx => by
  obtain ⟨k, hk, rfl⟩ := List.mem_iff_getElem.1 hx
  have := h k hk
  unfold bAt at this
  rw [List.getD_eq_getElem?_getD, List.getElem?_eq_getElem hk] at this
  exact this
theorem bAt_four {l : List ByteArray} (h : four l = true) (k : Nat) (hk : k < l.length) : (bAt l k).size = 4 := by
  refine four_yes h _ ?_
  unfold bAt
  rw [List.getD_eq_getElem?_getD, List.getElem?_eq_getElem hk]
  exact List.getElem_mem hk
def sgShape (s : Sg) : Prop := (0 ≤ s.leaf ∧ s.leaf ≤ 3) ∧ s.once.length = 10 ∧ s.path.length = 2
def sgSh (s : Sg) : Bool := decide ((0 ≤ s.leaf ∧ s.leaf ≤ 3) ∧ s.once.length = 10 ∧ s.path.length = 2)
def sgOk (s : Sg) : Bool := sgSh s && (four s.once && four s.path)
theorem sgOk_shape {s : Sg} (h : sgOk s = true) : sgShape s := by unfold sgOk at h; rw [Bool.and_eq_true] at h; have h1 := h.1; unfold sgSh at h1; have h2 := of_decide_eq_true h1; exact h2
theorem sgOk_once {s : Sg} (h : sgOk s = true) : four s.once = true := by unfold sgOk at h; rw [Bool.and_eq_true, Bool.and_eq_true] at h; exact h.2.1
theorem sgOk_path {s : Sg} (h : sgOk s = true) : four s.path = true := by unfold sgOk at h; rw [Bool.and_eq_true, Bool.and_eq_true] at h; exact h.2.2
theorem sgSh_of {s : Sg} (h : sgShape s) : sgSh s = true := by unfold sgSh; exact decide_eq_true h
theorem sgSh_no {s : Sg} (h : ¬ sgShape s) : sgSh s = false := by unfold sgSh; exact decide_eq_false h
theorem sgOk_of {s : Sg} (h1 : sgShape s) (h2 : four s.once = true) (h3 : four s.path = true) : sgOk s = true := by unfold sgOk; rw [sgSh_of h1, h2, h3]; rfl
theorem sgOk_no1 {s : Sg} (h : ¬ sgShape s) : sgOk s = false := by unfold sgOk; rw [sgSh_no h]; rfl
theorem sgOk_no2 {s : Sg} (h : four s.once = false) : sgOk s = false := by unfold sgOk; rw [h]; cases sgSh s <;> rfl
theorem sgOk_no3 {s : Sg} (h : four s.path = false) : sgOk s = false := by unfold sgOk; rw [h]; cases sgSh s <;> cases four s.once <;> rfl
def fndB (m : ByteArray) (s : Sg) : ByteArray := rootBy (onceF s.once s.leaf m) s.leaf s.path
def chkB (p m : ByteArray) (s : Sg) : Bool := sgOk s && decide (fndB m s = p)
/-- The texts f 0 .. f (k - 1), one behind the other, behind t. -/
def catT (t : ByteArray) (f : Nat → ByteArray) : Nat → ByteArray
  | 0 => t
  | k + 1 => catT t f k ++ f k
theorem catT_size (t : ByteArray) (f : Nat → ByteArray) (n : Nat) (h : ∀ i, i < n → (f i).size = 4) (k : Nat) (hk : k ≤ n) : (catT t f k).size = t.size + 4 * k := by
  induction k with
  | zero => rfl
  | succ k ih =>
    show (catT t f k ++ f k).size = _
    rw [ByteArray.size_append, ih (by omega), h k (by omega)]
    omega
theorem catT_part (t : ByteArray) (f : Nat → ByteArray) (n : Nat) (h : ∀ i, i < n → (f i).size = 4) (k : Nat) (hk : k ≤ n) (i : Nat) (hi : i < k) : (catT t f k).extract (t.size + 4 * i) (t.size + 4 * (i + 1)) = f i := by
  induction k with
  | zero => omega
  | succ k ih =>
    show (catT t f k ++ f k).extract _ _ = _
    have hs := catT_size t f n h k (by omega)
    rw [ByteArray.extract_append, hs]
    by_cases e : i = k
    · subst e
      have h1 : (catT t f i).extract (t.size + 4 * i) (t.size + 4 * (i + 1)) = ByteArray.empty := ByteArray.extract_eq_empty_iff.2 (by rw [hs]; omega)
      have h2 : (f i).extract (t.size + 4 * i - (t.size + 4 * i)) (t.size + 4 * (i + 1) - (t.size + 4 * i)) = f i := by
        rw [Nat.sub_self, show t.size + 4 * (i + 1) - (t.size + 4 * i) = (f i).size by rw [h i (by omega)]; omega]
        exact ByteArray.extract_zero_size
      rw [h1, h2, ByteArray.empty_append]
    · have h2 : (f k).extract (t.size + 4 * i - (t.size + 4 * k)) (t.size + 4 * (i + 1) - (t.size + 4 * k)) = ByteArray.empty := ByteArray.extract_eq_empty_iff.2 (by omega)
      rw [h2, ByteArray.append_empty, ih (by omega) (by omega)]
theorem catT_head (t : ByteArray) (f : Nat → ByteArray) (k : Nat) (a b : Nat) (hb : b ≤ t.size) : (catT t f k).extract a b = t.extract a b := by
  induction k with
  | zero => rfl
  | succ k ih =>
    show (catT t f k ++ f k).extract _ _ = _
    have hs : t.size ≤ (catT t f k).size := by
      clear ih
      induction k with
      | zero => exact Nat.le_refl _
      | succ k ih => show _ ≤ (catT t f k ++ f k).size; rw [ByteArray.size_append]; omega
    have h2 : (f k).extract (a - (catT t f k).size) (b - (catT t f k).size) = ByteArray.empty := ByteArray.extract_eq_empty_iff.2 (by omega)
    rw [ByteArray.extract_append, h2, ByteArray.append_empty, ih]
def sgT (s : Sg) : ByteArray := if sgOk s = true then catT (catT (oneY s.leaf) (bAt s.once) 10) (bAt s.path) 2 else ⟨#[]⟩
/-- The part i of a text. -/
def prtB (t : ByteArray) (i : Nat) : ByteArray := t.extract (1 + i * 4) (1 + (i + 1) * 4)
def rdIn (t : ByteArray) : Prop := t.size = 49 ∧ byA t 0 < 4
def rdOk (t : ByteArray) : Bool := decide (t.size = 49 ∧ byA t 0 < 4)
theorem rdOk_of {t : ByteArray} (h : rdIn t) : rdOk t = true := by unfold rdOk; exact decide_eq_true h
theorem rdOk_in {t : ByteArray} (h : rdOk t = true) : rdIn t := by unfold rdOk at h; have h2 := of_decide_eq_true h; exact h2
def rdS (t : ByteArray) : Sg := if rdOk t = true then ⟨(byA t 0 : Int), (List.range 10).map (prtB t), (List.range 2).map fun i => prtB t (10 + i)⟩ else ⟨0, [], []⟩
theorem prtB_size (t : ByteArray) (h : t.size = 49) (i : Nat) (hi : i < 12) : (prtB t i).size = 4 := by unfold prtB; rw [ByteArray.size_extract, h]; omega
theorem rdS_ok {t : ByteArray} (h : rdIn t) : sgOk (rdS t) = true := by
  unfold rdS
  rw [if_pos (rdOk_of h)]
  refine sgOk_of ⟨⟨Int.natCast_nonneg _, ?_⟩, ?_, ?_⟩ ?_ ?_
  · have := h.2; show ((byA t 0 : Nat) : Int) ≤ 3; omega
  · show ((List.range 10).map _).length = 10; rw [List.length_map, List.length_range]
  · show ((List.range 2).map _).length = 2; rw [List.length_map, List.length_range]
  · refine four_of fun x hx => ?_
    obtain ⟨i, hi, rfl⟩ := List.mem_map.1 hx
    exact prtB_size t h.1 i (by have := List.mem_range.1 hi; omega)
  · refine four_of fun x hx => ?_
    obtain ⟨i, hi, rfl⟩ := List.mem_map.1 hx
    exact prtB_size t h.1 _ (by have := List.mem_range.1 hi; omega)
theorem ext_bAt {a b : List ByteArray} (n : Nat) (ha : a.length = n) (hb : b.length = n) (h : ∀ i, i < n → bAt a i = bAt b i) : a = b := by
  apply List.ext_getElem (by omega)
  intro i h1 h2
  have := h i (by omega)
  unfold bAt at this
  rw [List.getD_eq_getElem?_getD, List.getD_eq_getElem?_getD, List.getElem?_eq_getElem h1, List.getElem?_eq_getElem h2] at this
  exact this
theorem sgT_is {s : Sg} (h : sgOk s = true) : sgT s = catT (catT (oneY s.leaf) (bAt s.once) 10) (bAt s.path) 2 := by unfold sgT; rw [if_pos h]
theorem sgT_size {s : Sg} (h : sgOk s = true) : (sgT s).size = 49 := by
  obtain ⟨_, h1, h2⟩ := sgOk_shape h
  rw [sgT_is h, catT_size _ _ 2 (fun i hi => bAt_four (sgOk_path h) i (by omega)) 2 (Nat.le_refl _), catT_size _ _ 10 (fun i hi => bAt_four (sgOk_once h) i (by omega)) 10 (Nat.le_refl _), oneY_size]
theorem prt_sgT1 {s : Sg} (h : sgOk s = true) (i : Nat) (hi : i < 10) : prtB (sgT s) i = bAt s.once i := by
  obtain ⟨_, h1, h2⟩ := sgOk_shape h
  have hs := catT_size (oneY s.leaf) (bAt s.once) 10 (fun i hi => bAt_four (sgOk_once h) i (by omega)) 10 (Nat.le_refl _)
  rw [oneY_size] at hs
  unfold prtB
  rw [sgT_is h, catT_head _ _ _ _ _ (by rw [hs]; omega)]
  have := catT_part (oneY s.leaf) (bAt s.once) 10 (fun i hi => bAt_four (sgOk_once h) i (by omega)) 10 (Nat.le_refl _) i hi
  rw [oneY_size] at this
  rw [Nat.mul_comm i 4, Nat.mul_comm (i + 1) 4]
  exact this
theorem prt_sgT2 {s : Sg} (h : sgOk s = true) (i : Nat) (hi : i < 2) : prtB (sgT s) (10 + i) = bAt s.path i := by
  obtain ⟨_, h1, h2⟩ := sgOk_shape h
  have hs := catT_size (oneY s.leaf) (bAt s.once) 10 (fun i hi => bAt_four (sgOk_once h) i (by omega)) 10 (Nat.le_refl _)
  rw [oneY_size] at hs
  unfold prtB
  rw [sgT_is h]
  have := catT_part (catT (oneY s.leaf) (bAt s.once) 10) (bAt s.path) 2 (fun i hi => bAt_four (sgOk_path h) i (by omega)) 2 (Nat.le_refl _) i hi
  rw [hs] at this
  rw [show 1 + (10 + i) * 4 = 1 + 4 * 10 + 4 * i by omega, show 1 + (10 + i + 1) * 4 = 1 + 4 * 10 + 4 * (i + 1) by omega]
  exact this
theorem ext_one (t : ByteArray) (h : 0 < t.size) (b : ByteArray) : t.extract 0 1 = b → byA t 0 = byA b 0 := by
  intro e
  rw [← e]
  unfold byA
  rw [ByteArray.data_extract, Array.getD_eq_getD_getElem?, Array.getD_eq_getD_getElem?, Array.getElem?_extract]
  have hd : 0 < min 1 t.data.size := by have : 0 < t.data.size := h; omega
  rw [if_pos (by simpa using hd)]
theorem byA_oneY (z : Int) (h : 0 ≤ z ∧ z ≤ 255) : (byA (oneY z) 0 : Int) = z := by
  unfold byA oneY b256
  obtain ⟨n, rfl⟩ : ∃ n : Nat, z = n := ⟨z.toNat, by omega⟩
  simp
  omega
theorem byA_sgT {s : Sg} (h : sgOk s = true) : (byA (sgT s) 0 : Int) = s.leaf := by
  obtain ⟨⟨h0, h3⟩, _, _⟩ := sgOk_shape h
  have hz := sgT_size h
  have e : (sgT s).extract 0 1 = oneY s.leaf := by
    rw [sgT_is h]
    have hs := catT_size (oneY s.leaf) (bAt s.once) 10 (fun i hi => bAt_four (sgOk_once h) i (by have := (sgOk_shape h).2.1; omega)) 10 (Nat.le_refl _)
    rw [oneY_size] at hs
    rw [catT_head _ _ _ _ _ (by rw [hs]; omega), catT_head _ _ _ _ _ (by rw [oneY_size]; omega)]
    exact ByteArray.extract_zero_size
  rw [ext_one _ (by omega) _ e]
  exact byA_oneY _ (by omega)
theorem rdIn_sgT {s : Sg} (h : sgOk s = true) : rdIn (sgT s) := ⟨sgT_size h, by have := byA_sgT h; obtain ⟨⟨h0, h3⟩, _, _⟩ := sgOk_shape h; omega⟩
/-- What is written is read. -/
theorem rd_sgT {s : Sg} (h : sgOk s = true) : rdS (sgT s) = s := by
  obtain ⟨_, h1, h2⟩ := sgOk_shape h
  unfold rdS
  rw [if_pos (rdOk_of (rdIn_sgT h)), byA_sgT h]
  obtain ⟨lf, on, pt⟩ := s
  rw [Sg.mk.injEq]
  refine ⟨rfl, ext_bAt 10 (by rw [List.length_map, List.length_range]) h1 fun i hi => ?_, ext_bAt 2 (by rw [List.length_map, List.length_range]) h2 fun i hi => ?_⟩
  · rw [bAt_map _ _ _ hi]; exact prt_sgT1 h i hi
  · rw [bAt_map _ _ _ hi]; exact prt_sgT2 h i hi
theorem catT_prt (t : ByteArray) (k : Nat) (x : ByteArray) (hx : x = t.extract 0 1) : catT x (prtB t) k = t.extract 0 (1 + k * 4) := by
  induction k with
  | zero => rw [hx]; rfl
  | succ k ih =>
    show catT x (prtB t) k ++ prtB t k = _
    rw [ih]
    unfold prtB
    rw [ByteArray.extract_append_extract]
    congr 1 <;> omega
theorem catT_two (x : ByteArray) (f : Nat → ByteArray) (a b : Nat) : catT (catT x f a) (fun i => f (a + i)) b = catT x f (a + b) := by
  induction b with
  | zero => rfl
  | succ b ih => show catT (catT x f a) _ b ++ f (a + b) = catT x f (a + b) ++ f (a + b); rw [ih]
theorem catT_congr {f g : Nat → ByteArray} (x : ByteArray) (k : Nat) (h : ∀ i, i < k → f i = g i) : catT x f k = catT x g k := by
  induction k with
  | zero => rfl
  | succ k ih => show catT x f k ++ f k = catT x g k ++ g k; rw [ih fun i hi => h i (by omega), h k (by omega)]
theorem head_oneY (t : ByteArray) (h : 0 < t.size) : t.extract 0 1 = oneY (byA t 0 : Int) := by
  have hd : 0 < t.data.size := h
  apply ByteArray.ext
  rw [ByteArray.data_extract]
  unfold oneY byA b256
  apply Array.ext
  · simp; omega
  · intro i h1 h2
    have hi : i = 0 := by simp at h1; omega
    subst hi
    apply UInt8.toNat_inj.1
    have e : t.data[0]? = some t.data[0] := Array.getElem?_eq_getElem hd
    have hl : t.data[0].toNat < 256 := UInt8.toNat_lt _
    simp [e]
    omega
/-- What is read is written so. -/
theorem sgT_rd {t : ByteArray} (h : rdIn t) : sgT (rdS t) = t := by
  have ho := rdS_ok h
  rw [sgT_is ho]
  unfold rdS
  rw [if_pos (rdOk_of h)]
  show catT (catT (oneY (byA t 0 : Int)) (bAt ((List.range 10).map (prtB t))) 10) (bAt ((List.range 2).map fun i => prtB t (10 + i))) 2 = t
  rw [catT_congr _ 10 (fun i hi => bAt_map (prtB t) 10 i hi), catT_congr _ 2 (fun i hi => bAt_map (fun i => prtB t (10 + i)) 2 i hi), catT_two, catT_prt t 12 _ (head_oneY t (by have := h.1; omega)).symm, show 1 + 12 * 4 = t.size by rw [h.1]]
  exact ByteArray.extract_zero_size
theorem onceS_len (l : List ByteArray) (leaf : Int) (m : ByteArray) (h : l.length = 10) : (onceS l leaf m).length = 10 := by unfold onceS; rw [if_pos h, List.length_map, List.length_range]
theorem chnB_four (x : ByteArray) (leaf chain frm : Int) (k : Nat) (h : x.size = 4) : (chnB x leaf chain frm k).size = 4 := by
  cases k with
  | zero => exact h
  | succ k => exact chopB_size _
theorem lvs_four (l : List ByteArray) (h : ∀ x ∈ l, x.size = 4) (k : Nat) : four (lvs l k) = true := four_of (by
  cases k with
  | zero => exact h
  | succ k => exact fun x hx => lvL_size _ _ x hx)
theorem sibS_lt (n k : Nat) (hn : n < 4) (hk : k < 2) : sibN (n / 2 ^ k) < 4 / 2 ^ k := by
  rcases show k = 0 ∨ k = 1 by omega with rfl | rfl
  · rw [Nat.pow_zero, Nat.div_one, Nat.div_one]; unfold sibN; split <;> omega
  · rw [Nat.pow_one]; unfold sibN; split <;> omega
theorem sibS_size (seed : ByteArray) (leaf : Int) (h : 0 ≤ leaf ∧ leaf ≤ 3) (k : Nat) (hk : k < 2) : (pthN (lvsO seed) leaf.toNat k).size = 4 := by
  unfold pthN
  refine bAt_four (lvs_four _ (lvsO_size seed) k) _ ?_
  rw [lvs_len _ (lvsO_len seed) k]
  exact sibS_lt _ _ (by have := h.1; have := h.2; omega) hk
theorem sgnS_ok (seed : ByteArray) (leaf : Int) (m : ByteArray) (h : 0 ≤ leaf ∧ leaf ≤ 3) : sgOk (sgnS seed leaf m) = true := by
  unfold sgnS
  rw [if_pos h]
  refine sgOk_of ⟨h, onceS_len _ _ _ (keysO_len _ _), pathL_len _ _ (lvsO_len _) h⟩ ?_ ?_
  · refine four_of fun x hx => ?_
    have hx' : x ∈ onceS (keysO seed leaf) leaf m := hx
    unfold onceS at hx'
    rw [if_pos (keysO_len _ _)] at hx'
    obtain ⟨i, hi, rfl⟩ := List.mem_map.1 hx'
    refine chnB_four _ _ _ _ _ (bAt_four (four_of (keysO_size seed leaf)) i ?_)
    rw [keysO_len]
    exact List.mem_range.1 hi
  · refine four_of fun x hx => ?_
    have hx' : x ∈ pathL (lvsO seed) leaf := hx
    unfold pathL at hx'
    rw [if_pos ⟨lvsO_len _, h⟩] at hx'
    obtain ⟨i, hi, rfl⟩ := List.mem_map.1 hx'
    have hi2 := List.mem_range.1 hi
    exact sibS_size seed leaf h i hi2
theorem sgn_chk (seed : ByteArray) (leaf : Int) (m : ByteArray) (h : 0 ≤ leaf ∧ leaf ≤ 3) : chkB (pubO seed) m (sgnS seed leaf m) = true := by
  unfold chkB
  rw [sgnS_ok seed leaf m h, Bool.true_and]
  apply decide_eq_true
  unfold fndB sgnS pubO
  rw [if_pos h]
  show rootBy (onceF (onceS (keysO seed leaf) leaf m) leaf m) leaf (pathL (lvsO seed) leaf) = _
  obtain ⟨n, rfl⟩ : ∃ n : Nat, leaf = n := ⟨leaf.toNat, by have := h.1; omega⟩
  have hn : n < 4 := by have := h.2; omega
  rw [once_found _ _ _ (keysO_len _ _), show onceP (keysO seed (n : Int)) (n : Int) = bAt (lvsO seed) n from (bAt_map (lefO seed) 4 n hn).symm]
  exact root_by _ (lvsO_len _) n hn
end Go.Proofs.YtjgnjjphankhnaaGreat

/- The laws' helpers on signatures, over the loaded program. -/
namespace Go.Proofs.YtjgnjjphankhnaaGreat
open Go.RowKit
def sgv (lf : Int) (v1 v2 : Value) : Value := .agg #[.int .i64 lf, v1, v2]
/-- The signature s, read. -/
def RdSg (w : World) (v : Value) (s : Sg) : Prop := ∃ v1 v2, v = sgv s.leaf v1 v2 ∧ RdV w v1 (s.once.map sv) ∧ RdV w v2 (s.path.map sv) ∧ CapV v1 ∧ CapV v2
/-- The signature s, in memory of the call's own. -/
def OwnSg (w : World) (base : Nat) (v : Value) (s : Sg) : Prop := ∃ v1 v2, v = sgv s.leaf v1 v2 ∧ OwnV w base 9 v1 (s.once.map sv) ∧ OwnV w base 9 v2 (s.path.map sv) ∧ ∀ k, v1.ownBlock = some k → v2.ownBlock ≠ some k
theorem OwnSg.rd {w : World} {base : Nat} {v : Value} {s : Sg} (h : OwnSg w base v s) : RdSg w v s := by
  obtain ⟨v1, v2, e, h1, h2, _⟩ := h
  exact ⟨v1, v2, e, h1.rdv, h2.rdv, h1.capv, h2.capv⟩
theorem RdSg.below {w w' : World} {v : Value} {s : Sg} (h : RdSg w v s) (hb : Below w.heap.size w w') : RdSg w' v s := by
  obtain ⟨v1, v2, e, h1, h2, hc⟩ := h
  exact ⟨v1, v2, e, h1.below hb, h2.below hb, hc⟩
theorem OwnSg.below {w w' : World} {base : Nat} {v : Value} {s : Sg} (h : OwnSg w base v s) (hb : Below w.heap.size w w') : OwnSg w' base v s := by
  obtain ⟨v1, v2, e, h1, h2, h3⟩ := h
  exact ⟨v1, v2, e, h1.below hb, h2.below hb, h3⟩
theorem OwnSg.low {w : World} {base base' : Nat} {v : Value} {s : Sg} (h : OwnSg w base v s) (hb : base' ≤ base) : OwnSg w base' v s := by
  obtain ⟨v1, v2, e, h1, h2, h3⟩ := h
  exact ⟨v1, v2, e, h1.low hb, h2.low hb, h3⟩
theorem OwnSg.open {w : World} {base : Nat} {v : Value} {s : Sg} (h : OwnSg w base v s) : ∃ a1 n1 c1 a2 n2 c2, v = .agg #[.int .i64 s.leaf, .slice a1 n1 c1, .slice a2 n2 c2] := by
  obtain ⟨v1, v2, rfl, h1, h2, _⟩ := h
  obtain ⟨a1, c1, rfl⟩ := h1.shape
  obtain ⟨a2, c2, rfl⟩ := h2.shape
  exact ⟨_, _, _, _, _, _, rfl⟩
/-- The marks of a signature's texts. -/
theorem RdSg.len {w : World} {v : Value} {s : Sg} (h : RdSg w v s) : ∃ v1 v2, v = sgv s.leaf v1 v2 := by
  obtain ⟨v1, v2, e, _⟩ := h
  exact ⟨v1, v2, e⟩
/-- A signature whose texts are marked from k on. -/
def MkSgK (w : World) (base : Nat) (v : Value) (s : Sg) (k : Nat) : Prop := ∃ v1 v2, v = sgv s.leaf v1 v2 ∧ OwnV w base 9 v1 (mkT k s.once.length) ∧ OwnV w base 9 v2 (mkT (k + s.once.length) s.path.length)
theorem MkSgK.below {w w' : World} {base k : Nat} {v : Value} {s : Sg} (h : MkSgK w base v s k) (hb : Below w.heap.size w w') : MkSgK w' base v s k := by
  obtain ⟨v1, v2, e, h1, h2⟩ := h
  exact ⟨v1, v2, e, h1.below hb, h2.below hb⟩
def MkSg (w : World) (base : Nat) (v : Value) (s : Sg) : Prop := MkSgK w base v s 1
theorem MkSg.below {w w' : World} {base : Nat} {v : Value} {s : Sg} (h : MkSg w base v s) (hb : Below w.heap.size w w') : MkSg w' base v s := MkSgK.below h hb
theorem sgv_inj {a b : Int} {v1 v2 u1 u2 : Value} (h : sgv a v1 v2 = sgv b u1 u2) : v1 = u1 ∧ v2 = u2 := by
  unfold sgv at h
  injection h with h
  simp at h
  exact h.2
theorem OwnSg.rows {w : World} {base : Nat} {lf : Int} {v1 v2 : Value} {s : Sg} (h : OwnSg w base (sgv lf v1 v2) s) : OwnV w base 9 v1 (s.once.map sv) ∧ OwnV w base 9 v2 (s.path.map sv) ∧ ∀ k, v1.ownBlock = some k → v2.ownBlock ≠ some k := by
  obtain ⟨u1, u2, e, h1, h2, h3⟩ := h
  obtain ⟨rfl, rfl⟩ := sgv_inj e
  exact ⟨h1, h2, h3⟩
theorem gR9 (w : World) (r : Option Nat) : w.grownBy w r := ⟨rfl, rfl, rfl, Nat.le_refl _, fun _ _ _ => rfl⟩
theorem gSet {a b : World} {g : Nat} (h : a.grownBy b (some g)) (k : Nat) (u : Value) : a.grownBy (b.setCell ⟨g, k, none⟩ u) (some g) := tT h (tS b g k u)
theorem OwnSg.grownO {w w' : World} {base g : Nat} {lf : Int} {v1 v2 : Value} {s : Sg} (h : OwnSg w base (sgv lf v1 v2) s) (hG : w.grownBy w' (some g)) (h1 : v1.ownBlock ≠ some g) (h2 : v2.ownBlock ≠ some g) : OwnSg w' base (sgv lf v1 v2) s := by
  obtain ⟨u1, u2, e, q1, q2, q3⟩ := h
  obtain ⟨rfl, rfl⟩ := sgv_inj e
  exact ⟨_, _, e, q1.grown hG (fun k hk e => h1 (by rw [hk, e])), q2.grown hG (fun k hk e => h2 (by rw [hk, e])), q3⟩
theorem OwnSg.offs {w : World} {base g : Nat} {T : TypeId} {cs : Array Value} {lf : Int} {v1 v2 : Value} {s : Sg} (h : OwnSg w base (sgv lf v1 v2) s) (hA : CB w g T cs) (hT : T ≠ 9) : v1.ownBlock ≠ some g ∧ v2.ownBlock ≠ some g :=
  ⟨hA.off h.rows.1 hT, hA.off h.rows.2.1 hT⟩
theorem OwnSg.bounds {w : World} {base : Nat} {lf : Int} {v1 v2 : Value} {s : Sg} (h : OwnSg w base (sgv lf v1 v2) s) : ∀ k, (v1.ownBlock = some k ∨ v2.ownBlock = some k) → base ≤ k ∧ k < w.heap.size := fun k hk => hk.elim (fun e => h.rows.1.lt k e) (fun e => h.rows.2.1.lt k e)
end Go.Proofs.YtjgnjjphankhnaaGreat

/- Trees of trees, reckoned. -/
namespace Go.Proofs.YtjgnjjphankhnaaGreat
open Go.RowKit
structure Hy where
  top : Sg
  root : ByteArray
  low : Sg
def noSg : Sg := ⟨0, [], []⟩
def lowB (seed : ByteArray) (place : Int) : ByteArray := seed ++ oneY place ++ ⟨#[108]⟩
def topB (seed : ByteArray) : ByteArray := seed ++ ⟨#[116]⟩
def hpubO (seed : ByteArray) : ByteArray := pubO (topB seed)
def hsgnS (seed : ByteArray) (i : Int) (m : ByteArray) : Hy :=
  if 0 ≤ i ∧ i ≤ 15 then ⟨sgnS (topB seed) (i / 4) (pubO (lowB seed (i / 4))), pubO (lowB seed (i / 4)), sgnS (lowB seed (i / 4)) (i % 4) m⟩ else ⟨noSg, ⟨#[]⟩, noSg⟩
def hchkB (p m : ByteArray) (h : Hy) : Bool := chkB p h.root h.top && chkB h.root m h.low
def bothSg (h : Hy) : Bool := sgOk h.top && sgOk h.low
def hidx (h : Hy) : Int := if bothSg h = true then 4 * h.top.leaf + h.low.leaf else -1
def htxOk (h : Hy) : Bool := bothSg h && decide (h.root.size = 4)
def htx (h : Hy) : ByteArray := if htxOk h = true then sgT h.top ++ h.root ++ sgT h.low else ⟨#[]⟩
def hA (t : ByteArray) : ByteArray := t.extract 0 49
def hR (t : ByteArray) : ByteArray := t.extract 49 53
def hL (t : ByteArray) : ByteArray := t.extract 53 t.size
def hrdOk (t : ByteArray) : Bool := decide (t.size = 102) && (rdOk (hA t) && rdOk (hL t))
def hrdS (t : ByteArray) : Hy := if hrdOk t = true then ⟨rdS (hA t), hR t, rdS (hL t)⟩ else ⟨noSg, ⟨#[]⟩, noSg⟩
theorem pubO_four (s : ByteArray) : (pubO s).size = 4 := by
  unfold pubO rootB
  rw [if_pos (lvsO_len s)]
  exact bAt_four (lvs_four _ (lvsO_size s) 2) 0 (by rw [lvs_len _ (lvsO_len s) 2]; decide)
theorem div4 {i : Int} (h : 0 ≤ i ∧ i ≤ 15) : 0 ≤ i / 4 ∧ i / 4 ≤ 3 := by omega
theorem mod4 (i : Int) : 0 ≤ i % 4 ∧ i % 4 ≤ 3 := by omega
theorem sgnS_leaf (seed : ByteArray) (leaf : Int) (m : ByteArray) (h : 0 ≤ leaf ∧ leaf ≤ 3) : (sgnS seed leaf m).leaf = leaf := by unfold sgnS; rw [if_pos h]
theorem hsgn_is {seed : ByteArray} {i : Int} {m : ByteArray} (h : 0 ≤ i ∧ i ≤ 15) : hsgnS seed i m = ⟨sgnS (topB seed) (i / 4) (pubO (lowB seed (i / 4))), pubO (lowB seed (i / 4)), sgnS (lowB seed (i / 4)) (i % 4) m⟩ := by unfold hsgnS; rw [if_pos h]
theorem hsgn_both (seed : ByteArray) (i : Int) (m : ByteArray) (h : 0 ≤ i ∧ i ≤ 15) : bothSg (hsgnS seed i m) = true := by
  rw [hsgn_is h]
  unfold bothSg
  rw [sgnS_ok _ _ _ (div4 h), sgnS_ok _ _ _ (mod4 i)]
  rfl
theorem hsgn_ok (seed : ByteArray) (i : Int) (m : ByteArray) (h : 0 ≤ i ∧ i ≤ 15) : htxOk (hsgnS seed i m) = true := by
  unfold htxOk
  rw [hsgn_both seed i m h, Bool.true_and, hsgn_is h]
  exact decide_eq_true (pubO_four _)
theorem hsgn_chk (seed : ByteArray) (i : Int) (m : ByteArray) (h : 0 ≤ i ∧ i ≤ 15) : hchkB (hpubO seed) m (hsgnS seed i m) = true := by
  rw [hsgn_is h]
  unfold hchkB hpubO
  rw [sgn_chk _ _ _ (div4 h), sgn_chk _ _ _ (mod4 i)]
  rfl
theorem hsgn_idx (seed : ByteArray) (i : Int) (m : ByteArray) (h : 0 ≤ i ∧ i ≤ 15) : hidx (hsgnS seed i m) = i := by
  unfold hidx
  rw [if_pos (hsgn_both seed i m h), hsgn_is h]
  show 4 * (sgnS _ _ _).leaf + (sgnS _ _ _).leaf = i
  rw [sgnS_leaf _ _ _ (div4 h), sgnS_leaf _ _ _ (mod4 i)]
  omega
theorem htxOk_top {h : Hy} (ho : htxOk h = true) : sgOk h.top = true := by unfold htxOk bothSg at ho; simp at ho; exact ho.1.1
theorem htxOk_low {h : Hy} (ho : htxOk h = true) : sgOk h.low = true := by unfold htxOk bothSg at ho; simp at ho; exact ho.1.2
theorem htxOk_root {h : Hy} (ho : htxOk h = true) : h.root.size = 4 := by unfold htxOk bothSg at ho; simp at ho; exact ho.2
theorem htx_is {h : Hy} (ho : htxOk h = true) : htx h = sgT h.top ++ h.root ++ sgT h.low := by unfold htx; rw [if_pos ho]
theorem htx_size {h : Hy} (ho : htxOk h = true) : (htx h).size = 102 := by
  rw [htx_is ho, ByteArray.size_append, ByteArray.size_append, sgT_size (htxOk_top ho), sgT_size (htxOk_low ho), htxOk_root ho]
theorem cut_three (a b c : ByteArray) (ha : a.size = 49) (hb : b.size = 4) : (a ++ b ++ c).extract 0 49 = a ∧ (a ++ b ++ c).extract 49 53 = b ∧ (a ++ b ++ c).extract 53 (a ++ b ++ c).size = c := by
  have hab : (a ++ b).size = 53 := by rw [ByteArray.size_append, ha, hb]
  refine ⟨?_, ?_, ?_⟩
  · rw [ByteArray.append_assoc]
    exact ByteArray.extract_append_eq_left ha.symm
  · rw [ByteArray.extract_append, hab, show c.extract (49 - 53) (53 - 53) = ByteArray.empty from ByteArray.extract_eq_empty_iff.2 (by omega), ByteArray.append_empty, ByteArray.extract_append, ha,
      show a.extract 49 53 = ByteArray.empty from ByteArray.extract_eq_empty_iff.2 (by rw [ha]; omega), ByteArray.empty_append, show 53 - 49 = b.size by rw [hb], Nat.sub_self]
    exact ByteArray.extract_zero_size
  · have hs : (a ++ b ++ c).size = 53 + c.size := by rw [ByteArray.size_append, hab]
    rw [hs, ByteArray.extract_append, hab, show (a ++ b).extract 53 (53 + c.size) = ByteArray.empty from ByteArray.extract_eq_empty_iff.2 (by rw [hab]; omega), ByteArray.empty_append, Nat.sub_self, Nat.add_sub_cancel_left]
    exact ByteArray.extract_zero_size
theorem hrdOk_htx {h : Hy} (ho : htxOk h = true) : hrdOk (htx h) = true := by
  obtain ⟨e1, _, e3⟩ := cut_three (sgT h.top) h.root (sgT h.low) (sgT_size (htxOk_top ho)) (htxOk_root ho)
  unfold hrdOk hA hL
  rw [decide_eq_true (htx_size ho), htx_is ho, e1, e3, rdOk_of (rdIn_sgT (htxOk_top ho)), rdOk_of (rdIn_sgT (htxOk_low ho))]
  rfl
/-- What is written is read. -/
theorem hrd_htx {h : Hy} (ho : htxOk h = true) : hrdS (htx h) = h := by
  obtain ⟨e1, e2, e3⟩ := cut_three (sgT h.top) h.root (sgT h.low) (sgT_size (htxOk_top ho)) (htxOk_root ho)
  unfold hrdS
  rw [if_pos (hrdOk_htx ho)]
  unfold hA hR hL
  rw [htx_is ho, e1, e2, e3, rd_sgT (htxOk_top ho), rd_sgT (htxOk_low ho)]
theorem hrd_parts {t : ByteArray} (h : hrdOk t = true) : t.size = 102 ∧ rdIn (hA t) ∧ rdIn (hL t) := by
  unfold hrdOk at h
  rw [Bool.and_eq_true, Bool.and_eq_true] at h
  exact ⟨of_decide_eq_true h.1, rdOk_in h.2.1, rdOk_in h.2.2⟩
theorem hrd_is {t : ByteArray} (h : hrdOk t = true) : hrdS t = ⟨rdS (hA t), hR t, rdS (hL t)⟩ := by unfold hrdS; rw [if_pos h]
theorem hrd_both {t : ByteArray} (h : hrdOk t = true) : bothSg (hrdS t) = true := by
  obtain ⟨_, h1, h2⟩ := hrd_parts h
  rw [hrd_is h]
  unfold bothSg
  rw [rdS_ok h1, rdS_ok h2]
  rfl
theorem hrd_ok {t : ByteArray} (h : hrdOk t = true) : htxOk (hrdS t) = true := by
  unfold htxOk
  rw [hrd_both h, Bool.true_and, hrd_is h]
  apply decide_eq_true
  show (t.extract 49 53).size = 4
  rw [ByteArray.size_extract, (hrd_parts h).1]
  rfl
theorem three_cut (t : ByteArray) (hz : t.size = 102) : hA t ++ hR t ++ hL t = t := by
  unfold hA hR hL
  have e1 : t.extract 0 49 ++ t.extract 49 53 = t.extract 0 53 := by
    rw [ByteArray.extract_append_extract, Nat.min_eq_left (by omega), Nat.max_eq_right (by omega)]
  rw [e1, ByteArray.extract_append_extract, Nat.min_eq_left (by omega), Nat.max_eq_right (by omega)]
  exact ByteArray.extract_zero_size
/-- What is read is written so. -/
theorem htx_hrd {t : ByteArray} (h : hrdOk t = true) : htx (hrdS t) = t := by
  have hp := hrd_parts h
  have e := htx_is (hrd_ok h)
  have e2 := hrd_is h
  generalize hrdS t = x at *
  subst e2
  rw [e]
  have e3 := sgT_rd hp.2.1
  have e4 := sgT_rd hp.2.2
  simp only [e3, e4]
  exact three_cut t hp.1
theorem hidx_nonneg {h : Hy} (hb : bothSg h = true) : 0 ≤ hidx h := by
  unfold hidx
  rw [if_pos hb]
  unfold bothSg at hb
  rw [Bool.and_eq_true] at hb
  have h1 := (sgOk_shape hb.1).1
  have h2 := (sgOk_shape hb.2).1
  omega
end Go.Proofs.YtjgnjjphankhnaaGreat

/- The laws' helpers on signatures of trees of trees, over the loaded program. -/
namespace Go.Proofs.YtjgnjjphankhnaaGreat
open Go.RowKit
def hyv (lt : Int) (v1 v2 : Value) (r : ByteArray) (ll : Int) (v3 v4 : Value) : Value := .agg #[.int .i64 lt, v1, v2, .string r, .int .i64 ll, v3, v4]
def RdHy (w : World) (v : Value) (h : Hy) : Prop := ∃ v1 v2 v3 v4, v = hyv h.top.leaf v1 v2 h.root h.low.leaf v3 v4 ∧ RdV w v1 (h.top.once.map sv) ∧ RdV w v2 (h.top.path.map sv) ∧ RdV w v3 (h.low.once.map sv) ∧ RdV w v4 (h.low.path.map sv) ∧ CapV v1 ∧ CapV v2 ∧ CapV v3 ∧ CapV v4
def OwnHy (w : World) (base : Nat) (v : Value) (h : Hy) : Prop := ∃ v1 v2 v3 v4, v = hyv h.top.leaf v1 v2 h.root h.low.leaf v3 v4 ∧ OwnSg w base (sgv h.top.leaf v1 v2) h.top ∧ OwnSg w base (sgv h.low.leaf v3 v4) h.low ∧ ∀ k, (v1.ownBlock = some k ∨ v2.ownBlock = some k) → v3.ownBlock ≠ some k ∧ v4.ownBlock ≠ some k
theorem OwnHy.rd {w : World} {base : Nat} {v : Value} {h : Hy} (ho : OwnHy w base v h) : RdHy w v h := by
  obtain ⟨v1, v2, v3, v4, e, h1, h2, _⟩ := ho
  exact ⟨v1, v2, v3, v4, e, h1.rows.1.rdv, h1.rows.2.1.rdv, h2.rows.1.rdv, h2.rows.2.1.rdv, h1.rows.1.capv, h1.rows.2.1.capv, h2.rows.1.capv, h2.rows.2.1.capv⟩
theorem RdHy.below {w w' : World} {v : Value} {h : Hy} (hr : RdHy w v h) (hb : Below w.heap.size w w') : RdHy w' v h := by
  obtain ⟨v1, v2, v3, v4, e, h1, h2, h3, h4, hq⟩ := hr
  exact ⟨v1, v2, v3, v4, e, h1.below hb, h2.below hb, h3.below hb, h4.below hb, hq⟩
theorem OwnHy.below {w w' : World} {base : Nat} {v : Value} {h : Hy} (ho : OwnHy w base v h) (hb : Below w.heap.size w w') : OwnHy w' base v h := by
  obtain ⟨v1, v2, v3, v4, e, h1, h2, h3⟩ := ho
  exact ⟨v1, v2, v3, v4, e, h1.below hb, h2.below hb, h3⟩
theorem RdHy.open {w : World} {v : Value} {h : Hy} (hr : RdHy w v h) : ∃ a1 n1 c1 a2 n2 c2 a3 n3 c3 a4 n4 c4, v = .agg #[.int .i64 h.top.leaf, .slice a1 n1 c1, .slice a2 n2 c2, .string h.root, .int .i64 h.low.leaf, .slice a3 n3 c3, .slice a4 n4 c4] := by
  obtain ⟨v1, v2, v3, v4, rfl, h1, h2, h3, h4, _⟩ := hr
  obtain ⟨a1, c1, rfl⟩ := h1.shape
  obtain ⟨a2, c2, rfl⟩ := h2.shape
  obtain ⟨a3, c3, rfl⟩ := h3.shape
  obtain ⟨a4, c4, rfl⟩ := h4.shape
  exact ⟨_, _, _, _, _, _, _, _, _, _, _, _, rfl⟩
/-- Both signatures of what is read as this. -/
theorem RdHy.parts {w : World} {h : Hy} {lt ll : Int} {r : ByteArray} {v1 v2 v3 v4 : Value} (hr : RdHy w (.agg #[.int .i64 lt, v1, v2, .string r, .int .i64 ll, v3, v4]) h) : RdSg w (.agg #[.int .i64 lt, v1, v2]) h.top ∧ RdSg w (.agg #[.int .i64 ll, v3, v4]) h.low := by
  obtain ⟨u1, u2, u3, u4, e, h1, h2, h3, h4, q1, q2, q3, q4⟩ := hr
  unfold hyv at e
  injection e with e
  simp at e
  obtain ⟨rfl, rfl, rfl, rfl, rfl, rfl, rfl⟩ := e
  exact ⟨⟨_, _, rfl, h1, h2, q1, q2⟩, ⟨_, _, rfl, h3, h4, q3, q4⟩⟩
theorem OwnHy.parts {w : World} {base : Nat} {h : Hy} {lt ll : Int} {r : ByteArray} {v1 v2 v3 v4 : Value} (ho : OwnHy w base (.agg #[.int .i64 lt, v1, v2, .string r, .int .i64 ll, v3, v4]) h) : OwnSg w base (sgv h.top.leaf v1 v2) h.top ∧ OwnSg w base (sgv h.low.leaf v3 v4) h.low ∧ (∀ k, (v1.ownBlock = some k ∨ v2.ownBlock = some k) → v3.ownBlock ≠ some k ∧ v4.ownBlock ≠ some k) ∧ lt = h.top.leaf ∧ ll = h.low.leaf ∧ r = h.root := by
  obtain ⟨u1, u2, u3, u4, e, h1, h2, h3⟩ := ho
  unfold hyv at e
  injection e with e
  simp at e
  obtain ⟨rfl, rfl, rfl, rfl, rfl, rfl, rfl⟩ := e
  exact ⟨h1, h2, h3, rfl, rfl, rfl⟩
def okHy (h : Hy) : Prop := ((∀ x ∈ h.top.once, x.size ≤ maxLen) ∧ (∀ x ∈ h.top.path, x.size ≤ maxLen) ∧ h.top.once.length ≤ maxLen ∧ h.top.path.length ≤ maxLen) ∧ h.root.size ≤ maxLen ∧ ((∀ x ∈ h.low.once, x.size ≤ maxLen) ∧ (∀ x ∈ h.low.path, x.size ≤ maxLen) ∧ h.low.once.length ≤ maxLen ∧ h.low.path.length ≤ maxLen)
def mass (s : Sg) : Nat := s.once.length + sumS s.once + s.path.length + sumS s.path
def hyZ : Array Value := #[.int .i64 0, .slice none 0 0, .slice none 0 0, .string ⟨#[]⟩, .int .i64 0, .slice none 0 0, .slice none 0 0]
/-- One whose texts are marked from 1 on. -/
def MkHy (w : World) (base : Nat) (v : Value) (h : Hy) : Prop := ∃ v1 v2 v3 v4, v = hyv h.top.leaf v1 v2 h.root h.low.leaf v3 v4 ∧ MkSgK w base (sgv h.top.leaf v1 v2) h.top 1 ∧ MkSgK w base (sgv h.low.leaf v3 v4) h.low (1 + h.top.once.length + h.top.path.length)
theorem MkHy.below {w w' : World} {base : Nat} {v : Value} {h : Hy} (hm : MkHy w base v h) (hb : Below w.heap.size w w') : MkHy w' base v h := by
  obtain ⟨v1, v2, v3, v4, e, h1, h2⟩ := hm
  exact ⟨v1, v2, v3, v4, e, h1.below hb, h2.below hb⟩
end Go.Proofs.YtjgnjjphankhnaaGreat

/- Parts put behind one another, and their digest, over the loaded program. -/
namespace Go.Proofs.YtjgnjjphankhnaaGreat
open Go.RowKit
theorem join_flat (xs : List (List UInt8)) : Lib.join xs [] = xs.flatten := by
  unfold Lib.join
  induction xs with
  | nil => rfl
  | cons x xs ih =>
    cases xs with
    | nil => simp [List.intercalate]
    | cons y ys =>
      have e : [].intercalate (x :: y :: ys) = x ++ ([] ++ [].intercalate (y :: ys)) := by simp [List.intercalate, List.intersperse]
      rw [e, ih]
      rfl
theorem barr_eq {a b : ByteArray} (h : a.data.toList = b.data.toList) : a = b := ByteArray.ext (Array.toList_inj.1 h)
set_option maxRecDepth 20000 in
set_option maxHeartbeats 400000 in
theorem digParts_any (bk o c n : Nat) (xs : List ByteArray) (hn : xs.length = n) (T : ByteArray) (hT : T.data.toList = (xs.map (·.data.toList)).flatten) (hTs : T.size ≤ 4000000) (w : World) (hcells : ∀ (j : Nat) x, xs[j]? = some x → w.cell? ⟨bk, o + j, none⟩ = some (.string x)) (hbk : bk < w.heap.size) (hcap : n ≤ c) (hN : n ≤ 1000) :
    Calls Tryz.prog 93 #[.slice (some ⟨bk, o, none⟩) n c] w fun e w' => e = .returned (.string (digB T)) ∧ Below w.heap.size w w' := by
  subst hn
  have hj : (⟨(Lib.join (xs.map (·.data.toList)) (⟨#[]⟩ : ByteArray).data.toList).toArray⟩ : ByteArray) = T := by
    apply barr_eq
    rw [hT]
    exact join_flat _
  have hz : (Lib.join (xs.map (·.data.toList)) (⟨#[]⟩ : ByteArray).data.toList).length ≤ 140737488355328 := by
    have e : (Lib.join (xs.map (·.data.toList)) (⟨#[]⟩ : ByteArray).data.toList) = T.data.toList := by rw [← hj]
    rw [e]
    show T.size ≤ _
    omega
  have CJ := hide (Tryz.strings_Join bk o c xs ⟨#[]⟩ w hcells hbk (by omega) hcap hz)
  rw [hj] at CJ
  have CD := hide (fun W => implDigest_any T hTs W)
  rw [show endV (blocksW first8 T 0 (T.size / 64)) (T.extract (64 * (T.size / 64)) T.size) T.size = digB T from rfl] at CD
  clear hz hj hT hcells
  generalize digB T = d at *
  go_enter Tryz.func93, Tryz.ntmps93
  go_wp2_with fail
  refine (unhide CJ).mono ?_
  rintro e w1 ⟨rfl, hb1⟩
  go_wp2_with fail
  refine ((unhide CD) w1).mono ?_
  rintro e w2 ⟨rfl, hb2⟩
  have hb12 := hb1.trans (hb2.mono hb1.size)
  clear hb1 hb2
  go_wp2
  go_ret
  exact ⟨rfl, hb12⟩
end Go.Proofs.YtjgnjjphankhnaaGreat

/- Chains by the project's own functions: bytes, what is chopped, a step, chains, over the loaded program. -/
namespace Go.Proofs.YtjgnjjphankhnaaGreat
open Go.RowKit
theorem below_grown14 {w w' : World} (hb : Below w.heap.size w w') (g : Nat) : w.grownBy w' (some g) := ⟨hb.os, hb.tape, hb.output, hb.size, fun k hk _ => hb.block k hk⟩
set_option maxRecDepth 20000 in
set_option maxHeartbeats 400000 in
theorem implByteY_any (z : Int) (w : World) :
    Calls Tryz.prog 34 #[.int .i64 z] w fun e w' => e = .returned (.string (oneY z)) ∧ Below w.heap.size w w' := by
  have hx := b256_lt z
  have E := hide (show oneY z = ⟨#[UInt8.ofNat (b256 z)]⟩ from rfl)
  rw [unhide E]
  have ew : IntKind.u8.wrap z = (b256 z : Int) := by rw [IntKind.wrap_u8]; unfold b256; omega
  have ew8 : z % 256 = (b256 z : Int) := by unfold b256; omega
  generalize b256 z = x at *
  have hcv := conv_oneY w x hx
  have hb : Below w.heap.size w (w.alloc (.cells #[.int .u8 (x : Int)] 5)) := (Below.refl w.heap.size w).alloc (Nat.le_refl _) _
  go_enter Tryz.func34, Tryz.ntmps34
  go_wp2
  go_ret
  exact ⟨rfl, hb⟩
set_option maxRecDepth 20000 in
set_option maxHeartbeats 400000 in
theorem chopParts_any (bk o c n : Nat) (xs : List ByteArray) (hn : xs.length = n) (T : ByteArray) (hT : T.data.toList = (xs.map (·.data.toList)).flatten) (hTs : T.size ≤ 4000000) (w : World) (hcells : ∀ (j : Nat) x, xs[j]? = some x → w.cell? ⟨bk, o + j, none⟩ = some (.string x)) (hbk : bk < w.heap.size) (hcap : n ≤ c) (hN : n ≤ 1000) :
    Calls Tryz.prog 79 #[.slice (some ⟨bk, o, none⟩) n c] w fun e w' => e = .returned (.string (chopB T)) ∧ Below w.heap.size w w' := by
  have C := hide (digParts_any bk o c n xs hn T hT hTs w hcells hbk hcap hN)
  have hz : (digB T).size = 32 := digB_size0 _
  have E := hide (show chopB T = (digB T).extract 0 4 from rfl)
  rw [unhide E]
  have hz' : (4 : Int) ≤ ((digB T).size : Int) := by omega
  generalize digB T = d at *
  replace hz := hide hz
  clear hcells hT
  go_enter Tryz.func79, Tryz.ntmps79
  go_wp2_with fail
  refine (unhide C).mono ?_
  rintro e w1 ⟨rfl, hb1⟩
  go_wp2
  go_ret
  exact ⟨rfl, hb1⟩
theorem row_texts (w : World) (xs : List ByteArray) (T : TypeId) : ∀ (j : Nat) x, xs[j]? = some x → (w.alloc (.cells (xs.map Value.string).toArray T)).cell? ⟨w.heap.size, 0 + j, none⟩ = some (.string x) := by
  intro j x hx
  rw [Nat.zero_add, cell_of_row _ w.heap.size j _ T (0, 0) (heap_alloc_new w _)]
  simp [hx]
theorem chop4_any (a b c d : ByteArray) (ha : a.size ≤ 2000000) (hb : b.size ≤ 1) (hc : c.size ≤ 1) (hd : d.size ≤ 1100000) (w : World) :
    Calls Tryz.prog 79 #[.slice (some ⟨w.heap.size, 0, none⟩) 4 4] (w.alloc (.cells #[.string a, .string b, .string c, .string d] 9)) fun e w' => e = .returned (.string (chopB (a ++ b ++ c ++ d))) ∧ Below w.heap.size w w' := by
  have h := chopParts_any w.heap.size 0 4 4 [a, b, c, d] rfl (a ++ b ++ c ++ d) (by simp [ByteArray.data_append, Array.toList_append]) (by rw [ByteArray.size_append, ByteArray.size_append, ByteArray.size_append]; omega) (w.alloc (.cells #[.string a, .string b, .string c, .string d] 9)) (row_texts w [a, b, c, d] 9) (by simp) (Nat.le_refl _) (by omega)
  refine h.mono ?_
  rintro e w1 ⟨rfl, hb1⟩
  exact ⟨rfl, ((Below.refl w.heap.size w).alloc (Nat.le_refl _) _).trans (hb1.mono (by simp))⟩
set_option maxRecDepth 20000 in
set_option maxHeartbeats 400000 in
theorem implChop_any (s : ByteArray) (hs : s.size ≤ 4000000) (w : World) :
    Calls Tryz.prog 81 #[.string s] w fun e w' => e = .returned (.string (chopB s)) ∧ Below w.heap.size w w' := by
  have C := hide (chopParts_any w.heap.size 0 1 1 [s] rfl s (by simp) hs (w.alloc (.cells #[.string s] 9)) (row_texts w [s] 9) (by simp) (Nat.le_refl _) (by omega))
  have hb0 : Below w.heap.size w (w.alloc (.cells #[.string s] 9)) := (Below.refl w.heap.size w).alloc (Nat.le_refl _) _
  generalize chopB s = d at *
  go_enter Tryz.func81, Tryz.ntmps81
  go_wp2_with fail
  refine (unhide C).mono ?_
  rintro e w1 ⟨rfl, hb1⟩
  have hb01 := hb0.trans (hb1.mono hb0.size)
  clear hb0 hb1 C
  go_wp2
  go_ret
  exact ⟨rfl, hb01⟩
abbrev plC (a b c : Int) : Array Value := #[.int .i64 a, .int .i64 b, .int .i64 c]
set_option maxRecDepth 20000 in
set_option maxHeartbeats 1000000 in
theorem chainStep_any (g : Nat) (a b c : Int) (x : ByteArray) (hx : x.size ≤ 1048576) (w : World) (hC : CB w g 126 (plC a b c)) :
    Calls Tryz.prog 101 #[.pointer (some ⟨g, 0, none⟩), .string x] w fun e w' => e = .returned (.string (chopB (oneY a ++ oneY b ++ oneY c ++ x))) ∧ CB w' g 126 (plC a b (IntKind.i64.wrap (c + 1))) ∧ w.grownBy w' (some g) := by
  obtain ⟨c', hc'⟩ : ∃ c', IntKind.i64.wrap (c + 1) = c' := ⟨_, rfl⟩
  have hc2 : wrap64 (c + 1) = c' := (IntWalk.i64_left (c + 1)).symm.trans hc'
  rw [hc']
  have hg := hC.lt
  have c0 := hC.cell 0 rfl
  have c1 := hC.cell 1 rfl
  have c2 := hC.cell 2 rfl
  have KS := hide (fun (W : World) (h : Below w.heap.size w W) => (⟨(h.cell (p := ⟨g, 0, none⟩) hg).trans c0, (h.cell (p := ⟨g, 1, none⟩) hg).trans c1, (h.cell (p := ⟨g, 2, none⟩) hg).trans c2⟩ : W.cell? ⟨g, 0, none⟩ = some (.int .i64 a) ∧ W.cell? ⟨g, 1, none⟩ = some (.int .i64 b) ∧ W.cell? ⟨g, 2, none⟩ = some (.int .i64 c)))
  have CY := hide (fun z W => implByteY_any z W)
  have CC := hide (fun W => chop4_any (oneY a) (oneY b) (oneY c) x (by rw [oneY_size]; omega) (by rw [oneY_size]; omega) (by rw [oneY_size]; omega) (by omega) W)
  generalize chopB (oneY a ++ oneY b ++ oneY c ++ x) = q at *
  obtain ⟨Y, hY⟩ : ∃ Y : Int → ByteArray, Y = oneY := ⟨_, rfl⟩
  rw [← hY] at CY CC
  clear hY
  have HC := hide hC
  clear hC
  go_enter Tryz.func101, Tryz.ntmps101
  go_wp2
  go_region_held3 (fun W => W.cell? ⟨g, 0, none⟩ = some (.int .i64 a) ∧ W.cell? ⟨g, 1, none⟩ = some (.int .i64 b) ∧ W.cell? ⟨g, 2, none⟩ = some (.int .i64 c)) (first | exact ⟨c0, c1, c2⟩ | exact (unhide KS) _ hB4 | exact (unhide KS) _ hB3 | exact (unhide KS) _ hB2 | exact (unhide KS) _ hB1 | exact (unhide KS) _ (hB3.alloc (by have := hB3.size; omega) _) | fail) (first
    | (go_at_call 34; have hB2' := hB2; refine ((unhide CY) _ _).mono ?_; rintro e w3 ⟨rfl, hb3⟩; have hB3 : Below w.heap.size w w3 := hB2.trans (hb3.mono hB2.size))
    | (go_at_call 34; have hB1' := hB1; refine ((unhide CY) _ _).mono ?_; rintro e w2 ⟨rfl, hb2⟩; have hB2 : Below w.heap.size w w2 := hB1.trans (hb2.mono hB1.size))
    | (go_at_call 34; refine ((unhide CY) _ _).mono ?_; rintro e w1 ⟨rfl, hb1⟩; have hB1 : Below w.heap.size w w1 := (Below.refl _ w).drew.trans hb1)
    | (go_at_call 79; refine ((unhide CC) _).mono ?_; rintro e w4 ⟨rfl, hb4⟩; have hB4 : Below w.heap.size w w4 := hB3.trans (hb4.mono hB3.size))
    | fail)
  all_goals
    obtain ⟨d0, d1, d2⟩ := (unhide KS) _ hB4
    have HC4 := (unhide HC).below hB4 hg
    have f2 := HC4.frozen 2
    have HC5 := hide (HC4.set 2 (.int .i64 c'))
    have G5 := hide (grownBy_trans (below_grown14 hB4 g) (tS0 w4 g 2 (.int .i64 c')))
    clear hb1 hb2 hb3 hb4 hB1 hB2 hB3 hB4 KS c0 c1 c2 HC HC4 CY CC
    go_wp2
    go_ret
    exact ⟨rfl, unhide HC5, unhide G5⟩
/-- Where a chain stands behind k steps. -/
def frK (c : Int) : Nat → Int
  | 0 => c
  | k + 1 => IntKind.i64.wrap (frK c k + 1)
theorem frK_mod (c : Int) (k : Nat) : (frK c k) % 256 = (c.tmod 256 + (k : Int)) % 256 := by
  induction k with
  | zero =>
    show c % 256 = _
    have e := @Int.tmod_eq_emod c 256
    split at e
    · rw [e]; omega
    · have e2 : c.tmod 256 = c % 256 - 256 := e
      rw [e2]; omega
  | succ k ih =>
    show (IntKind.i64.wrap (frK c k + 1)) % 256 = _
    rw [IntKind.wrap_i64]
    generalize c.tmod 256 = r at *
    generalize frK c k = f at *
    omega
theorem frK_one (c : Int) (k : Nat) : oneY (frK c k) = oneY (c.tmod 256 + (k : Int)) := by
  unfold oneY b256
  rw [frK_mod]
set_option maxRecDepth 20000 in
set_option maxHeartbeats 1000000 in
theorem repeated_any (g : Nat) (a b c d : Int) (x : ByteArray) (hx : x.size ≤ 1048576) (hd : d ≤ 15) (w : World) (hC : CB w g 126 (plC a b c)) :
    Calls Tryz.prog 100 #[.func (Fn.func 101) #[.pointer (some ⟨g, 0, none⟩)] #[], .string x, .int .i64 d] w fun e w' => e = .returned (.string (chnB x a b c d.toNat)) ∧ w.grownBy w' (some g) := by
  have HN := hide (show ∀ k, chopB (oneY a ++ oneY b ++ oneY (frK c k) ++ chnB x a b c k) = chnB x a b c (k + 1) from fun k => by rw [frK_one]; rfl)
  have HS := hide (fun k => chnB_size x a b c k hx)
  have H0 := hide (show chnB x a b c 0 = x from rfl)
  have HF0 := hide (show frK c 0 = c from rfl)
  have HFn := hide (show ∀ k, IntKind.i64.wrap (frK c k + 1) = frK c (k + 1) from fun k => rfl)
  have CSt := hide (fun (k : Nat) (W : World) (h : CB W g 126 (plC a b (frK c k))) => chainStep_any g a b (frK c k) (chnB x a b c k) (unhide HS k) W h)
  simp only [unhide HN, unhide HFn] at CSt
  have HC := hide hC
  clear hC HN HFn HS
  generalize chnB x a b c = F at *
  generalize frK c = R at *
  go_enter Tryz.func100, Tryz.ntmps100
  go_wp2
  go_loopw [1, 8] (fun tx ti wr => ∃ k : Nat, k ≤ d.toNat ∧ ti = .int .i64 (k : Int) ∧ tx = .string (F k) ∧ Hid (CB wr g 126 (plC a b (R k))) ∧ Hid (w.grownBy wr (some g))) (fun _ ti _ => 20 - (intOf ti).toNat)
  case atStart => exact ⟨0, Nat.zero_le _, rfl, by rw [unhide H0], by rw [unhide HF0]; exact HC, hide (World.grownBy.refl w _)⟩
  case round =>
    clear HC
    obtain ⟨k, hk, rfl, rfl, HM, HG⟩ := hrel
    by_cases hlt : (k : Int) < d
    · have C := hide (unhide CSt k wr (unhide HM))
      have hk15 : k < 15 := by omega
      obtain ⟨f2, hf2⟩ : ∃ f2, f2 = F (k + 1) := ⟨_, rfl⟩
      rw [← hf2] at C
      replace hf2 := hide hf2
      generalize F k = fk at *
      clear CSt
      go_wp2_with (go_at_call 101; refine (unhide C).mono ?_; rintro e w1 ⟨rfl, hA1, hg1⟩)
      go_roundw
      case rel => exact ⟨k + 1, by omega, by go_num, by rw [unhide hf2], hide hA1, hide (grownBy_trans (unhide HG) hg1)⟩
      case measure => simp [intOf]; omega
    · have hkk := hide (show d.toNat = k by omega)
      go_wp2
      go_ret
      rw [unhide hkk]
      exact ⟨rfl, unhide HG⟩
set_option maxRecDepth 20000 in
theorem stringsClone14_any (s : ByteArray) (w : World) (hs : s.size ≤ 4000000) :
    Calls Tryz.prog 44 #[.string s] w fun e w' => e = .returned (.string s) ∧ Below w.heap.size w w' := by
  have hlim : s.size ≤ 281474976710656 := by omega
  have C := hide (Tryz.stringslite_Clone s w hlim)
  go_enter Tryz.func44, Tryz.ntmps44
  go_wp2_with fail
  refine (unhide C).mono ?_
  rintro e w2 ⟨rfl, hb2⟩
  go_wp2
  go_ret
  exact ⟨rfl, hb2⟩
theorem grown_below14 {a b c : World} {g : Nat} (h : Below a.heap.size a b) (k : b.grownBy c (some g)) (hg : a.heap.size ≤ g) : Below a.heap.size a c :=
  ⟨k.os.trans h.os, k.tape.trans h.tape, k.output.trans h.output, Nat.le_trans h.size k.size, fun q hq => (k.block q (Nat.lt_of_lt_of_le hq h.size) (fun e => by have := Option.some.inj e; omega)).trans (h.block q hq)⟩
set_option maxRecDepth 20000 in
set_option maxHeartbeats 1000000 in
theorem implChain_any (x : ByteArray) (a b c d : Int) (hx : x.size ≤ 1048576) (w : World) :
    Calls Tryz.prog 94 #[.string x, .int .i64 a, .int .i64 b, .int .i64 c, .int .i64 d] w fun e w' => e = .returned (.string (chnB x a b c (stepsN d))) ∧ Below w.heap.size w w' := by
  have CCl := hide (fun W => stringsClone14_any x W (by omega))
  have hst : stepsN d = (if d ≤ 15 then d else 15).toNat := by unfold stepsN; split <;> rfl
  obtain ⟨m, hm⟩ : ∃ m : Int, m = if d ≤ 15 then d else 15 := ⟨_, rfl⟩
  have hm15 : m ≤ 15 := by rw [hm]; split <;> omega
  rw [← hm] at hst
  have hmin : min d 15 = m := by rw [hm]; split <;> omega
  have hmin2 : (if d ≤ 15 then d else 15) = m := hm.symm
  have CR := hide (fun (g : Nat) (W : World) (h : CB W g 126 (plC a b c)) => repeated_any g a b c m x hx hm15 W h)
  rw [hst]
  generalize chnB x a b c m.toNat = q at *
  obtain ⟨W, hW, hC, hb, hlt⟩ := one_cb w (plC a b c) 126
  replace hst := hide hst
  replace hm := hide hm
  go_enter Tryz.func94, Tryz.ntmps94
  go_wp2_with fail
  refine (unhide CCl W).mono ?_
  rintro e w1 ⟨rfl, hb1⟩
  have hC1 := hC.below hb1 hlt
  have hB1 := hb.trans (hb1.mono hb.size)
  clear hb hb1 hC hW
  go_wp2_with fail
  refine (unhide CR _ w1 hC1).mono ?_
  rintro e w2 ⟨rfl, hg2⟩
  have hB2 := grown_below14 hB1 hg2 (Nat.le_refl _)
  clear hg2 hB1 hC1
  go_wp2
  go_ret
  exact ⟨rfl, hB2⟩
end Go.Proofs.YtjgnjjphankhnaaGreat

/- Chains by the given model: what is chopped, chains, over the loaded program. -/
namespace Go.Proofs.YtjgnjjphankhnaaGreat
open Go.RowKit
theorem specChop_any (s : ByteArray) (hs : s.size ≤ 4000000) (w : World) :
    Calls Tryz.prog 65 #[.string s] w fun e w' => e = .returned (.string (chopB s)) ∧ Below w.heap.size w w' := by
  have C := hide (specDigest_any s hs w)
  have hz : (digB s).size = 32 := V8.text_size _
  have E := hide (show chopB s = (digB s).extract 0 4 from rfl)
  rw [unhide E]
  have hz' : (4 : Int) ≤ ((digB s).size : Int) := by omega
  generalize digB s = d at *
  replace hz := hide hz
  go_enter Tryz.func65, Tryz.ntmps65
  go_wp2_with fail
  refine (unhide C).mono ?_
  rintro e w1 ⟨rfl, hb1⟩
  go_wp2
  go_ret
  exact ⟨rfl, hb1⟩
theorem steps_facts (z : Int) (k : Nat) (h : k ≤ stepsN z) : (k < stepsN z ∧ (k : Int) < z ∧ (k : Int) < 15) ∨ (k = stepsN z ∧ (¬ (k : Int) < z ∨ ((k : Int) < z ∧ ¬ (k : Int) < 15))) := by
  unfold stepsN at *
  by_cases hz : z ≤ 15
  · rw [if_pos hz] at *; omega
  · rw [if_neg hz] at *; omega
set_option maxRecDepth 20000 in
set_option maxHeartbeats 800000 in
theorem specChain_any (x : ByteArray) (leaf chain frm steps : Int) (hx : x.size ≤ 1048576) (w : World) :
    Calls Tryz.prog 64 #[.string x, .int .i64 leaf, .int .i64 chain, .int .i64 frm, .int .i64 steps] w fun e w' => e = .returned (.string (chnB x leaf chain frm (stepsN steps))) ∧ Below w.heap.size w w' := by
  have CB := hide (fun z W => specByteY_any z W)
  have CC := hide (fun s hs W => specChop_any s hs W)
  have HS := hide (fun k => chnB_size x leaf chain frm k hx)
  have HN := hide (show ∀ k, chnB x leaf chain frm (k + 1) = chopB (oneY leaf ++ oneY chain ++ oneY (frm.tmod 256 + (k : Int)) ++ chnB x leaf chain frm k) from fun k => rfl)
  have H0 := hide (show chnB x leaf chain frm 0 = x from rfl)
  have hl15 := stepsN_le steps
  obtain ⟨r, hr⟩ : ∃ r, frm.tmod 256 = r := ⟨_, rfl⟩
  have hr1 : -255 ≤ r ∧ r ≤ 255 := by
    have h1 := Int.tmod_lt_of_pos frm (show (0 : Int) < 256 by decide)
    have h2 := Int.lt_tmod_of_pos frm (show (0 : Int) < 256 by decide)
    omega
  have er : IntKind.i64.wrap r = r := by rw [IntKind.wrap_i64]; omega
  rw [hr] at HN
  generalize chnB x leaf chain frm = F at *
  obtain ⟨N, hN⟩ : ∃ N, N = stepsN steps := ⟨_, rfl⟩
  rw [← hN] at hl15 ⊢
  have SF := hide (show ∀ k : Nat, k ≤ N → (k < N ∧ (k : Int) < steps ∧ (k : Int) < 15) ∨ (k = N ∧ (¬ (k : Int) < steps ∨ ((k : Int) < steps ∧ ¬ (k : Int) < 15))) from fun k h => by rw [hN] at h ⊢; exact steps_facts steps k h)
  replace hN := hide hN
  go_enter Tryz.func64, Tryz.ntmps64
  go_wp2
  go_loopw [0, 11] (fun tx ti wr => ∃ k : Nat, k ≤ N ∧ ti = .int .i64 (k : Int) ∧ tx = .string (F k) ∧ Below w.heap.size w wr) (fun _ ti _ => 20 - (intOf ti).toNat)
  case atStart => exact ⟨0, Nat.zero_le _, rfl, by rw [unhide H0], Below.refl _ _⟩
  case round =>
    obtain ⟨k, hk, rfl, rfl, hB⟩ := hrel
    rcases unhide SF k hk with ⟨h1, h2, h3⟩ | ⟨h1, h2⟩
    · obtain ⟨q, hq⟩ : ∃ q : Int, q = r + (k : Int) := ⟨_, rfl⟩
      have e1 : IntKind.i64.wrap (r + (k : Int)) = q := by rw [IntKind.wrap_i64]; omega
      have HF := unhide HN k
      rw [← hq] at HF
      have hs := unhide HS k
      have za := oneY_size leaf
      have zb := oneY_size chain
      have zc := oneY_size q
      have c1 := hide (unhide CB leaf)
      have c2 := hide (unhide CB chain)
      have c3 := hide (unhide CB q)
      generalize oneY leaf = ya at *
      generalize oneY chain = yb at *
      generalize oneY q = yc at *
      generalize F k = fk at *
      have za' : ya.size ≤ 1 := by omega
      have zb' : yb.size ≤ 1 := by omega
      have zc' : yc.size ≤ 1 := by omega
      have c4 := hide (unhide CC (ya ++ yb ++ yc ++ fk) (by rw [ByteArray.size_append, ByteArray.size_append, ByteArray.size_append]; omega))
      rw [← HF] at c4
      replace HF := hide HF; replace hq := hide hq; replace za := hide za; replace zb := hide zb; replace zc := hide zc
      have hF2 : ∃ G, G = F (k + 1) := ⟨_, rfl⟩
      obtain ⟨G, hG⟩ := hF2
      rw [← hG] at c4
      replace hG := hide hG
      clear CB CC
      go_wp2_with fail
      refine (unhide c1 wr).mono ?_
      rintro e w1 ⟨rfl, hb1⟩
      have hB1 := hB.trans (hb1.mono hB.size)
      clear hb1 hB c1
      go_wp2_with fail
      refine (unhide c2 w1).mono ?_
      rintro e w2 ⟨rfl, hb2⟩
      have hB2 := hB1.trans (hb2.mono hB1.size)
      clear hb2 hB1 c2
      go_wp2_with fail
      refine (unhide c3 w2).mono ?_
      rintro e w3 ⟨rfl, hb3⟩
      have hB3 := hB2.trans (hb3.mono hB2.size)
      clear hb3 hB2 c3
      go_wp2_with fail
      refine (unhide c4 w3).mono ?_
      rintro e w4 ⟨rfl, hb4⟩
      have hB4 := hB3.trans (hb4.mono hB3.size)
      clear hb4 hB3 c4
      go_wp2
      exact ⟨⟨k + 1, by omega, by go_num, by rw [unhide hG], hB4⟩, by simp [intOf]; omega⟩
    · rcases h2 with h2 | ⟨h2, h3⟩
      · have d1 : decide ((k : Int) < steps) = false := by rw [decide_eq_false_iff_not]; omega
        replace h1 := hide h1
        go_wp2
        go_ret
        exact ⟨by rw [← unhide h1]; rfl, hB⟩
      · have d1 : decide ((k : Int) < 15) = false := by rw [decide_eq_false_iff_not]; omega
        replace h1 := hide h1
        go_wp2
        go_ret
        exact ⟨by rw [← unhide h1]; rfl, hB⟩
end Go.Proofs.YtjgnjjphankhnaaGreat

/- Laws of no program: two numbers appended in a region that draws its order. -/
namespace Go.Proofs.YtjgnjjphankhnaaGreat
open Go.RowKit
theorem step_append_w9 {P : Program} {w W : World} {ops : Array Oper} {o : Oper} {a : Act} {K : Act → World → Prop} {Q : Exit → Act → World → Prop} {E : Prop} {e : TypeId} {x1 x2 : Int} (hW : W = w.alloc (.cells #[.int .i64 x1, .int .i64 x2] e)) (hg : o.guard = none) (s y : Operand) (t : TypeId)
    (ho : o.op = .call { callee := .builtin .append, args := #[s, y], argTypes := #[t, t] })
    (base B : Nat) (i : TypeInfo) (z : Value) (nb : Nat) (ht : P.underlying t = some (.slice e)) (hi : P.info? e = some i) (hz : i.zero = some z) (hsize : i.size = 1) (hby : i.bytes = nb) (hzs : z.cells.size = 1)
    (v : Value) (xs : List Value) (hs : a.eval s = v) (hown : OwnV w base e v xs)
    (hx : a.eval y = .slice (some ⟨w.heap.size, 0, none⟩) 2 2)
    (h63 : xs.length + 2 ≤ maxLen) (hbytes : (xs.length + 2) * nb ≤ 140737488355328) (hB : B ≤ base) (hbase : base ≤ w.heap.size) {w00 : World} (hbel : Below B w00 w)
    (h : ∀ v' w', OwnV w' base e v' (xs ++ [.int .i64 x1, .int .i64 x2]) → Below B w00 w' → K (a.put o.dst v') w') :
    if Region.wanted o (yielded ops a.tmps) = true then Oper.wp P o a W K Q else E := by
  subst hW
  have hw : Region.wanted o (yielded ops a.tmps) = true := by simp [Region.wanted, hg]
  rw [if_pos hw]
  exact wp_append_vals s y t ho base B e i z nb ht hi hz hsize hby hzs v xs hs (hown.alloc _) w.heap.size #[.int .i64 x1, .int .i64 x2] (heap_alloc_new w _) [.int .i64 x1, .int .i64 x2] rfl (by intro u hu; simp only [List.mem_cons, List.not_mem_nil, or_false] at hu; rcases hu with rfl | rfl <;> rfl) 2 2 rfl hx h63 hbytes hB (by simp; omega) (hbel.alloc (by omega) _) h
theorem pre_two (f : Nat → Int) (k : Nat) : preL f (2 * (k + 1)) = preL f (2 * k) ++ [f (2 * k), f (2 * k + 1)] := by
  rw [show 2 * (k + 1) = 2 * k + 1 + 1 by omega, preL_succ, preL_succ, List.append_assoc]
  rfl
end Go.Proofs.YtjgnjjphankhnaaGreat

