/- Things, reckoned: their cells, what is right, their texts, and how a text is read. -/
import Derived.Test.YtecbpplocokedaaByY
import Derived.Test.YtecbpplocokedaaTrv
import Derived.Test.YtecbpplocokedaaRvo
namespace Go.Proofs.Ytecbpplocokedaa
open Go.RowKit
theorem varB_two9 {n : Nat} (h : n ≤ 16383) : (varB n).length ≤ 2 := by
  by_cases h1 : n ≤ 127
  · rw [varB_small h1]; simp
  · rw [varB_big h1, List.length_cons, varB_small (by omega)]
    simp
structure Th where
  id : Int
  kind : Int
  hid : Bool
  fix : Bool
  sgn : Bool
  wrp : Bool
  val : ByteArray
  nxt : Int
def thC (x : Th) : Array Value := #[.int .i64 x.id, .int .i64 x.kind, .bool x.hid, .bool x.fix, .bool x.sgn, .bool x.wrp, .string x.val, .int .i64 x.nxt]
def thZ : Th := ⟨0, 0, false, false, false, false, ⟨#[]⟩, 0⟩
abbrev ThOk (x : Th) : Prop := 1 ≤ x.id ∧ x.id ≤ 1000 ∧ 1 ≤ x.kind ∧ x.kind ≤ 3 ∧ 0 ≤ x.nxt ∧ x.nxt ≤ 16 ∧ (x.kind ≠ 2 → x.nxt = 0 ∧ x.sgn = false) ∧ (x.kind ≠ 1 → x.wrp = false) ∧ (x.kind = 3 → x.val.size ≤ 100) ∧ (x.kind ≠ 3 → x.val.size = 32)
def thOk (x : Th) : Bool := decide (ThOk x)
theorem thOk_iff (x : Th) : thOk x = true ↔ ThOk x := by unfold thOk; exact decide_eq_true_iff
theorem thOk_not (x : Th) : thOk x = false ↔ ¬ ThOk x := by unfold thOk; exact decide_eq_false_iff_not
def flB (b : Bool) (n : Nat) : Nat := if b then n else 0
def fl (x : Th) : Nat := flB x.hid 1 + flB x.fix 2 + flB x.sgn 4 + flB x.wrp 8
theorem fl_lt (x : Th) : fl x ≤ 15 := by
  unfold fl flB
  split <;> split <;> split <;> split <;> omega
def flN (h f s w : Bool) : Nat := flB h 1 + flB f 2 + flB s 4 + flB w 8
theorem flN_bits (h f s w : Bool) : decide (flN h f s w % 2 = 1) = h ∧ decide (flN h f s w / 2 % 2 = 1) = f ∧ decide (flN h f s w / 4 % 2 = 1) = s ∧ decide (flN h f s w / 8 % 2 = 1) = w := by
  cases h <;> cases f <;> cases s <;> cases w <;> decide
theorem fl_bits (x : Th) : decide (fl x % 2 = 1) = x.hid ∧ decide (fl x / 2 % 2 = 1) = x.fix ∧ decide (fl x / 4 % 2 = 1) = x.sgn ∧ decide (fl x / 8 % 2 = 1) = x.wrp := flN_bits x.hid x.fix x.sgn x.wrp
/-- The text of a thing, a byte behind the other. -/
def thL (x : Th) : List UInt8 := varB x.id.toNat ++ (byteOf x.kind.toNat :: byteOf (fl x) :: (varB x.val.size ++ (x.val.data.toList ++ varB x.nxt.toNat)))
def thT (x : Th) : ByteArray := ⟨(thL x).toArray⟩
def byA9 (s : ByteArray) (i : Nat) : Nat := (s.data.getD i 0).toNat
/-- A reader's place in a text, and whether it went wrong. -/
def vrS (t : ByteArray) (a : Nat) (b : Bool) : Nat × Nat × Bool := if b then (0, a, true) else match rvRun t a a 1 0 with | none => (0, a, true) | some (n, j) => (n, j, false)
def tkS (t : ByteArray) (a : Nat) (b : Bool) (n : Nat) : ByteArray × Nat × Bool := if b = true ∨ t.size - a < n then (⟨#[]⟩, a, true) else (t.extract a (a + n), a + n, false)
def onS (t : ByteArray) (a : Nat) (b : Bool) : Nat × Nat × Bool := if (tkS t a b 1).2.2 then (0, (tkS t a b 1).2) else (byA9 (tkS t a b 1).1 0, (tkS t a b 1).2)
def shS (t : ByteArray) (a : Nat) (b : Bool) : ByteArray × Nat × Bool := tkS t (vrS t a b).2.1 (vrS t a b).2.2 (vrS t a b).1
theorem vrS_le (t : ByteArray) (a : Nat) (b : Bool) (h : a ≤ t.size) : (vrS t a b).2.1 ≤ t.size := by
  unfold vrS
  split
  · exact h
  · split
    · exact h
    · rename_i n j hr
      exact (rvRun_own h hr).2.1
theorem vrS_num (t : ByteArray) (a : Nat) (b : Bool) (h : a ≤ t.size) : (vrS t a b).1 ≤ 1000000000 := by
  unfold vrS
  split
  · exact Nat.zero_le _
  · split
    · exact Nat.zero_le _
    · rename_i n j hr
      exact (rvRun_own h hr).2.2.2.1
theorem tkS_le (t : ByteArray) (a : Nat) (b : Bool) (n : Nat) (h : a ≤ t.size) : (tkS t a b n).2.1 ≤ t.size := by
  unfold tkS
  split
  · exact h
  · rename_i hc
    show a + n ≤ t.size
    omega
theorem onS_le (t : ByteArray) (a : Nat) (b : Bool) (h : a ≤ t.size) : (onS t a b).2.1 ≤ t.size := by
  unfold onS
  split <;> exact tkS_le t a b 1 h
theorem onS_lt (t : ByteArray) (a : Nat) (b : Bool) : (onS t a b).1 < 256 := by
  unfold onS
  split
  · show 0 < 256; omega
  · exact UInt8.toNat_lt _
theorem shS_le (t : ByteArray) (a : Nat) (b : Bool) (h : a ≤ t.size) : (shS t a b).2.1 ≤ t.size := tkS_le _ _ _ _ (vrS_le t a b h)
theorem tkS_size (t : ByteArray) (a : Nat) (b : Bool) (n : Nat) : (tkS t a b n).1.size ≤ t.size := by
  unfold tkS
  split
  · exact Nat.zero_le _
  · show (t.extract a (a + n)).size ≤ _
    rw [ByteArray.size_extract]; omega
/-- What is read of a text, right or not. -/
def rdX (t : ByteArray) : Th × Bool :=
  let r1 := vrS t 0 false
  let r2 := onS t r1.2.1 r1.2.2
  let r3 := onS t r2.2.1 r2.2.2
  let r4 := shS t r3.2.1 r3.2.2
  let r5 := vrS t r4.2.1 r4.2.2
  (⟨(r1.1 : Int), (r2.1 : Int), decide (r3.1 % 2 = 1), decide (r3.1 / 2 % 2 = 1), decide (r3.1 / 4 % 2 = 1), decide (r3.1 / 8 % 2 = 1), r4.1, (r5.1 : Int)⟩, r5.2.2)
def rdOk (t : ByteArray) : Bool := decide ((rdX t).2 = false ∧ ThOk (rdX t).1 ∧ thT (rdX t).1 = t)
def rdTh (t : ByteArray) : Th := if rdOk t = true then (rdX t).1 else thZ
theorem rdOk_iff (t : ByteArray) : rdOk t = true ↔ ((rdX t).2 = false ∧ ThOk (rdX t).1 ∧ thT (rdX t).1 = t) := by unfold rdOk; exact decide_eq_true_iff
theorem rd_right {t : ByteArray} (h : rdOk t = true) : thOk (rdTh t) = true ∧ thT (rdTh t) = t := by
  have h1 := (rdOk_iff t).1 h
  unfold rdTh
  rw [if_pos h]
  exact ⟨(thOk_iff _).2 h1.2.1, h1.2.2⟩
theorem vr_at {t : ByteArray} {a n : Nat} {rest : List UInt8} (h : t.data.toList.drop a = varB n ++ rest) (hn : n ≤ 1000000000) : vrS t a false = (n, a + (varB n).length, false) ∧ t.data.toList.drop (a + (varB n).length) = rest := by
  constructor
  · unfold vrS
    rw [if_neg (by simp), read_var t a n rest h hn]
  · rw [← List.drop_drop, h, List.drop_left]
theorem tk_at {t : ByteArray} {a : Nat} {x rest : List UInt8} (h : t.data.toList.drop a = x ++ rest) (_ : a ≤ t.size) : tkS t a false x.length = (⟨x.toArray⟩, a + x.length, false) ∧ t.data.toList.drop (a + x.length) = rest := by
  have hl : t.size - a = x.length + rest.length := by
    have := congrArg List.length h
    rw [List.length_drop, List.length_append] at this
    exact this
  constructor
  · unfold tkS
    rw [if_neg (by simp; omega)]
    refine Prod.ext ?_ rfl
    show t.extract a (a + x.length) = _
    apply ByteArray.ext
    apply Array.toList_inj.1
    have e : (t.extract a (a + x.length)).data.toList = (t.data.toList.drop a).take (a + x.length - a) := by rw [ByteArray.data_extract]; simp
    rw [e, h, show a + x.length - a = x.length by omega, List.take_left]
  · rw [← List.drop_drop, h, List.drop_left]
theorem on_at {t : ByteArray} {a : Nat} {b : UInt8} {rest : List UInt8} (h : t.data.toList.drop a = b :: rest) (ha : a ≤ t.size) : onS t a false = (b.toNat, a + 1, false) ∧ t.data.toList.drop (a + 1) = rest := by
  have h1 := tk_at (x := [b]) (rest := rest) h ha
  refine ⟨?_, h1.2⟩
  unfold onS
  have e : tkS t a false 1 = (⟨#[b]⟩, a + 1, false) := h1.1
  rw [e]
  rfl
theorem le_of_drop {t : ByteArray} {a : Nat} {x : UInt8} {l : List UInt8} (h : t.data.toList.drop a = x :: l) : a ≤ t.size := by
  have e := congrArg List.length h
  rw [List.length_drop, List.length_cons] at e
  have : t.data.toList.length = t.size := rfl
  omega
/-- What is written of a right thing is read so. -/
theorem rdX_thT {x : Th} (h : ThOk x) : rdX (thT x) = (x, false) := by
  obtain ⟨i1, i2, k1, k2, n1, n2, _, _, hv3, hv2⟩ := h
  have hvz : x.val.size ≤ 100 := by
    by_cases e : x.kind = 3
    · exact hv3 e
    · have := hv2 e; omega
  have hf := fl_lt x
  have h0 : (thT x).data.toList.drop 0 = varB x.id.toNat ++ (byteOf x.kind.toNat :: byteOf (fl x) :: (varB x.val.size ++ (x.val.data.toList ++ varB x.nxt.toNat))) := rfl
  obtain ⟨e1, h1⟩ := vr_at h0 (by omega)
  obtain ⟨e2, h2⟩ := on_at h1 (le_of_drop h1)
  obtain ⟨e3, h3⟩ := on_at h2 (le_of_drop h2)
  obtain ⟨e4, h4⟩ := vr_at h3 (by omega)
  have hle : 0 + (varB x.id.toNat).length + 1 + 1 + (varB x.val.size).length ≤ (thT x).size := by
    have e := congrArg List.length h0
    rw [List.length_drop] at e
    have : (thT x).data.toList.length = (thT x).size := rfl
    simp only [List.length_append, List.length_cons] at e
    omega
  obtain ⟨e5, h5⟩ := tk_at h4 hle
  have h5' : (thT x).data.toList.drop (0 + (varB x.id.toNat).length + 1 + 1 + (varB x.val.size).length + x.val.data.toList.length) = varB x.nxt.toNat ++ [] := by rw [List.append_nil]; exact h5
  obtain ⟨e6, _⟩ := vr_at h5' (by omega)
  have e45 : shS (thT x) (0 + (varB x.id.toNat).length + 1 + 1) false = (⟨x.val.data.toList.toArray⟩, 0 + (varB x.id.toNat).length + 1 + 1 + (varB x.val.size).length + x.val.data.toList.length, false) := by
    unfold shS
    rw [e4]
    exact e5
  have hfl := fl_bits x
  have hkb : (byteOf x.kind.toNat).toNat = x.kind.toNat := byteOf_toNat (by omega)
  have hfb : (byteOf (fl x)).toNat = fl x := byteOf_toNat (by omega)
  unfold rdX
  simp only [e1, e2, e3, e45, e6, hkb, hfb]
  obtain ⟨b1, b2, b3, b4⟩ := hfl
  rw [b1, b2, b3, b4]
  have hi : ((x.id.toNat : Nat) : Int) = x.id := by omega
  have hk : ((x.kind.toNat : Nat) : Int) = x.kind := by omega
  have hn : ((x.nxt.toNat : Nat) : Int) = x.nxt := by omega
  have hvv : (⟨x.val.data.toList.toArray⟩ : ByteArray) = x.val := by simp
  rw [hi, hk, hn, hvv]
theorem rd_thT {x : Th} (h : thOk x = true) : rdOk (thT x) = true ∧ rdTh (thT x) = x := by
  have h1 := rdX_thT ((thOk_iff x).1 h)
  have h2 : rdOk (thT x) = true := by
    rw [rdOk_iff, h1]
    exact ⟨rfl, (thOk_iff x).1 h, rfl⟩
  refine ⟨h2, ?_⟩
  unfold rdTh
  rw [if_pos h2, h1]
theorem thT_inj {x y : Th} (hx : thOk x = true) (hy : thOk y = true) (h : thT x = thT y) : x = y := by
  have h1 := (rd_thT hx).2
  have h2 := (rd_thT hy).2
  rw [← h1, h, h2]
theorem rd_not {t : ByteArray} (h : rdOk t = false) (x : Th) (hx : thOk x = true) : ¬ thT x = t := by
  intro e
  have h1 := (rd_thT hx).1
  rw [e, h] at h1
  cases h1
theorem rdTh_no {t : ByteArray} (h : rdOk t = false) : rdTh t = thZ := by
  unfold rdTh
  rw [if_neg (by rw [h]; simp)]
theorem thT_le {x : Th} (h : thOk x = true) : (thT x).size ≤ 200 := by
  have hh := (thOk_iff x).1 h
  obtain ⟨i1, i2, k1, k2, n1, n2, _, _, hv3, hv2⟩ := hh
  have hvz : x.val.size ≤ 100 := by
    by_cases e : x.kind = 3
    · exact hv3 e
    · have := hv2 e; omega
  show (thL x).length ≤ 200
  unfold thL
  have a1 := varB_two9 (n := x.id.toNat) (by omega)
  have a2 := varB_two9 (n := x.val.size) (by omega)
  have a3 := varB_two9 (n := x.nxt.toNat) (by omega)
  have a4 : x.val.data.toList.length = x.val.size := rfl
  simp only [List.length_append, List.length_cons]
  omega
end Go.Proofs.Ytecbpplocokedaa
