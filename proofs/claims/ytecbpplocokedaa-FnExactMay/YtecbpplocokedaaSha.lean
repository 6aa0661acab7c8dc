/- The digest's words, reckoned on whole numbers below 2^32. -/
import Derived.Test.YtecbpplocokedaaBase
import Derived.Laws.BitsLemmas
import Derived.Laws.BitsAllLaws
namespace Go.Proofs.Ytecbpplocokedaa
open Go.RowKit

def rot (k x : Nat) : Nat := x / 2 ^ k + x % 2 ^ k * 2 ^ (32 - k)
def sg3 (a b c x : Nat) : Nat := rot a x ^^^ rot b x ^^^ rot c x
def sg2 (a b c x : Nat) : Nat := rot a x ^^^ rot b x ^^^ (x / 2 ^ c)
def chN (e f g : Nat) : Nat := (e &&& f) ^^^ ((4294967295 - e) &&& g)
def majN (a b c : Nat) : Nat := (a &&& b) ^^^ (a &&& c) ^^^ (b &&& c)
def wordN (a b c d : Nat) : Nat := a * 16777216 + b * 65536 + c * 256 + d

theorem two_split {k : Nat} (hk : k ≤ 32) : 2 ^ k * 2 ^ (32 - k) = 4294967296 := by
  rw [← Nat.pow_add, show k + (32 - k) = 32 by omega]

theorem rot_parts {k x : Nat} (hk : k ≤ 32) (hx : x < 4294967296) : x / 2 ^ k < 2 ^ (32 - k) ∧ x % 2 ^ k * 2 ^ (32 - k) + 2 ^ (32 - k) ≤ 4294967296 := by
  have h := two_split hk
  refine ⟨Nat.div_lt_of_lt_mul (by rw [h]; exact hx), ?_⟩
  have hm : x % 2 ^ k < 2 ^ k := Nat.mod_lt _ (Nat.two_pow_pos k)
  have := Nat.mul_le_mul_right (2 ^ (32 - k)) (show x % 2 ^ k + 1 ≤ 2 ^ k by omega)
  rw [h, Nat.add_mul] at this
  omega

theorem rot_lt {k x : Nat} (hk : k ≤ 32) (hx : x < 4294967296) : rot k x < 4294967296 := by
  have := rot_parts hk hx
  unfold rot
  omega

theorem xor32 {a b : Nat} (ha : a < 4294967296) (hb : b < 4294967296) : a ^^^ b < 4294967296 := Nat.xor_lt_two_pow (n := 32) ha hb
theorem and32 {a b : Nat} (ha : a < 4294967296) : a &&& b < 4294967296 := Nat.lt_of_le_of_lt Nat.and_le_left ha
theorem or32 {a b : Nat} (ha : a < 4294967296) (hb : b < 4294967296) : a ||| b < 4294967296 := Nat.or_lt_two_pow (n := 32) ha hb

theorem sg3_lt {a b c x : Nat} (ha : a ≤ 32) (hb : b ≤ 32) (hc : c ≤ 32) (hx : x < 4294967296) : sg3 a b c x < 4294967296 :=
  xor32 (xor32 (rot_lt ha hx) (rot_lt hb hx)) (rot_lt hc hx)
theorem sg2_lt {a b c x : Nat} (ha : a ≤ 32) (hb : b ≤ 32) (hx : x < 4294967296) : sg2 a b c x < 4294967296 :=
  xor32 (xor32 (rot_lt ha hx) (rot_lt hb hx)) (Nat.lt_of_le_of_lt (Nat.div_le_self _ _) hx)
theorem chN_lt {e f g : Nat} (he : e < 4294967296) : chN e f g < 4294967296 := xor32 (and32 he) (and32 (by omega))
theorem majN_lt {a b c : Nat} (ha : a < 4294967296) (hb : b < 4294967296) : majN a b c < 4294967296 := xor32 (xor32 (and32 ha) (and32 ha)) (and32 hb)

theorem not_bit {e : Nat} (he : e < 4294967296) (i : Nat) : (4294967295 - e).testBit i = (decide (i < 32) && !e.testBit i) := by
  have := Nat.testBit_two_pow_sub_succ (n := 32) (x := e) he i
  rw [show (2 : Nat) ^ 32 - (e + 1) = 4294967295 - e by omega] at this
  exact this

theorem ch_or {e f g : Nat} (he : e < 4294967296) : (e &&& f) ||| ((4294967295 - e) &&& g) = chN e f g := by
  unfold chN
  apply Nat.eq_of_testBit_eq
  intro i
  rw [Nat.testBit_or, Nat.testBit_xor, Nat.testBit_and, Nat.testBit_and, not_bit he]
  cases e.testBit i <;> cases f.testBit i <;> cases g.testBit i <;> cases decide (i < 32) <;> rfl

theorem maj_or (a b c : Nat) : (a &&& b) ||| (a &&& c) ||| (b &&& c) = majN a b c := by
  unfold majN
  apply Nat.eq_of_testBit_eq
  intro i
  simp only [Nat.testBit_or, Nat.testBit_xor, Nat.testBit_and]
  cases a.testBit i <;> cases b.testBit i <;> cases c.testBit i <;> rfl

theorem word_or {a b c d : Nat} (_ : a < 256) (hb : b < 256) (hc : c < 256) (hd : d < 256) : (((a * 16777216) ||| (b * 65536)) ||| (c * 256)) ||| d = wordN a b c d := by
  unfold wordN
  rw [nat_join 24 (a * 16777216) (b * 65536) (by omega) (by omega)]
  rw [nat_join 16 (a * 16777216 + b * 65536) (c * 256) (by omega) (by omega)]
  rw [nat_join 8 (a * 16777216 + b * 65536 + c * 256) d (by omega) (by omega)]
theorem wordN_lt {a b c d : Nat} (ha : a < 256) (hb : b < 256) (hc : c < 256) (hd : d < 256) : wordN a b c d < 4294967296 := by unfold wordN; omega

theorem rot_or {k x : Nat} (hk : k ≤ 32) (hx : x < 4294967296) : (x * 2 ^ (32 - k) % 4294967296) ||| (x / 2 ^ k) = rot k x := by
  have hp := rot_parts hk hx
  have h := two_split hk
  have e : x * 2 ^ (32 - k) % 4294967296 = x % 2 ^ k * 2 ^ (32 - k) := by
    rw [← h, Nat.mul_mod_mul_right]
  rw [e, nat_join (32 - k) _ _ (Nat.mul_mod_left _ _) hp.1]
  unfold rot
  omega

/- the bytes of a word, and of words -/
def bytesW (x : Nat) : List UInt8 := [byteOf (x / 16777216 % 256), byteOf (x / 65536 % 256), byteOf (x / 256 % 256), byteOf (x % 256)]
def bytesL : List Nat → List UInt8
  | [] => []
  | x :: l => bytesW x ++ bytesL l
theorem bytesL_len (l : List Nat) : (bytesL l).length = 4 * l.length := by
  induction l with
  | nil => rfl
  | cons x l ih => simp only [bytesL, List.length_append, List.length_cons, ih]; simp [bytesW]; omega
theorem bytesL_append (l m : List Nat) : bytesL (l ++ m) = bytesL l ++ bytesL m := by
  induction l with
  | nil => rfl
  | cons x l ih => simp only [List.cons_append, bytesL, ih, List.append_assoc]

/- the words of a row of bytes: n of them -/
def byteAt (s : ByteArray) (i : Nat) : Nat := (s.data.toList.getD i 0).toNat
def wAt (s : ByteArray) (i : Nat) : Nat := wordN (byteAt s i) (byteAt s (i + 1)) (byteAt s (i + 2)) (byteAt s (i + 3))
theorem byteAt_lt (s : ByteArray) (i : Nat) : byteAt s i < 256 := (s.data.toList.getD i 0).toNat_lt
theorem byteAt_eq (s : ByteArray) (i : Nat) (h : i < s.size) : byteAt s i = s[i].toNat := by
  have hl : i < s.data.toList.length := by simpa using h
  unfold byteAt
  rw [List.getD_eq_getElem?_getD, List.getElem?_eq_getElem hl]
  rfl
theorem wAt_lt (s : ByteArray) (i : Nat) : wAt s i < 4294967296 := wordN_lt (byteAt_lt _ _) (byteAt_lt _ _) (byteAt_lt _ _) (byteAt_lt _ _)
def wordsN (s : ByteArray) (n : Nat) : List Nat := (List.range n).map fun i => wAt s (4 * i)
theorem wordsN_len (s : ByteArray) (n : Nat) : (wordsN s n).length = n := by simp [wordsN]
theorem wordsN_succ (s : ByteArray) (n : Nat) : wordsN s (n + 1) = wordsN s n ++ [wAt s (4 * n)] := by
  unfold wordsN; rw [List.range_succ, List.map_append]; rfl

/- one more word of the sixty-four -/
def at_ (l : List Nat) (i : Nat) : Nat := l.getD i 0
def moreW (l : List Nat) (t : Nat) : Nat := (sg2 17 19 10 (at_ l (t - 2)) + at_ l (t - 7) + sg2 7 18 3 (at_ l (t - 15)) + at_ l (t - 16)) % 4294967296
def schedN (l : List Nat) : Nat → List Nat
  | 0 => l
  | n + 1 => schedN l n ++ [moreW (schedN l n) (16 + n)]
theorem schedN_len (l : List Nat) (h : l.length = 16) (n : Nat) : (schedN l n).length = 16 + n := by
  induction n with
  | zero => exact h
  | succ n ih => simp only [schedN, List.length_append, ih, List.length_singleton]; omega

def kTab : List Nat := [1116352408, 1899447441, 3049323471, 3921009573, 961987163, 1508970993, 2453635748, 2870763221, 3624381080, 310598401, 607225278, 1426881987, 1925078388, 2162078206, 2614888103, 3248222580, 3835390401, 4022224774, 264347078, 604807628, 770255983, 1249150122, 1555081692, 1996064986, 2554220882, 2821834349, 2952996808, 3210313671, 3336571891, 3584528711, 113926993, 338241895, 666307205, 773529912, 1294757372, 1396182291, 1695183700, 1986661051, 2177026350, 2456956037, 2730485921, 2820302411, 3259730800, 3345764771, 3516065817, 3600352804, 4094571909, 275423344, 430227734, 506948616, 659060556, 883997877, 958139571, 1322822218, 1537002063, 1747873779, 1955562222, 2024104815, 2227730452, 2361852424, 2428436474, 2756734187, 3204031479, 3329325298]
def firstSt : List Nat := [1779033703, 3144134277, 1013904242, 2773480762, 1359893119, 2600822924, 528734635, 1541459225]

/- one of the sixty-four steps, and a block's round -/
structure V8 where
  a : Nat
  b : Nat
  c : Nat
  d : Nat
  e : Nat
  f : Nat
  g : Nat
  h : Nat
def V8.toL (v : V8) : List Nat := [v.a, v.b, v.c, v.d, v.e, v.f, v.g, v.h]
def V8.ok (v : V8) : Prop := v.a < 4294967296 ∧ v.b < 4294967296 ∧ v.c < 4294967296 ∧ v.d < 4294967296 ∧ v.e < 4294967296 ∧ v.f < 4294967296 ∧ v.g < 4294967296 ∧ v.h < 4294967296
def V8.t1 (v : V8) (k w : Nat) : Nat := (v.h + sg3 6 11 25 v.e + chN v.e v.f v.g + k + w) % 4294967296
def V8.t2 (v : V8) : Nat := (sg3 2 13 22 v.a + majN v.a v.b v.c) % 4294967296
def V8.step (v : V8) (k w : Nat) : V8 := ⟨(v.t1 k w + v.t2) % 4294967296, v.a, v.b, v.c, (v.d + v.t1 k w) % 4294967296, v.e, v.f, v.g⟩
def V8.steps (ws : List Nat) : Nat → V8 → V8
  | 0, v => v
  | n + 1, v => (V8.steps ws n v).step (at_ kTab n) (at_ ws n)
def V8.plus (v u : V8) : V8 := ⟨(v.a + u.a) % 4294967296, (v.b + u.b) % 4294967296, (v.c + u.c) % 4294967296, (v.d + u.d) % 4294967296, (v.e + u.e) % 4294967296, (v.f + u.f) % 4294967296, (v.g + u.g) % 4294967296, (v.h + u.h) % 4294967296⟩
def roundW (v : V8) (block : ByteArray) : V8 := v.plus (V8.steps (schedN (wordsN block 16) 48) 64 v)
theorem V8.step_ok {v : V8} (h : v.ok) (k w : Nat) : (v.step k w).ok := by
  obtain ⟨h1, h2, h3, h4, h5, h6, h7, h8⟩ := h
  exact ⟨Nat.mod_lt _ (by decide), h1, h2, h3, Nat.mod_lt _ (by decide), h5, h6, h7⟩
theorem V8.steps_ok {v : V8} (h : v.ok) (ws : List Nat) (n : Nat) : (V8.steps ws n v).ok := by
  induction n with
  | zero => exact h
  | succ n ih => exact V8.step_ok ih _ _
theorem V8.plus_ok (v u : V8) : (v.plus u).ok := ⟨Nat.mod_lt _ (by decide), Nat.mod_lt _ (by decide), Nat.mod_lt _ (by decide), Nat.mod_lt _ (by decide), Nat.mod_lt _ (by decide), Nat.mod_lt _ (by decide), Nat.mod_lt _ (by decide), Nat.mod_lt _ (by decide)⟩
theorem roundW_ok (v : V8) (b : ByteArray) : (roundW v b).ok := V8.plus_ok _ _
/- n blocks of a text, from its place p on -/
def blocksW (v : V8) (s : ByteArray) (p : Nat) : Nat → V8
  | 0 => v
  | n + 1 => roundW (blocksW v s p n) (s.extract (p + 64 * n) (p + 64 * n + 64))
theorem blocksW_ok {v : V8} (h : v.ok) (s : ByteArray) (p n : Nat) : (blocksW v s p n).ok := by
  cases n with
  | zero => exact h
  | succ n => exact roundW_ok _ _

def stOf (s : ByteArray) : V8 := ⟨wAt s 0, wAt s 4, wAt s 8, wAt s 12, wAt s 16, wAt s 20, wAt s 24, wAt s 28⟩
theorem stOf_ok (s : ByteArray) : (stOf s).ok := ⟨wAt_lt _ _, wAt_lt _ _, wAt_lt _ _, wAt_lt _ _, wAt_lt _ _, wAt_lt _ _, wAt_lt _ _, wAt_lt _ _⟩
theorem stOf_toL (s : ByteArray) : (stOf s).toL = wordsN s 8 := rfl
def first8 : V8 := ⟨1779033703, 3144134277, 1013904242, 2773480762, 1359893119, 2600822924, 528734635, 1541459225⟩
theorem first8_ok : first8.ok := by unfold first8 V8.ok; decide
def V8.text (v : V8) : ByteArray := ⟨(bytesL v.toL).toArray⟩
theorem V8.text_size (v : V8) : v.text.size = 32 := by
  show (bytesL v.toL).toArray.size = 32
  rw [List.size_toArray, bytesL_len]; rfl
end Go.Proofs.Ytecbpplocokedaa
