/- Merged: Sha, ShaI, Arr, ShaW, ShaN, ShaT. -/
import Derived.Test.YtinnaajkdkfnaaaMga1
import Derived.Test.YtinnaajkdkfnaaaMga2
import Derived.Laws.BitsLemmas
import Derived.Laws.BitsAllLaws
import Derived.Test.YtinnaajkdkfnaaaProg
import Derived.Test.YtinnaajkdkfnaaaChecked
import Derived.Deep.RegionWith
import Derived.Deep.RegionHeld3
import Derived.Laws.Rows
import Derived.Laws.Tables
import Derived.Laws.CopyOwn
import Derived.Deep.QuietTactic
/- The digest's words, reckoned on whole numbers below 2^32. -/
namespace Go.Proofs.Ytinnaajkdkfnaaa
open Go.RowKit

def rot (k x : Nat) : Nat := x / 2 ^ k + x % 2 ^ k * 2 ^ (32 - k)
def sg3 (a b c x : Nat) : Nat := rot a x ^^^ rot b x ^^^ rot c x
def sg2 (a b c x : Nat) : Nat := rot a x ^^^ rot b x ^^^ (x / 2 ^ c)
def chN (e f g : Nat) : Nat := (e &&& f) ^^^ ((4294967295 - e) &&& g)
def majN (a b c : Nat) : Nat := (a &&& b) ^^^ (a &&& c) ^^^ (b &&& c)
def wordN (a b c d : Nat) : Nat := a * 16777216 + b * 65536 + c * 256 + d

theorem two_split {k : Nat} (hk : k ≤ 32) : 2 ^ k * 2 ^ (32 - k) = 4294967296 := by
  rw [← Nat.pow_add, show k + (32 - k) = 32 by omega]

theorem rot_parts {k x : Nat} (hk : k ≤ 32) (hx : x < 4294967296) : x / 2 ^ k < 2 ^ (32 - k) ∧ x % 2 ^ k * 2 ^ (32 - k) + 2 ^ (32 - k) ≤ 4294967296 := by
  have h := two_split hk
  refine ⟨Nat.div_lt_of_lt_mul (by rw [h]; exact hx), ?_⟩
  have hm : x % 2 ^ k < 2 ^ k := Nat.mod_lt _ (Nat.two_pow_pos k)
  have := Nat.mul_le_mul_right (2 ^ (32 - k)) (show x % 2 ^ k + 1 ≤ 2 ^ k by omega)
  rw [h, Nat.add_mul] at this
  omega

theorem rot_lt {k x : Nat} (hk : k ≤ 32) (hx : x < 4294967296) : rot k x < 4294967296 := by
  have := rot_parts hk hx
  unfold rot
  omega

theorem xor32 {a b : Nat} (ha : a < 4294967296) (hb : b < 4294967296) : a ^^^ b < 4294967296 := Nat.xor_lt_two_pow (n := 32) ha hb
theorem and32 {a b : Nat} (ha : a < 4294967296) : a &&& b < 4294967296 := Nat.lt_of_le_of_lt Nat.and_le_left ha
theorem or32 {a b : Nat} (ha : a < 4294967296) (hb : b < 4294967296) : a ||| b < 4294967296 := Nat.or_lt_two_pow (n := 32) ha hb

theorem sg3_lt {a b c x : Nat} (ha : a ≤ 32) (hb : b ≤ 32) (hc : c ≤ 32) (hx : x < 4294967296) : sg3 a b c x < 4294967296 :=
  xor32 (xor32 (rot_lt ha hx) (rot_lt hb hx)) (rot_lt hc hx)
theorem sg2_lt {a b c x : Nat} (ha : a ≤ 32) (hb : b ≤ 32) (hx : x < 4294967296) : sg2 a b c x < 4294967296 :=
  xor32 (xor32 (rot_lt ha hx) (rot_lt hb hx)) (Nat.lt_of_le_of_lt (Nat.div_le_self _ _) hx)
theorem chN_lt {e f g : Nat} (he : e < 4294967296) : chN e f g < 4294967296 := xor32 (and32 he) (and32 (by omega))
theorem majN_lt {a b c : Nat} (ha : a < 4294967296) (hb : b < 4294967296) : majN a b c < 4294967296 := xor32 (xor32 (and32 ha) (and32 ha)) (and32 hb)

theorem not_bit {e : Nat} (he : e < 4294967296) (i : Nat) : (4294967295 - e).testBit i = (decide (i < 32) && !e.testBit i) := by
  have := Nat.testBit_two_pow_sub_succ (n := 32) (x := e) he i
  rw [show (2 : Nat) ^ 32 - (e + 1) = 4294967295 - e by omega] at this
  exact this

theorem ch_or {e f g : Nat} (he : e < 4294967296) : (e &&& f) ||| ((4294967295 - e) &&& g) = chN e f g := by
  unfold chN
  apply Nat.eq_of_testBit_eq
  intro i
  rw [Nat.testBit_or, Nat.testBit_xor, Nat.testBit_and, Nat.testBit_and, not_bit he]
  cases e.testBit i <;> cases f.testBit i <;> cases g.testBit i <;> cases decide (i < 32) <;> rfl

theorem maj_or (a b c : Nat) : (a &&& b) ||| (a &&& c) ||| (b &&& c) = majN a b c := by
  unfold majN
  apply Nat.eq_of_testBit_eq
  intro i
  simp only [Nat.testBit_or, Nat.testBit_xor, Nat.testBit_and]
  cases a.testBit i <;> cases b.testBit i <;> cases c.testBit i <;> rfl

theorem word_or {a b c d : Nat} (_ : a < 256) (hb : b < 256) (hc : c < 256) (hd : d < 256) : (((a * 16777216) ||| (b * 65536)) ||| (c * 256)) ||| d = wordN a b c d := by
  unfold wordN
  rw [nat_join 24 (a * 16777216) (b * 65536) (by omega) (by omega)]
  rw [nat_join 16 (a * 16777216 + b * 65536) (c * 256) (by omega) (by omega)]
  rw [nat_join 8 (a * 16777216 + b * 65536 + c * 256) d (by omega) (by omega)]
theorem wordN_lt {a b c d : Nat} (ha : a < 256) (hb : b < 256) (hc : c < 256) (hd : d < 256) : wordN a b c d < 4294967296 := by unfold wordN; omega

theorem rot_or {k x : Nat} (hk : k ≤ 32) (hx : x < 4294967296) : (x * 2 ^ (32 - k) % 4294967296) ||| (x / 2 ^ k) = rot k x := by
  have hp := rot_parts hk hx
  have h := two_split hk
  have e : x * 2 ^ (32 - k) % 4294967296 = x % 2 ^ k * 2 ^ (32 - k) := by
    rw [← h, Nat.mul_mod_mul_right]
  rw [e, nat_join (32 - k) _ _ (Nat.mul_mod_left _ _) hp.1]
  unfold rot
  omega

/- the bytes of a word, and of words -/
def bytesW (x : Nat) : List UInt8 := [byteOf (x / 16777216 % 256), byteOf (x / 65536 % 256), byteOf (x / 256 % 256), byteOf (x % 256)]
def bytesL : List Nat → List UInt8
  | [] => []
  | x :: l => bytesW x ++ bytesL l
theorem bytesL_len (l : List Nat) : (bytesL l).length = 4 * l.length := by
  induction l with
  | nil => rfl
  | cons x l ih => simp only [bytesL, List.length_append, List.length_cons, ih]; simp [bytesW]; omega
theorem bytesL_append (l m : List Nat) : bytesL (l ++ m) = bytesL l ++ bytesL m := by
  induction l with
  | nil => rfl
  | cons x l ih => simp only [List.cons_append, bytesL, ih, List.append_assoc]

/- the words of a row of bytes: n of them -/
def byteAt (s : ByteArray) (i : Nat) : Nat := (s.data.toList.getD i 0).toNat
def wAt (s : ByteArray) (i : Nat) : Nat := wordN (byteAt s i) (byteAt s (i + 1)) (byteAt s (i + 2)) (byteAt s (i + 3))
theorem byteAt_lt (s : ByteArray) (i : Nat) : byteAt s i < 256 := (s.data.toList.getD i 0).toNat_lt
theorem byteAt_eq (s : ByteArray) (i : Nat) (h : i < s.size) : byteAt s i = s[i].toNat := by
  have hl : i < s.data.toList.length := by simpa using h
  unfold byteAt
  rw [List.getD_eq_getElem?_getD, List.getElem?_eq_getElem hl]
  rfl
theorem wAt_lt (s : ByteArray) (i : Nat) : wAt s i < 4294967296 := wordN_lt (byteAt_lt _ _) (byteAt_lt _ _) (byteAt_lt _ _) (byteAt_lt _ _)
def wordsN (s : ByteArray) (n : Nat) : List Nat := (List.range n).map fun i => wAt s (4 * i)
theorem wordsN_len (s : ByteArray) (n : Nat) : (wordsN s n).length = n := by simp [wordsN]
theorem wordsN_succ (s : ByteArray) (n : Nat) : wordsN s (n + 1) = wordsN s n ++ [wAt s (4 * n)] := by
  unfold wordsN; rw [List.range_succ, List.map_append]; rfl

/- one more word of the sixty-four -/
def at_ (l : List Nat) (i : Nat) : Nat := l.getD i 0
def moreW (l : List Nat) (t : Nat) : Nat := (sg2 17 19 10 (at_ l (t - 2)) + at_ l (t - 7) + sg2 7 18 3 (at_ l (t - 15)) + at_ l (t - 16)) % 4294967296
def schedN (l : List Nat) : Nat → List Nat
  | 0 => l
  | n + 1 => schedN l n ++ [moreW (schedN l n) (16 + n)]
theorem schedN_len (l : List Nat) (h : l.length = 16) (n : Nat) : (schedN l n).length = 16 + n := by
  induction n with
  | zero => exact h
  | succ n ih => simp only [schedN, List.length_append, ih, List.length_singleton]; omega

def kTab : List Nat := [1116352408, 1899447441, 3049323471, 3921009573, 961987163, 1508970993, 2453635748, 2870763221, 3624381080, 310598401, 607225278, 1426881987, 1925078388, 2162078206, 2614888103, 3248222580, 3835390401, 4022224774, 264347078, 604807628, 770255983, 1249150122, 1555081692, 1996064986, 2554220882, 2821834349, 2952996808, 3210313671, 3336571891, 3584528711, 113926993, 338241895, 666307205, 773529912, 1294757372, 1396182291, 1695183700, 1986661051, 2177026350, 2456956037, 2730485921, 2820302411, 3259730800, 3345764771, 3516065817, 3600352804, 4094571909, 275423344, 430227734, 506948616, 659060556, 883997877, 958139571, 1322822218, 1537002063, 1747873779, 1955562222, 2024104815, 2227730452, 2361852424, 2428436474, 2756734187, 3204031479, 3329325298]
def firstSt : List Nat := [1779033703, 3144134277, 1013904242, 2773480762, 1359893119, 2600822924, 528734635, 1541459225]

/- one of the sixty-four steps, and a block's round -/
structure V8 where
  a : Nat
  b : Nat
  c : Nat
  d : Nat
  e : Nat
  f : Nat
  g : Nat
  h : Nat
def V8.toL (v : V8) : List Nat := [v.a, v.b, v.c, v.d, v.e, v.f, v.g, v.h]
def V8.ok (v : V8) : Prop := v.a < 4294967296 ∧ v.b < 4294967296 ∧ v.c < 4294967296 ∧ v.d < 4294967296 ∧ v.e < 4294967296 ∧ v.f < 4294967296 ∧ v.g < 4294967296 ∧ v.h < 4294967296
def V8.t1 (v : V8) (k w : Nat) : Nat := (v.h + sg3 6 11 25 v.e + chN v.e v.f v.g + k + w) % 4294967296
def V8.t2 (v : V8) : Nat := (sg3 2 13 22 v.a + majN v.a v.b v.c) % 4294967296
def V8.step (v : V8) (k w : Nat) : V8 := ⟨(v.t1 k w + v.t2) % 4294967296, v.a, v.b, v.c, (v.d + v.t1 k w) % 4294967296, v.e, v.f, v.g⟩
def V8.steps (ws : List Nat) : Nat → V8 → V8
  | 0, v => v
  | n + 1, v => (V8.steps ws n v).step (at_ kTab n) (at_ ws n)
def V8.plus (v u : V8) : V8 := ⟨(v.a + u.a) % 4294967296, (v.b + u.b) % 4294967296, (v.c + u.c) % 4294967296, (v.d + u.d) % 4294967296, (v.e + u.e) % 4294967296, (v.f + u.f) % 4294967296, (v.g + u.g) % 4294967296, (v.h + u.h) % 4294967296⟩
def roundW (v : V8) (block : ByteArray) : V8 := v.plus (V8.steps (schedN (wordsN block 16) 48) 64 v)
theorem V8.step_ok {v : V8} (h : v.ok) (k w : Nat) : (v.step k w).ok := by
  obtain ⟨h1, h2, h3, h4, h5, h6, h7, h8⟩ := h
  exact ⟨Nat.mod_lt _ (by decide), h1, h2, h3, Nat.mod_lt _ (by decide), h5, h6, h7⟩
theorem V8.steps_ok {v : V8} (h : v.ok) (ws : List Nat) (n : Nat) : (V8.steps ws n v).ok := by
  induction n with
  | zero => exact h
  | succ n ih => exact V8.step_ok ih _ _
theorem V8.plus_ok (v u : V8) : (v.plus u).ok := ⟨Nat.mod_lt _ (by decide), Nat.mod_lt _ (by decide), Nat.mod_lt _ (by decide), Nat.mod_lt _ (by decide), Nat.mod_lt _ (by decide), Nat.mod_lt _ (by decide), Nat.mod_lt _ (by decide), Nat.mod_lt _ (by decide)⟩
theorem roundW_ok (v : V8) (b : ByteArray) : (roundW v b).ok := V8.plus_ok _ _
/- n blocks of a text, from its place p on -/
def blocksW (v : V8) (s : ByteArray) (p : Nat) : Nat → V8
  | 0 => v
  | n + 1 => roundW (blocksW v s p n) (s.extract (p + 64 * n) (p + 64 * n + 64))
theorem blocksW_ok {v : V8} (h : v.ok) (s : ByteArray) (p n : Nat) : (blocksW v s p n).ok := by
  cases n with
  | zero => exact h
  | succ n => exact roundW_ok _ _

def stOf (s : ByteArray) : V8 := ⟨wAt s 0, wAt s 4, wAt s 8, wAt s 12, wAt s 16, wAt s 20, wAt s 24, wAt s 28⟩
theorem stOf_ok (s : ByteArray) : (stOf s).ok := ⟨wAt_lt _ _, wAt_lt _ _, wAt_lt _ _, wAt_lt _ _, wAt_lt _ _, wAt_lt _ _, wAt_lt _ _, wAt_lt _ _⟩
theorem stOf_toL (s : ByteArray) : (stOf s).toL = wordsN s 8 := rfl
def first8 : V8 := ⟨1779033703, 3144134277, 1013904242, 2773480762, 1359893119, 2600822924, 528734635, 1541459225⟩
theorem first8_ok : first8.ok := by unfold first8 V8.ok; decide
def V8.text (v : V8) : ByteArray := ⟨(bytesL v.toL).toArray⟩
theorem V8.text_size (v : V8) : v.text.size = 32 := by
  show (bytesL v.toL).toArray.size = 32
  rw [List.size_toArray, bytesL_len]; rfl
end Go.Proofs.Ytinnaajkdkfnaaa

/- The small functions of impl's digest, over the loaded program. -/
namespace Go.Proofs.Ytinnaajkdkfnaaa
open Go.RowKit

theorem max_xor (x : Nat) (hx : x < 4294967296) : bits .xor .u32 IntKind.u32.max (x : Int) = ((4294967295 - x : Nat) : Int) := by
  have e : (4294967295 : Nat) ^^^ x = 4294967295 - x := by
    apply Nat.eq_of_testBit_eq
    intro i
    rw [Nat.testBit_xor, not_bit hx, show (4294967295 : Nat) = 2 ^ 32 - 1 by rfl, Nat.testBit_two_pow_sub_one]
    by_cases h : i < 32
    · simp [h]
    · have : x.testBit i = false := Nat.testBit_lt_two_pow (Nat.lt_of_lt_of_le hx (Nat.pow_le_pow_right (n := 2) (by omega) (show 32 ≤ i by omega)))
      simp [h, this]
  rw [← e]
  exact u32_xor_nat 4294967295 x (by omega) hx
theorem rotl_any (x k : Nat) (hx : x < 4294967296) (hk : 1 ≤ k) (hk2 : k ≤ 31) (w : World) :
    Calls Try.prog 112 #[.int .u32 (x : Int), .int .i64 (-(k : Int))] w fun e w' => e = .returned (.int .u32 (rot k x : Int)) ∧ ∃ n, w' = w.drewN n := by
  go_enter Try.func112, Try.ntmps112
  have e1 : IntKind.u64.wrap (-(k : Int)) = ((18446744073709551616 - k : Nat) : Int) := by rw [IntKind.wrap_u64]; omega
  have e2 : bits .and .u64 ((18446744073709551616 - k : Nat) : Int) 31 = ((32 - k : Nat) : Int) := by
    rw [show (31 : Int) = ((31 : Nat) : Int) by rfl, u64_and_nat _ _ (by omega) (by omega), nat_mask5]; omega
  go_wp2
  go_ret
  refine ⟨?_, 0, rfl⟩
  show Ending.returned (.int .u32 (bits .or .u32 ((x : Int) * 2 ^ (32 - k) % 4294967296) ((x : Int) / 2 ^ (32 - (32 - k))))) = _
  have e3 : (x : Int) * 2 ^ (32 - k) % 4294967296 = ((x * 2 ^ (32 - k) % 4294967296 : Nat) : Int) := by
    rw [Int.natCast_emod, Int.natCast_mul, Int.natCast_pow]; rfl
  have e4 : (x : Int) / 2 ^ (32 - (32 - k)) = ((x / 2 ^ k : Nat) : Int) := by
    rw [show 32 - (32 - k) = k by omega, Int.natCast_ediv, Int.natCast_pow]; rfl
  rw [e3, e4, u32_or_nat _ _ (Nat.mod_lt _ (by decide)) (Nat.lt_of_le_of_lt (Nat.div_le_self _ _) hx), rot_or (by omega) hx]
theorem implRot_any (x k : Nat) (hx : x < 4294967296) (hk : 1 ≤ k) (hk2 : k ≤ 31) (w : World) :
    Calls Try.prog 110 #[.int .u32 (x : Int), .int .i64 (k : Int)] w fun e w' => e = .returned (.int .u32 (rot k x : Int)) ∧ ∃ n, w' = w.drewN n := by
  go_enter Try.func110, Try.ntmps110
  have e1 : IntKind.i64.wrap (-(k : Int)) = -(k : Int) := by rw [IntKind.wrap_i64]; omega
  go_wp2_with (go_at_call 112; refine (rotl_any x k hx hk hk2 _).mono ?_; rintro e w1 ⟨rfl, n1, rfl⟩)
  go_ret
  exact ⟨rfl, _, rfl⟩
theorem implCh_any (x y z : Nat) (hx : x < 4294967296) (hy : y < 4294967296) (hz : z < 4294967296) (w : World) :
    Calls Try.prog 103 #[.int .u32 (x : Int), .int .u32 (y : Int), .int .u32 (z : Int)] w fun e w' => e = .returned (.int .u32 (chN x y z : Int)) ∧ ∃ n, w' = w.drewN n := by
  go_enter Try.func103, Try.ntmps103
  go_wp2
  go_ret
  refine ⟨?_, 0, rfl⟩
  show Ending.returned (.int .u32 (bits .or .u32 (bits .and .u32 (x : Int) (y : Int)) (bits .and .u32 (bits .xor .u32 IntKind.u32.max (x : Int)) (z : Int)))) = _
  rw [max_xor x hx, u32_and_nat x y hx hy, u32_and_nat _ z (by omega) hz, u32_or_nat _ _ (and32 hx) (and32 (by omega)), ch_or hx]
theorem implMaj_any (x y z : Nat) (hx : x < 4294967296) (hy : y < 4294967296) (hz : z < 4294967296) (w : World) :
    Calls Try.prog 104 #[.int .u32 (x : Int), .int .u32 (y : Int), .int .u32 (z : Int)] w fun e w' => e = .returned (.int .u32 (majN x y z : Int)) ∧ ∃ n, w' = w.drewN n := by
  go_enter Try.func104, Try.ntmps104
  go_wp2
  go_ret
  refine ⟨?_, 0, rfl⟩
  show Ending.returned (.int .u32 (bits .or .u32 (bits .or .u32 (bits .and .u32 (x : Int) (y : Int)) (bits .and .u32 (x : Int) (z : Int))) (bits .and .u32 (y : Int) (z : Int)))) = _
  rw [u32_and_nat x y hx hy, u32_and_nat x z hx hz, u32_and_nat y z hy hz, u32_or_nat _ _ (and32 hx) (and32 hx), u32_or_nat _ _ (or32 (and32 hx) (and32 hx)) (and32 hy), maj_or]
theorem specRight_any (x k : Nat) (A H : Int) (hx : x < 4294967296) (hk : 1 ≤ k) (hk2 : k ≤ 31) (hA : A = ((2 ^ k : Nat) : Int)) (hH : H = ((2 ^ (32 - k) : Nat) : Int)) (w : World) :
    Calls Try.prog 107 #[.int .u32 (x : Int), .int .u32 A, .int .u32 H] w fun e w' => e = .returned (.int .u32 (rot k x : Int)) ∧ ∃ n, w' = w.drewN n := by
  have HP := hide (rot_parts (show k ≤ 32 by omega) hx)
  have HT := hide (two_split (show k ≤ 32 by omega))
  have HR : Hid (rot k x = x / 2 ^ k + x % 2 ^ k * 2 ^ (32 - k)) := hide rfl
  have ha : 0 < 2 ^ k := Nat.two_pow_pos k
  have hh : 0 < 2 ^ (32 - k) := Nat.two_pow_pos _
  have ha2 : 2 ^ k < 4294967296 := Nat.lt_of_lt_of_le (Nat.pow_lt_pow_right (a := 2) (m := k) (n := 32) (by omega) (by omega)) (by decide)
  have hh2 : 2 ^ (32 - k) < 4294967296 := Nat.lt_of_lt_of_le (Nat.pow_lt_pow_right (a := 2) (m := 32 - k) (n := 32) (by omega) (by omega)) (by decide)
  generalize 2 ^ k = a at hA ha ha2 HP HT HR
  generalize 2 ^ (32 - k) = h at hH hh hh2 HP HT HR
  subst hA hH
  have f1 : (x : Int).tdiv (a : Int) = ((x / a : Nat) : Int) := by rw [Int.tdiv_eq_ediv_of_nonneg (by omega)]; rfl
  have f2 : (x : Int).tmod (a : Int) = ((x % a : Nat) : Int) := by rw [Int.tmod_eq_emod_of_nonneg (by omega)]; rfl
  go_enter Try.func107, Try.ntmps107
  go_wp2
  go_region
  go_wp2
  go_ret
  refine ⟨?_, 1, rfl⟩
  show Ending.returned (.int .u32 (((x : Int) / (a : Int) % 4294967296 + (x : Int) % (a : Int) * (h : Int) % 4294967296) % 4294967296)) = _
  rw [unhide HR]
  have hp := unhide HP
  congr 2
  have g1 : (x : Int) / (a : Int) = ((x / a : Nat) : Int) := rfl
  have g2 : (x : Int) % (a : Int) * (h : Int) = ((x % a * h : Nat) : Int) := by rw [Int.natCast_mul]; rfl
  rw [g1, g2]
  generalize x / a = p at hp
  generalize x % a * h = q at hp
  omega
theorem specS_a (x : Nat) (hx : x < 4294967296) (w : World) :
    Calls Try.prog 99 #[.int .u32 (x : Int), .int .u32 131072, .int .u32 524288, .int .u32 1024, .bool true] w fun e w' => e = .returned (.int .u32 (sg2 17 19 10 x : Int)) ∧ ∃ n, w' = w.drewN n := by
  go_enter Try.func99, Try.ntmps99
  go_wp2_with (first | (go_at_call 107; refine (specRight_any x 17 _ _ hx (by decide) (by decide) (by decide) (by decide) _).mono ?_; rintro e w1 ⟨rfl, n1, rfl⟩) | (go_at_call 107; refine (specRight_any x 19 _ _ hx (by decide) (by decide) (by decide) (by decide) _).mono ?_; rintro e w1 ⟨rfl, n1, rfl⟩))
  go_ret
  refine ⟨?_, _, rfl⟩
  show Ending.returned (.int .u32 (bits .xor .u32 (bits .xor .u32 (rot 17 x : Int) (rot 19 x : Int)) ((x : Int) / 1024))) = _
  rw [show (x : Int) / 1024 = ((x / 1024 : Nat) : Int) from rfl]
  rw [u32_xor_nat _ _ (rot_lt (by decide) hx) (rot_lt (by decide) hx), u32_xor_nat _ _ (xor32 (rot_lt (by decide) hx) (rot_lt (by decide) hx)) (Nat.lt_of_le_of_lt (Nat.div_le_self _ _) hx)]
  rfl
theorem specS_b (x : Nat) (hx : x < 4294967296) (w : World) :
    Calls Try.prog 99 #[.int .u32 (x : Int), .int .u32 128, .int .u32 262144, .int .u32 8, .bool true] w fun e w' => e = .returned (.int .u32 (sg2 7 18 3 x : Int)) ∧ ∃ n, w' = w.drewN n := by
  go_enter Try.func99, Try.ntmps99
  go_wp2_with (first | (go_at_call 107; refine (specRight_any x 7 _ _ hx (by decide) (by decide) (by decide) (by decide) _).mono ?_; rintro e w1 ⟨rfl, n1, rfl⟩) | (go_at_call 107; refine (specRight_any x 18 _ _ hx (by decide) (by decide) (by decide) (by decide) _).mono ?_; rintro e w1 ⟨rfl, n1, rfl⟩))
  go_ret
  refine ⟨?_, _, rfl⟩
  show Ending.returned (.int .u32 (bits .xor .u32 (bits .xor .u32 (rot 7 x : Int) (rot 18 x : Int)) ((x : Int) / 8))) = _
  rw [show (x : Int) / 8 = ((x / 8 : Nat) : Int) from rfl]
  rw [u32_xor_nat _ _ (rot_lt (by decide) hx) (rot_lt (by decide) hx), u32_xor_nat _ _ (xor32 (rot_lt (by decide) hx) (rot_lt (by decide) hx)) (Nat.lt_of_le_of_lt (Nat.div_le_self _ _) hx)]
  rfl
theorem specS_c (x : Nat) (hx : x < 4294967296) (w : World) :
    Calls Try.prog 99 #[.int .u32 (x : Int), .int .u32 64, .int .u32 2048, .int .u32 33554432, .bool false] w fun e w' => e = .returned (.int .u32 (sg3 6 11 25 x : Int)) ∧ ∃ n, w' = w.drewN n := by
  go_enter Try.func99, Try.ntmps99
  go_wp2_with (first | (go_at_call 107; refine (specRight_any x 6 _ _ hx (by decide) (by decide) (by decide) (by decide) _).mono ?_; rintro e w1 ⟨rfl, n1, rfl⟩) | (go_at_call 107; refine (specRight_any x 11 _ _ hx (by decide) (by decide) (by decide) (by decide) _).mono ?_; rintro e w1 ⟨rfl, n1, rfl⟩) | (go_at_call 107; refine (specRight_any x 25 _ _ hx (by decide) (by decide) (by decide) (by decide) _).mono ?_; rintro e w1 ⟨rfl, n1, rfl⟩))
  go_ret
  refine ⟨?_, _, rfl⟩
  show Ending.returned (.int .u32 (bits .xor .u32 (bits .xor .u32 (rot 6 x : Int) (rot 11 x : Int)) (rot 25 x : Int))) = _
  rw [u32_xor_nat _ _ (rot_lt (by decide) hx) (rot_lt (by decide) hx), u32_xor_nat _ _ (xor32 (rot_lt (by decide) hx) (rot_lt (by decide) hx)) (rot_lt (by decide) hx)]
  rfl
theorem specS_d (x : Nat) (hx : x < 4294967296) (w : World) :
    Calls Try.prog 99 #[.int .u32 (x : Int), .int .u32 4, .int .u32 8192, .int .u32 4194304, .bool false] w fun e w' => e = .returned (.int .u32 (sg3 2 13 22 x : Int)) ∧ ∃ n, w' = w.drewN n := by
  go_enter Try.func99, Try.ntmps99
  go_wp2_with (first | (go_at_call 107; refine (specRight_any x 2 _ _ hx (by decide) (by decide) (by decide) (by decide) _).mono ?_; rintro e w1 ⟨rfl, n1, rfl⟩) | (go_at_call 107; refine (specRight_any x 13 _ _ hx (by decide) (by decide) (by decide) (by decide) _).mono ?_; rintro e w1 ⟨rfl, n1, rfl⟩) | (go_at_call 107; refine (specRight_any x 22 _ _ hx (by decide) (by decide) (by decide) (by decide) _).mono ?_; rintro e w1 ⟨rfl, n1, rfl⟩))
  go_ret
  refine ⟨?_, _, rfl⟩
  show Ending.returned (.int .u32 (bits .xor .u32 (bits .xor .u32 (rot 2 x : Int) (rot 13 x : Int)) (rot 22 x : Int))) = _
  rw [u32_xor_nat _ _ (rot_lt (by decide) hx) (rot_lt (by decide) hx), u32_xor_nat _ _ (xor32 (rot_lt (by decide) hx) (rot_lt (by decide) hx)) (rot_lt (by decide) hx)]
  rfl
set_option maxRecDepth 20000 in
set_option maxHeartbeats 1000000 in
theorem implWord_any (s : ByteArray) (i : Nat) (hi : i + 4 ≤ s.size) (hs : s.size ≤ 10000000) (w : World) :
    Calls Try.prog 108 #[.string s, .int .i64 (i : Int)] w fun e w' => e = .returned (.int .u32 (wAt s i : Int)) ∧ ∃ n, w' = w.drewN n := by
  have i1 : IntKind.i64.wrap ((i : Int) + 1) = (i : Int) + 1 := by rw [IntKind.wrap_i64]; omega
  have i2 : IntKind.i64.wrap ((i : Int) + 2) = (i : Int) + 2 := by rw [IntKind.wrap_i64]; omega
  have i3 : IntKind.i64.wrap ((i : Int) + 3) = (i : Int) + 3 := by rw [IntKind.wrap_i64]; omega
  have h0 : (i : Int) < (s.size : Int) := by omega
  have h1 : (i : Int) + 1 < (s.size : Int) := by omega
  have h2 : (i : Int) + 2 < (s.size : Int) := by omega
  have h3 : (i : Int) + 3 < (s.size : Int) := by omega
  have n1 : 0 ≤ (i : Int) + 1 := by omega
  have n2 : 0 ≤ (i : Int) + 2 := by omega
  have n3 : 0 ≤ (i : Int) + 3 := by omega
  have t1 : ((i : Int) + 1).toNat = i + 1 := by omega
  have t2 : ((i : Int) + 2).toNat = i + 2 := by omega
  have t3 : ((i : Int) + 3).toNat = i + 3 := by omega
  have b0 := hide (byteAt_eq s i (by omega))
  have b1 := hide (byteAt_eq s (i + 1) (by omega))
  have b2 := hide (byteAt_eq s (i + 2) (by omega))
  have b3 := hide (byteAt_eq s (i + 3) (by omega))
  have z0 := hide (byteAt_lt s i)
  have z1 := hide (byteAt_lt s (i + 1))
  have z2 := hide (byteAt_lt s (i + 2))
  have z3 := hide (byteAt_lt s (i + 3))
  go_enter Try.func108, Try.ntmps108
  go_wp2
  go_region
  go_wp2
  go_ret
  refine ⟨?_, 1, rfl⟩
  have b0 := unhide b0; have b1 := unhide b1; have b2 := unhide b2; have b3 := unhide b3
  have z0 := unhide z0; have z1 := unhide z1; have z2 := unhide z2; have z3 := unhide z3
  show Ending.returned (.int .u32 (bits .or .u32 (bits .or .u32 (bits .or .u32 ((s[i].toNat : Int) % 4294967296 * 16777216 % 4294967296) ((s[i + 1].toNat : Int) % 4294967296 * 65536 % 4294967296)) ((s[i + 2].toNat : Int) % 4294967296 * 256 % 4294967296)) ((s[i + 3].toNat : Int) % 4294967296))) = _
  rw [← b0, ← b1, ← b2, ← b3]
  unfold wAt
  generalize byteAt s i = p0 at z0
  generalize byteAt s (i + 1) = p1 at z1
  generalize byteAt s (i + 2) = p2 at z2
  generalize byteAt s (i + 3) = p3 at z3
  rw [show (p0 : Int) % 4294967296 * 16777216 % 4294967296 = ((p0 * 16777216 : Nat) : Int) by omega, show (p1 : Int) % 4294967296 * 65536 % 4294967296 = ((p1 * 65536 : Nat) : Int) by omega,
    show (p2 : Int) % 4294967296 * 256 % 4294967296 = ((p2 * 256 : Nat) : Int) by omega, show (p3 : Int) % 4294967296 = ((p3 : Nat) : Int) by omega]
  have o1 := or32 (show p0 * 16777216 < 4294967296 by omega) (show p1 * 65536 < 4294967296 by omega)
  have o2 := or32 o1 (show p2 * 256 < 4294967296 by omega)
  rw [u32_or_nat _ _ (by omega) (by omega), u32_or_nat _ _ o1 (by omega), u32_or_nat _ _ o2 (by omega), word_or z0 z1 z2 z3]
set_option maxRecDepth 20000 in
set_option maxHeartbeats 1000000 in
theorem specWord_any (s : ByteArray) (i : Nat) (hi : i + 4 ≤ s.size) (hs : s.size ≤ 10000000) (w : World) :
    Calls Try.prog 98 #[.string s, .int .i64 (i : Int)] w fun e w' => e = .returned (.int .u32 (wAt s i : Int)) ∧ ∃ n, w' = w.drewN n := by
  have i1 : IntKind.i64.wrap ((i : Int) + 1) = (i : Int) + 1 := by rw [IntKind.wrap_i64]; omega
  have i2 : IntKind.i64.wrap ((i : Int) + 2) = (i : Int) + 2 := by rw [IntKind.wrap_i64]; omega
  have i3 : IntKind.i64.wrap ((i : Int) + 3) = (i : Int) + 3 := by rw [IntKind.wrap_i64]; omega
  have h0 : (i : Int) < (s.size : Int) := by omega
  have h1 : (i : Int) + 1 < (s.size : Int) := by omega
  have h2 : (i : Int) + 2 < (s.size : Int) := by omega
  have h3 : (i : Int) + 3 < (s.size : Int) := by omega
  have n1 : 0 ≤ (i : Int) + 1 := by omega
  have n2 : 0 ≤ (i : Int) + 2 := by omega
  have n3 : 0 ≤ (i : Int) + 3 := by omega
  have t1 : ((i : Int) + 1).toNat = i + 1 := by omega
  have t2 : ((i : Int) + 2).toNat = i + 2 := by omega
  have t3 : ((i : Int) + 3).toNat = i + 3 := by omega
  have b0 := hide (byteAt_eq s i (by omega))
  have b1 := hide (byteAt_eq s (i + 1) (by omega))
  have b2 := hide (byteAt_eq s (i + 2) (by omega))
  have b3 := hide (byteAt_eq s (i + 3) (by omega))
  have z0 := hide (byteAt_lt s i)
  have z1 := hide (byteAt_lt s (i + 1))
  have z2 := hide (byteAt_lt s (i + 2))
  have z3 := hide (byteAt_lt s (i + 3))
  go_enter Try.func98, Try.ntmps98
  go_wp2
  go_region
  go_wp2
  go_ret
  refine ⟨?_, 1, rfl⟩
  have b0 := unhide b0; have b1 := unhide b1; have b2 := unhide b2; have b3 := unhide b3
  have z0 := unhide z0; have z1 := unhide z1; have z2 := unhide z2; have z3 := unhide z3
  show Ending.returned (.int .u32 ((((s[i].toNat : Int) % 4294967296 * 16777216 + (s[i + 1].toNat : Int) % 4294967296 * 65536 + (s[i + 2].toNat : Int) % 4294967296 * 256) % 4294967296 + (s[i + 3].toNat : Int) % 4294967296) % 4294967296)) = _
  rw [← b0, ← b1, ← b2, ← b3]
  unfold wAt wordN
  congr 2
  omega
set_option maxRecDepth 20000 in
set_option maxHeartbeats 1000000 in
theorem implThree_any (x a b c : Nat) (hx : x < 4294967296) (ha : 1 ≤ a) (ha2 : a ≤ 31) (hb : 1 ≤ b) (hb2 : b ≤ 31) (hc : 1 ≤ c) (hc2 : c ≤ 31) (w : World) :
    Calls Try.prog 102 #[.int .u32 (x : Int), .int .i64 (a : Int), .int .i64 (b : Int), .int .i64 (c : Int)] w fun e w' => e = .returned (.int .u32 (sg3 a b c x : Int)) ∧ ∃ n, w' = w.drewN n := by
  go_enter Try.func102, Try.ntmps102
  go_wp2_with (go_at_call 110; refine (implRot_any x _ hx (by first | exact ha | exact hb | exact hc) (by first | exact ha2 | exact hb2 | exact hc2) _).mono ?_; rintro e w1 ⟨rfl, n1, rfl⟩)
  go_ret
  refine ⟨?_, _, rfl⟩
  show Ending.returned (.int .u32 (bits .xor .u32 (bits .xor .u32 (rot a x : Int) (rot b x : Int)) (rot c x : Int))) = _
  rw [u32_xor_nat _ _ (rot_lt (by omega) hx) (rot_lt (by omega) hx), u32_xor_nat _ _ (xor32 (rot_lt (by omega) hx) (rot_lt (by omega) hx)) (rot_lt (by omega) hx)]
  rfl
set_option maxRecDepth 20000 in
set_option maxHeartbeats 1000000 in
theorem implTwo_any (x a b c : Nat) (hx : x < 4294967296) (ha : 1 ≤ a) (ha2 : a ≤ 31) (hb : 1 ≤ b) (hb2 : b ≤ 31) (hc : 1 ≤ c) (hc2 : c ≤ 31) (w : World) :
    Calls Try.prog 109 #[.int .u32 (x : Int), .int .i64 (a : Int), .int .i64 (b : Int), .int .i64 (c : Int)] w fun e w' => e = .returned (.int .u32 (sg2 a b c x : Int)) ∧ ∃ n, w' = w.drewN n := by
  go_enter Try.func109, Try.ntmps109
  go_wp2
  go_region_held3 (fun _ => True) (trivial) (first | (go_at_call 110; refine (implRot_any x _ hx (by first | exact ha | exact hb | exact hc) (by first | exact ha2 | exact hb2 | exact hc2) _).mono ?_; rintro e w1 ⟨rfl, n1, rfl⟩))
  go_wp2
  go_ret
  refine ⟨?_, _, rfl⟩
  show Ending.returned (.int .u32 (bits .xor .u32 (bits .xor .u32 (rot a x : Int) (rot b x : Int)) ((x : Int) / 2 ^ c))) = _
  rw [show (x : Int) / 2 ^ c = ((x / 2 ^ c : Nat) : Int) by rw [Int.natCast_ediv, Int.natCast_pow]; rfl]
  rw [u32_xor_nat _ _ (rot_lt (by omega) hx) (rot_lt (by omega) hx), u32_xor_nat _ _ (xor32 (rot_lt (by omega) hx) (rot_lt (by omega) hx)) (Nat.lt_of_le_of_lt (Nat.div_le_self _ _) hx)]
  rfl
end Go.Proofs.Ytinnaajkdkfnaaa

/- Laws of no program: a block that holds an array of words. -/
namespace Go.Proofs.Ytinnaajkdkfnaaa
open Go.RowKit

def u32v (x : Nat) : Value := .int .u32 (x : Int)
def ArrAt (w : World) (g : Nat) (T : TypeId) (l : List Nat) : Prop := w.heap[g]? = some (.cells (l.map u32v).toArray T (0, 0))
def aggV (l : List Nat) : Value := .agg (l.map u32v).toArray

theorem ArrAt.lt {w : World} {g : Nat} {T : TypeId} {l : List Nat} (h : ArrAt w g T l) : g < w.heap.size := by
  rcases Nat.lt_or_ge g w.heap.size with h1 | h1
  · exact h1
  · unfold ArrAt at h
    rw [Array.getElem?_eq_none h1] at h; cases h
theorem ArrAt.frozen {w : World} {g : Nat} {T : TypeId} {l : List Nat} (h : ArrAt w g T l) (k : Nat) : w.frozen? ⟨g, k, none⟩ = false := frozen_of_row w g k _ T h
theorem ArrAt.cell {w : World} {g : Nat} {T : TypeId} {l : List Nat} (h : ArrAt w g T l) (k : Nat) (hk : k < l.length) : w.cell? ⟨g, k, none⟩ = some (.int .u32 (at_ l k : Int)) := by
  unfold ArrAt at h
  unfold World.cell?
  simp [h, at_, hk, u32v]
theorem ArrAt.set {w : World} {g : Nat} {T : TypeId} {l : List Nat} (h : ArrAt w g T l) (k v : Nat) : ArrAt (w.setCell ⟨g, k, none⟩ (.int .u32 (v : Int))) g T (l.set k v) := by
  unfold ArrAt at h ⊢
  rw [heap_setCell_same w g k _ T (.int .u32 (v : Int)) h, List.map_set]
  simp [u32v]
theorem ArrAt.below {w w' : World} {g B : Nat} {T : TypeId} {l : List Nat} (h : ArrAt w g T l) (hb : Below B w w') (hg : g < B) : ArrAt w' g T l := by
  unfold ArrAt at h ⊢
  rw [hb.block g hg]; exact h
theorem ArrAt.alloc {w : World} {g : Nat} {T : TypeId} {l : List Nat} (h : ArrAt w g T l) (o : Obj) : ArrAt (w.alloc o) g T l := by
  have hl := h.lt
  unfold ArrAt at h ⊢
  unfold World.alloc
  simp only [Array.getElem?_push]
  rw [if_neg (by omega)]
  exact h
theorem ArrAt.new (w : World) (T : TypeId) (l : List Nat) : ArrAt (w.alloc (.cells (l.map u32v).toArray T (0, 0))) w.heap.size T l := by
  unfold ArrAt World.alloc
  simp
theorem ArrAt.drewN {w : World} {g : Nat} {T : TypeId} {l : List Nat} (h : ArrAt w g T l) (n : Nat) : ArrAt (w.drewN n) g T l := h
theorem arr_size (l : List Nat) : (l.map u32v).toArray.size = l.length := by simp
theorem arr_one (l : List Nat) : (l.map u32v).toArray.all (·.oneCell') = true := by
  rw [Array.all_eq_true_iff_forall_mem]
  intro v hv
  simp only [List.mem_toArray, List.mem_map] at hv
  obtain ⟨x, _, rfl⟩ := hv
  rfl
theorem ArrAt.setRow {w : World} {g : Nat} {T : TypeId} {l : List Nat} (h : ArrAt w g T l) (l' : List Nat) : ArrAt (w.setRow g (l'.map u32v).toArray) g T l' := setRow_heap w g _ _ T (0, 0) h
theorem ArrAt.setRow_other {w : World} {g k : Nat} {T : TypeId} {l : List Nat} (h : ArrAt w k T l) (cs : Array Value) (hk : k ≠ g) : ArrAt (w.setRow g cs) k T l := by
  unfold ArrAt
  rw [Go.setRow_other w g k cs hk]
  exact h
theorem wpList_load_arr {P : Program} {ops : Array Oper} {rest : List Oper} {o : Oper} {a : Act} {w : World} {Q : Exit → Act → World → Prop} (hgd : o.guard = none) (ty : TypeId) (x : Operand) (ho : o.op = .load ty x)
    (g : Nat) (hx : a.eval x = .pointer (some ⟨g, 0, none⟩)) (T : TypeId) (l : List Nat) (hA : ArrAt w g T l) (n : Nat) (e : TypeId) (hu : P.underlying ty = some (.array n e)) (hi : (P.info? ty).map (·.size) = some l.length)
    (h : wpList P ops Q rest (a.put o.dst (aggV l)) w) : wpList P ops Q (o :: rest) a w :=
  wpList_load_row hgd ty x ho g hx T _ (0, 0) _ hA hu rfl (by rw [arr_size]; exact hi) h
theorem wpList_store_arr {P : Program} {ops : Array Oper} {rest : List Oper} {o : Oper} {a : Act} {w : World} {Q : Exit → Act → World → Prop} (hgd : o.guard = none) (ty : TypeId) (x y : Operand) (ho : o.op = .store ty x y)
    (g : Nat) (l l0 : List Nat) (hx : a.eval x = .pointer (some ⟨g, 0, none⟩)) (hy : a.eval y = aggV l) (T : TypeId) (hA : ArrAt w g T l0) (hi : (P.info? ty).map (·.size) = some l.length) (hl : l0.length = l.length)
    (h : wpList P ops Q rest (a.put o.dst undef) (w.setRow g (l.map u32v).toArray)) : wpList P ops Q (o :: rest) a w :=
  wpList_store_row hgd ty x y ho g _ hx hy T _ hA (by rw [arr_size]; exact hi) (by rw [arr_size, arr_size]; exact hl) (arr_one l) h
theorem wpList_store_arr_as {P : Program} {ops : Array Oper} {rest : List Oper} {o : Oper} {a : Act} {w : World} {Q : Exit → Act → World → Prop} (hgd : o.guard = none) (ty : TypeId) (x y : Operand) (ho : o.op = .store ty x y)
    (g : Nat) (l l0 : List Nat) (hx : a.eval x = .pointer (some ⟨g, 0, none⟩)) (hy : a.eval y = aggV l) (T : TypeId) (hA : ArrAt w g T l0) (hi : (P.info? ty).map (·.size) = some l.length) (hl : l0.length = l.length)
    (h : ∀ w', ArrAt w' g T l → (∀ k T' l', k ≠ g → ArrAt w k T' l' → ArrAt w' k T' l') → Below g w w' → wpList P ops Q rest (a.put o.dst undef) w') : wpList P ops Q (o :: rest) a w :=
  wpList_store_arr hgd ty x y ho g l l0 hx hy T hA hi hl (h _ (hA.setRow l) (fun _ _ _ hk hA' => hA'.setRow_other _ hk) (Go.below_setRow (Below.refl _ _) (Nat.le_refl _) _))
theorem wpList_build_arr {P : Program} {ops : Array Oper} {rest : List Oper} {o : Oper} {a : Act} {w : World} {Q : Exit → Act → World → Prop} (hg : o.guard = none) (t : TypeId) (parts : Array (Nat × Operand)) (ho : o.op = .build t parts) (l : List Nat)
    (hb : P.built t (parts.map fun (i, x) => (i, a.eval x)).toList = some (l.map u32v).toArray)
    (h : wpList P ops Q rest (a.put o.dst (aggV l)) w) : wpList P ops Q (o :: rest) a w :=
  wpList_build hg t parts ho (by rw [hb]; rfl) (by rw [hb]; exact h)
theorem results_arr {P : Program} {fn : Func} {p : Tmp} {ty : TypeId} (h : fn.results = #[.cell p ty]) (tmps : Array Value) (w : World) (g : Nat) (T : TypeId) (l : List Nat) (n : Nat) (e : TypeId)
    (hp : tmps.getD p undef = .pointer (some ⟨g, 0, none⟩)) (hA : ArrAt w g T l) (hu : P.underlying ty = some (.array n e)) (hi : (P.info? ty).map (·.size) = some l.length) :
    (results fn tmps).run P w = .ok (aggV l) w :=
  results_cell_row h tmps w g T _ (0, 0) _ hp hA hu rfl (by rw [arr_size]; exact hi)
end Go.Proofs.Ytinnaajkdkfnaaa

/- The block's words by impl, over the loaded program. -/
namespace Go.Proofs.Ytinnaajkdkfnaaa
open Go.RowKit
def zeros64 : List Nat := List.replicate 64 0
theorem fill_len {l : List Nat} {k : Nat} (h : l.length = k) (hk : k ≤ 64) : (l ++ List.replicate (64 - k) 0).length = 64 := by simp [h]; omega
theorem fill_set {l : List Nat} {k : Nat} (h : l.length = k) (hk : k < 64) (v : Nat) : (l ++ List.replicate (64 - k) 0).set k v = (l ++ [v]) ++ List.replicate (64 - (k + 1)) 0 := by
  rw [List.set_append_right _ _ (by omega), show 64 - k = (64 - (k + 1)) + 1 by omega, List.replicate_succ, h, Nat.sub_self]
  simp
theorem fill_at {l : List Nat} {k i : Nat} (h : l.length = k) (hi : i < k) : at_ (l ++ List.replicate (64 - k) 0) i = at_ l i := by
  unfold at_
  rw [List.getD_eq_getElem?_getD, List.getD_eq_getElem?_getD, List.getElem?_append_left (by omega)]
theorem sched_lt_all (s : ByteArray) (m : Nat) : ∀ x ∈ schedN (wordsN s 16) m, x < 4294967296 := by
  induction m with
  | zero =>
    intro x hx
    simp only [schedN, wordsN, List.mem_map] at hx
    obtain ⟨i, _, rfl⟩ := hx
    exact wAt_lt _ _
  | succ m ih =>
    intro x hx
    simp only [schedN, List.mem_append, List.mem_singleton] at hx
    rcases hx with hx | rfl
    · exact ih x hx
    · exact Nat.mod_lt _ (by decide)
theorem at_lt {l : List Nat} (h : ∀ x ∈ l, x < 4294967296) (p : Nat) : at_ l p < 4294967296 := by
  unfold at_
  rw [List.getD_eq_getElem?_getD]
  by_cases hp : p < l.length
  · rw [List.getElem?_eq_getElem hp]; exact h _ (List.getElem_mem hp)
  · rw [List.getElem?_eq_none (by omega)]; decide
theorem sched_lt (s : ByteArray) (m p : Nat) : at_ (schedN (wordsN s 16) m) p < 4294967296 := at_lt (sched_lt_all s m) p
theorem len64 : Try.prog.arrayLen 121 = 64 := by kernel_rfl
theorem idx64 (g k : Nat) (h : (k : Int) < 64) (W : World) : (Instr.indexAt 121 (.pointer (some ⟨g, 0, none⟩)) (.int .i64 (k : Int))).run Try.prog W = .ok (.pointer (some ⟨g, k, none⟩)) W := by
  have hu : Try.prog.underlying 121 = some (.array (Try.prog.arrayLen 121) (Try.prog.elem 121)) := by kernel_rfl
  have he : Try.prog.elem 121 = 100 := by kernel_rfl
  have h1 : (0 : Int) ≤ (k : Int) ∧ (k : Int) < ((Try.prog.arrayLen 121 : Nat) : Int) := by rw [len64]; exact ⟨by omega, by omega⟩
  rw [run_indexAt_array (P := Try.prog) (w := W) 121 ⟨g, 0, none⟩ .i64 (k : Int) hu, if_pos h1, he]
  simp [go_sem, Addr.add]
  intro h; exact h.symm
theorem cell_by {w : World} {g p t : Nat} {u v : Value} (h : w.cell? ⟨g, p, none⟩ = some u) (hp : p ≠ t) : (w.setCell ⟨g, t, none⟩ v).cell? ⟨g, p, none⟩ = some u := by
  rw [World.cell?_setCell_other _ _ _ _ (by intro hh; apply hp; exact (by simpa using congrArg Addr.off hh : t = p).symm)]
  exact h
theorem two_arrs (w : World) (T : TypeId) (l : List Nat) : ArrAt ((w.alloc (.cells (l.map u32v).toArray T)).alloc (.cells (l.map u32v).toArray T)) (w.heap.size + 1) T l ∧ ArrAt ((w.alloc (.cells (l.map u32v).toArray T)).alloc (.cells (l.map u32v).toArray T)) w.heap.size T l ∧ Below w.heap.size w ((w.alloc (.cells (l.map u32v).toArray T)).alloc (.cells (l.map u32v).toArray T)) := by
  refine ⟨?_, (ArrAt.new w T l).alloc _, ?_⟩
  · have := ArrAt.new (w.alloc (.cells (l.map u32v).toArray T)) T l
    simpa using this
  · exact ((Below.refl w.heap.size w).alloc (Nat.le_refl _) _).alloc (by simp) _
theorem two_z64 (w : World) (T : TypeId) : ArrAt ((w.alloc (.cells #[.int .u32 0, .int .u32 0, .int .u32 0, .int .u32 0, .int .u32 0, .int .u32 0, .int .u32 0, .int .u32 0, .int .u32 0, .int .u32 0, .int .u32 0, .int .u32 0, .int .u32 0, .int .u32 0, .int .u32 0, .int .u32 0, .int .u32 0, .int .u32 0, .int .u32 0, .int .u32 0, .int .u32 0, .int .u32 0, .int .u32 0, .int .u32 0, .int .u32 0, .int .u32 0, .int .u32 0, .int .u32 0, .int .u32 0, .int .u32 0, .int .u32 0, .int .u32 0, .int .u32 0, .int .u32 0, .int .u32 0, .int .u32 0, .int .u32 0, .int .u32 0, .int .u32 0, .int .u32 0, .int .u32 0, .int .u32 0, .int .u32 0, .int .u32 0, .int .u32 0, .int .u32 0, .int .u32 0, .int .u32 0, .int .u32 0, .int .u32 0, .int .u32 0, .int .u32 0, .int .u32 0, .int .u32 0, .int .u32 0, .int .u32 0, .int .u32 0, .int .u32 0, .int .u32 0, .int .u32 0, .int .u32 0, .int .u32 0, .int .u32 0, .int .u32 0] T)).alloc (.cells #[.int .u32 0, .int .u32 0, .int .u32 0, .int .u32 0, .int .u32 0, .int .u32 0, .int .u32 0, .int .u32 0, .int .u32 0, .int .u32 0, .int .u32 0, .int .u32 0, .int .u32 0, .int .u32 0, .int .u32 0, .int .u32 0, .int .u32 0, .int .u32 0, .int .u32 0, .int .u32 0, .int .u32 0, .int .u32 0, .int .u32 0, .int .u32 0, .int .u32 0, .int .u32 0, .int .u32 0, .int .u32 0, .int .u32 0, .int .u32 0, .int .u32 0, .int .u32 0, .int .u32 0, .int .u32 0, .int .u32 0, .int .u32 0, .int .u32 0, .int .u32 0, .int .u32 0, .int .u32 0, .int .u32 0, .int .u32 0, .int .u32 0, .int .u32 0, .int .u32 0, .int .u32 0, .int .u32 0, .int .u32 0, .int .u32 0, .int .u32 0, .int .u32 0, .int .u32 0, .int .u32 0, .int .u32 0, .int .u32 0, .int .u32 0, .int .u32 0, .int .u32 0, .int .u32 0, .int .u32 0, .int .u32 0, .int .u32 0, .int .u32 0, .int .u32 0] T)) (w.heap.size + 1) T zeros64 ∧ ArrAt ((w.alloc (.cells #[.int .u32 0, .int .u32 0, .int .u32 0, .int .u32 0, .int .u32 0, .int .u32 0, .int .u32 0, .int .u32 0, .int .u32 0, .int .u32 0, .int .u32 0, .int .u32 0, .int .u32 0, .int .u32 0, .int .u32 0, .int .u32 0, .int .u32 0, .int .u32 0, .int .u32 0, .int .u32 0, .int .u32 0, .int .u32 0, .int .u32 0, .int .u32 0, .int .u32 0, .int .u32 0, .int .u32 0, .int .u32 0, .int .u32 0, .int .u32 0, .int .u32 0, .int .u32 0, .int .u32 0, .int .u32 0, .int .u32 0, .int .u32 0, .int .u32 0, .int .u32 0, .int .u32 0, .int .u32 0, .int .u32 0, .int .u32 0, .int .u32 0, .int .u32 0, .int .u32 0, .int .u32 0, .int .u32 0, .int .u32 0, .int .u32 0, .int .u32 0, .int .u32 0, .int .u32 0, .int .u32 0, .int .u32 0, .int .u32 0, .int .u32 0, .int .u32 0, .int .u32 0, .int .u32 0, .int .u32 0, .int .u32 0, .int .u32 0, .int .u32 0, .int .u32 0] T)).alloc (.cells #[.int .u32 0, .int .u32 0, .int .u32 0, .int .u32 0, .int .u32 0, .int .u32 0, .int .u32 0, .int .u32 0, .int .u32 0, .int .u32 0, .int .u32 0, .int .u32 0, .int .u32 0, .int .u32 0, .int .u32 0, .int .u32 0, .int .u32 0, .int .u32 0, .int .u32 0, .int .u32 0, .int .u32 0, .int .u32 0, .int .u32 0, .int .u32 0, .int .u32 0, .int .u32 0, .int .u32 0, .int .u32 0, .int .u32 0, .int .u32 0, .int .u32 0, .int .u32 0, .int .u32 0, .int .u32 0, .int .u32 0, .int .u32 0, .int .u32 0, .int .u32 0, .int .u32 0, .int .u32 0, .int .u32 0, .int .u32 0, .int .u32 0, .int .u32 0, .int .u32 0, .int .u32 0, .int .u32 0, .int .u32 0, .int .u32 0, .int .u32 0, .int .u32 0, .int .u32 0, .int .u32 0, .int .u32 0, .int .u32 0, .int .u32 0, .int .u32 0, .int .u32 0, .int .u32 0, .int .u32 0, .int .u32 0, .int .u32 0, .int .u32 0, .int .u32 0] T)) w.heap.size T zeros64 ∧ Below w.heap.size w ((w.alloc (.cells #[.int .u32 0, .int .u32 0, .int .u32 0, .int .u32 0, .int .u32 0, .int .u32 0, .int .u32 0, .int .u32 0, .int .u32 0, .int .u32 0, .int .u32 0, .int .u32 0, .int .u32 0, .int .u32 0, .int .u32 0, .int .u32 0, .int .u32 0, .int .u32 0, .int .u32 0, .int .u32 0, .int .u32 0, .int .u32 0, .int .u32 0, .int .u32 0, .int .u32 0, .int .u32 0, .int .u32 0, .int .u32 0, .int .u32 0, .int .u32 0, .int .u32 0, .int .u32 0, .int .u32 0, .int .u32 0, .int .u32 0, .int .u32 0, .int .u32 0, .int .u32 0, .int .u32 0, .int .u32 0, .int .u32 0, .int .u32 0, .int .u32 0, .int .u32 0, .int .u32 0, .int .u32 0, .int .u32 0, .int .u32 0, .int .u32 0, .int .u32 0, .int .u32 0, .int .u32 0, .int .u32 0, .int .u32 0, .int .u32 0, .int .u32 0, .int .u32 0, .int .u32 0, .int .u32 0, .int .u32 0, .int .u32 0, .int .u32 0, .int .u32 0, .int .u32 0] T)).alloc (.cells #[.int .u32 0, .int .u32 0, .int .u32 0, .int .u32 0, .int .u32 0, .int .u32 0, .int .u32 0, .int .u32 0, .int .u32 0, .int .u32 0, .int .u32 0, .int .u32 0, .int .u32 0, .int .u32 0, .int .u32 0, .int .u32 0, .int .u32 0, .int .u32 0, .int .u32 0, .int .u32 0, .int .u32 0, .int .u32 0, .int .u32 0, .int .u32 0, .int .u32 0, .int .u32 0, .int .u32 0, .int .u32 0, .int .u32 0, .int .u32 0, .int .u32 0, .int .u32 0, .int .u32 0, .int .u32 0, .int .u32 0, .int .u32 0, .int .u32 0, .int .u32 0, .int .u32 0, .int .u32 0, .int .u32 0, .int .u32 0, .int .u32 0, .int .u32 0, .int .u32 0, .int .u32 0, .int .u32 0, .int .u32 0, .int .u32 0, .int .u32 0, .int .u32 0, .int .u32 0, .int .u32 0, .int .u32 0, .int .u32 0, .int .u32 0, .int .u32 0, .int .u32 0, .int .u32 0, .int .u32 0, .int .u32 0, .int .u32 0, .int .u32 0, .int .u32 0] T)) := two_arrs w T zeros64
theorem Below.drewN {B : Nat} {a w : World} (h : Below B a w) (n : Nat) : Below B a (w.drewN n) := ⟨h.os, h.tape, h.output, h.size, h.block⟩
theorem implTwo_lit (x : Nat) (A B C : Int) (hx : x < 4294967296) (h : (A = 17 ∧ B = 19 ∧ C = 10) ∨ (A = 7 ∧ B = 18 ∧ C = 3)) (w : World) :
    Calls Try.prog 109 #[.int .u32 (x : Int), .int .i64 A, .int .i64 B, .int .i64 C] w fun e w' => e = .returned (.int .u32 (sg2 A.toNat B.toNat C.toNat x : Int)) ∧ ∃ n, w' = w.drewN n := by
  rcases h with ⟨rfl, rfl, rfl⟩ | ⟨rfl, rfl, rfl⟩
  · exact implTwo_any x 17 19 10 hx (by decide) (by decide) (by decide) (by decide) (by decide) (by decide) w
  · exact implTwo_any x 7 18 3 hx (by decide) (by decide) (by decide) (by decide) (by decide) (by decide) w
set_option maxHeartbeats 2000000 in
set_option maxRecDepth 20000 in
theorem implWords_any (s : ByteArray) (hs : s.size = 64) (w : World) :
    Calls Try.prog 100 #[.string s] w fun e w' => e = .returned (aggV (schedN (wordsN s 16) 48)) ∧ Below w.heap.size w w' := by
  have H2 := hide (two_arrs w 121 zeros64)
  go_enter Try.func100, Try.ntmps100
  go_wp2
  go_loopw [6] (fun ti wr => ∃ k : Nat, k ≤ 16 ∧ ti = .int .i64 k ∧ Hid (ArrAt wr (w.heap.size + 1) 121 (wordsN s k ++ List.replicate (64 - k) 0)) ∧ Hid (ArrAt wr w.heap.size 121 zeros64) ∧ Below w.heap.size w wr) (fun ti _ => 16 - (intOf ti).toNat)
  case atStart => exact ⟨0, Nat.zero_le _, rfl, hide (unhide H2).1, hide (unhide H2).2.1, (unhide H2).2.2⟩
  case round =>
    obtain ⟨k, hk, rfl, HA, HR, hb⟩ := hrel
    by_cases hlt : k < 16
    · have hsz := hb.size
      have cA := (unhide HA).cell k (by simp [wordsN_len]; omega)
      have fA := (unhide HA).frozen k
      have m4 : IntKind.i64.wrap (4 * (k : Int)) = ((4 * k : Nat) : Int) := by rw [IntKind.wrap_i64]; omega
      have hA2 := (unhide HA).set k (wAt s (4 * k))
      rw [fill_set (wordsN_len s k) (by omega), ← wordsN_succ] at hA2
      have hA3 : ∀ n, ArrAt ((wr.drewN n).setCell ⟨w.heap.size + 1, k, none⟩ (.int .u32 (wAt s (4 * k) : Int))) (w.heap.size + 1) 121 (wordsN s (k + 1) ++ List.replicate (64 - (k + 1)) 0) := by
        intro n
        have := ((unhide HA).drewN n).set k (wAt s (4 * k))
        rwa [fill_set (wordsN_len s k) (by omega), ← wordsN_succ] at this
      have hR3 : ∀ n, ArrAt ((wr.drewN n).setCell ⟨w.heap.size + 1, k, none⟩ (.int .u32 (wAt s (4 * k) : Int))) w.heap.size 121 zeros64 := by
        intro n
        exact ((unhide HR).drewN n).below (B := w.heap.size + 1) ((Below.refl _ _).setCell (p := ⟨w.heap.size + 1, k, none⟩) (Nat.le_refl _) _) (by omega)
      have HA3 := hide hA3
      have HR3 := hide hR3
      clear hA3 hR3 hA2
      go_wp2_with (go_at_call 108; refine (implWord_any s (4 * k) (by omega) (by omega) _).mono ?_; rintro e w1 ⟨rfl, n1, rfl⟩)
      go_roundw
      case rel => exact ⟨k + 1, by omega, by go_num, hide ((unhide HA3) n1), hide ((unhide HR3) n1), (Below.drewN hb n1).setCell (p := ⟨w.heap.size + 1, k, none⟩) (by show w.heap.size ≤ w.heap.size + 1; omega) _⟩
      case measure => simp [intOf]; omega
    · have hk' := hide (show k = 16 by omega)
      clear H2
      have hA1 : ArrAt wr (w.heap.size + 1) 121 (schedN (wordsN s 16) 0 ++ List.replicate (64 - (16 + 0)) 0) := by
        have := unhide HA
        rw [unhide hk'] at this
        exact this
      replace hA1 := hide hA1
      go_wp2
      go_loopw [5] (fun ti wq => ∃ m : Nat, m ≤ 48 ∧ ti = .int .i64 ((16 + m : Nat) : Int) ∧ Hid (ArrAt wq (w.heap.size + 1) 121 (schedN (wordsN s 16) m ++ List.replicate (64 - (16 + m)) 0)) ∧ Hid (ArrAt wq w.heap.size 121 zeros64) ∧ Below w.heap.size w wq) (fun ti _ => 64 - (intOf ti).toNat)
      case atStart => exact ⟨0, by omega, rfl, hA1, HR, hb⟩
      case round =>
        clear HA HR hb hA1
        obtain ⟨m, hm, rfl, HA, HR, hb⟩ := hrel
        have HL := hide (schedN_len (wordsN s 16) (wordsN_len s 16) m)
        by_cases hlt : m < 48
        · obtain ⟨t, ht⟩ : ∃ t, t = 16 + m := ⟨_, rfl⟩
          have htl : t < 64 := by omega
          have htg : 16 ≤ t := by omega
          rw [← ht] at HA HL ⊢
          have hsz := hb.size
          obtain ⟨p2, hp2⟩ : ∃ p, p = t - 2 := ⟨_, rfl⟩
          have c2 := (unhide HA).cell p2 (by rw [fill_len (unhide HL) (by omega)]; omega)
          rw [fill_at (unhide HL) (by omega)] at c2
          have e2 : IntKind.i64.wrap ((t : Int) - 2) = (p2 : Int) := by rw [IntKind.wrap_i64]; omega
          have l2 : (p2 : Int) < 64 := by omega
          have x2 := hide (sched_lt s m p2)
          have d2 := hide (show p2 ≠ t by omega)
          replace hp2 := hide hp2
          have I2 := idx64 (w.heap.size + 1) p2 l2
          obtain ⟨q2, hq2⟩ : ∃ q, q = at_ (schedN (wordsN s 16) m) p2 := ⟨_, rfl⟩
          rw [← hq2] at c2 x2
          replace hq2 := hide hq2
          obtain ⟨p7, hp7⟩ : ∃ p, p = t - 7 := ⟨_, rfl⟩
          have c7 := (unhide HA).cell p7 (by rw [fill_len (unhide HL) (by omega)]; omega)
          rw [fill_at (unhide HL) (by omega)] at c7
          have e7 : IntKind.i64.wrap ((t : Int) - 7) = (p7 : Int) := by rw [IntKind.wrap_i64]; omega
          have l7 : (p7 : Int) < 64 := by omega
          have x7 := hide (sched_lt s m p7)
          have d7 := hide (show p7 ≠ t by omega)
          replace hp7 := hide hp7
          have I7 := idx64 (w.heap.size + 1) p7 l7
          obtain ⟨q7, hq7⟩ : ∃ q, q = at_ (schedN (wordsN s 16) m) p7 := ⟨_, rfl⟩
          rw [← hq7] at c7 x7
          replace hq7 := hide hq7
          obtain ⟨p15, hp15⟩ : ∃ p, p = t - 15 := ⟨_, rfl⟩
          have c15 := (unhide HA).cell p15 (by rw [fill_len (unhide HL) (by omega)]; omega)
          rw [fill_at (unhide HL) (by omega)] at c15
          have e15 : IntKind.i64.wrap ((t : Int) - 15) = (p15 : Int) := by rw [IntKind.wrap_i64]; omega
          have l15 : (p15 : Int) < 64 := by omega
          have x15 := hide (sched_lt s m p15)
          have d15 := hide (show p15 ≠ t by omega)
          replace hp15 := hide hp15
          have I15 := idx64 (w.heap.size + 1) p15 l15
          obtain ⟨q15, hq15⟩ : ∃ q, q = at_ (schedN (wordsN s 16) m) p15 := ⟨_, rfl⟩
          rw [← hq15] at c15 x15
          replace hq15 := hide hq15
          obtain ⟨p16, hp16⟩ : ∃ p, p = t - 16 := ⟨_, rfl⟩
          have c16 := (unhide HA).cell p16 (by rw [fill_len (unhide HL) (by omega)]; omega)
          rw [fill_at (unhide HL) (by omega)] at c16
          have e16 : IntKind.i64.wrap ((t : Int) - 16) = (p16 : Int) := by rw [IntKind.wrap_i64]; omega
          have l16 : (p16 : Int) < 64 := by omega
          have x16 := hide (sched_lt s m p16)
          have d16 := hide (show p16 ≠ t by omega)
          replace hp16 := hide hp16
          have I16 := idx64 (w.heap.size + 1) p16 l16
          obtain ⟨q16, hq16⟩ : ∃ q, q = at_ (schedN (wordsN s 16) m) p16 := ⟨_, rfl⟩
          rw [← hq16] at c16 x16
          replace hq16 := hide hq16
          have c0 := (unhide HA).cell t (by rw [fill_len (unhide HL) (by omega)]; omega)
          have f0 := (unhide HA).frozen t
          have l0 : (t : Int) < 64 := by omega
          have I0 := idx64 (w.heap.size + 1) t l0
          replace ht := hide ht
          go_wp2
          go_region_held3 (fun W => W.cell? ⟨w.heap.size + 1, p2, none⟩ = some (.int .u32 (q2 : Int)) ∧ W.cell? ⟨w.heap.size + 1, p7, none⟩ = some (.int .u32 (q7 : Int)) ∧ W.cell? ⟨w.heap.size + 1, p15, none⟩ = some (.int .u32 (q15 : Int)) ∧ W.cell? ⟨w.heap.size + 1, p16, none⟩ = some (.int .u32 (q16 : Int))) (first | exact ⟨c2, c7, c15, c16⟩ | exact ⟨cell_by c2 (unhide d2), cell_by c7 (unhide d7), cell_by c15 (unhide d15), cell_by c16 (unhide d16)⟩) (first | (go_at_call 109; refine (implTwo_lit _ _ _ _ (by first | exact unhide x2 | exact unhide x15) (by decide) _).mono ?_; rintro e w1 ⟨rfl, n1, rfl⟩))
          obtain ⟨v, hv⟩ : ∃ v : Nat, v = moreW (schedN (wordsN s 16) m) t := ⟨_, rfl⟩
          have ev : IntKind.u32.wrap (IntKind.u32.wrap (IntKind.u32.wrap ((sg2 17 19 10 q2 : Int) + (q7 : Int)) + (sg2 7 18 3 q15 : Int)) + (q16 : Int)) = (v : Int) := by
            rw [hv, unhide hq2, unhide hq7, unhide hq15, unhide hq16, unhide hp2, unhide hp7, unhide hp15, unhide hp16]
            unfold moreW
            simp only [IntKind.wrap_u32]
            omega
          rw [ev]
          have hA3 : ∀ n, ArrAt ((wr.drewN n).setCell ⟨w.heap.size + 1, t, none⟩ (.int .u32 (v : Int))) (w.heap.size + 1) 121 (schedN (wordsN s 16) (m + 1) ++ List.replicate (64 - (16 + (m + 1))) 0) := by
            intro n
            have := ((unhide HA).drewN n).set t v
            rw [fill_set (unhide HL) (by omega), hv] at this
            rw [hv]
            have et := unhide ht
            subst et
            exact this
          have hR3 : ∀ n, ArrAt ((wr.drewN n).setCell ⟨w.heap.size + 1, t, none⟩ (.int .u32 (v : Int))) w.heap.size 121 zeros64 := by
            intro n
            exact ((unhide HR).drewN n).below (B := w.heap.size + 1) ((Below.refl _ _).setCell (p := ⟨w.heap.size + 1, t, none⟩) (Nat.le_refl _) _) (by omega)
          have HA3 := hide hA3
          have HR3 := hide hR3
          replace hv := hide hv
          clear hA3 hR3
          go_wp2
          go_roundw
          case rel => exact ⟨m + 1, by omega, by have := unhide ht; go_num, hide ((unhide HA3) _), hide ((unhide HR3) _), (Below.drewN hb _).setCell (p := ⟨w.heap.size + 1, t, none⟩) (by show w.heap.size ≤ w.heap.size + 1; omega) _⟩
          case measure => simp [intOf]; omega
        · have hm' : m = 48 := by omega
          subst hm'
          have HA4 := hide (show ArrAt wr (w.heap.size + 1) 121 (schedN (wordsN s 16) 48) by simpa using unhide HA)
          have hL48 := unhide HL
          have hi48 : (Try.prog.info? 121).map (·.size) = some (schedN (wordsN s 16) 48).length := by rw [hL48]; kernel_rfl
          replace hi48 := hide hi48
          replace hL48 := hide (show zeros64.length = (schedN (wordsN s 16) 48).length by rw [hL48]; rfl)
          have hsz := hb.size
          clear HA
          go_wp2_with (first | (refine wpList_load_arr rfl 121 _ rfl (w.heap.size + 1) rfl 121 _ (unhide HA4) _ _ Try.underlying121 (unhide hi48) ?_) | (refine wpList_store_arr rfl 121 _ _ rfl w.heap.size _ zeros64 rfl rfl 121 (unhide HR) (unhide hi48) (unhide hL48) ?_))
          refine bodyPost_ret (v := aggV (schedN (wordsN s 16) 48)) (results_arr Try.results100 _ _ w.heap.size 121 _ _ _ rfl ((unhide HR).setRow _) Try.underlying121 (unhide hi48)) rfl ⟨rfl, Go.below_setRow hb (Nat.le_refl _) _⟩
end Go.Proofs.Ytinnaajkdkfnaaa

/- The sixty-four numbers by impl, over the loaded program. -/
namespace Go.Proofs.Ytinnaajkdkfnaaa
open Go.RowKit
set_option maxRecDepth 100000 in
theorem implNumbers_any (w : World) :
    Calls Try.prog 101 #[] w fun e w' => e = .returned (aggV kTab) ∧ Below w.heap.size w w' := by
  go_enter Try.func101, Try.ntmps101
  have H1 := hide (ArrAt.new w 121 zeros64)
  have hik : (Try.prog.info? 121).map (·.size) = some kTab.length := by kernel_rfl
  replace hik := hide hik
  have hb : Below w.heap.size w (w.alloc (.cells (zeros64.map u32v).toArray 121)) := (Below.refl w.heap.size w).alloc (Nat.le_refl _) _
  replace hb := hide hb
  go_wp2_with (first | (refine wpList_build_arr rfl 121 _ rfl kTab (by kernel_rfl) ?_) | (refine wpList_store_arr rfl 121 _ _ rfl w.heap.size _ zeros64 rfl rfl 121 (unhide H1) (unhide hik) rfl ?_))
  refine bodyPost_ret (v := aggV kTab) (results_arr Try.results101 _ _ w.heap.size 121 _ _ _ rfl ((unhide H1).setRow _) Try.underlying121 (unhide hik)) rfl ⟨rfl, Go.below_setRow (unhide hb) (Nat.le_refl _) _⟩
end Go.Proofs.Ytinnaajkdkfnaaa

/- A block is mixed in by impl, over the loaded program. -/
namespace Go.Proofs.Ytinnaajkdkfnaaa
open Go.RowKit
theorem implThree_lit (x : Nat) (A B C : Int) (hx : x < 4294967296) (h : (A = 6 ∧ B = 11 ∧ C = 25) ∨ (A = 2 ∧ B = 13 ∧ C = 22)) (w : World) :
    Calls Try.prog 102 #[.int .u32 (x : Int), .int .i64 A, .int .i64 B, .int .i64 C] w fun e w' => e = .returned (.int .u32 (sg3 A.toNat B.toNat C.toNat x : Int)) ∧ ∃ n, w' = w.drewN n := by
  rcases h with ⟨rfl, rfl, rfl⟩ | ⟨rfl, rfl, rfl⟩
  · exact implThree_any x 6 11 25 hx (by decide) (by decide) (by decide) (by decide) (by decide) (by decide) w
  · exact implThree_any x 2 13 22 hx (by decide) (by decide) (by decide) (by decide) (by decide) (by decide) w
theorem len8v : Try.prog.arrayLen 112 = 8 := by kernel_rfl
theorem built8 (u : V8) : Try.prog.built 112 [(0, .int .u32 (u.a : Int)), (1, .int .u32 (u.b : Int)), (2, .int .u32 (u.c : Int)), (3, .int .u32 (u.d : Int)), (4, .int .u32 (u.e : Int)), (5, .int .u32 (u.f : Int)), (6, .int .u32 (u.g : Int)), (7, .int .u32 (u.h : Int))] = some (u.toL.map u32v).toArray := by kernel_rfl
theorem wpList_build8 {ops : Array Oper} {rest : List Oper} {o : Oper} {a : Act} {w : World} {Q : Exit → Act → World → Prop} (u : V8) (hg : o.guard = none) (x0 x1 x2 x3 x4 x5 x6 x7 : Operand) (ho : o.op = .build 112 #[(0, x0), (1, x1), (2, x2), (3, x3), (4, x4), (5, x5), (6, x6), (7, x7)])
    (e0 : a.eval x0 = .int .u32 (u.a : Int)) (e1 : a.eval x1 = .int .u32 (u.b : Int)) (e2 : a.eval x2 = .int .u32 (u.c : Int)) (e3 : a.eval x3 = .int .u32 (u.d : Int)) (e4 : a.eval x4 = .int .u32 (u.e : Int)) (e5 : a.eval x5 = .int .u32 (u.f : Int)) (e6 : a.eval x6 = .int .u32 (u.g : Int)) (e7 : a.eval x7 = .int .u32 (u.h : Int))
    (h : wpList Try.prog ops Q rest (a.put o.dst (aggV u.toL)) w) : wpList Try.prog ops Q (o :: rest) a w := by
  refine wpList_build_arr hg 112 _ ho u.toL ?_ h
  simp only [List.map_toArray, List.map_cons, List.map_nil, e0, e1, e2, e3, e4, e5, e6, e7]
  exact built8 u
theorem idx8v (l : List Nat) (hl : l.length = 8) (k : Nat) (h : (k : Int) < 8) (W : World) : (Instr.index 112 (aggV l) (.int .i64 (k : Int))).run Try.prog W = .ok (.int .u32 (at_ l k : Int)) W := by
  have hk : k < l.length := by omega
  have hk8 : k < 8 := by omega
  unfold Instr.index aggV
  simp [asIntOf, run_underlying Try.underlying112, go_sem, part, isAgg, run_underlying Try.underlying100, hk, hk8, at_, u32v]
theorem idx8 (g k : Nat) (h : (k : Int) < 8) (W : World) : (Instr.indexAt 113 (.pointer (some ⟨g, 0, none⟩)) (.int .i64 (k : Int))).run Try.prog W = .ok (.pointer (some ⟨g, k, none⟩)) W := by
  have hu : Try.prog.underlying 113 = some (.array (Try.prog.arrayLen 113) (Try.prog.elem 113)) := by kernel_rfl
  have he : Try.prog.elem 113 = 100 := by kernel_rfl
  have hl : Try.prog.arrayLen 113 = 8 := by kernel_rfl
  have h1 : (0 : Int) ≤ (k : Int) ∧ (k : Int) < ((Try.prog.arrayLen 113 : Nat) : Int) := by rw [hl]; exact ⟨by omega, by omega⟩
  rw [run_indexAt_array (P := Try.prog) (w := W) 113 ⟨g, 0, none⟩ .i64 (k : Int) hu, if_pos h1, he]
  simp [go_sem, Addr.add]
  intro h; exact h.symm
def mixL (a b : List Nat) (k : Nat) : List Nat := a.take k ++ b.drop k
theorem mixL_len {a b : List Nat} (h : a.length = b.length) (k : Nat) : (mixL a b k).length = b.length := by simp [mixL]; omega
theorem mixL_at {a b : List Nat} (h : a.length = b.length) {k : Nat} (hk : k < b.length) : at_ (mixL a b k) k = at_ b k := by
  unfold at_ mixL
  rw [List.getD_eq_getElem?_getD, List.getD_eq_getElem?_getD, List.getElem?_append_right (by simp; omega)]
  simp [show min k a.length = k by omega]
theorem mixL_set {a b : List Nat} (h : a.length = b.length) {k : Nat} (hk : k < b.length) : (mixL a b k).set k (at_ a k) = mixL a b (k + 1) := by
  unfold mixL at_
  rw [List.set_append_right _ _ (by simp; omega)]
  have hl : (a.take k).length = k := by simp; omega
  rw [hl, Nat.sub_self, List.drop_eq_getElem_cons hk, List.set_cons_zero, List.take_succ_eq_append_getElem (by omega), List.append_assoc, List.getD_eq_getElem?_getD, List.getElem?_eq_getElem (by omega)]
  rfl
theorem plus_len (v u : V8) : (v.plus u).toL.length = v.toL.length := rfl
theorem plus_at (v u : V8) (k : Nat) (hk : k < 8) : at_ (v.plus u).toL k = (at_ v.toL k + at_ u.toL k) % 4294967296 := by
  match k, hk with
  | 0, _ => rfl
  | 1, _ => rfl
  | 2, _ => rfl
  | 3, _ => rfl
  | 4, _ => rfl
  | 5, _ => rfl
  | 6, _ => rfl
  | 7, _ => rfl
  | n + 8, h => exact absurd h (by omega)

set_option maxRecDepth 20000 in
set_option maxHeartbeats 1000000 in
theorem take_any (v : V8) (hv : v.ok) (s : ByteArray) (hs : s.size = 64) (g : Nat) (w : World) (hA : ArrAt w g 113 v.toL) :
    Calls Try.prog 95 #[.pointer (some ⟨g, 0, none⟩), .string s] w fun e w' => e = .returned (.tuple #[]) ∧ ArrAt w' g 113 (roundW v s).toL ∧ w.grownBy w' (some g) := by
  have HA := hide hA
  have hgl := hA.lt
  go_enter Try.func95, Try.ntmps95
  have hi1 : (Try.prog.info? 121).map (·.size) = some (schedN (wordsN s 16) 48).length := by rw [schedN_len _ (wordsN_len s 16)]; kernel_rfl
  have hi2 : (Try.prog.info? 121).map (·.size) = some kTab.length := by kernel_rfl
  have hz1 : zeros64.length = (schedN (wordsN s 16) 48).length := by rw [schedN_len _ (wordsN_len s 16)]; rfl
  have hz2 : zeros64.length = kTab.length := rfl
  replace hi1 := hide hi1
  replace hi2 := hide hi2
  replace hz1 := hide hz1
  replace hz2 := hide hz2
  go_wp2_with (first
    | (go_at_call 100; refine (implWords_any s hs _).mono ?_; rintro e w1 ⟨rfl, hb1⟩)
    | (go_at_call 101; refine (implNumbers_any _).mono ?_; rintro e w2 ⟨rfl, hb2⟩; have HT := hide (two_z64 w2 121))
    | (refine wpList_store_arr_as rfl 121 (.tmp 4) (.tmp 20) rfl w2.heap.size _ zeros64 rfl rfl 121 (unhide HT).2.1 (unhide hi1) (unhide hz1) ?_; intro w3 hA3 hO3 hB3; have hN3 := hO3 _ _ _ (by omega) (unhide HT).1; have hB3' := (unhide HT).2.2.trans hB3; replace hN3 := hide hN3; replace hA3 := hide hA3; clear hO3 hB3 HT)
    | (refine wpList_store_arr_as rfl 121 (.tmp 5) (.tmp 21) rfl (w2.heap.size + 1) _ zeros64 rfl rfl 121 (unhide hN3) (unhide hi2) (unhide hz2) ?_; intro w4 hK4 hO4 hB4; have hA4 := hO4 _ _ _ (by omega) (unhide hA3); have hb4 := hB3'.trans (hB4.mono (by omega)); replace hA4 := hide hA4; replace hK4 := hide hK4; clear hO4 hB4 hA3 hN3))
  have hb5 : Below w.heap.size w w4 := (hb1.trans (hb2.mono hb1.size)).trans (hb4.mono (Nat.le_trans hb1.size hb2.size))
  have hG := (unhide HA).below hb5 hgl
  have c0 : w4.cell? ⟨g, 0, none⟩ = some (.int .u32 (v.a : Int)) := hG.cell 0 (by show 0 < 8; decide)
  have c1 : w4.cell? ⟨g, 1, none⟩ = some (.int .u32 (v.b : Int)) := hG.cell 1 (by show 1 < 8; decide)
  have c2 : w4.cell? ⟨g, 2, none⟩ = some (.int .u32 (v.c : Int)) := hG.cell 2 (by show 2 < 8; decide)
  have c3 : w4.cell? ⟨g, 3, none⟩ = some (.int .u32 (v.d : Int)) := hG.cell 3 (by show 3 < 8; decide)
  have c4 : w4.cell? ⟨g, 4, none⟩ = some (.int .u32 (v.e : Int)) := hG.cell 4 (by show 4 < 8; decide)
  have c5 : w4.cell? ⟨g, 5, none⟩ = some (.int .u32 (v.f : Int)) := hG.cell 5 (by show 5 < 8; decide)
  have c6 : w4.cell? ⟨g, 6, none⟩ = some (.int .u32 (v.g : Int)) := hG.cell 6 (by show 6 < 8; decide)
  have c7 : w4.cell? ⟨g, 7, none⟩ = some (.int .u32 (v.h : Int)) := hG.cell 7 (by show 7 < 8; decide)
  replace hG := hide hG
  replace hb5 := hide hb5
  dsimp only [Act.put]
  go_quiet (fail)
  go_wp2
  have hS4 := hb4.size
  go_loopw [6, 7, 8, 9, 10, 11, 12, 13, 54] (fun ta tb tc td te tf tg th ti wr => ∃ (k n : Nat) (u : V8), k ≤ 64 ∧ ti = .int .i64 (k : Int) ∧ ta = .int .u32 (u.a : Int) ∧ tb = .int .u32 (u.b : Int) ∧ tc = .int .u32 (u.c : Int) ∧ td = .int .u32 (u.d : Int) ∧ te = .int .u32 (u.e : Int) ∧ tf = .int .u32 (u.f : Int) ∧ tg = .int .u32 (u.g : Int) ∧ th = .int .u32 (u.h : Int) ∧ Hid (u = V8.steps (schedN (wordsN s 16) 48) k v) ∧ wr = w4.drewN n) (fun _ _ _ _ _ _ _ _ ti _ => 64 - (intOf ti).toNat)
  case atStart => exact ⟨0, _, v, by omega, rfl, rfl, rfl, rfl, rfl, rfl, rfl, rfl, rfl, hide rfl, rfl⟩
  case round =>
    obtain ⟨k, n, u, hk, rfl, rfl, rfl, rfl, rfl, rfl, rfl, rfl, rfl, HU, rfl⟩ := hrel
    have HO := hide (show u.ok by rw [unhide HU]; exact V8.steps_ok hv _ _)
    have Lw := unhide hA4
    have Lk := unhide hK4
    by_cases hlt : k < 64
    · have cw := Lw.cell k (by rw [schedN_len _ (wordsN_len s 16)]; omega)
      have ck := Lk.cell k hlt
      clear Lw Lk
      have hlt' : (k : Int) < 64 := by omega
      have Iw := idx64 w2.heap.size k hlt'
      have Ik := idx64 (w2.heap.size + 1) k hlt'
      obtain ⟨ww, hww⟩ : ∃ x, x = at_ (schedN (wordsN s 16) 48) k := ⟨_, rfl⟩
      obtain ⟨kk, hkk⟩ : ∃ x, x = at_ kTab k := ⟨_, rfl⟩
      rw [← hww] at cw
      rw [← hkk] at ck
      replace hww := hide hww
      replace hkk := hide hkk
      have oa := hide (unhide HO).1
      have ob := hide (unhide HO).2.1
      have oc := hide (unhide HO).2.2.1
      have oe := hide (unhide HO).2.2.2.2.1
      have of_ := hide (unhide HO).2.2.2.2.2.1
      have og := hide (unhide HO).2.2.2.2.2.2.1
      go_wp2
      go_region_held3 (fun W => W.cell? ⟨w2.heap.size, k, none⟩ = some (.int .u32 (ww : Int)) ∧ W.cell? ⟨w2.heap.size + 1, k, none⟩ = some (.int .u32 (kk : Int))) (first | exact ⟨cw, ck⟩) (first
        | (go_at_call 102; refine (implThree_lit _ _ _ _ (by exact unhide oe) (by decide) _).mono ?_; rintro e w1 ⟨rfl, n1, rfl⟩)
        | (go_at_call 103; refine (implCh_any _ _ _ (by exact unhide oe) (by exact unhide of_) (by exact unhide og) _).mono ?_; rintro e w1 ⟨rfl, n1, rfl⟩))
      go_wp2_with (first
        | (go_at_call 102; refine (implThree_lit _ _ _ _ (by exact unhide oa) (by decide) _).mono ?_; rintro e w1 ⟨rfl, n1, rfl⟩)
        | (go_at_call 104; refine (implMaj_any _ _ _ (by exact unhide oa) (by exact unhide ob) (by exact unhide oc) _).mono ?_; rintro e w1 ⟨rfl, n1, rfl⟩))
      go_roundw
      case rel =>
        have ek := unhide hkk
        have ew := unhide hww
        have eu := unhide HU
        refine ⟨k + 1, _, u.step kk ww, by omega, by go_num, ?_, rfl, rfl, rfl, ?_, rfl, rfl, rfl, hide (by rw [ek, ew, eu]; rfl), rfl⟩
        · simp only [V8.step, V8.t1, V8.t2]
          congr 1
          omega
        · simp only [V8.step, V8.t1]
          congr 1
          omega
      case measure => simp [intOf]; omega
    · have hk' := hide (show k = 64 by omega)
      clear Lw Lk
      have hb0 := unhide hb5
      have hgrow : w.grownBy (w4.drewN n) (some g) := ⟨hb0.os, hb0.tape, hb0.output, hb0.size, fun q hq _ => hb0.block q hq⟩
      have hmix : ArrAt (w4.drewN n) g 113 (mixL (v.plus u).toL v.toL 0) := unhide hG
      have HF := hide (show (v.plus u).toL = (roundW v s).toL by unfold roundW; rw [unhide HU, unhide hk'])
      clear hA HA hi1 hi2 hz1 hz2 HO c0 c1 c2 c3 c4 c5 c6 c7 hb0 hb5 hG hA4 hK4 hB3' hb1 hb2 hb4 hS4
      replace hgrow := hide hgrow
      replace hmix := hide hmix
      generalize hWW : w4.drewN n = W5 at hgrow hmix ⊢
      clear hWW
      go_wp2
      go_loopw [103] (fun ti wr => ∃ q : Nat, q ≤ 8 ∧ ti = .int .i64 (q : Int) ∧ Hid (ArrAt wr g 113 (mixL (v.plus u).toL v.toL q)) ∧ Hid (w.grownBy wr (some g))) (fun ti _ => 8 - (intOf ti).toNat)
      case atStart => exact ⟨0, by omega, rfl, hmix, hgrow⟩
      case round =>
        clear hmix hgrow
        obtain ⟨q, hq, rfl, HM, HG⟩ := hrel
        by_cases hql : q < 8
        · have hql' : (q : Int) < 8 := by omega
          have hcq := (unhide HM).cell q (by rw [mixL_len (plus_len v u)]; exact hql)
          rw [mixL_at (plus_len v u) hql] at hcq
          have hfq := (unhide HM).frozen q
          have Iv : ∀ W, (Instr.index 112 (.agg #[.int .u32 (u.a : Int), .int .u32 (u.b : Int), .int .u32 (u.c : Int), .int .u32 (u.d : Int), .int .u32 (u.e : Int), .int .u32 (u.f : Int), .int .u32 (u.g : Int), .int .u32 (u.h : Int)]) (.int .i64 (q : Int))).run Try.prog W = .ok (.int .u32 (at_ u.toL q : Int)) W := idx8v u.toL rfl q hql'
          have Ig := idx8 g q hql'
          have HP := hide (plus_at v u q hql)
          have hset : ArrAt (wr.setCell ⟨g, q, none⟩ (.int .u32 (at_ (v.plus u).toL q : Int))).drew g 113 (mixL (v.plus u).toL v.toL (q + 1)) := by
            have := (unhide HM).set q (at_ (v.plus u).toL q)
            rwa [mixL_set (plus_len v u) hql] at this
          have hgr : w.grownBy (wr.setCell ⟨g, q, none⟩ (.int .u32 (at_ (v.plus u).toL q : Int))).drew (some g) := by
            have h0 := unhide HG
            refine ⟨h0.os, h0.tape, h0.output, by simpa using h0.size, fun k hk hne => ?_⟩
            show (wr.setCell ⟨g, q, none⟩ (.int .u32 (at_ (v.plus u).toL q : Int))).heap[k]? = _
            rw [Below.heap_setCell _ _ _ _ (by intro hh; exact hne (by rw [hh]))]
            exact h0.block k hk hne
          obtain ⟨x, hx⟩ : ∃ x, x = at_ v.toL q := ⟨_, rfl⟩
          obtain ⟨y, hy⟩ : ∃ y, y = at_ u.toL q := ⟨_, rfl⟩
          rw [← hx] at hcq HP
          rw [← hy] at HP
          simp only [← hy] at Iv
          have exy : ((x : Int) + (y : Int)) % 4294967296 = ((at_ (v.plus u).toL q : Nat) : Int) := by rw [unhide HP]; omega
          replace hset := hide hset
          replace hgr := hide hgr
          replace hx := hide hx
          replace hy := hide hy
          replace exy := hide exy
          go_wp2
          go_region
          rw [unhide exy]
          go_wp2
          go_roundw
          case rel => exact ⟨q + 1, by omega, by go_num, hset, hgr⟩
          case measure => simp [intOf]; omega
        · have hq8 : q = 8 := by omega
          have hfin : ArrAt wr g 113 (roundW v s).toL := by
            have := unhide HM
            rw [hq8] at this
            rw [← unhide HF]
            exact this
          replace hq8 := hide hq8
          replace hfin := hide hfin
          go_wp2
          go_end0
          exact ⟨rfl, unhide hfin, unhide HG⟩
end Go.Proofs.Ytinnaajkdkfnaaa

