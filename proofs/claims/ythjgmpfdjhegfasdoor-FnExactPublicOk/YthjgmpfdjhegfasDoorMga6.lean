/- Merged: Kem6, Pbt, PckA, PckB, Bar, PckT, PckC, PckD. -/
import Derived.Test.YthjgmpfdjhegfasDoorMga1
import Derived.Test.YthjgmpfdjhegfasDoorMga2
import Derived.Test.YthjgmpfdjhegfasDoorMga3
import Derived.Test.YthjgmpfdjhegfasDoorMga4
import Derived.Test.YthjgmpfdjhegfasDoorMga5
import Derived.Shelf.Abstract
import Derived.Laws.Rows
import Derived.Laws.Tables
import Derived.Laws.CopyRow
import Derived.Laws.MakeOwn
import Derived.Laws.CopyOwn
import Derived.Lib.LaidTab
import Derived.Lib.SmallJoins
import Derived.Deep.RegionHeld3
import Derived.Deep.OwnRows
import Derived.WalkMore
import Derived.ScopeJumps
/- A secret handed over, by the given model: Decrypt, ErrorOf; the laws FnExactPublicOk, FnExactDecrypt, FnExactErrorOf, over the loaded program, the project's functions as premises. -/
namespace Go.Proofs.YthjgmpfdjhegfasDoor
open Go.RowKit
def decB (s c : ByteArray) : ByteArray := if openOk s c = true then sqzB (openL s c) 1 else ⟨#[]⟩
def errZ (s m c : ByteArray) : Int := if openOk s c = true ∧ m.size = 32 then farL (openL s c) (bitsL m) else -1
theorem openL_len (s c : ByteArray) : (openL s c).length ≤ 1048576 := by
  unfold openL
  split
  · unfold subL
    split
    · rw [mk256_len]; omega
    · show 0 ≤ _; omega
  · show 0 ≤ _; omega
set_option maxRecDepth 20000 in
theorem specDecrypt_any (s c : ByteArray) (hs : s.size ≤ 1048576) (hc : c.size ≤ 1048576) (w : World) :
    Calls Tryd.prog 8 #[.string s, .string c] w fun e w' => e = .returned (.tuple #[.string (decB s c), .bool (openOk s c)]) ∧ Below w.heap.size w w' := by
  have CO := hide (specOpen_any s c hs hc w)
  have CQ := hide (fun u W r => specSqueezed_any (openL s c) 1 (openL_len s c) u W r)
  cases ho : openOk s c with
  | false =>
    have E := hide (show decB s c = ⟨#[]⟩ by unfold decB; rw [ho]; rfl)
    rw [unhide E]
    rw [ho] at CO
    clear ho CQ
    go_enter Tryd.func8, Tryd.ntmps8
    go_wp2_with fail
    refine (unhide CO).mono ?_
    rintro e w1 ⟨⟨v, rfl, ov⟩, hb1⟩
    clear ov CO
    go_wp2
    refine bodyPost_ret (v := .tuple #[.string ⟨#[]⟩, .bool false]) (by simp [results, Tryd.results8, go_sem]) rfl ⟨rfl, hb1⟩
  | true =>
    have E := hide (show decB s c = sqzB (openL s c) 1 by unfold decB; rw [if_pos ho])
    rw [unhide E]
    rw [ho] at CO
    generalize sqzB (openL s c) 1 = q at *
    generalize openL s c = l at *
    clear ho E
    go_enter Tryd.func8, Tryd.ntmps8
    go_wp2_with fail
    refine (unhide CO).mono ?_
    rintro e w1 ⟨⟨v, rfl, ov⟩, hb1⟩
    have rv := ov.rdv
    clear ov CO
    go_wp2_with fail
    refine (unhide CQ v w1 rv).mono ?_
    rintro e w2 ⟨rfl, hb2⟩
    have hT := hb1.trans (hb2.mono hb1.size)
    clear CQ rv
    go_wp2
    refine bodyPost_ret (v := .tuple #[.string q, .bool true]) (by simp [results, Tryd.results8, go_sem]) rfl ⟨rfl, hT⟩
set_option maxRecDepth 20000 in
theorem specErrorOf_any (s m c : ByteArray) (hs : s.size ≤ 1048576) (hc : c.size ≤ 1048576) (w : World) :
    Calls Tryd.prog 10 #[.string s, .string m, .string c] w fun e w' => e = .returned (.int .i64 (errZ s m c)) ∧ Below w.heap.size w w' := by
  have CO := hide (specOpen_any s c hs hc w)
  cases ho : openOk s c with
  | false =>
    have E := hide (show errZ s m c = -1 by unfold errZ; rw [if_neg (fun h => by rw [ho] at h; cases h.1)])
    rw [unhide E]
    rw [ho] at CO
    clear ho
    go_enter Tryd.func10, Tryd.ntmps10
    go_wp2_with fail
    refine (unhide CO).mono ?_
    rintro e w1 ⟨⟨v, rfl, ov⟩, hb1⟩
    clear ov CO
    go_wp2
    go_ret
    exact ⟨rfl, hb1⟩
  | true =>
    rw [ho] at CO
    by_cases hm : m.size = 32
    · have E := hide (show errZ s m c = farL (openL s c) (bitsL m) by unfold errZ; rw [if_pos ⟨ho, hm⟩])
      rw [unhide E]
      have CB := hide (fun W => specBits_any m hm W)
      have CF := hide (fun u v W r1 r2 => specFar_any (openL s c) (bitsL m) u v W r1 r2)
      generalize farL (openL s c) (bitsL m) = z at *
      generalize openL s c = l at *
      generalize bitsL m = bl at *
      have hm' : (m.size : Int) = 32 := by omega
      clear ho E
      replace hm := hide hm
      go_enter Tryd.func10, Tryd.ntmps10
      go_wp2_with fail
      refine (unhide CO).mono ?_
      rintro e w1 ⟨⟨v, rfl, ov⟩, hb1⟩
      have rv := hide ov.rdv
      clear ov CO
      go_wp2_with fail
      refine (unhide CB w1).mono ?_
      rintro e w2 ⟨⟨vb, rfl, ob⟩, hb2⟩
      have rb := hide ob.rdv
      have rv2 := hide ((unhide rv).below hb2)
      have hT2 := hb1.trans (hb2.mono hb1.size)
      clear ob CB rv hb1 hb2
      go_wp2_with fail
      refine (unhide CF v vb w2 (unhide rv2) (unhide rb)).mono ?_
      rintro e w3 ⟨rfl, hb3⟩
      have hT3 := hT2.trans (hb3.mono hT2.size)
      clear CF rv2 rb hb3 hT2
      go_wp2
      go_ret
      exact ⟨rfl, hT3⟩
    · have E := hide (show errZ s m c = -1 by unfold errZ; rw [if_neg (fun h => hm h.2)])
      rw [unhide E]
      have hm' : ¬ (m.size : Int) = 32 := by omega
      clear ho
      go_enter Tryd.func10, Tryd.ntmps10
      go_wp2_with fail
      refine (unhide CO).mono ?_
      rintro e w1 ⟨⟨v, rfl, ov⟩, hb1⟩
      clear ov CO
      go_wp2
      go_ret
      exact ⟨rfl, hb1⟩
set_option maxRecDepth 20000 in
theorem lawPublicOk_any (s : ByteArray) (w : World) (CI : s.size ≤ 1048576 → ∀ W : World, Below w.heap.size w W → Calls Tryd.prog 7 #[.string s] W fun e w' => e = .returned (.bool (publicOkB s)) ∧ Below W.heap.size W w') :
    Calls Tryd.prog 3 #[.string s] w fun e w' => e = .returned (.bool true) ∧ Below w.heap.size w w' := by
  by_cases h1 : (1048576 : Int) < (s.size : Int)
  · go_enter Tryd.func3, Tryd.ntmps3
    go_wp2
    go_ret
    exact ⟨rfl, Below.refl _ _⟩
  have ns : s.size ≤ 1048576 := by omega
  have CS := hide (specPublicOk_any s ns w)
  replace CI := hide (CI ns)
  generalize publicOkB s = b at *
  go_enter Tryd.func3, Tryd.ntmps3
  go_wp2_with fail
  refine (unhide CS).mono ?_
  rintro e w1 ⟨rfl, hb1⟩
  go_wp2_with fail
  refine (unhide CI w1 hb1).mono ?_
  rintro e w2 ⟨rfl, hb2⟩
  have hT := hb1.trans (hb2.mono hb1.size)
  clear CS CI hb1 hb2
  go_wp2
  go_ret
  exact ⟨rfl, hT⟩
set_option maxRecDepth 20000 in
theorem lawDecrypt_any (s c : ByteArray) (w : World) (CI : s.size ≤ 1048576 → c.size ≤ 1048576 → ∀ W : World, Below w.heap.size w W → Calls Tryd.prog 9 #[.string s, .string c] W fun e w' => e = .returned (.tuple #[.string (decB s c), .bool (openOk s c)]) ∧ Below W.heap.size W w') :
    Calls Tryd.prog 4 #[.string s, .string c] w fun e w' => e = .returned (.bool true) ∧ Below w.heap.size w w' := by
  by_cases h1 : (1048576 : Int) < (s.size : Int)
  · go_enter Tryd.func4, Tryd.ntmps4
    go_wp2
    go_ret
    exact ⟨rfl, Below.refl _ _⟩
  by_cases h2 : (1048576 : Int) < (c.size : Int)
  · go_enter Tryd.func4, Tryd.ntmps4
    go_wp2
    go_ret
    exact ⟨rfl, Below.refl _ _⟩
  have ns : s.size ≤ 1048576 := by omega
  have nc : c.size ≤ 1048576 := by omega
  have CS := hide (specDecrypt_any s c ns nc w)
  replace CI := hide (CI ns nc)
  generalize decB s c = q at *
  generalize openOk s c = b at *
  go_enter Tryd.func4, Tryd.ntmps4
  go_wp2_with fail
  refine (unhide CS).mono ?_
  rintro e w1 ⟨rfl, hb1⟩
  go_wp2_with fail
  refine (unhide CI w1 hb1).mono ?_
  rintro e w2 ⟨rfl, hb2⟩
  have hT := hb1.trans (hb2.mono hb1.size)
  clear CS CI hb1 hb2
  go_wp2
  go_ret
  exact ⟨rfl, hT⟩
set_option maxRecDepth 20000 in
theorem lawErrorOf_any (s m c : ByteArray) (w : World) (CI : s.size ≤ 1048576 → m.size ≤ 1048576 → c.size ≤ 1048576 → ∀ W : World, Below w.heap.size w W → Calls Tryd.prog 11 #[.string s, .string m, .string c] W fun e w' => e = .returned (.int .i64 (errZ s m c)) ∧ Below W.heap.size W w') :
    Calls Tryd.prog 5 #[.string s, .string m, .string c] w fun e w' => e = .returned (.bool true) ∧ Below w.heap.size w w' := by
  by_cases h1 : (1048576 : Int) < (s.size : Int)
  · go_enter Tryd.func5, Tryd.ntmps5
    go_wp2
    go_ret
    exact ⟨rfl, Below.refl _ _⟩
  by_cases h2 : (1048576 : Int) < (m.size : Int)
  · go_enter Tryd.func5, Tryd.ntmps5
    go_wp2
    go_ret
    exact ⟨rfl, Below.refl _ _⟩
  by_cases h3 : (1048576 : Int) < (c.size : Int)
  · go_enter Tryd.func5, Tryd.ntmps5
    go_wp2
    go_ret
    exact ⟨rfl, Below.refl _ _⟩
  have ns : s.size ≤ 1048576 := by omega
  have nm : m.size ≤ 1048576 := by omega
  have nc : c.size ≤ 1048576 := by omega
  have CS := hide (specErrorOf_any s m c ns nc w)
  replace CI := hide (CI ns nm nc)
  generalize errZ s m c = z at *
  go_enter Tryd.func5, Tryd.ntmps5
  go_wp2_with fail
  refine (unhide CS).mono ?_
  rintro e w1 ⟨rfl, hb1⟩
  go_wp2_with fail
  refine (unhide CI w1 hb1).mono ?_
  rintro e w2 ⟨rfl, hb2⟩
  have hT := hb1.trans (hb2.mono hb1.size)
  clear CS CI hb1 hb2
  go_wp2
  go_ret
  exact ⟨rfl, hT⟩
end Go.Proofs.YthjgmpfdjhegfasDoor

/- Laws of no program: the digits of a number when a bit above it is set. -/
namespace Go.Proofs.YthjgmpfdjhegfasDoor
theorem dig_bit (b m k u V : Nat) (hu : u < b) (hV : V < 2 ^ (b * k + u)) :
    dig (2 ^ b) m (V + 2 ^ (b * k + u)) = (dig (2 ^ b) m V).set k (V / 2 ^ (b * k) + 2 ^ u) := by
  refine List.ext_getElem? fun i => ?_
  rw [List.getElem?_set, dig_len]
  rcases Nat.lt_or_ge i m with hi | hi
  · rw [dig_at _ _ _ _ hi, dig_at _ _ _ _ hi, ← Nat.pow_mul]
    rcases Nat.lt_trichotomy i k with h | h | h
    · rw [if_neg (by omega)]
      have e1 : b * i + b ≤ b * k := by have := Nat.mul_le_mul_left b h; rw [Nat.succ_eq_add_one, Nat.mul_add, Nat.mul_one] at this; exact this
      have h1 := div_add2 (N := V) (ct := b * k + u - b * i) (B := b * i) (T := b * k + u) (x := 1) (by omega)
      rw [Nat.mul_one] at h1
      rw [h1, mod_same (by omega)]
    · subst h
      rw [if_pos rfl, if_pos hi]
      have h1 := div_add2 (N := V) (ct := u) (B := b * i) (T := b * i + u) (x := 1) (by omega)
      rw [Nat.mul_one, Nat.one_mul] at h1
      have h2 : V / 2 ^ (b * i) < 2 ^ u := by
        rw [Nat.div_lt_iff_lt_mul (Nat.pow_pos (by omega)), ← Nat.pow_add, Nat.add_comm u]
        exact hV
      have h3 : 2 ^ (u + 1) ≤ 2 ^ b := Nat.pow_le_pow_right (by omega) (by omega)
      rw [Nat.pow_succ] at h3
      rw [h1, Nat.mod_eq_of_lt (by omega)]
    · rw [if_neg (by omega)]
      have e1 : b * k + b ≤ b * i := by have := Nat.mul_le_mul_left b h; rw [Nat.succ_eq_add_one, Nat.mul_add, Nat.mul_one] at this; exact this
      have h3 : 2 ^ (b * k + u + 1) ≤ 2 ^ (b * i) := Nat.pow_le_pow_right (by omega) (by omega)
      rw [Nat.pow_succ] at h3
      rw [Nat.div_eq_of_lt (show V + 2 ^ (b * k + u) < 2 ^ (b * i) by omega), Nat.div_eq_of_lt (show V < 2 ^ (b * i) by omega)]
  · rw [List.getElem?_eq_none (by rw [dig_len]; exact hi), List.getElem?_eq_none (by rw [dig_len]; exact hi)]
    by_cases e : k = i
    · rw [if_pos e, if_neg (by omega)]
    · rw [if_neg e]
theorem dig_zero (c m : Nat) : dig c m 0 = List.replicate m 0 := by
  refine List.ext_getElem? fun i => ?_
  rcases Nat.lt_or_ge i m with hi | hi
  · rw [dig_at _ _ _ _ hi, List.getElem?_replicate, if_pos hi, Nat.zero_div, Nat.zero_mod]
  · rw [List.getElem?_eq_none (by rw [dig_len]; exact hi), List.getElem?_replicate, if_neg (by omega)]
theorem digI_bit (b m k u V : Nat) (hu : u < b) (hV : V < 2 ^ (b * k + u)) :
    digI b m (V + 2 ^ (b * k + u)) = (digI b m V).set k ((V / 2 ^ (b * k) + 2 ^ u : Nat) : Int) := by
  unfold digI
  rw [dig_bit b m k u V hu hV, List.map_set]
theorem digI_zero (b m : Nat) : digI b m 0 = List.replicate m 0 := by
  unfold digI
  rw [dig_zero, List.map_replicate]
  rfl
theorem digI_at (b m V k u : Nat) (hk : k < m) (hu : u < b) (hV : V < 2 ^ (b * k + u)) : cAt (digI b m V) k = ((V / 2 ^ (b * k) : Nat) : Int) ∧ V / 2 ^ (b * k) < 2 ^ u := by
  have h2 : V / 2 ^ (b * k) < 2 ^ u := by
    rw [Nat.div_lt_iff_lt_mul (Nat.pow_pos (by omega)), ← Nat.pow_add, Nat.add_comm u]
    exact hV
  refine ⟨?_, h2⟩
  have h3 : 2 ^ u ≤ 2 ^ b := Nat.pow_le_pow_right (by omega) (by omega)
  have h4 := dig_at (2 ^ b) m V k hk
  rw [← Nat.pow_mul, Nat.mod_eq_of_lt (by omega)] at h4
  rw [cAt_lt (by rw [digI_len]; exact hk)]
  unfold digI
  rw [List.getElem_map]
  have h5 := List.getElem?_eq_getElem (show k < (dig (2 ^ b) m V).length by rw [dig_len]; exact hk)
  rw [h4] at h5
  rw [← Option.some.inj h5]
theorem bys_bit (m k u V : Nat) (hu : u < 8) (hV : V < 2 ^ (8 * k + u)) :
    bysL (dig 256 m (V + 2 ^ (8 * k + u))) = (bysL (dig 256 m V)).set k (byteOf (V / 2 ^ (8 * k) + 2 ^ u)) := by
  have h := dig_bit 8 m k u V hu hV
  rw [show (2 : Nat) ^ 8 = 256 from rfl] at h
  unfold bysL
  rw [h, List.map_set]
theorem bys_at (m k u V : Nat) (hk : k < m) (hu : u < 8) (hV : V < 2 ^ (8 * k + u)) : (bysL (dig 256 m V))[k]? = some (byteOf (V / 2 ^ (8 * k))) ∧ V / 2 ^ (8 * k) < 2 ^ u := by
  have h2 : V / 2 ^ (8 * k) < 2 ^ u := by
    rw [Nat.div_lt_iff_lt_mul (Nat.pow_pos (by omega)), ← Nat.pow_add, Nat.add_comm u]
    exact hV
  refine ⟨?_, h2⟩
  have h3 : 2 ^ u ≤ 2 ^ 8 := Nat.pow_le_pow_right (by omega) (by omega)
  have h4 := dig_at 256 m V k hk
  rw [pow_256, Nat.mod_eq_of_lt (by omega)] at h4
  unfold bysL
  rw [List.getElem?_map, h4]
  rfl
theorem bys_zero (m : Nat) : bysL (dig 256 m 0) = List.replicate m (0 : UInt8) := by
  unfold bysL
  rw [dig_zero, List.map_replicate]
  rfl
theorem or_bit (x u : Nat) (h : x < 2 ^ u) : x ||| 2 ^ u = x + 2 ^ u := by
  have := Nat.two_pow_add_eq_or_of_lt h 1
  rw [Nat.mul_one] at this
  rw [Nat.or_comm, ← this, Nat.add_comm]
theorem and_bit (x u : Nat) : x &&& 2 ^ u = if x / 2 ^ u % 2 = 1 then 2 ^ u else 0 := by
  have hx : x.testBit u = decide (x / 2 ^ u % 2 = 1) := Nat.testBit_eq_decide_div_mod_eq
  refine Nat.eq_of_testBit_eq fun i => ?_
  rw [Nat.testBit_and, Nat.testBit_two_pow]
  by_cases e : u = i
  · subst e
    rw [hx, decide_eq_true (rfl : u = u), Bool.and_true]
    by_cases h : x / 2 ^ u % 2 = 1
    · rw [if_pos h, decide_eq_true h, Nat.testBit_two_pow, decide_eq_true rfl]
    · rw [if_neg h, decide_eq_false h, Nat.zero_testBit]
  · rw [decide_eq_false e, Bool.and_false]
    by_cases h : x / 2 ^ u % 2 = 1
    · rw [if_pos h, Nat.testBit_two_pow, decide_eq_false e]
    · rw [if_neg h, Nat.zero_testBit]
theorem mod_bit (x j : Nat) : x % 2 ^ (j + 1) = x % 2 ^ j + 2 ^ j * (x / 2 ^ j % 2) := Nat.mod_pow_succ
/-- The number of the first i numbers, and of the next one's first j bits. -/
def pV (b : Nat) (xs : List Nat) (i j : Nat) : Nat := pN b xs i + 2 ^ (b * i) * (xs.getD i 0 % 2 ^ j)
theorem pV_zero (b : Nat) (xs : List Nat) (i : Nat) : pV b xs i 0 = pN b xs i := by unfold pV; rw [Nat.pow_zero, Nat.mod_one, Nat.mul_zero, Nat.add_zero]
theorem pV_full (b : Nat) (xs : List Nat) (i : Nat) (hi : i < xs.length) (h : ∀ x ∈ xs, x < 2 ^ b) : pV b xs i b = pN b xs (i + 1) := by
  unfold pV
  rw [pN_add b xs i hi, List.getD_eq_getElem?_getD, List.getElem?_eq_getElem hi, Option.getD_some, Nat.mod_eq_of_lt (h _ (List.getElem_mem hi))]
theorem pV_lt (b : Nat) (xs : List Nat) (i j : Nat) (h : ∀ x ∈ xs, x < 2 ^ b) : pV b xs i j < 2 ^ (b * i + j) := by
  unfold pV
  have h1 := pN_lt b xs i h
  have h2 : xs.getD i 0 % 2 ^ j < 2 ^ j := Nat.mod_lt _ (Nat.pow_pos (by omega))
  have h3 : 2 ^ (b * i) * (xs.getD i 0 % 2 ^ j + 1) ≤ 2 ^ (b * i) * 2 ^ j := Nat.mul_le_mul_left _ h2
  rw [Nat.mul_add, Nat.mul_one] at h3
  rw [Nat.pow_add]
  omega
theorem pV_bit (b : Nat) (xs : List Nat) (i j : Nat) : pV b xs i (j + 1) = if xs.getD i 0 / 2 ^ j % 2 = 1 then pV b xs i j + 2 ^ (b * i + j) else pV b xs i j := by
  unfold pV
  rw [mod_bit, Nat.mul_add]
  by_cases h : xs.getD i 0 / 2 ^ j % 2 = 1
  · rw [if_pos h, h, Nat.mul_one, Nat.pow_add]; omega
  · rw [if_neg h, show xs.getD i 0 / 2 ^ j % 2 = 0 by omega, Nat.mul_zero, Nat.mul_zero, Nat.add_zero]
theorem u8_or9 (a b : Nat) (ha : a < 256) (hb : b < 256) : Go.bits .or .u8 (a : Int) (b : Int) = ((a ||| b : Nat) : Int) := by
  have h : a ||| b < 2 ^ 8 := Nat.or_lt_two_pow (n := 8) ha hb
  have hk : IntKind.u8.bits = 8 := rfl
  simp only [Go.bits, BitVec.ofInt_natCast, BitVec.toNat_or, BitVec.toNat_ofNat, hk]
  rw [Nat.mod_eq_of_lt (show a < 2 ^ 8 by omega), Nat.mod_eq_of_lt (show b < 2 ^ 8 by omega), IntKind.wrap_u8]
  omega
theorem u8_and9 (a b : Nat) (ha : a < 256) (hb : b < 256) : Go.bits .and .u8 (a : Int) (b : Int) = ((a &&& b : Nat) : Int) := by
  have h : a &&& b < 2 ^ 8 := Nat.and_lt_two_pow a (n := 8) hb
  have hk : IntKind.u8.bits = 8 := rfl
  simp only [Go.bits, BitVec.ofInt_natCast, BitVec.toNat_and, BitVec.toNat_ofNat, hk]
  rw [Nat.mod_eq_of_lt (show a < 2 ^ 8 by omega), Nat.mod_eq_of_lt (show b < 2 ^ 8 by omega), IntKind.wrap_u8]
  omega
/-- One shifted by so many places, as the machine reckons it. -/
theorem wrap_two (b p : Nat) (hb : b ≤ 60) (hp : p = 2 ^ b) : RowKit.wrap64 ((2 : Int) ^ b) = (p : Int) := by
  have h1 : ((2 : Int) ^ b) = ((2 ^ b : Nat) : Int) := by rw [Int.natCast_pow]; rfl
  have h2 : 2 ^ b ≤ 2 ^ 60 := Nat.pow_le_pow_right (by omega) hb
  rw [h1, IntWalk.wrap64_in _ (by omega), hp]
end Go.Proofs.YthjgmpfdjhegfasDoor

/- Packing by the project: its smallest functions, over the loaded program. -/
namespace Go.Proofs.YthjgmpfdjhegfasDoor
open Go.RowKit
theorem packBitsOk_any (z : Int) (w : World) : Calls Tryd.prog 57 #[.int .i64 z] w fun e w' => e = .returned (.bool (decide (1 ≤ z ∧ z ≤ 12))) ∧ w' = w := by
  by_cases h1 : 1 ≤ z
  · by_cases h2 : z ≤ 12
    · rw [decide_eq_true (show 1 ≤ z ∧ z ≤ 12 from ⟨h1, h2⟩)]
      go_enter Tryd.func57, Tryd.ntmps57
      go_wp2
      go_ret
      exact ⟨by simp, rfl⟩
    · rw [decide_eq_false (show ¬ (1 ≤ z ∧ z ≤ 12) by omega)]
      go_enter Tryd.func57, Tryd.ntmps57
      go_wp2
      go_ret
      exact ⟨by simp, rfl⟩
  · rw [decide_eq_false (show ¬ (1 ≤ z ∧ z ≤ 12) by omega)]
    go_enter Tryd.func57, Tryd.ntmps57
    go_wp2
    go_ret
    exact ⟨by simp, rfl⟩
theorem inBits_any (z : Int) (b : Nat) (hb : b ≤ 12) (w : World) : Calls Tryd.prog 59 #[.int .i64 z, .int .i64 (b : Int)] w fun e w' => e = .returned (.bool (decide (0 ≤ z ∧ z ≤ ((2 ^ b : Nat) : Int) - 1))) ∧ w' = w := by
  have hb0 : (0 : Int) ≤ (b : Int) := by omega
  have hb1 : (b : Int) ≤ 64 := by omega
  obtain ⟨p, hp⟩ : ∃ p : Nat, p = 2 ^ b := ⟨_, rfl⟩
  have hw := wrap_two b p (by omega) hp
  rw [← hp]
  replace hp := hide hp
  by_cases h1 : 0 ≤ z
  · by_cases h2 : z < (p : Int)
    · rw [decide_eq_true (show 0 ≤ z ∧ z ≤ (p : Int) - 1 by omega)]
      go_enter Tryd.func59, Tryd.ntmps59
      go_wp2
      go_ret
      exact ⟨by simp, rfl⟩
    · rw [decide_eq_false (show ¬ (0 ≤ z ∧ z ≤ (p : Int) - 1) by omega)]
      go_enter Tryd.func59, Tryd.ntmps59
      go_wp2
      go_ret
      exact ⟨by simp, rfl⟩
  · rw [decide_eq_false (show ¬ (0 ≤ z ∧ z ≤ (p : Int) - 1) by omega)]
    go_enter Tryd.func59, Tryd.ntmps59
    go_wp2
    go_ret
    exact ⟨by simp, rfl⟩
theorem packedSize_any (n b : Nat) (hn : n ≤ 1048576) (hb : b ≤ 12) (w : World) : Calls Tryd.prog 61 #[.int .i64 (n : Int), .int .i64 (b : Int)] w fun e w' => e = .returned (.int .i64 (byN n b : Int)) ∧ w' = w := by
  have hm : n * b ≤ 1048576 * 12 := Nat.mul_le_mul hn hb
  unfold byN
  have e0 : (n : Int) * (b : Int) = ((n * b : Nat) : Int) := (Int.natCast_mul n b).symm
  generalize n * b = m at *
  obtain ⟨q, hq⟩ : ∃ q : Nat, q = (m + 7) / 8 := ⟨_, rfl⟩
  rw [← hq]
  have u1 : IntKind.i64.wrap ((n : Int) * (b : Int)) = (m : Int) := by rw [e0, IntKind.wrap_i64]; omega
  have u2 : IntKind.i64.wrap ((m : Int) + 8) = ((m + 8 : Nat) : Int) := by rw [IntKind.wrap_i64]; omega
  have u3 : IntKind.i64.wrap (((m + 8 : Nat) : Int) - 1) = ((m + 7 : Nat) : Int) := by rw [IntKind.wrap_i64]; omega
  have u4 : ((m + 7 : Nat) : Int).tdiv 8 = (q : Int) := by rw [Int.tdiv_eq_ediv_of_nonneg (by omega)]; omega
  have u5 : ((m : Int) + 8 - 1) / 8 = (q : Int) := by omega
  go_enter Tryd.func61, Tryd.ntmps61
  go_wp2
  go_ret
  refine ⟨?_, rfl⟩
  show Ending.returned (Value.int .i64 (((m : Int) + 8 - 1) / 8)) = _
  rw [u5]
theorem squeezeBitsOk_any (z : Int) (w : World) : Calls Tryd.prog 56 #[.int .i64 z] w fun e w' => e = .returned (.bool (decide (1 ≤ z ∧ z ≤ 11))) ∧ w' = w := by
  by_cases h1 : 1 ≤ z
  · by_cases h2 : z ≤ 11
    · rw [decide_eq_true (show 1 ≤ z ∧ z ≤ 11 from ⟨h1, h2⟩)]
      go_enter Tryd.func56, Tryd.ntmps56
      go_wp2
      go_ret
      exact ⟨by simp, rfl⟩
    · rw [decide_eq_false (show ¬ (1 ≤ z ∧ z ≤ 11) by omega)]
      go_enter Tryd.func56, Tryd.ntmps56
      go_wp2
      go_ret
      exact ⟨by simp, rfl⟩
  · rw [decide_eq_false (show ¬ (1 ≤ z ∧ z ≤ 11) by omega)]
    go_enter Tryd.func56, Tryd.ntmps56
    go_wp2
    go_ret
    exact ⟨by simp, rfl⟩
end Go.Proofs.YthjgmpfdjhegfasDoor

/- Packing by the project: whether numbers fit, over the loaded program. -/
namespace Go.Proofs.YthjgmpfdjhegfasDoor
open Go.RowKit Go.Shelf
def fitN (b : Nat) (x : Int) : Bool := decide (0 ≤ x ∧ x ≤ ((2 ^ b : Nat) : Int) - 1)
def fitL (b : Nat) (l : List Int) : Bool := l.all (fitN b)
theorem fitL_no {b : Nat} {l : List Int} (k : Nat) (hk : k < l.length) (h : fitN b (cAt l k) = false) : fitL b l = false := by
  cases e : fitL b l with
  | false => rfl
  | true =>
    unfold fitL at e
    rw [List.all_eq_true] at e
    have := e l[k] (List.getElem_mem _)
    rw [← cAt_lt hk] at this
    rw [h] at this
    cases this
theorem fitL_of {b : Nat} {l : List Int} (h : ∀ j, j < l.length → fitN b (cAt l j) = true) : fitL b l = true := by
  unfold fitL
  rw [List.all_eq_true]
  intro x hx
  obtain ⟨j, hj, rfl⟩ := List.getElem_of_mem hx
  have := h j hj
  rw [cAt_lt hj] at this
  exact this
theorem wrongFit_any (x : Int) (b : Nat) (hb : b ≤ 12) (g : Nat) (w : World) (hg : w.cell? ⟨g, 0, none⟩ = some (.int .i64 (b : Int))) :
    Calls Tryd.prog 58 #[.int .i64 x, .pointer (some ⟨g, 0, none⟩)] w fun e w' => e = .returned (.bool (!fitN b x)) ∧ w' = w := by
  have CI := hide (fun W => inBits_any x b hb W)
  unfold fitN
  generalize decide (0 ≤ x ∧ x ≤ ((2 ^ b : Nat) : Int) - 1) = q at *
  go_enter Tryd.func58, Tryd.ntmps58
  go_wp2_with fail
  refine (unhide CI _).mono ?_
  rintro e w1 ⟨rfl, rfl⟩
  go_wp2
  go_ret
  exact ⟨rfl, rfl⟩
set_option maxRecDepth 20000 in
set_option maxHeartbeats 400000 in
theorem indexFit_any (a : List Int) (b : Nat) (hb : b ≤ 12) (gb : Nat) (v : Value) (w : World) (hl : a.length ≤ 1048576) (hg : w.cell? ⟨gb, 0, none⟩ = some (.int .i64 (b : Int))) (hr : RdV w v (a.map iv)) :
    Calls Tryd.prog 74 #[v, .func (.func 58) #[] #[.pointer (some ⟨gb, 0, none⟩)]] w fun e w' =>
      (∃ z : Int, e = .returned (.int .i64 z) ∧ (z < 0 ↔ fitL b a = true)) ∧ ∃ q, w' = w.drewN q := by
  have eg : ∀ args w, (callFunc 58 args).run Tryd.prog w = .ok (.enter 58 args) w := enters_of Tryd.func58 (by kernel_rfl) rfl
  obtain ⟨s, c, rfl, hc⟩ := hr.open
  rw [List.length_map]
  obtain ⟨n, hn⟩ : ∃ n, n = a.length := ⟨_, rfl⟩
  rw [← hn] at hl ⊢
  clear hr
  replace hn := hide hn
  have HG := hide (fun q => (show (w.drewN q).cell? ⟨gb, 0, none⟩ = some (.int .i64 (b : Int)) from hg))
  clear hg
  go_enter Tryd.func74, Tryd.ntmps74
  go_wp2
  go_loopw [5, 8] (fun _ ti wr => ∃ k q : Nat, k ≤ n ∧ ti = .int .i64 (k : Int) ∧ wr = w.drewN q ∧ Hid (∀ j, j < k → fitN b (cAt a j) = true)) (fun _ ti _ => n - (intOf ti).toNat)
  case atStart => exact ⟨0, 0, by omega, rfl, rfl, hide (fun j hj => absurd hj (by omega))⟩
  case round =>
    obtain ⟨k, q, hk, rfl, rfl, HK⟩ := hrel
    by_cases hlt : k < n
    · have hk' : (k : Int) < (n : Int) := by omega
      have hci : (0 : Int) ≤ (k : Int) := by omega
      have hkl : k < a.length := by rw [← unhide hn]; exact hlt
      obtain ⟨g, o, rfl, hg, d1⟩ := hc k _ (get_iv a k hkl)
      have CI := hide (fun (q : Nat) => wrongFit_any (cAt a k) b hb gb (w.drewN q) (unhide HG q))
      cases hx : fitN b (cAt a k) with
      | false =>
        rw [hx] at CI
        have E := hide (show fitL b a = false from fitL_no k hkl hx)
        generalize cAt a k = told at d1 CI
        clear hc HK hx
        go_wp2_with (go_at_fn 58; refine (unhide CI _).mono ?_; rintro e w1 ⟨rfl, rfl⟩)
        go_ret
        exact ⟨⟨_, rfl, by rw [unhide E]; simp⟩, _, rfl⟩
      | true =>
        rw [hx] at CI
        have HK2 := hide (show ∀ j, j < k + 1 → fitN b (cAt a j) = true from fun j hj => by
          by_cases e : j = k
          · rw [e]; exact hx
          · exact unhide HK j (by omega))
        generalize cAt a k = told at d1 CI
        clear hc HK hx
        go_wp2_with (go_at_fn 58; refine (unhide CI _).mono ?_; rintro e w1 ⟨rfl, rfl⟩)
        exact ⟨⟨k + 1, _, by omega, by go_num, by first | rfl | rw [World.drewN_drewN], HK2⟩, by simp [intOf]; omega⟩
    · have hk' : ¬ (k : Int) < (n : Int) := by omega
      have hke : k = n := by omega
      have E := hide (show fitL b a = true from fitL_of (fun i hi => unhide HK i (by rw [← unhide hn] at hi; omega)))
      replace hke := hide hke
      clear hc HK
      go_wp2
      go_ret
      exact ⟨⟨_, rfl, by rw [unhide E]; simp⟩, _, rfl⟩
theorem anyFit_any (a : List Int) (b : Nat) (hb : b ≤ 12) (gb : Nat) (v : Value) (w : World) (hl : a.length ≤ 1048576) (hg : w.cell? ⟨gb, 0, none⟩ = some (.int .i64 (b : Int))) (hr : RdV w v (a.map iv)) :
    Calls Tryd.prog 60 #[v, .func (.func 58) #[] #[.pointer (some ⟨gb, 0, none⟩)]] w fun e w' =>
      e = .returned (.bool (!fitL b a)) ∧ ∃ q, w' = w.drewN q := by
  have CI := hide (indexFit_any a b hb gb v w hl hg hr)
  clear hr hg
  generalize fitL b a = ok at *
  go_enter Tryd.func60, Tryd.ntmps60
  go_wp2_with fail
  refine (unhide CI).mono ?_
  rintro e w1 ⟨⟨z, rfl, hz⟩, q, rfl⟩
  clear CI
  cases ok with
  | true =>
    have h1 : z < 0 := hz.2 rfl
    have h2 : ¬ 0 ≤ z := by omega
    clear hz
    go_wp2
    go_ret
    exact ⟨by simp; omega, q, rfl⟩
  | false =>
    have h1 : ¬ z < 0 := fun h => by cases hz.1 h
    have h2 : 0 ≤ z := by omega
    clear hz
    go_wp2
    go_ret
    exact ⟨by simp, q, rfl⟩
end Go.Proofs.YthjgmpfdjhegfasDoor

/- Laws of no program: a block that holds a row of bytes, and a text copied into it. -/
namespace Go.Proofs.YthjgmpfdjhegfasDoor
open Go.RowKit
def RB (w : World) (g : Nat) (T : TypeId) (l : List UInt8) : Prop := w.heap[g]? = some (.cells (l.map bv).toArray T (0, 0))
theorem RB.lt {w : World} {g : Nat} {T : TypeId} {l : List UInt8} (h : RB w g T l) : g < w.heap.size := by
  rcases Nat.lt_or_ge g w.heap.size with h1 | h1
  · exact h1
  · unfold RB at h
    rw [Array.getElem?_eq_none h1] at h; cases h
theorem RB.frozen {w : World} {g : Nat} {T : TypeId} {l : List UInt8} (h : RB w g T l) (k : Nat) : w.frozen? ⟨g, k, none⟩ = false := frozen_of_row w g k _ T h
theorem RB.cell {w : World} {g : Nat} {T : TypeId} {l : List UInt8} (h : RB w g T l) {k : Nat} {b : UInt8} (hk : l[k]? = some b) : w.cell? ⟨g, k, none⟩ = some (.int .u8 (b.toNat : Int)) := by
  rw [cell_of_row w g k _ T (0, 0) h]
  simp [hk, bv]
theorem RB.set {w : World} {g : Nat} {T : TypeId} {l : List UInt8} (h : RB w g T l) (k x : Nat) (hx : x < 256) : RB (w.setCell ⟨g, k, none⟩ (.int .u8 (x : Int))) g T (l.set k (byteOf x)) := by
  unfold RB at h ⊢
  rw [heap_setCell_same w g k _ T (.int .u8 (x : Int)) h, List.map_set]
  simp [bv, byteOf_toNat hx]
theorem RB.new (w : World) (T : TypeId) (l : List UInt8) : RB (w.alloc (.cells (l.map bv).toArray T)) w.heap.size T l := heap_alloc_new w _
theorem RB.own {w : World} {g base n : Nat} {T : TypeId} {l : List UInt8} (h : RB w g T l) (hl : l.length = n) (hb : base ≤ g) (hn : n ≤ maxLen) : OwnB w base T (.slice (some ⟨g, 0, none⟩) n n) l := by
  subst hl
  refine ⟨by simp, .inr ⟨g, l.length, _, rfl, hb, h, Nat.le_refl _, hn, by simp, by simp [List.take_of_length_le]⟩⟩
theorem made_zero (n : Nat) : madeCells #[Value.int .u8 0] n = ((List.replicate n (0 : UInt8)).map bv).toArray := by
  unfold madeCells
  apply Array.ext
  · simp
  · intro i h1 h2
    simp only [Array.getElem_map, List.getElem_toArray, List.getElem_map, List.getElem_replicate, bv]
    generalize (Array.range n)[i]'_ = k
    show (#[Value.int .u8 0] : Array Value)[k % 1]! = _
    rw [Nat.mod_one]
    rfl
theorem run_copy_rb {P : Program} (w : World) (dT sT ty elem : TypeId) (g n c : Nat) (cur : Array Value) (t : TypeId) (k : ByteArray)
    (hu : P.underlying dT = some (.slice elem)) (hs : (P.info? elem).map (·.size) = some 1)
    (hg : w.heap[g]? = some (.cells cur t (0, 0))) (hkn : k.size ≤ n) (hfit : n ≤ cur.size) :
    (Builtin.copy_ #[dT, sT] ty #[.slice (some ⟨g, 0, none⟩) n c, .string k]).run P w =
      .ok (goInt k.size) (w.setRow g (k.data.toList.map bv ++ cur.toList.drop k.size).toArray) := by
  have hl : (k.data.toList.map bv).length = k.size := by rw [List.length_map]; rfl
  have h1 : ∀ v ∈ k.data.toList.map bv, v.oneCell' = true := by
    intro v hv
    obtain ⟨x, _, rfl⟩ := List.mem_map.1 hv
    rfl
  have hst := run_storeCells_at P g 0 t (k.data.toList.map bv) 0 cur w hg (by rw [hl]; omega) h1
  rw [hl, Nat.zero_add, List.take_zero, List.nil_append, Nat.zero_add] at hst
  have hm : Nat.min k.size n = k.size := Nat.min_eq_left hkn
  cases hq : P.info? elem with
  | none => simp [hq] at hs
  | some i =>
    have hx' : List.map (fun b : UInt8 => Value.int .u8 (b.toNat : Int)) k.data.toList = k.data.toList.map bv := rfl
    simp [Builtin.copy_, run_underlying hu, Builtin.lenOf, Builtin.firstCells, sizeOf, typeInfo, hq, hm, hx']
    rw [List.take_of_length_le (Nat.le_of_eq hl), hst]
    rfl
theorem wpList_copy_rb {P : Program} {w : World} {ops : Array Oper} {rest : List Oper} {o : Oper} {a : Act} {Q : Exit → Act → World → Prop} (hgd : o.guard = none) (d s : Operand) (dT sT : TypeId)
    (ho : o.op = .call { callee := .builtin .copy, args := #[d, s], argTypes := #[dT, sT] }) (elem : TypeId) (hu : P.underlying dT = some (.slice elem)) (hs : (P.info? elem).map (·.size) = some 1)
    (g n c : Nat) (l : List UInt8) (t : TypeId) (hA : RB w g t l) (k : ByteArray) (hd : a.eval d = .slice (some ⟨g, 0, none⟩) n c) (hk : a.eval s = .string k) (hkn : k.size ≤ n) (hl : l.length = n)
    (h : ∀ w', RB w' g t (k.data.toList ++ l.drop k.size) → Below g w w' → wpList P ops Q rest (a.put o.dst (goInt k.size)) w') : wpList P ops Q (o :: rest) a w := by
  refine wpList_plain hgd fun K hK => ?_
  have hr := run_copy_rb (P := P) w dT sT o.type elem g n c (l.map bv).toArray t k hu hs hA hkn (by simp; omega)
  have e : (k.data.toList.map bv ++ (l.map bv).toArray.toList.drop k.size) = (k.data.toList ++ l.drop k.size).map bv := by
    simp [List.map_append, List.map_drop]
  rw [e] at hr
  unfold Oper.wp execOp
  simp only [ho, resolve, invoke, builtin, Sem.run_bind, Sem.run_pure, Result.andThen_ok, List.map_toArray, List.map_cons, List.map_nil, hd, hk]
  simp only [hr, Result.andThen_ok]
  exact hK _ _ (h _ (setRow_heap w g _ _ t (0, 0) hA) (Go.below_setRow (Below.refl _ _) (Nat.le_refl _) _))
/- the last block, filled -/
def fill3 (rest : ByteArray) (n f : Nat) : List UInt8 := (rest.data.toList ++ List.replicate (n - rest.size) (0 : UInt8)).set rest.size (byteOf f)
def fillL (rest : ByteArray) (n f : Nat) : List UInt8 := (fill3 rest n f).set (n - 1) (byteOf (((fill3 rest n f).getD (n - 1) 0).toNat ^^^ 128))
theorem fill3_len (rest : ByteArray) (n f : Nat) (h : rest.size ≤ n) : (fill3 rest n f).length = n := by
  unfold fill3
  have : rest.data.toList.length = rest.size := rfl
  simp only [List.length_set, List.length_append, List.length_replicate, this]
  omega
theorem fillL_len (rest : ByteArray) (n f : Nat) (h : rest.size ≤ n) : (fillL rest n f).length = n := by
  unfold fillL
  rw [List.length_set, fill3_len rest n f h]
def fillT (rest : ByteArray) (n f : Nat) : ByteArray := ⟨(fillL rest n f).toArray⟩
theorem fillT_size (rest : ByteArray) (n f : Nat) (h : rest.size ≤ n) : (fillT rest n f).size = n := by
  show (fillL rest n f).toArray.size = n
  simp [fillL_len rest n f h]
end Go.Proofs.YthjgmpfdjhegfasDoor

/- The table of the bits of a byte, by the project. -/
namespace Go.Proofs.YthjgmpfdjhegfasDoor
open Go.RowKit
def bitsTab : List Int := [1, 2, 4, 8, 16, 32, 64, 128]
def LaidB (w : World) : Prop := Lib.TabIs Tryd.prog w "loop.example/g00186/impl.bitsOfByte" .u8 bitsTab
theorem bitsTab_at : ∀ r, r < 8 → bitsTab.getD r 0 = ((2 ^ r : Nat) : Int) := by decide
theorem gBits : Tryd.prog.globalNamed "loop.example/g00186/impl.bitsOfByte" = some 0 := by kernel_rfl
theorem LaidB.below {w w' : World} (h : LaidB w) (hb : Below w.heap.size w w') : LaidB w' := Go.Joins.tab_stays gBits h hb (Nat.le_refl _)
theorem LaidB.lt {w : World} (h : LaidB w) : 0 < w.heap.size := by
  unfold LaidB Lib.TabIs World.var? at h
  rw [gBits] at h
  simp only [Option.bind_some] at h
  rcases Nat.lt_or_ge 0 w.heap.size with h' | h'
  · exact h'
  · rw [Array.getElem?_eq_none h'] at h; cases h
theorem LaidB.row {w : World} (h : LaidB w) : ∃ T fr, w.heap[0]? = some (.cells (bitsTab.map fun z => Value.int .u8 z).toArray T fr) := by
  unfold LaidB Lib.TabIs World.var? at h
  rw [gBits] at h
  simp only [Option.bind_some] at h
  split at h
  · rename_i cs T fr hc
    exact ⟨T, fr, by rw [hc, Option.some.inj h]⟩
  · cases h
theorem LaidB.cell {w : World} (h : LaidB w) (r : Nat) (hr : r < 8) : w.cell? ⟨0, r, none⟩ = some (.int .u8 ((2 ^ r : Nat) : Int)) := by
  rw [Lib.TabIs.cell h gBits r hr, bitsTab_at r hr]
theorem idxB9 (k : Nat) (h : (k : Int) < 8) (W : World) : (Instr.indexAt 75 (.pointer (some ⟨0, 0, none⟩)) (.int .i64 (k : Int))).run Tryd.prog W = .ok (.pointer (some ⟨0, k, none⟩)) W := by
  have hl : Tryd.prog.arrayLen 75 = 8 := by kernel_rfl
  have hu : Tryd.prog.underlying 75 = some (.array (Tryd.prog.arrayLen 75) (Tryd.prog.elem 75)) := by kernel_rfl
  have he : Tryd.prog.elem 75 = 5 := by kernel_rfl
  have h1 : (0 : Int) ≤ (k : Int) ∧ (k : Int) < ((Tryd.prog.arrayLen 75 : Nat) : Int) := by rw [hl]; exact ⟨by omega, by omega⟩
  have addr9 : ∀ g o j : Nat, (⟨g, o, none⟩ : Addr).add j = ⟨g, o + j, none⟩ := fun g o j => by unfold Addr.add; split <;> simp_all
  rw [run_indexAt_array (P := Tryd.prog) (w := W) 75 ⟨0, 0, none⟩ .i64 (k : Int) hu, if_pos h1, he]
  simp [go_sem, addr9]
theorem Tryd.infoByteP : (Tryd.prog.info? 5).map (fun i => (i.zero, i.size, i.bytes)) = some (some (.int .u8 0), 1, 1) := by kernel_rfl
def bitsV : Value := .agg (bitsTab.map fun z => Value.int .u8 z).toArray
theorem idx8v (k : Nat) (h : (k : Int) < 8) (W : World) : (Instr.index 75 bitsV (.int .i64 (k : Int))).run Tryd.prog W = .ok (.int .u8 ((2 ^ k : Nat) : Int)) W := by
  have hk8 : k < 8 := by omega
  have hu := Tryd.underlying75
  have h1 := bitsTab_at k hk8
  have hl : k < bitsTab.length := hk8
  unfold Instr.index bitsV
  simp [asIntOf, run_underlying hu, go_sem, part, isAgg, run_underlying Tryd.underlying5, hk8, hl, List.getD_eq_getElem?_getD] at h1 ⊢
  exact h1
end Go.Proofs.YthjgmpfdjhegfasDoor

/- Packing by the project: Pack, over the loaded program. -/
namespace Go.Proofs.YthjgmpfdjhegfasDoor
open Go.RowKit
theorem pkOk_fit (a : List Int) (b : Nat) (hb : 1 ≤ b ∧ b ≤ 12) : pkOk a (b : Int) = fitL b a := by
  unfold pkOk fitL fitN
  rw [decide_eq_true (show (1 : Int) ≤ (b : Int) ∧ (b : Int) ≤ 12 by omega), Bool.true_and, Int.toNat_natCast]
set_option maxRecDepth 20000 in
set_option maxHeartbeats 1000000 in
theorem implPack_any (a : List Int) (bits : Int) (ua : Value) (hl : a.length ≤ 1048576) (w : World) (hL : LaidB w) (r : RdV w ua (a.map iv)) :
    Calls Tryd.prog 37 #[ua, .int .i64 bits] w fun e w' => e = .returned (.tuple #[.string (pkB a bits), .bool (pkOk a bits)]) ∧ Below w.heap.size w w' := by
  have C1 := hide (fun W => packBitsOk_any bits W)
  have hB0 : Below w.heap.size w (w.alloc (.cells #[.int .i64 bits] 3)) := (Below.refl _ _).alloc (Nat.le_refl _) _
  by_cases hb : 1 ≤ bits ∧ bits ≤ 12
  · rw [decide_eq_true hb] at C1
    obtain ⟨b, rfl⟩ : ∃ b : Nat, bits = (b : Int) := ⟨bits.toNat, by omega⟩
    have hb1 : 1 ≤ b ∧ b ≤ 12 := by omega
    have HC : (w.alloc (.cells #[.int .i64 (b : Int)] 3)).cell? ⟨w.heap.size, 0, none⟩ = some (.int .i64 (b : Int)) := by
      rw [cell_of_row _ w.heap.size 0 _ 3 (0, 0) (heap_alloc_new w _)]; rfl
    have HF := hide (fun (W : World) (va : Value) (h : Below w.heap.size w W) (hc : W.cell? ⟨w.heap.size, 0, none⟩ = some (.int .i64 (b : Int))) (hr : RdV W va (a.map iv)) => anyFit_any a b hb1.2 w.heap.size va W hl hc hr)
    have HK := pkOk_fit a b hb1
    obtain ⟨s0, c0, rfl, hc⟩ := r.open
    rw [List.length_map]
    cases hf : fitL b a with
    | false =>
      rw [hf] at HK HF
      have E1 := hide (show pkB a (b : Int) = ⟨#[]⟩ by unfold pkB; rw [if_neg (by rw [HK]; decide)])
      rw [HK, unhide E1]
      have r1 := r.below hB0
      rw [List.length_map] at r1
      have hF1 := hide (unhide HF _ _ hB0 HC r1)
      clear r r1 HF
      replace hf := hide hf
      go_enter Tryd.func37, Tryd.ntmps37
      go_wp2_with fail
      generalize w.alloc (.cells #[.int .i64 (b : Int)] 3) = w1 at *
      refine (unhide C1 _).mono ?_
      rintro e w2 ⟨rfl, rfl⟩
      go_wp2_with fail
      refine (unhide hF1).mono ?_
      rintro e w2 ⟨rfl, q, rfl⟩
      have hB2 := bDN hB0 q
      go_wp2
      refine bodyPost_ret (v := .tuple #[.string ⟨#[]⟩, .bool false]) (by simp [results, Tryd.results37, go_sem]) rfl ⟨rfl, hB2⟩
    | true =>
      rw [hf] at HK HF
      obtain ⟨n, hn⟩ : ∃ n, n = a.length := ⟨_, rfl⟩
      obtain ⟨m, hm⟩ : ∃ m, m = byN a.length b := ⟨_, rfl⟩
      have hmb : m ≤ 1572865 := by
        rw [hm]; unfold byN
        have : a.length * b ≤ 1048576 * 12 := Nat.mul_le_mul hl hb1.2
        omega
      have hxs := hide (nats_lt (b := b) (by have := (pkOk_yes HK).2; rw [Int.toNat_natCast] at this; exact this))
      have E1 := hide (show pkB a (b : Int) = ⟨(bysL (dig 256 m (pN b (natsL a) n))).toArray⟩ by
        unfold pkB pkN
        rw [if_pos HK, Int.toNat_natCast, hm, hn, show (natsL a).length = a.length by unfold natsL; rw [List.length_map], show a.length = (natsL a).length by unfold natsL; rw [List.length_map], pN_all])
      rw [HK, unhide E1]
      have r1 := r.below hB0
      rw [List.length_map] at r1
      have hF1 := hide (unhide HF _ _ hB0 HC r1)
      have C2 := hide (fun W => packedSize_any a.length b hl hb1.2 W)
      rw [← hm, ← hn] at C2
      have hc' := hide hc
      rw [← hn] at hF1 hl ⊢
      clear r r1 HF hc
      replace hf := hide hf; replace hm := hide hm; replace hn := hide hn
      replace HK := hide HK
      have hsz : (w.alloc (.cells #[.int .i64 (b : Int)] 3)).heap.size = w.heap.size + 1 := by simp
      go_enter Tryd.func37, Tryd.ntmps37
      go_wp2_with fail
      generalize w.alloc (.cells #[.int .i64 (b : Int)] 3) = w1 at *
      refine (unhide C1 _).mono ?_
      rintro e w2 ⟨rfl, rfl⟩
      go_wp2_with fail
      refine (unhide hF1).mono ?_
      rintro e w2 ⟨rfl, q, rfl⟩
      have hB2 := bDN hB0 q
      have HC2 : (w2.drewN q).cell? ⟨w.heap.size, 0, none⟩ = some (.int .i64 (b : Int)) := HC
      have hsz2 : (w2.drewN q).heap.size = w.heap.size + 1 := hsz
      clear hF1 HC hsz hB0
      generalize w2.drewN q = w3 at *
      go_wp2_with fail
      refine (unhide C2 _).mono ?_
      rintro e w4 ⟨rfl, rfl⟩
      have hmk := run_make_row' (P := Tryd.prog) 69 5 (.int .u8 0) 1 Tryd.underlying69 Tryd.infoByteP rfl .i64 .i64 m (by omega) (by omega)
      rw [made_zero] at hmk
      have HR := RB.new w4 5 (List.replicate m (0 : UInt8))
      have HB4 := hB2.alloc (show w.heap.size ≤ w4.heap.size by omega) (.cells ((List.replicate m (0 : UInt8)).map bv).toArray 5)
      have HC4 : (w4.alloc (.cells ((List.replicate m (0 : UInt8)).map bv).toArray 5)).cell? ⟨w.heap.size, 0, none⟩ = some (.int .i64 (b : Int)) := by
        rw [((Below.refl w4.heap.size w4).alloc (Nat.le_refl _) _).cell (p := ⟨w.heap.size, 0, none⟩) (show w.heap.size < w4.heap.size by omega)]; exact HC2
      have hmk4 := hmk w4
      obtain ⟨G, hG⟩ : ∃ G, G = w4.heap.size := ⟨_, rfl⟩
      have hGw : w.heap.size < G := by omega
      rw [← hG] at hmk4 HR
      rw [← bys_zero] at HR hmk4 HB4 HC4
      generalize w4.alloc (.cells ((bysL (dig 256 m 0)).map bv).toArray 5) = W5 at *
      clear hmk hsz2 hB2 HC2 C1 C2
      replace hG := hide hG
      replace HR := hide HR
      go_wp2
      go_loopw [8, 25] (fun tp ti wr => ∃ i P : Nat, i ≤ n ∧ ti = .int .i64 (i : Int) ∧ tp = .int .i64 (P : Int) ∧ Hid (P = b * i) ∧ Hid (RB wr G 5 (bysL (dig 256 m (pN b (natsL a) i)))) ∧ wr.cell? ⟨w.heap.size, 0, none⟩ = some (.int .i64 (b : Int)) ∧ Below w.heap.size w wr) (fun _ ti _ => n - (intOf ti).toNat)
      case atStart => exact ⟨0, 0, by omega, rfl, rfl, hide (by omega), hide (by have := unhide HR; unfold pN; rw [List.take_zero]; exact this), HC4, HB4⟩
      case round =>
        clear HR HC4 HB4 hmk4
        obtain ⟨i, P, hin, rfl, rfl, hP, HR, HC, hB⟩ := hrel
        by_cases hlt : i < n
        · have hi' : (i : Int) < (n : Int) := by omega
          have hci : (0 : Int) ≤ (i : Int) := by omega
          have hil : i < a.length := by rw [← unhide hn]; exact hlt
          obtain ⟨g, o, rfl, hg, d1⟩ := unhide hc' i _ (get_iv a i hil)
          obtain ⟨x, hx⟩ : ∃ x : Nat, cAt a i = (x : Int) ∧ (natsL a).getD i 0 = x := by
            have h0 := ((pkOk_yes (unhide HK)).2 a[i] (List.getElem_mem _)).1
            rw [← cAt_lt hil] at h0
            refine ⟨(cAt a i).toNat, by omega, ?_⟩
            rw [List.getD_eq_getElem?_getD, List.getElem?_eq_getElem (by unfold natsL; rw [List.length_map]; exact hil), Option.getD_some, nats_at a i hil]
          have hxp : x < 2 ^ b := by
            have h1 : (natsL a).getD i 0 ∈ natsL a := by
              rw [List.getD_eq_getElem?_getD, List.getElem?_eq_getElem (by unfold natsL; rw [List.length_map]; exact hil), Option.getD_some]
              exact List.getElem_mem _
            have h2 := unhide hxs _ h1
            rw [hx.2] at h2
            exact h2
          have hxb : x < 4096 := Nat.lt_of_lt_of_le hxp (Nat.pow_le_pow_right (n := 2) (by omega) hb1.2)
          have d2 : wr.cell? ⟨g, o + i, none⟩ = some (.int .i64 (x : Int)) := by
            rw [hB.cell (p := ⟨g, o + i, none⟩) hg, d1, hx.1]
          have HV := hide (show pV b (natsL a) i 0 = pN b (natsL a) i from pV_zero b (natsL a) i)
          have hPb : b * i + b ≤ b * n := by have := Nat.mul_le_mul_left b hlt; rw [Nat.succ_eq_add_one, Nat.mul_add, Nat.mul_one] at this; exact this
          have hbn : b * n ≤ 8 * m := by
            rw [unhide hm, ← unhide hn]; unfold byN; rw [Nat.mul_comm n b]; omega
          replace d1 := hide d1; replace hx := hide hx; replace hxp := hide hxp
          have hPn := hide (show P + b ≤ 8 * m by have := unhide hP; omega)
          clear hPb hbn
          have hP8 : P ≤ 12582920 := by have := unhide hPn; omega
          go_wp2
          go_loopw [8, 10, 30] (fun tp tn tj wq => ∃ j Q y : Nat, j ≤ b ∧ tj = .int .i64 (j : Int) ∧ tp = .int .i64 (Q : Int) ∧ Hid (Q = P + j) ∧ tn = .int .i64 (y : Int) ∧ Hid (y = x / 2 ^ j) ∧ y < 4096 ∧ Hid (RB wq G 5 (bysL (dig 256 m (pV b (natsL a) i j)))) ∧ wq.cell? ⟨w.heap.size, 0, none⟩ = some (.int .i64 (b : Int)) ∧ Below w.heap.size w wq) (fun _ _ tj _ => b - (intOf tj).toNat)
          case atStart => exact ⟨0, P, x, by omega, rfl, rfl, hide (by omega), rfl, hide (by rw [Nat.pow_zero, Nat.div_one]), hxb, hide (by rw [unhide HV]; exact unhide HR), HC, hB⟩
          case round =>
            clear HR HC hB hP8 d2 HV
            obtain ⟨j, Q, y, hjb, rfl, rfl, hQ, rfl, hy, hyb, HR, HC, hB⟩ := hrel
            have hQ8 : Q ≤ 12582932 := by have := unhide hPn; have := unhide hQ; omega
            by_cases hltj : j < b
            · have hj' : (j : Int) < (b : Int) := by omega
              have hQm : Q < 8 * m := by have := unhide hPn; have := unhide hQ; omega
              obtain ⟨y2, hy2⟩ : ∃ y2 : Nat, y2 = y / 2 := ⟨_, rfl⟩
              have v1' : (y : Int) / 2 = (y2 : Int) := by omega
              have v1 : (y : Int).tdiv 2 = (y2 : Int) := by rw [Int.tdiv_eq_ediv_of_nonneg (by omega)]; omega
              have hY := hide (show y2 = x / 2 ^ (j + 1) by rw [hy2, unhide hy, Nat.div_div_eq_div_mul, Nat.pow_succ])
              have hy2b : y2 < 4096 := by omega
              have hQ2 := hide (show Q + 1 = P + (j + 1) by have := unhide hQ; omega)
              have v2 : IntKind.i64.wrap ((Q : Int) + 1) = ((Q + 1 : Nat) : Int) := by rw [IntKind.wrap_i64]; omega
              have HX := pV_bit b (natsL a) i j
              rw [(unhide hx).2, ← unhide hy] at HX
              have HW := pV_lt b (natsL a) i j (unhide hxs)
              have eQ : b * i + j = Q := by have := unhide hQ; have := unhide hP; omega
              rw [eQ] at HX HW
              generalize pV b (natsL a) i j = V at *
              obtain ⟨V2, hV2⟩ : ∃ V2, V2 = pV b (natsL a) i (j + 1) := ⟨_, rfl⟩
              rw [← hV2] at HX
              replace hV2 := hide hV2
              replace hy := hide hy; replace eQ := hide eQ
              by_cases hbit : y % 2 = 1
              · rw [if_pos hbit] at HX
                have v3' : (y : Int) % 2 = 1 := by omega
                have v3 : (y : Int).tmod 2 = 1 := by rw [Int.tmod_eq_emod_of_nonneg (by omega)]; omega
                obtain ⟨k, hk⟩ : ∃ k : Nat, k = Q / 8 := ⟨_, rfl⟩
                obtain ⟨u, hu⟩ : ∃ u : Nat, u = Q % 8 := ⟨_, rfl⟩
                have hQe : Q = 8 * k + u := by omega
                have hu8 : u < 8 := by omega
                have hkm : k < m := by omega
                have v4' : (Q : Int) / 8 = (k : Int) := by omega
                have v4 : (Q : Int).tdiv 8 = (k : Int) := by rw [Int.tdiv_eq_ediv_of_nonneg (by omega)]; omega
                have v5' : (Q : Int) % 8 = (u : Int) := by omega
                have v5 : (Q : Int).tmod 8 = (u : Int) := by rw [Int.tmod_eq_emod_of_nonneg (by omega)]; omega
                rw [hQe] at HX HW
                obtain ⟨A1, A2⟩ := bys_at m k u V hkm hu8 HW
                have HS := bys_bit m k u V hu8 HW
                rw [← HX] at HS
                have hlu : 2 ^ u ≤ 128 := Nat.pow_le_pow_right (n := 2) (by omega) (show u ≤ 7 by omega)
                have hor := u8_or9 (V / 2 ^ (8 * k)) (2 ^ u) (by omega) (by omega)
                rw [or_bit _ _ A2] at hor
                have hT := hide (fun (W : World) (h : LaidB W) => h.cell u hu8)
                obtain ⟨p, hp⟩ : ∃ p : Nat, p = 2 ^ u := ⟨_, rfl⟩
                rw [← hp] at hor hT A2 HS hlu
                generalize V / 2 ^ (8 * k) = x0 at *
                have hx0 : x0 + p < 256 := by omega
                obtain ⟨z9, hz9⟩ : ∃ z9 : Nat, z9 = x0 + p := ⟨_, rfl⟩
                rw [← hz9] at hor HS hx0
                replace hz9 := hide hz9
                have ct := unhide hT wr (hL.below hB)
                have cg := (unhide HR).cell A1
                rw [byteOf_toNat (show x0 < 256 by omega)] at cg
                have fg := (unhide HR).frozen k
                have hki : (k : Int) < (m : Int) := by omega
                have hk0 : (0 : Int) ≤ (k : Int) := by omega
                have hu8' : (u : Int) < 8 := by omega
                have I1 := idxB9 u hu8'
                have HR2 := hide (show RB (wr.setCell ⟨G, k, none⟩ (.int .u8 (z9 : Int))).drew G 5 (bysL (dig 256 m V2)) by
                  have h := (unhide HR).set k z9 hx0
                  rw [← HS] at h
                  exact h)
                have HC2 : (wr.setCell ⟨G, k, none⟩ (.int .u8 (z9 : Int))).drew.cell? ⟨w.heap.size, 0, none⟩ = some (.int .i64 (b : Int)) := by
                  rw [((Below.refl G wr).setCell (p := ⟨G, k, none⟩) (Nat.le_refl _) (.int .u8 (z9 : Int))).drew.cell (p := ⟨w.heap.size, 0, none⟩) hGw]
                  exact HC
                have hB2 := (hB.setCell (p := ⟨G, k, none⟩) (Nat.le_of_lt hGw) (.int .u8 (z9 : Int))).drew
                clear HR A1 A2 HS hT hx0
                replace HX := hide HX; replace HW := hide HW; replace hQe := hide hQe; replace hk := hide hk; replace hu := hide hu; replace hp := hide hp; replace hy2 := hide hy2
                go_wp2
                go_region
                go_wp2
                exact ⟨⟨j + 1, Q + 1, y2, by omega, by go_num, by go_num, hQ2, by first | rfl | trivial, hY, hy2b, by rw [← unhide hV2]; exact HR2, HC2, hB2⟩, by simp [intOf]; omega⟩
              · rw [if_neg hbit] at HX
                have v3' : (y : Int) % 2 = 0 := by omega
                have v3 : (y : Int).tmod 2 = 0 := by rw [Int.tmod_eq_emod_of_nonneg (by omega)]; omega
                rw [← HX] at HR
                replace HX := hide HX; replace HW := hide HW; replace hy2 := hide hy2; replace hbit := hide hbit
                go_wp2
                exact ⟨⟨j + 1, Q + 1, y2, by omega, by go_num, by go_num, hQ2, by first | rfl | trivial, hY, hy2b, by rw [← unhide hV2]; exact HR, HC, hB⟩, by simp [intOf]; omega⟩
            · have hj' : ¬ (j : Int) < (b : Int) := by omega
              have hje : j = b := by omega
              have HV := pV_full b (natsL a) i (by unfold natsL; rw [List.length_map]; exact hil) (unhide hxs)
              rw [hje, HV] at HR
              have hQ2 := hide (show Q = b * (i + 1) by have := unhide hQ; have := unhide hP; rw [Nat.mul_add, Nat.mul_one]; omega)
              replace HV := hide HV; replace hje := hide hje
              go_wp2
              exact ⟨⟨i + 1, Q, by omega, by go_num, rfl, hQ2, HR, HC, hB⟩, by simp [intOf]; omega⟩
        · have hi' : ¬ (i : Int) < (n : Int) := by omega
          have hie : i = n := by omega
          rw [hie] at HR
          have hown := (unhide HR).own (base := w.heap.size) (n := m) (bysL_len _ _) (Nat.le_of_lt hGw) (by unfold maxLen; omega)
          have hcv := run_string_owned (P := Tryd.prog) wr 69 9 5 w.heap.size _ _ Tryd.underlying69 Tryd.underlying5 Tryd.underlying9 hown
          replace hie := hide hie; replace hown := hide hown
          go_wp2
          refine bodyPost_ret (v := .tuple #[.string ⟨(bysL (dig 256 m (pN b (natsL a) n))).toArray⟩, .bool true]) (by simp [results, Tryd.results37, go_sem]) rfl ⟨rfl, hB⟩
  · rw [decide_eq_false hb] at C1
    have E0 := hide (show pkOk a bits = false by unfold pkOk; rw [decide_eq_false hb, Bool.false_and])
    have E1 := hide (show pkB a bits = ⟨#[]⟩ by unfold pkB; rw [if_neg (by rw [unhide E0]; decide)])
    rw [unhide E0, unhide E1]
    obtain ⟨s0, c0, rfl, hc⟩ := r.open
    rw [List.length_map]
    clear r hc
    go_enter Tryd.func37, Tryd.ntmps37
    go_wp2_with fail
    refine (unhide C1 _).mono ?_
    rintro e w1 ⟨rfl, rfl⟩
    go_wp2
    refine bodyPost_ret (v := .tuple #[.string ⟨#[]⟩, .bool false]) (by simp [results, Tryd.results37, go_sem]) rfl ⟨rfl, hB0⟩
end Go.Proofs.YthjgmpfdjhegfasDoor

/- Packing by the project: Unpack, over the loaded program. -/
namespace Go.Proofs.YthjgmpfdjhegfasDoor
open Go.RowKit
theorem low_bit (y r : Nat) (h : r < 8) : y % 256 / 2 ^ r % 2 = y / 2 ^ r % 2 := by
  rcases show r = 0 ∨ r = 1 ∨ r = 2 ∨ r = 3 ∨ r = 4 ∨ r = 5 ∨ r = 6 ∨ r = 7 by omega with rfl | rfl | rfl | rfl | rfl | rfl | rfl | rfl <;> simp only [Nat.reducePow] <;> omega
theorem bit_at (s : ByteArray) (i r : Nat) (hr : r < 8) (hi : i < s.size) : valC 256 (bysN s) / 2 ^ (8 * i + r) % 2 = s[i].toNat / 2 ^ r % 2 := by
  have h1 := dig_valC 256 (bysN s) (by omega) (bysN_lt s)
  have h2 := dig_at 256 (bysN s).length (valC 256 (bysN s)) i (by rw [bysN_len]; exact hi)
  rw [h1, pow_256] at h2
  have h3 : (bysN s)[i]? = some s[i].toNat := by
    unfold bysN
    rw [List.getElem?_map, List.getElem?_eq_getElem (show i < s.data.toList.length from hi)]
    rfl
  rw [h3] at h2
  rw [Option.some.inj h2, low_bit _ _ hr, Nat.div_div_eq_div_mul, ← Nat.pow_add]
theorem valS_lt (s : ByteArray) : valC 256 (bysN s) < 2 ^ (8 * s.size) := by
  have h := valC_lt 256 (bysN s) (bysN_lt s)
  rw [bysN_len, pow_256] at h
  exact h
theorem set_iv9 (l : List Int) (k : Nat) (z : Int) : (l.map iv).set k (.int .i64 z) = (l.set k z).map iv := by rw [List.map_set]; rfl
theorem own_new (w : World) (T : TypeId) (n : Nat) (l : List Value) (hl : l.length = n) (hn : n ≤ maxLen) : OwnV (w.alloc (.cells l.toArray T)) w.heap.size T (.slice (some ⟨w.heap.size, 0, none⟩) n n) l := by
  subst hl
  exact ⟨by simp, .inr ⟨w.heap.size, l.length, _, rfl, Nat.le_refl _, heap_alloc_new w _, Nat.le_refl _, hn, by simp, by simp [List.take_of_length_le]⟩⟩
theorem made_int (n : Nat) : madeCells #[Value.int .i64 0] n = ((List.replicate n (0 : Int)).map iv).toArray := by
  have h := madeI n
  rw [Nat.mul_one] at h
  apply Array.toList_inj.1
  rw [show (#[Value.int .i64 0] : Array Value) = (Value.int .i64 0).cells from rfl, h, List.map_replicate]
  rfl
theorem wpList_load_bits {ops : Array Oper} {rest : List Oper} {o : Oper} {a : Act} {w : World} {Q : Exit → Act → World → Prop} (hgd : o.guard = none) (ho : o.op = .load 75 (.global 0)) (hL : LaidB w)
    (h : wpList Tryd.prog ops Q rest (a.put o.dst bitsV) w) : wpList Tryd.prog ops Q (o :: rest) a w := by
  obtain ⟨T, fr, hrow⟩ := hL.row
  exact wpList_load_row hgd 75 (.global 0) ho 0 rfl T _ fr _ hrow Tryd.underlying75 rfl (by kernel_rfl) h
set_option maxRecDepth 20000 in
set_option maxHeartbeats 1000000 in
theorem numbersIn_any (s : ByteArray) (b n : Nat) (hb : 1 ≤ b ∧ b ≤ 12) (hn : n ≤ 1000) (hs : s.size = byN n b) (w : World) (hL : LaidB w) :
    Calls Tryd.prog 64 #[.string s, .int .i64 (b : Int), .int .i64 (n : Int)] w fun e w' => (∃ v, e = .returned (.tuple #[v, .bool (upOk s (b : Int) (n : Int))]) ∧ OwnV w' w.heap.size 3 v ((upL s (b : Int) (n : Int)).map iv)) ∧ Below w.heap.size w w' := by
  obtain ⟨i0, hi, hz0, hz1, hz2⟩ := info_parts infoInt
  obtain ⟨S, hS⟩ : ∃ S, S = valC 256 (bysN s) := ⟨_, rfl⟩
  obtain ⟨L, hLs⟩ : ∃ L, L = s.size := ⟨_, rfl⟩
  have HBit := hide (fun (i r : Nat) (hr : r < 8) (hi : i < s.size) => bit_at s i r hr hi)
  have HSl := hide (valS_lt s)
  have EO := hide (show upOk s (b : Int) (n : Int) = decide (S / 2 ^ (b * n) = 0) by
    unfold upOk
    rw [decide_eq_true (show (1 : Int) ≤ (b : Int) ∧ (b : Int) ≤ 12 by omega), decide_eq_true (show (0 : Int) ≤ (n : Int) ∧ (n : Int) ≤ 1000 by omega), Int.toNat_natCast, Int.toNat_natCast, decide_eq_true hs, ← hS]; rfl)
  have EL := hide (show upL s (b : Int) (n : Int) = if S / 2 ^ (b * n) = 0 then digI b n S else [] by
    unfold upL
    rw [unhide EO]
    unfold upN digI
    rw [Int.toNat_natCast, Int.toNat_natCast, ← hS]
    by_cases h : S / 2 ^ (b * n) = 0
    · rw [if_pos (decide_eq_true h), if_pos h]
    · rw [if_neg (by rw [decide_eq_false h]; decide), if_neg h])
  rw [← hS, ← hLs] at HSl
  have hLb : L ≤ 1501 := by
    rw [hLs, hs]; unfold byN
    have : n * b ≤ 1000 * 12 := Nat.mul_le_mul hn hb.2
    omega
  rw [← hS] at HBit
  obtain ⟨p2, hp2⟩ : ∃ p : Nat, p = 2 ^ b := ⟨_, rfl⟩
  have hw2 := wrap_two b p2 (by omega) hp2
  have hb0 : (0 : Int) ≤ (b : Int) := by omega
  have hb6 : (b : Int) ≤ 64 := by omega
  have hsz : (s.size : Int) = (L : Int) := by omega
  replace hS := hide hS; replace hs := hide hs; replace hp2 := hide hp2
  go_enter Tryd.func64, Tryd.ntmps64
  have hmk := run_make_row' (P := Tryd.prog) 31 3 (.int .i64 0) 8 Tryd.underlying31 infoInt rfl .i64 .i64 n (by omega) (by omega) w
  rw [made_int n, ← digI_zero b n] at hmk
  have hB1 : Below w.heap.size w (w.alloc (.cells ((digI b n 0).map iv).toArray 3)) := (Below.refl _ _).alloc (Nat.le_refl _) _
  have hO1 := own_new w 3 n ((digI b n 0).map iv) (by rw [List.length_map, digI_len]) (by unfold maxLen; omega)
  generalize w.alloc (.cells ((digI b n 0).map iv).toArray 3) = w1 at *
  replace hO1 := hide hO1
  go_wp2
  refine wp_scope_jumps 0 (fun a' w' => (∃ (u0 u1 u2 u3 u4 u5 u6 u7 u8 u9 u10 u11 u12 u13 u14 u15 u16 u17 u18 u19 u20 u21 u22 u23 u24 u25 u26 u27 u28 u29 u30 u31 u32 u33 u34 u35 u36 u37 u38 u39 u40 u41 u42 u43 u44 u45 u46 u47 u48 u49 u50 u51 : Value), a' = { tmps := #[u0, u1, u2, u3, u4, u5, u6, u7, u8, u9, u10, u11, u12, u13, u14, u15, u16, u17, u18, u19, u20, u21, u22, u23, u24, u25, u26, u27, u28, u29, u30, u31, u32, u33, u34, u35, u36, u37, u38, u39, u40, u41, u42, u43, u44, u45, u46, u47, u48, u49, u50, u51], defers := [] }) ∧ Hid (¬ S / 2 ^ (b * n) = 0) ∧ Below w.heap.size w w') (fun _ _ => 0) rfl ?_ ?_
  rotate_left
  · rintro a' w' ⟨⟨u0, u1, u2, u3, u4, u5, u6, u7, u8, u9, u10, u11, u12, u13, u14, u15, u16, u17, u18, u19, u20, u21, u22, u23, u24, u25, u26, u27, u28, u29, u30, u31, u32, u33, u34, u35, u36, u37, u38, u39, u40, u41, u42, u43, u44, u45, u46, u47, u48, u49, u50, u51, rfl⟩, hne, hB⟩
    go_wp2
    simp only [Exit.jump]
    refine bodyPost_ret (v := .tuple #[.slice none 0 0, .bool false]) (by simp [results, Tryd.results64, go_sem]) rfl ⟨⟨_, by rw [unhide EO, decide_eq_false (unhide hne)], by rw [unhide EL, if_neg (unhide hne)]; exact OwnV.nil _ _ _⟩, hB⟩
  go_wp2
  go_loopw [9, 10, 18] (fun ta tu ti wr => ∃ i k u p : Nat, i ≤ L ∧ u < b ∧ k ≤ 8 * i ∧ ti = .int .i64 (i : Int) ∧ ta = .int .i64 (k : Int) ∧ tu = .int .i64 (p : Int) ∧ Hid (p = 2 ^ u) ∧ Hid (8 * i = b * k + u) ∧ Hid (S % 2 ^ (8 * i) < 2 ^ (b * n)) ∧ Hid (OwnV wr w.heap.size 3 (.slice (some ⟨w.heap.size, 0, none⟩) n n) ((digI b n (S % 2 ^ (8 * i))).map iv)) ∧ Below w.heap.size w wr) (fun _ _ ti _ => L - (intOf ti).toNat)
  case atStart => exact ⟨0, 0, 0, 1, by omega, by omega, by omega, rfl, rfl, rfl, hide rfl, hide (by omega), hide (by rw [Nat.mul_zero, Nat.pow_zero, Nat.mod_one]; exact Nat.pow_pos (by omega)), hide (by rw [Nat.mul_zero, Nat.pow_zero, Nat.mod_one]; exact unhide hO1), hB1⟩
  case round =>
    clear hO1 hB1 hmk
    obtain ⟨i, k, u, p, hiL, hub, hk8, rfl, rfl, rfl, hp, hPk, hSV, HO, hB⟩ := hrel
    by_cases hlt : i < L
    · have hi' : (i : Int) < (L : Int) := by omega
      have hci : (0 : Int) ≤ (i : Int) := by omega
      have his : i < s.size := by omega
      have hidx : (i : Int) < (s.size : Int) := by omega
      obtain ⟨x, hx⟩ : ∃ x : Nat, s[i].toNat = x := ⟨_, rfl⟩
      have hx256 : x < 256 := by rw [← hx]; exact UInt8.toNat_lt _
      have HBi := hide (fun (r : Nat) (hr : r < 8) => (unhide HBit) i r hr his)
      rw [hx] at HBi
      have hLr := hL.below hB
      go_wp2_with (refine wpList_load_bits rfl rfl hLr ?_)
      go_loopw [9, 10, 22] (fun ta tu tr wq => ∃ r k u p : Nat, r ≤ 8 ∧ u < b ∧ k ≤ 8 * i + r ∧ tr = .int .i64 (r : Int) ∧ ta = .int .i64 (k : Int) ∧ tu = .int .i64 (p : Int) ∧ Hid (p = 2 ^ u) ∧ Hid (8 * i + r = b * k + u) ∧ Hid (S % 2 ^ (8 * i + r) < 2 ^ (b * n)) ∧ Hid (OwnV wq w.heap.size 3 (.slice (some ⟨w.heap.size, 0, none⟩) n n) ((digI b n (S % 2 ^ (8 * i + r))).map iv)) ∧ Below w.heap.size w wq) (fun _ _ tr _ => 8 - (intOf tr).toNat)
      case atStart => exact ⟨0, k, u, p, by omega, hub, by omega, rfl, rfl, rfl, hp, hPk, hSV, HO, hB⟩
      case round =>
        clear HO hB hSV hPk hp hub hk8 hLr
        obtain ⟨r, k, u, p, hr8, hub, hk8, rfl, rfl, rfl, hp, hPk, hSV, HO, hB⟩ := hrel
        by_cases hltr : r < 8
        · have hr' : (r : Int) < 8 := by omega
          have hr0 : (0 : Int) ≤ (r : Int) := by omega
          have I1 := idx8v r hr'
          have HBr := unhide HBi r hltr
          have hM := mod_bit S (8 * i + r)
          have hVP : S % 2 ^ (8 * i + r) < 2 ^ (8 * i + r) := Nat.mod_lt _ (Nat.pow_pos (by omega))
          have hpr : 2 ^ r ≤ 128 := Nat.pow_le_pow_right (n := 2) (by omega) (show r ≤ 7 by omega)
          have hpr0 : 0 < 2 ^ r := Nat.pow_pos (by omega)
          have hand := u8_and9 x (2 ^ r) hx256 (by omega)
          rw [and_bit] at hand
          have hP : 8 * i + r + 1 = 8 * i + (r + 1) := by omega
          rw [hP] at hM
          obtain ⟨q, hq⟩ : ∃ q : Nat, q = 2 ^ r := ⟨_, rfl⟩
          rw [← hq] at I1 hand hpr hpr0 HBr
          obtain ⟨p3, hp3⟩ : ∃ p3 : Nat, p3 = 2 * p := ⟨_, rfl⟩
          have hpb : p ≤ 2048 := by rw [unhide hp]; exact Nat.pow_le_pow_right (n := 2) (by omega) (show u ≤ 11 by omega)
          have w1 : IntKind.i64.wrap ((p : Int) * 2) = (p3 : Int) := by rw [IntKind.wrap_i64]; omega
          have hp3e := hide (show p3 = 2 ^ (u + 1) by rw [hp3, unhide hp, Nat.pow_succ, Nat.mul_comm])
          obtain ⟨V2, hV2⟩ : ∃ V2, V2 = S % 2 ^ (8 * i + (r + 1)) := ⟨_, rfl⟩
          rw [← hV2] at hM
          rw [HBr] at hM
          have hPk' := unhide hPk
          rw [hPk'] at hM hVP
          have hPke := hide hPk'
          have HO' : Hid (OwnV wr w.heap.size 3 (.slice (some ⟨w.heap.size, 0, none⟩) n n) ((digI b n (S % 2 ^ (b * k + u))).map iv)) := by rw [← hPk']; exact HO
          have hSV' : Hid (S % 2 ^ (b * k + u) < 2 ^ (b * n)) := by rw [← hPk']; exact hSV
          clear HO hSV hPk hPk'
          have hq0 : ¬ (q : Int) = 0 := by omega
          have hk1 : k ≤ 12016 := by omega
          replace hq := hide hq; replace hp3 := hide hp3; replace hP := hide hP
          -- the end of the round, for every world
          have FIN := hide (show ∀ wz : World, Hid (V2 < 2 ^ (b * n)) → Hid (OwnV wz w.heap.size 3 (.slice (some ⟨w.heap.size, 0, none⟩) n n) ((digI b n V2).map iv)) → (Hid (S % 2 ^ (8 * i + (r + 1)) < 2 ^ (b * n)) ∧ Hid (OwnV wz w.heap.size 3 (.slice (some ⟨w.heap.size, 0, none⟩) n n) ((digI b n (S % 2 ^ (8 * i + (r + 1)))).map iv))) from fun wz h1 h2 => by rw [← hV2]; exact ⟨h1, h2⟩)
          replace hV2 := hide hV2
          by_cases hbit : x / q % 2 = 1
          · rw [if_pos hbit] at hand
            rw [hbit, Nat.mul_one] at hM
            by_cases hkn : k < n
            · have hkn' : ¬ (n : Int) ≤ (k : Int) := by omega
              have hkn2 : (k : Int) < (n : Int) := by omega
              have hk0 : (0 : Int) ≤ (k : Int) := by omega
              obtain ⟨A1, A2⟩ := digI_at b n (S % 2 ^ (b * k + u)) k u hkn hub hVP
              have HS := digI_bit b n k u (S % 2 ^ (b * k + u)) hub hVP
              rw [← hM] at HS
              have hbk : b * k + b ≤ b * n := by have := Nat.mul_le_mul_left b hkn; rw [Nat.succ_eq_add_one, Nat.mul_add, Nat.mul_one] at this; exact this
              have hV2b := hide (show V2 < 2 ^ (b * n) by
                have h3 : 2 ^ (b * k + u + 1) ≤ 2 ^ (b * n) := Nat.pow_le_pow_right (by omega) (by omega)
                rw [Nat.pow_succ] at h3
                omega)
              rw [← unhide hp] at A2 HS
              generalize S % 2 ^ (b * k + u) = V at *
              generalize V / 2 ^ (b * k) = x0 at *
              obtain ⟨z9, hz9⟩ : ∃ z9 : Nat, z9 = x0 + p := ⟨_, rfl⟩
              rw [← hz9] at HS
              have hz9b : z9 ≤ 4096 := by omega
              have w2 : IntKind.i64.wrap ((x0 : Int) + (p : Int)) = (z9 : Int) := by rw [IntKind.wrap_i64]; omega
              have w3 : (x0 : Int) + (p : Int) = (z9 : Int) := by omega
              have cu := (unhide HO').cell (get_iv _ k (by rw [digI_len]; exact hkn))
              rw [A1] at cu
              have cz := (unhide HO').frozen k
              have HO2 := hide (show OwnV (wr.setCell ⟨w.heap.size, k, none⟩ (.int .i64 (z9 : Int))) w.heap.size 3 (.slice (some ⟨w.heap.size, 0, none⟩) n n) ((digI b n V2).map iv) by
                have h := OwnV.set (w := wr) (unhide HO') k (.int .i64 (z9 : Int))
                rw [set_iv9, ← HS] at h
                exact h)
              have hB2 := hB.setCell (p := ⟨w.heap.size, k, none⟩) (Nat.le_refl _) (.int .i64 (z9 : Int))
              obtain ⟨F1, F2⟩ := unhide FIN _ hV2b HO2
              clear HO' A1 A2 HS hVP
              replace hM := hide hM; replace HBr := hide HBr; replace hz9 := hide hz9; replace hbit := hide hbit; replace hbk := hide hbk
              by_cases hend : p3 = p2
              · have hend' : (p3 : Int) = (p2 : Int) := by omega
                have hub2 : u + 1 = b := by
                  have h1 := unhide hp3e; have h2 := unhide hp2
                  rw [h1, h2] at hend
                  exact (Nat.pow_right_inj (by omega)).1 hend
                have hPn := hide (show 8 * i + (r + 1) = b * (k + 1) + 0 by have := unhide hPke; rw [Nat.mul_add, Nat.mul_one]; omega)
                replace hub2 := hide hub2; replace hend := hide hend
                go_wp2
                exact ⟨⟨r + 1, k + 1, 0, 1, by omega, by omega, by omega, by go_num, by go_num, rfl, hide rfl, hPn, F1, F2, hB2⟩, by simp [intOf]; omega⟩
              · have hend' : ¬ (p3 : Int) = (p2 : Int) := by omega
                have hub2 : u + 1 < b := by
                  rcases Nat.lt_or_ge (u + 1) b with h | h
                  · exact h
                  · exfalso
                    have h3 : u + 1 = b := by omega
                    exact hend (by rw [unhide hp3e, unhide hp2, h3])
                have hPn := hide (show 8 * i + (r + 1) = b * k + (u + 1) by have := unhide hPke; omega)
                replace hend := hide hend
                go_wp2
                exact ⟨⟨r + 1, k, u + 1, p3, by omega, hub2, by omega, by go_num, by first | rfl | trivial, by first | rfl | trivial, hp3e, hPn, F1, F2, hB2⟩, by simp [intOf]; omega⟩
            · have hkn' : (n : Int) ≤ (k : Int) := by omega
              have hne := hide (show ¬ S / 2 ^ (b * n) = 0 by
                intro h0
                have h1 : S < 2 ^ (b * n) := (Nat.div_eq_zero_iff_lt (Nat.pow_pos (by omega))).1 h0
                have h2 : 2 ^ (b * n) ≤ 2 ^ (b * k + u) := Nat.pow_le_pow_right (by omega) (by have := Nat.mul_le_mul_left b (show n ≤ k by omega); omega)
                rw [unhide hPke, Nat.div_eq_of_lt (by omega), Nat.zero_mod] at HBr
                omega)
              clear HO' hVP
              replace hM := hide hM; replace HBr := hide HBr; replace hbit := hide hbit
              go_wp2
              go_step3
              exact ⟨rfl, ⟨_, _, _, _, _, _, _, _, _, _, _, _, _, _, _, _, _, _, _, _, _, _, _, _, _, _, _, _, _, _, _, _, _, _, _, _, _, _, _, _, _, _, _, _, _, _, _, _, _, _, _, _, rfl⟩, hne, hB⟩
          · rw [if_neg hbit] at hand
            have hx2 : x / q % 2 = 0 := by omega
            rw [hx2, Nat.mul_zero, Nat.add_zero] at hM
            obtain ⟨F1, F2⟩ := unhide FIN wr (by rw [hM]; exact hSV') (by rw [hM]; exact HO')
            clear HO' hSV' hVP
            replace hM := hide hM; replace HBr := hide HBr; replace hbit := hide hbit; replace hx2 := hide hx2
            by_cases hend : p3 = p2
            · have hend' : (p3 : Int) = (p2 : Int) := by omega
              have hub2 : u + 1 = b := by
                have h1 := unhide hp3e; have h2 := unhide hp2
                rw [h1, h2] at hend
                exact (Nat.pow_right_inj (by omega)).1 hend
              have hPn := hide (show 8 * i + (r + 1) = b * (k + 1) + 0 by have := unhide hPke; rw [Nat.mul_add, Nat.mul_one]; omega)
              replace hub2 := hide hub2; replace hend := hide hend
              go_wp2
              exact ⟨⟨r + 1, k + 1, 0, 1, by omega, by omega, by omega, by go_num, by go_num, rfl, hide rfl, hPn, F1, F2, hB⟩, by simp [intOf]; omega⟩
            · have hend' : ¬ (p3 : Int) = (p2 : Int) := by omega
              have hub2 : u + 1 < b := by
                rcases Nat.lt_or_ge (u + 1) b with h | h
                · exact h
                · exfalso
                  have h3 : u + 1 = b := by omega
                  exact hend (by rw [unhide hp3e, unhide hp2, h3])
              have hPn := hide (show 8 * i + (r + 1) = b * k + (u + 1) by have := unhide hPke; omega)
              replace hend := hide hend
              go_wp2
              exact ⟨⟨r + 1, k, u + 1, p3, by omega, hub2, by omega, by go_num, by first | rfl | trivial, by first | rfl | trivial, hp3e, hPn, F1, F2, hB⟩, by simp [intOf]; omega⟩
        · have hr' : ¬ (r : Int) < 8 := by omega
          have hre : r = 8 := by omega
          subst hre
          have hPn := hide (show 8 * (i + 1) = b * k + u by have := unhide hPk; omega)
          go_wp2
          exact ⟨⟨i + 1, k, u, p, by omega, hub, by omega, by go_num, rfl, rfl, hp, hPn, hSV, HO, hB⟩, by simp [intOf]; omega⟩
    · have hi' : ¬ (i : Int) < (L : Int) := by omega
      have hie : i = L := by omega
      have hSS : S % 2 ^ (8 * i) = S := by rw [hie]; exact Nat.mod_eq_of_lt (unhide HSl)
      rw [hSS] at HO hSV
      have h0 : S / 2 ^ (b * n) = 0 := Nat.div_eq_of_lt (unhide hSV)
      have E1 := hide (show upOk s (b : Int) (n : Int) = true by rw [unhide EO]; exact decide_eq_true h0)
      have E2 := hide (show upL s (b : Int) (n : Int) = digI b n S by rw [unhide EL, if_pos h0])
      replace hie := hide hie; replace hSS := hide hSS; replace h0 := hide h0
      go_wp2
      simp only [Exit.jump]
      refine bodyPost_ret (v := .tuple #[.slice (some ⟨w.heap.size, 0, none⟩) n n, .bool true]) (by simp [results, Tryd.results64, go_sem]) rfl ⟨⟨_, by rw [unhide E1], by rw [unhide E2]; exact unhide HO⟩, hB⟩
end Go.Proofs.YthjgmpfdjhegfasDoor

