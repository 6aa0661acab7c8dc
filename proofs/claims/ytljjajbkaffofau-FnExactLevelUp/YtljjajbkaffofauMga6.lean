/- Merged: Dec, Hex, Decimal, MarkT, Txs, Apg, Rws, Chn3, Chn4. -/
import Derived.Test.YtljjajbkaffofauMga1
import Derived.Test.YtljjajbkaffofauMga2
import Derived.Test.YtljjajbkaffofauMga3
import Derived.Test.YtljjajbkaffofauMga4
import Derived.Test.YtljjajbkaffofauMga5
import Derived.Test.YtljjajbkaffofauChecked
import Derived.Deep.RegionWith
import Derived.Deep.RegionLaw
import Derived.Deep.RegionHeld3
import Derived.BigQuiet
import Derived.Deep.QuietTactic
/- Decimal figures of a number, and the number of figures: the mathematics, of no program. -/
namespace Go.Proofs.Ytljjajbkaffofau

/-- The decimal figures of u, the first ahead; one nought for 0 (f: how many may stand ahead). -/
def decF : Nat → Nat → List UInt8
  | 0, u => [byteOf (48 + u)]
  | f + 1, u => if u < 10 then [byteOf (48 + u)] else decF f (u / 10) ++ [byteOf (48 + u % 10)]
def decB (u : Nat) : List UInt8 := decF u u

theorem decF_more : ∀ (f g u : Nat), u ≤ f → u ≤ g → decF f u = decF g u := by
  intro f
  induction f with
  | zero =>
    intro g u h1 h2
    have : u = 0 := by omega
    subst this
    cases g with
    | zero => rfl
    | succ g => rfl
  | succ f ih =>
    intro g u h1 h2
    cases g with
    | zero =>
      have : u = 0 := by omega
      subst this
      rfl
    | succ g =>
      unfold decF
      by_cases h : u < 10
      · rw [if_pos h, if_pos h]
      · rw [if_neg h, if_neg h, ih g (u / 10) (by omega) (by omega)]
theorem decB_small {u : Nat} (h : u < 10) : decB u = [byteOf (48 + u)] := by
  unfold decB
  cases u with
  | zero => rfl
  | succ u => unfold decF; rw [if_pos h]
theorem decB_big {u : Nat} (h : ¬ u < 10) : decB u = decB (u / 10) ++ [byteOf (48 + u % 10)] := by
  unfold decB
  cases u with
  | zero => omega
  | succ u =>
    rw [decF, if_neg h, decF_more u ((u + 1) / 10) ((u + 1) / 10) (by omega) (Nat.le_refl _)]
theorem decB_len : ∀ (k u : Nat), u < 10 ^ (k + 1) → 1 ≤ (decB u).length ∧ (decB u).length ≤ k + 1 := by
  intro k
  induction k with
  | zero => intro u h; rw [decB_small (by omega)]; simp
  | succ k ih =>
    intro u h
    by_cases hu : u < 10
    · rw [decB_small hu]; simp
    · have := ih (u / 10) (by rw [Nat.pow_succ] at h; omega)
      rw [decB_big hu, List.length_append]
      simp only [List.length_singleton]
      omega
theorem decB_pos (u : Nat) : 1 ≤ (decB u).length := by
  by_cases hu : u < 10
  · rw [decB_small hu]; simp
  · rw [decB_big hu]; simp

/-- Is it a figure? -/
def isFig (c : UInt8) : Bool := decide (48 ≤ c.toNat ∧ c.toNat ≤ 57)
/-- The number of figures. -/
def valB (l : List UInt8) : Nat := l.foldl (fun n c => 10 * n + (c.toNat - 48)) 0
theorem valB_nil : valB [] = 0 := rfl
theorem valB_snoc (l : List UInt8) (c : UInt8) : valB (l ++ [c]) = 10 * valB l + (c.toNat - 48) := by unfold valB; simp
theorem foldl_ge (l : List UInt8) : ∀ n, n ≤ l.foldl (fun n c => 10 * n + (c.toNat - 48)) n := by
  induction l with
  | nil => intro n; exact Nat.le_refl _
  | cons c t ih => intro n; rw [List.foldl_cons]; exact Nat.le_trans (by omega) (ih _)
theorem valB_append_ge (l m : List UInt8) : valB l ≤ valB (l ++ m) := by
  unfold valB; rw [List.foldl_append]; exact foldl_ge _ _
theorem foldl_pow (l : List UInt8) : ∀ n, n * 10 ^ l.length ≤ l.foldl (fun n c => 10 * n + (c.toNat - 48)) n := by
  induction l with
  | nil => intro n; simp
  | cons c t ih =>
    intro n
    rw [List.foldl_cons, List.length_cons, Nat.pow_succ]
    refine Nat.le_trans ?_ (ih _)
    calc n * (10 ^ t.length * 10) = (10 * n) * 10 ^ t.length := by rw [Nat.mul_comm (10 ^ t.length) 10, ← Nat.mul_assoc, Nat.mul_comm n 10]
      _ ≤ _ := Nat.mul_le_mul_right _ (by omega)
theorem valB_cons_ge (c : UInt8) (t : List UInt8) (h : 49 ≤ c.toNat) : 10 ^ t.length ≤ valB (c :: t) := by
  unfold valB
  rw [List.foldl_cons]
  refine Nat.le_trans ?_ (foldl_pow t _)
  calc 10 ^ t.length = 1 * 10 ^ t.length := by omega
    _ ≤ _ := Nat.mul_le_mul_right _ (by omega)
theorem valB_lt (l : List UInt8) : (∀ c ∈ l, isFig c = true) → valB l < 10 ^ l.length := by
  intro h
  induction hl : l.length generalizing l with
  | zero => have : l = [] := List.length_eq_zero_iff.1 hl; subst this; simp [valB_nil]
  | succ k ih =>
    obtain ⟨l', c, rfl⟩ : ∃ l' c, l = l' ++ [c] := by
      have hne : l ≠ [] := by intro e; subst e; simp at hl
      exact ⟨l.dropLast, l.getLast hne, (List.dropLast_concat_getLast hne).symm⟩
    have h1 := ih l' (fun c hc => h c (by simp [hc])) (by simpa using hl)
    have h2 := h c (by simp)
    simp only [isFig, decide_eq_true_eq] at h2
    rw [valB_snoc, Nat.pow_succ]
    omega

/-- No needless nought stands ahead. -/
def plainFigs (l : List UInt8) : Prop := l ≠ [] ∧ (1 < l.length → l.head? ≠ some 48)

theorem valB_ge_one {l : List UInt8} (hf : ∀ c ∈ l, isFig c = true) (hn : l ≠ []) (h0 : l.head? ≠ some 48) : 1 ≤ valB l := by
  cases l with
  | nil => exact absurd rfl hn
  | cons c t =>
    have h2 := hf c (by simp)
    simp only [isFig, decide_eq_true_eq] at h2
    have h3 : c.toNat ≠ 48 := by
      intro e
      apply h0
      simp only [List.head?_cons, Option.some.injEq]
      apply UInt8.toNat_inj.1; rw [e]; rfl
    have := valB_cons_ge c t (by omega)
    have hp : 1 ≤ 10 ^ t.length := Nat.one_le_pow _ _ (by decide)
    omega

theorem decB_valB : ∀ (k : Nat) (l : List UInt8), l.length = k → (∀ c ∈ l, isFig c = true) → plainFigs l → decB (valB l) = l := by
  intro k
  induction k with
  | zero => intro l hl _ hp; exact absurd (List.length_eq_zero_iff.1 hl) hp.1
  | succ k ih =>
    intro l hl hf hp
    obtain ⟨l', c, rfl⟩ : ∃ l' c, l = l' ++ [c] := ⟨l.dropLast, l.getLast hp.1, (List.dropLast_concat_getLast hp.1).symm⟩
    have hc := hf c (by simp)
    simp only [isFig, decide_eq_true_eq] at hc
    have hbc : byteOf c.toNat = c := by unfold byteOf; simp
    rw [valB_snoc]
    by_cases hn : l' = []
    · subst hn
      rw [valB_nil, decB_small (by omega), show 48 + (10 * 0 + (c.toNat - 48)) = c.toNat by omega, hbc]
      rfl
    · have hlen : 0 < l'.length := List.length_pos_iff.2 hn
      have hh : l'.head? ≠ some 48 := by
        have := hp.2 (by simp; omega)
        cases l' with
        | nil => exact absurd rfl hn
        | cons a t => simpa using this
      have h1 := valB_ge_one (fun c hc => hf c (by simp [hc])) hn hh
      have h2 := ih l' (by simpa using hl) (fun c hc => hf c (by simp [hc])) ⟨hn, fun _ => hh⟩
      rw [decB_big (by omega), show (10 * valB l' + (c.toNat - 48)) / 10 = valB l' by omega, show 48 + (10 * valB l' + (c.toNat - 48)) % 10 = c.toNat by omega, h2, hbc]

theorem decB_head : ∀ (n : Nat) (t : List UInt8), decB n = 48 :: t → t = [] ∧ n = 0 := by
  intro n
  induction n using Nat.strongRecOn with
  | _ n ih =>
    intro t h
    by_cases hn : n < 10
    · rw [decB_small hn] at h
      simp only [List.cons.injEq] at h
      refine ⟨h.2.symm, ?_⟩
      have := congrArg UInt8.toNat h.1
      rw [byteOf_toNat (by omega)] at this
      simp at this
      omega
    · exfalso
      rw [decB_big hn] at h
      have hp := decB_pos (n / 10)
      cases hd : decB (n / 10) with
      | nil => rw [hd] at hp; simp at hp
      | cons y ys =>
        rw [hd] at h
        simp only [List.cons_append, List.cons.injEq] at h
        have := ih (n / 10) (by omega) ys (by rw [hd, h.1])
        omega

/-- The figures of the number that figures stand for are these just where no needless nought stands ahead. -/
theorem decB_iff {l : List UInt8} (hf : ∀ c ∈ l, isFig c = true) : decB (valB l) = l ↔ plainFigs l := by
  constructor
  · intro h
    refine ⟨?_, ?_⟩
    · intro e; subst e
      have hp := decB_pos (valB [])
      rw [h] at hp
      simp at hp
    · intro hl hh
      cases l with
      | nil => simp at hh
      | cons a t =>
        simp only [List.head?_cons, Option.some.injEq] at hh
        subst hh
        have := (decB_head _ _ h).1
        subst this
        simp at hl
  · exact decB_valB _ l rfl hf

/-- What is read. -/
def rdB (l : List UInt8) : Option Nat := if l.all isFig = true ∧ valB l ≤ 1000000000 ∧ decB (valB l) = l then some (valB l) else none
end Go.Proofs.Ytljjajbkaffofau

/- What spec.Hex and impl.Hex come to, over the loaded program. -/
namespace Go.Proofs.Ytljjajbkaffofau
open Go.RowKit

theorem Try.infoBH : (Try.prog.info? 5).map (fun i => (i.zero, i.size, i.bytes)) = some (some (.int .u8 0), 1, 1) := by kernel_rfl

/-- The figure of a half byte. -/
def fig (n : Nat) : UInt8 := byteOf (if n < 10 then 48 + n else 87 + n)
/-- Two figures for each byte. -/
def hexB (l : List UInt8) : List UInt8 := l.flatMap fun b => [fig (b.toNat / 16), fig (b.toNat % 16)]
theorem fig_toNat {n : Nat} (h : n < 16) : (fig n).toNat = if n < 10 then 48 + n else 87 + n := by
  unfold fig; rw [byteOf_toNat]; split <;> omega
theorem hexB_len (l : List UInt8) : (hexB l).length = 2 * l.length := by
  unfold hexB; induction l with
  | nil => rfl
  | cons a t ih => rw [List.flatMap_cons, List.length_append, ih]; simp; omega
theorem hexB_snoc (l : List UInt8) (b : UInt8) : hexB (l ++ [b]) = hexB l ++ [fig (b.toNat / 16), fig (b.toNat % 16)] := by
  unfold hexB; simp


theorem cs_two {c d : Int} {a b : UInt8} (h : c = (a.toNat : Int)) (h' : d = (b.toNat : Int)) : (#[Value.int .u8 c, Value.int .u8 d] : Array Value).toList = [a, b].map bv := by simp [bv, h, h']

theorem take_step0 (s : ByteArray) (k : Nat) (h : k < s.size) : s.data.toList.take (k + 1) = s.data.toList.take k ++ [s[k]] := by
  rw [List.take_succ_eq_append_getElem (by simpa using h)]; rfl

end Go.Proofs.Ytljjajbkaffofau

/- What spec.Decimal comes to at numbers that are not below 0, over the loaded program. -/
namespace Go.Proofs.Ytljjajbkaffofau
open Go.RowKit

/-- 'string([]byte{b})' -/
theorem run_string_new {P : Program} (src dst e : TypeId) (hs : P.underlying src = some (.slice e)) (he : P.underlying e = some (.int .u8)) (hd : P.underlying dst = some .string) (W : World) (b : UInt8) :
    (convert src dst (.slice (some ⟨W.heap.size, 0, none⟩) 1 1)).run P (W.alloc (.cells #[.int .u8 (b.toNat : Int)] e)) = .ok (.string ⟨#[b]⟩) (W.alloc (.cells #[.int .u8 (b.toNat : Int)] e)) := by
  have := run_convert_bytes_back (P := P) (W.alloc (.cells #[.int .u8 (b.toNat : Int)] e)) src dst e ⟨W.heap.size, 0, none⟩ 1 [b] hs he hd (fun j hj => by
    have h0 : j = 0 := by simpa using hj
    subst h0
    rw [show (⟨W.heap.size, 0, none⟩ : Addr).add 0 = ⟨W.heap.size, 0, none⟩ from rfl, cell_of_row (W.alloc (.cells #[.int .u8 (b.toNat : Int)] e)) W.heap.size 0 _ e (0, 0) (heap_alloc_new W _)]
    rfl)
  exact this

/-- What stands at the head of a round: the figures that are to come and those that lie ready. -/
def DecAt (n m : Nat) (t : List UInt8) : Prop := t.length ≤ 20 ∧ (if m = 0 then t = decB n else decB m ++ t = decB n)
theorem DecAt.start {n : Nat} (h : n ≠ 0) : DecAt n n [] := ⟨by simp, by rw [if_neg h]; simp⟩
theorem DecAt.next {n m : Nat} {t : List UInt8} (hn : n < 10 ^ 20) (h : DecAt n m t) (hm : m ≠ 0) : DecAt n (m / 10) (fig (m % 10) :: t) := by
  have hlen := (decB_len 19 n hn).2
  have hf : fig (m % 10) = byteOf (48 + m % 10) := by unfold fig; rw [if_pos (by omega)]
  have h2 := h.2
  rw [if_neg hm] at h2
  have key : (if m / 10 = 0 then fig (m % 10) :: t = decB n else decB (m / 10) ++ fig (m % 10) :: t = decB n) := by
    by_cases hs : m < 10
    · rw [if_pos (by omega), hf, show m % 10 = m by omega, ← h2, decB_small hs]
      rfl
    · rw [if_neg (by omega), hf, ← h2, decB_big hs]
      simp
  refine ⟨?_, key⟩
  split at key
  · have := congrArg List.length key
    simp only [List.length_cons] at *
    omega
  · have := congrArg List.length key
    simp only [List.length_cons, List.length_append] at *
    omega
theorem DecAt.done {n m : Nat} {t : List UInt8} (h : DecAt n m t) (hm : m = 0) : t = decB n := by
  have := h.2; rw [if_pos hm] at this; exact this

theorem ret_str {a b : List UInt8} (h : a = b) : Ending.returned (.string ⟨a.toArray⟩) = .returned (.string ⟨b.toArray⟩) := by rw [h]
theorem str_cons (b : UInt8) (t : List UInt8) : Value.string (ByteArray.mk #[b] ++ ByteArray.mk t.toArray) = Value.string ⟨(b :: t).toArray⟩ := by
  show Value.string (ByteArray.mk [b].toArray ++ ByteArray.mk t.toArray) = _
  rw [ByteArray.mk_append_mk]; rfl



end Go.Proofs.Ytljjajbkaffofau

/- What laws.markText comes to. -/
namespace Go.Proofs.Ytljjajbkaffofau
open Go.RowKit

/-- The text of a mark. -/
def mkS (k : Nat) : ByteArray := ⟨(109 :: decB k).toArray⟩
theorem fig_ten {m : Nat} (h : m < 10) : fig m = byteOf (48 + m) := by unfold fig; rw [if_pos h]
theorem ret_m {t l : List UInt8} (h : t = l) : Ending.returned (.string (ByteArray.mk #[109] ++ ByteArray.mk t.toArray)) = .returned (.string ⟨(109 :: l).toArray⟩) := by rw [str_cons, h]

set_option maxHeartbeats 400000 in
theorem markText_any (n : Nat) (w : World) (h0 : 1 ≤ n) (hn : n ≤ 1000000000) :
    Calls Try.prog 34 #[.int .i64 n] w fun e w' => e = .returned (.string (mkS n)) ∧ Below w.heap.size w w' := by
  have h1 : ¬ (n : Int) ≤ 0 := by omega
  go_enter Try.func34, Try.ntmps34
  go_wp2
  go_loopw [0, 3] (fun ti ts wr => ∃ (m : Nat) (t : List UInt8), m ≤ 1000000000 ∧ DecAt n m t ∧ ti = .int .i64 m ∧ ts = .string ⟨t.toArray⟩ ∧ Below w.heap.size w wr) (fun ti _ _ => (intOf ti).toNat)
  case atStart => exact ⟨n, [], hn, DecAt.start (by omega), rfl, rfl, Below.refl _ _⟩
  case round =>
    obtain ⟨m, t, hm, hat, rfl, rfl, hb⟩ := hrel
    clear h1
    have hsz := hb.size
    by_cases hz : m = 0
    · have hfin := hide (hat.done hz)
      have hl := hat.1
      subst hz
      go_wp2
      go_ret
      exact ⟨ret_m (unhide hfin), hb⟩
    · have hx := hat.next (by omega) hz
      have hl := hat.1
      have h3 : (0 : Int) < (m : Int) := by omega
      have hcv : ((fig (m % 10)).toNat : Int) = 48 + (m : Int) % 10 := by rw [fig_ten (by omega), byteOf_toNat (by omega)]; omega
      have hconv := fun (W : World) => run_string_new (P := Try.prog) 57 9 5 Try.underlying57 Try.underlying5 Try.underlying9 W (fig (m % 10))
      rw [hcv] at hconv
      clear hcv
      go_wp2
      go_roundw
      case rel => exact ⟨m / 10, fig (m % 10) :: t, by omega, hx, by go_num, str_cons _ _, hb.alloc hsz _⟩
      case measure => simp [intOf]; omega

theorem markText_at (z : Int) (n : Nat) (hz : z = n) (w : World) (h0 : 1 ≤ n) (hn : n ≤ 1000000000) :
    Calls Try.prog 34 #[.int .i64 z] w fun e w' => e = .returned (.string (mkS n)) ∧ Below w.heap.size w w' := by
  rw [hz]; exact markText_any n w h0 hn

end Go.Proofs.Ytljjajbkaffofau

/- The laws' helpers on rows of texts, over the loaded program. -/
namespace Go.Proofs.Ytljjajbkaffofau
open Go.RowKit
def sv (b : ByteArray) : Value := .string b
theorem sv_get (l : List ByteArray) (k : Nat) (h : k < l.length) : (l.map sv)[k]? = some (.string l[k]) := by rw [List.getElem?_map, List.getElem?_eq_getElem h]; rfl
theorem infoTxt : (Try.prog.info? 9).map (fun i => (i.zero, i.size, i.bytes)) = some (some (.string ⟨#[]⟩), 1, 16) := by kernel_rfl
theorem madeT (n : Nat) : (madeCells (Value.string ⟨#[]⟩).cells (n * 1)).toList = List.replicate n (.string ⟨#[]⟩) := by
  unfold madeCells
  apply List.ext_getElem?
  intro j
  rw [Array.toList_map, Array.toList_range, List.getElem?_map, List.getElem?_replicate, Nat.mul_one]
  by_cases hj : j < n
  · rw [List.getElem?_range hj, if_pos hj]
    show some ((#[Value.string ⟨#[]⟩] : Array Value)[j % 1]!) = _
    rw [Nat.mod_one]; rfl
  · rw [List.getElem?_eq_none (by simp; omega), if_neg hj]; rfl
/-- How many bytes the texts have together. -/
def sumS : List ByteArray → Nat
  | [] => 0
  | x :: xs => x.size + sumS xs
theorem sumS_take (l : List ByteArray) (k : Nat) (h : k < l.length) : sumS (l.take (k + 1)) = sumS (l.take k) + l[k].size := by
  induction l generalizing k with
  | nil => exact absurd h (Nat.not_lt_zero _)
  | cons x xs ih =>
    cases k with
    | zero => show x.size + sumS (xs.take 0) = 0 + x.size; rw [List.take_zero]; show x.size + 0 = _; omega
    | succ k =>
      show x.size + sumS (xs.take (k + 1)) = x.size + sumS (xs.take k) + (xs[k]'(by simpa using h)).size
      rw [ih k (by simpa using h)]
      omega
theorem sumS_all (l : List ByteArray) : sumS (l.take l.length) = sumS l := by rw [List.take_length]
theorem sumS_at (l : List ByteArray) (k : Nat) (h : k < l.length) : l[k].size ≤ sumS l := by
  induction l generalizing k with
  | nil => exact absurd h (Nat.not_lt_zero _)
  | cons x xs ih =>
    show _ ≤ x.size + sumS xs
    cases k with
    | zero => show x.size ≤ _; omega
    | succ k => have := ih k (by simpa using h); show (xs[k]'(by simpa using h)).size ≤ _; omega
set_option maxRecDepth 20000 in
set_option maxHeartbeats 400000 in
theorem szStrS_any (l : List ByteArray) (v : Value) (w : World) (hr : RdV w v (l.map sv)) (hb : ∀ x ∈ l, x.size ≤ maxLen) (hlen : l.length ≤ maxLen) :
    Calls Try.prog 9 #[v, .int .i64 1048576] w fun e w' => (∃ z : Int, e = .returned (.int .i64 z) ∧ (z < 0 ∨ (0 ≤ z ∧ l.length + sumS l ≤ 1048576))) ∧ w' = w := by
  obtain ⟨a, c, rfl, hc⟩ := hr.open
  clear hr
  rw [List.length_map]
  have hm : maxLen = 9223372036854775807 := by first | rfl | (unfold maxLen; rfl)
  obtain ⟨n, hnn⟩ : ∃ n, l.length = n := ⟨_, rfl⟩
  rw [hnn] at hlen ⊢
  have HE := hide (sumS_all l)
  rw [hnn] at HE
  replace hnn := hide hnn
  obtain ⟨z0, hz0⟩ : ∃ z : Int, z = 1048576 - (n : Int) := ⟨_, rfl⟩
  have w0 : IntKind.i64.wrap (1048576 - (n : Int)) = z0 := by rw [IntKind.wrap_i64]; omega
  by_cases h0 : z0 < 0
  · replace hz0 := hide hz0
    clear hc hm
    go_enter Try.func9, Try.ntmps9
    go_wp2
    go_ret
    exact ⟨⟨-1, rfl, .inl (by decide)⟩, rfl⟩
  · have hn2 : n ≤ 1048576 := by omega
    replace hz0 := hide hz0
    go_enter Try.func9, Try.ntmps9
    go_wp2
    go_loopw [1, 5] (fun tz ti wr => ∃ (k : Nat) (z : Int), k ≤ n ∧ ti = .int .i64 (k : Int) ∧ tz = .int .i64 z ∧ Hid (0 ≤ z ∧ z + (sumS (l.take k) : Int) + (n : Int) = 1048576) ∧ wr = w) (fun _ ti _ => n - (intOf ti).toNat)
    case atStart => exact ⟨0, z0, Nat.zero_le _, rfl, rfl, hide ⟨by omega, by rw [List.take_zero]; show z0 + ((0 : Nat) : Int) + _ = _; have := unhide hz0; omega⟩, rfl⟩
    case round =>
      obtain ⟨k, z, hk, rfl, rfl, hz, hw⟩ := hrel
      have hw' := hw.symm
      subst hw'
      clear hw
      have hzz := unhide hz
      by_cases hlt : k < n
      · have hk' : k < l.length := by rw [unhide hnn]; exact hlt
        have hlt' : (k : Int) < (n : Int) := by omega
        obtain ⟨g, o, rfl, hg, d1⟩ := hc k _ (sv_get l k hk')
        have hsb := hb l[k] (List.getElem_mem hk')
        have HS := hide (sumS_take l k hk')
        obtain ⟨x, hx⟩ : ∃ x, x = l[k] := ⟨_, rfl⟩
        rw [← hx] at d1 hsb HS
        obtain ⟨z2, hz2⟩ : ∃ y : Int, y = z - (x.size : Int) := ⟨_, rfl⟩
        have w1 : IntKind.i64.wrap (z - (x.size : Int)) = z2 := by rw [IntKind.wrap_i64]; omega
        by_cases hneg : z2 < 0
        · replace hz2 := hide hz2; replace hx := hide hx
          clear hc hzz hsb hm
          go_wp2
          go_ret
          exact ⟨⟨-1, rfl, .inl (by decide)⟩, rfl⟩
        · have HZ := hide (show 0 ≤ z2 ∧ z2 + (sumS (l.take (k + 1)) : Int) + (n : Int) = 1048576 by have h1 := unhide HS; omega)
          replace hz2 := hide hz2; replace hx := hide hx
          clear hc hzz hsb hm hz HS
          go_wp2
          go_roundw
          case rel => exact ⟨k + 1, z2, by omega, by go_num, by first | rfl | trivial, HZ, by first | rfl | trivial⟩
          case measure => simp [intOf]; omega
      · have hke : k = n := by omega
        have HF := hide (show 0 ≤ z ∧ n + sumS l ≤ 1048576 by have h1 := unhide HE; rw [hke] at hzz; rw [h1] at hzz; omega)
        replace hke := hide hke
        clear hc hzz hm
        go_wp2
        go_ret
        exact ⟨⟨z, rfl, .inr ⟨(unhide HF).1, (unhide HF).2⟩⟩, rfl⟩
set_option maxRecDepth 20000 in
set_option maxHeartbeats 1000000 in
theorem toStrS_any (l : List ByteArray) (v : Value) (w : World) (hr : RdV w v (l.map sv)) (hn : l.length ≤ 1048576) :
    Calls Try.prog 11 #[v] w fun e w' => (∃ a c, e = .returned (.slice a l.length c) ∧ OwnV w' w.heap.size 9 (.slice a l.length c) (l.map sv)) ∧ Below w.heap.size w w' := by
  obtain ⟨i0, hi, hz0, hz1, hz2⟩ := info_parts infoTxt
  obtain ⟨a, c, rfl, hc⟩ := hr.open
  clear hr
  rw [List.length_map]
  obtain ⟨n, hnn⟩ : ∃ n, l.length = n := ⟨_, rfl⟩
  rw [hnn] at hn ⊢
  have hxl := hide (show (l.map sv).length = n by rw [List.length_map]; exact hnn)
  replace hnn := hide hnn
  go_enter Try.func11, Try.ntmps11
  go_wp2_with (at_make; refine wpList_make_full _ rfl _ _ 22 rfl w.heap.size 9 i0 (.string ⟨#[]⟩) 1 Try.underlying22 hi hz0 hz1 _ _ _ _ n rfl rfl rfl rfl (by rw [hz2]; omega) (by unfold maxLen; omega) (Nat.le_refl _) ?_; intro w1 hown1 hgrow1)
  have hr0 : OwnV w1 w.heap.size 9 (.slice (some ⟨w.heap.size, 0, none⟩) n n) ((l.map sv).take 0 ++ List.replicate (n - 0) (.string ⟨#[]⟩)) := by
    rw [madeT] at hown1
    unfold OwnV
    simpa using hown1
  have hb0 : Below w.heap.size w w1 := (Below.refl w.heap.size w).grown hgrow1 (Nat.le_refl _) (fun k hk => by cases hk)
  clear hown1 hgrow1
  go_loopw [4] (fun ti wr => ∃ k : Nat, k ≤ n ∧ ti = .int .i64 k ∧ OwnV wr w.heap.size 9 (.slice (some ⟨w.heap.size, 0, none⟩) n n) ((l.map sv).take k ++ List.replicate (n - k) (.string ⟨#[]⟩)) ∧ Below w.heap.size w wr) (fun ti _ => n - (intOf ti).toNat)
  case atStart => exact ⟨0, Nat.zero_le _, rfl, hr0, hb0⟩
  case round =>
    obtain ⟨k, hk, rfl, ho, hb⟩ := hrel
    by_cases hlt : k < n
    · have hk' : k < l.length := by rw [unhide hnn]; exact hlt
      have hf := sv_get l k hk'
      obtain ⟨g, o, rfl, hg, d1⟩ := hc k _ hf
      have d2 := (hb.cell (p := ⟨g, o + k, none⟩) hg).trans d1
      have hss := hb.size
      have HF := hide (fillV (z := .string ⟨#[]⟩) hf (unhide hxl))
      have hin : ∃ u, ((l.map sv).take k ++ List.replicate (n - k) (.string ⟨#[]⟩))[k]? = some u := ⟨_, List.getElem?_eq_getElem (by have := ho.len; omega)⟩
      obtain ⟨u, hu⟩ := hin
      have cu := ho.cell hu
      have cz := ho.frozen k
      have ho2 := ho.set k (.string l[k])
      rw [unhide HF] at ho2
      generalize l[k] = told at *
      clear hc d1 hr0 hb0 hf hu
      go_wp2
      go_roundw
      case rel => exact ⟨k + 1, by omega, by go_num, ho2, hb.setCell (p := ⟨w.heap.size, k, none⟩) (Nat.le_refl _) _⟩
      case measure => simp [intOf]; omega
    · have e1 : k = n := by omega
      have e2 : (l.map sv).take k ++ List.replicate (n - k) (.string ⟨#[]⟩) = l.map sv := by
        rw [e1, Nat.sub_self, List.take_of_length_le (by rw [unhide hxl]; exact Nat.le_refl _)]
        simp
      rw [e2] at ho
      go_wp2
      go_ret
      exact ⟨⟨_, _, rfl, ho⟩, hb⟩
set_option maxRecDepth 20000 in
set_option maxHeartbeats 1000000 in
theorem eqStrS_any (l : List ByteArray) (v1 v2 : Value) (w : World) (hr1 : RdV w v1 (l.map sv)) (hr2 : RdV w v2 (l.map sv)) (hln : l.length ≤ 2000000) :
    Calls Try.prog 13 #[v1, v2] w fun e w' => e = .returned (.bool true) ∧ Below w.heap.size w w' := by
  obtain ⟨a1, c1, rfl, hc1⟩ := hr1.open
  obtain ⟨a2, c2, rfl, hc2⟩ := hr2.open
  clear hr1 hr2
  rw [List.length_map]
  obtain ⟨n, hnn⟩ : ∃ n, l.length = n := ⟨_, rfl⟩
  rw [hnn] at hln ⊢
  replace hnn := hide hnn
  go_enter Try.func13, Try.ntmps13
  go_wp2
  go_loopw [5] (fun ti wr => ∃ k q : Nat, k ≤ n ∧ ti = .int .i64 k ∧ wr = w.drewN q) (fun ti _ => n - (intOf ti).toNat)
  case atStart => exact ⟨0, 0, Nat.zero_le _, rfl, rfl⟩
  case round =>
    obtain ⟨k, q, hk, rfl, rfl⟩ := hrel
    by_cases hlt : k < n
    · have hk' : k < l.length := by rw [unhide hnn]; exact hlt
      have hf := sv_get l k hk'
      obtain ⟨g1, o1, rfl, hg1, d1⟩ := hc1 k _ hf
      obtain ⟨g2, o2, rfl, hg2, d2⟩ := hc2 k _ hf
      have hi0 : (0 : Int) ≤ (k : Int) := by omega
      have hi1 : (k : Int) < (n : Int) := by omega
      generalize l[k] = told at *
      clear hc1 hc2 hf
      go_wp2
      go_quiet (fail)
      go_wp2
      go_roundw
      case rel => exact ⟨k + 1, _, by omega, by go_num, by first | rfl | rw [World.drewN_drewN]⟩
      case measure => simp [intOf]; omega
    · go_wp2
      go_ret
      exact ⟨rfl, bDN (Below.refl _ w) _⟩
/-- The marks from k on, n of them, as cells. -/
def mkT (k n : Nat) : List Value := (List.range n).map fun i => .string (mkS (k + i))
theorem mkT_len (k n : Nat) : (mkT k n).length = n := by unfold mkT; simp
theorem mkT_succ (k n : Nat) : mkT k (n + 1) = mkT k n ++ [.string (mkS (k + n))] := by unfold mkT; rw [List.range_succ, List.map_append]; rfl
theorem mkT_at (k n i : Nat) (h : i < n) : (mkT k n)[i]? = some (.string (mkS (k + i))) := by
  unfold mkT
  rw [List.getElem?_map, List.getElem?_range h]
  rfl
theorem mkT_set (k i : Nat) (xs : List Value) (h : i < xs.length) : (mkT k i ++ xs.drop i).set i (.string (mkS (k + i))) = mkT k (i + 1) ++ xs.drop (i + 1) := by
  rw [List.drop_eq_getElem_cons h, List.set_append_right _ _ (by rw [mkT_len]; exact Nat.le_refl _), mkT_len, Nat.sub_self, List.set_cons_zero, mkT_succ]
  simp
theorem tR (w : World) (r : Option Nat) : w.grownBy w r := ⟨rfl, rfl, rfl, Nat.le_refl _, fun _ _ _ => rfl⟩
theorem tB {w w' : World} (hb : Below w.heap.size w w') (r : Option Nat) : w.grownBy w' r := ⟨hb.os, hb.tape, hb.output, hb.size, fun k hk _ => hb.block k hk⟩
theorem tS (w : World) (g o : Nat) (u : Value) : w.grownBy (w.setCell ⟨g, o, none⟩ u) (some g) := ⟨rfl, rfl, rfl, by simp, fun k _ hk => RowKit.Below.heap_setCell _ _ _ _ (fun e => hk (by rw [e]))⟩
theorem tT {a b c : World} {r : Option Nat} (h : a.grownBy b r) (k : b.grownBy c r) : a.grownBy c r :=
  ⟨k.os.trans h.os, k.tape.trans h.tape, k.output.trans h.output, Nat.le_trans h.size k.size, fun i hi hr => (k.block i (Nat.lt_of_lt_of_le hi h.size) hr).trans (h.block i hi hr)⟩
set_option maxRecDepth 20000 in
set_option maxHeartbeats 1000000 in
theorem markStrS_own (v : Value) (base k M : Nat) (xs : List Value) (w : World) (hM : M = k + xs.length) (hl : xs.length ≤ 2000000) (hk1 : 1 ≤ k) (hk : k ≤ 20000000) (ho : OwnV w base 9 v xs) :
    Calls Try.prog 16 #[v, .int .i64 k] w fun e w' => e = .returned (.int .i64 (M : Int)) ∧ OwnV w' base 9 v (mkT k xs.length) ∧ w.grownBy w' v.ownBlock := by
  obtain ⟨a, c, rfl⟩ := ho.shape
  obtain ⟨n, hnn⟩ : ∃ n, xs.length = n := ⟨_, rfl⟩
  rw [hnn] at hl ho hM ⊢
  replace hnn := hide hnn
  replace hM := hide hM
  go_enter Try.func16, Try.ntmps16
  go_wp2
  go_loopw [1, 5] (fun tk ti wr => ∃ (i q : Nat), i ≤ n ∧ ti = .int .i64 i ∧ tk = .int .i64 q ∧ Hid (q = k + i) ∧ OwnV wr base 9 (.slice a n c) (mkT k i ++ xs.drop i) ∧ w.grownBy wr (Value.slice a n c).ownBlock) (fun _ ti _ => n - (intOf ti).toNat)
  case atStart => exact ⟨0, k, Nat.zero_le _, rfl, rfl, rfl, by simpa [mkT] using ho, tR _ _⟩
  case round =>
    obtain ⟨i, q, hi, rfl, rfl, hq, hown, hb⟩ := hrel
    clear ho
    have hq2 : q ≤ 900000000 := by have := unhide hq; omega
    have hq1 : 1 ≤ q := by have := unhide hq; omega
    by_cases hlt : i < n
    · have hyl := hown.len
      have HS := hide (mkT_set k i xs (by rw [unhide hnn]; exact hlt))
      obtain ⟨g, cg, hgv⟩ : ∃ g cg, Value.slice a n c = .slice (some ⟨g, 0, none⟩) n cg := by
        rcases hown.2 with ⟨_, h2⟩ | ⟨g, cap, cur, h1, _⟩
        · omega
        · exact ⟨g, cap, by rw [h1, hyl]⟩
      simp only [Value.slice.injEq, true_and] at hgv
      obtain ⟨rfl, rfl⟩ := hgv
      have hlt' : (i : Int) < (n : Int) := by omega
      have hin : ∃ u, (mkT k i ++ xs.drop i)[i]? = some u := ⟨_, List.getElem?_eq_getElem (by omega)⟩
      obtain ⟨u, hu⟩ := hin
      have hk3 : ((q : Int) + 1) = ((k + (i + 1) : Nat) : Int) := by have := unhide hq; omega
      rw [show k + i = q from (unhide hq).symm] at HS
      replace hk3 := hide hk3; replace hu := hide hu; replace hown := hide hown
      go_wp2_with (go_at_call 34; refine (markText_any q _ hq1 (by omega)).mono ?_; rintro e w2 ⟨rfl, hb2⟩; have hown2 := (unhide hown).below hb2; have hc2 := hown2.cell (unhide hu); have hf2 := hown2.frozen i)
      have ho3 := hown2.set i (.string (mkS q))
      rw [unhide HS] at ho3
      have hg3 := tT hb (tT (tB hb2 _) (tS w2 g i (.string (mkS q))))
      go_roundw
      case rel => exact ⟨i + 1, k + (i + 1), by omega, by go_num, by rw [← unhide hk3], rfl, ho3, hg3⟩
      case measure => simp [intOf]; omega
    · have he : i = n := by omega
      have hfin : (M : Int) = (q : Int) := by have h1 := unhide hq; have h2 := unhide hM; omega
      have ho3 : OwnV wr base 9 (.slice a n c) (mkT k n) := by
        have h := hown
        rw [he, List.drop_eq_nil_of_le (by rw [unhide hnn]; exact Nat.le_refl _), List.append_nil] at h
        exact h
      replace hfin := hide hfin
      replace ho3 := hide ho3
      clear hown
      go_wp2
      go_ret
      exact ⟨by rw [unhide hfin]; rfl, unhide ho3, hb⟩
set_option maxRecDepth 20000 in
set_option maxHeartbeats 1000000 in
theorem heldStrS_any (v : Value) (k n M : Nat) (w : World) (hM : M = k + n) (hl : n ≤ 2000000) (hk1 : 1 ≤ k) (hk : k ≤ 20000000) (hr : RdV w v (mkT k n)) :
    Calls Try.prog 17 #[v, .int .i64 k] w fun e w' => e = .returned (.int .i64 (M : Int)) ∧ Below w.heap.size w w' := by
  obtain ⟨a, c, rfl, hc⟩ := hr.open
  clear hr
  rw [mkT_len]
  replace hM := hide hM
  go_enter Try.func17, Try.ntmps17
  go_wp2
  go_loopw [1, 5] (fun tk ti wr => ∃ (i q : Nat), i ≤ n ∧ ti = .int .i64 i ∧ tk = .int .i64 q ∧ Hid (q = k + i) ∧ Below w.heap.size w wr) (fun _ ti _ => n - (intOf ti).toNat)
  case atStart => exact ⟨0, k, Nat.zero_le _, rfl, rfl, rfl, Below.refl _ _⟩
  case round =>
    obtain ⟨i, q, hi, rfl, rfl, hq, hb⟩ := hrel
    have hsz := hb.size
    have hq2 : q ≤ 900000000 := by have := unhide hq; omega
    have hq1 : 1 ≤ q := by have := unhide hq; omega
    by_cases hlt : i < n
    · have hlt' : (i : Int) < (n : Int) := by omega
      have hi0 : (0 : Int) ≤ (i : Int) := by omega
      obtain ⟨g, o, rfl, hg, d1⟩ := hc i _ (mkT_at k n i hlt)
      rw [show k + i = q from (unhide hq).symm] at d1
      have hcell := (hb.cell (p := ⟨g, o + i, none⟩) hg).trans d1
      have hgr : g < wr.heap.size := by omega
      have hk3 : ((q : Int) + 1) = ((k + (i + 1) : Nat) : Int) := by have := unhide hq; omega
      replace hk3 := hide hk3
      clear hc d1
      go_wp2
      go_region_held3 (fun W => W.cell? ⟨g, o + i, none⟩ = some (.string (mkS q))) (first | exact hcell | exact (hb1.cell (p := ⟨g, o + i, none⟩) hgr).trans hcell) (first | (go_at_call 34; refine (markText_any q _ hq1 (by omega)).mono ?_; rintro e w1 ⟨rfl, hb1⟩))
      all_goals
        clear hcell
        go_wp2
        go_roundw
        case rel => exact ⟨i + 1, k + (i + 1), by omega, by go_num, by rw [← unhide hk3], rfl, (hb.drew).trans (hb1.mono hsz)⟩
        case measure => simp [intOf]; omega
    · have he : i = n := by omega
      have hfin : (M : Int) = (q : Int) := by have h1 := unhide hq; have h2 := unhide hM; omega
      replace hfin := hide hfin
      clear hc
      go_wp2
      go_ret
      exact ⟨by rw [unhide hfin]; rfl, hb⟩
end Go.Proofs.Ytljjajbkaffofau

/- Laws of no program: an append of one value to a row of the call's own, and which blocks stay; rows of unlike kinds lie in unlike blocks. -/
namespace Go.Proofs.Ytljjajbkaffofau
open Go.RowKit
theorem wpList_append_grow {P : Program} {w : World} {ops : Array Oper} {rest : List Oper} {o : Oper} {a : Act} {Q : Exit → Act → World → Prop} (hgd : o.guard = none) (s x : Operand) (t : TypeId)
    (ho : o.op = .call { callee := .builtin .append, args := #[s, x], argTypes := #[t, t] })
    (base : Nat) (e : TypeId) (i : TypeInfo) (z : Value) (nb : Nat) (ht : P.underlying t = some (.slice e)) (hi : P.info? e = some i) (hz : i.zero = some z) (hsize : i.size = 1) (hby : i.bytes = nb) (hzs : z.cells.size = 1)
    (v : Value) (xs : List Value) (hs : a.eval s = v) (hown : OwnV w base e v xs) (u : Value) (h1 : u.oneCell' = true) (hx : a.eval x = .slice (some ⟨w.heap.size, 0, none⟩) 1 1)
    (h63 : xs.length + 1 ≤ maxLen) (hbytes : (xs.length + 1) * nb ≤ 140737488355328) (hbase : base ≤ w.heap.size)
    (h : ∀ v' w', OwnV w' base e v' (xs ++ [u]) → (w.alloc (.cells #[u] e)).grownBy w' v.ownBlock → wpList P ops Q rest (a.put o.dst v') w') :
    wpList P ops Q (o :: rest) a (w.alloc (.cells #[u] e)) :=
  wpList_plain hgd fun _ hK => by
    refine wp_append_own (w.alloc (.cells #[u] e)) s x t ho base e i z 1 nb ht hi hz hsize hby hzs (by decide) v xs.length xs hs (hown.alloc _) ⟨w.heap.size, 0, none⟩ 1 1 [u] hx rfl (fun j y hy => ?_) (by intro y hy; simp only [List.mem_singleton] at hy; subst hy; exact h1) h63 hbytes (by simp; omega) ?_
    · have hadd : (⟨w.heap.size, 0, none⟩ : Addr).add j = ⟨w.heap.size, j, none⟩ := by unfold Addr.add; split <;> simp_all
      rw [hadd, cell_of_row _ w.heap.size j _ e (0, 0) (heap_alloc_new w _)]
      simpa using hy
    · intro v' w' h2 h3 _
      exact hK _ _ (h v' w' (by unfold OwnV; simpa using h2) h3)
theorem OwnV.apart {w : World} {b1 b2 : Nat} {e1 e2 : TypeId} {v1 v2 : Value} {x1 x2 : List Value} (h1 : OwnV w b1 e1 v1 x1) (h2 : OwnV w b2 e2 v2 x2) (he : e1 ≠ e2) (k : Nat) (hk : v1.ownBlock = some k) : v2.ownBlock ≠ some k := by
  intro hv
  rcases h1.2 with ⟨a1, _⟩ | ⟨g, cap, cur, a1, _, a3, _⟩
  · rw [a1] at hk; cases hk
  · rcases h2.2 with ⟨c1, _⟩ | ⟨g', cap', cur', c1, _, c3, _⟩
    · rw [c1] at hv; cases hv
    · rw [a1] at hk
      rw [c1] at hv
      have hk' : (some g : Option Nat) = some k := hk
      have hv' : (some g' : Option Nat) = some k := hv
      have e1' := Option.some.inj hk'
      have e2' := Option.some.inj hv'
      subst e1' e2'
      rw [a3] at c3
      have h4 := Option.some.inj c3
      injection h4 with h5 h6
      exact he h6
end Go.Proofs.Ytljjajbkaffofau

/- Laws of no program: a row of rows of numbers that the call itself owns, or that is only read. -/
namespace Go.Proofs.Ytljjajbkaffofau
open Go.RowKit
/-- A row of the call's own whose values are rows of numbers of the call's own. -/
def OwnR (w : World) (base : Nat) (T I : TypeId) (v : Value) (L : List (List Int)) : Prop :=
  ∃ vs : List Value, OwnV w base T v vs ∧ vs.length = L.length ∧ ∀ (i : Nat) (u : Value) (l : List Int), vs[i]? = some u → L[i]? = some l → OwnV w base I u (l.map iv)
/-- A row that is read, whose values are rows of numbers. -/
def RdR (w : World) (v : Value) (L : List (List Int)) : Prop :=
  ∃ vs : List Value, RdV w v vs ∧ vs.length = L.length ∧ ∀ (i : Nat) (u : Value) (l : List Int), vs[i]? = some u → L[i]? = some l → RdV w u (l.map iv)
theorem OwnR.below {w w' : World} {base : Nat} {T I : TypeId} {v : Value} {L : List (List Int)} (h : OwnR w base T I v L) (hb : Below w.heap.size w w') : OwnR w' base T I v L := by
  obtain ⟨vs, h1, h2, h3⟩ := h
  exact ⟨vs, h1.below hb, h2, fun i u l hu hl => (h3 i u l hu hl).below hb⟩
theorem OwnR.low {w : World} {base base' : Nat} {T I : TypeId} {v : Value} {L : List (List Int)} (h : OwnR w base T I v L) (hb : base' ≤ base) : OwnR w base' T I v L := by
  obtain ⟨vs, h1, h2, h3⟩ := h
  exact ⟨vs, h1.low hb, h2, fun i u l hu hl => (h3 i u l hu hl).low hb⟩
theorem OwnR.rd {w : World} {base : Nat} {T I : TypeId} {v : Value} {L : List (List Int)} (h : OwnR w base T I v L) : RdR w v L := by
  obtain ⟨vs, h1, h2, h3⟩ := h
  exact ⟨vs, h1.rdv, h2, fun i u l hu hl => (h3 i u l hu hl).rdv⟩
theorem RdR.below {w w' : World} {v : Value} {L : List (List Int)} (h : RdR w v L) (hb : Below w.heap.size w w') : RdR w' v L := by
  obtain ⟨vs, h1, h2, h3⟩ := h
  exact ⟨vs, h1.below hb, h2, fun i u l hu hl => (h3 i u l hu hl).below hb⟩
theorem OwnR.made (w : World) (T I : TypeId) : OwnR (w.alloc (.cells #[] T)) w.heap.size T I (.slice (some ⟨w.heap.size, 0, none⟩) 0 0) [] :=
  ⟨[], World.ownsRow_made w #[] 0 (Nat.le_refl _) (by decide) (by simp), rfl, fun i u l hu _ => by simp at hu⟩
theorem OwnR.shape {w : World} {base : Nat} {T I : TypeId} {v : Value} {L : List (List Int)} (h : OwnR w base T I v L) : ∃ a c, v = .slice a L.length c := by
  obtain ⟨vs, h1, h2, _⟩ := h
  rw [← h2]
  exact h1.shape
theorem RdR.shape {w : World} {v : Value} {L : List (List Int)} (h : RdR w v L) : ∃ a c, v = .slice a L.length c := by
  obtain ⟨vs, h1, h2, _⟩ := h
  rw [← h2]
  exact h1.shape
theorem RdR.open {w : World} {v : Value} {L : List (List Int)} (h : RdR w v L) : ∃ a c, v = .slice a L.length c ∧ ∀ (j : Nat) (l : List Int), L[j]? = some l → ∃ g o u, a = some ⟨g, o, none⟩ ∧ g < w.heap.size ∧ w.cell? ⟨g, o + j, none⟩ = some u ∧ RdV w u (l.map iv) := by
  obtain ⟨vs, h1, h2, h3⟩ := h
  obtain ⟨a, c, rfl, hc⟩ := h1.open
  refine ⟨a, c, by rw [h2], fun j l hl => ?_⟩
  have hj : j < vs.length := by rw [h2]; exact (List.getElem?_eq_some_iff.mp hl).1
  obtain ⟨g, o, e1, e2, e3⟩ := hc j _ (List.getElem?_eq_getElem hj)
  exact ⟨g, o, _, e1, e2, e3, h3 j _ l (List.getElem?_eq_getElem hj) hl⟩
/-- A row appended to a row of rows. -/
theorem wpList_append_row {P : Program} {w : World} {ops : Array Oper} {rest : List Oper} {o : Oper} {a : Act} {Q : Exit → Act → World → Prop} (hgd : o.guard = none) (s x : Operand) (t : TypeId)
    (ho : o.op = .call { callee := .builtin .append, args := #[s, x], argTypes := #[t, t] })
    (base : Nat) (T I : TypeId) (hTI : I ≠ T) (i : TypeInfo) (z : Value) (nb : Nat) (ht : P.underlying t = some (.slice T)) (hi : P.info? T = some i) (hz : i.zero = some z) (hsize : i.size = 1) (hby : i.bytes = nb) (hzs : z.cells.size = 1)
    (v : Value) (L : List (List Int)) (hs : a.eval s = v) (hown : OwnR w base T I v L) (u : Value) (l : List Int) (hu : OwnV w base I u (l.map iv)) (hx : a.eval x = .slice (some ⟨w.heap.size, 0, none⟩) 1 1)
    (hlen : L.length ≤ 1000) (hnb : nb ≤ 1000) {w0 : World} {B : Nat} (hB : Below B w0 w) (hBb : B ≤ base) (hbase : base ≤ w.heap.size)
    (h : ∀ v' w', OwnR w' base T I v' (L ++ [l]) → OwnV w' base I u (l.map iv) → Below B w0 w' → wpList P ops Q rest (a.put o.dst v') w') :
    wpList P ops Q (o :: rest) a (w.alloc (.cells #[u] T)) := by
  obtain ⟨vs, h1, h2, h3⟩ := hown
  have h1u : u.oneCell' = true := by
    obtain ⟨a1, c1, rfl⟩ := hu.shape
    rfl
  refine wpList_append_grow hgd s x t ho base T i z nb ht hi hz hsize hby hzs v vs hs h1 u h1u hx (by rw [h2]; unfold maxLen; omega) (by rw [h2]; exact Nat.le_trans (Nat.mul_le_mul (show L.length + 1 ≤ 1001 by omega) hnb) (by decide)) hbase ?_
  intro v' w' ho' hg'
  have hne : ∀ y ys, OwnV w base I y ys → ∀ n, y.ownBlock = some n → v.ownBlock ≠ some n := fun y ys hy n hn => hy.apart h1 hTI n hn
  refine h v' w' ⟨vs ++ [u], ho', by rw [List.length_append, List.length_append, h2]; rfl, fun j y m hy hm => ?_⟩ ((hu.alloc _).grown hg' (hne _ _ hu)) ?_
  · by_cases hj : j < vs.length
    · rw [List.getElem?_append_left hj] at hy
      rw [List.getElem?_append_left (by omega)] at hm
      exact ((h3 j y m hy hm).alloc _).grown hg' (hne y _ (h3 j y m hy hm))
    · have hje : j = vs.length := by
        have := (List.getElem?_eq_some_iff.mp hy).1
        rw [List.length_append] at this
        simp at this
        omega
      subst hje
      rw [List.getElem?_append_right (Nat.le_refl _), Nat.sub_self] at hy
      rw [List.getElem?_append_right (by omega), show vs.length - L.length = 0 by omega] at hm
      have e1 : u = y := by simpa using hy
      have e2 : l = m := by simpa using hm
      subst e1 e2
      exact (hu.alloc _).grown hg' (hne _ _ hu)
  · exact (hB.alloc (Nat.le_trans hBb hbase) (.cells #[u] T)).grown hg' (by simp; omega) (fun n hn => Nat.le_trans hBb (h1.lt n hn).1)
/-- A value appended to a row of the call's own. -/
theorem wpList_append_val {P : Program} {w : World} {ops : Array Oper} {rest : List Oper} {o : Oper} {a : Act} {Q : Exit → Act → World → Prop} (hgd : o.guard = none) (s x : Operand) (t : TypeId)
    (ho : o.op = .call { callee := .builtin .append, args := #[s, x], argTypes := #[t, t] })
    (base : Nat) (T : TypeId) (i : TypeInfo) (z : Value) (nb : Nat) (ht : P.underlying t = some (.slice T)) (hi : P.info? T = some i) (hz : i.zero = some z) (hsize : i.size = 1) (hby : i.bytes = nb) (hzs : z.cells.size = 1)
    (v : Value) (xs : List Value) (hs : a.eval s = v) (hown : OwnV w base T v xs) (u : Value) (h1 : u.oneCell' = true) (hx : a.eval x = .slice (some ⟨w.heap.size, 0, none⟩) 1 1)
    (hlen : xs.length ≤ 1000) (hnb : nb ≤ 1000) {w0 : World} {B : Nat} (hB : Below B w0 w) (hBb : B ≤ base) (hbase : base ≤ w.heap.size)
    (h : ∀ v' w', OwnV w' base T v' (xs ++ [u]) → Below B w0 w' → wpList P ops Q rest (a.put o.dst v') w') :
    wpList P ops Q (o :: rest) a (w.alloc (.cells #[u] T)) := by
  refine wpList_append_grow hgd s x t ho base T i z nb ht hi hz hsize hby hzs v xs hs hown u h1 hx (by unfold maxLen; omega) (Nat.le_trans (Nat.mul_le_mul (show xs.length + 1 ≤ 1001 by omega) hnb) (by decide)) hbase ?_
  intro v' w' ho' hg'
  exact h v' w' ho' ((hB.alloc (Nat.le_trans hBb hbase) (.cells #[u] T)).grown hg' (by simp; omega) (fun n hn => Nat.le_trans hBb (hown.lt n hn).1))
/-- A piece of a row of rows is read. -/
theorem OwnR.cut {w : World} {base g n c : Nat} {T I : TypeId} {L : List (List Int)} (h : OwnR w base T I (.slice (some ⟨g, 0, none⟩) n c) L) (k m c' : Nat) (L' : List (List Int)) (hm : L'.length = m) (h0 : 0 < m) (hL : ∀ (j : Nat) (l : List Int), L'[j]? = some l → L[k + j]? = some l) : RdR w (.slice (some ⟨g, k, none⟩) m c') L' := by
  obtain ⟨vs, h1, h2, h3⟩ := h
  have hkm : k + m ≤ vs.length := by
    have hx : m - 1 < L'.length := by omega
    have := (List.getElem?_eq_some_iff.mp (hL (m - 1) _ (List.getElem?_eq_getElem hx))).1
    omega
  have hg : ∀ (j : Nat) (x : Value), ((vs.drop k).take m)[j]? = some x → vs[k + j]? = some x := fun j x hx => by
    rw [List.getElem?_take] at hx
    split at hx
    · rw [List.getElem?_drop] at hx; exact hx
    · cases hx
  have hl : ((vs.drop k).take m).length = m := by rw [List.length_take, List.length_drop]; omega
  exact ⟨(vs.drop k).take m, .inr ⟨g, k, c', by rw [hl], by omega, (h1.lt g rfl).2, fun j x hx => h1.cell (hg j x hx)⟩, by rw [hl, hm], fun i u l hu hl' => (h3 (k + i) u l (hg i u hu) (hL i l hl')).rdv⟩
theorem OwnR.some {w : World} {base n c : Nat} {a : Option Addr} {T I : TypeId} {L : List (List Int)} (h : OwnR w base T I (.slice a n c) L) (hn : 0 < n) : ∃ g, a = some ⟨g, 0, none⟩ ∧ base ≤ g ∧ g < w.heap.size ∧ L.length ≤ c := by
  obtain ⟨vs, h1, h2, _⟩ := h
  rcases h1.2 with ⟨e, _⟩ | ⟨g, cap, cur, e, hb, hgr, hc, _⟩
  · simp only [Value.slice.injEq] at e; omega
  · simp only [Value.slice.injEq] at e
    obtain ⟨rfl, rfl, rfl⟩ := e
    exact ⟨g, rfl, hb, (Array.getElem?_eq_some_iff.1 hgr).1, by omega⟩
def preR (f : Nat → List Int) (k : Nat) : List (List Int) := (List.range k).map f
theorem preR_len (f : Nat → List Int) (k : Nat) : (preR f k).length = k := by unfold preR; rw [List.length_map, List.length_range]
theorem preR_succ (f : Nat → List Int) (k : Nat) : preR f (k + 1) = preR f k ++ [f k] := by unfold preR; rw [List.range_succ, List.map_append]; rfl
theorem preR_get (f : Nat → List Int) (k i : Nat) (h : i < k) : (preR f k)[i]? = some (f i) := by
  unfold preR
  rw [List.getElem?_map, List.getElem?_range h]
  rfl
end Go.Proofs.Ytljjajbkaffofau

/- Chains by the given model: keys for once, their public half, signatures, what is found, over the loaded program. -/
namespace Go.Proofs.Ytljjajbkaffofau
open Go.RowKit
def preS (f : Nat → ByteArray) (k : Nat) : List ByteArray := (List.range k).map f
theorem preS_len (f : Nat → ByteArray) (k : Nat) : (preS f k).length = k := by unfold preS; rw [List.length_map, List.length_range]
theorem preS_succ (f : Nat → ByteArray) (k : Nat) : preS f (k + 1) = preS f k ++ [f k] := by unfold preS; rw [List.range_succ, List.map_append]; rfl
theorem bAt_get (l : List ByteArray) (k : Nat) (h : k < l.length) : (l.map sv)[k]? = some (.string (bAt l k)) := by
  rw [sv_get l k h]
  unfold bAt
  rw [List.getD_eq_getElem?_getD, List.getElem?_eq_getElem h]
  rfl
theorem bAt_size (l : List ByteArray) (k n : Nat) (h : k < l.length) (hn : ∀ x ∈ l, x.size ≤ n) : (bAt l k).size ≤ n := by
  unfold bAt
  rw [List.getD_eq_getElem?_getD, List.getElem?_eq_getElem h]
  exact hn _ (List.getElem_mem h)
set_option maxRecDepth 20000 in
set_option maxHeartbeats 800000 in
theorem specOncePublic_any (l : List ByteArray) (leaf : Int) (v : Value) (w : World) (hr : RdV w v (l.map sv)) (hl : ∀ x ∈ l, x.size ≤ 1048576) :
    Calls Try.prog 10 #[v, .int .i64 leaf] w fun e w' => e = .returned (.string (onceP l leaf)) ∧ Below w.heap.size w w' := by
  obtain ⟨a, c, rfl, hc⟩ := hr.open
  rw [List.length_map]
  clear hr
  by_cases h10 : l.length = 10
  · have EP := hide (show onceP l leaf = chopB (catC (fun i => chnB (bAt l i) leaf (i : Int) 0 15) 10) by unfold onceP; rw [if_pos h10])
    rw [unhide EP]
    have CH := hide (fun (i : Nat) (hi : i < 10) W => specChain_any (bAt l i) leaf (i : Int) 0 15 (bAt_size l i _ (by omega) hl) W)
    rw [show stepsN 15 = 15 from rfl] at CH
    have h4 := hide (show ∀ i : Nat, (chnB (bAt l i) leaf (i : Int) 0 15).size ≤ 4 from fun i => Nat.le_of_eq (chopB_size _))
    obtain ⟨f, hf⟩ : ∃ f : Nat → ByteArray, f = fun i => chnB (bAt l i) leaf (i : Int) 0 15 := ⟨_, rfl⟩
    have CH2 := hide (show ∀ (i : Nat), i < 10 → ∀ W, Calls Try.prog 26 #[.string (bAt l i), .int .i64 leaf, .int .i64 (i : Int), .int .i64 0, .int .i64 15] W fun e w' => e = .returned (.string (f i)) ∧ Below W.heap.size W w' from fun i hi W => by rw [hf]; exact unhide CH i hi W)
    have h4' := hide (show ∀ i, (f i).size ≤ 4 from fun i => by rw [hf]; exact unhide h4 i)
    rw [← hf] at EP ⊢
    have hcl := hide (fun k => catC_le f 4 k (unhide h4'))
    have CC := hide (fun W => specChop_any (catC f 10) (by have := unhide hcl 10; omega) W)
    have Hs := hide (show ∀ k, catC f (k + 1) = catC f k ++ f k from fun k => rfl)
    have H0 := hide (show catC f 0 = ⟨#[]⟩ from rfl)
    generalize chopB (catC f 10) = R at *
    generalize catC f = cat at *
    rw [h10]
    replace h10 := hide h10; replace hf := hide hf
    clear CH h4 EP
    go_enter Try.func10, Try.ntmps10
    go_wp2
    go_loopw [5, 6] (fun tx ti wr => ∃ k : Nat, k ≤ 10 ∧ ti = .int .i64 (k : Int) ∧ tx = .string (cat k) ∧ Below w.heap.size w wr) (fun _ ti _ => 10 - (intOf ti).toNat)
    case atStart => exact ⟨0, by omega, rfl, by rw [unhide H0], Below.refl _ _⟩
    case round =>
      obtain ⟨k, hk, rfl, rfl, hB⟩ := hrel
      by_cases hlt : k < 10
      · have hk' : (k : Int) < 10 := by omega
        have hk0 : (0 : Int) ≤ (k : Int) := by omega
        obtain ⟨g, o, rfl, hg, d1⟩ := hc k _ (bAt_get l k (by rw [unhide h10]; exact hlt))
        have d2 := (hB.cell (p := ⟨g, o + k, none⟩) hg).trans d1
        have c1 := hide (unhide CH2 k hlt)
        have HC := hide (unhide Hs k)
        have z1 := unhide hcl k
        have z1' : (cat k).size ≤ 1000 := by omega
        have z2 := unhide h4' k
        generalize bAt l k = x at *
        generalize f k = y at *
        replace z1 := hide z1
        clear hc d1
        go_wp2_with fail
        refine (unhide c1 wr).mono ?_
        rintro e w1 ⟨rfl, hb1⟩
        have hB1 := hB.trans (hb1.mono hB.size)
        clear hb1 hB c1 d2
        go_wp2
        exact ⟨⟨k + 1, by omega, by go_num, by rw [unhide HC], hB1⟩, by simp [intOf]; omega⟩
      · have hk' : ¬ (k : Int) < 10 := by omega
        obtain rfl : k = 10 := by omega
        clear hc
        go_wp2_with fail
        refine (unhide CC wr).mono ?_
        rintro e w1 ⟨rfl, hb1⟩
        have hB1 := hB.trans (hb1.mono hB.size)
        clear hb1 hB CC
        go_wp2
        go_ret
        exact ⟨rfl, hB1⟩
  · have EP := hide (show onceP l leaf = ⟨#[]⟩ by unfold onceP; rw [if_neg h10])
    rw [unhide EP]
    have h10' : ¬ (l.length : Int) = 10 := by omega
    clear hc
    go_enter Try.func10, Try.ntmps10
    go_wp2
    go_ret
    exact ⟨rfl, Below.refl _ _⟩
end Go.Proofs.Ytljjajbkaffofau

/- Chains by the given model: signatures for once, what is found, over the loaded program. -/
namespace Go.Proofs.Ytljjajbkaffofau
open Go.RowKit
theorem step_append_u {P : Program} {w W : World} {ops : Array Oper} {o : Oper} {a : Act} {K : Act → World → Prop} {Q : Exit → Act → World → Prop} {E : Prop} {e : TypeId} {u : Value} (h1 : u.oneCell' = true) (hW : W = w.alloc (.cells #[u] e)) (hg : o.guard = none) (s y : Operand) (t : TypeId)
    (ho : o.op = .call { callee := .builtin .append, args := #[s, y], argTypes := #[t, t] })
    (base B : Nat) (i : TypeInfo) (z : Value) (nb : Nat) (ht : P.underlying t = some (.slice e)) (hi : P.info? e = some i) (hz : i.zero = some z) (hsize : i.size = 1) (hby : i.bytes = nb) (hzs : z.cells.size = 1)
    (v : Value) (xs : List Value) (hs : a.eval s = v) (hown : OwnV w base e v xs)
    (hx : a.eval y = .slice (some ⟨w.heap.size, 0, none⟩) 1 1)
    (h63 : xs.length + 1 ≤ maxLen) (hbytes : (xs.length + 1) * nb ≤ 140737488355328) (hB : B ≤ base) (hbase : base ≤ w.heap.size) {w00 : World} (hbel : Below B w00 w)
    (h : ∀ v' w', OwnV w' base e v' (xs ++ [u]) → Below B w00 w' → K (a.put o.dst v') w') :
    if Region.wanted o (yielded ops a.tmps) = true then Oper.wp P o a W K Q else E := by
  subst hW
  have hw : Region.wanted o (yielded ops a.tmps) = true := by simp [Region.wanted, hg]
  rw [if_pos hw]
  exact wp_append_vals s y t ho base B e i z nb ht hi hz hsize hby hzs v xs hs (hown.alloc _) w.heap.size #[u] (heap_alloc_new w _) [u] rfl (by intro y hy; simp only [List.mem_singleton] at hy; subst hy; exact h1) 1 1 rfl hx h63 hbytes hB (by simp; omega) (hbel.alloc (by omega) _) h
theorem step_append_gu {P : Program} {w W : World} {ops : Array Oper} {o : Oper} {a : Act} {K : Act → World → Prop} {Q : Exit → Act → World → Prop} {E : Prop} {e : TypeId} {u : Value} (h1 : u.oneCell' = true) (hW : W = w.alloc (.cells #[u] e)) (hg : o.guard = none) (s y : Operand) (t : TypeId)
    (ho : o.op = .call { callee := .builtin .append, args := #[s, y], argTypes := #[t, t] })
    (base : Nat) (i : TypeInfo) (z : Value) (nb : Nat) (ht : P.underlying t = some (.slice e)) (hi : P.info? e = some i) (hz : i.zero = some z) (hsize : i.size = 1) (hby : i.bytes = nb) (hzs : z.cells.size = 1)
    (v : Value) (xs : List Value) (hs : a.eval s = v) (hown : OwnV w base e v xs)
    (hx : a.eval y = .slice (some ⟨w.heap.size, 0, none⟩) 1 1)
    (h63 : xs.length + 1 ≤ maxLen) (hbytes : (xs.length + 1) * nb ≤ 140737488355328) (hbase : base ≤ w.heap.size)
    (h : ∀ v' w', OwnV w' base e v' (xs ++ [u]) → (w.alloc (.cells #[u] e)).grownBy w' v.ownBlock → K (a.put o.dst v') w') :
    if Region.wanted o (yielded ops a.tmps) = true then Oper.wp P o a W K Q else E := by
  subst hW
  have hw : Region.wanted o (yielded ops a.tmps) = true := by simp [Region.wanted, hg]
  rw [if_pos hw]
  refine wp_append_own (w.alloc (.cells #[u] e)) s y t ho base e i z 1 nb ht hi hz hsize hby hzs (by decide) v xs.length xs hs (hown.alloc _) ⟨w.heap.size, 0, none⟩ 1 1 [u] hx rfl (fun j q hq => ?_) (by intro q hq; simp only [List.mem_singleton] at hq; subst hq; exact h1) h63 hbytes (by simp; omega) ?_
  · have hadd : (⟨w.heap.size, 0, none⟩ : Addr).add j = ⟨w.heap.size, j, none⟩ := by unfold Addr.add; split <;> simp_all
    rw [hadd, cell_of_row _ w.heap.size j _ e (0, 0) (heap_alloc_new w _)]
    simpa using hq
  · intro v' w' h2 h3 _
    exact h v' w' (by unfold OwnV; simpa using h2) h3
theorem digL_get (m : ByteArray) (i : Nat) (h : i < 10) : ((digL m).map iv)[i]? = some (.int .i64 (dgAt m i : Int)) := by
  rw [List.getElem?_map, digL_at m i h]
  rfl
theorem steps_dg (m : ByteArray) (i : Nat) : stepsN (dgAt m i : Int) = dgAt m i ∧ stepsN ((15 - dgAt m i : Nat) : Int) = 15 - dgAt m i := by
  have h := dgAt_le m i
  unfold stepsN
  constructor
  · rw [if_pos (by omega), Int.toNat_natCast]
  · rw [if_pos (by omega), Int.toNat_natCast]
set_option maxRecDepth 20000 in
set_option maxHeartbeats 1000000 in
theorem specOnceSign_any (l : List ByteArray) (leaf : Int) (m : ByteArray) (v : Value) (w : World) (hr : RdV w v (l.map sv)) (hl : ∀ x ∈ l, x.size ≤ 1048576) (hm : m.size ≤ 1048576) :
    Calls Try.prog 14 #[v, .int .i64 leaf, .string m] w fun e w' => (∃ v', e = .returned v' ∧ OwnV w' w.heap.size 9 v' ((onceS l leaf m).map sv)) ∧ Below w.heap.size w w' := by
  obtain ⟨i0, hi, hz0, hz1, hz2⟩ := info_parts infoTxt
  obtain ⟨a, c, rfl, hc⟩ := hr.open
  rw [List.length_map]
  clear hr
  by_cases h10 : l.length = 10
  · have ES := hide (show onceS l leaf m = preS (fun i => chnB (bAt l i) leaf (i : Int) 0 (dgAt m i)) 10 by unfold onceS; rw [if_pos h10]; rfl)
    rw [unhide ES]
    have CH := hide (fun (i : Nat) (hi : i < 10) W => specChain_any (bAt l i) leaf (i : Int) 0 (dgAt m i : Int) (bAt_size l i _ (by omega) hl) W)
    obtain ⟨f, hf⟩ : ∃ f : Nat → ByteArray, f = fun i => chnB (bAt l i) leaf (i : Int) 0 (dgAt m i) := ⟨_, rfl⟩
    have CH2 := hide (show ∀ (i : Nat), i < 10 → ∀ W, Calls Try.prog 26 #[.string (bAt l i), .int .i64 leaf, .int .i64 (i : Int), .int .i64 0, .int .i64 (dgAt m i : Int)] W fun e w' => e = .returned (.string (f i)) ∧ Below W.heap.size W w' from fun i hi W => by rw [hf]; have h := unhide CH i hi W; rw [(steps_dg m i).1] at h; exact h)
    rw [← hf]
    have CD := hide (fun W => specDigits_any m (by omega) W)
    have DG := hide (fun k (h : k < 10) => digL_get m k h)
    have dl := digL_len m
    generalize digL m = D at *
    rw [h10]
    replace h10 := hide h10; replace hf := hide hf; replace dl := hide dl
    clear CH ES
    have hb0 := (Below.refl w.heap.size w).alloc (Nat.le_refl _) (.cells #[] 9)
    have ho0 : OwnV (w.alloc (.cells #[] 9)) w.heap.size 9 (.slice (some ⟨w.heap.size, 0, none⟩) 0 0) ((preS f 0).map sv) := World.ownsRow_made w #[] 0 (Nat.le_refl _) (by decide) (by simp)
    replace ho0 := hide ho0
    go_enter Try.func14, Try.ntmps14
    go_wp2_with fail
    generalize w.alloc (.cells #[] 9) = w0 at *
    refine (unhide CD w0).mono ?_
    rintro e w1 ⟨⟨vd, rfl, od⟩, hbd⟩
    have ho1 := hide ((unhide ho0).below hbd)
    have hB1 := hb0.trans (hbd.mono hb0.size)
    obtain ⟨ad, cd, rfl⟩ := od.shape
    have hdl : (D.map iv).length = 10 := by rw [List.length_map]; exact unhide dl
    rw [hdl] at od ⊢
    obtain ⟨gd, rfl, hgd1, hgd2⟩ : ∃ g, ad = some ⟨g, 0, none⟩ ∧ w0.heap.size ≤ g ∧ g < w1.heap.size := by
      rcases od.2 with ⟨h1, _⟩ | ⟨g, cap, cur, h1, hbb, hgr, _⟩
      · simp only [Value.slice.injEq] at h1; omega
      · simp only [Value.slice.injEq] at h1
        exact ⟨g, h1.1, hbb, (Array.getElem?_eq_some_iff.1 hgr).1⟩
    have KS := hide (fun (k : Nat) (hk : k < 10) (W : World) (h : Below w.heap.size w W) (hd : OwnV W w0.heap.size 3 (.slice (some ⟨gd, 0, none⟩) 10 cd) (D.map iv)) => (show ∃ g o, a = some ⟨g, o, none⟩ ∧ W.cell? ⟨g, o + k, none⟩ = some (.string (bAt l k)) ∧ W.cell? ⟨gd, k, none⟩ = some (.int .i64 (dgAt m k : Int)) from by
      obtain ⟨g, o, e1, e2, e3⟩ := hc k _ (bAt_get l k (by rw [unhide h10]; exact hk))
      exact ⟨g, o, e1, (h.cell (p := ⟨g, o + k, none⟩) e2).trans e3, hd.cell (unhide DG k hk)⟩))
    have HD := hide od
    clear od hbd ho0 hb0 CD hdl hc DG
    go_wp2
    go_loopw [7, 9] (fun tv ti wr => ∃ k : Nat, k ≤ 10 ∧ ti = .int .i64 (k : Int) ∧ Hid (OwnV wr w.heap.size 9 tv ((preS f k).map sv)) ∧ Hid (OwnV wr w0.heap.size 3 (.slice (some ⟨gd, 0, none⟩) 10 cd) (D.map iv)) ∧ Below w.heap.size w wr) (fun _ ti _ => 10 - (intOf ti).toNat)
    case atStart => exact ⟨0, by omega, rfl, ho1, HD, hB1⟩
    case round =>
      clear ho1 HD hB1
      obtain ⟨k, hk, rfl, HO, HD, hB⟩ := hrel
      have hsz := hB.size
      by_cases hlt : k < 10
      · have hk' : (k : Int) < 10 := by omega
        have hk0 : (0 : Int) ≤ (k : Int) := by omega
        obtain ⟨g, o, rfl, d1, d2⟩ := unhide KS k hlt wr hB (unhide HD)
        have KS2 := hide (fun (W : World) (h : Below w.heap.size w W) (hd : OwnV W w0.heap.size 3 (.slice (some ⟨gd, 0, none⟩) 10 cd) (D.map iv)) => (show W.cell? ⟨g, o + k, none⟩ = some (.string (bAt l k)) ∧ W.cell? ⟨gd, k, none⟩ = some (.int .i64 (dgAt m k : Int)) from by
          obtain ⟨g', o', e1, e2, e3⟩ := unhide KS k hlt W h hd
          cases e1
          exact ⟨e2, e3⟩))
        have c1 := hide (unhide CH2 k hlt)
        have HP := hide (preS_succ f k)
        have hl1 : ((preS f k).map sv).length + 1 ≤ maxLen := by rw [List.length_map, preS_len]; unfold maxLen; omega
        have hl2 : (((preS f k).map sv).length + 1) * 16 ≤ 140737488355328 := by rw [List.length_map, preS_len]; omega
        generalize bAt l k = x at *
        generalize (dgAt m k : Int) = dz at *
        generalize f k = y at *
        have hap := hide (fun (W : World) (q : OwnV W w.heap.size 9 u7 ((preS f k).map sv)) (hd : OwnV W w0.heap.size 3 (.slice (some ⟨gd, 0, none⟩) 10 cd) (D.map iv)) n hn => hd.apart q (by decide) n hn)
        replace hl1 := hide hl1; replace hl2 := hide hl2
        clear KS CH2
        go_wp2
        go_region_held3 (fun W => W.cell? ⟨g, o + k, none⟩ = some (.string x) ∧ W.cell? ⟨gd, k, none⟩ = some (.int .i64 dz)) (first | exact ⟨d1, d2⟩ | exact (unhide KS2) _ hB5 hD5 | exact (unhide KS2) _ hB4 hD4 | exact (unhide KS2) _ (hB4.alloc hB4.size _) (hD4.alloc _) | fail) (first
          | (refine step_append_gu (w := w4) (u := .string y) rfl rfl rfl (.tmp 21) (.tmp 33) 22 rfl w.heap.size i0 (.string ⟨#[]⟩) 16 Try.underlying22 hi hz0 hz1 hz2 rfl _ _ rfl (by exact hO4) rfl (unhide hl1) (unhide hl2) (by exact hB4.size) ?_; intro v' w5 hown5 hg5; have hD5 := (hD4.alloc _).grown hg5 (fun n hn => unhide hap _ hO4 hD4 n hn); have hB5 := (hB4.alloc hB4.size (.cells #[.string y] 9)).grown hg5 (by simp; have := hB4.size; omega) (fun n hn => (hO4.lt n hn).1))
          | (go_at_call 26; refine (unhide c1 _).mono ?_; rintro e w4 ⟨rfl, hb4⟩; have hO4 := OwnV.below (w := wr.drew) (unhide HO) hb4; have hD4 := OwnV.below (w := wr.drew) (unhide HD) hb4; have hB4 := (hB.drew).trans (hb4.mono hB.size)))
        all_goals
          have hown6 := hide (show OwnV w5 w.heap.size 9 v' ((preS f (k + 1)).map sv) by rw [unhide HP, List.map_append]; exact hown5)
          have hD6 := hide hD5
          clear hown5 hD5 hO4 hD4 hg5 d1 d2 KS2 HO HD hap
          go_wp2
          exact ⟨⟨k + 1, by omega, by go_num, hown6, hD6, hB5⟩, by simp [intOf]; omega⟩
      · have hk' : ¬ (k : Int) < 10 := by omega
        obtain rfl : k = 10 := by omega
        go_wp2
        go_ret
        exact ⟨⟨_, rfl, unhide HO⟩, hB⟩
  · have ES := hide (show onceS l leaf m = [] by unfold onceS; rw [if_neg h10])
    rw [unhide ES]
    have h10' : ¬ (l.length : Int) = 10 := by omega
    clear hc
    go_enter Try.func14, Try.ntmps14
    go_wp2
    go_ret
    exact ⟨⟨_, rfl, World.ownsRow_made w #[] 0 (Nat.le_refl _) (by decide) (by simp)⟩, (Below.refl _ _).alloc (Nat.le_refl _) _⟩
theorem chn_le (x : ByteArray) (leaf chain frm : Int) (k : Nat) : (chnB x leaf chain frm k).size ≤ 4 + x.size := by
  cases k with
  | zero => show x.size ≤ _; omega
  | succ k => show (chopB _).size ≤ _; rw [chopB_size]; omega
theorem catC_sum (l : List ByteArray) (f : Nat → ByteArray) (h : ∀ i, (f i).size ≤ 4 + (bAt l i).size) (k : Nat) (hk : k ≤ l.length) : (catC f k).size ≤ 4 * k + sumS (l.take k) := by
  induction k with
  | zero => exact Nat.zero_le _
  | succ k ih =>
    have h1 := ih (by omega)
    have h2 := h k
    have h3 := sumS_take l k (by omega)
    have h4 : bAt l k = l[k]'(by omega) := by
      unfold bAt
      rw [List.getD_eq_getElem?_getD, List.getElem?_eq_getElem (show k < l.length by omega)]
      rfl
    rw [h4] at h2
    show (catC f k ++ f k).size ≤ _
    rw [ByteArray.size_append]
    omega
theorem sumS_le (l : List ByteArray) (n : Nat) (h : sumS l ≤ n) : ∀ x ∈ l, x.size ≤ n := by
  intro x hx
  obtain ⟨k, hk, rfl⟩ := List.mem_iff_getElem.1 hx
  exact Nat.le_trans (sumS_at l k hk) h
set_option maxRecDepth 20000 in
set_option maxHeartbeats 1000000 in
theorem specOnceFound_any (l : List ByteArray) (leaf : Int) (m : ByteArray) (v : Value) (w : World) (hr : RdV w v (l.map sv)) (hl : sumS l ≤ 1048576) (hm : m.size ≤ 1048576) :
    Calls Try.prog 18 #[v, .int .i64 leaf, .string m] w fun e w' => e = .returned (.string (onceF l leaf m)) ∧ Below w.heap.size w w' := by
  obtain ⟨a, c, rfl, hc⟩ := hr.open
  rw [List.length_map]
  clear hr
  by_cases h10 : l.length = 10
  · have EP := hide (show onceF l leaf m = chopB (catC (fun i => chnB (bAt l i) leaf (i : Int) (dgAt m i : Int) (15 - dgAt m i)) 10) by unfold onceF; rw [if_pos h10])
    rw [unhide EP]
    have hl2 := sumS_le l _ hl
    obtain ⟨f, hf⟩ : ∃ f : Nat → ByteArray, f = fun i => chnB (bAt l i) leaf (i : Int) (dgAt m i : Int) (15 - dgAt m i) := ⟨_, rfl⟩
    have CH2 := hide (show ∀ (i : Nat), i < 10 → ∀ W, Calls Try.prog 26 #[.string (bAt l i), .int .i64 leaf, .int .i64 (i : Int), .int .i64 (dgAt m i : Int), .int .i64 ((15 - dgAt m i : Nat) : Int)] W fun e w' => e = .returned (.string (f i)) ∧ Below W.heap.size W w' from fun i hi W => by rw [hf]; have h := specChain_any (bAt l i) leaf (i : Int) (dgAt m i : Int) ((15 - dgAt m i : Nat) : Int) (bAt_size l i _ (by omega) hl2) W; rw [(steps_dg m i).2] at h; exact h)
    have hfs : ∀ i, (f i).size ≤ 4 + (bAt l i).size := fun i => by rw [hf]; exact chn_le _ _ _ _ _
    have hcl := hide (show ∀ k, k ≤ 10 → (catC f k).size ≤ 1048616 from fun k hk => by
      have h1 := catC_sum l f hfs k (by omega)
      have h2 : sumS (l.take k) ≤ sumS l := by
        have : ∀ (q : List ByteArray) (j : Nat), sumS (q.take j) ≤ sumS q := fun q => by
          induction q with
          | nil => intro j; rw [List.take_nil]; exact Nat.le_refl _
          | cons x xs ih =>
            intro j
            cases j with
            | zero => exact Nat.zero_le _
            | succ j => have := ih j; show x.size + sumS (xs.take j) ≤ x.size + sumS xs; omega
        exact this l k
      omega)
    have hfz := hide (show ∀ i, i < 10 → (f i).size ≤ 1048580 from fun i hi => by have h1 := hfs i; have h2 := bAt_size l i _ (by omega) hl2; omega)
    rw [← hf]
    have CC := hide (fun W => specChop_any (catC f 10) (by have := unhide hcl 10 (by omega); omega) W)
    have Hs := hide (show ∀ k, catC f (k + 1) = catC f k ++ f k from fun k => rfl)
    have H0 := hide (show catC f 0 = ⟨#[]⟩ from rfl)
    generalize chopB (catC f 10) = R at *
    generalize catC f = cat at *
    have CD := hide (fun W => specDigits_any m (by omega) W)
    have DG := hide (fun k (h : k < 10) => digL_get m k h)
    have DL := hide (fun k => dgAt_le m k)
    have dl := digL_len m
    generalize digL m = D at *
    rw [h10]
    replace h10 := hide h10; replace hf := hide hf; replace dl := hide dl
    clear EP hfs
    go_enter Try.func18, Try.ntmps18
    go_wp2_with fail
    refine (unhide CD w).mono ?_
    rintro e w1 ⟨⟨vd, rfl, od⟩, hbd⟩
    obtain ⟨ad, cd, rfl, hcd⟩ := od.rdv.open
    have hdl : (D.map iv).length = 10 := by rw [List.length_map]; exact unhide dl
    rw [hdl]
    have KS := hide (fun (k : Nat) (hk : k < 10) (W : World) (h : Below w1.heap.size w1 W) => (show ∃ g o g' o', a = some ⟨g, o, none⟩ ∧ ad = some ⟨g', o', none⟩ ∧ W.cell? ⟨g, o + k, none⟩ = some (.string (bAt l k)) ∧ W.cell? ⟨g', o' + k, none⟩ = some (.int .i64 (dgAt m k : Int)) from by
      obtain ⟨g, o, e1, e2, e3⟩ := hc k _ (bAt_get l k (by rw [unhide h10]; exact hk))
      obtain ⟨g', o', i1, i2, i3⟩ := hcd k _ (unhide DG k hk)
      have hT : Below w.heap.size w W := hbd.trans (h.mono hbd.size)
      exact ⟨g, o, g', o', e1, i1, (hT.cell (p := ⟨g, o + k, none⟩) e2).trans e3, (h.cell (p := ⟨g', o' + k, none⟩) i2).trans i3⟩))
    clear od CD hdl hc DG hcd
    go_wp2
    go_loopw [8, 9] (fun tx ti wr => ∃ k : Nat, k ≤ 10 ∧ ti = .int .i64 (k : Int) ∧ tx = .string (cat k) ∧ Below w1.heap.size w1 wr) (fun _ ti _ => 10 - (intOf ti).toNat)
    case atStart => exact ⟨0, by omega, rfl, by rw [unhide H0], Below.refl _ _⟩
    case round =>
      obtain ⟨k, hk, rfl, rfl, hB⟩ := hrel
      have hsz := hB.size
      by_cases hlt : k < 10
      · have hk' : (k : Int) < 10 := by omega
        have hk0 : (0 : Int) ≤ (k : Int) := by omega
        obtain ⟨g, o, g', o', rfl, rfl, d1, d2⟩ := unhide KS k hlt wr hB
        have KS2 := hide (fun (W : World) (h : Below w1.heap.size w1 W) => (show W.cell? ⟨g, o + k, none⟩ = some (.string (bAt l k)) ∧ W.cell? ⟨g', o' + k, none⟩ = some (.int .i64 (dgAt m k : Int)) from by
          obtain ⟨_, _, _, _, e1, e2, e3, e4⟩ := unhide KS k hlt W h
          cases e1
          cases e2
          exact ⟨e3, e4⟩))
        have c1 := hide (unhide CH2 k hlt)
        have HC := hide (unhide Hs k)
        have z1 := unhide hcl k hk
        have z2 := unhide hfz k hlt
        have dle := unhide DL k
        generalize bAt l k = x at *
        obtain ⟨dz, hdz⟩ : ∃ z, z = dgAt m k := ⟨_, rfl⟩
        rw [← hdz] at d2 KS2 c1 dle
        obtain ⟨dy, hdy⟩ : ∃ z, z = 15 - dz := ⟨_, rfl⟩
        rw [← hdy] at c1
        have q1 : IntKind.i64.wrap (15 - (dz : Int)) = (dy : Int) := by rw [IntKind.wrap_i64]; omega
        generalize f k = y at *
        have hadd : ¬ 9223372036854775807 < (cat k).size + y.size := by omega
        have hadd2 : (cat k).size + y.size ≤ 9223372036854775807 := by omega
        replace hdz := hide hdz; replace hdy := hide hdy
        clear KS CH2
        go_wp2
        go_region_held3 (fun W => W.cell? ⟨g, o + k, none⟩ = some (.string x) ∧ W.cell? ⟨g', o' + k, none⟩ = some (.int .i64 (dz : Int))) (first | exact ⟨d1, d2⟩ | exact (unhide KS2) _ hB4 | fail) (first
          | (go_at_call 26; refine (unhide c1 _).mono ?_; rintro e w4 ⟨rfl, hb4⟩; have hB4 := (hB.drew).trans (hb4.mono hB.size)))
        all_goals
          clear d1 d2 KS2
          go_wp2
          exact ⟨⟨k + 1, by omega, by go_num, by rw [unhide HC], hB4⟩, by simp [intOf]; omega⟩
      · have hk' : ¬ (k : Int) < 10 := by omega
        obtain rfl : k = 10 := by omega
        clear KS
        go_wp2_with fail
        refine (unhide CC wr).mono ?_
        rintro e w5 ⟨rfl, hb5⟩
        have hB5 := hbd.trans ((hB.trans (hb5.mono hB.size)).mono hbd.size)
        clear hb5 hB CC
        go_wp2
        go_ret
        exact ⟨rfl, hB5⟩
  · have EP := hide (show onceF l leaf m = ⟨#[]⟩ by unfold onceF; rw [if_neg h10])
    rw [unhide EP]
    have h10' : ¬ (l.length : Int) = 10 := by omega
    clear hc
    go_enter Try.func18, Try.ntmps18
    go_wp2
    go_ret
    exact ⟨rfl, Below.refl _ _⟩
end Go.Proofs.Ytljjajbkaffofau

