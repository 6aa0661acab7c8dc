/- What spec.Decimal comes to at numbers that are not below 0, over the loaded program. -/
import Derived.Test.YtkbbcjnickgfjaaDoorChecked
import Derived.Test.YtkbbcjnickgfjaaDoorDec
import Derived.Test.YtkbbcjnickgfjaaDoorHex
namespace Go.Proofs.YtkbbcjnickgfjaaDoor
open Go.RowKit

/-- 'string([]byte{b})' -/
theorem run_string_new {P : Program} (src dst e : TypeId) (hs : P.underlying src = some (.slice e)) (he : P.underlying e = some (.int .u8)) (hd : P.underlying dst = some .string) (W : World) (b : UInt8) :
    (convert src dst (.slice (some ⟨W.heap.size, 0, none⟩) 1 1)).run P (W.alloc (.cells #[.int .u8 (b.toNat : Int)] e)) = .ok (.string ⟨#[b]⟩) (W.alloc (.cells #[.int .u8 (b.toNat : Int)] e)) := by
  have := run_convert_bytes_back (P := P) (W.alloc (.cells #[.int .u8 (b.toNat : Int)] e)) src dst e ⟨W.heap.size, 0, none⟩ 1 [b] hs he hd (fun j hj => by
    have h0 : j = 0 := by simpa using hj
    subst h0
    rw [show (⟨W.heap.size, 0, none⟩ : Addr).add 0 = ⟨W.heap.size, 0, none⟩ from rfl, cell_of_row (W.alloc (.cells #[.int .u8 (b.toNat : Int)] e)) W.heap.size 0 _ e (0, 0) (heap_alloc_new W _)]
    rfl)
  exact this

/-- What stands at the head of a round: the figures that are to come and those that lie ready. -/
def DecAt (n m : Nat) (t : List UInt8) : Prop := t.length ≤ 20 ∧ (if m = 0 then t = decB n else decB m ++ t = decB n)
theorem DecAt.start {n : Nat} (h : n ≠ 0) : DecAt n n [] := ⟨by simp, by rw [if_neg h]; simp⟩
theorem DecAt.next {n m : Nat} {t : List UInt8} (hn : n < 10 ^ 20) (h : DecAt n m t) (hm : m ≠ 0) : DecAt n (m / 10) (fig (m % 10) :: t) := by
  have hlen := (decB_len 19 n hn).2
  have hf : fig (m % 10) = byteOf (48 + m % 10) := by unfold fig; rw [if_pos (by omega)]
  have h2 := h.2
  rw [if_neg hm] at h2
  have key : (if m / 10 = 0 then fig (m % 10) :: t = decB n else decB (m / 10) ++ fig (m % 10) :: t = decB n) := by
    by_cases hs : m < 10
    · rw [if_pos (by omega), hf, show m % 10 = m by omega, ← h2, decB_small hs]
      rfl
    · rw [if_neg (by omega), hf, ← h2, decB_big hs]
      simp
  refine ⟨?_, key⟩
  split at key
  · have := congrArg List.length key
    simp only [List.length_cons] at *
    omega
  · have := congrArg List.length key
    simp only [List.length_cons, List.length_append] at *
    omega
theorem DecAt.done {n m : Nat} {t : List UInt8} (h : DecAt n m t) (hm : m = 0) : t = decB n := by
  have := h.2; rw [if_pos hm] at this; exact this

theorem ret_str {a b : List UInt8} (h : a = b) : Ending.returned (.string ⟨a.toArray⟩) = .returned (.string ⟨b.toArray⟩) := by rw [h]
theorem str_cons (b : UInt8) (t : List UInt8) : Value.string (ByteArray.mk #[b] ++ ByteArray.mk t.toArray) = Value.string ⟨(b :: t).toArray⟩ := by
  show Value.string (ByteArray.mk [b].toArray ++ ByteArray.mk t.toArray) = _
  rw [ByteArray.mk_append_mk]; rfl



end Go.Proofs.YtkbbcjnickgfjaaDoor
