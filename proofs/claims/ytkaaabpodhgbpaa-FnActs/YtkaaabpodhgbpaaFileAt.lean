/- The file of a name: what spec.l03At, spec.FileAt and impl.FileAt come to. -/
import Derived.Test.YtkaaabpodhgbpaaDisk
import Derived.Test.YtkaaabpodhgbpaaShelf
namespace Go.Proofs.Ytkaaabpodhgbpaa
open Go.RowKit

def sameN (a b : ByteArray) : Bool := a.toList == b.toList
theorem sameN_iff {a b : ByteArray} : sameN a b = true ↔ a = b := by
  unfold sameN
  rw [beq_iff_eq, ByteArray.toList_eq, ByteArray.toList_eq]
  constructor
  · intro h
    cases a with | mk d => cases b with | mk e => cases d; cases e; simp_all
  · intro h; rw [h]
theorem sameN_no {a b : ByteArray} : sameN a b = false ↔ a ≠ b := by
  rw [← Bool.not_eq_true, sameN_iff]
/-- k is the first place of the name s. -/
def IsAt (fs : List Fl) (s : ByteArray) (k : Nat) (f : Fl) : Prop := fs[k]? = some f ∧ f.nm = s ∧ ∀ (j : Nat) (f' : Fl), j < k → fs[j]? = some f' → f'.nm ≠ s
def NoAt (fs : List Fl) (s : ByteArray) : Prop := ∀ (j : Nat) (f' : Fl), fs[j]? = some f' → f'.nm ≠ s
/-- How the search for a name ends. -/
def AtEnd (fs : List Fl) (s : ByteArray) (e : Ending) : Prop := (∃ (k : Nat) (f : Fl), e = .returned (.int .i64 k) ∧ IsAt fs s k f) ∨ (e = .returned (.int .i64 (-1)) ∧ NoAt fs s)
def findL (fs : List Fl) (s : ByteArray) : Option Fl := fs.find? fun f => sameN f.nm s
theorem findL_none {fs : List Fl} {s : ByteArray} (h : NoAt fs s) : findL fs s = none := by
  unfold findL
  rw [List.find?_eq_none]
  intro f hf
  obtain ⟨j, hj⟩ := List.mem_iff_getElem?.1 hf
  rw [Bool.not_eq_true, sameN_no]
  exact h j f hj
theorem findL_some : ∀ {fs : List Fl} {s : ByteArray} {k : Nat} {f : Fl}, IsAt fs s k f → findL fs s = some f
  | [], s, k, f, h => by have := h.1; simp at this
  | x :: r, s, 0, f, h => by
    have h1 : x = f := by simpa using h.1
    subst h1
    unfold findL
    rw [List.find?_cons_of_pos]
    exact sameN_iff.2 h.2.1
  | x :: r, s, k + 1, f, h => by
    unfold findL
    rw [List.find?_cons_of_neg]
    · exact findL_some (fs := r) ⟨by simpa using h.1, h.2.1, fun j f' hj hf => h.2.2 (j + 1) f' (by omega) (by simpa using hf)⟩
    · rw [Bool.not_eq_true, sameN_no]
      exact h.2.2 0 x (by omega) rfl
def atRes (fs : List Fl) (s : ByteArray) : ByteArray × Bool :=
  match findL fs s with
  | some f => (f.tx, true)
  | none => (⟨#[]⟩, false)

set_option maxRecDepth 20000 in
set_option maxHeartbeats 1000000 in
theorem l03At_any (fs : List Fl) (s : ByteArray) (v : Value) (w : World) (hr : RdF w v fs) (hn : fs.length ≤ 2000000) :
    Calls Try.prog 58 #[.agg #[v], .string s] w fun e w' => AtEnd fs s e ∧ Below w.heap.size w w' := by
  obtain ⟨a, c, rfl, hc⟩ := hr.open
  clear hr
  obtain ⟨n, hnn⟩ : ∃ n, fs.length = n := ⟨_, rfl⟩
  rw [hnn] at hn ⊢
  replace hnn := hide hnn
  go_enter Try.func58, Try.ntmps58
  go_wp2
  go_loop [5] (fun ti => ∃ k : Nat, k ≤ n ∧ ti = .int .i64 k ∧ Hid (∀ (j : Nat) (f' : Fl), j < k → fs[j]? = some f' → f'.nm ≠ s)) (fun ti => n - (intOf ti).toNat)
  case atStart => exact ⟨0, Nat.zero_le _, rfl, fun j f' hj => by omega⟩
  case round =>
    obtain ⟨k, hk, rfl, hok⟩ := hrel
    by_cases hlt : k < n
    · have hk' : k < fs.length := by rw [unhide hnn]; exact hlt
      obtain ⟨f, hf⟩ : ∃ f, fs[k]? = some f := ⟨fs[k], List.getElem?_eq_getElem hk'⟩
      obtain ⟨g, o, rfl, hg, d1, d2, d3⟩ := hc k f hf
      cases hs : sameN f.nm s with
      | true =>
        have H := hide (show IsAt fs s k f from ⟨hf, sameN_iff.1 hs, unhide hok⟩)
        unfold sameN at hs
        replace hf := hide hf
        clear hc
        go_wp2
        go_ret
        exact ⟨.inl ⟨k, f, rfl, unhide H⟩, (Below.refl w.heap.size w).alloc (Nat.le_refl _) _⟩
      | false =>
        have H := hide (sameN_no.1 hs)
        unfold sameN at hs
        replace hf := hide hf
        clear hc
        go_wp2
        go_round
        case rel =>
          refine ⟨k + 1, by omega, by go_num, fun j f' hj hf' => ?_⟩
          rcases Nat.lt_or_ge j k with h | h
          · exact unhide hok j f' h hf'
          · have : j = k := by omega
            subst this
            rw [unhide hf] at hf'
            cases hf'
            exact unhide H
        case measure => simp [intOf]; omega
    · have H := hide (show NoAt fs s from fun j f' hf' => unhide hok j f' (by have := (List.getElem?_eq_some_iff.1 hf').1; rw [unhide hnn] at this; omega) hf')
      go_wp2
      go_ret
      exact ⟨.inr ⟨rfl, unhide H⟩, (Below.refl w.heap.size w).alloc (Nat.le_refl _) _⟩
set_option maxRecDepth 20000 in
set_option maxHeartbeats 1000000 in
theorem implFileAt_any (fs : List Fl) (s : ByteArray) (v : Value) (w : World) (hr : RdF w v fs) (hB : Bd fs) (hn : fs.length ≤ 2000000) :
    Calls Try.prog 18 #[.agg #[v], .string s] w fun e w' => e = .returned (.tuple #[.string (atRes fs s).1, .bool (atRes fs s).2]) ∧ Below w.heap.size w w' := by
  obtain ⟨a, c, rfl, hc⟩ := hr.open
  clear hr
  obtain ⟨n, hnn⟩ : ∃ n, fs.length = n := ⟨_, rfl⟩
  rw [hnn] at hn ⊢
  replace hnn := hide hnn
  go_enter Try.func18, Try.ntmps18
  go_wp2
  go_loopw [11] (fun ti wr => ∃ k : Nat, k ≤ n ∧ ti = .int .i64 k ∧ Hid (∀ (j : Nat) (f' : Fl), j < k → fs[j]? = some f' → f'.nm ≠ s) ∧ Below w.heap.size w wr) (fun ti _ => n - (intOf ti).toNat)
  case atStart => exact ⟨0, Nat.zero_le _, rfl, fun j f' hj => by omega, (Below.refl w.heap.size w).alloc (Nat.le_refl _) _⟩
  case round =>
    obtain ⟨k, hk, rfl, hok, hb⟩ := hrel
    have hss := hb.size
    by_cases hlt : k < n
    · have hk' : k < fs.length := by rw [unhide hnn]; exact hlt
      obtain ⟨f, hf⟩ : ∃ f, fs[k]? = some f := ⟨fs[k], List.getElem?_eq_getElem hk'⟩
      obtain ⟨g, o, rfl, hg, hat⟩ := hc k f hf
      obtain ⟨d1, d2, d3⟩ := hat.below hb hg
      have hgr : g < wr.heap.size := by omega
      have hz := hB f (List.mem_of_getElem? hf)
      have hlim : f.tx.size ≤ 281474976710656 := by omega
      cases hs : sameN f.nm s with
      | true =>
        have H := hide (show atRes fs s = (f.tx, true) by unfold atRes; rw [findL_some ⟨hf, sameN_iff.1 hs, unhide hok⟩])
        unfold sameN at hs
        replace hf := hide hf
        clear hc hat
        go_wp2_with (first
          | (go_at_call 60; refine (Try.stringslite_Clone _ _ hlim).mono ?_; rintro e w2 ⟨rfl, hb2⟩)
          | go_in)
        go_ret2
        exact ⟨by rw [unhide H]; rfl, hb.trans ((((Below.refl _ wr).alloc (Nat.le_refl _) _).trans (hb2.mono (by simp))).mono hss)⟩
      | false =>
        have H := hide (sameN_no.1 hs)
        unfold sameN at hs
        replace hf := hide hf
        clear hc hat
        go_wp2
        go_roundw
        case rel =>
          refine ⟨k + 1, by omega, by go_num, fun j f' hj hf' => ?_, hb.trans (((Below.refl _ wr).alloc (Nat.le_refl _) _).mono hss)⟩
          rcases Nat.lt_or_ge j k with h | h
          · exact unhide hok j f' h hf'
          · have : j = k := by omega
            subst this
            rw [unhide hf] at hf'
            cases hf'
            exact unhide H
        case measure => simp [intOf]; omega
    · have H := hide (show atRes fs s = (⟨#[]⟩, false) by
        unfold atRes
        rw [findL_none fun j f' hf' => unhide hok j f' (by have := (List.getElem?_eq_some_iff.1 hf').1; rw [unhide hnn] at this; omega) hf'])
      go_wp2
      go_ret2
      exact ⟨by rw [unhide H]; rfl, hb⟩
end Go.Proofs.Ytkaaabpodhgbpaa
