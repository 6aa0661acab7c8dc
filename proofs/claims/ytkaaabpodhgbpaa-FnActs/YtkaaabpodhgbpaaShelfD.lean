/- An act on a shelf. -/
import Derived.Test.YtkaaabpodhgbpaaActL
namespace Go.Proofs.Ytkaaabpodhgbpaa
open Go.RowKit
open Go.Maps (Keyed IsMap Tidy string_keyed)

structure Ac where
  kd : Int
  nm : ByteArray
  tx : ByteArray
  to : ByteArray
def acv (a : Ac) : Value := .agg #[.int .i64 a.kd, .string a.nm, .string a.tx, .string a.to]
def emB (s : ByteArray) : Bool := sameN s noB
def gateR (c : Bool) (r : Option (List Fl)) : Option (List Fl) := if c = true then r else none
def actR (fs : List Fl) (a : Ac) : Option (List Fl) :=
  if a.kd = 1 then gateR (emB a.to) (addR fs a.nm a.tx)
  else if a.kd = 2 then gateR (emB a.tx && emB a.to) (keepR fs a.nm)
  else if a.kd = 3 then gateR (emB a.tx) (moveR fs a.nm a.to)
  else if a.kd = 4 then gateR (emB a.tx && emB a.to) (dropR fs a.nm)
  else none
theorem gateR_ok {c : Bool} {r : Option (List Fl)} {o : List Fl} (h : gateR c r = some o) : r = some o := by
  unfold gateR at h
  split at h
  · exact h
  · cases h
theorem actR_ok {fs o : List Fl} {a : Ac} (h : okL fs = true) (ho : actR fs a = some o) : okL o = true := by
  unfold actR at ho
  split at ho
  · exact addR_ok (gateR_ok ho)
  · split at ho
    · exact keepR_ok h (gateR_ok ho)
    · split at ho
      · exact moveR_ok h (gateR_ok ho)
      · split at ho
        · exact dropR_ok h (gateR_ok ho)
        · cases ho

theorem emB_yes {s : ByteArray} (h : emB s = true) : s.toList = [] := by
  have e : s = noB := sameN_iff.1 h
  rw [e, ByteArray.toList_eq]
  rfl
theorem emB_no {s : ByteArray} (h : emB s = false) : ¬ s.toList = [] := by
  intro e
  have h2 : s = noB := ba_ext (by rw [← ByteArray.toList_eq, e]; rfl)
  rw [h2] at h
  rw [show emB noB = true from sameN_iff.2 rfl] at h
  cases h
theorem emB_nob {s : ByteArray} (h : emB s = false) : s.toList.isEmpty = false := by
  rw [← Bool.not_eq_true, List.isEmpty_iff]
  exact emB_no h
theorem Did.pre {fs : List Fl} {r : Option (List Fl)} {base b : Nat} {w w0 w' : World} {e : Ending} (h : Did fs r base b w0 e w') (hb : Below base w w0) : Did fs r base b w e w' := ⟨h.1, h.2.1, hb.trans h.2.2⟩
theorem no_did {fs : List Fl} {ps : List Pf} {base b : Nat} {w w' : World} (h : ShelfAt w' base b ps) (e : ps.map Prod.snd = fs) (hb : Below base w w') : Did fs none base b w (.returned (.bool false)) w' := ⟨rfl, ⟨ps, h, e⟩, hb⟩
set_option maxRecDepth 20000 in
set_option maxHeartbeats 1000000 in
theorem do1 (ps : List Pf) (nm tx to : ByteArray) (base b : Nat) (w : World) (h : ShelfAt w base b ps) (hok : okL (ps.map Prod.snd) = true) (hz : nm.size ≤ 4000000) :
    Calls Try.prog 36 #[.map (some b), acv ⟨1, nm, tx, to⟩] w (Did (ps.map Prod.snd) (gateR (emB to) (addR (ps.map Prod.snd) nm tx)) base b w) := by
  unfold acv
  have H0 := hide (h.below (bTrA (Below.refl w.heap.size w) (.cells #[.int .i64 1, .string nm, .string tx, .string to] 45)))
  have HB := hide ((Below.refl base w).alloc (Nat.le_trans h.lo (Nat.le_of_lt h.lt)) (.cells #[.int .i64 1, .string nm, .string tx, .string to] 45))
  have HOK := hide hok
  clear h hok
  cases he0 : emB to with
  | false =>
    have hq := emB_no he0
    have hr := emB_nob he0
    clear he0
    go_enter Try.func36, Try.ntmps36
    go_wp2
    go_ret
    exact no_did (unhide H0) rfl (unhide HB)
  | true =>
    have hq0 := emB_yes he0
    clear he0
    go_enter Try.func36, Try.ntmps36
    go_wp2_with (go_at_call 50; refine (add_any ps nm tx base b _ (unhide H0) (unhide HOK) hz).mono ?_; rintro e w1 ⟨rfl, H1, H2⟩)
    go_ret
    exact ⟨rfl, H1, (unhide HB).trans H2⟩
set_option maxRecDepth 20000 in
set_option maxHeartbeats 1000000 in
theorem do2 (ps : List Pf) (nm tx to : ByteArray) (base b : Nat) (w : World) (h : ShelfAt w base b ps) (hok : okL (ps.map Prod.snd) = true) (hz : nm.size ≤ 4000000) :
    Calls Try.prog 36 #[.map (some b), acv ⟨2, nm, tx, to⟩] w (Did (ps.map Prod.snd) (gateR (emB tx && emB to) (keepR (ps.map Prod.snd) nm)) base b w) := by
  unfold acv
  have H0 := hide (h.below (bTrA (Below.refl w.heap.size w) (.cells #[.int .i64 2, .string nm, .string tx, .string to] 45)))
  have HB := hide ((Below.refl base w).alloc (Nat.le_trans h.lo (Nat.le_of_lt h.lt)) (.cells #[.int .i64 2, .string nm, .string tx, .string to] 45))
  have HOK := hide hok
  clear h hok
  cases he0 : emB tx with
  | false =>
    have hq := emB_no he0
    have hr := emB_nob he0
    clear he0
    go_enter Try.func36, Try.ntmps36
    go_wp2
    go_ret
    exact no_did (unhide H0) rfl (unhide HB)
  | true =>
    have hq0 := emB_yes he0
    cases he1 : emB to with
    | false =>
      have hq := emB_no he1
      have hr := emB_nob he1
      clear he0 he1
      go_enter Try.func36, Try.ntmps36
      go_wp2
      go_ret
      exact no_did (unhide H0) rfl (unhide HB)
    | true =>
      have hq1 := emB_yes he1
      clear he0 he1
      go_enter Try.func36, Try.ntmps36
      go_wp2_with (go_at_call 51; refine (keep_any ps nm base b _ (unhide H0) (unhide HOK) hz).mono ?_; rintro e w1 ⟨rfl, H1, H2⟩)
      go_ret
      exact ⟨rfl, H1, (unhide HB).trans H2⟩
set_option maxRecDepth 20000 in
set_option maxHeartbeats 1000000 in
theorem do3 (ps : List Pf) (nm tx to : ByteArray) (base b : Nat) (w : World) (h : ShelfAt w base b ps) (hok : okL (ps.map Prod.snd) = true) (hz : nm.size ≤ 4000000) (hzt : to.size ≤ 4000000) :
    Calls Try.prog 36 #[.map (some b), acv ⟨3, nm, tx, to⟩] w (Did (ps.map Prod.snd) (gateR (emB tx) (moveR (ps.map Prod.snd) nm to)) base b w) := by
  unfold acv
  have H0 := hide (h.below (bTrA (Below.refl w.heap.size w) (.cells #[.int .i64 3, .string nm, .string tx, .string to] 45)))
  have HB := hide ((Below.refl base w).alloc (Nat.le_trans h.lo (Nat.le_of_lt h.lt)) (.cells #[.int .i64 3, .string nm, .string tx, .string to] 45))
  have HOK := hide hok
  clear h hok
  cases he0 : emB tx with
  | false =>
    have hq := emB_no he0
    have hr := emB_nob he0
    clear he0
    go_enter Try.func36, Try.ntmps36
    go_wp2
    go_ret
    exact no_did (unhide H0) rfl (unhide HB)
  | true =>
    have hq0 := emB_yes he0
    clear he0
    go_enter Try.func36, Try.ntmps36
    go_wp2_with (go_at_call 52; refine (move_any ps nm to base b _ (unhide H0) (unhide HOK) hz hzt).mono ?_; rintro e w1 ⟨rfl, H1, H2⟩)
    go_ret
    exact ⟨rfl, H1, (unhide HB).trans H2⟩
set_option maxRecDepth 20000 in
set_option maxHeartbeats 1000000 in
theorem do4 (ps : List Pf) (nm tx to : ByteArray) (base b : Nat) (w : World) (h : ShelfAt w base b ps) (hok : okL (ps.map Prod.snd) = true) (hz : nm.size ≤ 4000000) :
    Calls Try.prog 36 #[.map (some b), acv ⟨4, nm, tx, to⟩] w (Did (ps.map Prod.snd) (gateR (emB tx && emB to) (dropR (ps.map Prod.snd) nm)) base b w) := by
  unfold acv
  have H0 := hide (h.below (bTrA (Below.refl w.heap.size w) (.cells #[.int .i64 4, .string nm, .string tx, .string to] 45)))
  have HB := hide ((Below.refl base w).alloc (Nat.le_trans h.lo (Nat.le_of_lt h.lt)) (.cells #[.int .i64 4, .string nm, .string tx, .string to] 45))
  have HOK := hide hok
  clear h hok
  cases he0 : emB tx with
  | false =>
    have hq := emB_no he0
    have hr := emB_nob he0
    clear he0
    go_enter Try.func36, Try.ntmps36
    go_wp2
    go_ret
    exact no_did (unhide H0) rfl (unhide HB)
  | true =>
    have hq0 := emB_yes he0
    cases he1 : emB to with
    | false =>
      have hq := emB_no he1
      have hr := emB_nob he1
      clear he0 he1
      go_enter Try.func36, Try.ntmps36
      go_wp2
      go_ret
      exact no_did (unhide H0) rfl (unhide HB)
    | true =>
      have hq1 := emB_yes he1
      clear he0 he1
      go_enter Try.func36, Try.ntmps36
      go_wp2_with (go_at_call 53; refine (drop_did ps nm base b _ (unhide H0) (unhide HOK) hz).mono ?_; rintro e w1 ⟨rfl, H1, H2⟩)
      go_ret
      exact ⟨rfl, H1, (unhide HB).trans H2⟩
set_option maxRecDepth 20000 in
set_option maxHeartbeats 1000000 in
theorem do0 (ps : List Pf) (k : Int) (nm tx to : ByteArray) (base b : Nat) (w : World) (h : ShelfAt w base b ps) (h1 : ¬ k = 1) (h2 : ¬ k = 2) (h3 : ¬ k = 3) (h4 : ¬ k = 4) :
    Calls Try.prog 36 #[.map (some b), acv ⟨k, nm, tx, to⟩] w (Did (ps.map Prod.snd) none base b w) := by
  unfold acv
  have H0 := hide (h.below (bTrA (Below.refl w.heap.size w) (.cells #[.int .i64 k, .string nm, .string tx, .string to] 45)))
  have HB := hide ((Below.refl base w).alloc (Nat.le_trans h.lo (Nat.le_of_lt h.lt)) (.cells #[.int .i64 k, .string nm, .string tx, .string to] 45))
  clear h
  go_enter Try.func36, Try.ntmps36
  go_wp2
  go_ret
  exact no_did (unhide H0) rfl (unhide HB)
theorem do_any (ps : List Pf) (a : Ac) (base b : Nat) (w : World) (h : ShelfAt w base b ps) (hok : okL (ps.map Prod.snd) = true) (hz : a.nm.size ≤ 4000000) (hzt : a.to.size ≤ 4000000) :
    Calls Try.prog 36 #[.map (some b), acv a] w (Did (ps.map Prod.snd) (actR (ps.map Prod.snd) a) base b w) := by
  obtain ⟨k, nm, tx, to⟩ := a
  unfold actR
  by_cases h1 : k = 1
  · subst h1
    rw [if_pos rfl]
    exact do1 ps nm tx to base b w h hok hz
  rw [if_neg (show ¬ (Ac.mk k nm tx to).kd = 1 from h1)]
  by_cases h2 : k = 2
  · subst h2
    rw [if_pos rfl]
    exact do2 ps nm tx to base b w h hok hz
  rw [if_neg (show ¬ (Ac.mk k nm tx to).kd = 2 from h2)]
  by_cases h3 : k = 3
  · subst h3
    rw [if_pos rfl]
    exact do3 ps nm tx to base b w h hok hz hzt
  rw [if_neg (show ¬ (Ac.mk k nm tx to).kd = 3 from h3)]
  by_cases h4 : k = 4
  · subst h4
    rw [if_pos rfl]
    exact do4 ps nm tx to base b w h hok hz
  rw [if_neg (show ¬ (Ac.mk k nm tx to).kd = 4 from h4)]
  exact do0 ps k nm tx to base b w h h1 h2 h3 h4
end Go.Proofs.Ytkaaabpodhgbpaa
