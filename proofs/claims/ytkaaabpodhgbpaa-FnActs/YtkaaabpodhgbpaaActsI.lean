/- Acts one behind the other: what impl.DoActs comes to. -/
import Derived.Test.YtkaaabpodhgbpaaActI
import Derived.Test.YtkaaabpodhgbpaaActs
import Derived.Test.YtkaaabpodhgbpaaCop
namespace Go.Proofs.Ytkaaabpodhgbpaa
open Go.RowKit
open Go.Maps (Keyed IsMap Tidy string_keyed)

def runL : List Fl → List Ac → List Fl × Nat
  | fs, [] => (fs, 0)
  | fs, a :: t => match actL fs a with
    | none => (fs, 0)
    | some o => ((runL o t).1, (runL o t).2 + 1)

theorem runL_none {fs : List Fl} {a : Ac} {t : List Ac} (h : actL fs a = none) : runL fs (a :: t) = (fs, 0) := by rw [runL, h]
theorem runL_some {fs o : List Fl} {a : Ac} {t : List Ac} (h : actL fs a = some o) : runL fs (a :: t) = ((runL o t).1, (runL o t).2 + 1) := by rw [runL, h]
theorem actL_no {fs : List Fl} (h : okL fs = false) (a : Ac) : actL fs a = none := by unfold actL; rw [h]; rfl
theorem actL_yes {fs : List Fl} (h : okL fs = true) (a : Ac) : actL fs a = actR fs a := by unfold actL; rw [h]; rfl
theorem runL_no {fs : List Fl} (h : okL fs = false) (as' : List Ac) : runL fs as' = (fs, 0) := by
  cases as' with
  | nil => rfl
  | cons a t => exact runL_none (actL_no h a)
theorem runL_le : ∀ (as' : List Ac) (fs : List Fl), (runL fs as').2 ≤ as'.length := by
  intro as'
  induction as' with
  | nil => intro fs; exact Nat.le_refl _
  | cons a t ih =>
    intro fs
    cases h : actL fs a with
    | none => rw [runL_none h]; exact Nat.zero_le _
    | some o => rw [runL_some h]; simp only [List.length_cons]; have := ih o; omega
theorem runL_ok : ∀ (as' : List Ac) (fs : List Fl), okL fs = true → okL (runL fs as').1 = true := by
  intro as'
  induction as' with
  | nil => intro fs h; exact h
  | cons a t ih =>
    intro fs h
    cases e : actL fs a with
    | none => rw [runL_none e]; exact h
    | some o => rw [runL_some e]; exact ih o (actR_ok h (by rw [← actL_yes h]; exact e))

/-- What is left to be done when k acts have been. -/
def RunAt (fs : List Fl) (as' : List Ac) (k : Nat) (cur : List Fl) : Prop := runL fs as' = ((runL cur (as'.drop k)).1, k + (runL cur (as'.drop k)).2)
theorem RunAt.start (fs : List Fl) (as' : List Ac) : RunAt fs as' 0 fs := by unfold RunAt; simp
theorem drop_at {as' : List Ac} {k : Nat} {a : Ac} (h : as'[k]? = some a) : as'.drop k = a :: as'.drop (k + 1) := by
  obtain ⟨hk, rfl⟩ := List.getElem?_eq_some_iff.1 h
  exact List.drop_eq_getElem_cons hk
theorem RunAt.next {fs cur o : List Fl} {as' : List Ac} {k : Nat} {a : Ac} (h : RunAt fs as' k cur) (ha : as'[k]? = some a) (hr : actL cur a = some o) : RunAt fs as' (k + 1) o := by
  unfold RunAt at *
  rw [h, drop_at ha, runL_some hr]
  simp only [Prod.mk.injEq, true_and]
  omega
theorem RunAt.stop {fs cur : List Fl} {as' : List Ac} {k : Nat} {a : Ac} (h : RunAt fs as' k cur) (ha : as'[k]? = some a) (hr : actL cur a = none) : runL fs as' = (cur, k) := by
  unfold RunAt at h
  rw [h, drop_at ha, runL_none hr]
  rfl
theorem RunAt.done {fs cur : List Fl} {as' : List Ac} {k : Nat} (h : RunAt fs as' k cur) (hk : as'.length ≤ k) : runL fs as' = (cur, k) := by
  unfold RunAt at h
  rw [h, List.drop_eq_nil_of_le hk]
  rfl

/-- How a call ends that answers a disk of its own and a number. -/
def DnEnd (T : TypeId) (r : List Fl × Nat) (w : World) (e : Ending) (w' : World) : Prop :=
  (∃ a c, e = .returned (.tuple #[.agg #[.slice a r.1.length c], .int .i64 (r.2 : Int)]) ∧ OwnF w' w.heap.size T (.slice a r.1.length c) r.1) ∧ Below w.heap.size w w'

def AcsBd (as' : List Ac) : Prop := ∀ a ∈ as', a.nm.size ≤ 2000000 ∧ a.tx.size ≤ 2000000 ∧ a.to.size ≤ 2000000

set_option maxRecDepth 20000 in
set_option maxHeartbeats 4000000 in
theorem implDoActs_no (fs : List Fl) (as' : List Ac) (v va : Value) (w : World) (hr : RdF w v fs) (ha : RdA w va as') (hB : Bd fs) (hn : fs.length ≤ 2000000) (hok : okL fs = false) :
    Calls Try.prog 15 #[.agg #[v], va] w fun e w' => DnEnd 36 (runL fs as') w e w' := by
  rw [runL_no hok]
  obtain ⟨a0, c0, rfl⟩ := hr.shape
  obtain ⟨a1, c1, rfl⟩ := ha.shape
  have HR := hide hr
  have HB := hide hB
  have HOK := hide hok
  clear hr hB hok ha
  go_enter Try.func15, Try.ntmps15
  go_wp2_with (fail)
  obtain ⟨W, hW, xD, xR, hsz, hbW⟩ := two_alloc w 26 (.slice a0 fs.length c0) (.slice none 0 0)
  rw [hW]
  clear hW
  refine (shelfOf_no fs _ W (by exact (unhide HR).below hbW) (unhide HB) hn (unhide HOK)).mono ?_
  rintro e w1 ⟨rfl, hb1⟩
  have xR1 := xR.below hb1 (by omega)
  have xD1 := xD.below hb1 (by omega)
  have cd := xD1.cell
  have ld := xD1.lt
  have hbw1 := bTr hbW hb1
  clear hb1 xD xR hbW
  go_wp2_with (go_at_call 35; refine (copiedDisk_any fs _ w1 (by exact (unhide HR).below hbw1) (unhide HB) hn).mono ?_; rintro e w2 ⟨⟨a2, c2, rfl, ho2⟩, hb2⟩; (have xR2 := xR1.step hb2); have cr := xR2.cell; have cz := xR2.frozen; have lr := xR2.lt)
  have s1 := hbw1.size
  have lr1 := xR1.lt
  have hbf := hide ((bTr hbw1 hb2).setCell (p := ⟨w.heap.size + 1, 0, none⟩) (by show w.heap.size ≤ w.heap.size + 1; omega) (.slice a2 fs.length c2))
  have hof := hide ((ho2.other (a := ⟨w.heap.size + 1, 0, none⟩) (by show w.heap.size + 1 < _; omega) (.slice a2 fs.length c2)).low (base' := w.heap.size) (by omega))
  refine bodyPost_ret (v := .tuple #[.agg #[.slice a2 fs.length c2], .int .i64 0]) (by simp [results, Try.results15, go_sem, cr]) rfl ?_
  exact ⟨⟨a2, c2, rfl, unhide hof⟩, unhide hbf⟩

set_option maxRecDepth 20000 in
set_option maxHeartbeats 4000000 in
theorem implDoActs_yes (fs : List Fl) (as' : List Ac) (v va : Value) (w : World) (hr : RdF w v fs) (ha : RdA w va as') (hB : Bd fs) (hn : fs.length ≤ 2000000) (hA : AcsBd as') (hna : as'.length ≤ 2000000) (hok : okL fs = true) :
    Calls Try.prog 15 #[.agg #[v], va] w fun e w' => DnEnd 36 (runL fs as') w e w' := by
  obtain ⟨a0, c0, rfl⟩ := hr.shape
  obtain ⟨a1, c1, rfl, hac⟩ := ha.open
  have HR := hide hr
  have HB := hide hB
  have HOK := hide hok
  have HA := hide hac
  clear hr hB hok ha hac
  go_enter Try.func15, Try.ntmps15
  go_wp2_with (fail)
  obtain ⟨W, hW, xD, xR, hsz, hbW⟩ := two_alloc w 26 (.slice a0 fs.length c0) (.slice none 0 0)
  rw [hW]
  clear hW
  refine (shelfOf_any fs _ W (by exact (unhide HR).below hbW) (unhide HB) hn (unhide HOK)).mono ?_
  rintro e w1 ⟨⟨b, ps, rfl, hps, hsh⟩, hb1⟩
  have hbw1 := hide (bTr hbW hb1)
  have xR1 := hide (xR.below hb1 (by omega))
  have hs1 := hb1.size
  clear hb1 xD xR
  have HS := hide hsh
  have HP := hide hps
  clear hsh hps
  obtain ⟨n, hnn⟩ : ∃ n, as'.length = n := ⟨_, rfl⟩
  have hn2 : n ≤ 2000000 := by rw [← hnn]; exact hna
  rw [hnn]
  replace hnn := hide hnn
  go_wp2_with (fail)
  go_loopw [8] (fun ti wr => ∃ (k : Nat) (qs : List Pf), k ≤ n ∧ ti = .int .i64 k ∧ ShelfAt wr W.heap.size b qs ∧ Hid (okL (qs.map Prod.snd) = true) ∧ Hid (RunAt fs as' k (qs.map Prod.snd)) ∧ Below W.heap.size w1 wr) (fun ti _ => n - (intOf ti).toNat)
  case atStart => exact ⟨0, ps, Nat.zero_le _, rfl, unhide HS, by rw [unhide HP]; exact unhide HOK, by rw [unhide HP]; exact RunAt.start fs as', Below.refl _ _⟩
  case round =>
    obtain ⟨k, qs, hk, rfl, hsh, hqo, hrun, hbr⟩ := hrel
    have hsr := hbr.size
    by_cases hlt : k < n
    · obtain ⟨a, hak⟩ : ∃ a, as'[k]? = some a := ⟨as'[k]'(by rw [unhide hnn]; exact hlt), List.getElem?_eq_getElem _⟩
      obtain ⟨g, o, rfl, hg, hat⟩ := (unhide HA) k a hak
      have hbwr : Below w.heap.size w wr := (unhide hbw1).trans (hbr.mono (by omega))
      obtain ⟨d1, d2, d3, d4⟩ := hat.below hbwr hg
      have hgr : g < wr.heap.size := by have := hbwr.size; omega
      obtain ⟨z1, z2, z3⟩ := hA a (List.mem_of_getElem? hak)
      have hi0 : (0 : Int) ≤ (k : Int) := by omega
      have hi1 : (k : Int) < (n : Int) := by omega
      have C := hide (do_any qs a W.heap.size b wr hsh (unhide hqo) (by omega) (by omega))
      have HAL := hide (actL_yes (unhide hqo) a)
      have HAO := hide (fun o => actR_ok (fs := qs.map Prod.snd) (o := o) (a := a) (unhide hqo))
      obtain ⟨r, hr⟩ : ∃ r, actR (qs.map Prod.snd) a = r := ⟨_, rfl⟩
      rw [hr] at C HAL
      unfold acv at C
      unfold Did at C
      replace hbwr := hide hbwr
      replace hsh := hide hsh
      cases r with
      | none =>
        go_wp2_with (fail)
        go_at_call 36
        refine (unhide C).mono ?_
        rintro e w3 ⟨rfl, ⟨qs3, hs3, hp3⟩, hb3⟩
        have hp3' : qs3.map Prod.snd = qs.map Prod.snd := hp3
        (have xR3 := hide ((unhide xR1).below (hbr.trans hb3) (by omega)))
        have HS3 := hide hs3
        have hoo := hide (show okL (qs3.map Prod.snd) = true by rw [hp3']; exact unhide hqo)
        have HRUN := hide (show runL fs as' = (qs3.map Prod.snd, k) by rw [hp3']; exact (unhide hrun).stop hak (unhide HAL))
        have hbw3 := hide ((unhide hbw1).trans ((hbr.trans hb3).mono (by omega)))
        clear hs3 hp3 hp3' hb3 hbr hak
        go_wp2_with (go_at_call 37; refine (shelfDisk_any qs3 _ b _ (unhide HS3) (unhide hoo)).mono ?_; rintro e w4 ⟨⟨a4, c4, rfl, ho4⟩, hb4⟩; (have xR4 := (unhide xR3).step hb4); have cr4 := xR4.cell; have cz4 := xR4.frozen; have hl4 := xR4.lt)
        have hx3 := (unhide xR3).lt
        rw [List.length_map] at ho4
        have hof := hide ((ho4.other (a := ⟨w.heap.size + 1, 0, none⟩) (by show w.heap.size + 1 < _; omega) (.slice a4 qs3.length c4)).low (base' := w.heap.size) (by have := (unhide hbw3).size; omega))
        have hbf := hide ((bTr (unhide hbw3) hb4).setCell (p := ⟨w.heap.size + 1, 0, none⟩) (by show w.heap.size ≤ w.heap.size + 1; omega) (.slice a4 qs3.length c4))
        refine bodyPost_ret (v := .tuple #[.agg #[.slice a4 qs3.length c4], .int .i64 (k : Int)]) (by simp [results, Try.results15, go_sem, cr4]) rfl ?_
        rw [unhide HRUN]
        refine ⟨⟨a4, c4, by rw [List.length_map], ?_⟩, unhide hbf⟩
        rw [List.length_map]
        exact unhide hof
      | some o' =>
        have hoo := hide ((unhide HAO) o' hr)
        go_wp2_with (fail)
        go_at_call 36
        refine (unhide C).mono ?_
        rintro e w3 ⟨rfl, ⟨qs3, hs3, hp3⟩, hb3⟩
        have hp3' : qs3.map Prod.snd = o' := hp3
        have HN := hide ((unhide hrun).next hak (unhide HAL))
        have HS3 := hide hs3
        have HB3 := hide (hbr.trans hb3)
        have HLT := hide hlt
        clear hs3 hb3 hbr
        go_wp2
        go_roundw
        case rel => exact ⟨k + 1, qs3, by have := unhide HLT; omega, by go_num, unhide HS3, by rw [hp3']; exact hoo, by rw [hp3']; exact HN, unhide HB3⟩
        case measure => have := unhide HLT; simp [intOf]; omega
    · have hkn : as'.length ≤ k := by rw [unhide hnn]; omega
      (have xR3 := hide ((unhide xR1).below hbr (by omega)))
      have HS3 := hide hsh
      have hoo := hide (unhide hqo)
      have HRUN := hide ((unhide hrun).done hkn)
      have hbw3 := hide ((unhide hbw1).trans (hbr.mono (by omega)))
      clear hsh hbr hkn
      go_wp2_with (go_at_call 37; refine (shelfDisk_any qs _ b _ (unhide HS3) (unhide hoo)).mono ?_; rintro e w4 ⟨⟨a4, c4, rfl, ho4⟩, hb4⟩; (have xR4 := (unhide xR3).step hb4); have cr4 := xR4.cell; have cz4 := xR4.frozen; have hl4 := xR4.lt)
      have hx3 := (unhide xR3).lt
      rw [List.length_map] at ho4
      have hof := hide ((ho4.other (a := ⟨w.heap.size + 1, 0, none⟩) (by show w.heap.size + 1 < _; omega) (.slice a4 qs.length c4)).low (base' := w.heap.size) (by have := (unhide hbw3).size; omega))
      have hbf := hide ((bTr (unhide hbw3) hb4).setCell (p := ⟨w.heap.size + 1, 0, none⟩) (by show w.heap.size ≤ w.heap.size + 1; omega) (.slice a4 qs.length c4))
      refine bodyPost_ret (v := .tuple #[.agg #[.slice a4 qs.length c4], .int .i64 (k : Int)]) (by simp [results, Try.results15, go_sem, cr4]) rfl ?_
      rw [unhide HRUN]
      refine ⟨⟨a4, c4, by rw [List.length_map], ?_⟩, unhide hbf⟩
      rw [List.length_map]
      exact unhide hof

theorem implDoActs_any (fs : List Fl) (as' : List Ac) (v va : Value) (w : World) (hr : RdF w v fs) (ha : RdA w va as') (hB : Bd fs) (hn : fs.length ≤ 2000000) (hA : AcsBd as') (hna : as'.length ≤ 2000000) :
    Calls Try.prog 15 #[.agg #[v], va] w fun e w' => DnEnd 36 (runL fs as') w e w' := by
  cases hok : okL fs with
  | false => exact implDoActs_no fs as' v va w hr ha hB hn hok
  | true => exact implDoActs_yes fs as' v va w hr ha hB hn hA hna hok
end Go.Proofs.Ytkaaabpodhgbpaa
