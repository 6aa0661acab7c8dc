/- What an act makes of a right disk, in plain words; and that a shelf does it. -/
import Derived.Test.YtkaaabpodhgbpaaShelfPV
namespace Go.Proofs.Ytkaaabpodhgbpaa
open Go.RowKit
open Go.Maps (Keyed IsMap Tidy string_keyed)

def noB : ByteArray := ⟨#[]⟩
def okO (o : List Fl) : Option (List Fl) := if okL o = true then some o else none
theorem okO_yes {o : List Fl} (h : okL o = true) : okO o = some o := by unfold okO; rw [if_pos h]
theorem okO_no {o : List Fl} (h : okL o = false) : okO o = none := by unfold okO; rw [if_neg (by rw [h]; decide)]
def addR (fs : List Fl) (nm tx : ByteArray) : Option (List Fl) := if nameB nm = true then okO (putL fs (addF ((findL fs nm).getD (newF nm noB)) tx)) else none
def keepR (fs : List Fl) (nm : ByteArray) : Option (List Fl) := (findL fs nm).map fun f => putL fs (keptF f)
def canB (f : Fl) (nm to : ByteArray) : Bool := wholeB f && (!(sameN to nm) && nameB to)
def moveR (fs : List Fl) (nm to : ByteArray) : Option (List Fl) := (findL fs nm).bind fun f => if canB f nm to = true then some (putL (withoutL fs nm) (movF f to)) else none
def dropR (fs : List Fl) (nm : ByteArray) : Option (List Fl) := (findL fs nm).map fun _ => withoutL fs nm

theorem findL_mem {fs : List Fl} {s : ByteArray} {f : Fl} (h : findL fs s = some f) : f ∈ fs ∧ f.nm = s := by
  unfold findL at h
  exact ⟨List.mem_of_find?_eq_some h, sameN_iff.1 (by simpa using List.find?_some h)⟩
theorem findL_not {fs : List Fl} {s : ByteArray} (h : findL fs s = none) : ∀ f ∈ fs, f.nm ≠ s := by
  intro f hf e
  unfold findL at h
  have := List.find?_eq_none.1 h f hf
  exact this (sameN_iff.2 e)
theorem find_in {ps : List Pf} {s : ByteArray} {f : Fl} (h : findL (ps.map Prod.snd) s = some f) : ∃ g, (g, f) ∈ ps ∧ f.nm = s := by
  obtain ⟨h1, h2⟩ := findL_mem h
  obtain ⟨p, hp, e⟩ := List.mem_map.1 h1
  exact ⟨p.1, by rw [← e]; exact hp, h2⟩
theorem find_out {ps : List Pf} {s : ByteArray} (h : findL (ps.map Prod.snd) s = none) : ∀ p ∈ ps, p.2.nm ≠ s := fun p hp => findL_not h p.2 (List.mem_map.2 ⟨p, hp, rfl⟩)
theorem okL_not {fs : List Fl} {f : Fl} (h : f ∈ fs) (hf : fileB f = false) : okL fs = false := by
  rw [← Bool.not_eq_true, okL_iff]
  rintro ⟨_, h2, _⟩
  rw [h2 f h] at hf
  cases hf
theorem mem_putL (fs : List Fl) (f : Fl) : f ∈ putL fs f := by unfold putL; simp
def tag (fs : List Fl) : List Pf := fs.map fun f => (0, f)
theorem tag_snd (fs : List Fl) : (tag fs).map Prod.snd = fs := by
  unfold tag
  induction fs with
  | nil => rfl
  | cons a t ih => rw [List.map_cons, List.map_cons, ih]
theorem putL_there {fs : List Fl} {f x : Fl} (ha : Asc fs) (hx : x ∈ fs) (e : x.nm = f.nm) : (putL fs f).length = fs.length := by
  have h := putP_map (tag fs) (0, f)
  rw [tag_snd] at h
  have hl := len_putP (ps := tag fs) (p := (0, f)) (by rw [tag_snd]; exact ha)
  rw [if_pos ⟨(0, x), List.mem_map.2 ⟨x, hx, rfl⟩, key_eq2.2 e⟩] at hl
  rw [← h, List.length_map, hl]
  unfold tag
  rw [List.length_map]
theorem putL_new {fs : List Fl} {f : Fl} (ha : Asc fs) (hx : ∀ x ∈ fs, x.nm ≠ f.nm) : (putL fs f).length = fs.length + 1 := by
  have h := putP_map (tag fs) (0, f)
  rw [tag_snd] at h
  have hl := len_putP (ps := tag fs) (p := (0, f)) (by rw [tag_snd]; exact ha)
  rw [if_neg (by
    rintro ⟨q, hq, e⟩
    obtain ⟨x, hx1, rfl⟩ := List.mem_map.1 hq
    exact hx x hx1 (key_eq2.1 e))] at hl
  rw [← h, List.length_map, hl]
  unfold tag
  rw [List.length_map]
theorem okL_put {fs : List Fl} {f : Fl} (h : okL fs = true) (hf : fileB f = true) (hl : (putL fs f).length ≤ 30) : okL (putL fs f) = true := by
  obtain ⟨h1, h2, h3⟩ := okL_iff.1 h
  refine okL_iff.2 ⟨hl, fun x hx => ?_, putL_asc h3⟩
  rcases putL_mem hx with rfl | h4
  · exact hf
  · exact h2 x h4
theorem without_less {fs : List Fl} {f : Fl} (hf : f ∈ fs) : (withoutL fs f.nm).length + 1 ≤ fs.length := by
  unfold withoutL
  have h1 : (fs.filter (otherB f.nm)).length + (fs.filter fun x => !(otherB f.nm x)).length = fs.length := by
    induction fs with
    | nil => rfl
    | cons a t ih =>
      by_cases ht : f ∈ t
      · have := ih ht
        simp only [List.filter_cons]
        cases otherB f.nm a <;> simp <;> omega
      · have hz : ∀ t : List Fl, (t.filter (otherB f.nm)).length + (t.filter fun x => !(otherB f.nm x)).length = t.length := by
          intro t
          induction t with
          | nil => rfl
          | cons b u ihu =>
            simp only [List.filter_cons]
            cases otherB f.nm b <;> simp <;> omega
        exact hz (a :: t)
  have h2 : 0 < (fs.filter fun x => !(otherB f.nm x)).length := by
    apply List.length_pos_of_mem (a := f)
    rw [List.mem_filter]
    refine ⟨hf, ?_⟩
    unfold otherB
    rw [sameN_iff.2 rfl]
    rfl
  omega
theorem withoutL_ok {fs : List Fl} (s : ByteArray) (h : okL fs = true) : okL (withoutL fs s) = true := by
  obtain ⟨h1, h2, h3⟩ := okL_iff.1 h
  exact okL_iff.2 ⟨Nat.le_trans (List.length_filter_le _ _) h1, fun x hx => h2 x (List.mem_filter.1 hx).1, withoutL_asc s h3⟩
theorem keptF_ok {f : Fl} (h : fileB f = true) : fileB (keptF f) = true := by
  have h1 := fileB_kept h
  exact fileB_mk (show nameB f.nm = true from fileB_name h) h1.2.2 ⟨by show (0 : Int) ≤ (f.tx.size : Int); omega, Int.le_refl _⟩
theorem movF_ok {f : Fl} {t : ByteArray} (h : fileB f = true) (hn : nameB t = true) : fileB (movF f t) = true := by
  have h1 := fileB_kept h
  exact fileB_mk hn h1.2.2 ⟨h1.1, h1.2.1⟩
theorem keepR_ok {fs o : List Fl} {s : ByteArray} (h : okL fs = true) (ho : keepR fs s = some o) : okL o = true := by
  obtain ⟨h1, h2, h3⟩ := okL_iff.1 h
  unfold keepR at ho
  cases e : findL fs s with
  | none => rw [e] at ho; cases ho
  | some f =>
    rw [e] at ho
    cases ho
    obtain ⟨hm, _⟩ := findL_mem e
    exact okL_put h (keptF_ok (h2 f hm)) (by rw [putL_there (f := keptF f) h3 hm rfl]; exact h1)
theorem dropR_ok {fs o : List Fl} {s : ByteArray} (h : okL fs = true) (ho : dropR fs s = some o) : okL o = true := by
  unfold dropR at ho
  cases e : findL fs s with
  | none => rw [e] at ho; cases ho
  | some f => rw [e] at ho; cases ho; exact withoutL_ok s h
theorem moveR_ok {fs o : List Fl} {s t : ByteArray} (h : okL fs = true) (ho : moveR fs s t = some o) : okL o = true := by
  obtain ⟨h1, h2, h3⟩ := okL_iff.1 h
  unfold moveR at ho
  cases e : findL fs s with
  | none => rw [e] at ho; cases ho
  | some f =>
    rw [e] at ho
    obtain ⟨hm, hs⟩ := findL_mem e
    simp only [Option.bind_some] at ho
    split at ho
    · rename_i hc
      cases ho
      unfold canB at hc
      simp only [Bool.and_eq_true] at hc
      refine okL_put (withoutL_ok s h) (movF_ok (h2 f hm) hc.2.2) ?_
      have := putL_len' (withoutL fs s) (movF f t)
      have h4 := without_less hm
      rw [hs] at h4
      omega
    · cases ho
theorem addR_ok {fs o : List Fl} {s t : ByteArray} (ho : addR fs s t = some o) : okL o = true := by
  unfold addR okO at ho
  split at ho
  · split at ho
    · cases ho; assumption
    · cases ho
  · cases ho

/-- How an act on a shelf ends. -/
def Did (fs : List Fl) (r : Option (List Fl)) (base b : Nat) (w : World) (e : Ending) (w' : World) : Prop :=
  e = .returned (.bool r.isSome) ∧ (∃ ps', ShelfAt w' base b ps' ∧ ps'.map Prod.snd = r.getD fs) ∧ Below base w w'

theorem add_any (ps : List Pf) (s t : ByteArray) (base b : Nat) (w : World) (h : ShelfAt w base b ps) (hok : okL (ps.map Prod.snd) = true) (hz : s.size ≤ 4000000) :
    Calls Try.prog 50 #[.map (some b), .string s, .string t] w (Did (ps.map Prod.snd) (addR (ps.map Prod.snd) s t) base b w) := by
  obtain ⟨h1, h2, h3⟩ := okL_iff.1 hok
  rw [List.length_map] at h1
  unfold addR
  have hno : ∀ r : Option (List Fl), r = none → ∀ (e : Ending) (w' : World), (e = .returned (.bool false) ∧ ShelfAt w' base b ps ∧ Below base w w') → Did (ps.map Prod.snd) r base b w e w' := by
    rintro r rfl e w' ⟨rfl, h5, h6⟩
    exact ⟨rfl, ⟨ps, h5, rfl⟩, h6⟩
  cases e : findL (ps.map Prod.snd) s with
  | some f =>
    obtain ⟨g, hp, hs⟩ := find_in e
    have hf := h2 f (List.mem_map.2 ⟨_, hp, rfl⟩)
    have hn : nameB s = true := by rw [← hs]; exact fileB_name hf
    have hk := fileB_kept hf
    rw [if_pos hn]
    simp only [Option.getD_some]
    by_cases hfit : f.tx.size + t.size ≤ 20000
    · have hok2 : okL (putL (ps.map Prod.snd) (addF f t)) = true := by
        refine okL_put hok (fileB_mk (show nameB f.nm = true from fileB_name hf) (by show (f.tx ++ t).size ≤ 20000; rw [ByteArray.size_append]; exact hfit) ⟨hk.1, ?_⟩) ?_
        · show f.kp ≤ ((f.tx ++ t).size : Int)
          rw [ByteArray.size_append]
          omega
        · rw [putL_there (f := addF f t) (x := f) h3 (List.mem_map.2 ⟨_, hp, rfl⟩) rfl, List.length_map]; exact h1
      rw [okO_yes hok2]
      refine (add_yes ps s t base b g f w h h3 hp hs hn hz hk.2.2 hfit h1).mono ?_
      rintro e w' ⟨rfl, h5, h6⟩
      exact ⟨rfl, ⟨_, h5, putP_map _ _⟩, h6⟩
    · have hok2 : okL (putL (ps.map Prod.snd) (addF f t)) = false := by
        refine okL_not (mem_putL _ _) ?_
        unfold fileB
        rw [show decide ((addF f t).tx.size ≤ 20000) = false from by rw [decide_eq_false_iff_not]; show ¬ (f.tx ++ t).size ≤ 20000; rw [ByteArray.size_append]; exact hfit]
        simp
      rw [okO_no hok2]
      refine (add_full ps s t base b g f w h hp hs hn hz hk.2.2 (by omega)).mono ?_
      rintro e w' ⟨rfl, rfl⟩
      exact ⟨rfl, ⟨ps, h, rfl⟩, Below.refl _ _⟩
  | none =>
    have hp := find_out e
    have hpf := findL_not e
    simp only [Option.getD_none]
    have hnt : (addF (newF s noB) t) = newF s t := by unfold addF newF noB; simp only [Fl.mk.injEq, and_true, true_and]; apply ba_ext; simp
    rw [hnt]
    by_cases hl : ps.length = 30
    · refine (add_many ps s t base b w h hp hz hl).mono (hno _ ?_)
      split
      · refine okO_no ?_
        rw [← Bool.not_eq_true, okL_iff]
        rintro ⟨h4, _⟩
        rw [putL_new h3 hpf, List.length_map] at h4
        omega
      · rfl
    · have hl' : ps.length < 30 := by omega
      cases hn : nameB s with
      | false =>
        refine (add_bad ps s t base b w h hp hn hz hl').mono (hno _ ?_)
        rw [if_neg (by decide)]
      | true =>
        rw [if_pos rfl]
        by_cases hfit : t.size ≤ 20000
        · have hok2 : okL (putL (ps.map Prod.snd) (newF s t)) = true := by
            refine okL_put hok (fileB_mk hn hfit ⟨Int.le_refl _, by show (0 : Int) ≤ (t.size : Int); omega⟩) ?_
            rw [putL_new h3 hpf, List.length_map]
            omega
          rw [okO_yes hok2]
          refine (add_new ps s t base b w h h3 hp hn hz hfit hl').mono ?_
          rintro e w' ⟨rfl, ⟨g, h5⟩, h6⟩
          exact ⟨rfl, ⟨_, h5, putP_map _ _⟩, h6⟩
        · refine (add_long ps s t base b w h hp hn hz (by omega) hl').mono (hno _ (okO_no (okL_not (mem_putL _ _) ?_)))
          unfold fileB
          rw [show decide ((newF s t).tx.size ≤ 20000) = false from by rw [decide_eq_false_iff_not]; exact hfit]
          simp
theorem keep_any (ps : List Pf) (s : ByteArray) (base b : Nat) (w : World) (h : ShelfAt w base b ps) (hok : okL (ps.map Prod.snd) = true) (hz : s.size ≤ 4000000) :
    Calls Try.prog 51 #[.map (some b), .string s] w (Did (ps.map Prod.snd) (keepR (ps.map Prod.snd) s) base b w) := by
  obtain ⟨_, _, h3⟩ := okL_iff.1 hok
  unfold keepR
  cases e : findL (ps.map Prod.snd) s with
  | some f =>
    obtain ⟨g, hp, hs⟩ := find_in e
    refine (keep_yes ps s base b g f w h h3 hp hs hz).mono ?_
    rintro e w' ⟨rfl, h5, h6⟩
    exact ⟨rfl, ⟨_, h5, putP_map _ _⟩, h6⟩
  | none =>
    refine (keep_no ps s base b w h (find_out e) hz).mono ?_
    rintro e w' ⟨rfl, rfl⟩
    exact ⟨rfl, ⟨ps, h, rfl⟩, Below.refl _ _⟩
theorem drop_did (ps : List Pf) (s : ByteArray) (base b : Nat) (w : World) (h : ShelfAt w base b ps) (hok : okL (ps.map Prod.snd) = true) (hz : s.size ≤ 4000000) :
    Calls Try.prog 53 #[.map (some b), .string s] w (Did (ps.map Prod.snd) (dropR (ps.map Prod.snd) s) base b w) := by
  obtain ⟨_, _, h3⟩ := okL_iff.1 hok
  unfold dropR
  refine (drop_any ps s base b w h h3 hz).mono ?_
  rintro e w' ⟨rfl, h5, h6⟩
  cases e : findL (ps.map Prod.snd) s with
  | some f =>
    obtain ⟨g, hp, hs⟩ := find_in e
    exact ⟨by rw [hasP_iff.2 ⟨_, hp, hs⟩]; rfl, ⟨_, h5, withoutP_map _ _⟩, h6⟩
  | none =>
    have hp := find_out e
    refine ⟨by rw [hasP_no.2 hp]; rfl, ⟨_, h5, ?_⟩, h6⟩
    show (withoutP ps s).map Prod.snd = ps.map Prod.snd
    congr 1
    unfold withoutP
    rw [List.filter_eq_self]
    intro q hq
    unfold otherB
    rw [sameN_no.2 (hp q hq)]
    rfl
theorem move_any (ps : List Pf) (s t : ByteArray) (base b : Nat) (w : World) (h : ShelfAt w base b ps) (hok : okL (ps.map Prod.snd) = true) (hz : s.size ≤ 4000000) (hzt : t.size ≤ 4000000) :
    Calls Try.prog 52 #[.map (some b), .string s, .string t] w (Did (ps.map Prod.snd) (moveR (ps.map Prod.snd) s t) base b w) := by
  obtain ⟨h1, h2, h3⟩ := okL_iff.1 hok
  rw [List.length_map] at h1
  unfold moveR
  have hno : ∀ r : Option (List Fl), r = none → ∀ (e : Ending) (w' : World), (e = .returned (.bool false) ∧ ShelfAt w' base b ps ∧ Below base w w') → Did (ps.map Prod.snd) r base b w e w' := by
    rintro r rfl e w' ⟨rfl, h5, h6⟩
    exact ⟨rfl, ⟨ps, h5, rfl⟩, h6⟩
  cases e : findL (ps.map Prod.snd) s with
  | none => exact (move_none ps s t base b w h (find_out e) hz).mono (hno _ rfl)
  | some f =>
    obtain ⟨g, hp, hs⟩ := find_in e
    have hf := h2 f (List.mem_map.2 ⟨_, hp, rfl⟩)
    have hk := fileB_kept hf
    simp only [Option.bind_some]
    cases hw : wholeB f with
    | false =>
      refine (move_part ps s t base b g f w h hp hs hz hk.2.2 hw).mono (hno _ ?_)
      unfold canB
      rw [hw]
      rfl
    | true =>
      by_cases hne : t = s
      · subst hne
        refine (move_same ps t base b g f w h hp hs hz hk.2.2 hw).mono (hno _ ?_)
        unfold canB
        rw [hw, sameN_iff.2 rfl]
        rfl
      · cases hn : nameB t with
        | false =>
          refine (move_bad ps s t base b g f w h hp hs hz hzt hk.2.2 hw hne hn).mono (hno _ ?_)
          unfold canB
          rw [hw, sameN_no.2 hne, hn]
          rfl
        | true =>
          have hc : canB f s t = true := by
            unfold canB
            rw [hw, sameN_no.2 hne, hn]
            rfl
          rw [if_pos hc]
          refine (move_yes ps s t base b g f w h h3 hp hs hz hzt hk.2.2 hw hne hn h1).mono ?_
          rintro e w' ⟨rfl, h5, h6⟩
          exact ⟨rfl, ⟨_, h5, by rw [putP_map, withoutP_map]; rfl⟩, h6⟩
end Go.Proofs.Ytkaaabpodhgbpaa
