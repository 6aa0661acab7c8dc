/- What is done on a shelf: kept, added to, moved. -/
import Derived.Test.YtfglljollonnfalShelfO
namespace Go.Proofs.Ytfglljollonnfal
open Go.RowKit
open Go.Maps (Keyed IsMap Tidy string_keyed)

theorem FlB.set0 {w : World} {g : Nat} {T : TypeId} {f : Fl} (h : FlB w g T f) (s : ByteArray) : FlB (w.setCell ⟨g, 0, none⟩ (.string s)) g T { f with nm := s } := heap_setCell_same w g 0 _ T _ h
theorem FlB.set1 {w : World} {g : Nat} {T : TypeId} {f : Fl} (h : FlB w g T f) (s : ByteArray) : FlB (w.setCell ⟨g, 1, none⟩ (.string s)) g T { f with tx := s } := heap_setCell_same w g 1 _ T _ h
theorem FlB.set2 {w : World} {g : Nat} {T : TypeId} {f : Fl} (h : FlB w g T f) (z : Int) : FlB (w.setCell ⟨g, 2, none⟩ (.int .i64 z)) g T { f with kp := z } := heap_setCell_same w g 2 _ T _ h

def keptF (f : Fl) : Fl := { f with kp := f.tx.size }
set_option maxRecDepth 20000 in
set_option maxHeartbeats 1000000 in
theorem keep_yes (ps : List Pf) (s : ByteArray) (base b g : Nat) (f : Fl) (w : World) (h : ShelfAt w base b ps) (ha : Asc (ps.map Prod.snd)) (hp : (g, f) ∈ ps) (hs : f.nm = s) (hz : s.size ≤ 4000000) :
    Calls Try.prog 55 #[.map (some b), .string s] w fun e w' => e = .returned (.bool true) ∧ ShelfAt w' base b (putP ps (g, keptF f)) ∧ Below base w w' := by
  have hrun := h.look hp hs hz
  have hf := (h.files _ hp).1
  have hlo := (h.files _ hp).2
  have hgl := hf.lt
  obtain ⟨d1, d2, d3⟩ := hf.at
  simp only [Nat.zero_add] at d2 d3
  have dz := hf.frozen
  have hsh := hide (h.turn ha hp (show (keptF f).nm = f.nm from rfl) (hf.set2 (f.tx.size : Int)) (gS w g 2 _))
  have hbw := hide ((Below.refl base w).setCell (p := ⟨g, 2, none⟩) hlo (.int .i64 (f.tx.size : Int)))
  clear h ha hp hs hf
  go_enter Try.func55, Try.ntmps55
  go_wp2
  go_ret
  exact ⟨rfl, unhide hsh, unhide hbw⟩
set_option maxHeartbeats 1000000 in
theorem keep_no (ps : List Pf) (s : ByteArray) (base b : Nat) (w : World) (h : ShelfAt w base b ps) (hp : ∀ p ∈ ps, p.2.nm ≠ s) (hz : s.size ≤ 4000000) :
    Calls Try.prog 55 #[.map (some b), .string s] w fun e w' => e = .returned (.bool false) ∧ w' = w := by
  have hrun := h.miss hp hz
  clear h hp
  go_enter Try.func55, Try.ntmps55
  go_wp2
  go_ret
  exact ⟨rfl, rfl⟩
/-- What stands there stored once more. -/
theorem ShelfAt.again {w w2 : World} {base b n : Nat} {ps : List Pf} {p : Pf} {D : DataW Unit} (h : ShelfAt w base b ps) (ha : Asc (ps.map Prod.snd)) (hD : Ch D ps) (hT : Tidy D) (hp : p ∈ ps)
    (hown : w2.ownsMap Try.prog 9 ptrR b n (D.put (.string (key p)) (.lit (.int .i64 (p.1 : Int))))) (hg2 : w.grownBy w2 (some b)) : ShelfAt w2 base b ps := by
  have huniq : ∀ q ∈ ps, key q = key p → q = p := by
    intro q hq e
    obtain ⟨i, hi⟩ := List.mem_iff_getElem?.1 hq
    obtain ⟨j, hj⟩ := List.mem_iff_getElem?.1 hp
    rcases Nat.lt_trichotomy i j with hij | hij | hij
    · have hjl := (List.getElem?_eq_some_iff.1 hj).1
      have := (List.pairwise_iff_getElem.1 ha) i j (by rw [List.length_map]; omega) (by rw [List.length_map]; exact hjl) hij
      rw [List.getElem_map, List.getElem_map] at this
      rw [List.getElem?_eq_getElem (by omega)] at hi hj
      rw [Option.some.inj hi, Option.some.inj hj] at this
      exact absurd (key_eq2.1 e) (ltB_ne this)
    · rw [hij] at hi
      exact Option.some.inj (hi.symm.trans hj)
    · have hil := (List.getElem?_eq_some_iff.1 hi).1
      have := (List.pairwise_iff_getElem.1 ha) j i (by rw [List.length_map]; omega) (by rw [List.length_map]; exact hil) hij
      rw [List.getElem_map, List.getElem_map] at this
      rw [List.getElem?_eq_getElem (by omega)] at hi hj
      rw [Option.some.inj hi, Option.some.inj hj] at this
      exact absurd (key_eq2.1 e).symm (ltB_ne this)
  have hch : Ch (D.put (.string (key p)) (.lit (.int .i64 (p.1 : Int)))) ps := by
    refine hD.put hT p (fun q => ?_) ?_
    · constructor
      · intro hq
        by_cases e : key q = key p
        · exact .inl (huniq q hq e)
        · exact .inr ⟨hq, e⟩
      · rintro (rfl | ⟨hq, _⟩)
        · exact hp
        · exact hq
    · rw [if_pos ⟨p, hp, rfl⟩]
  refine ⟨⟨_, by rw [← hch.size]; exact ownsMap_tight hown, hch⟩, fun q hq => ?_, h.apart, h.lo⟩
  refine ⟨?_, (h.files q hq).2⟩
  unfold FlB
  rw [hg2.block q.1 (h.files q hq).1.lt (by simp; exact h.notb q hq)]
  exact (h.files q hq).1
/-- One more file, in a new block, in its place. -/
theorem ShelfAt.insert {w w' w2 : World} {base b g n : Nat} {ps : List Pf} {f : Fl} {D : DataW Unit} (h : ShelfAt w base b ps) (ha : Asc (ps.map Prod.snd)) (hD : Ch D ps) (hT : Tidy D) (hgr : w.grownBy w' none) (hg : FlB w' g 63 f) (hgn : w.heap.size ≤ g) (hgb : base ≤ g)
    (hown : w2.ownsMap Try.prog 9 ptrR b n (D.put (.string f.nm.data.toList) (.lit (.int .i64 (g : Int))))) (hg2 : w'.grownBy w2 (some b)) : ShelfAt w2 base b (putP ps (g, f)) := by
  have hb := h.lt
  have hch : Ch (D.put (.string f.nm.data.toList) (.lit (.int .i64 (g : Int)))) (putP ps (g, f)) := hD.put hT (g, f) (fun q => mem_putP) (len_putP ha)
  have hin : ∀ q ∈ putP ps (g, f), q = (g, f) ∨ (q ∈ ps ∧ q.1 < w.heap.size) := by
    intro q hq
    rcases mem_putP.1 hq with h1 | ⟨h1, _⟩
    · exact .inl h1
    · exact .inr ⟨h1, (h.files q h1).1.lt⟩
  refine ⟨⟨_, by rw [← hch.size]; exact ownsMap_tight hown, hch⟩, fun p hp => ?_, ?_, h.lo⟩
  · rcases hin p hp with rfl | ⟨h1, h2⟩
    · refine ⟨?_, hgb⟩
      unfold FlB
      rw [hg2.block g hg.lt (by simp; omega)]
      exact hg
    · refine ⟨?_, (h.files p h1).2⟩
      unfold FlB
      rw [hg2.block p.1 (Nat.lt_of_lt_of_le h2 hgr.size) (by simp; exact h.notb p h1), hgr.block p.1 h2 (by simp)]
      exact (h.files p h1).1
  · intro p hp q hq e
    rcases hin p hp with rfl | ⟨h1, h2⟩
    · rcases hin q hq with rfl | ⟨h3, h4⟩
      · rfl
      · simp at e; omega
    · rcases hin q hq with rfl | ⟨h3, h4⟩
      · simp at e; omega
      · exact h.apart p h1 q h3 e
theorem putP_asc {ps : List Pf} {p : Pf} (h : Asc (ps.map Prod.snd)) : Asc ((putP ps p).map Prod.snd) := by
  rw [putP_map]
  exact putL_asc h

def addF (f : Fl) (t : ByteArray) : Fl := { f with tx := f.tx ++ t }
theorem nameOk_at2 (s : ByteArray) (b : Bool) (h : nameB s = b) (w : World) (hs : s.size ≤ 4000000) :
    Calls Try.prog 63 #[.string s] w fun e w' => e = .returned (.bool b) ∧ w' = w := by
  rw [← h]; exact nameOk_any s w hs
set_option maxRecDepth 20000 in
set_option maxHeartbeats 1000000 in
theorem add_yes (ps : List Pf) (s t : ByteArray) (base b g : Nat) (f : Fl) (w : World) (h : ShelfAt w base b ps) (ha : Asc (ps.map Prod.snd)) (hp : (g, f) ∈ ps) (hs : f.nm = s) (hn : nameB s = true) (hz : s.size ≤ 4000000) (hft : f.tx.size ≤ 20000) (hfit : f.tx.size + t.size ≤ 20000) (hl : ps.length ≤ 30) :
    Calls Try.prog 54 #[.map (some b), .string s, .string t] w fun e w' => e = .returned (.bool true) ∧ ShelfAt w' base b (putP ps (g, addF f t)) ∧ Below base w w' := by
  have hrun := h.look hp hs hz
  have hf := (h.files _ hp).1
  have hlo := (h.files _ hp).2
  have hgl := hf.lt
  obtain ⟨d1, d2, d3⟩ := hf.at
  simp only [Nat.zero_add] at d2 d3
  have dz := hf.frozen
  have hsh1 := h.turn ha hp (show (addF f t).nm = f.nm from rfl) (hf.set1 (f.tx ++ t)) (gS w g 1 _)
  obtain ⟨D, hown, hch⟩ := hsh1.map
  have hT := hide (hown.tidy lawK)
  have HA := hide (putP_asc (p := (g, addF f t)) ha)
  have HP := hide (show (g, addF f t) ∈ putP ps (g, addF f t) from mem_putP.2 (.inl rfl))
  have hkey := keyS hz
  have hkk := hide (show key (g, addF f t) = s.data.toList from key_eq.2 hs)
  have hbl := h.lo
  have hbl2 := h.lt
  have hpl : (putP ps (g, addF f t)).length ≤ 31 := by rw [len_putP ha]; split <;> omega
  have HCH := hide hch
  have HSH := hide hsh1
  have HN := hide hn
  have c1 : (f.tx.size : Int) ≤ 20000 := by omega
  have c2 : ¬ (20000 : Int) - (f.tx.size : Int) < (t.size : Int) := by omega
  have c3 : t.size ≤ 20000 := by omega
  have c4 : f.tx.size + t.size ≤ 9223372036854775807 := by omega
  clear h ha hp hs hf hch hsh1 hn hfit hft
  go_enter Try.func54, Try.ntmps54
  go_wp2_with (first
    | (go_at_call 63; refine (nameOk_at2 s _ (unhide HN) _ hz).mono ?_; rintro e w1 ⟨rfl, rfl⟩)
    | (at_mapUpdate; refine wpList_mapUpdate_own _ rfl _ _ _ 68 rfl 9 84 lawK Try.underlying68 ptrR b _ D rfl hown (by unfold maxLen; omega) _ _ _ rfl rfl hkey _ [] (ptrR_mk g) ?_; intro w2 hown2 hg2))
  rw [← unhide hkk] at hown2
  have hsh2 := hide ((unhide HSH).again (unhide HA) (unhide HCH) (unhide hT) (unhide HP) hown2 hg2)
  have hbw := hide (((Below.refl base w1).setCell (p := ⟨g, 1, none⟩) hlo (.string (f.tx ++ t))).trans (gBelow (B := base) hg2 (by simp; omega) (fun k hk => by cases hk; exact hbl)))
  go_ret
  exact ⟨rfl, unhide hsh2, unhide hbw⟩
set_option maxHeartbeats 1000000 in
theorem add_full (ps : List Pf) (s t : ByteArray) (base b g : Nat) (f : Fl) (w : World) (h : ShelfAt w base b ps) (hp : (g, f) ∈ ps) (hs : f.nm = s) (hn : nameB s = true) (hz : s.size ≤ 4000000) (hft : f.tx.size ≤ 20000) (hfit : 20000 < f.tx.size + t.size) :
    Calls Try.prog 54 #[.map (some b), .string s, .string t] w fun e w' => e = .returned (.bool false) ∧ w' = w := by
  have hrun := h.look hp hs hz
  have hf := (h.files _ hp).1
  obtain ⟨d1, d2, d3⟩ := hf.at
  simp only [Nat.zero_add] at d2 d3
  have HN := hide hn
  have c1 : (f.tx.size : Int) ≤ 20000 := by omega
  have c2 : (20000 : Int) - (f.tx.size : Int) < (t.size : Int) := by omega
  clear h hp hs hf hn hfit hft
  go_enter Try.func54, Try.ntmps54
  go_wp2_with (go_at_call 63; refine (nameOk_at2 s _ (unhide HN) _ hz).mono ?_; rintro e w1 ⟨rfl, rfl⟩)
  go_ret
  exact ⟨rfl, rfl⟩
def newF (s t : ByteArray) : Fl := ⟨s, t, 0⟩
set_option maxRecDepth 20000 in
set_option maxHeartbeats 1000000 in
theorem add_new (ps : List Pf) (s t : ByteArray) (base b : Nat) (w : World) (h : ShelfAt w base b ps) (ha : Asc (ps.map Prod.snd)) (hp : ∀ p ∈ ps, p.2.nm ≠ s) (hn : nameB s = true) (hz : s.size ≤ 4000000) (hfit : t.size ≤ 20000) (hl : ps.length < 30) :
    Calls Try.prog 54 #[.map (some b), .string s, .string t] w fun e w' => e = .returned (.bool true) ∧ (∃ g, ShelfAt w' base b (putP ps (g, newF s t))) ∧ Below base w w' := by
  have hrun := h.miss hp hz
  obtain ⟨D, hown, hch⟩ := h.map
  have hT := hide (hown.tidy lawK)
  have hsize : (Maps.size D : Int) = ps.length := by rw [hch.size]
  have hlen := (hown.alloc (.cells #[.string s, .string ⟨#[]⟩, .int .i64 0] 63)).len Try.underlying68 3
  rw [hch.size] at hlen
  have hlb : (((ps.length : Nat) : Int) == 30) = false := by rw [beq_eq_false_iff_ne]; omega
  have hkey := keyS hz
  have hbl := h.lo
  have hbl2 := h.lt
  have HCH := hide hch
  have HSH := hide h
  have HA := hide ha
  have HN := hide hn
  have c2 : ¬ (20000 : Int) < (t.size : Int) := by omega
  have he : (⟨#[]⟩ : ByteArray) ++ t = t := by apply ba_ext; simp
  clear h ha hp hch hn hsize
  go_enter Try.func54, Try.ntmps54
  go_wp2_with (first
    | (go_at_call 63; refine (nameOk_at2 s _ (unhide HN) _ hz).mono ?_; rintro e w1 ⟨rfl, hw1⟩; subst hw1)
    | (at_mapUpdate; refine wpList_mapUpdate_own _ rfl _ _ _ 68 rfl 9 84 lawK Try.underlying68 ptrR b _ D rfl (hown.alloc _) (by unfold maxLen; omega) _ _ _ rfl rfl hkey _ [] (ptrR_mk w.heap.size) ?_; intro w2 hown2 hg2))
  have hsh2 := hide ((unhide HSH).insert (g := w.heap.size) (f := newF s t) (unhide HA) (unhide HCH) (unhide hT) (gB ((Below.refl _ w).alloc (Nat.le_refl _) _) none) (FlB.new w _ (newF s t)) (Nat.le_refl _) (by omega) hown2 hg2)
  have hbw := hide (((Below.refl base w).alloc (Nat.le_trans hbl (Nat.le_of_lt hbl2)) (.cells #[.string s, .string t, .int .i64 0] 63)).trans (gBelow (B := base) hg2 (by simp; omega) (fun k hk => by cases hk; exact hbl)))
  go_ret
  exact ⟨rfl, ⟨_, unhide hsh2⟩, unhide hbw⟩
end Go.Proofs.Ytfglljollonnfal
