/- A shelf's file moved. -/
import Derived.Test.YtfglljollonnfalShelfN
namespace Go.Proofs.Ytfglljollonnfal
open Go.RowKit
open Go.Maps (Keyed IsMap Tidy string_keyed)

def movF (f : Fl) (t : ByteArray) : Fl := { f with nm := t }
set_option maxHeartbeats 1000000 in
theorem move_none (ps : List Pf) (s t : ByteArray) (base b : Nat) (w : World) (h : ShelfAt w base b ps) (hp : ∀ p ∈ ps, p.2.nm ≠ s) (hz : s.size ≤ 4000000) :
    Calls Try.prog 56 #[.map (some b), .string s, .string t] w fun e w' => e = .returned (.bool false) ∧ ShelfAt w' base b ps ∧ Below base w w' := by
  have hrun := h.miss hp hz
  have H := hide h
  clear h hp
  go_enter Try.func56, Try.ntmps56
  go_wp2
  go_ret
  exact ⟨rfl, unhide H, Below.refl _ _⟩
set_option maxRecDepth 20000 in
set_option maxHeartbeats 1000000 in
theorem move_part (ps : List Pf) (s t : ByteArray) (base b g : Nat) (f : Fl) (w : World) (h : ShelfAt w base b ps) (hp : (g, f) ∈ ps) (hs : f.nm = s) (hz : s.size ≤ 4000000) (hft : f.tx.size ≤ 20000) (hk : wholeB f = false) :
    Calls Try.prog 56 #[.map (some b), .string s, .string t] w fun e w' => e = .returned (.bool false) ∧ ShelfAt w' base b ps ∧ Below base w w' := by
  have hrun := h.look hp hs hz
  have hf := (h.files _ hp).1
  have hgl := hf.lt
  obtain ⟨d1, d2, d3⟩ := hf.at
  simp only [Nat.zero_add] at d2 d3
  have hft4 : f.tx.size ≤ 4000000 := by omega
  have HK := hide hk
  have H := hide h
  clear h hp hs hf hk
  go_enter Try.func56, Try.ntmps56
  go_wp2_with (go_at_call 51; refine (fileAllKept_at f _ (unhide HK) _ hft4).mono ?_; rintro e w1 ⟨rfl, hb1⟩)
  have H1 := hide ((unhide H).below hb1)
  have H2 := hide (hb1.mono (Nat.le_trans (unhide H).lo (Nat.le_of_lt (unhide H).lt)))
  go_ret
  exact ⟨rfl, unhide H1, unhide H2⟩
set_option maxRecDepth 20000 in
set_option maxHeartbeats 1000000 in
theorem move_yes (ps : List Pf) (s t : ByteArray) (base b g : Nat) (f : Fl) (w : World) (h : ShelfAt w base b ps) (ha : Asc (ps.map Prod.snd)) (hp : (g, f) ∈ ps) (hs : f.nm = s) (hz : s.size ≤ 4000000) (hzt : t.size ≤ 4000000) (hft : f.tx.size ≤ 20000) (hk : wholeB f = true) (hne : t ≠ s) (hn : nameB t = true) (hl : ps.length ≤ 30) :
    Calls Try.prog 56 #[.map (some b), .string s, .string t] w fun e w' => e = .returned (.bool true) ∧ ShelfAt w' base b (putP (withoutP ps s) (g, movF f t)) ∧ Below base w w' := by
  have hrun := h.look hp hs hz
  have hf := (h.files _ hp).1
  have hgl := hf.lt
  obtain ⟨d1, d2, d3⟩ := hf.at
  simp only [Nat.zero_add] at d2 d3
  have hft4 : f.tx.size ≤ 4000000 := by omega
  have HK := hide hk
  have H := hide h
  have HN := hide hn
  have HP := hide hp
  have HS := hide hs
  have HA := hide ha
  have hkey := keyS hz
  have hkeyt := keyS hzt
  have hsame : (t.toList == s.toList) = false := by
    have := sameN_no.2 hne
    exact this
  clear h hp hs hf hk hn ha
  go_enter Try.func56, Try.ntmps56
  go_wp2_with (go_at_call 51; refine (fileAllKept_at f _ (unhide HK) _ hft4).mono ?_; rintro e w1 ⟨rfl, hb1⟩)
  have H1 := hide ((unhide H).below hb1)
  have H2 := hide (hb1.mono (Nat.le_trans (unhide H).lo (Nat.le_of_lt (unhide H).lt)))
  have hf1 := ((unhide H1).files _ (unhide HP)).1
  have hlo := ((unhide H1).files _ (unhide HP)).2
  have hgl1 := hf1.lt
  have dz := hf1.frozen
  obtain ⟨d4, _, _⟩ := hf1.at
  have hbl := (unhide H1).lo
  have hbl2 := (unhide H1).lt
  have hgr1 := hide (gS w1 g 0 (.string t))
  have hset := hide (hf1.set0 t)
  have hgb := (unhide H1).notb _ (unhide HP)
  obtain ⟨D, hown, hch⟩ := (unhide H1).map
  have hT := hide (hown.tidy lawK)
  have hownS := hown.kept (unhide hgr1) (by simp; exact fun e => hgb e.symm)
  have HCH := hide hch
  have hb1h := hide hb1
  clear hch hf1 hb1 hrun d1 d2 d3 hown
  go_wp2_with (first
    | (go_at_call 63; refine (nameOk_at2 t _ (unhide HN) _ hzt).mono ?_; rintro e w2 ⟨rfl, hw2⟩; subst hw2)
    | (at_mapUpdate; refine wpList_mapUpdate_own _ rfl _ _ _ 68 rfl 9 84 lawK Try.underlying68 ptrR b _ D rfl hownS (by unfold maxLen; omega) _ _ _ rfl rfl hkeyt _ [] (ptrR_mk g) ?_; intro w3 hown3 hg3)
    | (at_delete; refine wpList_delete_own _ rfl _ _ 68 9 rfl 84 lawK Try.underlying68 ptrR b _ _ rfl hown3 _ _ rfl hkey ?_; intro w4 hown4 hturn4))
  have hs := unhide HS
  subst hs
  have hsh := hide ((unhide H1).move (f' := movF f t) (unhide HA) (unhide HCH) (unhide hT) (unhide HP) hne (unhide hset) (unhide hgr1) (hown3.tidy lawK) hg3 hown4 hturn4.grown)
  have hB := hide (((unhide H2).trans (gBelow (B := base) (unhide hgr1) (by omega) (fun k hk => by cases hk; exact hlo))).trans ((gBelow (B := base) hg3 (by simp; omega) (fun k hk => by cases hk; exact hbl)).trans (gBelow (B := base) hturn4.grown (Nat.le_trans (by simp; omega) hg3.size) (fun k hk => by cases hk; exact hbl))))
  go_ret
  exact ⟨rfl, unhide hsh, unhide hB⟩
set_option maxRecDepth 20000 in
set_option maxHeartbeats 1000000 in
theorem move_same (ps : List Pf) (s : ByteArray) (base b g : Nat) (f : Fl) (w : World) (h : ShelfAt w base b ps) (hp : (g, f) ∈ ps) (hs : f.nm = s) (hz : s.size ≤ 4000000) (hft : f.tx.size ≤ 20000) (hk : wholeB f = true) :
    Calls Try.prog 56 #[.map (some b), .string s, .string s] w fun e w' => e = .returned (.bool false) ∧ ShelfAt w' base b ps ∧ Below base w w' := by
  have hrun := h.look hp hs hz
  have hf := (h.files _ hp).1
  have hgl := hf.lt
  obtain ⟨d1, d2, d3⟩ := hf.at
  simp only [Nat.zero_add] at d2 d3
  have hft4 : f.tx.size ≤ 4000000 := by omega
  have HK := hide hk
  have H := hide h
  clear h hp hs hf hk
  go_enter Try.func56, Try.ntmps56
  go_wp2_with (go_at_call 51; refine (fileAllKept_at f _ (unhide HK) _ hft4).mono ?_; rintro e w1 ⟨rfl, hb1⟩)
  have H1 := hide ((unhide H).below hb1)
  have H2 := hide (hb1.mono (Nat.le_trans (unhide H).lo (Nat.le_of_lt (unhide H).lt)))
  go_ret
  exact ⟨rfl, unhide H1, unhide H2⟩
set_option maxRecDepth 20000 in
set_option maxHeartbeats 1000000 in
theorem move_bad (ps : List Pf) (s t : ByteArray) (base b g : Nat) (f : Fl) (w : World) (h : ShelfAt w base b ps) (hp : (g, f) ∈ ps) (hs : f.nm = s) (hz : s.size ≤ 4000000) (hzt : t.size ≤ 4000000) (hft : f.tx.size ≤ 20000) (hk : wholeB f = true) (hne : t ≠ s) (hn : nameB t = false) :
    Calls Try.prog 56 #[.map (some b), .string s, .string t] w fun e w' => e = .returned (.bool false) ∧ ShelfAt w' base b ps ∧ Below base w w' := by
  have hrun := h.look hp hs hz
  have hf := (h.files _ hp).1
  have hgl := hf.lt
  obtain ⟨d1, d2, d3⟩ := hf.at
  simp only [Nat.zero_add] at d2 d3
  have hft4 : f.tx.size ≤ 4000000 := by omega
  have HK := hide hk
  have H := hide h
  have HN := hide hn
  have hsame : (t.toList == s.toList) = false := sameN_no.2 hne
  clear h hp hs hf hk hn
  go_enter Try.func56, Try.ntmps56
  go_wp2_with (first
    | (go_at_call 51; refine (fileAllKept_at f _ (unhide HK) _ hft4).mono ?_; rintro e w1 ⟨rfl, hb1⟩)
    | (go_at_call 63; refine (nameOk_at2 t _ (unhide HN) _ hzt).mono ?_; rintro e w2 ⟨rfl, hw2⟩; subst hw2))
  have H1 := hide ((unhide H).below hb1)
  have H2 := hide (hb1.mono (Nat.le_trans (unhide H).lo (Nat.le_of_lt (unhide H).lt)))
  go_ret
  exact ⟨rfl, unhide H1, unhide H2⟩
end Go.Proofs.Ytfglljollonnfal
