/- What a shelf refuses to add; and its files moved. -/
import Derived.Test.YtfglljollonnfalShelfM
namespace Go.Proofs.Ytfglljollonnfal
open Go.RowKit
open Go.Maps (Keyed IsMap Tidy string_keyed)

set_option maxRecDepth 20000 in
set_option maxHeartbeats 1000000 in
theorem add_many (ps : List Pf) (s t : ByteArray) (base b : Nat) (w : World) (h : ShelfAt w base b ps) (hp : ∀ p ∈ ps, p.2.nm ≠ s) (hz : s.size ≤ 4000000) (hl : ps.length = 30) :
    Calls Try.prog 54 #[.map (some b), .string s, .string t] w fun e w' => e = .returned (.bool false) ∧ ShelfAt w' base b ps ∧ Below base w w' := by
  have hrun := h.miss hp hz
  obtain ⟨D, hown, hch⟩ := h.map
  have hlen := (hown.alloc (.cells #[.string s, .string ⟨#[]⟩, .int .i64 0] 63)).len Try.underlying68 3
  rw [hch.size] at hlen
  have hlb : (((ps.length : Nat) : Int) == 30) = true := by rw [beq_iff_eq]; omega
  have hsh := hide (h.below (bTrA (Below.refl w.heap.size w) (.cells #[.string s, .string ⟨#[]⟩, .int .i64 0] 63)))
  have hbw := hide ((Below.refl base w).alloc (Nat.le_trans h.lo (Nat.le_of_lt h.lt)) (.cells #[.string s, .string ⟨#[]⟩, .int .i64 0] 63))
  clear h hp hch hown
  go_enter Try.func54, Try.ntmps54
  go_wp2
  go_ret
  exact ⟨rfl, unhide hsh, unhide hbw⟩
set_option maxRecDepth 20000 in
set_option maxHeartbeats 1000000 in
theorem add_bad (ps : List Pf) (s t : ByteArray) (base b : Nat) (w : World) (h : ShelfAt w base b ps) (hp : ∀ p ∈ ps, p.2.nm ≠ s) (hn : nameB s = false) (hz : s.size ≤ 4000000) (hl : ps.length < 30) :
    Calls Try.prog 54 #[.map (some b), .string s, .string t] w fun e w' => e = .returned (.bool false) ∧ ShelfAt w' base b ps ∧ Below base w w' := by
  have hrun := h.miss hp hz
  obtain ⟨D, hown, hch⟩ := h.map
  have hlen := (hown.alloc (.cells #[.string s, .string ⟨#[]⟩, .int .i64 0] 63)).len Try.underlying68 3
  rw [hch.size] at hlen
  have hlb : (((ps.length : Nat) : Int) == 30) = false := by rw [beq_eq_false_iff_ne]; omega
  have hsh := hide (h.below (bTrA (Below.refl w.heap.size w) (.cells #[.string s, .string ⟨#[]⟩, .int .i64 0] 63)))
  have hbw := hide ((Below.refl base w).alloc (Nat.le_trans h.lo (Nat.le_of_lt h.lt)) (.cells #[.string s, .string ⟨#[]⟩, .int .i64 0] 63))
  have HN := hide hn
  clear h hp hch hown hn
  go_enter Try.func54, Try.ntmps54
  go_wp2_with (go_at_call 63; refine (nameOk_at2 s _ (unhide HN) _ hz).mono ?_; rintro e w1 ⟨rfl, hw1⟩; subst hw1)
  go_ret
  exact ⟨rfl, unhide hsh, unhide hbw⟩
set_option maxRecDepth 20000 in
set_option maxHeartbeats 1000000 in
theorem add_long (ps : List Pf) (s t : ByteArray) (base b : Nat) (w : World) (h : ShelfAt w base b ps) (hp : ∀ p ∈ ps, p.2.nm ≠ s) (hn : nameB s = true) (hz : s.size ≤ 4000000) (hfit : 20000 < t.size) (hl : ps.length < 30) :
    Calls Try.prog 54 #[.map (some b), .string s, .string t] w fun e w' => e = .returned (.bool false) ∧ ShelfAt w' base b ps ∧ Below base w w' := by
  have hrun := h.miss hp hz
  obtain ⟨D, hown, hch⟩ := h.map
  have hlen := (hown.alloc (.cells #[.string s, .string ⟨#[]⟩, .int .i64 0] 63)).len Try.underlying68 3
  rw [hch.size] at hlen
  have hlb : (((ps.length : Nat) : Int) == 30) = false := by rw [beq_eq_false_iff_ne]; omega
  have hsh := hide (h.below (bTrA (Below.refl w.heap.size w) (.cells #[.string s, .string ⟨#[]⟩, .int .i64 0] 63)))
  have hbw := hide ((Below.refl base w).alloc (Nat.le_trans h.lo (Nat.le_of_lt h.lt)) (.cells #[.string s, .string ⟨#[]⟩, .int .i64 0] 63))
  have HN := hide hn
  have c2 : (20000 : Int) < (t.size : Int) := by omega
  clear h hp hch hown hn
  go_enter Try.func54, Try.ntmps54
  go_wp2_with (go_at_call 63; refine (nameOk_at2 s _ (unhide HN) _ hz).mono ?_; rintro e w1 ⟨rfl, hw1⟩; subst hw1)
  go_ret
  exact ⟨rfl, unhide hsh, unhide hbw⟩
/-- A file of the shelf under another name, its old one gone. -/
theorem ShelfAt.move {w w' w2 w3 : World} {base b g m : Nat} {ps : List Pf} {f f' : Fl} {D : DataW Unit} (h : ShelfAt w base b ps) (ha : Asc (ps.map Prod.snd)) (hD : Ch D ps) (hT : Tidy D) (hp : (g, f) ∈ ps) (hne : f'.nm ≠ f.nm)
    (hg : FlB w' g 63 f') (hgr : w.grownBy w' (some g)) (hT2 : Tidy (D.put (.string f'.nm.data.toList) (.lit (.int .i64 (g : Int))))) (hg2 : w'.grownBy w2 (some b))
    (hown : w3.ownsMap Try.prog 9 ptrR b m ((D.put (.string f'.nm.data.toList) (.lit (.int .i64 (g : Int)))).del (.string f.nm.data.toList))) (hg3 : w2.grownBy w3 (some b)) :
    ShelfAt w3 base b (putP (withoutP ps f.nm) (g, f')) := by
  have hb := h.lt
  have hgb : g ≠ b := h.notb (g, f) hp
  have hkk : key (g, f') ≠ key (g, f) := fun e => hne (key_eq2.1 e)
  have haw : Asc ((withoutP ps f.nm).map Prod.snd) := by rw [withoutP_map]; exact withoutL_asc _ ha
  have hch1 : Ch (D.put (.string f'.nm.data.toList) (.lit (.int .i64 (g : Int)))) (putP ps (g, f')) := hD.put hT (g, f') (fun q => mem_putP) (len_putP ha)
  have hmem : ∀ q, q ∈ putP (withoutP ps f.nm) (g, f') ↔ (q ∈ putP ps (g, f') ∧ key q ≠ f.nm.data.toList) := by
    intro q
    rw [mem_putP, mem_putP, mem_withoutP]
    constructor
    · rintro (rfl | ⟨⟨h1, h2⟩, h3⟩)
      · exact ⟨.inl rfl, hkk⟩
      · exact ⟨.inr ⟨h1, h3⟩, h2⟩
    · rintro ⟨rfl | ⟨h1, h3⟩, h2⟩
      · exact .inl rfl
      · exact .inr ⟨⟨h1, h2⟩, h3⟩
  have hlen : (putP (withoutP ps f.nm) (g, f')).length + (if (∃ q ∈ putP ps (g, f'), key q = f.nm.data.toList) then 1 else 0) = (putP ps (g, f')).length := by
    have e1 : ∃ q ∈ putP ps (g, f'), key q = f.nm.data.toList := ⟨(g, f), mem_putP.2 (.inr ⟨hp, fun e => hkk e.symm⟩), rfl⟩
    rw [if_pos e1, len_putP haw, len_putP ha]
    have hw1 := len_withoutP ha f.nm
    rw [if_pos ⟨(g, f), hp, rfl⟩] at hw1
    by_cases hx : ∃ q ∈ ps, key q = key (g, f')
    · obtain ⟨q, hq, e⟩ := hx
      rw [if_pos (show ∃ q ∈ withoutP ps f.nm, key q = key (g, f') from ⟨q, mem_withoutP.2 ⟨hq, by rw [e]; exact hkk⟩, e⟩), if_pos (show ∃ q ∈ ps, key q = key (g, f') from ⟨q, hq, e⟩)]
      exact hw1
    · rw [if_neg hx, if_neg (by rintro ⟨q, hq, e⟩; exact hx ⟨q, (mem_withoutP.1 hq).1, e⟩)]
      omega
  have hch2 := hch1.del hT2 f.nm.data.toList hmem hlen
  have hin : ∀ q ∈ putP (withoutP ps f.nm) (g, f'), q = (g, f') ∨ (q ∈ ps ∧ q.1 ≠ g) := by
    intro q hq
    rcases mem_putP.1 hq with h1 | ⟨h1, _⟩
    · exact .inl h1
    · have h2 := mem_withoutP.1 h1
      refine .inr ⟨h2.1, fun e => ?_⟩
      have := h.apart q h2.1 (g, f) hp e
      rw [this] at h2
      exact h2.2 rfl
  refine ⟨⟨_, by rw [← hch2.size]; exact ownsMap_tight hown, hch2⟩, fun p hpp => ?_, ?_, h.lo⟩
  · rcases hin p hpp with rfl | ⟨h1, h2⟩
    · refine ⟨?_, (h.files (g, f) hp).2⟩
      unfold FlB
      have hgl := hg.lt
      rw [hg3.block g (Nat.lt_of_lt_of_le hgl hg2.size) (by simp; exact hgb), hg2.block g hgl (by simp; exact hgb)]
      exact hg
    · refine ⟨?_, (h.files p h1).2⟩
      have hl0 := (h.files p h1).1.lt
      have hl1 := Nat.lt_of_lt_of_le hl0 hgr.size
      have hl2 := Nat.lt_of_lt_of_le hl1 hg2.size
      unfold FlB
      rw [hg3.block p.1 hl2 (by simp; exact h.notb p h1), hg2.block p.1 hl1 (by simp; exact h.notb p h1), hgr.block p.1 hl0 (by simp; exact h2)]
      exact (h.files p h1).1
  · intro p hpp q hqq e
    rcases hin p hpp with rfl | ⟨h1, h2⟩
    · rcases hin q hqq with rfl | ⟨h3, h4⟩
      · rfl
      · exact absurd e.symm h4
    · rcases hin q hqq with rfl | ⟨h3, h4⟩
      · exact absurd e h2
      · exact h.apart p h1 q h3 e
end Go.Proofs.Ytfglljollonnfal
