/- What is done on a shelf: looked up, dropped, kept. -/
import Derived.Test.YtfglljollonnfalShelfL
namespace Go.Proofs.Ytfglljollonnfal
open Go.RowKit
open Go.Maps (Keyed IsMap Tidy string_keyed)

theorem zeroPtr (w : World) : (zeroValue 84).run Try.prog w = .ok (.pointer none) w := by kernel_rfl
theorem keyS {s : ByteArray} (h : s.size ≤ 4000000) : keyOf Try.prog 9 (.string s) = some (.string s.data.toList) := Go.WideMaps.keyOf_string_mk Try.underlying9 (by unfold maxLen; omega)
theorem ShelfAt.look {w : World} {base b : Nat} {ps : List Pf} (h : ShelfAt w base b ps) {p : Pf} (hp : p ∈ ps) {s : ByteArray} (hs : p.2.nm = s) (hz : s.size ≤ 4000000) :
    (Instr.lookup 68 (.map (some b)) (.string s) true).run Try.prog w = .ok (.tuple #[.pointer (some ⟨p.1, 0, none⟩), .bool true]) w := by
  obtain ⟨D, hown, hch⟩ := h.map
  obtain ⟨v, q, hrun, hv⟩ := hown.look_ok lawK Try.underlying68 (zeroPtr w) (show ptrR (.pointer none) = some (.nil, []) from rfl) (keyS hz)
  have h1 : Maps.has D (.string s.data.toList) = true := (hch.has _).2 ⟨p, hp, by unfold key; rw [hs]⟩
  have h2 := hch.at_ p hp .nil
  unfold key at h2
  rw [hs] at h2
  rw [h2] at hv
  rw [hrun, h1, ptrR_inv hv]
theorem ShelfAt.miss {w : World} {base b : Nat} {ps : List Pf} (h : ShelfAt w base b ps) {s : ByteArray} (hs : ∀ p ∈ ps, p.2.nm ≠ s) (hz : s.size ≤ 4000000) :
    (Instr.lookup 68 (.map (some b)) (.string s) true).run Try.prog w = .ok (.tuple #[.pointer none, .bool false]) w := by
  obtain ⟨D, hown, hch⟩ := h.map
  obtain ⟨v, q, hrun, hv⟩ := hown.look_ok lawK Try.underlying68 (zeroPtr w) (show ptrR (.pointer none) = some (.nil, []) from rfl) (keyS hz)
  have h1 : Maps.has D (.string s.data.toList) = false := by
    rw [← Bool.not_eq_true, hch.has]
    rintro ⟨p, hp, e⟩
    exact hs p hp (key_eq.1 e)
  rw [Maps.atKey_of_not_has h1] at hv
  rw [hrun, h1, ptrR_nil hv]
theorem ShelfAt.del {w w2 : World} {base b n : Nat} {ps : List Pf} {D : DataW Unit} (h : ShelfAt w base b ps) (ha : Asc (ps.map Prod.snd)) (hD : Ch D ps) (hT : Tidy D) (s : ByteArray)
    (hown : w2.ownsMap Try.prog 9 ptrR b n (D.del (.string s.data.toList))) (ht : w.mapTurned w2 b) : ShelfAt w2 base b (withoutP ps s) := by
  have hch : Ch (D.del (.string s.data.toList)) (withoutP ps s) := Ch.del hD hT _ (fun q => mem_withoutP) (len_withoutP ha s)
  refine ⟨⟨_, by rw [← hch.size]; exact ownsMap_tight hown, hch⟩, fun p hp => ?_, fun p hp q hq e => ?_, h.lo⟩
  · have hp' := (mem_withoutP.1 hp).1
    refine ⟨?_, (h.files p hp').2⟩
    unfold FlB
    rw [ht.grown.block p.1 (h.files p hp').1.lt (by simp; exact h.notb p hp')]
    exact (h.files p hp').1
  · exact h.apart p (mem_withoutP.1 hp).1 q (mem_withoutP.1 hq).1 e
/-- A file of the shelf is another one of the same name. -/
theorem ShelfAt.turn {w w' : World} {base b g : Nat} {ps : List Pf} {f f' : Fl} (h : ShelfAt w base b ps) (ha : Asc (ps.map Prod.snd)) (hp : (g, f) ∈ ps) (hn : f'.nm = f.nm) (hg : FlB w' g 63 f') (hgr : w.grownBy w' (some g)) : ShelfAt w' base b (putP ps (g, f')) := by
  obtain ⟨D, hown, hch⟩ := h.map
  have hgb : g ≠ b := h.notb (g, f) hp
  have hk : key (g, f') = key (g, f) := key_eq2.2 hn
  have hlen : (putP ps (g, f')).length = ps.length := by rw [len_putP ha, if_pos ⟨(g, f), hp, hk.symm⟩]
  refine ⟨⟨D, by rw [hlen]; exact hown.kept hgr (by simp; exact fun e => hgb e.symm), ?_⟩, fun p hpp => ?_, fun p hpp q hqq e => ?_, h.lo⟩
  · refine hch.same hlen (fun p hpp => ?_) (fun q hq => ?_)
    · rcases mem_putP.1 hpp with rfl | ⟨h1, _⟩
      · exact ⟨(g, f), hp, hk.symm, rfl⟩
      · exact ⟨p, h1, rfl, rfl⟩
    · by_cases e : key q = key (g, f')
      · exact ⟨(g, f'), mem_putP.2 (.inl rfl), e.symm⟩
      · exact ⟨q, mem_putP.2 (.inr ⟨hq, e⟩), rfl⟩
  · rcases mem_putP.1 hpp with rfl | ⟨h1, h2⟩
    · exact ⟨hg, (h.files (g, f) hp).2⟩
    · refine ⟨?_, (h.files p h1).2⟩
      have hne : p.1 ≠ g := by
        intro e
        have := h.apart p h1 (g, f) hp e
        rw [this] at h2
        exact h2 hk.symm
      unfold FlB
      rw [hgr.block p.1 (h.files p h1).1.lt (by simp; exact hne)]
      exact (h.files p h1).1
  · rcases mem_putP.1 hpp with rfl | ⟨h1, h2⟩
    · rcases mem_putP.1 hqq with rfl | ⟨h3, h4⟩
      · rfl
      · have := h.apart q h3 (g, f) hp e.symm
        rw [this] at h4
        exact absurd hk.symm h4
    · rcases mem_putP.1 hqq with rfl | ⟨h3, h4⟩
      · have := h.apart p h1 (g, f) hp e
        rw [this] at h2
        exact absurd hk.symm h2
      · exact h.apart p h1 q h3 e
def hasP (ps : List Pf) (s : ByteArray) : Bool := ps.any fun q => sameN q.2.nm s
theorem hasP_iff {ps : List Pf} {s : ByteArray} : hasP ps s = true ↔ ∃ p ∈ ps, p.2.nm = s := by
  unfold hasP
  rw [List.any_eq_true]
  simp only [sameN_iff]
theorem hasP_no {ps : List Pf} {s : ByteArray} : hasP ps s = false ↔ ∀ p ∈ ps, p.2.nm ≠ s := by
  rw [← Bool.not_eq_true, hasP_iff]
  constructor
  · intro h p hp e
    exact h ⟨p, hp, e⟩
  · rintro h ⟨p, hp, e⟩
    exact h p hp e

set_option maxRecDepth 20000 in
set_option maxHeartbeats 1000000 in
theorem drop_any (ps : List Pf) (s : ByteArray) (base b : Nat) (w : World) (h : ShelfAt w base b ps) (ha : Asc (ps.map Prod.snd)) (hz : s.size ≤ 4000000) :
    Calls Try.prog 57 #[.map (some b), .string s] w fun e w' => e = .returned (.bool (hasP ps s)) ∧ ShelfAt w' base b (withoutP ps s) ∧ Below base w w' := by
  obtain ⟨D, hown, hch⟩ := h.map
  have hT := hown.tidy lawK
  have H := hide h
  have HA := hide ha
  have HCH := hide hch
  have HT := hide hT
  have hkey := keyS hz
  have hlo := h.lo
  have hlt := h.lt
  cases hb : hasP ps s with
  | true =>
    obtain ⟨p, hp, hs⟩ := hasP_iff.1 hb
    have hrun := h.look hp hs hz
    clear h ha hch hT hb hs hp
    go_enter Try.func57, Try.ntmps57
    go_wp2_with (at_delete; refine wpList_delete_own _ rfl _ _ 68 9 rfl 84 lawK Try.underlying68 ptrR b ps.length D rfl hown _ _ rfl hkey ?_; intro w1 hown1 hturn1)
    have hsh := hide ((unhide H).del (unhide HA) (unhide HCH) (unhide HT) s hown1 hturn1)
    have hbw := hide (gBelow (B := base) hturn1.grown (by omega) (fun k hk => by cases hk; exact hlo))
    clear hown1 hturn1
    go_wp2
    go_ret
    exact ⟨rfl, unhide hsh, unhide hbw⟩
  | false =>
    have hrun := h.miss (hasP_no.1 hb) hz
    clear h ha hch hT hb
    go_enter Try.func57, Try.ntmps57
    go_wp2_with (at_delete; refine wpList_delete_own _ rfl _ _ 68 9 rfl 84 lawK Try.underlying68 ptrR b ps.length D rfl hown _ _ rfl hkey ?_; intro w1 hown1 hturn1)
    have hsh := hide ((unhide H).del (unhide HA) (unhide HCH) (unhide HT) s hown1 hturn1)
    have hbw := hide (gBelow (B := base) hturn1.grown (by omega) (fun k hk => by cases hk; exact hlo))
    clear hown1 hturn1
    go_wp2
    go_ret
    exact ⟨rfl, unhide hsh, unhide hbw⟩
end Go.Proofs.Ytfglljollonnfal
