/- The names of a shelf, sorted: those of its list. -/
import Derived.Test.YtkaaabpodhgbpaaShelfD
import Derived.Test.YtkaaabpodhgbpaaIter
namespace Go.Proofs.Ytkaaabpodhgbpaa
open Go.RowKit
open Go.Maps (Keyed IsMap Tidy string_keyed)

theorem keys_asc {ps : List Pf} (ha : Asc (ps.map Prod.snd)) : (ps.map key).Pairwise (fun a b => a < b) := by
  rw [List.pairwise_map]
  unfold Asc at ha
  rw [List.pairwise_map] at ha
  exact ha.imp fun h => ltB_iff.1 h
theorem keys_sorted {w : World} {b n : Nat} {D : DataW Unit} {ps : List Pf} {ss : List (List UInt8)} (hown : w.ownsMap Try.prog 9 ptrR b n D) (hch : Ch D ps) (ha : Asc (ps.map Prod.snd)) (hp : ss.Perm (strKeys D)) :
    ss.mergeSort (fun x y => decide (x ≤ y)) = ps.map key := by
  have hasc := keys_asc ha
  have hcol : Collected D (fun _ => false) (ps.map key) := by
    refine ⟨hasc.imp fun h e => by rw [e] at h; exact List.lt_irrefl _ h, fun x => ?_⟩
    rw [List.mem_map]
    have := hch.has x
    constructor
    · rintro ⟨p, hp, e⟩
      exact ⟨this.2 ⟨p, hp, e⟩, rfl⟩
    · rintro ⟨h1, _⟩
      obtain ⟨p, hp, e⟩ := this.1 h1
      exact ⟨p, hp, e⟩
  have hperm := hcol.perm hown lawK Try.underlying9 (fun _ => rfl)
  rw [mergeSort_of_perm (hp.trans hperm.symm)]
  exact List.mergeSort_of_pairwise (hasc.imp fun h => by rw [decide_eq_true_iff]; exact List.le_of_lt h)
theorem ShelfAt.get {w : World} {base b : Nat} {ps : List Pf} (h : ShelfAt w base b ps) {p : Pf} (hp : p ∈ ps) {s : ByteArray} (hs : p.2.nm = s) (hz : s.size ≤ 4000000) :
    (Instr.lookup 62 (.map (some b)) (.string s) false).run Try.prog w = .ok (.pointer (some ⟨p.1, 0, none⟩)) w := by
  obtain ⟨D, hown, hch⟩ := h.map
  obtain ⟨v, q, hrun, hv⟩ := hown.lookup lawK Try.underlying62 (zeroPtr w) (show ptrR (.pointer none) = some (.nil, []) from rfl) (keyS hz)
  have h2 := hch.at_ p hp .nil
  unfold key at h2
  rw [hs] at h2
  rw [h2] at hv
  rw [hrun, ptrR_inv hv]
end Go.Proofs.Ytkaaabpodhgbpaa
