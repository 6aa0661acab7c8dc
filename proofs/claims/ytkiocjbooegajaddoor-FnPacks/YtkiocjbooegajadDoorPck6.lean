/- What is packed is unpacked, what is unpacked is packed so, and polynomials come back from their bytes: the answers alone. -/
import Derived.Test.YtkiocjbooegajadDoorPck5
namespace Go.Proofs.YtkiocjbooegajadDoor
open Go.RowKit
theorem dig_lt (c m N : Nat) (hc : 0 < c) : ∀ x ∈ dig c m N, x < c := by
  induction m generalizing N with
  | zero => intro x hx; cases hx
  | succ m ih =>
    intro x hx
    rcases List.mem_cons.1 hx with rfl | h
    · exact Nat.mod_lt _ hc
    · exact ih _ x h
theorem bysN_bysL (l : List Nat) (h : ∀ x ∈ l, x < 256) : bysN ⟨(bysL l).toArray⟩ = l := by
  show (bysL l).map (·.toNat) = l
  unfold bysL
  rw [List.map_map]
  refine (List.map_congr_left fun x hx => ?_).trans (List.map_id l)
  exact byteOf_toNat (h x hx)
theorem bysL_bysN (s : ByteArray) : (⟨(bysL (bysN s)).toArray⟩ : ByteArray) = s := by
  have e : bysL (bysN s) = s.data.toList := by
    unfold bysL bysN
    rw [List.map_map]
    refine (List.map_congr_left fun x _ => ?_).trans (List.map_id _)
    show UInt8.ofNat x.toNat = x
    exact UInt8.ofNat_toNat
  rw [e]
theorem nats_back (l : List Int) (h : ∀ x ∈ l, 0 ≤ x) : (natsL l).map (fun (x : Nat) => (x : Int)) = l := by
  unfold natsL
  rw [List.map_map]
  refine (List.map_congr_left fun x hx => ?_).trans (List.map_id l)
  exact Int.toNat_of_nonneg (h x hx)
theorem nats_of (l : List Nat) : natsL (l.map fun (x : Nat) => (x : Int)) = l := by
  unfold natsL
  rw [List.map_map]
  exact (List.map_congr_left fun x _ => Int.toNat_natCast x).trans (List.map_id l)
theorem natsL_len (l : List Int) : (natsL l).length = l.length := by unfold natsL; rw [List.length_map]
theorem pkB_size {l : List Int} {bits : Int} (h : pkOk l bits = true) : (pkB l bits).size = byN l.length bits.toNat := by
  unfold pkB
  rw [if_pos h]
  show (bysL (pkN bits.toNat (natsL l))).toArray.size = _
  unfold pkN
  rw [List.size_toArray, bysL_len, natsL_len]
/-- What is packed is unpacked. -/
theorem upOk_pkB {l : List Int} {bits : Int} (h : pkOk l bits = true) (hl : l.length ≤ 1000) : upOk (pkB l bits) bits (l.length : Int) = true ∧ upL (pkB l bits) bits (l.length : Int) = l := by
  have hs := pkB_size h
  obtain ⟨h1, h2⟩ := pkOk_yes h
  have hn := nats_lt h2
  have e : bysN (pkB l bits) = pkN bits.toNat (natsL l) := by
    unfold pkB
    rw [if_pos h]
    exact bysN_bysL _ (dig_lt 256 _ _ (by omega))
  obtain ⟨u1, u2⟩ := up_pk bits.toNat (natsL l) hn
  rw [natsL_len] at u1 u2
  have ho : upOk (pkB l bits) bits (l.length : Int) = true := by
    unfold upOk
    rw [e, Int.toNat_natCast]
    simp only [Bool.and_eq_true, decide_eq_true_iff]
    exact ⟨h1, ⟨by omega, by omega⟩, hs, Nat.div_eq_of_lt u2⟩
  refine ⟨ho, ?_⟩
  unfold upL
  rw [if_pos ho, e, Int.toNat_natCast, u1]
  exact nats_back l fun x hx => (h2 x hx).1
/-- What is unpacked is packed so. -/
theorem pkB_upL {s : ByteArray} {bits n : Int} (h : upOk s bits n = true) : pkOk (upL s bits n) bits = true ∧ pkB (upL s bits n) bits = s := by
  have hu : upL s bits n = (upN bits.toNat n.toNat (bysN s)).map (fun (x : Nat) => (x : Int)) := by unfold upL; rw [if_pos h]
  unfold upOk at h
  simp only [Bool.and_eq_true, decide_eq_true_iff] at h
  obtain ⟨h1, h2, h3, h4⟩ := h
  have hp : 0 < 2 ^ bits.toNat := Nat.pow_pos (by omega)
  have ho : pkOk (upL s bits n) bits = true := by
    refine pkOk_of h1 fun x hx => ?_
    rw [hu] at hx
    obtain ⟨y, hy, rfl⟩ := List.mem_map.1 hx
    have := dig_lt _ _ _ hp y hy
    generalize 2 ^ bits.toNat = p at *
    omega
  refine ⟨ho, ?_⟩
  have hv : valC 256 (bysN s) < 2 ^ (bits.toNat * n.toNat) := by
    rcases Nat.lt_or_ge (valC 256 (bysN s)) (2 ^ (bits.toNat * n.toNat)) with q | q
    · exact q
    · have := Nat.div_pos q (Nat.pow_pos (by omega))
      omega
  unfold pkB
  rw [if_pos ho, hu, nats_of, pk_up bits.toNat n.toNat (bysN s) (bysN_lt s) (by rw [bysN_len]; exact h3) hv]
  exact bysL_bysN s
theorem okPl_pk {l : List Int} (h : okPl l = true) : pkOk l 12 = true := by
  obtain ⟨h1, h2⟩ := okPl_yes h
  refine pkOk_of ⟨by omega, by omega⟩ fun x hx => ?_
  obtain ⟨i, hi, rfl⟩ := List.getElem_of_mem hx
  have := h2 i (by omega)
  rw [cAt_lt hi] at this
  show 0 ≤ l[i] ∧ l[i] ≤ ((2 ^ 12 : Nat) : Int) - 1
  omega
/-- A polynomial comes back from its bytes, and they are 384. -/
theorem pf_polB {l : List Int} (h : okPl l = true) : pfOk (polB l) = true ∧ pfL (polB l) = l ∧ (polB l).size = 384 := by
  have hp := okPl_pk h
  obtain ⟨h1, _⟩ := okPl_yes h
  have e : polB l = pkB l 12 := by unfold polB; rw [if_pos h]
  obtain ⟨u1, u2⟩ := upOk_pkB hp (by omega)
  rw [h1] at u1 u2
  have ho : pfOk (polB l) = true := by
    unfold pfOk
    rw [e, Bool.and_eq_true]
    refine ⟨u1, ?_⟩
    have u2' : upL (pkB l 12) 12 256 = l := u2
    rw [u2', h]
  refine ⟨ho, ?_, ?_⟩
  · unfold pfL
    rw [if_pos ho, e]
    exact u2
  · rw [e, pkB_size hp, h1]
    rfl
end Go.Proofs.YtkiocjbooegajadDoor
