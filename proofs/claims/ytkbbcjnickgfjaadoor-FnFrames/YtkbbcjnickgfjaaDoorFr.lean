/- Frames one behind the other, cut anywhere, are read back as far as they are whole: the mathematics. -/
import Derived.Test.YtkbbcjnickgfjaaDoorUnf
import Derived.Test.YtkbbcjnickgfjaaDoorRvT
namespace Go.Proofs.YtkbbcjnickgfjaaDoor

/-- The bytes of a text's frame. -/
def frL (t : ByteArray) : List UInt8 := varB t.size ++ four (sumOf t) ++ t.data.toList
theorem frameB_data (t : ByteArray) : (frameB t).data.toList = frL t := by
  unfold frameB frL fourS
  simp [ByteArray.data_append]
theorem frameB_size (t : ByteArray) : (frameB t).size = (frL t).length := by
  rw [← frameB_data]; rfl
theorem frL_len (t : ByteArray) : (frL t).length = (varB t.size).length + 4 + t.size := by
  unfold frL
  rw [List.length_append, List.length_append, four_len]
  rfl
def okT (t : ByteArray) : Prop := 1 ≤ t.size ∧ t.size ≤ 9000

theorem extract_of_drop {s : ByteArray} {p : Nat} {x y z : List UInt8} (h : s.data.toList.drop p = x ++ (y ++ z)) : s.extract (p + x.length) (p + x.length + y.length) = ⟨y.toArray⟩ := by
  apply ByteArray.ext
  apply Array.toList_inj.1
  rw [ByteArray.data_extract]
  have h2 : s.data.toList.drop (p + x.length) = y ++ z := by
    rw [← List.drop_drop, h, List.drop_left]
  simp only [Array.toList_extract, List.extract_eq_take_drop]
  rw [h2, show p + x.length + y.length - (p + x.length) = y.length by omega, List.take_left]

theorem frAt_whole {s t : ByteArray} {p : Nat} {rest : List UInt8} (ht : okT t) (h : s.data.toList.drop p = frL t ++ rest) (hp : p ≤ s.size) :
    frAt s p = some (p + (varB t.size).length + 4, p + (frL t).length) ∧ s.extract (p + (varB t.size).length + 4) (p + (frL t).length) = t := by
  have hl := frL_len t
  have hsz : p + (frL t).length ≤ s.size := by
    have := congrArg List.length h
    rw [List.length_drop, List.length_append] at this
    have e : s.data.toList.length = s.size := rfl
    omega
  have h1 : s.data.toList.drop p = varB t.size ++ (four (sumOf t) ++ (t.data.toList ++ rest)) := by
    rw [h]; unfold frL; simp
  have hr := read_var s p t.size _ h1 (by have := ht.2; omega)
  have hf := extract_of_drop h1
  rw [four_len] at hf
  have h2 : s.data.toList.drop p = (varB t.size ++ four (sumOf t)) ++ (t.data.toList ++ rest) := by rw [h1]; simp
  have hx := extract_of_drop h2
  rw [List.length_append, four_len] at hx
  have htl : t.data.toList.length = t.size := rfl
  rw [htl] at hx
  have hx2 : s.extract (p + (varB t.size).length + 4) (p + (varB t.size).length + 4 + t.size) = t := by
    rw [← Nat.add_assoc] at hx
    rw [hx]
  have hend : p + (varB t.size).length + 4 + t.size = p + (frL t).length := by omega
  have hw : wholeAt s t.size (p + (varB t.size).length) := by
    refine ⟨ht.1, ht.2, by omega, ?_⟩
    rw [hx2]
    exact hf
  have := frAt_yes hr hw
  rw [hend] at this hx2
  exact ⟨this, hx2⟩

theorem frAt_cut {s t : ByteArray} {p c : Nat} (ht : okT t) (h : s.data.toList.drop p = (frL t).take c) (hc : c < (frL t).length) (hp : p ≤ s.size) : frAt s p = none := by
  have hl := frL_len t
  have e : s.data.toList.length = s.size := rfl
  have hsz : s.size = p + c := by
    have := congrArg List.length h
    rw [List.length_drop, List.length_take] at this
    omega
  by_cases hv : (varB t.size).length ≤ c
  · have h1 : s.data.toList.drop p = varB t.size ++ ((four (sumOf t) ++ t.data.toList).take (c - (varB t.size).length)) := by
      rw [h]; unfold frL
      rw [List.append_assoc, List.take_append, List.take_of_length_le hv]
    have hr := read_var s p t.size _ h1 (by have := ht.2; omega)
    refine frAt_no hr (fun hw => ?_)
    have := hw.2.2.1
    omega
  · by_cases h0 : c = 0
    · exact frAt_end (by omega)
    · by_cases hb : t.size ≤ 127
      · rw [varB_small hb] at hv
        simp at hv
        omega
      · have hbig := varB_big hb
        have hv2 : (varB t.size).length = 2 := by rw [hbig, varB_small (by have := ht.2; omega)]; rfl
        have hc1 : c = 1 := by omega
        subst hc1
        have h1 : s.data.toList.drop p = [byteOf (t.size % 128 + 128)] := by
          rw [h]; unfold frL; rw [hbig]; rfl
        obtain ⟨hi, hb1, _⟩ := drop_head h1
        refine frAt_none ?_
        rw [rvRun_on hi (by omega) (by rw [hb1, byteOf_toNat (by omega)]; omega)]
        exact rvRun_out (by omega)

/-- The frames of some texts, one behind the other. -/
def frsL : List ByteArray → List UInt8
  | [] => []
  | t :: ts => frL t ++ frsL ts
/-- The records with the places behind them. -/
def recsAt (p : Nat) : List ByteArray → List (ByteArray × Nat)
  | [] => []
  | t :: ts => (t, p + (frL t).length) :: recsAt (p + (frL t).length) ts
theorem recsAt_len (p : Nat) (ts : List ByteArray) : (recsAt p ts).length = ts.length := by
  induction ts generalizing p with
  | nil => rfl
  | cons t ts ih => simp [recsAt, ih]
theorem recsAt_map (p : Nat) (ts : List ByteArray) : (recsAt p ts).map Prod.fst = ts := by
  induction ts generalizing p with
  | nil => rfl
  | cons t ts ih => simp [recsAt, ih]
theorem recsAt_last (p : Nat) (ts : List ByteArray) : lastEnd p (recsAt p ts) = p + (frsL ts).length := by
  induction ts generalizing p with
  | nil => rfl
  | cons t ts ih =>
    simp only [recsAt, lastEnd, frsL, List.length_append]
    rw [ih]; omega

theorem frs_cut (s : ByteArray) : ∀ (ts : List ByteArray) (p c : Nat), (∀ t ∈ ts, okT t) → s.data.toList.drop p = (frsL ts).take c → p ≤ s.size →
    ∃ m, m ≤ ts.length ∧ frs s p = recsAt p (ts.take m) ∧ (frsL (ts.take m)).length ≤ c ∧ (m = ts.length ∨ c < (frsL (ts.take (m + 1))).length) := by
  intro ts
  induction ts with
  | nil =>
    intro p c _ h hp
    have hs : s.size ≤ p := by
      have := congrArg List.length h
      have e : s.data.toList.length = s.size := rfl
      simp only [frsL, List.length_drop, List.take_nil, List.length_nil] at this
      omega
    exact ⟨0, Nat.le_refl _, by rw [frs_none (frAt_end hs)]; rfl, by simp [frsL], .inl rfl⟩
  | cons t ts ih =>
    intro p c hok h hp
    have ht := hok t (List.mem_cons_self ..)
    by_cases hc : c < (frL t).length
    · have h1 : s.data.toList.drop p = (frL t).take c := by
        rw [h]
        simp only [frsL]
        rw [List.take_append, show c - (frL t).length = 0 by omega, List.take_zero, List.append_nil]
      refine ⟨0, Nat.zero_le _, ?_, by simp [frsL], .inr ?_⟩
      · rw [frs_none (frAt_cut ht h1 hc hp)]; rfl
      · simp only [Nat.zero_add, List.take_succ_cons, List.take_zero, frsL, List.append_nil]; exact hc
    · have h1 : s.data.toList.drop p = frL t ++ (frsL ts).take (c - (frL t).length) := by
        rw [h]
        simp only [frsL]
        rw [List.take_append, List.take_of_length_le (by omega)]
      obtain ⟨hf, hx⟩ := frAt_whole ht h1 hp
      obtain ⟨q1, q2, q3, q4, q5⟩ := frAt_some hp hf
      have h2 : s.data.toList.drop (p + (frL t).length) = (frsL ts).take (c - (frL t).length) := by
        rw [← List.drop_drop, h1, List.drop_left]
      obtain ⟨m, m1, m2, m3, m4⟩ := ih (p + (frL t).length) (c - (frL t).length) (fun x hx => hok x (List.mem_cons_of_mem _ hx)) h2 q3
      refine ⟨m + 1, by simp; exact m1, ?_, ?_, ?_⟩
      · rw [frs_some hp hf, m2, hx]; rfl
      · simp only [List.take_succ_cons, frsL, List.length_append]; omega
      · rcases m4 with rfl | m4
        · exact .inl rfl
        · refine .inr ?_
          rw [List.take_succ_cons]
          simp only [frsL, List.length_append]
          omega
end Go.Proofs.YtkbbcjnickgfjaaDoor
