/- What the law FnFrames needs of frames: the mathematics. -/
import Derived.Test.YtkbbcjnickgfjaaDoorFr
import Derived.Test.YtkbbcjnickgfjaaDoorUnfU
import Derived.Test.YtkbbcjnickgfjaaDoorDrawT
namespace Go.Proofs.YtkbbcjnickgfjaaDoor
open Go.RowKit

def oneT : ByteArray := ⟨#[111, 110, 101]⟩
def twoT : ByteArray := ⟨#[116, 119, 111]⟩
def threeT : ByteArray := ⟨#[116, 104, 114, 101, 101, 32, 97, 110, 100, 32, 109, 111, 114, 101]⟩
def tsOf (t : ByteArray) : List ByteArray := [t, twoT, threeT]

/-- The frames of some texts in one file. -/
def fB (ts : List ByteArray) : ByteArray := ⟨(frsL ts).toArray⟩
theorem fB_data (ts : List ByteArray) : (fB ts).data.toList = frsL ts := rfl
theorem fB_size (ts : List ByteArray) : (fB ts).size = (frsL ts).length := List.size_toArray
theorem frsL_append (a b : List ByteArray) : frsL (a ++ b) = frsL a ++ frsL b := by
  induction a with
  | nil => rfl
  | cons t ts ih => simp [frsL, ih]
theorem fB_next {ts : List ByteArray} {k : Nat} {t : ByteArray} (h : ts[k]? = some t) : fB (ts.take k) ++ frameB t = fB (ts.take (k + 1)) := by
  apply ByteArray.ext
  apply Array.toList_inj.1
  rw [ByteArray.data_append, Array.toList_append, fB_data, fB_data, frameB_data, List.take_add_one, h, frsL_append]
  simp [frsL]

theorem okT_two : okT twoT := by constructor <;> decide
theorem okT_three : okT threeT := by constructor <;> decide
theorem okT_one : okT oneT := by constructor <;> decide
theorem tsOf_ok {t : ByteArray} (h : okT t) : ∀ x ∈ tsOf t, okT x := by
  intro x hx
  simp only [tsOf, List.mem_cons, List.not_mem_nil, or_false] at hx
  rcases hx with rfl | rfl | rfl
  · exact h
  · exact okT_two
  · exact okT_three
theorem frL_le {t : ByteArray} (h : t.size ≤ 900) : (frL t).length ≤ 906 := by
  rw [frL_len]
  have := varB_len5 t.size (by omega)
  omega
theorem frsL_le {t : ByteArray} (h : t.size ≤ 900) (k : Nat) : (frsL ((tsOf t).take k)).length ≤ 2718 := by
  have h1 := frL_le h
  have h2 : (frL twoT).length ≤ 906 := frL_le (by decide)
  have h3 : (frL threeT).length ≤ 906 := frL_le (by decide)
  unfold tsOf
  match k with
  | 0 => simp [frsL]
  | 1 => simp [frsL]; omega
  | 2 => simp [frsL]; omega
  | k + 3 => simp [frsL]; omega

/-- The places behind the frames. -/
def endAt (t : ByteArray) (k : Nat) : Nat := (frsL ((tsOf t).take k)).length
def endsL (t : ByteArray) (k : Nat) : List Nat := (List.range (k + 1)).map (endAt t)
theorem endsL_next (t : ByteArray) (k : Nat) : endsL t (k + 1) = endsL t k ++ [endAt t (k + 1)] := by
  unfold endsL
  rw [List.range_succ (n := k + 1), List.map_append]
  rfl
theorem endsL_zero (t : ByteArray) : endsL t 0 = [0] := rfl
theorem endsL_len (t : ByteArray) (k : Nat) : (endsL t k).length = k + 1 := by unfold endsL; simp
theorem endsV_at (t : ByteArray) (k j : Nat) (h : j ≤ k) : (ints (endsL t k))[j]? = some (.int .i64 (endAt t j : Int)) := by
  unfold ints endsL
  rw [List.getElem?_map, List.getElem?_map, List.getElem?_range (by omega)]
  rfl
theorem ints_len (xs : List Nat) : (ints xs).length = xs.length := by unfold ints; simp
theorem ints_snoc (xs : List Nat) (x : Nat) : ints (xs ++ [x]) = ints xs ++ [.int .i64 (x : Int)] := by unfold ints; simp

theorem unf_cut {t : ByteArray} (ht : okT t) (h9 : t.size ≤ 900) (k : Nat) (hk : k ≤ (fB (tsOf t)).size) :
    ∃ m, m ≤ 3 ∧ unfL ((fB (tsOf t)).extract 0 k) = recsAt 0 ((tsOf t).take m) ∧ endAt t m ≤ k ∧ (m = 3 ∨ k < endAt t (m + 1)) := by
  have hsz : ((fB (tsOf t)).extract 0 k).size = k := by rw [ByteArray.size_extract]; omega
  have h20 := frsL_le h9 3
  rw [show (tsOf t).take 3 = tsOf t from rfl, ← fB_size] at h20
  have hd : ((fB (tsOf t)).extract 0 k).data.toList.drop 0 = (frsL (tsOf t)).take k := by
    rw [ByteArray.data_extract, List.drop_zero, Array.toList_extract, List.extract_eq_take_drop, fB_data]
    simp
  obtain ⟨m, m1, m2, m3, m4⟩ := frs_cut ((fB (tsOf t)).extract 0 k) (tsOf t) 0 k (tsOf_ok ht) hd (Nat.zero_le _)
  refine ⟨m, m1, ?_, m3, ?_⟩
  · unfold unfL
    rw [if_pos (by omega)]
    exact m2
  · rcases m4 with h | h
    · exact .inl h
    · exact .inr h
theorem unf_whole {t : ByteArray} (ht : okT t) (h9 : t.size ≤ 900) : unfL (fB (tsOf t)) = recsAt 0 (tsOf t) := by
  obtain ⟨m, m1, m2, m3, m4⟩ := unf_cut ht h9 (fB (tsOf t)).size (Nat.le_refl _)
  have hx : (fB (tsOf t)).extract 0 (fB (tsOf t)).size = fB (tsOf t) := by
    apply ByteArray.ext
    rw [ByteArray.data_extract]
    exact Array.extract_size ..
  rw [hx] at m2
  have h3 : m = 3 := by
    rcases m4 with h | h
    · exact h
    · rw [fB_size] at h
      have h1 : endAt t (m + 1) ≤ (frsL (tsOf t)).length := by
        unfold endAt
        have := congrArg (fun l => (frsL l).length) (List.take_append_drop (m + 1) (tsOf t))
        simp only [frsL_append, List.length_append] at this
        omega
      omega
  subst h3
  exact m2
theorem recs_last (t : ByteArray) (m : Nat) : lastEnd 0 (recsAt 0 ((tsOf t).take m)) = endAt t m := by
  rw [recsAt_last]; unfold endAt; omega
theorem recs_vals (ts : List ByteArray) : (recsAt 0 ts).map recV = ts.map Value.string := by
  have : (recsAt 0 ts).map recV = ((recsAt 0 ts).map Prod.fst).map Value.string := by rw [List.map_map]; rfl
  rw [this, recsAt_map]

theorem two_rows (w : World) (a b c : Value) (S I : TypeId) : ∃ W, (w.alloc (.cells #[a, b, c] S)).alloc (.cells #[.int .i64 0] I) = W ∧ W.heap[w.heap.size]? = some (.cells #[a, b, c] S (0, 0)) ∧
    OwnV W (w.heap.size + 1) I (.slice (some ⟨w.heap.size + 1, 0, none⟩) 1 1) [.int .i64 0] ∧ Below w.heap.size w W ∧ W.heap.size = w.heap.size + 2 := by
  refine ⟨_, rfl, ?_, ?_, ((Below.refl _ w).alloc (Nat.le_refl _) _).alloc (by simp) _, by simp⟩
  · rw [Below.heap_alloc _ _ _ (by simp)]
    exact heap_alloc_new w _
  · have hh := heap_alloc_new (w.alloc (.cells #[a, b, c] S)) (.cells #[.int .i64 0] I)
    rw [World.size_alloc] at hh
    exact ⟨by simp, .inr ⟨w.heap.size + 1, 1, #[.int .i64 0], rfl, Nat.le_refl _, hh, Nat.le_refl _, by unfold maxLen; decide, by simp, by simp⟩⟩
end Go.Proofs.YtkbbcjnickgfjaaDoor
