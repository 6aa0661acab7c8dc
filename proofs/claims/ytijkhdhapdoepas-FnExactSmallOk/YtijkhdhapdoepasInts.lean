/- What laws.toIntS, eqIntS, markIntS come to. -/
import Derived.Test.YtijkhdhapdoepasRows1
import Derived.Test.YtijkhdhapdoepasProg
namespace Go.Proofs.Ytijkhdhapdoepas
open Go.RowKit

theorem infoInt : (Try.prog.info? 3).map (fun i => (i.zero, i.size, i.bytes)) = some (some (.int .i64 0), 1, 8) := by kernel_rfl
theorem madeI (n : Nat) : (madeCells (Value.int .i64 0).cells (n * 1)).toList = List.replicate n (.int .i64 0) := by
  unfold madeCells
  apply List.ext_getElem?
  intro j
  rw [Array.toList_map, Array.toList_range, List.getElem?_map, List.getElem?_replicate, Nat.mul_one]
  by_cases hj : j < n
  · rw [List.getElem?_range hj, if_pos hj]
    show some ((#[Value.int .i64 0] : Array Value)[j % 1]!) = _
    rw [Nat.mod_one]; rfl
  · rw [List.getElem?_eq_none (by simp; omega), if_neg hj]; rfl
theorem fillV {xs : List Value} {k n : Nat} {x z : Value} (hf : xs[k]? = some x) (hn : xs.length = n) : (xs.take k ++ List.replicate (n - k) z).set k x = xs.take (k + 1) ++ List.replicate (n - (k + 1)) z := by
  have hk : k < xs.length := (List.getElem?_eq_some_iff.1 hf).1
  have hl : (xs.take k).length = k := by rw [List.length_take]; omega
  rw [List.set_append_right _ _ (by omega), hl, Nat.sub_self, show n - k = (n - (k + 1)) + 1 by omega, List.replicate_succ, List.set_cons_zero, List.take_add_one, hf, List.append_assoc]
  rfl
theorem OwnV.len {w : World} {base n : Nat} {a : Option Addr} {c : Nat} {e : TypeId} {xs : List Value} (h : OwnV w base e (.slice a n c) xs) : xs.length = n := by
  rcases h.2 with ⟨h1, h2⟩ | ⟨g', cap, cur, h1, _⟩
  · simp only [Value.slice.injEq] at h1; omega
  · simp only [Value.slice.injEq] at h1; exact h1.2.1.symm

set_option maxRecDepth 20000 in
set_option maxHeartbeats 1000000 in
theorem toIntS_any (is : List Int) (v : Value) (w : World) (hr : RdV w v (is.map iv)) (hn : is.length ≤ 1048576) :
    Calls Try.prog 9 #[v] w fun e w' => (∃ a c, e = .returned (.slice a is.length c) ∧ OwnV w' w.heap.size 3 (.slice a is.length c) (is.map iv)) ∧ Below w.heap.size w w' := by
  obtain ⟨i0, hi, hz0, hz1, hz2⟩ := info_parts infoInt
  obtain ⟨a, c, rfl, hc⟩ := hr.open
  clear hr
  rw [List.length_map]
  obtain ⟨n, hnn⟩ : ∃ n, is.length = n := ⟨_, rfl⟩
  rw [hnn] at hn ⊢
  have hxl := hide (show (is.map iv).length = n by rw [List.length_map]; exact hnn)
  replace hnn := hide hnn
  go_enter Try.func9, Try.ntmps9
  go_wp2_with (at_make; refine wpList_make_full _ rfl _ _ 22 rfl w.heap.size 3 i0 (.int .i64 0) 1 Try.underlying22 hi hz0 hz1 _ _ _ _ n rfl rfl rfl rfl (by rw [hz2]; omega) (by unfold maxLen; omega) (Nat.le_refl _) ?_; intro w1 hown1 hgrow1)
  have hr0 : OwnV w1 w.heap.size 3 (.slice (some ⟨w.heap.size, 0, none⟩) n n) ((is.map iv).take 0 ++ List.replicate (n - 0) (.int .i64 0)) := by
    rw [madeI] at hown1
    unfold OwnV
    simpa using hown1
  have hb0 : Below w.heap.size w w1 := (Below.refl w.heap.size w).grown hgrow1 (Nat.le_refl _) (fun k hk => by cases hk)
  clear hown1 hgrow1
  go_loopw [4] (fun ti wr => ∃ k : Nat, k ≤ n ∧ ti = .int .i64 k ∧ OwnV wr w.heap.size 3 (.slice (some ⟨w.heap.size, 0, none⟩) n n) ((is.map iv).take k ++ List.replicate (n - k) (.int .i64 0)) ∧ Below w.heap.size w wr) (fun ti _ => n - (intOf ti).toNat)
  case atStart => exact ⟨0, Nat.zero_le _, rfl, hr0, hb0⟩
  case round =>
    obtain ⟨k, hk, rfl, ho, hb⟩ := hrel
    by_cases hlt : k < n
    · have hk' : k < is.length := by rw [unhide hnn]; exact hlt
      have hf : (is.map iv)[k]? = some (.int .i64 is[k]) := by rw [List.getElem?_map, List.getElem?_eq_getElem hk']; rfl
      obtain ⟨g, o, rfl, hg, d1⟩ := hc k _ hf
      have d2 := (hb.cell (p := ⟨g, o + k, none⟩) hg).trans d1
      have hss := hb.size
      have HF := hide (fillV (z := .int .i64 0) hf (unhide hxl))
      have hin : ∃ u, ((is.map iv).take k ++ List.replicate (n - k) (.int .i64 0))[k]? = some u := ⟨_, List.getElem?_eq_getElem (by have := ho.len; omega)⟩
      obtain ⟨u, hu⟩ := hin
      have cu := ho.cell hu
      have cz := ho.frozen k
      have ho2 := ho.set k (.int .i64 is[k])
      rw [unhide HF] at ho2
      generalize is[k] = told at *
      clear hc d1 hr0 hb0 hf hu
      go_wp2
      go_roundw
      case rel => exact ⟨k + 1, by omega, by go_num, ho2, hb.setCell (p := ⟨w.heap.size, k, none⟩) (Nat.le_refl _) _⟩
      case measure => simp [intOf]; omega
    · have e1 : k = n := by omega
      have e2 : (is.map iv).take k ++ List.replicate (n - k) (.int .i64 0) = is.map iv := by
        rw [e1, Nat.sub_self, List.take_of_length_le (by rw [unhide hxl]; exact Nat.le_refl _)]
        simp
      rw [e2] at ho
      go_wp2
      go_ret
      exact ⟨⟨_, _, rfl, ho⟩, hb⟩
set_option maxRecDepth 20000 in
set_option maxHeartbeats 1000000 in
theorem eqIntS_any (is : List Int) (v1 v2 : Value) (w : World) (hr1 : RdV w v1 (is.map iv)) (hr2 : RdV w v2 (is.map iv)) (_ : is.length ≤ 2000000) :
    Calls Try.prog 11 #[v1, v2] w fun e w' => e = .returned (.bool true) ∧ Below w.heap.size w w' := by
  obtain ⟨a1, c1, rfl, hc1⟩ := hr1.open
  obtain ⟨a2, c2, rfl, hc2⟩ := hr2.open
  clear hr1 hr2
  rw [List.length_map]
  obtain ⟨n, hnn⟩ : ∃ n, is.length = n := ⟨_, rfl⟩
  rw [hnn]
  replace hnn := hide hnn
  go_enter Try.func11, Try.ntmps11
  go_wp2
  go_loopw [5] (fun ti wr => ∃ k q : Nat, k ≤ n ∧ ti = .int .i64 k ∧ wr = w.drewN q) (fun ti _ => n - (intOf ti).toNat)
  case atStart => exact ⟨0, 0, Nat.zero_le _, rfl, rfl⟩
  case round =>
    obtain ⟨k, q, hk, rfl, rfl⟩ := hrel
    by_cases hlt : k < n
    · have hk' : k < is.length := by rw [unhide hnn]; exact hlt
      have hf : (is.map iv)[k]? = some (.int .i64 is[k]) := by rw [List.getElem?_map, List.getElem?_eq_getElem hk']; rfl
      obtain ⟨g1, o1, rfl, hg1, d1⟩ := hc1 k _ hf
      obtain ⟨g2, o2, rfl, hg2, d2⟩ := hc2 k _ hf
      have hi0 : (0 : Int) ≤ (k : Int) := by omega
      have hi1 : (k : Int) < (n : Int) := by omega
      generalize is[k] = told at *
      clear hc1 hc2 hf
      go_wp2
      go_quiet (fail)
      go_wp2
      go_roundw
      case rel => exact ⟨k + 1, _, by omega, by go_num, by first | rfl | rw [World.drewN_drewN]⟩
      case measure => simp [intOf]; omega
    · go_wp2
      go_ret
      exact ⟨rfl, bDN (Below.refl _ w) _⟩
def mkI (k n : Nat) : List Value := (List.range n).map fun i => .int .i64 ((k + i : Nat) : Int)
theorem mkI_len (k n : Nat) : (mkI k n).length = n := by unfold mkI; simp
theorem mkI_succ (k n : Nat) : mkI k (n + 1) = mkI k n ++ [.int .i64 ((k + n : Nat) : Int)] := by unfold mkI; rw [List.range_succ, List.map_append]; rfl
theorem mkI_set (k i : Nat) (xs : List Value) (h : i < xs.length) : (mkI k i ++ xs.drop i).set i (.int .i64 ((k + i : Nat) : Int)) = mkI k (i + 1) ++ xs.drop (i + 1) := by
  rw [List.drop_eq_getElem_cons h, List.set_append_right _ _ (by rw [mkI_len]; exact Nat.le_refl _), mkI_len, Nat.sub_self, List.set_cons_zero, mkI_succ]
  simp
end Go.Proofs.Ytijkhdhapdoepas
