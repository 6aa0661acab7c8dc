/- What laws.toIntS, eqIntS, markIntS come to. -/
import Derived.Test.YtfjfjiolmadbaatRows1
import Derived.Test.YtfjfjiolmadbaatProg
namespace Go.Proofs.Ytfjfjiolmadbaat
open Go.RowKit

theorem infoInt : (Try.prog.info? 3).map (fun i => (i.zero, i.size, i.bytes)) = some (some (.int .i64 0), 1, 8) := by kernel_rfl
theorem madeI (n : Nat) : (madeCells (Value.int .i64 0).cells (n * 1)).toList = List.replicate n (.int .i64 0) := by
  unfold madeCells
  apply List.ext_getElem?
  intro j
  rw [Array.toList_map, Array.toList_range, List.getElem?_map, List.getElem?_replicate, Nat.mul_one]
  by_cases hj : j < n
  · rw [List.getElem?_range hj, if_pos hj]
    show some ((#[Value.int .i64 0] : Array Value)[j % 1]!) = _
    rw [Nat.mod_one]; rfl
  · rw [List.getElem?_eq_none (by simp; omega), if_neg hj]; rfl
theorem fillV {xs : List Value} {k n : Nat} {x z : Value} (hf : xs[k]? = some x) (hn : xs.length = n) : (xs.take k ++ List.replicate (n - k) z).set k x = xs.take (k + 1) ++ List.replicate (n - (k + 1)) z := by
  have hk : k < xs.length := (List.getElem?_eq_some_iff.1 hf).1
  have hl : (xs.take k).length = k := by rw [List.length_take]; omega
  rw [List.set_append_right _ _ (by omega), hl, Nat.sub_self, show n - k = (n - (k + 1)) + 1 by omega, List.replicate_succ, List.set_cons_zero, List.take_add_one, hf, List.append_assoc]
  rfl
theorem OwnV.len {w : World} {base n : Nat} {a : Option Addr} {c : Nat} {e : TypeId} {xs : List Value} (h : OwnV w base e (.slice a n c) xs) : xs.length = n := by
  rcases h.2 with ⟨h1, h2⟩ | ⟨g', cap, cur, h1, _⟩
  · simp only [Value.slice.injEq] at h1; omega
  · simp only [Value.slice.injEq] at h1; exact h1.2.1.symm

set_option maxRecDepth 20000 in
set_option maxHeartbeats 1000000 in
theorem eqIntS_any (is : List Int) (v1 v2 : Value) (w : World) (hr1 : RdV w v1 (is.map iv)) (hr2 : RdV w v2 (is.map iv)) (_ : is.length ≤ 2000000) :
    Calls Try.prog 13 #[v1, v2] w fun e w' => e = .returned (.bool true) ∧ Below w.heap.size w w' := by
  obtain ⟨a1, c1, rfl, hc1⟩ := hr1.open
  obtain ⟨a2, c2, rfl, hc2⟩ := hr2.open
  clear hr1 hr2
  rw [List.length_map]
  obtain ⟨n, hnn⟩ : ∃ n, is.length = n := ⟨_, rfl⟩
  rw [hnn]
  replace hnn := hide hnn
  go_enter Try.func13, Try.ntmps13
  go_wp2
  go_loopw [5] (fun ti wr => ∃ k q : Nat, k ≤ n ∧ ti = .int .i64 k ∧ wr = w.drewN q) (fun ti _ => n - (intOf ti).toNat)
  case atStart => exact ⟨0, 0, Nat.zero_le _, rfl, rfl⟩
  case round =>
    obtain ⟨k, q, hk, rfl, rfl⟩ := hrel
    by_cases hlt : k < n
    · have hk' : k < is.length := by rw [unhide hnn]; exact hlt
      have hf : (is.map iv)[k]? = some (.int .i64 is[k]) := by rw [List.getElem?_map, List.getElem?_eq_getElem hk']; rfl
      obtain ⟨g1, o1, rfl, hg1, d1⟩ := hc1 k _ hf
      obtain ⟨g2, o2, rfl, hg2, d2⟩ := hc2 k _ hf
      have hi0 : (0 : Int) ≤ (k : Int) := by omega
      have hi1 : (k : Int) < (n : Int) := by omega
      generalize is[k] = told at *
      clear hc1 hc2 hf
      go_wp2
      go_quiet (fail)
      go_wp2
      go_roundw
      case rel => exact ⟨k + 1, _, by omega, by go_num, by first | rfl | rw [World.drewN_drewN]⟩
      case measure => simp [intOf]; omega
    · go_wp2
      go_ret
      exact ⟨rfl, bDN (Below.refl _ w) _⟩
def mkI (k n : Nat) : List Value := (List.range n).map fun i => .int .i64 ((k + i : Nat) : Int)
theorem mkI_len (k n : Nat) : (mkI k n).length = n := by unfold mkI; simp
theorem mkI_succ (k n : Nat) : mkI k (n + 1) = mkI k n ++ [.int .i64 ((k + n : Nat) : Int)] := by unfold mkI; rw [List.range_succ, List.map_append]; rfl
theorem mkI_set (k i : Nat) (xs : List Value) (h : i < xs.length) : (mkI k i ++ xs.drop i).set i (.int .i64 ((k + i : Nat) : Int)) = mkI k (i + 1) ++ xs.drop (i + 1) := by
  rw [List.drop_eq_getElem_cons h, List.set_append_right _ _ (by rw [mkI_len]; exact Nat.le_refl _), mkI_len, Nat.sub_self, List.set_cons_zero, mkI_succ]
  simp
set_option maxRecDepth 20000 in
set_option maxHeartbeats 1000000 in
theorem markIntS_any (v : Value) (base k M : Nat) (xs : List Value) (w : World) (hM : M = k + xs.length) (hl : xs.length ≤ 2000000) (hk : k ≤ 20000000) (ho : OwnV w base 3 v xs) :
    Calls Try.prog 14 #[v, .int .i64 k] w fun e w' => e = .returned (.int .i64 (M : Int)) ∧ w.grownBy w' v.ownBlock := by
  obtain ⟨a, c, rfl⟩ := ho.shape
  obtain ⟨n, hnn⟩ : ∃ n, xs.length = n := ⟨_, rfl⟩
  rw [hnn] at hl ho hM ⊢
  replace hnn := hide hnn
  replace hM := hide hM
  go_enter Try.func14, Try.ntmps14
  go_wp2
  go_loopw [1, 5] (fun tk ti wr => ∃ (i q : Nat) (ys : List Value), i ≤ n ∧ ti = .int .i64 i ∧ tk = .int .i64 q ∧ Hid (q = k + i) ∧ OwnV wr base 3 (.slice a n c) ys ∧ w.grownBy wr (Value.slice a n c).ownBlock) (fun _ ti _ => n - (intOf ti).toNat)
  case atStart => exact ⟨0, k, xs, Nat.zero_le _, rfl, rfl, rfl, ho, gR _ _⟩
  case round =>
    obtain ⟨i, q, ys, hi, rfl, rfl, hq, hown, hb⟩ := hrel
    clear ho
    have hq2 : q ≤ 900000000 := by have := unhide hq; omega
    by_cases hlt : i < n
    · have hyl := hown.len
      obtain ⟨g, cg, hgv⟩ : ∃ g cg, Value.slice a n c = .slice (some ⟨g, 0, none⟩) n cg := by
        rcases hown.2 with ⟨_, h2⟩ | ⟨g, cap, cur, h1, _⟩
        · omega
        · exact ⟨g, cap, by rw [h1, hyl]⟩
      simp only [Value.slice.injEq, true_and] at hgv
      obtain ⟨rfl, rfl⟩ := hgv
      have hlt' : (i : Int) < (n : Int) := by omega
      have cu := hown.cell (List.getElem?_eq_getElem (show i < ys.length by omega))
      have cz := hown.frozen i
      have ho2 := hown.set i (.int .i64 (q : Int))
      have hb2 := gT hb (gS wr g i (.int .i64 (q : Int)))
      generalize ys[i]'(show i < ys.length by omega) = u at cu
      have hk3 : ((q : Int) + 1) = ((k + (i + 1) : Nat) : Int) := by have := unhide hq; omega
      replace hk3 := hide hk3
      go_wp2
      go_roundw
      case rel => exact ⟨i + 1, k + (i + 1), _, by omega, by go_num, by rw [← unhide hk3], rfl, ho2, hb2⟩
      case measure => simp [intOf]; omega
    · have he : i = n := by omega
      have hfin : (M : Int) = (q : Int) := by have h1 := unhide hq; have h2 := unhide hM; omega
      replace hfin := hide hfin
      go_wp2
      go_ret
      exact ⟨by rw [unhide hfin]; rfl, hb⟩
end Go.Proofs.Ytfjfjiolmadbaat
