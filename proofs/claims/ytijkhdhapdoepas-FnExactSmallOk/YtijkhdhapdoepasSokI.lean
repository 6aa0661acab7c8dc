/- Whether a sample is small, by the project, over the loaded program. -/
import Derived.Test.YtijkhdhapdoepasSok
import Derived.Test.YtijkhdhapdoepasPlyE
namespace Go.Proofs.Ytijkhdhapdoepas
open Go.RowKit
def zer256 : List Int := List.replicate 256 0
theorem cAt_zer (i : Nat) : cAt zer256 i = 0 := by
  unfold cAt zer256
  rw [List.getElem?_replicate]
  split <;> rfl
theorem ok_zer : okPl zer256 = true := okPl_of (by unfold zer256; rw [List.length_replicate]) fun i _ => by rw [cAt_zer]; omega
theorem circ_small (x : Int) (hx : 0 ≤ x ∧ x ≤ 3328) : circ x 0 ≤ 2 ↔ ¬ (2 < x ∧ x < 3327) := by unfold circ; split <;> omega
theorem smOk_far (a : List Int) : smOk a = (okPl a && decide (farL a zer256 ≤ 2)) := by
  cases ho : okPl a with
  | false => unfold smOk; rw [ho]; rfl
  | true =>
    rw [Bool.true_and]
    obtain ⟨hl, hv⟩ := okPl_yes ho
    by_cases hf : farL a zer256 ≤ 2
    · rw [decide_eq_true hf]
      refine smOk_yes ho fun k hk => (circ_small _ (hv k hk)).1 ?_
      have h1 := maxN_ge (fun i => circ (cAt a i) (cAt zer256 i)) 256 k hk
      rw [farL_is ho ok_zer] at hf
      rw [cAt_zer] at h1
      omega
    · rw [decide_eq_false hf]
      rw [farL_is ho ok_zer] at hf
      by_cases he : ∃ k, k < 256 ∧ (2 < cAt a k ∧ cAt a k < 3327)
      · obtain ⟨k, hk, hx⟩ := he
        exact smOk_no k (by omega) hx
      · refine absurd (maxN_le _ 256 2 (by omega) fun i hi => ?_) hf
        rw [cAt_zer]
        exact (circ_small _ (hv i hi)).2 fun h => he ⟨i, hi, h⟩
theorem wpList_make_wanted {P : Program} (w : World) {ops : Array Oper} {rest : List Oper} {o : Oper} {a : Act} {Q : Exit → Act → World → Prop}
    (hg : Region.wanted o (yielded ops a.tmps) = true) (l c : Operand) (t : TypeId) (hop : o.op = Op.makeSlice t l c)
    (base : Nat) (e : TypeId) (i : TypeInfo) (z : Value) (size : Nat) (h1 : P.underlying t = some (.slice e)) (h2 : P.info? e = some i) (h3 : i.zero = some z) (h4 : i.size = size)
    (kl kc : IntKind) (L C : Int) (n : Nat) (hl : a.eval l = .int kl L) (hc : a.eval c = .int kc C) (hL : L = (n : Int)) (hC : C = (n : Int)) (b2 : i.bytes * n ≤ 281474976710656) (b3 : n ≤ maxLen) (b4 : base ≤ w.heap.size)
    (hK : ∀ w', w'.ownsRow base e size (.slice (some ⟨w.heap.size, 0, none⟩) n n) n (madeCells z.cells (n * size)).toList → w.grownBy w' none → wpList P ops Q rest (a.put o.dst (.slice (some ⟨w.heap.size, 0, none⟩) n n)) w') :
    wpList P ops Q (o :: rest) a w := by
  refine wpList_step fun K hK' => ?_
  rw [if_pos hg]
  obtain ⟨w', hrun, r1, r2⟩ := run_make_full (P := P) w base t e i z size h1 h2 h3 h4 kl kc n b2 b3 b4
  subst hL
  subst hC
  unfold Oper.wp
  simp [execOp, hop, hl, hc, hrun, Result.andThen]
  exact hK' _ _ (hK w' r1 r2)
set_option maxRecDepth 20000 in
set_option maxHeartbeats 400000 in
theorem implSmallOk_any (a : List Int) (ua : Value) (h : a.length ≤ 1048576) (W : World) (r : RdV W ua (a.map iv)) :
    Calls Try.prog 10 #[ua] W fun x w' => x = .returned (.bool (smOk a)) ∧ Below W.heap.size W w' := by
  obtain ⟨i0, hi, hz0, hz1, hz2⟩ := info_parts infoInt
  have CA := hide (implPolyOk_q a ua W r)
  have E := hide (smOk_far a)
  have CF := hide (fun (w1 : World) (ub : Value) (hb : Below W.heap.size W w1) (r2 : RdV w1 ub (zer256.map iv)) => implFar_any a zer256 ua ub h (by unfold zer256; rw [List.length_replicate]; omega) w1 (r.below hb) r2)
  obtain ⟨a1, c1, rfl⟩ := r.shape
  rw [List.length_map] at CA CF ⊢
  rw [unhide E]
  clear r E h
  cases ho : okPl a with
  | false =>
    rw [ho] at CA
    rw [Bool.false_and]
    clear CF ho
    go_enter Try.func10, Try.ntmps10
    go_wp2_with fail
    refine (unhide CA).mono ?_
    rintro e w1 ⟨rfl, q, rfl⟩
    go_wp2
    go_ret
    exact ⟨rfl, bDN (Below.refl _ _) _⟩
  | true =>
    rw [ho] at CA
    rw [Bool.true_and]
    clear ho
    generalize farL a zer256 = f at *
    go_enter Try.func10, Try.ntmps10
    go_wp2_with fail
    refine (unhide CA).mono ?_
    rintro e w1 ⟨rfl, q, rfl⟩
    have hb0 : Below W.heap.size W (W.drewN q) := bDN (Below.refl _ _) _
    have hsz : W.heap.size = (W.drewN q).heap.size := rfl
    generalize W.drewN q = w0 at *
    go_wp2_with (at_make; refine wpList_make_wanted _ rfl _ _ 22 rfl w0.heap.size 3 i0 (.int .i64 0) 1 Try.underlying22 hi hz0 hz1 _ _ _ _ 256 rfl rfl rfl rfl (by rw [hz2]; omega) (by unfold maxLen; omega) (Nat.le_refl _) ?_; intro w1 hown1 hgrow1)
    have hb1 : Below W.heap.size W w1 := hb0.grown hgrow1 (by omega) (fun k hk => by cases hk)
    have hr1 : RdV w1 (.slice (some ⟨w0.heap.size, 0, none⟩) 256 256) (zer256.map iv) := by
      have hr0 : OwnV w1 w0.heap.size 3 (.slice (some ⟨w0.heap.size, 0, none⟩) 256 256) (zer256.map iv) := by
        rw [madeI] at hown1
        unfold OwnV zer256
        simpa [iv] using hown1
      exact hr0.rdv
    replace CF := hide (unhide CF w1 _ hb1 hr1)
    clear hown1 hgrow1 hr1 hb0 hsz
    refine (unhide CF).mono ?_
    rintro e w2 ⟨rfl, hb2⟩
    have hb3 := hb1.trans (hb2.mono hb1.size)
    clear hb2 CF CA
    go_wp2
    go_ret
    exact ⟨rfl, hb3⟩
end Go.Proofs.Ytijkhdhapdoepas
