/- Transforms as lists of numbers: what Ntt, InvNtt and MulNtt answer, and their laws. -/
import Derived.Test.YtdannnkdapbefaqNtp1
namespace Go.Proofs.Ytdannnkdapbefaq
open Go.RowKit
def nL (l : List Int) : Nat → List Int
  | 0 => l
  | i + 1 => mk256 fun t => lay (sz i) (zN i) (cAt (nL l i)) t % 3329
def inL (l : List Int) : Nat → List Int
  | 0 => l
  | m + 1 => mk256 fun t => ily (sz (6 - m)) (zI (6 - m)) (cAt (inL l m)) t % 3329
def nttL (l : List Int) : List Int := if okPl l = true then nL l 7 else []
def invL (l : List Int) : List Int := if okPl l = true then mk256 fun t => cAt (inL l 7) t * 3303 % 3329 else []
def mnL (a b : List Int) : List Int := if bothP a b = true then mk256 fun t => mnF (cAt a) (cAt b) t % 3329 else []
theorem eq_of_al {l m : List Int} (hl : okPl l = true) (hm : okPl m = true) (h : ∀ t, t < 256 → AlQ (cAt l t) (cAt m t)) : l = m :=
  ext_pl (okPl_yes hl).1 (okPl_yes hm).1 fun t ht => by
    have h1 := (okPl_yes hl).2 t ht
    have h2 := (okPl_yes hm).2 t ht
    have h3 := h t ht
    unfold AlQ at h3
    omega
theorem nL_ok {l : List Int} (h : okPl l = true) (i : Nat) : okPl (nL l i) = true := by
  cases i with
  | zero => exact h
  | succ i => exact pl_ok_mod _
theorem inL_ok {l : List Int} (h : okPl l = true) (i : Nat) : okPl (inL l i) = true := by
  cases i with
  | zero => exact h
  | succ i => exact pl_ok_mod _
theorem nL_al (l : List Int) (i : Nat) (hi : i ≤ 7) : ∀ t, t < 256 → AlQ (cAt (nL l i) t) (nF (cAt l) i t) := by
  induction i with
  | zero => exact fun t _ => AlQ.refl _
  | succ i ih =>
    intro t ht
    show AlQ (cAt (mk256 _) t) _
    rw [mk256_at _ t ht]
    exact AlQ.trans (AlQ.mod _) (lay_al (sz_ok i (by omega)) _ (ih (by omega)) t ht)
theorem inL_al (l : List Int) (m : Nat) (hm : m ≤ 7) : ∀ t, t < 256 → AlQ (cAt (inL l m) t) (iF (cAt l) m t) := by
  induction m with
  | zero => exact fun t _ => AlQ.refl _
  | succ m ih =>
    intro t ht
    show AlQ (cAt (mk256 _) t) _
    rw [mk256_at _ t ht]
    exact AlQ.trans (AlQ.mod _) (ily_al (sz_ok (6 - m) (by omega)) _ (ih (by omega)) t ht)
theorem nttL_is {l : List Int} (h : okPl l = true) : nttL l = nL l 7 := by unfold nttL; rw [if_pos h]
theorem invL_is {l : List Int} (h : okPl l = true) : invL l = mk256 fun t => cAt (inL l 7) t * 3303 % 3329 := by unfold invL; rw [if_pos h]
theorem mnL_is {a b : List Int} (ha : okPl a = true) (hb : okPl b = true) : mnL a b = mk256 fun t => mnF (cAt a) (cAt b) t % 3329 := by unfold mnL bothP; rw [ha, hb]; rfl
theorem nttL_ok {l : List Int} (h : okPl l = true) : okPl (nttL l) = true := by rw [nttL_is h]; exact nL_ok h 7
theorem invL_ok {l : List Int} (h : okPl l = true) : okPl (invL l) = true := by rw [invL_is h]; exact pl_ok_mod _
theorem mnL_ok {a b : List Int} (ha : okPl a = true) (hb : okPl b = true) : okPl (mnL a b) = true := by rw [mnL_is ha hb]; exact pl_ok_mod _
theorem nttL_al {l : List Int} (h : okPl l = true) (t : Nat) (ht : t < 256) : AlQ (cAt (nttL l) t) (nF (cAt l) 7 t) := by rw [nttL_is h]; exact nL_al l 7 (by omega) t ht
theorem invL_al {l : List Int} (h : okPl l = true) (t : Nat) (ht : t < 256) : AlQ (cAt (invL l) t) (iF (cAt l) 7 t * 3303) := by
  rw [invL_is h, mk256_at _ t ht]
  exact AlQ.trans (AlQ.mod _) ((inL_al l 7 (by omega) t ht).mul (AlQ.refl _))
theorem mnF_al {F F' G G' : Nat → Int} (hF : ∀ t, t < 256 → AlQ (F t) (F' t)) (hG : ∀ t, t < 256 → AlQ (G t) (G' t)) (t : Nat) (ht : t < 256) : AlQ (mnF F G t) (mnF F' G' t) := by
  unfold mnF
  by_cases h : t % 2 = 0
  · rw [if_pos h, if_pos h]
    exact ((hF t ht).mul (hG t ht)).add (((hF _ (by omega)).mul (hG _ (by omega))).mul (AlQ.refl _))
  · rw [if_neg h, if_neg h]
    exact ((hF _ (by omega)).mul (hG t ht)).add ((hF t ht).mul (hG _ (by omega)))
theorem mnL_al {a b : List Int} (ha : okPl a = true) (hb : okPl b = true) (t : Nat) (ht : t < 256) : AlQ (cAt (mnL a b) t) (mnF (cAt a) (cAt b) t) := by
  rw [mnL_is ha hb, mk256_at _ t ht]; exact AlQ.mod _
theorem inv_ntt {l : List Int} (h : okPl l = true) : invL (nttL l) = l := by
  refine eq_of_al (invL_ok (nttL_ok h)) h fun t ht => ?_
  refine AlQ.trans (invL_al (nttL_ok h) t ht) ?_
  refine AlQ.trans ((iF_al (fun u hu => nttL_al h u hu) 7 (by omega) t ht).mul (AlQ.refl _)) ?_
  exact inv_there _ t ht
theorem ntt_inv {l : List Int} (h : okPl l = true) : nttL (invL l) = l := by
  refine eq_of_al (nttL_ok (invL_ok h)) h fun t ht => ?_
  refine AlQ.trans (nttL_al (invL_ok h) t ht) ?_
  refine AlQ.trans (nF_al (g := fun i => 3303 * iF (cAt l) 7 i) (fun u hu => by
    have := invL_al h u hu
    rw [Int.mul_comm] at this
    exact this) 7 (by omega) t ht) ?_
  exact there_inv _ t ht
theorem ntt_mul {a b : List Int} (ha : okPl a = true) (hb : okPl b = true) : nttL (mulL a b) = mnL (nttL a) (nttL b) := by
  refine eq_of_al (nttL_ok (mulL_ok ha hb)) (mnL_ok (nttL_ok ha) (nttL_ok hb)) fun t ht => ?_
  refine AlQ.trans (nttL_al (mulL_ok ha hb) t ht) ?_
  refine AlQ.trans (nF_al (g := cfP (cAt a) (cAt b)) (fun u hu => by rw [mulL_is ha hb, mk256_at _ u hu]; exact AlQ.mod _) 7 (by omega) t ht) ?_
  refine AlQ.trans (nF_mul _ _ t ht) ?_
  refine AlQ.trans (mnF_al (fun u hu => (nttL_al ha u hu).symm) (fun u hu => (nttL_al hb u hu).symm) t ht) ?_
  exact (mnL_al (nttL_ok ha) (nttL_ok hb) t ht).symm
theorem inv_mul {a b : List Int} (ha : okPl a = true) (hb : okPl b = true) : invL (mnL (nttL a) (nttL b)) = mulL a b := by
  rw [← ntt_mul ha hb]; exact inv_ntt (mulL_ok ha hb)
theorem addL_al {a b : List Int} (ha : okPl a = true) (hb : okPl b = true) (t : Nat) (ht : t < 256) : AlQ (cAt (addL a b) t) (cAt a t + cAt b t) := by
  rw [addL_is ha hb, mk256_at _ t ht]; exact AlQ.mod _
theorem ntt_add {a b : List Int} (ha : okPl a = true) (hb : okPl b = true) : nttL (addL a b) = addL (nttL a) (nttL b) := by
  refine eq_of_al (nttL_ok (addL_ok ha hb)) (addL_ok (nttL_ok ha) (nttL_ok hb)) fun t ht => ?_
  refine AlQ.trans (nttL_al (addL_ok ha hb) t ht) ?_
  refine AlQ.trans (nF_al (fun u hu => addL_al ha hb u hu) 7 (by omega) t ht) ?_
  rw [nF_add]
  refine AlQ.trans ((nttL_al ha t ht).symm.add (nttL_al hb t ht).symm) ?_
  exact (addL_al (nttL_ok ha) (nttL_ok hb) t ht).symm
theorem mn_add {a b c : List Int} (ha : okPl a = true) (hb : okPl b = true) (hc : okPl c = true) : mnL (addL a b) c = addL (mnL a c) (mnL b c) := by
  refine eq_of_al (mnL_ok (addL_ok ha hb) hc) (addL_ok (mnL_ok ha hc) (mnL_ok hb hc)) fun t ht => ?_
  refine AlQ.trans (mnL_al (addL_ok ha hb) hc t ht) ?_
  refine AlQ.trans (mnF_al (fun u hu => addL_al ha hb u hu) (fun u _ => AlQ.refl _) t ht) ?_
  refine AlQ.trans ?_ (addL_al (mnL_ok ha hc) (mnL_ok hb hc) t ht).symm
  refine AlQ.trans ?_ ((mnL_al ha hc t ht).symm.add (mnL_al hb hc t ht).symm)
  unfold mnF
  split <;> exact al_of 0 (by grind)
theorem mn_comm {a c : List Int} (ha : okPl a = true) (hc : okPl c = true) : mnL a c = mnL c a := by
  refine eq_of_al (mnL_ok ha hc) (mnL_ok hc ha) fun t ht => ?_
  refine AlQ.trans (mnL_al ha hc t ht) (AlQ.trans ?_ (mnL_al hc ha t ht).symm)
  unfold mnF
  split <;> exact al_of 0 (by grind)
end Go.Proofs.Ytdannnkdapbefaq
