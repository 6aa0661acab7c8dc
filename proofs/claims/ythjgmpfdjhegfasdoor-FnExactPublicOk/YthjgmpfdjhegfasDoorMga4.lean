/- Merged: Ntp2, Kem0, Apg, Kem2, Kem1, Ply4, Kem3, Ply5, Ntp3, Apw. -/
import Derived.Test.YthjgmpfdjhegfasDoorMga1
import Derived.Test.YthjgmpfdjhegfasDoorMga2
import Derived.Test.YthjgmpfdjhegfasDoorMga3
import Derived.Laws.DeepStrings4
/- Transforms as lists of numbers: what Ntt, InvNtt and MulNtt answer, and their laws. -/
namespace Go.Proofs.YthjgmpfdjhegfasDoor
open Go.RowKit
def nL (l : List Int) : Nat → List Int
  | 0 => l
  | i + 1 => mk256 fun t => lay (sz i) (zN i) (cAt (nL l i)) t % 3329
def inL (l : List Int) : Nat → List Int
  | 0 => l
  | m + 1 => mk256 fun t => ily (sz (6 - m)) (zI (6 - m)) (cAt (inL l m)) t % 3329
def nttL (l : List Int) : List Int := if okPl l = true then nL l 7 else []
def invL (l : List Int) : List Int := if okPl l = true then mk256 fun t => cAt (inL l 7) t * 3303 % 3329 else []
def mnL (a b : List Int) : List Int := if bothP a b = true then mk256 fun t => mnF (cAt a) (cAt b) t % 3329 else []
theorem eq_of_al {l m : List Int} (hl : okPl l = true) (hm : okPl m = true) (h : ∀ t, t < 256 → AlQ (cAt l t) (cAt m t)) : l = m :=
  ext_pl (okPl_yes hl).1 (okPl_yes hm).1 fun t ht => by
    have h1 := (okPl_yes hl).2 t ht
    have h2 := (okPl_yes hm).2 t ht
    have h3 := h t ht
    unfold AlQ at h3
    omega
theorem nL_ok {l : List Int} (h : okPl l = true) (i : Nat) : okPl (nL l i) = true := by
  cases i with
  | zero => exact h
  | succ i => exact pl_ok_mod _
theorem inL_ok {l : List Int} (h : okPl l = true) (i : Nat) : okPl (inL l i) = true := by
  cases i with
  | zero => exact h
  | succ i => exact pl_ok_mod _
theorem nL_al (l : List Int) (i : Nat) (hi : i ≤ 7) : ∀ t, t < 256 → AlQ (cAt (nL l i) t) (nF (cAt l) i t) := by
  induction i with
  | zero => exact fun t _ => AlQ.refl _
  | succ i ih =>
    intro t ht
    show AlQ (cAt (mk256 _) t) _
    rw [mk256_at _ t ht]
    exact AlQ.trans (AlQ.mod _) (lay_al (sz_ok i (by omega)) _ (ih (by omega)) t ht)
theorem inL_al (l : List Int) (m : Nat) (hm : m ≤ 7) : ∀ t, t < 256 → AlQ (cAt (inL l m) t) (iF (cAt l) m t) := by
  induction m with
  | zero => exact fun t _ => AlQ.refl _
  | succ m ih =>
    intro t ht
    show AlQ (cAt (mk256 _) t) _
    rw [mk256_at _ t ht]
    exact AlQ.trans (AlQ.mod _) (ily_al (sz_ok (6 - m) (by omega)) _ (ih (by omega)) t ht)
theorem nttL_is {l : List Int} (h : okPl l = true) : nttL l = nL l 7 := by unfold nttL; rw [if_pos h]
theorem invL_is {l : List Int} (h : okPl l = true) : invL l = mk256 fun t => cAt (inL l 7) t * 3303 % 3329 := by unfold invL; rw [if_pos h]
theorem mnL_is {a b : List Int} (ha : okPl a = true) (hb : okPl b = true) : mnL a b = mk256 fun t => mnF (cAt a) (cAt b) t % 3329 := by unfold mnL bothP; rw [ha, hb]; rfl
theorem nttL_ok {l : List Int} (h : okPl l = true) : okPl (nttL l) = true := by rw [nttL_is h]; exact nL_ok h 7
theorem invL_ok {l : List Int} (h : okPl l = true) : okPl (invL l) = true := by rw [invL_is h]; exact pl_ok_mod _
theorem mnL_ok {a b : List Int} (ha : okPl a = true) (hb : okPl b = true) : okPl (mnL a b) = true := by rw [mnL_is ha hb]; exact pl_ok_mod _
theorem nttL_al {l : List Int} (h : okPl l = true) (t : Nat) (ht : t < 256) : AlQ (cAt (nttL l) t) (nF (cAt l) 7 t) := by rw [nttL_is h]; exact nL_al l 7 (by omega) t ht
theorem invL_al {l : List Int} (h : okPl l = true) (t : Nat) (ht : t < 256) : AlQ (cAt (invL l) t) (iF (cAt l) 7 t * 3303) := by
  rw [invL_is h, mk256_at _ t ht]
  exact AlQ.trans (AlQ.mod _) ((inL_al l 7 (by omega) t ht).mul (AlQ.refl _))
theorem mnF_al {F F' G G' : Nat → Int} (hF : ∀ t, t < 256 → AlQ (F t) (F' t)) (hG : ∀ t, t < 256 → AlQ (G t) (G' t)) (t : Nat) (ht : t < 256) : AlQ (mnF F G t) (mnF F' G' t) := by
  unfold mnF
  by_cases h : t % 2 = 0
  · rw [if_pos h, if_pos h]
    exact ((hF t ht).mul (hG t ht)).add (((hF _ (by omega)).mul (hG _ (by omega))).mul (AlQ.refl _))
  · rw [if_neg h, if_neg h]
    exact ((hF _ (by omega)).mul (hG t ht)).add ((hF t ht).mul (hG _ (by omega)))
theorem mnL_al {a b : List Int} (ha : okPl a = true) (hb : okPl b = true) (t : Nat) (ht : t < 256) : AlQ (cAt (mnL a b) t) (mnF (cAt a) (cAt b) t) := by
  rw [mnL_is ha hb, mk256_at _ t ht]; exact AlQ.mod _
theorem inv_ntt {l : List Int} (h : okPl l = true) : invL (nttL l) = l := by
  refine eq_of_al (invL_ok (nttL_ok h)) h fun t ht => ?_
  refine AlQ.trans (invL_al (nttL_ok h) t ht) ?_
  refine AlQ.trans ((iF_al (fun u hu => nttL_al h u hu) 7 (by omega) t ht).mul (AlQ.refl _)) ?_
  exact inv_there _ t ht
theorem ntt_inv {l : List Int} (h : okPl l = true) : nttL (invL l) = l := by
  refine eq_of_al (nttL_ok (invL_ok h)) h fun t ht => ?_
  refine AlQ.trans (nttL_al (invL_ok h) t ht) ?_
  refine AlQ.trans (nF_al (g := fun i => 3303 * iF (cAt l) 7 i) (fun u hu => by
    have := invL_al h u hu
    rw [Int.mul_comm] at this
    exact this) 7 (by omega) t ht) ?_
  exact there_inv _ t ht
theorem ntt_mul {a b : List Int} (ha : okPl a = true) (hb : okPl b = true) : nttL (mulL a b) = mnL (nttL a) (nttL b) := by
  refine eq_of_al (nttL_ok (mulL_ok ha hb)) (mnL_ok (nttL_ok ha) (nttL_ok hb)) fun t ht => ?_
  refine AlQ.trans (nttL_al (mulL_ok ha hb) t ht) ?_
  refine AlQ.trans (nF_al (g := cfP (cAt a) (cAt b)) (fun u hu => by rw [mulL_is ha hb, mk256_at _ u hu]; exact AlQ.mod _) 7 (by omega) t ht) ?_
  refine AlQ.trans (nF_mul _ _ t ht) ?_
  refine AlQ.trans (mnF_al (fun u hu => (nttL_al ha u hu).symm) (fun u hu => (nttL_al hb u hu).symm) t ht) ?_
  exact (mnL_al (nttL_ok ha) (nttL_ok hb) t ht).symm
theorem inv_mul {a b : List Int} (ha : okPl a = true) (hb : okPl b = true) : invL (mnL (nttL a) (nttL b)) = mulL a b := by
  rw [← ntt_mul ha hb]; exact inv_ntt (mulL_ok ha hb)
theorem addL_al {a b : List Int} (ha : okPl a = true) (hb : okPl b = true) (t : Nat) (ht : t < 256) : AlQ (cAt (addL a b) t) (cAt a t + cAt b t) := by
  rw [addL_is ha hb, mk256_at _ t ht]; exact AlQ.mod _
theorem ntt_add {a b : List Int} (ha : okPl a = true) (hb : okPl b = true) : nttL (addL a b) = addL (nttL a) (nttL b) := by
  refine eq_of_al (nttL_ok (addL_ok ha hb)) (addL_ok (nttL_ok ha) (nttL_ok hb)) fun t ht => ?_
  refine AlQ.trans (nttL_al (addL_ok ha hb) t ht) ?_
  refine AlQ.trans (nF_al (fun u hu => addL_al ha hb u hu) 7 (by omega) t ht) ?_
  rw [nF_add]
  refine AlQ.trans ((nttL_al ha t ht).symm.add (nttL_al hb t ht).symm) ?_
  exact (addL_al (nttL_ok ha) (nttL_ok hb) t ht).symm
theorem mn_add {a b c : List Int} (ha : okPl a = true) (hb : okPl b = true) (hc : okPl c = true) : mnL (addL a b) c = addL (mnL a c) (mnL b c) := by
  refine eq_of_al (mnL_ok (addL_ok ha hb) hc) (addL_ok (mnL_ok ha hc) (mnL_ok hb hc)) fun t ht => ?_
  refine AlQ.trans (mnL_al (addL_ok ha hb) hc t ht) ?_
  refine AlQ.trans (mnF_al (fun u hu => addL_al ha hb u hu) (fun u _ => AlQ.refl _) t ht) ?_
  refine AlQ.trans ?_ (addL_al (mnL_ok ha hc) (mnL_ok hb hc) t ht).symm
  refine AlQ.trans ?_ ((mnL_al ha hc t ht).symm.add (mnL_al hb hc t ht).symm)
  unfold mnF
  split <;> exact al_of 0 (by grind)
theorem mn_comm {a c : List Int} (ha : okPl a = true) (hc : okPl c = true) : mnL a c = mnL c a := by
  refine eq_of_al (mnL_ok ha hc) (mnL_ok hc ha) fun t ht => ?_
  refine AlQ.trans (mnL_al ha hc t ht) (AlQ.trans ?_ (mnL_al hc ha t ht).symm)
  unfold mnF
  split <;> exact al_of 0 (by grind)
end Go.Proofs.YthjgmpfdjhegfasDoor

/- A secret handed over, reckoned: the pieces of texts, bits, sums of products. -/
namespace Go.Proofs.YthjgmpfdjhegfasDoor
open Go.RowKit
/-- The piece i of a text, of n bytes each. -/
def pieceB (s : ByteArray) (n i : Nat) : ByteArray := s.extract (i * n) ((i + 1) * n)
def plsOk (s : ByteArray) : Bool := pfOk (pieceB s 384 0) && pfOk (pieceB s 384 1)
def publicOkB (s : ByteArray) : Bool := decide (s.size = 800) && plsOk s
/-- The bit i of a text of 32 bytes. -/
def bitB (m : ByteArray) (i : Nat) : Nat := (m.data.getD (i / 8) 0).toNat / 2 ^ (i % 8) % 2
def bitsL (m : ByteArray) : List Int := mk256 fun i => strZ (bitB m i) 1
def sqzL (p : List Int) (d : Int) : List Int := p.map fun x => sqzZ x d
def sqzB (p : List Int) (d : Int) : ByteArray := pkB (sqzL p d) d
def strL (s : ByteArray) (d : Int) : List Int := (upL s d 256).map fun y => strZ y d
/-- The sum of the products of two rows of two polynomials. -/
def sum2 (a0 a1 b0 b1 : List Int) : List Int := addL (addL zeroL (mnL a0 b0)) (mnL a1 b1)
/-- The sum of the first k products. -/
def sumK (A B : Nat → List Int) : Nat → List Int
  | 0 => zeroL
  | k + 1 => addL (sumK A B k) (mnL (A k) (B k))
theorem sumK_two (A B : Nat → List Int) : sumK A B 2 = sum2 (A 0) (A 1) (B 0) (B 1) := rfl
end Go.Proofs.YthjgmpfdjhegfasDoor

/- Laws of no program: an append of one value to a row of the call's own, and which blocks stay; rows of unlike kinds lie in unlike blocks. -/
namespace Go.Proofs.YthjgmpfdjhegfasDoor
open Go.RowKit
theorem wpList_append_grow {P : Program} {w : World} {ops : Array Oper} {rest : List Oper} {o : Oper} {a : Act} {Q : Exit → Act → World → Prop} (hgd : o.guard = none) (s x : Operand) (t : TypeId)
    (ho : o.op = .call { callee := .builtin .append, args := #[s, x], argTypes := #[t, t] })
    (base : Nat) (e : TypeId) (i : TypeInfo) (z : Value) (nb : Nat) (ht : P.underlying t = some (.slice e)) (hi : P.info? e = some i) (hz : i.zero = some z) (hsize : i.size = 1) (hby : i.bytes = nb) (hzs : z.cells.size = 1)
    (v : Value) (xs : List Value) (hs : a.eval s = v) (hown : OwnV w base e v xs) (u : Value) (h1 : u.oneCell' = true) (hx : a.eval x = .slice (some ⟨w.heap.size, 0, none⟩) 1 1)
    (h63 : xs.length + 1 ≤ maxLen) (hbytes : (xs.length + 1) * nb ≤ 140737488355328) (hbase : base ≤ w.heap.size)
    (h : ∀ v' w', OwnV w' base e v' (xs ++ [u]) → (w.alloc (.cells #[u] e)).grownBy w' v.ownBlock → wpList P ops Q rest (a.put o.dst v') w') :
    wpList P ops Q (o :: rest) a (w.alloc (.cells #[u] e)) :=
  wpList_plain hgd fun _ hK => by
    refine wp_append_own (w.alloc (.cells #[u] e)) s x t ho base e i z 1 nb ht hi hz hsize hby hzs (by decide) v xs.length xs hs (hown.alloc _) ⟨w.heap.size, 0, none⟩ 1 1 [u] hx rfl (fun j y hy => ?_) (by intro y hy; simp only [List.mem_singleton] at hy; subst hy; exact h1) h63 hbytes (by simp; omega) ?_
    · have hadd : (⟨w.heap.size, 0, none⟩ : Addr).add j = ⟨w.heap.size, j, none⟩ := by unfold Addr.add; split <;> simp_all
      rw [hadd, cell_of_row _ w.heap.size j _ e (0, 0) (heap_alloc_new w _)]
      simpa using hy
    · intro v' w' h2 h3 _
      exact hK _ _ (h v' w' (by unfold OwnV; simpa using h2) h3)
theorem OwnV.apart {w : World} {b1 b2 : Nat} {e1 e2 : TypeId} {v1 v2 : Value} {x1 x2 : List Value} (h1 : OwnV w b1 e1 v1 x1) (h2 : OwnV w b2 e2 v2 x2) (he : e1 ≠ e2) (k : Nat) (hk : v1.ownBlock = some k) : v2.ownBlock ≠ some k := by
  intro hv
  rcases h1.2 with ⟨a1, _⟩ | ⟨g, cap, cur, a1, _, a3, _⟩
  · rw [a1] at hk; cases hk
  · rcases h2.2 with ⟨c1, _⟩ | ⟨g', cap', cur', c1, _, c3, _⟩
    · rw [c1] at hv; cases hv
    · rw [a1] at hk
      rw [c1] at hv
      have hk' : (some g : Option Nat) = some k := hk
      have hv' : (some g' : Option Nat) = some k := hv
      have e1' := Option.some.inj hk'
      have e2' := Option.some.inj hv'
      subst e1' e2'
      rw [a3] at c3
      have h4 := Option.some.inj c3
      injection h4 with h5 h6
      exact he h6
end Go.Proofs.YthjgmpfdjhegfasDoor

/- A secret handed over, by the given model: the polynomials of a text, a right public text, over the loaded program. -/
namespace Go.Proofs.YthjgmpfdjhegfasDoor
open Go.RowKit
theorem infoRow : (Tryd.prog.info? 31).map (fun i => (i.zero, i.size, i.bytes)) = some (some (.slice none 0 0), 1, 24) := by kernel_rfl
theorem cut13 (T : ByteArray) (i j : Nat) (w : World) (h1 : i ≤ j) (h2 : j ≤ T.size) : (Instr.slice 9 (.string T) (some (.int .i64 (i : Int))) (some (.int .i64 (j : Int))) none).run Tryd.prog w = .ok (.string (T.extract i j)) w := by
  rw [run_slice_string_if w 9 T .i64 .i64 (i : Int) (j : Int) Tryd.underlying9, if_pos (by omega), if_pos (by omega)]
  rfl
set_option maxRecDepth 20000 in
set_option maxHeartbeats 800000 in
theorem specPolys_any (s : ByteArray) (h768 : 768 ≤ s.size) (hs : s.size ≤ 1048576) (w : World) :
    Calls Tryd.prog 12 #[.string s] w fun e w' => (∃ v, e = .returned (.tuple #[v, .bool (plsOk s)]) ∧
      (plsOk s = true → ∃ v0 v1, OwnV w' w.heap.size 31 v [v0, v1] ∧ OwnV w' w.heap.size 3 v0 ((pfL (pieceB s 384 0)).map iv) ∧ OwnV w' w.heap.size 3 v1 ((pfL (pieceB s 384 1)).map iv))) ∧ Below w.heap.size w w' := by
  obtain ⟨i0, hi, hz0, hz1, hz2⟩ := info_parts infoRow
  have CF := hide (fun (k : Nat) (hk : k < 2) W => specPolyFrom_any (pieceB s 384 k) (by unfold pieceB; rw [ByteArray.size_extract]; omega) W)
  have EP := hide (show plsOk s = (pfOk (pieceB s 384 0) && pfOk (pieceB s 384 1)) from rfl)
  have HSl := hide (fun (k : Nat) (hk : k < 2) W => cut13 s (k * 384) ((k + 1) * 384) W (by omega) (by omega))
  obtain ⟨P, hP⟩ : ∃ P : Nat → ByteArray, P = pieceB s 384 := ⟨_, rfl⟩
  have HSl2 := hide (show ∀ k, k < 2 → ∀ W, (Instr.slice 9 (.string s) (some (.int .i64 ((k * 384 : Nat) : Int))) (some (.int .i64 (((k + 1) * 384 : Nat) : Int))) none).run Tryd.prog W = .ok (.string (P k)) W from fun k hk W => by rw [hP]; exact unhide HSl k hk W)
  rw [← hP] at EP CF ⊢
  generalize plsOk s = ok at *
  clear HSl hP
  go_enter Tryd.func12, Tryd.ntmps12
  go_wp2
  go_loopw [4, 5] (fun tv ti wr => ∃ (k : Nat) (vs : List Value), k ≤ 2 ∧ ti = .int .i64 (k : Int) ∧ Hid (vs.length = k) ∧ Hid (OwnV wr w.heap.size 31 tv vs) ∧ Hid (∀ i v, vs[i]? = some v → OwnV wr w.heap.size 3 v ((pfL (P i)).map iv)) ∧ Hid (∀ i, i < k → pfOk (P i) = true) ∧ Below w.heap.size w wr) (fun _ ti _ => 2 - (intOf ti).toNat)
  case atStart => exact ⟨0, [], by omega, rfl, hide rfl, hide (World.ownsRow_made w #[] 0 (Nat.le_refl _) (by decide) (by simp)), hide (fun i v h => by simp at h), hide (fun i h => absurd h (by omega)), (Below.refl _ _).alloc (Nat.le_refl _) _⟩
  case round =>
    obtain ⟨k, vs, hk, rfl, HL, HO, HV, HK, hB⟩ := hrel
    have hsz := hB.size
    by_cases hlt : k < 2
    · have hk' : (k : Int) < 2 := by omega
      obtain ⟨m, hm⟩ : ∃ m, m = k * 384 := ⟨_, rfl⟩
      obtain ⟨m2, hm2⟩ : ∃ m, m = (k + 1) * 384 := ⟨_, rfl⟩
      have t1 : IntKind.i64.wrap ((k : Int) * 384) = (m : Int) := by rw [IntKind.wrap_i64]; omega
      obtain ⟨k1, hk1⟩ : ∃ m, m = k + 1 := ⟨_, rfl⟩
      have t2 : IntKind.i64.wrap ((k : Int) + 1) = (k1 : Int) := by rw [IntKind.wrap_i64]; omega
      have t3 : IntKind.i64.wrap ((k1 : Int) * 384) = (m2 : Int) := by rw [IntKind.wrap_i64]; omega
      have hsl := unhide HSl2 k hlt
      rw [← hm, ← hm2] at hsl
      have C := hide (fun W => unhide CF k hlt W)
      obtain ⟨b, hb⟩ : ∃ b, b = pfOk (P k) := ⟨_, rfl⟩
      obtain ⟨pl, hpl⟩ : ∃ l, l = pfL (P k) := ⟨_, rfl⟩
      rw [← hb, ← hpl] at C
      obtain ⟨p, hp⟩ : ∃ p, p = P k := ⟨_, rfl⟩
      rw [← hp] at hsl C
      replace hm := hide hm; replace hm2 := hide hm2; replace hk1 := hide hk1; replace hp := hide hp; replace hpl := hide hpl
      clear CF HSl2
      go_wp2_with fail
      refine (unhide C wr).mono ?_
      rintro e w1 ⟨⟨v, rfl, ov⟩, hb1⟩
      have hO1 := (unhide HO).below hb1
      have hV1 : ∀ i u, vs[i]? = some u → OwnV w1 w.heap.size 3 u ((pfL (P i)).map iv) := fun i u h => (unhide HV i u h).below hb1
      have hB1 := hB.trans (hb1.mono hsz)
      have ov1 := ov.low hsz
      have hsz1 := hB1.size
      clear ov hb1 HO HV hB C
      cases b with
      | false =>
        have E := hide (show ok = false by
          rw [unhide EP]
          have h2 : k = 0 ∨ k = 1 := by omega
          rcases h2 with rfl | rfl
          · rw [← hb]; rfl
          · rw [← hb, Bool.and_false])
        replace hO1 := hide hO1; replace hV1 := hide hV1; replace ov1 := hide ov1; replace hb := hide hb
        clear hsl
        have hBa := hB1.alloc hsz1 (.cells #[] 31)
        go_wp2
        refine bodyPost_ret (v := .tuple #[.slice (some ⟨w1.heap.size, 0, none⟩) 0 0, .bool false]) (by simp [results, Tryd.results12, go_sem]) rfl ⟨⟨_, by rw [unhide E], fun h => by rw [unhide E] at h; cases h⟩, hBa⟩
      | true =>
        have hl1 : vs.length + 1 ≤ maxLen := by rw [unhide HL]; unfold maxLen; omega
        have hl2 : (vs.length + 1) * 24 ≤ 140737488355328 := by rw [unhide HL]; omega
        replace hl1 := hide hl1; replace hl2 := hide hl2; replace hO1 := hide hO1; replace hV1 := hide hV1; replace ov1 := hide ov1; replace hb := hide hb
        clear hsl
        obtain ⟨av, cv, rfl⟩ := (unhide ov1).shape
        rw [List.length_map] at ov1 ⊢
        go_wp2_with (at_builtin; refine wpList_append_grow (w := w1) rfl (.tmp 27) (.tmp 29) 28 rfl w.heap.size 31 i0 (.slice none 0 0) 24 Tryd.underlying28 hi hz0 hz1 hz2 rfl u4 vs (by rfl) (unhide hO1) (.slice av pl.length cv) rfl (by rfl) (unhide hl1) (unhide hl2) hsz1 ?_; intro v' w5 ho5 hg5)
        have hne : ∀ u xs, OwnV w1 w.heap.size 3 u xs → ∀ n, u.ownBlock = some n → u4.ownBlock ≠ some n := fun u xs h n hn => h.apart (unhide hO1) (by decide) n hn
        have hB5 := (hB1.alloc hsz1 (.cells #[.slice av pl.length cv] 31)).grown hg5 (by simp; omega) (fun n hn => ((unhide hO1).lt n hn).1)
        have hV5 := hide (show ∀ i u, (vs ++ [.slice av pl.length cv])[i]? = some u → OwnV w5 w.heap.size 3 u ((pfL (P i)).map iv) from fun i u h => by
          by_cases hi9 : i < vs.length
          · rw [List.getElem?_append_left hi9] at h
            exact ((unhide hV1 i u h).alloc _).grown hg5 (hne u _ (unhide hV1 i u h))
          · have hie : i = vs.length := by
              have h2 := (List.getElem?_eq_some_iff.mp h).1
              rw [List.length_append] at h2
              simp at h2
              omega
            subst hie
            rw [List.getElem?_append_right (Nat.le_refl _), Nat.sub_self] at h
            have hu : Value.slice av pl.length cv = u := by simpa using h
            subst hu
            have hx : (pfL (P vs.length)).map iv = pl.map iv := by rw [unhide HL, ← unhide hpl]
            rw [hx]
            exact ((unhide ov1).alloc _).grown hg5 (hne _ _ (unhide ov1)))
        have hK5 := hide (show ∀ i, i < k + 1 → pfOk (P i) = true from fun i h => by
          by_cases e : i = k
          · rw [e]; exact (unhide hb).symm
          · exact unhide HK i (by omega))
        have hL5 := hide (show (vs ++ [Value.slice av pl.length cv]).length = k + 1 by rw [List.length_append, unhide HL]; rfl)
        replace ho5 := hide ho5
        clear hne hg5 hV1 hO1 ov1 HK HL
        go_wp2
        exact ⟨⟨k + 1, vs ++ [.slice av pl.length cv], by omega, by first | go_num | (rw [← unhide hk1]), hL5, ho5, hV5, hK5, hB5⟩, by have := unhide hk1; simp [intOf]; omega⟩
    · have hk' : ¬ (k : Int) < 2 := by omega
      have hke : k = 2 := by omega
      have E := hide (show ok = true by rw [unhide EP, unhide HK 0 (by omega), unhide HK 1 (by omega)]; rfl)
      obtain ⟨v0, v1, hvs⟩ : ∃ v0 v1, vs = [v0, v1] := by
        have h2 := unhide HL
        rw [hke] at h2
        match vs, h2 with
        | [a, b], _ => exact ⟨a, b, rfl⟩
      subst hvs
      have h0 := hide (unhide HV 0 v0 rfl)
      have h1 := hide (unhide HV 1 v1 rfl)
      replace hke := hide hke
      clear HV HK HL CF HSl2
      go_wp2
      refine bodyPost_ret (v := .tuple #[u4, .bool true]) (by simp [results, Tryd.results12, go_sem]) rfl ⟨⟨_, by rw [unhide E], fun _ => ⟨v0, v1, unhide HO, unhide h0, unhide h1⟩⟩, hB⟩
set_option maxRecDepth 20000 in
theorem specPublicOk_any (s : ByteArray) (hs : s.size ≤ 1048576) (w : World) :
    Calls Tryd.prog 6 #[.string s] w fun e w' => e = .returned (.bool (publicOkB s)) ∧ Below w.heap.size w w' := by
  by_cases h8 : s.size = 800
  · have CP := hide (specPolys_any s (by omega) hs w)
    have E := hide (show publicOkB s = plsOk s by unfold publicOkB; rw [h8]; rfl)
    rw [unhide E]
    have h8' : (s.size : Int) = 800 := by omega
    replace h8 := hide h8
    generalize plsOk s = ok at *
    go_enter Tryd.func6, Tryd.ntmps6
    go_wp2_with fail
    refine (unhide CP).mono ?_
    rintro e w1 ⟨⟨v, rfl, hv⟩, hb1⟩
    clear hv CP
    go_wp2
    go_ret
    exact ⟨rfl, hb1⟩
  · have E := hide (show publicOkB s = false by unfold publicOkB; rw [decide_eq_false h8]; rfl)
    rw [unhide E]
    have h8' : ¬ (s.size : Int) = 800 := by omega
    go_enter Tryd.func6, Tryd.ntmps6
    go_wp2
    go_ret
    exact ⟨rfl, Below.refl _ _⟩
end Go.Proofs.YthjgmpfdjhegfasDoor

/- A secret handed over, by the given model: numbers squeezed, bits stretched, over the loaded program. -/
namespace Go.Proofs.YthjgmpfdjhegfasDoor
open Go.RowKit
theorem sqzL_pre (l : List Int) (d : Int) : sqzL l d = preL (fun i => sqzZ (cAt l i) d) l.length := by
  unfold sqzL preL
  apply List.ext_getElem?
  intro i
  rw [List.getElem?_map, List.getElem?_map]
  by_cases h : i < l.length
  · rw [List.getElem?_range h, List.getElem?_eq_getElem h]
    show some (sqzZ l[i] d) = some (sqzZ (cAt l i) d)
    rw [cAt_lt h]
  · rw [List.getElem?_eq_none (by omega), List.getElem?_eq_none (by rw [List.length_range]; omega)]
    rfl
set_option maxRecDepth 20000 in
set_option maxHeartbeats 400000 in
theorem specSqueezed_any (l : List Int) (d : Int) (hl : l.length ≤ 1048576) (v : Value) (w : World) (r : RdV w v (l.map iv)) :
    Calls Tryd.prog 15 #[v, .int .i64 d] w fun e w' => e = .returned (.string (sqzB l d)) ∧ Below w.heap.size w w' := by
  obtain ⟨i0, hi, hz0, hz1, hz2⟩ := info_parts infoInt
  have CQ := hide (fun x W => specSqueeze_any x d W)
  have CP := hide (fun va W ra => specPack_any (sqzL l d) d (by unfold sqzL; rw [List.length_map]; omega) va W ra)
  have EL := hide (sqzL_pre l d)
  have EB := hide (show sqzB l d = pkB (sqzL l d) d from rfl)
  rw [unhide EB]
  obtain ⟨f, hf⟩ : ∃ f : Nat → Int, f = fun i => sqzZ (cAt l i) d := ⟨_, rfl⟩
  rw [← hf] at EL
  generalize sqzL l d = q at *
  obtain ⟨a1, c1, rfl, hc⟩ := r.open
  rw [List.length_map]
  obtain ⟨n, hn⟩ : ∃ n, l.length = n := ⟨_, rfl⟩
  rw [hn] at EL hl ⊢
  clear r
  replace hn := hide hn; replace hf := hide hf
  generalize pkB q d = sb, pkOk q d = ob at *
  go_enter Tryd.func15, Tryd.ntmps15
  go_wp2
  go_loopw [5, 6] (fun tv ti wr => ∃ k : Nat, k ≤ n ∧ ti = .int .i64 (k : Int) ∧ Hid (OwnV wr w.heap.size 3 tv ((preL f k).map iv)) ∧ Below w.heap.size w wr) (fun _ ti _ => n - (intOf ti).toNat)
  case atStart => exact ⟨0, by omega, rfl, hide (World.ownsRow_made w #[] 0 (Nat.le_refl _) (by decide) (by simp)), (Below.refl _ _).alloc (Nat.le_refl _) _⟩
  case round =>
    obtain ⟨k, hk, rfl, HO, hB⟩ := hrel
    by_cases hlt : k < n
    · have hk' : (k : Int) < (n : Int) := by omega
      have hci : (0 : Int) ≤ (k : Int) := by omega
      obtain ⟨g, o, rfl, hg, d1⟩ := hc k _ (get_iv l k (by rw [unhide hn]; exact hlt))
      have dA := (hB.cell (p := ⟨g, o + k, none⟩) hg).trans d1
      have C := hide (fun W => unhide CQ (cAt l k) W)
      have HP := hide (preL_succ f k)
      obtain ⟨y, hy⟩ : ∃ y, y = f k := ⟨_, rfl⟩
      rw [show sqzZ (cAt l k) d = y by rw [hy, unhide hf]] at C
      rw [← hy] at HP
      generalize cAt l k = x at dA C
      have hsz := hB.size
      have hl1 : ((preL f k).map iv).length + 1 ≤ maxLen := by rw [List.length_map, preL_len]; unfold maxLen; omega
      have hl2 : (((preL f k).map iv).length + 1) * 8 ≤ 140737488355328 := by rw [List.length_map, preL_len]; omega
      replace hl1 := hide hl1; replace hl2 := hide hl2; replace hy := hide hy
      clear hc d1 CQ CP
      go_wp2_with (first
        | (go_at_call 29; refine (unhide C _).mono ?_; rintro e w2 ⟨rfl, hw2⟩; have hw3 := hw2.symm; subst hw3; clear hw2)
        | (at_builtin; refine wpList_append_vals (w := wr) rfl (.tmp 16) (.tmp 23) 31 rfl w.heap.size w.heap.size 3 i0 (.int .i64 0) 8 Tryd.underlying31 hi hz0 hz1 hz2 rfl u5 ((preL f k).map iv) (by rfl) (unhide HO) #[.int .i64 y] [.int .i64 y] rfl (by intro u hu; simp only [List.mem_singleton] at hu; subst hu; rfl) 1 1 rfl (by rfl) (unhide hl1) (unhide hl2) (Nat.le_refl _) hsz hB ?_; intro v' w5 hown5 hb5))
      rw [show (preL f k).map iv ++ [.int .i64 y] = (preL f (k + 1)).map iv by rw [unhide HP, List.map_append]; rfl] at hown5
      replace hown5 := hide hown5
      clear HO hB
      go_wp2
      exact ⟨⟨k + 1, by omega, by go_num, hown5, hb5⟩, by simp [intOf]; omega⟩
    · have hk' : ¬ (k : Int) < (n : Int) := by omega
      have hke : k = n := by omega
      have hr : RdV wr u5 (q.map iv) := by rw [unhide EL, ← hke]; exact (unhide HO).rdv
      have C := hide (unhide CP u5 wr hr)
      replace hke := hide hke
      clear HO hr CQ CP hc
      go_wp2_with fail
      refine (unhide C).mono ?_
      rintro e w2 ⟨rfl, hb2⟩
      have HT := hB.trans (hb2.mono hB.size)
      go_wp2
      go_ret
      exact ⟨rfl, HT⟩
end Go.Proofs.YthjgmpfdjhegfasDoor

/- Polynomials by the given model: products, over the loaded program. -/
namespace Go.Proofs.YthjgmpfdjhegfasDoor
open Go.RowKit
/-- The column of row i that meets place t. -/
def colT (i t : Nat) : Nat := (t + 256 - i) % 256
def stM (A B : Nat → Int) (i k : Nat) : List Int := mk256 fun t => (sumN (fun j => tmC A B j t) i + if colT i t < k then tmC A B i t else 0) % 3329
theorem stM_len (A B : Nat → Int) (i k : Nat) : (stM A B i k).length = 256 := mk256_len _
theorem stM_at (A B : Nat → Int) (i k t : Nat) (ht : t < 256) : cAt (stM A B i k) t = (sumN (fun j => tmC A B j t) i + if colT i t < k then tmC A B i t else 0) % 3329 := mk256_at _ t ht
theorem stM_zero (A B : Nat → Int) : stM A B 0 0 = List.replicate 256 0 := by
  refine ext_pl (stM_len _ _ _ _) (by rw [List.length_replicate]) fun t ht => ?_
  rw [stM_at _ _ _ _ t ht, if_neg (by omega)]
  show (0 + 0) % 3329 = cAt zeroL t
  rw [zeroL_at t ht]
  rfl
theorem stM_next (A B : Nat → Int) (i : Nat) : stM A B i 256 = stM A B (i + 1) 0 := by
  refine ext_pl (stM_len _ _ _ _) (stM_len _ _ _ _) fun t ht => ?_
  rw [stM_at _ _ _ _ t ht, stM_at _ _ _ _ t ht, if_pos (by unfold colT; omega), if_neg (by omega)]
  show _ = (sumN (fun j => tmC A B j t) i + tmC A B i t + 0) % 3329
  omega
theorem stM_end (A B : Nat → Int) : stM A B 256 0 = mk256 fun t => cfP A B t % 3329 := by
  refine ext_pl (stM_len _ _ _ _) (mk256_len _) fun t ht => ?_
  rw [stM_at _ _ _ _ t ht, mk256_at _ t ht, if_neg (by omega)]
  show (sumN (fun j => tmC A B j t) 256 + 0) % 3329 = sumN (fun j => tmC A B j t) 256 % 3329
  omega
theorem cAt_set (l : List Int) (p : Nat) (x : Int) (t : Nat) (hp : p < l.length) : cAt (l.set p x) t = if t = p then x else cAt l t := by
  unfold cAt
  rw [List.getElem?_set]
  by_cases h : p = t
  · rw [if_pos h, if_pos hp, if_pos h.symm]; rfl
  · rw [if_neg h, if_neg (fun e => h e.symm)]
theorem stM_low (A B : Nat → Int) (i k : Nat) (hi : i < 256) (hk : k < 256) (h : i + k < 256) : (stM A B i k).set (i + k) ((cAt (stM A B i k) (i + k) + A i * B k % 3329) % 3329) = stM A B i (k + 1) := by
  refine ext_pl (by rw [List.length_set, stM_len]) (stM_len _ _ _ _) fun t ht => ?_
  rw [cAt_set _ _ _ _ (by rw [stM_len]; omega), stM_at _ _ _ _ t ht, stM_at _ _ _ _ t ht, stM_at _ _ _ _ (i + k) h]
  by_cases e : t = i + k
  · subst e
    rw [if_pos rfl, if_neg (by unfold colT; omega), if_pos (by unfold colT; omega)]
    unfold tmC
    rw [if_pos (by omega), show i + k - i = k by omega]
    generalize A i * B k = p
    generalize sumN _ i = s
    omega
  · rw [if_neg e]
    have hc : colT i t ≠ k := by unfold colT; omega
    by_cases h2 : colT i t < k
    · rw [if_pos h2, if_pos (by omega)]
    · rw [if_neg h2, if_neg (by omega)]
theorem stM_high (A B : Nat → Int) (i k : Nat) (hi : i < 256) (hk : k < 256) (h : ¬ i + k < 256) : (stM A B i k).set (i + k - 256) ((cAt (stM A B i k) (i + k - 256) + (3329 - A i * B k % 3329)) % 3329) = stM A B i (k + 1) := by
  refine ext_pl (by rw [List.length_set, stM_len]) (stM_len _ _ _ _) fun t ht => ?_
  rw [cAt_set _ _ _ _ (by rw [stM_len]; omega), stM_at _ _ _ _ t ht, stM_at _ _ _ _ t ht, stM_at _ _ _ _ (i + k - 256) (by omega)]
  by_cases e : t = i + k - 256
  · rw [if_pos e, ← e, if_neg (by unfold colT; omega), if_pos (by unfold colT; omega)]
    unfold tmC
    rw [if_neg (by omega), show t + 256 - i = k by omega]
    generalize A i * B k = p
    generalize sumN _ i = s
    omega
  · rw [if_neg e]
    have hc : colT i t ≠ k := by unfold colT; omega
    by_cases h2 : colT i t < k
    · rw [if_pos h2, if_pos (by omega)]
    · rw [if_neg h2, if_neg (by omega)]
theorem stM_bound (A B : Nat → Int) (i k t : Nat) (ht : t < 256) : 0 ≤ cAt (stM A B i k) t ∧ cAt (stM A B i k) t ≤ 3328 := by
  rw [stM_at _ _ _ _ t ht]; omega
theorem set_iv (l : List Int) (p : Nat) (x : Int) : (l.map iv).set p (.int .i64 x) = (l.set p x).map iv := by
  rw [List.map_set]; rfl
end Go.Proofs.YthjgmpfdjhegfasDoor

/- A secret handed over, by the given model: the bits of a text, numbers stretched, over the loaded program. -/
namespace Go.Proofs.YthjgmpfdjhegfasDoor
open Go.RowKit
theorem byte13 (m : ByteArray) (q : Nat) (h : q < m.size) : (m[q]'h).toNat = (m.data.getD q 0).toNat := by
  unfold Array.getD
  rw [dif_pos (show q < m.data.size from h)]
  rfl
set_option maxRecDepth 20000 in
set_option maxHeartbeats 800000 in
theorem specBits_any (m : ByteArray) (hm : m.size = 32) (w : World) :
    Calls Tryd.prog 19 #[.string m] w fun e w' => (∃ v, e = .returned v ∧ OwnV w' w.heap.size 3 v ((bitsL m).map iv)) ∧ Below w.heap.size w w' := by
  obtain ⟨i0, hi, hz0, hz1, hz2⟩ := info_parts infoInt
  have CS := hide (fun x W => specStretch_any x 1 W)
  have EL := hide (show bitsL m = preL (fun i => strZ (bitB m i) 1) 256 from rfl)
  obtain ⟨f, hf⟩ : ∃ f : Nat → Int, f = fun i => strZ (bitB m i) 1 := ⟨_, rfl⟩
  rw [← hf] at EL
  generalize bitsL m = L at *
  replace hf := hide hf
  go_enter Tryd.func19, Tryd.ntmps19
  go_wp2
  go_loopw [3, 4] (fun tv ti wr => ∃ k : Nat, k ≤ 256 ∧ ti = .int .i64 (k : Int) ∧ Hid (OwnV wr w.heap.size 3 tv ((preL f k).map iv)) ∧ Below w.heap.size w wr) (fun _ ti _ => 256 - (intOf ti).toNat)
  case atStart => exact ⟨0, by omega, rfl, hide (World.ownsRow_made w #[] 0 (Nat.le_refl _) (by decide) (by simp)), (Below.refl _ _).alloc (Nat.le_refl _) _⟩
  case round =>
    obtain ⟨k, hk, rfl, HO, hB⟩ := hrel
    have hsz := hB.size
    by_cases hlt : k < 256
    · have hk' : (k : Int) < 256 := by omega
      obtain ⟨q, hq⟩ : ∃ q, q = k / 8 := ⟨_, rfl⟩
      obtain ⟨r, hr⟩ : ∃ r, r = k % 8 := ⟨_, rfl⟩
      have q1 : (k : Int).tdiv 8 = (q : Int) := by rw [Int.tdiv_eq_ediv_of_nonneg (by omega)]; omega
      have q1' : (k : Int) / 8 = (q : Int) := by omega
      have q2 : IntKind.i64.wrap (q : Int) = (q : Int) := by rw [IntKind.wrap_i64]; omega
      have q3 : (0 : Int) ≤ (q : Int) := by omega
      have q4 : (q : Int) < (m.size : Int) := by omega
      have r1 : (k : Int).tmod 8 = (r : Int) := by rw [Int.tmod_eq_emod_of_nonneg (by omega)]; omega
      have r1' : (k : Int) % 8 = (r : Int) := by omega
      have r2 : IntKind.i64.wrap (r : Int) = (r : Int) := by rw [IntKind.wrap_i64]; omega
      have hby : ∀ h, (m[q]'h).toNat = (m.data.getD q 0).toNat := byte13 m q
      have hxl := UInt8.toNat_lt (m.data.getD q 0)
      have Hfk := hide (show f k = strZ (((m.data.getD q 0).toNat / 2 ^ r % 2 : Nat) : Int) 1 by rw [unhide hf, hq, hr]; rfl)
      have HP := hide (preL_succ f k)
      generalize (m.data.getD q 0).toNat = x at *
      have w0 : IntKind.i64.wrap (x : Int) = (x : Int) := by rw [IntKind.wrap_i64]; omega
      have hl1 : ((preL f k).map iv).length + 1 ≤ maxLen := by rw [List.length_map, preL_len]; unfold maxLen; omega
      have hl2 : (((preL f k).map iv).length + 1) * 8 ≤ 140737488355328 := by rw [List.length_map, preL_len]; omega
      have hr8 : r < 8 := by omega
      replace hl1 := hide hl1; replace hl2 := hide hl2; replace hq := hide hq; replace hr := hide hr; replace hm := hide hm
      go_wp2
      go_loopw [5, 6] (fun tx tj wq => ∃ j : Nat, j ≤ r ∧ tx = .int .i64 ((x / 2 ^ j : Nat) : Int) ∧ tj = .int .i64 (j : Int) ∧ wq = wr) (fun _ tj _ => 8 - (intOf tj).toNat)
      case atStart => exact ⟨0, by omega, by rw [Nat.pow_zero, Nat.div_one], rfl, rfl⟩
      case round =>
        obtain ⟨j, hj, rfl, rfl, hw⟩ := hrel
        have hw' := hw.symm
        subst hw'
        clear hw
        by_cases hjl : j < r
        · have hj' : (j : Int) < (r : Int) := by omega
          have hd : x / 2 ^ (j + 1) = x / 2 ^ j / 2 := by rw [Nat.pow_succ, Nat.div_div_eq_div_mul]
          have hle : x / 2 ^ j ≤ x := Nat.div_le_self _ _
          obtain ⟨y, hy⟩ : ∃ y, y = x / 2 ^ j := ⟨_, rfl⟩
          obtain ⟨y2, hy2⟩ : ∃ y2, y2 = y / 2 := ⟨_, rfl⟩
          rw [← hy] at hd hle ⊢
          rw [← hy2] at hd
          have d1 : (y : Int).tdiv 2 = (y2 : Int) := by rw [Int.tdiv_eq_ediv_of_nonneg (by omega)]; omega
          have d1' : (y : Int) / 2 = (y2 : Int) := by omega
          have d2 : IntKind.i64.wrap (y2 : Int) = (y2 : Int) := by rw [IntKind.wrap_i64]; omega
          replace hd := hide hd; replace hy := hide hy; replace hy2 := hide hy2
          go_wp2
          exact ⟨⟨j + 1, by omega, by rw [unhide hd], by go_num, by first | rfl | trivial⟩, by simp [intOf]; omega⟩
        · have hj' : ¬ (j : Int) < (r : Int) := by omega
          have hje : j = r := by omega
          rw [← hje] at Hfk
          have hle : x / 2 ^ j ≤ x := Nat.div_le_self _ _
          obtain ⟨y, hy⟩ : ∃ y, y = x / 2 ^ j := ⟨_, rfl⟩
          obtain ⟨b, hb⟩ : ∃ b, b = y % 2 := ⟨_, rfl⟩
          rw [← hy, ← hb] at Hfk
          rw [← hy] at hle ⊢
          have C := hide (fun W => unhide CS (b : Int) W)
          obtain ⟨z, hz⟩ : ∃ z, z = strZ (b : Int) 1 := ⟨_, rfl⟩
          rw [← hz] at C Hfk
          rw [unhide Hfk] at HP
          have d1 : (y : Int).tmod 2 = (b : Int) := by rw [Int.tmod_eq_emod_of_nonneg (by omega)]; omega
          have d1' : (y : Int) % 2 = (b : Int) := by omega
          have d2 : IntKind.i64.wrap (b : Int) = (b : Int) := by rw [IntKind.wrap_i64]; omega
          replace hy := hide hy; replace hb := hide hb; replace hz := hide hz; replace hje := hide hje
          clear CS
          go_wp2_with (first
            | (go_at_call 39; refine (unhide C _).mono ?_; rintro e w2 ⟨rfl, hw2⟩; have hw3 := hw2.symm; subst hw3; clear hw2)
            | (at_builtin; refine wpList_append_vals (w := wr) rfl (.tmp 25) (.tmp 29) 31 rfl w.heap.size w.heap.size 3 i0 (.int .i64 0) 8 Tryd.underlying31 hi hz0 hz1 hz2 rfl u3 ((preL f k).map iv) (by rfl) (unhide HO) #[.int .i64 z] [.int .i64 z] rfl (by intro u hu; simp only [List.mem_singleton] at hu; subst hu; rfl) 1 1 rfl (by rfl) (unhide hl1) (unhide hl2) (Nat.le_refl _) hsz hB ?_; intro v' w5 hown5 hb5))
          rw [show (preL f k).map iv ++ [.int .i64 z] = (preL f (k + 1)).map iv by rw [unhide HP, List.map_append]; rfl] at hown5
          replace hown5 := hide hown5
          clear HO hB
          go_wp2
          exact ⟨⟨k + 1, by omega, by go_num, hown5, hb5⟩, by simp [intOf]; omega⟩
    · have hk' : ¬ (k : Int) < 256 := by omega
      have hke : k = 256 := by omega
      have hown : OwnV wr w.heap.size 3 u3 (L.map iv) := by rw [unhide EL, ← hke]; exact unhide HO
      replace hown := hide hown
      replace hke := hide hke
      clear HO
      go_wp2
      go_ret
      exact ⟨⟨_, rfl, unhide hown⟩, hB⟩
theorem upL13 (s : ByteArray) (d : Int) : (upL s d 256).length ≤ 1000000 := by
  unfold upL
  split
  · rw [List.length_map]; unfold upN; rw [dig_len]; decide
  · show 0 ≤ _; omega
/-- A row whose first k numbers are stretched. -/
def strT (l : List Int) (d : Int) (k : Nat) : List Int := (List.range l.length).map fun i => if i < k then strZ (cAt l i) d else cAt l i
theorem strT_len (l : List Int) (d : Int) (k : Nat) : (strT l d k).length = l.length := by unfold strT; rw [List.length_map, List.length_range]
theorem strT_get (l : List Int) (d : Int) (k i : Nat) (h : i < l.length) : (strT l d k)[i]? = some (if i < k then strZ (cAt l i) d else cAt l i) := by
  unfold strT
  rw [List.getElem?_map, List.getElem?_range h]
  rfl
theorem strT_at (l : List Int) (d : Int) (k : Nat) (h : k < l.length) : cAt (strT l d k) k = cAt l k := by
  have h2 := strT_get l d k k h
  rw [if_neg (by omega)] at h2
  show ((strT l d k)[k]?).getD 0 = _
  rw [h2]
  rfl
theorem strT_zero (l : List Int) (d : Int) : strT l d 0 = l := by
  apply List.ext_getElem?
  intro i
  by_cases h : i < l.length
  · rw [strT_get l d 0 i h, if_neg (by omega), List.getElem?_eq_getElem h, cAt_lt h]
  · rw [List.getElem?_eq_none (by rw [strT_len]; omega), List.getElem?_eq_none (by omega)]
theorem strT_end (l : List Int) (d : Int) : strT l d l.length = l.map fun y => strZ y d := by
  apply List.ext_getElem?
  intro i
  by_cases h : i < l.length
  · rw [strT_get l d _ i h, if_pos h, List.getElem?_map, List.getElem?_eq_getElem h, cAt_lt h]
    rfl
  · rw [List.getElem?_eq_none (by rw [strT_len]; omega), List.getElem?_eq_none (by rw [List.length_map]; omega)]
theorem strT_set (l : List Int) (d : Int) (k : Nat) (h : k < l.length) : (strT l d k).set k (strZ (cAt l k) d) = strT l d (k + 1) := by
  apply List.ext_getElem?
  intro i
  rw [List.getElem?_set]
  by_cases hi : i < l.length
  · rw [strT_get l d (k + 1) i hi]
    by_cases e : k = i
    · subst e
      rw [if_pos rfl, if_pos (by rw [strT_len]; exact h), if_pos (by omega)]
    · rw [if_neg e, strT_get l d k i hi]
      by_cases h2 : i < k
      · rw [if_pos h2, if_pos (by omega)]
      · rw [if_neg h2, if_neg (by omega)]
  · rw [if_neg (by omega), List.getElem?_eq_none (by rw [strT_len]; omega), List.getElem?_eq_none (by rw [strT_len]; omega)]
theorem OwnV.some13 {w : World} {base n c : Nat} {a : Option Addr} {e : TypeId} {xs : List Value} (h : OwnV w base e (.slice a n c) xs) (hn : 0 < n) : ∃ g, a = some ⟨g, 0, none⟩ ∧ base ≤ g ∧ g < w.heap.size := by
  rcases h.2 with ⟨h1, _⟩ | ⟨g, cap, cur, h1, h2, h3, _⟩
  · simp only [Value.slice.injEq] at h1; omega
  · simp only [Value.slice.injEq] at h1
    refine ⟨g, h1.1, h2, ?_⟩
    rcases Nat.lt_or_ge g w.heap.size with h4 | h4
    · exact h4
    · rw [Array.getElem?_eq_none h4] at h3; cases h3
set_option maxRecDepth 20000 in
set_option maxHeartbeats 800000 in
theorem specStretched_any (s : ByteArray) (d : Int) (hs : s.size ≤ 1048576) (w : World) :
    Calls Tryd.prog 25 #[.string s, .int .i64 d] w fun e w' => (∃ v, e = .returned v ∧ OwnV w' w.heap.size 3 v ((strL s d).map iv)) ∧ Below w.heap.size w w' := by
  have CU := hide (specUnpack_any s d 256 hs w)
  have CS := hide (fun x W => specStretch_any x d W)
  have hul : (upL s d 256).length ≤ 1000000 := upL13 s d
  have EL := hide (show strL s d = strT (upL s d 256) d (upL s d 256).length by rw [strT_end]; rfl)
  generalize strL s d = L at *
  generalize upL s d 256 = l at *
  generalize upOk s d 256 = ok at *
  go_enter Tryd.func25, Tryd.ntmps25
  go_wp2_with fail
  refine (unhide CU).mono ?_
  rintro e w1 ⟨⟨v, rfl, ov⟩, hb1⟩
  obtain ⟨a, c, rfl⟩ := ov.shape
  rw [List.length_map] at ov ⊢
  replace ov : OwnV w1 w.heap.size 3 (.slice a l.length c) ((strT l d 0).map iv) := by rw [strT_zero]; exact ov
  obtain ⟨n, hn⟩ : ∃ n, l.length = n := ⟨_, rfl⟩
  rw [hn] at ov EL hul ⊢
  have O0 := hide ov
  clear ov CU
  replace hn := hide hn
  go_wp2
  go_loopw [7] (fun ti wr => ∃ k : Nat, k ≤ n ∧ ti = .int .i64 (k : Int) ∧ Hid (OwnV wr w.heap.size 3 (.slice a n c) ((strT l d k).map iv)) ∧ Below w.heap.size w wr) (fun ti _ => n - (intOf ti).toNat)
  case atStart => exact ⟨0, by omega, rfl, O0, hb1⟩
  case round =>
    clear O0 hb1
    obtain ⟨k, hk, rfl, HO, hB⟩ := hrel
    by_cases hlt : k < n
    · have hk' : (k : Int) < (n : Int) := by omega
      have hci : (0 : Int) ≤ (k : Int) := by omega
      have hkl : k < l.length := by rw [unhide hn]; exact hlt
      obtain ⟨g, rfl, hg1, hg2⟩ := (unhide HO).some13 (by omega)
      have cu := (unhide HO).cell (get_iv _ k (by rw [strT_len]; exact hkl))
      rw [strT_at l d k hkl] at cu
      have cz := (unhide HO).frozen k
      have hst := strT_set l d k hkl
      have C := hide (fun W => unhide CS (cAt l k) W)
      obtain ⟨z, hz⟩ : ∃ z, z = strZ (cAt l k) d := ⟨_, rfl⟩
      rw [← hz] at C hst
      generalize cAt l k = x at cu C
      have hO2 := hide (show OwnV (wr.setCell ⟨g, k, none⟩ (.int .i64 z)) w.heap.size 3 (.slice (some ⟨g, 0, none⟩) n c) ((strT l d (k + 1)).map iv) by
        have h := OwnV.set (unhide HO) k (.int .i64 z)
        rw [set_iv, hst] at h
        exact h)
      have hB2 := hide (hB.setCell (p := ⟨g, k, none⟩) hg1 (.int .i64 z))
      replace hz := hide hz; replace hst := hide hst
      clear HO hB CS
      go_wp2_with (go_at_call 39; refine (unhide C _).mono ?_; rintro e w2 ⟨rfl, hw2⟩; have hw3 := hw2.symm; subst hw3; clear hw2)
      exact ⟨⟨k + 1, by omega, by go_num, hide (unhide hO2), unhide hB2⟩, by simp [intOf]; omega⟩
    · have hk' : ¬ (k : Int) < (n : Int) := by omega
      have hke : k = n := by omega
      have hown : OwnV wr w.heap.size 3 (.slice a n c) (L.map iv) := by
        have h := unhide HO
        rw [show strT l d k = L by rw [hke]; exact (unhide EL).symm] at h
        exact h
      replace hown := hide hown
      replace hke := hide hke
      clear HO
      go_wp2
      go_ret
      exact ⟨⟨_, rfl, unhide hown⟩, hB⟩
end Go.Proofs.YthjgmpfdjhegfasDoor

/- Powers by the given model, over the loaded program. -/
namespace Go.Proofs.YthjgmpfdjhegfasDoor
open Go.RowKit
def powQ (b e : Int) : Int := if 0 ≤ e ∧ e ≤ 1000000000 then powM (b % 3329) e.toNat else 0
theorem alq_odd {O B c : Int} {E : Nat} (h : AlQ (O * B ^ E) c) (ho : E % 2 = 1) : AlQ (O * B % 3329 * (B * B % 3329) ^ (E / 2)) c := by
  refine AlQ.trans ?_ h
  rw [powM_half B E, if_pos ho]
  have h1 : AlQ (O * B % 3329 * (B * B % 3329) ^ (E / 2)) (O * B * (B * B) ^ (E / 2)) := (AlQ.mod _).mul (powM_al (AlQ.mod _) _)
  rw [show O * ((B * B) ^ (E / 2) * B) = O * B * (B * B) ^ (E / 2) by rw [Int.mul_comm ((B * B) ^ (E / 2)) B, Int.mul_assoc]]
  exact h1
theorem alq_even {O B c : Int} {E : Nat} (h : AlQ (O * B ^ E) c) (ho : ¬ E % 2 = 1) : AlQ (O * (B * B % 3329) ^ (E / 2)) c := by
  refine AlQ.trans ?_ h
  rw [powM_half B E, if_neg ho, Int.mul_one]
  exact (AlQ.refl _).mul (powM_al (AlQ.mod _) _)
theorem alq_end {O B c : Int} (h : AlQ (O * B ^ 0) c) (h1 : 0 ≤ O) (h2 : O ≤ 3328) : c % 3329 = O := by
  rw [Int.pow_zero, Int.mul_one] at h
  unfold AlQ at h
  omega
set_option maxRecDepth 20000 in
set_option maxHeartbeats 800000 in
theorem specPowQ_any (b e : Int) (w : World) :
    Calls Tryd.prog 46 #[.int .i64 b, .int .i64 e] w fun x w' => x = .returned (.int .i64 (powQ b e)) ∧ w' = w := by
  have CI := hide (inb9 e 0 1000000000 w)
  by_cases he : 0 ≤ e ∧ e ≤ 1000000000
  · rw [show decide ((0 : Int) ≤ e ∧ e ≤ 1000000000) = true by rw [decide_eq_true_iff]; exact he] at CI
    have EQ := hide (show powQ b e = powM (b % 3329) e.toNat by unfold powQ; rw [if_pos he])
    obtain ⟨n, rfl⟩ : ∃ n : Nat, e = (n : Int) := ⟨e.toNat, by omega⟩
    rw [Int.toNat_natCast] at EQ
    have hn : n ≤ 1000000000 := by omega
    obtain ⟨m, hm⟩ : ∃ m, m = b % 3329 := ⟨_, rfl⟩
    have hm1 : 0 ≤ m ∧ m ≤ 3328 := by omega
    rw [← hm] at EQ
    have hbm : b.tmod 3329 = m ∨ (b.tmod 3329 < 0 ∧ b.tmod 3329 + 3329 = m) := by
      have e := @Int.tmod_eq_emod b 3329
      split at e
      · left; rw [e]; omega
      · rename_i hn
        right
        have h0 : ¬ 3329 ∣ b := fun hd => hn (.inr hd)
        have e2 : b.tmod 3329 = b % 3329 - 3329 := e
        rw [e2]
        omega
    have wm : ∀ x : Int, 0 ≤ x → x ≤ 100000000 → IntKind.i64.wrap x = x := fun x h1 h2 => by rw [IntKind.wrap_i64]; omega
    have wmm := wm m hm1.1 (by omega)
    have hstart := hide (show AlQ (1 * m ^ n) (m ^ n) by rw [Int.one_mul]; exact AlQ.refl _)
    replace hm := hide hm
    rcases hbm with h | ⟨h1, h2⟩
    · have hge : ¬ m < 0 := by omega
      go_enter Tryd.func46, Tryd.ntmps46
      go_wp2_with (go_at_call 50; refine (unhide CI).mono ?_; rintro e w1 ⟨rfl, hw1⟩; have hw2 := hw1.symm; subst hw2; clear hw1)
      go_loopw [0, 1, 5] (fun tb te tq wr => ∃ (B O : Int) (E : Nat), (0 ≤ B ∧ B ≤ 3328) ∧ (0 ≤ O ∧ O ≤ 3328) ∧ E ≤ 1000000000 ∧ tb = .int .i64 B ∧ te = .int .i64 (E : Int) ∧ tq = .int .i64 O ∧ Hid (AlQ (O * B ^ E) (m ^ n)) ∧ wr = w) (fun _ te _ _ => (intOf te).toNat)
      case atStart => exact ⟨m, 1, n, hm1, by omega, hn, rfl, rfl, rfl, hstart, rfl⟩
      case round =>
        clear hstart
        obtain ⟨B, O, E, hB, hO, hE, rfl, rfl, rfl, HA, hw⟩ := hrel
        have hw' := hw.symm
        subst hw'
        clear hw
        by_cases hpos : 0 < E
        · have hpos' : (0 : Int) < (E : Int) := by omega
          have q1 : 0 ≤ B * B := Int.mul_nonneg hB.1 hB.1
          have q2 : B * B ≤ 3328 * 3328 := Int.mul_le_mul hB.2 hB.2 hB.1 (by omega)
          obtain ⟨s, hs⟩ : ∃ s, s = B * B := ⟨_, rfl⟩
          rw [← hs] at q1 q2
          obtain ⟨s2, hs2⟩ : ∃ s2, s2 = s % 3329 := ⟨_, rfl⟩
          have w1 : IntKind.i64.wrap (B * B) = s := by rw [← hs, IntKind.wrap_i64]; omega
          have w2 : s.tmod 3329 = s2 := by rw [Int.tmod_eq_emod_of_nonneg (by omega)]; omega
          have w2' : s % 3329 = s2 := hs2.symm
          have w3 : IntKind.i64.wrap s2 = s2 := by rw [IntKind.wrap_i64]; omega
          obtain ⟨h, hh⟩ : ∃ h, h = E / 2 := ⟨_, rfl⟩
          have w4 : (E : Int).tdiv 2 = (h : Int) := by rw [Int.tdiv_eq_ediv_of_nonneg (by omega)]; omega
          have w4' : (E : Int) / 2 = (h : Int) := by omega
          have w5 : IntKind.i64.wrap (h : Int) = (h : Int) := by rw [IntKind.wrap_i64]; omega
          have hs2b : 0 ≤ s2 ∧ s2 ≤ 3328 := by omega
          have hhb : h ≤ 1000000000 ∧ h < E := by omega
          by_cases hodd : E % 2 = 1
          · have HA2 := alq_odd (unhide HA) hodd
            have r1 : 0 ≤ O * B := Int.mul_nonneg hO.1 hB.1
            have r2 : O * B ≤ 3328 * 3328 := Int.mul_le_mul hO.2 hB.2 hB.1 (by omega)
            obtain ⟨p, hp⟩ : ∃ p, p = O * B := ⟨_, rfl⟩
            rw [← hp] at r1 r2
            obtain ⟨p2, hp2⟩ : ∃ p2, p2 = p % 3329 := ⟨_, rfl⟩
            rw [← hp, ← hs, ← hp2, ← hs2, ← hh] at HA2
            have v1 : IntKind.i64.wrap (O * B) = p := by rw [← hp, IntKind.wrap_i64]; omega
            have v2 : p.tmod 3329 = p2 := by rw [Int.tmod_eq_emod_of_nonneg (by omega)]; omega
            have v2' : p % 3329 = p2 := hp2.symm
            have v3 : IntKind.i64.wrap p2 = p2 := by rw [IntKind.wrap_i64]; omega
            have v4 : (E : Int).tmod 2 = 1 := by rw [Int.tmod_eq_emod_of_nonneg (by omega)]; omega
            have v4' : (E : Int) % 2 = 1 := by omega
            have hp2b : 0 ≤ p2 ∧ p2 ≤ 3328 := by omega
            replace HA2 := hide HA2
            replace hs := hide hs; replace hs2 := hide hs2; replace hh := hide hh; replace hp := hide hp; replace hp2 := hide hp2; replace hodd := hide hodd
            clear HA
            go_wp2
            exact ⟨⟨s2, p2, h, hs2b, hp2b, hhb.1, by first | rfl | trivial, by go_num, by first | rfl | trivial, HA2, by first | rfl | trivial⟩, by simp [intOf]; omega⟩
          · have HA2 := alq_even (unhide HA) hodd
            rw [← hs, ← hs2, ← hh] at HA2
            have v4 : (E : Int).tmod 2 = 0 := by rw [Int.tmod_eq_emod_of_nonneg (by omega)]; omega
            have v4' : (E : Int) % 2 = 0 := by omega
            replace HA2 := hide HA2
            replace hs := hide hs; replace hs2 := hide hs2; replace hh := hide hh; replace hodd := hide hodd
            clear HA
            go_wp2
            exact ⟨⟨s2, O, h, hs2b, hO, hhb.1, by first | rfl | trivial, by go_num, by first | rfl | trivial, HA2, by first | rfl | trivial⟩, by simp [intOf]; omega⟩
        · have hpos' : ¬ (0 : Int) < (E : Int) := by omega
          obtain rfl : E = 0 := by omega
          have E2 := hide (show powQ b (n : Int) = O by rw [unhide EQ]; exact alq_end (unhide HA) hO.1 hO.2)
          clear HA
          go_wp2
          go_ret
          exact ⟨by rw [unhide E2]; rfl, rfl⟩
    · obtain ⟨x, hx⟩ : ∃ x, x = b.tmod 3329 := ⟨_, rfl⟩
      rw [← hx] at h1 h2
      have ew : IntKind.i64.wrap x = x := by rw [IntKind.wrap_i64]; omega
      have ew2 : IntKind.i64.wrap (x + 3329) = m := by rw [h2]; exact wmm
      have hx' := hx.symm
      clear hx
      go_enter Tryd.func46, Tryd.ntmps46
      go_wp2_with (go_at_call 50; refine (unhide CI).mono ?_; rintro e w1 ⟨rfl, hw1⟩; have hw2 := hw1.symm; subst hw2; clear hw1)
      go_loopw [0, 1, 5] (fun tb te tq wr => ∃ (B O : Int) (E : Nat), (0 ≤ B ∧ B ≤ 3328) ∧ (0 ≤ O ∧ O ≤ 3328) ∧ E ≤ 1000000000 ∧ tb = .int .i64 B ∧ te = .int .i64 (E : Int) ∧ tq = .int .i64 O ∧ Hid (AlQ (O * B ^ E) (m ^ n)) ∧ wr = w) (fun _ te _ _ => (intOf te).toNat)
      case atStart => exact ⟨m, 1, n, hm1, by omega, hn, rfl, rfl, rfl, hstart, rfl⟩
      case round =>
        clear hstart
        obtain ⟨B, O, E, hB, hO, hE, rfl, rfl, rfl, HA, hw⟩ := hrel
        have hw' := hw.symm
        subst hw'
        clear hw
        by_cases hpos : 0 < E
        · have hpos' : (0 : Int) < (E : Int) := by omega
          have q1 : 0 ≤ B * B := Int.mul_nonneg hB.1 hB.1
          have q2 : B * B ≤ 3328 * 3328 := Int.mul_le_mul hB.2 hB.2 hB.1 (by omega)
          obtain ⟨s, hs⟩ : ∃ s, s = B * B := ⟨_, rfl⟩
          rw [← hs] at q1 q2
          obtain ⟨s2, hs2⟩ : ∃ s2, s2 = s % 3329 := ⟨_, rfl⟩
          have w1 : IntKind.i64.wrap (B * B) = s := by rw [← hs, IntKind.wrap_i64]; omega
          have w2 : s.tmod 3329 = s2 := by rw [Int.tmod_eq_emod_of_nonneg (by omega)]; omega
          have w2' : s % 3329 = s2 := hs2.symm
          have w3 : IntKind.i64.wrap s2 = s2 := by rw [IntKind.wrap_i64]; omega
          obtain ⟨h, hh⟩ : ∃ h, h = E / 2 := ⟨_, rfl⟩
          have w4 : (E : Int).tdiv 2 = (h : Int) := by rw [Int.tdiv_eq_ediv_of_nonneg (by omega)]; omega
          have w4' : (E : Int) / 2 = (h : Int) := by omega
          have w5 : IntKind.i64.wrap (h : Int) = (h : Int) := by rw [IntKind.wrap_i64]; omega
          have hs2b : 0 ≤ s2 ∧ s2 ≤ 3328 := by omega
          have hhb : h ≤ 1000000000 ∧ h < E := by omega
          by_cases hodd : E % 2 = 1
          · have HA2 := alq_odd (unhide HA) hodd
            have r1 : 0 ≤ O * B := Int.mul_nonneg hO.1 hB.1
            have r2 : O * B ≤ 3328 * 3328 := Int.mul_le_mul hO.2 hB.2 hB.1 (by omega)
            obtain ⟨p, hp⟩ : ∃ p, p = O * B := ⟨_, rfl⟩
            rw [← hp] at r1 r2
            obtain ⟨p2, hp2⟩ : ∃ p2, p2 = p % 3329 := ⟨_, rfl⟩
            rw [← hp, ← hs, ← hp2, ← hs2, ← hh] at HA2
            have v1 : IntKind.i64.wrap (O * B) = p := by rw [← hp, IntKind.wrap_i64]; omega
            have v2 : p.tmod 3329 = p2 := by rw [Int.tmod_eq_emod_of_nonneg (by omega)]; omega
            have v2' : p % 3329 = p2 := hp2.symm
            have v3 : IntKind.i64.wrap p2 = p2 := by rw [IntKind.wrap_i64]; omega
            have v4 : (E : Int).tmod 2 = 1 := by rw [Int.tmod_eq_emod_of_nonneg (by omega)]; omega
            have v4' : (E : Int) % 2 = 1 := by omega
            have hp2b : 0 ≤ p2 ∧ p2 ≤ 3328 := by omega
            replace HA2 := hide HA2
            replace hs := hide hs; replace hs2 := hide hs2; replace hh := hide hh; replace hp := hide hp; replace hp2 := hide hp2; replace hodd := hide hodd
            clear HA
            go_wp2
            exact ⟨⟨s2, p2, h, hs2b, hp2b, hhb.1, by first | rfl | trivial, by go_num, by first | rfl | trivial, HA2, by first | rfl | trivial⟩, by simp [intOf]; omega⟩
          · have HA2 := alq_even (unhide HA) hodd
            rw [← hs, ← hs2, ← hh] at HA2
            have v4 : (E : Int).tmod 2 = 0 := by rw [Int.tmod_eq_emod_of_nonneg (by omega)]; omega
            have v4' : (E : Int) % 2 = 0 := by omega
            replace HA2 := hide HA2
            replace hs := hide hs; replace hs2 := hide hs2; replace hh := hide hh; replace hodd := hide hodd
            clear HA
            go_wp2
            exact ⟨⟨s2, O, h, hs2b, hO, hhb.1, by first | rfl | trivial, by go_num, by first | rfl | trivial, HA2, by first | rfl | trivial⟩, by simp [intOf]; omega⟩
        · have hpos' : ¬ (0 : Int) < (E : Int) := by omega
          obtain rfl : E = 0 := by omega
          have E2 := hide (show powQ b (n : Int) = O by rw [unhide EQ]; exact alq_end (unhide HA) hO.1 hO.2)
          clear HA
          go_wp2
          go_ret
          exact ⟨by rw [unhide E2]; rfl, rfl⟩
  · rw [show decide ((0 : Int) ≤ e ∧ e ≤ 1000000000) = false by rw [decide_eq_false_iff_not]; exact he] at CI
    have EQ := hide (show powQ b e = 0 by unfold powQ; rw [if_neg he])
    rw [unhide EQ]
    go_enter Tryd.func46, Tryd.ntmps46
    go_wp2_with (go_at_call 50; refine (unhide CI).mono ?_; rintro e w1 ⟨rfl, hw1⟩; have hw2 := hw1.symm; subst hw2; clear hw1)
    go_ret
    exact ⟨rfl, rfl⟩
end Go.Proofs.YthjgmpfdjhegfasDoor

/- The numbers in the midst of a layer. -/
namespace Go.Proofs.YthjgmpfdjhegfasDoor
open Go.RowKit
/-- A layer of which the blocks before b are done, and of block b the first r pairs. -/
def mdG (s : Nat) (φ F : Nat → Int) (b r : Nat) : List Int := mk256 fun t => if t / (2 * s) < b ∨ (t / (2 * s) = b ∧ t % s < r) then φ t % 3329 else F t
theorem mdG_len (s : Nat) (φ F : Nat → Int) (b r : Nat) : (mdG s φ F b r).length = 256 := mk256_len _
theorem mdG_at (s : Nat) (φ F : Nat → Int) (b r t : Nat) (ht : t < 256) : cAt (mdG s φ F b r) t = if t / (2 * s) < b ∨ (t / (2 * s) = b ∧ t % s < r) then φ t % 3329 else F t := mk256_at _ t ht
theorem mdG_start (s : Nat) (φ : Nat → Int) {l : List Int} (h : okPl l = true) : mdG s φ (cAt l) 0 0 = l := by
  refine ext_pl (mdG_len _ _ _ _ _) (okPl_yes h).1 fun t ht => ?_
  rw [mdG_at _ _ _ _ _ t ht, if_neg (fun h => by rcases h with h | h; exact absurd h (Nat.not_lt_zero _); exact absurd h.2 (Nat.not_lt_zero _))]
theorem mdG_next {s : Nat} (hs : Sz s) (φ F : Nat → Int) (b : Nat) : mdG s φ F b s = mdG s φ F (b + 1) 0 := by
  refine ext_pl (mdG_len _ _ _ _ _) (mdG_len _ _ _ _ _) fun t ht => ?_
  rw [mdG_at _ _ _ _ _ t ht, mdG_at _ _ _ _ _ t ht]
  have hm : t % s < s := Nat.mod_lt _ (by rcases hs with rfl | rfl | rfl | rfl | rfl | rfl | rfl <;> omega)
  by_cases c : t / (2 * s) < b + 1
  · rw [if_pos (by omega), if_pos (by omega)]
  · rw [if_neg (by omega), if_neg (by omega)]
theorem mdG_end {s : Nat} (hs : Sz s) (φ F : Nat → Int) : mdG s φ F (128 / s) 0 = mk256 fun t => φ t % 3329 := by
  refine ext_pl (mdG_len _ _ _ _ _) (mk256_len _) fun t ht => ?_
  rw [mdG_at _ _ _ _ _ t ht, mk256_at _ t ht, if_pos]
  left
  rcases hs with rfl | rfl | rfl | rfl | rfl | rfl | rfl <;> omega
theorem mdG_old {s : Nat} (hs : Sz s) (φ F : Nat → Int) (b r : Nat) (hb : b < 128 / s) (hr : r < s) : cAt (mdG s φ F b r) (2 * b * s + r) = F (2 * b * s + r) ∧ cAt (mdG s φ F b r) (2 * b * s + r + s) = F (2 * b * s + r + s) := by
  have h : 2 * b * s + r + s < 256 ∧ ¬ ((2 * b * s + r) / (2 * s) < b ∨ ((2 * b * s + r) / (2 * s) = b ∧ (2 * b * s + r) % s < r)) ∧ ¬ ((2 * b * s + r + s) / (2 * s) < b ∨ ((2 * b * s + r + s) / (2 * s) = b ∧ (2 * b * s + r + s) % s < r)) := by
    rcases hs with rfl | rfl | rfl | rfl | rfl | rfl | rfl <;> omega
  rw [mdG_at _ _ _ _ _ _ (by omega), mdG_at _ _ _ _ _ _ h.1, if_neg h.2.1, if_neg h.2.2]
  exact ⟨rfl, rfl⟩
theorem mdG_step {s : Nat} (hs : Sz s) (φ F : Nat → Int) (b r : Nat) (hb : b < 128 / s) (hr : r < s) : ((mdG s φ F b r).set (2 * b * s + r + s) (φ (2 * b * s + r + s) % 3329)).set (2 * b * s + r) (φ (2 * b * s + r) % 3329) = mdG s φ F b (r + 1) := by
  have hj : 2 * b * s + r + s < 256 := by rcases hs with rfl | rfl | rfl | rfl | rfl | rfl | rfl <;> omega
  refine ext_pl (by rw [List.length_set, List.length_set, mdG_len]) (mdG_len _ _ _ _ _) fun t ht => ?_
  rw [cAt_set _ _ _ _ (by rw [List.length_set, mdG_len]; omega), cAt_set _ _ _ _ (by rw [mdG_len]; omega), mdG_at _ _ _ _ _ t ht, mdG_at _ _ _ _ _ t ht]
  have hd : (t / (2 * s) < b ∨ (t / (2 * s) = b ∧ t % s < r + 1)) ↔ ((t / (2 * s) < b ∨ (t / (2 * s) = b ∧ t % s < r)) ∨ t = 2 * b * s + r ∨ t = 2 * b * s + r + s) := by
    rcases hs with rfl | rfl | rfl | rfl | rfl | rfl | rfl <;> omega
  by_cases c1 : t = 2 * b * s + r
  · rw [if_pos c1, if_pos (hd.2 (.inr (.inl c1))), c1]
  · rw [if_neg c1]
    by_cases c2 : t = 2 * b * s + r + s
    · rw [if_pos c2, if_pos (hd.2 (.inr (.inr c2))), c2]
    · rw [if_neg c2]
      by_cases c3 : t / (2 * s) < b ∨ (t / (2 * s) = b ∧ t % s < r)
      · rw [if_pos c3, if_pos (hd.2 (.inl c3))]
      · rw [if_neg c3, if_neg (fun h => by rcases hd.1 h with h | h | h <;> contradiction)]
theorem mdG_step' {s : Nat} (hs : Sz s) (φ F : Nat → Int) (b r : Nat) (hb : b < 128 / s) (hr : r < s) : ((mdG s φ F b r).set (2 * b * s + r) (φ (2 * b * s + r) % 3329)).set (2 * b * s + r + s) (φ (2 * b * s + r + s) % 3329) = mdG s φ F b (r + 1) := by
  rw [← mdG_step hs φ F b r hb hr, List.set_comm]
  have : 0 < s := by omega
  omega
theorem mdG_rng {s : Nat} (φ F : Nat → Int) (b r : Nat) (hF : ∀ t, t < 256 → 0 ≤ F t ∧ F t ≤ 3328) (t : Nat) (ht : t < 256) : 0 ≤ cAt (mdG s φ F b r) t ∧ cAt (mdG s φ F b r) t ≤ 3328 := by
  rw [mdG_at _ _ _ _ _ t ht]
  split
  · omega
  · exact hF t ht
theorem lay_lo {s : Nat} (hs : Sz s) (zf f : Nat → Int) (b r : Nat) (hr : r < s) : lay s zf f (2 * b * s + r) = f (2 * b * s + r) + zf b * f (2 * b * s + r + s) := by
  unfold lay
  have e : (2 * b * s + r) % (2 * s) = r ∧ (2 * b * s + r) / (2 * s) = b := by
    rcases hs with rfl | rfl | rfl | rfl | rfl | rfl | rfl <;> omega
  rw [e.1, e.2, if_pos hr]
theorem lay_hi {s : Nat} (hs : Sz s) (zf f : Nat → Int) (b r : Nat) (hr : r < s) : lay s zf f (2 * b * s + r + s) = f (2 * b * s + r) - zf b * f (2 * b * s + r + s) := by
  unfold lay
  have e : ¬ (2 * b * s + r + s) % (2 * s) < s ∧ (2 * b * s + r + s) / (2 * s) = b ∧ 2 * b * s + r + s - s = 2 * b * s + r := by
    rcases hs with rfl | rfl | rfl | rfl | rfl | rfl | rfl <;> omega
  rw [if_neg e.1, e.2.1, e.2.2]
theorem ily_lo {s : Nat} (hs : Sz s) (zf f : Nat → Int) (b r : Nat) (hr : r < s) : ily s zf f (2 * b * s + r) = f (2 * b * s + r) + f (2 * b * s + r + s) := by
  unfold ily
  have e : (2 * b * s + r) % (2 * s) = r := by
    rcases hs with rfl | rfl | rfl | rfl | rfl | rfl | rfl <;> omega
  rw [e, if_pos hr]
theorem ily_hi {s : Nat} (hs : Sz s) (zf f : Nat → Int) (b r : Nat) (hr : r < s) : ily s zf f (2 * b * s + r + s) = zf b * (f (2 * b * s + r + s) - f (2 * b * s + r)) := by
  unfold ily
  have e : ¬ (2 * b * s + r + s) % (2 * s) < s ∧ (2 * b * s + r + s) / (2 * s) = b ∧ 2 * b * s + r + s - s = 2 * b * s + r := by
    rcases hs with rfl | rfl | rfl | rfl | rfl | rfl | rfl <;> omega
  rw [if_neg e.1, e.2.1, e.2.2]
theorem zt_turn (k : Nat) (h : k < 128) : turnZ (k : Int) = (t7 k : Int) ∧ powQ 17 (t7 k : Int) = zt k := by
  constructor
  · unfold turnZ
    rw [show ((k : Int) % 128).toNat = k by omega]
  · unfold powQ zt
    have := t7_lt k
    rw [if_pos (by omega), Int.toNat_natCast]
    rfl
theorem zt_rng (k : Nat) : 0 ≤ zt k ∧ zt k ≤ 3328 := by unfold zt powM; omega
end Go.Proofs.YthjgmpfdjhegfasDoor

/- Laws of no program: two numbers appended in a region that draws its order. -/
namespace Go.Proofs.YthjgmpfdjhegfasDoor
open Go.RowKit
theorem step_append_w9 {P : Program} {w W : World} {ops : Array Oper} {o : Oper} {a : Act} {K : Act → World → Prop} {Q : Exit → Act → World → Prop} {E : Prop} {e : TypeId} {x1 x2 : Int} (hW : W = w.alloc (.cells #[.int .i64 x1, .int .i64 x2] e)) (hg : o.guard = none) (s y : Operand) (t : TypeId)
    (ho : o.op = .call { callee := .builtin .append, args := #[s, y], argTypes := #[t, t] })
    (base B : Nat) (i : TypeInfo) (z : Value) (nb : Nat) (ht : P.underlying t = some (.slice e)) (hi : P.info? e = some i) (hz : i.zero = some z) (hsize : i.size = 1) (hby : i.bytes = nb) (hzs : z.cells.size = 1)
    (v : Value) (xs : List Value) (hs : a.eval s = v) (hown : OwnV w base e v xs)
    (hx : a.eval y = .slice (some ⟨w.heap.size, 0, none⟩) 2 2)
    (h63 : xs.length + 2 ≤ maxLen) (hbytes : (xs.length + 2) * nb ≤ 140737488355328) (hB : B ≤ base) (hbase : base ≤ w.heap.size) {w00 : World} (hbel : Below B w00 w)
    (h : ∀ v' w', OwnV w' base e v' (xs ++ [.int .i64 x1, .int .i64 x2]) → Below B w00 w' → K (a.put o.dst v') w') :
    if Region.wanted o (yielded ops a.tmps) = true then Oper.wp P o a W K Q else E := by
  subst hW
  have hw : Region.wanted o (yielded ops a.tmps) = true := by simp [Region.wanted, hg]
  rw [if_pos hw]
  exact wp_append_vals s y t ho base B e i z nb ht hi hz hsize hby hzs v xs hs (hown.alloc _) w.heap.size #[.int .i64 x1, .int .i64 x2] (heap_alloc_new w _) [.int .i64 x1, .int .i64 x2] rfl (by intro u hu; simp only [List.mem_cons, List.not_mem_nil, or_false] at hu; rcases hu with rfl | rfl <;> rfl) 2 2 rfl hx h63 hbytes hB (by simp; omega) (hbel.alloc (by omega) _) h
theorem pre_two (f : Nat → Int) (k : Nat) : preL f (2 * (k + 1)) = preL f (2 * k) ++ [f (2 * k), f (2 * k + 1)] := by
  rw [show 2 * (k + 1) = 2 * k + 1 + 1 by omega, preL_succ, preL_succ, List.append_assoc]
  rfl
end Go.Proofs.YthjgmpfdjhegfasDoor

