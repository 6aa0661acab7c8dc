/- The laws' helpers on signatures, over the loaded program. -/
import Derived.Test.YtecononlghjepawTxs
import Derived.Test.YtecononlghjepawPly1
import Derived.Test.YtecononlghjepawCbx
import Derived.Test.YtecononlghjepawSig0
namespace Go.Proofs.Ytecononlghjepaw
open Go.RowKit
def sgv (lf : Int) (v1 v2 : Value) : Value := .agg #[.int .i64 lf, v1, v2]
set_option maxRecDepth 20000 in
set_option maxHeartbeats 400000 in
theorem szStrL_any (l : List ByteArray) (v : Value) (L : Nat) (hL : L ≤ 1048576) (w : World) (hr : RdV w v (l.map sv)) (hb : ∀ x ∈ l, x.size ≤ maxLen) (hlen : l.length ≤ maxLen) :
    Calls Try.prog 20 #[v, .int .i64 (L : Int)] w fun e w' => (∃ z : Int, e = .returned (.int .i64 z) ∧ (z < 0 ∨ ∃ m : Nat, z = m ∧ m + l.length + sumS l = L)) ∧ w' = w := by
  obtain ⟨a, c, rfl, hc⟩ := hr.open
  clear hr
  rw [List.length_map]
  have hm : maxLen = 9223372036854775807 := by first | rfl | (unfold maxLen; rfl)
  obtain ⟨n, hnn⟩ : ∃ n, l.length = n := ⟨_, rfl⟩
  rw [hnn] at hlen ⊢
  have HE := hide (sumS_all l)
  rw [hnn] at HE
  replace hnn := hide hnn
  obtain ⟨z0, hz0⟩ : ∃ z : Int, z = (L : Int) - (n : Int) := ⟨_, rfl⟩
  have w0 : IntKind.i64.wrap ((L : Int) - (n : Int)) = z0 := by rw [IntKind.wrap_i64]; omega
  by_cases h0 : z0 < 0
  · replace hz0 := hide hz0
    clear hc hm
    go_enter Try.func20, Try.ntmps20
    go_wp2
    go_ret
    exact ⟨⟨-1, rfl, .inl (by decide)⟩, rfl⟩
  · have hn2 : n ≤ 1048576 := by omega
    replace hz0 := hide hz0
    go_enter Try.func20, Try.ntmps20
    go_wp2
    go_loopw [1, 5] (fun tz ti wr => ∃ (k : Nat) (z : Int), k ≤ n ∧ ti = .int .i64 (k : Int) ∧ tz = .int .i64 z ∧ Hid (0 ≤ z ∧ z + (sumS (l.take k) : Int) + (n : Int) = (L : Int)) ∧ wr = w) (fun _ ti _ => n - (intOf ti).toNat)
    case atStart => exact ⟨0, z0, Nat.zero_le _, rfl, rfl, hide ⟨by omega, by rw [List.take_zero]; show z0 + ((0 : Nat) : Int) + _ = _; have := unhide hz0; omega⟩, rfl⟩
    case round =>
      obtain ⟨k, z, hk, rfl, rfl, hz, hw⟩ := hrel
      have hw' := hw.symm
      subst hw'
      clear hw
      have hzz := unhide hz
      by_cases hlt : k < n
      · have hk' : k < l.length := by rw [unhide hnn]; exact hlt
        have hlt' : (k : Int) < (n : Int) := by omega
        obtain ⟨g, o, rfl, hg, d1⟩ := hc k _ (sv_get l k hk')
        have hsb := hb l[k] (List.getElem_mem hk')
        have HS := hide (sumS_take l k hk')
        obtain ⟨x, hx⟩ : ∃ x, x = l[k] := ⟨_, rfl⟩
        rw [← hx] at d1 hsb HS
        obtain ⟨z2, hz2⟩ : ∃ y : Int, y = z - (x.size : Int) := ⟨_, rfl⟩
        have w1 : IntKind.i64.wrap (z - (x.size : Int)) = z2 := by rw [IntKind.wrap_i64]; omega
        by_cases hneg : z2 < 0
        · replace hz2 := hide hz2; replace hx := hide hx
          clear hc hzz hsb hm
          go_wp2
          go_ret
          exact ⟨⟨-1, rfl, .inl (by decide)⟩, rfl⟩
        · have HZ := hide (show 0 ≤ z2 ∧ z2 + (sumS (l.take (k + 1)) : Int) + (n : Int) = (L : Int) by have h1 := unhide HS; omega)
          replace hz2 := hide hz2; replace hx := hide hx
          clear hc hzz hsb hm hz HS
          go_wp2
          go_roundw
          case rel => exact ⟨k + 1, z2, by omega, by go_num, by first | rfl | trivial, HZ, by first | rfl | trivial⟩
          case measure => simp [intOf]; omega
      · have hke : k = n := by omega
        have HF := hide (show ∃ m : Nat, z = m ∧ m + n + sumS l = L by have h1 := unhide HE; rw [hke] at hzz; rw [h1] at hzz; exact ⟨z.toNat, by omega, by omega⟩)
        replace hke := hide hke
        clear hc hzz hm
        go_wp2
        go_ret
        obtain ⟨m, hm1, hm2⟩ := unhide HF
        exact ⟨⟨z, rfl, .inr ⟨m, hm1, hm2⟩⟩, rfl⟩
set_option maxRecDepth 20000 in
set_option maxHeartbeats 400000 in
theorem szSigL_any (L : Nat) (hL : L ≤ 1048576) (lf : Int) (l1 l2 : List ByteArray) (v1 v2 : Value) (w : World) (r1 : RdV w v1 (l1.map sv)) (r2 : RdV w v2 (l2.map sv)) (b1 : ∀ x ∈ l1, x.size ≤ maxLen) (b2 : ∀ x ∈ l2, x.size ≤ maxLen) (n1 : l1.length ≤ maxLen) (n2 : l2.length ≤ maxLen) :
    Calls Try.prog 6 #[sgv lf v1 v2, .int .i64 (L : Int)] w fun e w' => (∃ z : Int, e = .returned (.int .i64 z) ∧ (z < 0 ∨ ∃ m : Nat, z = m ∧ m + (l1.length + sumS l1 + l2.length + sumS l2) = L)) ∧ Below w.heap.size w w' := by
  have C1 := hide (fun (W : World) (h : Below w.heap.size w W) => szStrL_any l1 v1 L hL W (r1.below h) b1 n1)
  have C2 := hide (fun (L : Nat) (hL : L ≤ 1048576) (W : World) (h : Below w.heap.size w W) => szStrL_any l2 v2 L hL W (r2.below h) b2 n2)
  obtain ⟨a1, c1, rfl⟩ := r1.shape
  obtain ⟨a2, c2, rfl⟩ := r2.shape
  unfold sgv
  clear r1 r2 b1 b2 n1 n2
  generalize (l1.map sv).length = k1 at *
  generalize (l2.map sv).length = k2 at *
  go_enter Try.func6, Try.ntmps6
  go_wp2_with fail
  have hA := CB.new w #[.int .i64 lf, .slice a1 k1 c1, .slice a2 k2 c2] 24
  have hB : Below w.heap.size w (w.alloc (.cells #[.int .i64 lf, .slice a1 k1 c1, .slice a2 k2 c2] 24)) := (Below.refl _ _).alloc (Nat.le_refl _) _
  generalize w.alloc (.cells #[.int .i64 lf, .slice a1 k1 c1, .slice a2 k2 c2] 24) = W at *
  refine (unhide C1 W hB).mono ?_
  rintro e w1 ⟨⟨z, rfl, hz⟩, hw1⟩
  have hw2 := hw1.symm
  subst hw2
  clear hw1 C1
  have d2 := hA.cell 2 (v := .slice a2 k2 c2) rfl
  rcases hz with hz | ⟨m, rfl, hm⟩
  · clear C2 d2 hA
    go_wp2
    go_ret
    exact ⟨⟨-1, rfl, .inl (by decide)⟩, hB⟩
  · have hm2 : m ≤ 1048576 := by omega
    have hneg : ¬ (m : Int) < 0 := by omega
    replace C2 := hide (unhide C2 m hm2 W hB)
    go_wp2_with fail
    refine (unhide C2).mono ?_
    rintro e w1 ⟨⟨z, rfl, hz⟩, hw1⟩
    have hw2 := hw1.symm
    subst hw2
    clear hw1 C2 d2 hA
    rcases hz with hz | ⟨m', rfl, hm'⟩
    · go_wp2
      go_ret
      exact ⟨⟨-1, rfl, .inl (by decide)⟩, hB⟩
    · have hneg2 : ¬ (m' : Int) < 0 := by omega
      have HF := hide (show m' + (l1.length + sumS l1 + l2.length + sumS l2) = L by omega)
      clear hm hm' hm2 hneg
      go_wp2
      go_ret
      exact ⟨⟨_, rfl, .inr ⟨m', rfl, unhide HF⟩⟩, hB⟩
theorem szSig_any (lf : Int) (l1 l2 : List ByteArray) (v1 v2 : Value) (w : World) (r1 : RdV w v1 (l1.map sv)) (r2 : RdV w v2 (l2.map sv)) (b1 : ∀ x ∈ l1, x.size ≤ maxLen) (b2 : ∀ x ∈ l2, x.size ≤ maxLen) (n1 : l1.length ≤ maxLen) (n2 : l2.length ≤ maxLen) :
    Calls Try.prog 6 #[sgv lf v1 v2, .int .i64 1048576] w fun e w' => (∃ z : Int, e = .returned (.int .i64 z) ∧ (z < 0 ∨ (0 ≤ z ∧ l1.length + sumS l1 + l2.length + sumS l2 ≤ 1048576))) ∧ Below w.heap.size w w' :=
  (szSigL_any 1048576 (Nat.le_refl _) lf l1 l2 v1 v2 w r1 r2 b1 b2 n1 n2).mono fun _ _ ⟨⟨z, h1, h2⟩, h3⟩ => ⟨⟨z, h1, h2.imp id fun ⟨_, h4, h5⟩ => ⟨by omega, by omega⟩⟩, h3⟩
/-- The signature s, read. -/
def RdSg (w : World) (v : Value) (s : Sg) : Prop := ∃ v1 v2, v = sgv s.leaf v1 v2 ∧ RdV w v1 (s.once.map sv) ∧ RdV w v2 (s.path.map sv) ∧ CapV v1 ∧ CapV v2
/-- The signature s, in memory of the call's own. -/
def OwnSg (w : World) (base : Nat) (v : Value) (s : Sg) : Prop := ∃ v1 v2, v = sgv s.leaf v1 v2 ∧ OwnV w base 9 v1 (s.once.map sv) ∧ OwnV w base 9 v2 (s.path.map sv) ∧ ∀ k, v1.ownBlock = some k → v2.ownBlock ≠ some k
theorem OwnSg.rd {w : World} {base : Nat} {v : Value} {s : Sg} (h : OwnSg w base v s) : RdSg w v s := by
  obtain ⟨v1, v2, e, h1, h2, _⟩ := h
  exact ⟨v1, v2, e, h1.rdv, h2.rdv, h1.capv, h2.capv⟩
theorem RdSg.below {w w' : World} {v : Value} {s : Sg} (h : RdSg w v s) (hb : Below w.heap.size w w') : RdSg w' v s := by
  obtain ⟨v1, v2, e, h1, h2, hc⟩ := h
  exact ⟨v1, v2, e, h1.below hb, h2.below hb, hc⟩
theorem OwnSg.below {w w' : World} {base : Nat} {v : Value} {s : Sg} (h : OwnSg w base v s) (hb : Below w.heap.size w w') : OwnSg w' base v s := by
  obtain ⟨v1, v2, e, h1, h2, h3⟩ := h
  exact ⟨v1, v2, e, h1.below hb, h2.below hb, h3⟩
theorem OwnSg.low {w : World} {base base' : Nat} {v : Value} {s : Sg} (h : OwnSg w base v s) (hb : base' ≤ base) : OwnSg w base' v s := by
  obtain ⟨v1, v2, e, h1, h2, h3⟩ := h
  exact ⟨v1, v2, e, h1.low hb, h2.low hb, h3⟩
theorem OwnSg.open {w : World} {base : Nat} {v : Value} {s : Sg} (h : OwnSg w base v s) : ∃ a1 n1 c1 a2 n2 c2, v = .agg #[.int .i64 s.leaf, .slice a1 n1 c1, .slice a2 n2 c2] := by
  obtain ⟨v1, v2, rfl, h1, h2, _⟩ := h
  obtain ⟨a1, c1, rfl⟩ := h1.shape
  obtain ⟨a2, c2, rfl⟩ := h2.shape
  exact ⟨_, _, _, _, _, _, rfl⟩
set_option maxRecDepth 20000 in
set_option maxHeartbeats 400000 in
theorem toSig_any (s : Sg) (v : Value) (w : World) (hr : RdSg w v s) (n1 : s.once.length ≤ 1048576) (n2 : s.path.length ≤ 1048576) :
    Calls Try.prog 8 #[v] w fun e w' => (∃ u, e = .returned u ∧ OwnSg w' w.heap.size u s) ∧ Below w.heap.size w w' := by
  obtain ⟨lf, l1, l2⟩ := s
  obtain ⟨v1, v2, rfl, r1, r2, -⟩ := hr
  have C1 := hide (fun (W : World) (h : Below w.heap.size w W) => toStrS_any l1 v1 W (r1.below h) n1)
  have C2 := hide (fun (W : World) (h : Below w.heap.size w W) => toStrS_any l2 v2 W (r2.below h) n2)
  obtain ⟨a1, c1, rfl⟩ := r1.shape
  obtain ⟨a2, c2, rfl⟩ := r2.shape
  unfold sgv
  clear r1 r2 n1 n2
  generalize ((Sg.mk lf l1 l2).once.map sv).length = k1 at *
  generalize ((Sg.mk lf l1 l2).path.map sv).length = k2 at *
  go_enter Try.func8, Try.ntmps8
  go_wp2_with fail
  obtain ⟨W, hW, hP, hR, hO, hB, hs⟩ := three_cb w #[.int .i64 lf, .slice a1 k1 c1, .slice a2 k2 c2] #[.int .i64 0, .slice none 0 0, .slice none 0 0] #[.int .i64 lf, .slice none 0 0, .slice none 0 0] 24 28 28
  rw [hW]
  clear hW
  refine (unhide C1 W hB).mono ?_
  rintro e w1 ⟨⟨b1, e1, rfl, o1⟩, hb1⟩
  have hB1 := hB.trans (hb1.mono hB.size)
  have hP1 := hP.step hb1
  have hR1 := hR.step hb1
  have hO1 := hO.step hb1
  have lo1 := hide (fun k (hk : (Value.slice b1 l1.length e1).ownBlock = some k) => o1.lt k hk)
  have hsz1 := hb1.size
  have off1 := hide (hO1.off o1 (by decide))
  clear hb1 hP hR hO C1
  have p2 := hP1.cell 2 (v := .slice a2 k2 c2) rfl
  have q1 := hO1.cell 1 (v := .slice none 0 0) rfl
  have f1 := hO1.frozen 1
  have hO2 := hide (hO1.set 1 (.slice b1 l1.length e1))
  have hR2 := hide (hR1.set_other (h := w.heap.size + 1 + 1) (k := 1) (by omega) (.slice b1 l1.length e1))
  have hB2 := hide (hB1.setCell (p := ⟨w.heap.size + 1 + 1, 1, none⟩) (by simp; omega) (.slice b1 l1.length e1))
  have o2 := hide (o1.grown (tS w1 (w.heap.size + 1 + 1) 1 (.slice b1 l1.length e1)) (fun k hk e => unhide off1 (by rw [hk, ← e])))
  generalize l1.length = m1 at *
  go_wp2_with fail
  have hs2 : (w1.setCell ⟨w.heap.size + 1 + 1, 1, none⟩ (.slice b1 m1 e1)).heap.size = w1.heap.size := by simp
  generalize w1.setCell ⟨w.heap.size + 1 + 1, 1, none⟩ (.slice b1 m1 e1) = W2 at *
  refine (unhide C2 W2 (unhide hB2)).mono ?_
  rintro e w3 ⟨⟨b2, e2, rfl, o3⟩, hb3⟩
  have hB3 := (unhide hB2).trans (hb3.mono (unhide hB2).size)
  have hR3 := (unhide hR2).step hb3
  have hO3 := (unhide hO2).step hb3
  have o4 := hide ((unhide o2).below hb3)
  have ap := hide (show ∀ k, (Value.slice b1 m1 e1).ownBlock = some k → (Value.slice b2 l2.length e2).ownBlock ≠ some k from fun k hk hk2 => by
    have h1 := (unhide lo1 k hk).2
    have h2 := (o3.lt k hk2).1
    omega)
  have off3 := hide (hO3.off o3 (by decide))
  have off4 := hide (hO3.off (unhide o4) (by decide))
  have ofr3 := hide (hR3.off o3 (by decide))
  have ofr4 := hide (hR3.off (unhide o4) (by decide))
  have hsz3 := hb3.size
  clear hb3 C2 hR2 hO2 hB2 o2 p2 q1 f1 hP1 hR1 hO1 hB1 hB lo1 off1
  generalize l2.length = m2 at *
  have q0 := hO3.cell 0 (v := .int .i64 lf) rfl
  have q1 := hO3.cell 1 (v := .slice b1 m1 e1) rfl
  have q2 := hO3.cell 2 (v := .slice none 0 0) rfl
  have f2 := hO3.frozen 2
  have r0 := hR3.cell 0 (v := .int .i64 0) rfl
  have r1 := hR3.cell 1 (v := .slice none 0 0) rfl
  have r2 := hR3.cell 2 (v := .slice none 0 0) rfl
  have g0 := hR3.frozen 0
  have g1 := hR3.frozen 1
  have g2 := hR3.frozen 2
  go_wp2
  have hO4 := hide ((((hR3.set_other (h := w.heap.size + 1 + 1) (k := 2) (by omega) (.slice b2 m2 e2)).set 0 (.int .i64 lf)).set 1 (.slice b1 m1 e1)).set 2 (.slice b2 m2 e2))
  have hB4 := hide ((((hB3.setCell (p := ⟨w.heap.size + 1 + 1, 2, none⟩) (by simp; omega) (.slice b2 m2 e2)).setCell (p := ⟨w.heap.size + 1, 0, none⟩) (by simp) (.int .i64 lf)).setCell (p := ⟨w.heap.size + 1, 1, none⟩) (by simp) (.slice b1 m1 e1)).setCell (p := ⟨w.heap.size + 1, 2, none⟩) (by simp) (.slice b2 m2 e2))
  have o5 := hide (((((unhide o4).setO (w.heap.size + 1 + 1) 2 (.slice b2 m2 e2) (unhide off4)).setO (w.heap.size + 1) 0 (.int .i64 lf) (unhide ofr4)).setO (w.heap.size + 1) 1 (.slice b1 m1 e1) (unhide ofr4)).setO (w.heap.size + 1) 2 (.slice b2 m2 e2) (unhide ofr4))
  have o6 := hide ((((o3.setO (w.heap.size + 1 + 1) 2 (.slice b2 m2 e2) (unhide off3)).setO (w.heap.size + 1) 0 (.int .i64 lf) (unhide ofr3)).setO (w.heap.size + 1) 1 (.slice b1 m1 e1) (unhide ofr3)).setO (w.heap.size + 1) 2 (.slice b2 m2 e2) (unhide ofr3))
  have hbw := hB3.size
  refine bodyPost_ret (results_cb (by exact Try.results8) _ _ _ _ _ _ rfl (unhide hO4) Try.underlying28 (by kernel_rfl)) rfl ⟨⟨_, rfl, _, _, rfl, (unhide o5).low ?_, (unhide o6).low ?_, unhide ap⟩, unhide hB4⟩
  · have := (unhide hB4).size; omega
  · omega
set_option maxRecDepth 20000 in
set_option maxHeartbeats 400000 in
theorem eqSig_any (s : Sg) (v u : Value) (w : World) (hv : RdSg w v s) (hu : RdSg w u s) (n1 : s.once.length ≤ 2000000) (n2 : s.path.length ≤ 2000000) :
    Calls Try.prog 10 #[v, u] w fun e w' => e = .returned (.bool true) ∧ Below w.heap.size w w' := by
  obtain ⟨lf, l1, l2⟩ := s
  obtain ⟨v1, v2, rfl, r1, r2, -⟩ := hv
  obtain ⟨u1, u2, rfl, p1, p2, -⟩ := hu
  have C1 := hide (fun (W : World) (h : Below w.heap.size w W) => eqStrS_any l1 v1 u1 W (r1.below h) (p1.below h) n1)
  have C2 := hide (fun (W : World) (h : Below w.heap.size w W) => eqStrS_any l2 v2 u2 W (r2.below h) (p2.below h) n2)
  obtain ⟨a1, c1, rfl⟩ := r1.shape
  obtain ⟨a2, c2, rfl⟩ := r2.shape
  obtain ⟨a3, c3, rfl⟩ := p1.shape
  obtain ⟨a4, c4, rfl⟩ := p2.shape
  unfold sgv
  clear r1 r2 p1 p2 n1 n2
  generalize ((Sg.mk lf l1 l2).once.map sv).length = k1 at *
  generalize ((Sg.mk lf l1 l2).path.map sv).length = k2 at *
  go_enter Try.func10, Try.ntmps10
  go_wp2_with fail
  obtain ⟨W, hW, hP, hR, hB, hs⟩ := two_cb w #[.int .i64 lf, .slice a1 k1 c1, .slice a2 k2 c2] #[.int .i64 lf, .slice a3 k1 c3, .slice a4 k2 c4] 28 28
  rw [hW]
  clear hW
  refine (unhide C1 W hB).mono ?_
  rintro e w1 ⟨rfl, hb1⟩
  have hB1 := hB.trans (hb1.mono hB.size)
  have d1 := (hP.step hb1).cell 2 (v := .slice a2 k2 c2) rfl
  have d2 := (hR.step hb1).cell 2 (v := .slice a4 k2 c4) rfl
  replace C2 := hide (unhide C2 w1 hB1)
  clear hb1 hP hR C1 hB
  go_wp2_with fail
  refine (unhide C2).mono ?_
  rintro e w2 ⟨rfl, hb2⟩
  have hB2 := hB1.trans (hb2.mono hB1.size)
  clear hb2 C2 d1 d2 hB1
  go_wp2
  go_ret
  exact ⟨rfl, hB2⟩
/-- The marks of a signature's texts. -/
theorem RdSg.len {w : World} {v : Value} {s : Sg} (h : RdSg w v s) : ∃ v1 v2, v = sgv s.leaf v1 v2 := by
  obtain ⟨v1, v2, e, _⟩ := h
  exact ⟨v1, v2, e⟩
/-- A signature whose texts are marked from k on. -/
def MkSgK (w : World) (base : Nat) (v : Value) (s : Sg) (k : Nat) : Prop := ∃ v1 v2, v = sgv s.leaf v1 v2 ∧ OwnV w base 9 v1 (mkT k s.once.length) ∧ OwnV w base 9 v2 (mkT (k + s.once.length) s.path.length)
theorem MkSgK.below {w w' : World} {base k : Nat} {v : Value} {s : Sg} (h : MkSgK w base v s k) (hb : Below w.heap.size w w') : MkSgK w' base v s k := by
  obtain ⟨v1, v2, e, h1, h2⟩ := h
  exact ⟨v1, v2, e, h1.below hb, h2.below hb⟩
def MkSg (w : World) (base : Nat) (v : Value) (s : Sg) : Prop := MkSgK w base v s 1
theorem MkSg.below {w w' : World} {base : Nat} {v : Value} {s : Sg} (h : MkSg w base v s) (hb : Below w.heap.size w w') : MkSg w' base v s := MkSgK.below h hb
set_option maxRecDepth 20000 in
set_option maxHeartbeats 400000 in
theorem markSigK_any (k : Nat) (hk1 : 1 ≤ k) (hk2 : k ≤ 10000000) (s : Sg) (v : Value) (base M : Nat) (w w0 : World) (hM : M = k + s.once.length + s.path.length) (ho : OwnSg w base v s) (hW : Below base w0 w) (hbw : base ≤ w.heap.size) (n1 : s.once.length ≤ 2000000) (n2 : s.path.length ≤ 2000000) :
    Calls Try.prog 13 #[v, .int .i64 (k : Int)] w fun e w' => e = .returned (.int .i64 (M : Int)) ∧ MkSgK w' base v s k ∧ Below base w0 w' ∧ (∀ g T cs, CB w g T cs → T ≠ 9 → CB w' g T cs) ∧ ∀ v1 v2, v = sgv s.leaf v1 v2 → ∀ (u : Value) (xs : List Value) (b : Nat), OwnV w b 9 u xs → (∀ j, u.ownBlock = some j → v1.ownBlock ≠ some j ∧ v2.ownBlock ≠ some j) → OwnV w' b 9 u xs := by
  obtain ⟨lf, l1, l2⟩ := s
  obtain ⟨v1, v2, rfl, o1, o2, ap⟩ := ho
  have hl1 : ((Sg.mk lf l1 l2).once.map sv).length = l1.length := by rw [List.length_map]
  have hl2 : ((Sg.mk lf l1 l2).path.map sv).length = l2.length := by rw [List.length_map]
  have C1 := hide (fun (W : World) (h : OwnV W base 9 v1 ((Sg.mk lf l1 l2).once.map sv)) => markStrS_own v1 base k (k + l1.length) ((Sg.mk lf l1 l2).once.map sv) W (by rw [hl1]) (by rw [hl1]; exact n1) hk1 (by omega) h)
  have C2 := hide (fun (W : World) (h : OwnV W base 9 v2 ((Sg.mk lf l1 l2).path.map sv)) => markStrS_own v2 base (k + l1.length) M ((Sg.mk lf l1 l2).path.map sv) W (by rw [hl2]; exact hM) (by rw [hl2]; exact n2) (by omega) (by have : l1.length ≤ 2000000 := n1; omega) h)
  rw [hl1] at C1
  rw [hl2] at C2
  have lo1 := hide (fun j (hj : v1.ownBlock = some j) => o1.lt j hj)
  have lo2 := hide (fun j (hj : v2.ownBlock = some j) => o2.lt j hj)
  have s1 := o1.shape
  have s2 := o2.shape
  rw [hl1] at s1
  rw [hl2] at s2
  obtain ⟨a1, c1, rfl⟩ := s1
  obtain ⟨a2, c2, rfl⟩ := s2
  unfold sgv
  replace o1 := hide o1; replace o2 := hide o2; replace ap := hide ap; replace hM := hide hM
  clear hl1 hl2 n1 n2
  show Calls _ _ _ _ fun e w' => e = .returned (.int .i64 (M : Int)) ∧ MkSgK w' base (sgv lf (.slice a1 l1.length c1) (.slice a2 l2.length c2)) ⟨lf, l1, l2⟩ k ∧ Below base w0 w' ∧ (∀ g T cs, CB w g T cs → T ≠ 9 → CB w' g T cs) ∧ ∀ v1 v2, sgv lf (.slice a1 l1.length c1) (.slice a2 l2.length c2) = sgv lf v1 v2 → ∀ (u : Value) (xs : List Value) (b : Nat), OwnV w b 9 u xs → (∀ j, u.ownBlock = some j → v1.ownBlock ≠ some j ∧ v2.ownBlock ≠ some j) → OwnV w' b 9 u xs
  have HV := hide (show ∀ v1 v2, sgv lf (.slice a1 l1.length c1) (.slice a2 l2.length c2) = sgv lf v1 v2 → v1 = .slice a1 l1.length c1 ∧ v2 = .slice a2 l2.length c2 from fun v1 v2 e => by unfold sgv at e; injection e with e; simp at e; exact ⟨e.1.symm, e.2.symm⟩)
  have HF := hide (fun (W : World) (h1 : OwnV W base 9 (.slice a1 l1.length c1) (mkT k l1.length)) (h2 : OwnV W base 9 (.slice a2 l2.length c2) (mkT (k + l1.length) l2.length)) => show MkSgK W base (sgv lf (.slice a1 l1.length c1) (.slice a2 l2.length c2)) ⟨lf, l1, l2⟩ k from ⟨_, _, rfl, h1, h2⟩)
  obtain ⟨q, hq⟩ : ∃ q, k + l1.length = q := ⟨_, rfl⟩
  rw [hq] at C1 C2 HF
  replace hq := hide hq
  generalize l1.length = m1 at *
  generalize l2.length = m2 at *
  go_enter Try.func13, Try.ntmps13
  go_wp2_with fail
  obtain ⟨W, hW1, hP, hB, hs⟩ := one_cb w #[.int .i64 lf, .slice a1 m1 c1, .slice a2 m2 c2] 28
  rw [hW1]
  clear hW1
  have o1' := (unhide o1).below hB
  have o2' := (unhide o2).below hB
  have hBW := hW.trans (hB.mono hbw)
  have off1 := hide (hP.off o1' (by decide))
  have KC := hide (fun gg T cs (h : CB w gg T cs) (hT : T ≠ 9) => show CB W gg T cs from h.step hB)
  refine (unhide C1 W o1').mono ?_
  rintro e w1 ⟨rfl, o3, hg3⟩
  have o4 := hide (o2'.grown hg3 (fun j hj e => unhide ap j e hj))
  have KC2 := hide (fun gg T cs (h : CB w gg T cs) (hT : T ≠ 9) => show CB w1 gg T cs from (unhide KC gg T cs h hT).grown hg3 ((unhide KC gg T cs h hT).off o1' hT))
  have KO := hide (unhide o4)
  have KU := hide (fun (u : Value) (xs : List Value) (b : Nat) (h : OwnV w b 9 u xs) (hap : ∀ j, u.ownBlock = some j → (Value.slice a1 m1 c1).ownBlock ≠ some j ∧ (Value.slice a2 m2 c2).ownBlock ≠ some j) => show OwnV w1 b 9 u xs from (h.below hB).grown hg3 (fun j hj e => (hap j hj).1 e))
  clear KC
  have hP1 := hP.grown hg3 (unhide off1)
  have hB1 := hBW.grown hg3 (by omega) (fun j hj => (unhide lo1 j hj).1)
  have d2 := hP1.cell 2 (v := .slice a2 m2 c2) rfl
  have hsz1 := hg3.size
  replace C2 := hide (unhide C2 w1 (unhide o4))
  replace o3 := hide o3
  clear hg3 hP hP1 C1 hB hBW off1 o1' o2' o4
  go_wp2_with fail
  refine (unhide C2).mono ?_
  rintro e w2 ⟨rfl, o5, hg5⟩
  have hB2 := hB1.grown hg5 (by omega) (fun j hj => (unhide lo2 j hj).1)
  have KC3 := hide (fun gg T cs (h : CB w gg T cs) (hT : T ≠ 9) => show CB w2 gg T cs from (unhide KC2 gg T cs h hT).grown hg5 ((unhide KC2 gg T cs h hT).off (unhide KO) hT))
  have KU3 := hide (show ∀ v1 v2, sgv lf (.slice a1 m1 c1) (.slice a2 m2 c2) = sgv lf v1 v2 → ∀ (u : Value) (xs : List Value) (b : Nat), OwnV w b 9 u xs → (∀ j, u.ownBlock = some j → v1.ownBlock ≠ some j ∧ v2.ownBlock ≠ some j) → OwnV w2 b 9 u xs from fun v1 v2 e u xs b h hap => by
    obtain ⟨rfl, rfl⟩ := unhide HV v1 v2 e
    exact (unhide KU u xs b h hap).grown hg5 (fun j hj e => (hap j hj).2 e))
  clear KC2 KO KU HV
  have o6 := (unhide o3).grown hg5 (fun j hj e => unhide ap j hj e)
  have HR := hide (unhide HF w2 o6 o5)
  clear hg5 C2 d2 hB1 o5 o6 o3 HF
  go_wp2
  go_ret
  exact ⟨rfl, unhide HR, hB2, unhide KC3, unhide KU3⟩
theorem markSig_any (s : Sg) (v : Value) (base M : Nat) (w w0 : World) (hM : M = 1 + s.once.length + s.path.length) (ho : OwnSg w base v s) (hW : Below base w0 w) (hbw : base ≤ w.heap.size) (n1 : s.once.length ≤ 2000000) (n2 : s.path.length ≤ 2000000) :
    Calls Try.prog 13 #[v, .int .i64 1] w fun e w' => e = .returned (.int .i64 (M : Int)) ∧ MkSg w' base v s ∧ Below base w0 w' ∧ ∀ g T cs, CB w g T cs → T ≠ 9 → CB w' g T cs :=
  (markSigK_any 1 (Nat.le_refl _) (by omega) s v base M w w0 hM ho hW hbw n1 n2).mono fun _ _ ⟨h1, h2, h3, h4, _⟩ => ⟨h1, h2, h3, h4⟩
set_option maxRecDepth 20000 in
set_option maxHeartbeats 400000 in
theorem heldSigK_any (k : Nat) (hk1 : 1 ≤ k) (hk2 : k ≤ 10000000) (s : Sg) (v : Value) (base M : Nat) (w : World) (hM : M = k + s.once.length + s.path.length) (ho : MkSgK w base v s k) (n1 : s.once.length ≤ 2000000) (n2 : s.path.length ≤ 2000000) :
    Calls Try.prog 14 #[v, .int .i64 (k : Int)] w fun e w' => e = .returned (.int .i64 (M : Int)) ∧ Below w.heap.size w w' := by
  obtain ⟨lf, l1, l2⟩ := s
  obtain ⟨v1, v2, rfl, o1, o2⟩ := ho
  have C1 := hide (fun (W : World) (h : Below w.heap.size w W) => heldStrS_any v1 k l1.length (k + l1.length) W rfl n1 hk1 (by omega) (o1.rdv.below h))
  have C2 := hide (fun (W : World) (h : Below w.heap.size w W) => heldStrS_any v2 (k + l1.length) l2.length M W hM n2 (by omega) (by have : l1.length ≤ 2000000 := n1; omega) (o2.rdv.below h))
  have s1 := o1.shape
  have s2 := o2.shape
  rw [mkT_len] at s1 s2
  obtain ⟨a1, c1, rfl⟩ := s1
  obtain ⟨a2, c2, rfl⟩ := s2
  have hq0 : 0 ≤ ((k + l1.length : Nat) : Int) := by omega
  have hM0 : 0 ≤ (M : Int) := by omega
  obtain ⟨q, hq⟩ : ∃ q, k + l1.length = q := ⟨_, rfl⟩
  rw [hq] at C1 C2 hq0
  replace hq := hide hq
  replace hM := hide hM
  unfold sgv
  clear o1 o2 n1 n2
  show Calls _ _ #[.agg #[.int .i64 lf, .slice a1 l1.length c1, .slice a2 l2.length c2], _] _ _
  generalize l1.length = m1 at *
  generalize l2.length = m2 at *
  have hq' : ¬ (q : Int) < 0 := by omega
  have hM' : ¬ (M : Int) < 0 := by omega
  go_enter Try.func14, Try.ntmps14
  go_wp2_with fail
  obtain ⟨W, hW1, hP, hB, hs⟩ := one_cb w #[.int .i64 lf, .slice a1 m1 c1, .slice a2 m2 c2] 28
  rw [hW1]
  clear hW1
  refine (unhide C1 W hB).mono ?_
  rintro e w1 ⟨rfl, hb1⟩
  have hB1 := hB.trans (hb1.mono hB.size)
  have d2 := (hP.step hb1).cell 2 (v := .slice a2 m2 c2) rfl
  replace C2 := hide (unhide C2 w1 hB1)
  clear hb1 hP C1 hB
  go_wp2_with fail
  refine (unhide C2).mono ?_
  rintro e w2 ⟨rfl, hb2⟩
  have hB2 := hB1.trans (hb2.mono hB1.size)
  clear hb2 C2 d2 hB1
  go_wp2
  go_ret
  exact ⟨rfl, hB2⟩
theorem heldSig_any (s : Sg) (v : Value) (base M : Nat) (w : World) (hM : M = 1 + s.once.length + s.path.length) (ho : MkSg w base v s) (n1 : s.once.length ≤ 2000000) (n2 : s.path.length ≤ 2000000) :
    Calls Try.prog 14 #[v, .int .i64 1] w fun e w' => e = .returned (.int .i64 (M : Int)) ∧ Below w.heap.size w w' :=
  heldSigK_any 1 (Nat.le_refl _) (by omega) s v base M w hM ho n1 n2
end Go.Proofs.Ytecononlghjepaw
