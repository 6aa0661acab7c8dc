/- Merged: Rws, Chn3, Chn4, ChI2, ChI3. -/
import Derived.Test.YtjgnjjphankhnabGreatMga1
import Derived.Test.YtjgnjjphankhnabGreatMga2
import Derived.Test.YtjgnjjphankhnabGreatMga3
import Derived.Test.YtjgnjjphankhnabGreatMga4
import Derived.Test.YtjgnjjphankhnabGreatMga5
import Derived.Test.YtjgnjjphankhnabGreatMga6
import Derived.Deep.QuietTactic
/- Laws of no program: a row of rows of numbers that the call itself owns, or that is only read. -/
namespace Go.Proofs.YtjgnjjphankhnabGreat
open Go.RowKit
/-- A row of the call's own whose values are rows of numbers of the call's own. -/
def OwnR (w : World) (base : Nat) (T I : TypeId) (v : Value) (L : List (List Int)) : Prop :=
  ∃ vs : List Value, OwnV w base T v vs ∧ vs.length = L.length ∧ ∀ (i : Nat) (u : Value) (l : List Int), vs[i]? = some u → L[i]? = some l → OwnV w base I u (l.map iv)
/-- A row that is read, whose values are rows of numbers. -/
def RdR (w : World) (v : Value) (L : List (List Int)) : Prop :=
  ∃ vs : List Value, RdV w v vs ∧ vs.length = L.length ∧ ∀ (i : Nat) (u : Value) (l : List Int), vs[i]? = some u → L[i]? = some l → RdV w u (l.map iv)
theorem OwnR.below {w w' : World} {base : Nat} {T I : TypeId} {v : Value} {L : List (List Int)} (h : OwnR w base T I v L) (hb : Below w.heap.size w w') : OwnR w' base T I v L := by
  obtain ⟨vs, h1, h2, h3⟩ := h
  exact ⟨vs, h1.below hb, h2, fun i u l hu hl => (h3 i u l hu hl).below hb⟩
theorem OwnR.low {w : World} {base base' : Nat} {T I : TypeId} {v : Value} {L : List (List Int)} (h : OwnR w base T I v L) (hb : base' ≤ base) : OwnR w base' T I v L := by
  obtain ⟨vs, h1, h2, h3⟩ := h
  exact ⟨vs, h1.low hb, h2, fun i u l hu hl => (h3 i u l hu hl).low hb⟩
theorem OwnR.rd {w : World} {base : Nat} {T I : TypeId} {v : Value} {L : List (List Int)} (h : OwnR w base T I v L) : RdR w v L := by
  obtain ⟨vs, h1, h2, h3⟩ := h
  exact ⟨vs, h1.rdv, h2, fun i u l hu hl => (h3 i u l hu hl).rdv⟩
theorem RdR.below {w w' : World} {v : Value} {L : List (List Int)} (h : RdR w v L) (hb : Below w.heap.size w w') : RdR w' v L := by
  obtain ⟨vs, h1, h2, h3⟩ := h
  exact ⟨vs, h1.below hb, h2, fun i u l hu hl => (h3 i u l hu hl).below hb⟩
theorem OwnR.made (w : World) (T I : TypeId) : OwnR (w.alloc (.cells #[] T)) w.heap.size T I (.slice (some ⟨w.heap.size, 0, none⟩) 0 0) [] :=
  ⟨[], World.ownsRow_made w #[] 0 (Nat.le_refl _) (by decide) (by simp), rfl, fun i u l hu _ => by simp at hu⟩
theorem OwnR.shape {w : World} {base : Nat} {T I : TypeId} {v : Value} {L : List (List Int)} (h : OwnR w base T I v L) : ∃ a c, v = .slice a L.length c := by
  obtain ⟨vs, h1, h2, _⟩ := h
  rw [← h2]
  exact h1.shape
theorem RdR.shape {w : World} {v : Value} {L : List (List Int)} (h : RdR w v L) : ∃ a c, v = .slice a L.length c := by
  obtain ⟨vs, h1, h2, _⟩ := h
  rw [← h2]
  exact h1.shape
theorem RdR.open {w : World} {v : Value} {L : List (List Int)} (h : RdR w v L) : ∃ a c, v = .slice a L.length c ∧ ∀ (j : Nat) (l : List Int), L[j]? = some l → ∃ g o u, a = some ⟨g, o, none⟩ ∧ g < w.heap.size ∧ w.cell? ⟨g, o + j, none⟩ = some u ∧ RdV w u (l.map iv) := by
  obtain ⟨vs, h1, h2, h3⟩ := h
  obtain ⟨a, c, rfl, hc⟩ := h1.open
  refine ⟨a, c, by rw [h2], fun j l hl => ?_⟩
  have hj : j < vs.length := by rw [h2]; exact (List.getElem?_eq_some_iff.mp hl).1
  obtain ⟨g, o, e1, e2, e3⟩ := hc j _ (List.getElem?_eq_getElem hj)
  exact ⟨g, o, _, e1, e2, e3, h3 j _ l (List.getElem?_eq_getElem hj) hl⟩
/-- A row appended to a row of rows. -/
theorem wpList_append_row {P : Program} {w : World} {ops : Array Oper} {rest : List Oper} {o : Oper} {a : Act} {Q : Exit → Act → World → Prop} (hgd : o.guard = none) (s x : Operand) (t : TypeId)
    (ho : o.op = .call { callee := .builtin .append, args := #[s, x], argTypes := #[t, t] })
    (base : Nat) (T I : TypeId) (hTI : I ≠ T) (i : TypeInfo) (z : Value) (nb : Nat) (ht : P.underlying t = some (.slice T)) (hi : P.info? T = some i) (hz : i.zero = some z) (hsize : i.size = 1) (hby : i.bytes = nb) (hzs : z.cells.size = 1)
    (v : Value) (L : List (List Int)) (hs : a.eval s = v) (hown : OwnR w base T I v L) (u : Value) (l : List Int) (hu : OwnV w base I u (l.map iv)) (hx : a.eval x = .slice (some ⟨w.heap.size, 0, none⟩) 1 1)
    (hlen : L.length ≤ 1000) (hnb : nb ≤ 1000) {w0 : World} {B : Nat} (hB : Below B w0 w) (hBb : B ≤ base) (hbase : base ≤ w.heap.size)
    (h : ∀ v' w', OwnR w' base T I v' (L ++ [l]) → OwnV w' base I u (l.map iv) → Below B w0 w' → wpList P ops Q rest (a.put o.dst v') w') :
    wpList P ops Q (o :: rest) a (w.alloc (.cells #[u] T)) := by
  obtain ⟨vs, h1, h2, h3⟩ := hown
  have h1u : u.oneCell' = true := by
    obtain ⟨a1, c1, rfl⟩ := hu.shape
    rfl
  refine wpList_append_grow hgd s x t ho base T i z nb ht hi hz hsize hby hzs v vs hs h1 u h1u hx (by rw [h2]; unfold maxLen; omega) (by rw [h2]; exact Nat.le_trans (Nat.mul_le_mul (show L.length + 1 ≤ 1001 by omega) hnb) (by decide)) hbase ?_
  intro v' w' ho' hg'
  have hne : ∀ y ys, OwnV w base I y ys → ∀ n, y.ownBlock = some n → v.ownBlock ≠ some n := fun y ys hy n hn => hy.apart h1 hTI n hn
  refine h v' w' ⟨vs ++ [u], ho', by rw [List.length_append, List.length_append, h2]; rfl, fun j y m hy hm => ?_⟩ ((hu.alloc _).grown hg' (hne _ _ hu)) ?_
  · by_cases hj : j < vs.length
    · rw [List.getElem?_append_left hj] at hy
      rw [List.getElem?_append_left (by omega)] at hm
      exact ((h3 j y m hy hm).alloc _).grown hg' (hne y _ (h3 j y m hy hm))
    · have hje : j = vs.length := by
        have := (List.getElem?_eq_some_iff.mp hy).1
        rw [List.length_append] at this
        simp at this
        omega
      subst hje
      rw [List.getElem?_append_right (Nat.le_refl _), Nat.sub_self] at hy
      rw [List.getElem?_append_right (by omega), show vs.length - L.length = 0 by omega] at hm
      have e1 : u = y := by simpa using hy
      have e2 : l = m := by simpa using hm
      subst e1 e2
      exact (hu.alloc _).grown hg' (hne _ _ hu)
  · exact (hB.alloc (Nat.le_trans hBb hbase) (.cells #[u] T)).grown hg' (by simp; omega) (fun n hn => Nat.le_trans hBb (h1.lt n hn).1)
/-- A value appended to a row of the call's own. -/
theorem wpList_append_val {P : Program} {w : World} {ops : Array Oper} {rest : List Oper} {o : Oper} {a : Act} {Q : Exit → Act → World → Prop} (hgd : o.guard = none) (s x : Operand) (t : TypeId)
    (ho : o.op = .call { callee := .builtin .append, args := #[s, x], argTypes := #[t, t] })
    (base : Nat) (T : TypeId) (i : TypeInfo) (z : Value) (nb : Nat) (ht : P.underlying t = some (.slice T)) (hi : P.info? T = some i) (hz : i.zero = some z) (hsize : i.size = 1) (hby : i.bytes = nb) (hzs : z.cells.size = 1)
    (v : Value) (xs : List Value) (hs : a.eval s = v) (hown : OwnV w base T v xs) (u : Value) (h1 : u.oneCell' = true) (hx : a.eval x = .slice (some ⟨w.heap.size, 0, none⟩) 1 1)
    (hlen : xs.length ≤ 1000) (hnb : nb ≤ 1000) {w0 : World} {B : Nat} (hB : Below B w0 w) (hBb : B ≤ base) (hbase : base ≤ w.heap.size)
    (h : ∀ v' w', OwnV w' base T v' (xs ++ [u]) → Below B w0 w' → wpList P ops Q rest (a.put o.dst v') w') :
    wpList P ops Q (o :: rest) a (w.alloc (.cells #[u] T)) := by
  refine wpList_append_grow hgd s x t ho base T i z nb ht hi hz hsize hby hzs v xs hs hown u h1 hx (by unfold maxLen; omega) (Nat.le_trans (Nat.mul_le_mul (show xs.length + 1 ≤ 1001 by omega) hnb) (by decide)) hbase ?_
  intro v' w' ho' hg'
  exact h v' w' ho' ((hB.alloc (Nat.le_trans hBb hbase) (.cells #[u] T)).grown hg' (by simp; omega) (fun n hn => Nat.le_trans hBb (hown.lt n hn).1))
/-- A piece of a row of rows is read. -/
theorem OwnR.cut {w : World} {base g n c : Nat} {T I : TypeId} {L : List (List Int)} (h : OwnR w base T I (.slice (some ⟨g, 0, none⟩) n c) L) (k m c' : Nat) (L' : List (List Int)) (hm : L'.length = m) (h0 : 0 < m) (hL : ∀ (j : Nat) (l : List Int), L'[j]? = some l → L[k + j]? = some l) : RdR w (.slice (some ⟨g, k, none⟩) m c') L' := by
  obtain ⟨vs, h1, h2, h3⟩ := h
  have hkm : k + m ≤ vs.length := by
    have hx : m - 1 < L'.length := by omega
    have := (List.getElem?_eq_some_iff.mp (hL (m - 1) _ (List.getElem?_eq_getElem hx))).1
    omega
  have hg : ∀ (j : Nat) (x : Value), ((vs.drop k).take m)[j]? = some x → vs[k + j]? = some x := fun j x hx => by
    rw [List.getElem?_take] at hx
    split at hx
    · rw [List.getElem?_drop] at hx; exact hx
    · cases hx
  have hl : ((vs.drop k).take m).length = m := by rw [List.length_take, List.length_drop]; omega
  exact ⟨(vs.drop k).take m, .inr ⟨g, k, c', by rw [hl], by omega, (h1.lt g rfl).2, fun j x hx => h1.cell (hg j x hx)⟩, by rw [hl, hm], fun i u l hu hl' => (h3 (k + i) u l (hg i u hu) (hL i l hl')).rdv⟩
theorem OwnR.some {w : World} {base n c : Nat} {a : Option Addr} {T I : TypeId} {L : List (List Int)} (h : OwnR w base T I (.slice a n c) L) (hn : 0 < n) : ∃ g, a = some ⟨g, 0, none⟩ ∧ base ≤ g ∧ g < w.heap.size ∧ L.length ≤ c := by
  obtain ⟨vs, h1, h2, _⟩ := h
  rcases h1.2 with ⟨e, _⟩ | ⟨g, cap, cur, e, hb, hgr, hc, _⟩
  · simp only [Value.slice.injEq] at e; omega
  · simp only [Value.slice.injEq] at e
    obtain ⟨rfl, rfl, rfl⟩ := e
    exact ⟨g, rfl, hb, (Array.getElem?_eq_some_iff.1 hgr).1, by omega⟩
def preR (f : Nat → List Int) (k : Nat) : List (List Int) := (List.range k).map f
theorem preR_len (f : Nat → List Int) (k : Nat) : (preR f k).length = k := by unfold preR; rw [List.length_map, List.length_range]
theorem preR_succ (f : Nat → List Int) (k : Nat) : preR f (k + 1) = preR f k ++ [f k] := by unfold preR; rw [List.range_succ, List.map_append]; rfl
theorem preR_get (f : Nat → List Int) (k i : Nat) (h : i < k) : (preR f k)[i]? = some (f i) := by
  unfold preR
  rw [List.getElem?_map, List.getElem?_range h]
  rfl
end Go.Proofs.YtjgnjjphankhnabGreat

/- Chains by the given model: keys for once, their public half, signatures, what is found, over the loaded program. -/
namespace Go.Proofs.YtjgnjjphankhnabGreat
open Go.RowKit
def preS (f : Nat → ByteArray) (k : Nat) : List ByteArray := (List.range k).map f
theorem preS_len (f : Nat → ByteArray) (k : Nat) : (preS f k).length = k := by unfold preS; rw [List.length_map, List.length_range]
theorem preS_succ (f : Nat → ByteArray) (k : Nat) : preS f (k + 1) = preS f k ++ [f k] := by unfold preS; rw [List.range_succ, List.map_append]; rfl
theorem bAt_get (l : List ByteArray) (k : Nat) (h : k < l.length) : (l.map sv)[k]? = some (.string (bAt l k)) := by
  rw [sv_get l k h]
  unfold bAt
  rw [List.getD_eq_getElem?_getD, List.getElem?_eq_getElem h]
  rfl
theorem bAt_size (l : List ByteArray) (k n : Nat) (h : k < l.length) (hn : ∀ x ∈ l, x.size ≤ n) : (bAt l k).size ≤ n := by
  unfold bAt
  rw [List.getD_eq_getElem?_getD, List.getElem?_eq_getElem h]
  exact hn _ (List.getElem_mem h)
set_option maxRecDepth 20000 in
set_option maxHeartbeats 800000 in
theorem specOnceKeyL_any (s : ByteArray) (leaf : Int) (hs : s.size ≤ 2000000) (w : World) :
    Calls Tryz.prog 23 #[.string s, .int .i64 leaf] w fun e w' => (∃ v, e = .returned v ∧ OwnV w' w.heap.size 9 v ((keysO s leaf).map sv)) ∧ Below w.heap.size w w' := by
  obtain ⟨i0, hi, hz0, hz1, hz2⟩ := info_parts infoTxt
  have CB := hide (fun z W => specByteY_any z W)
  have CC := hide (fun (i : Nat) W => specChop_any (s ++ oneY leaf ++ oneY (i : Int) ++ ⟨#[111]⟩) (by rw [ByteArray.size_append, ByteArray.size_append, ByteArray.size_append, oneY_size, oneY_size]; show s.size + 1 + 1 + 1 ≤ _; omega) W)
  have HK := hide (show ∀ i : Nat, chopB (s ++ oneY leaf ++ oneY (i : Int) ++ ⟨#[111]⟩) = keyO s leaf i from fun i => rfl)
  have EK := hide (show keysO s leaf = preS (keyO s leaf) 10 from rfl)
  rw [unhide EK]
  generalize keyO s leaf = F at *
  clear EK
  go_enter Tryz.func23, Tryz.ntmps23
  have ho0 : OwnV (w.alloc (.cells #[] 9)) w.heap.size 9 (.slice (some ⟨w.heap.size, 0, none⟩) 0 0) ((preS F 0).map sv) := World.ownsRow_made w #[] 0 (Nat.le_refl _) (by decide) (by simp)
  replace ho0 := hide ho0
  have hb0 := (Below.refl w.heap.size w).alloc (Nat.le_refl _) (.cells #[] 9)
  go_wp2
  go_loopw [5, 6] (fun tv ti wr => ∃ k : Nat, k ≤ 10 ∧ ti = .int .i64 (k : Int) ∧ Hid (OwnV wr w.heap.size 9 tv ((preS F k).map sv)) ∧ Below w.heap.size w wr) (fun _ ti _ => 10 - (intOf ti).toNat)
  case atStart => exact ⟨0, by omega, rfl, ho0, hb0⟩
  case round =>
    clear ho0 hb0
    obtain ⟨k, hk, rfl, HO, hB⟩ := hrel
    by_cases hlt : k < 10
    · have hk' : (k : Int) < 10 := by omega
      have za := oneY_size leaf
      have zb := oneY_size (k : Int)
      have c1 := hide (unhide CB leaf)
      have c2 := hide (unhide CB (k : Int))
      have c3 := hide (unhide CC k)
      rw [unhide HK k] at c3
      have HP := hide (preS_succ F k)
      have hpl : ((preS F k).map sv).length ≤ 1000 := by rw [List.length_map, preS_len]; omega
      generalize oneY leaf = ya at *
      generalize oneY (k : Int) = yb at *
      generalize F k = fk at *
      have za' : ya.size ≤ 1 := by omega
      have zb' : yb.size ≤ 1 := by omega
      replace za := hide za; replace zb := hide zb; replace hpl := hide hpl
      clear CB CC
      go_wp2_with fail
      refine (unhide c1 wr).mono ?_
      rintro e w1 ⟨rfl, hb1⟩
      have hB1 := hB.trans (hb1.mono hB.size)
      have HO1 := hide ((unhide HO).below hb1)
      clear hb1 hB c1 HO
      go_wp2_with fail
      refine (unhide c2 w1).mono ?_
      rintro e w2 ⟨rfl, hb2⟩
      have hB2 := hB1.trans (hb2.mono hB1.size)
      have HO2 := hide ((unhide HO1).below hb2)
      clear hb2 hB1 c2 HO1
      go_wp2_with fail
      refine (unhide c3 w2).mono ?_
      rintro e w3 ⟨rfl, hb3⟩
      have hB3 := hB2.trans (hb3.mono hB2.size)
      have HO3 := hide ((unhide HO2).below hb3)
      have hsz3 := hB3.size
      clear hb3 hB2 c3 HO2
      go_wp2_with (at_builtin; refine wpList_append_val (w := w3) rfl (.tmp 12) (.tmp 22) 22 rfl w.heap.size 9 i0 (.string ⟨#[]⟩) 16 Tryz.underlying22 hi hz0 hz1 hz2 rfl u5 _ (by rfl) (unhide HO3) (.string fk) rfl (by rfl) (unhide hpl) (by decide) hB3 (Nat.le_refl _) hsz3 ?_; intro v' w8 ho8 hB8)
      have ho9 := hide (show OwnV w8 w.heap.size 9 v' ((preS F (k + 1)).map sv) by rw [unhide HP, List.map_append]; exact ho8)
      clear ho8 HO3 HP
      go_wp2
      exact ⟨⟨k + 1, by omega, by go_num, ho9, hB8⟩, by simp [intOf]; omega⟩
    · have hk' : ¬ (k : Int) < 10 := by omega
      obtain rfl : k = 10 := by omega
      go_wp2
      go_ret
      exact ⟨⟨_, rfl, unhide HO⟩, hB⟩
theorem specOnceKey_any (s : ByteArray) (leaf : Int) (hs : s.size ≤ 1048576) (w : World) :
    Calls Tryz.prog 23 #[.string s, .int .i64 leaf] w fun e w' => (∃ v, e = .returned v ∧ OwnV w' w.heap.size 9 v ((keysO s leaf).map sv)) ∧ Below w.heap.size w w' := specOnceKeyL_any s leaf (by omega) w
set_option maxRecDepth 20000 in
set_option maxHeartbeats 800000 in
theorem specOncePublic_any (l : List ByteArray) (leaf : Int) (v : Value) (w : World) (hr : RdV w v (l.map sv)) (hl : ∀ x ∈ l, x.size ≤ 1048576) :
    Calls Tryz.prog 35 #[v, .int .i64 leaf] w fun e w' => e = .returned (.string (onceP l leaf)) ∧ Below w.heap.size w w' := by
  obtain ⟨a, c, rfl, hc⟩ := hr.open
  rw [List.length_map]
  clear hr
  by_cases h10 : l.length = 10
  · have EP := hide (show onceP l leaf = chopB (catC (fun i => chnB (bAt l i) leaf (i : Int) 0 15) 10) by unfold onceP; rw [if_pos h10])
    rw [unhide EP]
    have CH := hide (fun (i : Nat) (hi : i < 10) W => specChain_any (bAt l i) leaf (i : Int) 0 15 (bAt_size l i _ (by omega) hl) W)
    rw [show stepsN 15 = 15 from rfl] at CH
    have h4 := hide (show ∀ i : Nat, (chnB (bAt l i) leaf (i : Int) 0 15).size ≤ 4 from fun i => Nat.le_of_eq (chopB_size _))
    obtain ⟨f, hf⟩ : ∃ f : Nat → ByteArray, f = fun i => chnB (bAt l i) leaf (i : Int) 0 15 := ⟨_, rfl⟩
    have CH2 := hide (show ∀ (i : Nat), i < 10 → ∀ W, Calls Tryz.prog 37 #[.string (bAt l i), .int .i64 leaf, .int .i64 (i : Int), .int .i64 0, .int .i64 15] W fun e w' => e = .returned (.string (f i)) ∧ Below W.heap.size W w' from fun i hi W => by rw [hf]; exact unhide CH i hi W)
    have h4' := hide (show ∀ i, (f i).size ≤ 4 from fun i => by rw [hf]; exact unhide h4 i)
    rw [← hf] at EP ⊢
    have hcl := hide (fun k => catC_le f 4 k (unhide h4'))
    have CC := hide (fun W => specChop_any (catC f 10) (by have := unhide hcl 10; omega) W)
    have Hs := hide (show ∀ k, catC f (k + 1) = catC f k ++ f k from fun k => rfl)
    have H0 := hide (show catC f 0 = ⟨#[]⟩ from rfl)
    generalize chopB (catC f 10) = R at *
    generalize catC f = cat at *
    rw [h10]
    replace h10 := hide h10; replace hf := hide hf
    clear CH h4 EP
    go_enter Tryz.func35, Tryz.ntmps35
    go_wp2
    go_loopw [5, 6] (fun tx ti wr => ∃ k : Nat, k ≤ 10 ∧ ti = .int .i64 (k : Int) ∧ tx = .string (cat k) ∧ Below w.heap.size w wr) (fun _ ti _ => 10 - (intOf ti).toNat)
    case atStart => exact ⟨0, by omega, rfl, by rw [unhide H0], Below.refl _ _⟩
    case round =>
      obtain ⟨k, hk, rfl, rfl, hB⟩ := hrel
      by_cases hlt : k < 10
      · have hk' : (k : Int) < 10 := by omega
        have hk0 : (0 : Int) ≤ (k : Int) := by omega
        obtain ⟨g, o, rfl, hg, d1⟩ := hc k _ (bAt_get l k (by rw [unhide h10]; exact hlt))
        have d2 := (hB.cell (p := ⟨g, o + k, none⟩) hg).trans d1
        have c1 := hide (unhide CH2 k hlt)
        have HC := hide (unhide Hs k)
        have z1 := unhide hcl k
        have z1' : (cat k).size ≤ 1000 := by omega
        have z2 := unhide h4' k
        generalize bAt l k = x at *
        generalize f k = y at *
        replace z1 := hide z1
        clear hc d1
        go_wp2_with fail
        refine (unhide c1 wr).mono ?_
        rintro e w1 ⟨rfl, hb1⟩
        have hB1 := hB.trans (hb1.mono hB.size)
        clear hb1 hB c1 d2
        go_wp2
        exact ⟨⟨k + 1, by omega, by go_num, by rw [unhide HC], hB1⟩, by simp [intOf]; omega⟩
      · have hk' : ¬ (k : Int) < 10 := by omega
        obtain rfl : k = 10 := by omega
        clear hc
        go_wp2_with fail
        refine (unhide CC wr).mono ?_
        rintro e w1 ⟨rfl, hb1⟩
        have hB1 := hB.trans (hb1.mono hB.size)
        clear hb1 hB CC
        go_wp2
        go_ret
        exact ⟨rfl, hB1⟩
  · have EP := hide (show onceP l leaf = ⟨#[]⟩ by unfold onceP; rw [if_neg h10])
    rw [unhide EP]
    have h10' : ¬ (l.length : Int) = 10 := by omega
    clear hc
    go_enter Tryz.func35, Tryz.ntmps35
    go_wp2
    go_ret
    exact ⟨rfl, Below.refl _ _⟩
end Go.Proofs.YtjgnjjphankhnabGreat

/- Chains by the given model: signatures for once, what is found, over the loaded program. -/
namespace Go.Proofs.YtjgnjjphankhnabGreat
open Go.RowKit
theorem step_append_u {P : Program} {w W : World} {ops : Array Oper} {o : Oper} {a : Act} {K : Act → World → Prop} {Q : Exit → Act → World → Prop} {E : Prop} {e : TypeId} {u : Value} (h1 : u.oneCell' = true) (hW : W = w.alloc (.cells #[u] e)) (hg : o.guard = none) (s y : Operand) (t : TypeId)
    (ho : o.op = .call { callee := .builtin .append, args := #[s, y], argTypes := #[t, t] })
    (base B : Nat) (i : TypeInfo) (z : Value) (nb : Nat) (ht : P.underlying t = some (.slice e)) (hi : P.info? e = some i) (hz : i.zero = some z) (hsize : i.size = 1) (hby : i.bytes = nb) (hzs : z.cells.size = 1)
    (v : Value) (xs : List Value) (hs : a.eval s = v) (hown : OwnV w base e v xs)
    (hx : a.eval y = .slice (some ⟨w.heap.size, 0, none⟩) 1 1)
    (h63 : xs.length + 1 ≤ maxLen) (hbytes : (xs.length + 1) * nb ≤ 140737488355328) (hB : B ≤ base) (hbase : base ≤ w.heap.size) {w00 : World} (hbel : Below B w00 w)
    (h : ∀ v' w', OwnV w' base e v' (xs ++ [u]) → Below B w00 w' → K (a.put o.dst v') w') :
    if Region.wanted o (yielded ops a.tmps) = true then Oper.wp P o a W K Q else E := by
  subst hW
  have hw : Region.wanted o (yielded ops a.tmps) = true := by simp [Region.wanted, hg]
  rw [if_pos hw]
  exact wp_append_vals s y t ho base B e i z nb ht hi hz hsize hby hzs v xs hs (hown.alloc _) w.heap.size #[u] (heap_alloc_new w _) [u] rfl (by intro y hy; simp only [List.mem_singleton] at hy; subst hy; exact h1) 1 1 rfl hx h63 hbytes hB (by simp; omega) (hbel.alloc (by omega) _) h
theorem step_append_gu {P : Program} {w W : World} {ops : Array Oper} {o : Oper} {a : Act} {K : Act → World → Prop} {Q : Exit → Act → World → Prop} {E : Prop} {e : TypeId} {u : Value} (h1 : u.oneCell' = true) (hW : W = w.alloc (.cells #[u] e)) (hg : o.guard = none) (s y : Operand) (t : TypeId)
    (ho : o.op = .call { callee := .builtin .append, args := #[s, y], argTypes := #[t, t] })
    (base : Nat) (i : TypeInfo) (z : Value) (nb : Nat) (ht : P.underlying t = some (.slice e)) (hi : P.info? e = some i) (hz : i.zero = some z) (hsize : i.size = 1) (hby : i.bytes = nb) (hzs : z.cells.size = 1)
    (v : Value) (xs : List Value) (hs : a.eval s = v) (hown : OwnV w base e v xs)
    (hx : a.eval y = .slice (some ⟨w.heap.size, 0, none⟩) 1 1)
    (h63 : xs.length + 1 ≤ maxLen) (hbytes : (xs.length + 1) * nb ≤ 140737488355328) (hbase : base ≤ w.heap.size)
    (h : ∀ v' w', OwnV w' base e v' (xs ++ [u]) → (w.alloc (.cells #[u] e)).grownBy w' v.ownBlock → K (a.put o.dst v') w') :
    if Region.wanted o (yielded ops a.tmps) = true then Oper.wp P o a W K Q else E := by
  subst hW
  have hw : Region.wanted o (yielded ops a.tmps) = true := by simp [Region.wanted, hg]
  rw [if_pos hw]
  refine wp_append_own (w.alloc (.cells #[u] e)) s y t ho base e i z 1 nb ht hi hz hsize hby hzs (by decide) v xs.length xs hs (hown.alloc _) ⟨w.heap.size, 0, none⟩ 1 1 [u] hx rfl (fun j q hq => ?_) (by intro q hq; simp only [List.mem_singleton] at hq; subst hq; exact h1) h63 hbytes (by simp; omega) ?_
  · have hadd : (⟨w.heap.size, 0, none⟩ : Addr).add j = ⟨w.heap.size, j, none⟩ := by unfold Addr.add; split <;> simp_all
    rw [hadd, cell_of_row _ w.heap.size j _ e (0, 0) (heap_alloc_new w _)]
    simpa using hq
  · intro v' w' h2 h3 _
    exact h v' w' (by unfold OwnV; simpa using h2) h3
theorem digL_get (m : ByteArray) (i : Nat) (h : i < 10) : ((digL m).map iv)[i]? = some (.int .i64 (dgAt m i : Int)) := by
  rw [List.getElem?_map, digL_at m i h]
  rfl
theorem steps_dg (m : ByteArray) (i : Nat) : stepsN (dgAt m i : Int) = dgAt m i ∧ stepsN ((15 - dgAt m i : Nat) : Int) = 15 - dgAt m i := by
  have h := dgAt_le m i
  unfold stepsN
  constructor
  · rw [if_pos (by omega), Int.toNat_natCast]
  · rw [if_pos (by omega), Int.toNat_natCast]
set_option maxRecDepth 20000 in
set_option maxHeartbeats 1000000 in
theorem specOnceSign_any (l : List ByteArray) (leaf : Int) (m : ByteArray) (v : Value) (w : World) (hr : RdV w v (l.map sv)) (hl : ∀ x ∈ l, x.size ≤ 1048576) (hm : m.size ≤ 1048576) :
    Calls Tryz.prog 22 #[v, .int .i64 leaf, .string m] w fun e w' => (∃ v', e = .returned v' ∧ OwnV w' w.heap.size 9 v' ((onceS l leaf m).map sv)) ∧ Below w.heap.size w w' := by
  obtain ⟨i0, hi, hz0, hz1, hz2⟩ := info_parts infoTxt
  obtain ⟨a, c, rfl, hc⟩ := hr.open
  rw [List.length_map]
  clear hr
  by_cases h10 : l.length = 10
  · have ES := hide (show onceS l leaf m = preS (fun i => chnB (bAt l i) leaf (i : Int) 0 (dgAt m i)) 10 by unfold onceS; rw [if_pos h10]; rfl)
    rw [unhide ES]
    have CH := hide (fun (i : Nat) (hi : i < 10) W => specChain_any (bAt l i) leaf (i : Int) 0 (dgAt m i : Int) (bAt_size l i _ (by omega) hl) W)
    obtain ⟨f, hf⟩ : ∃ f : Nat → ByteArray, f = fun i => chnB (bAt l i) leaf (i : Int) 0 (dgAt m i) := ⟨_, rfl⟩
    have CH2 := hide (show ∀ (i : Nat), i < 10 → ∀ W, Calls Tryz.prog 37 #[.string (bAt l i), .int .i64 leaf, .int .i64 (i : Int), .int .i64 0, .int .i64 (dgAt m i : Int)] W fun e w' => e = .returned (.string (f i)) ∧ Below W.heap.size W w' from fun i hi W => by rw [hf]; have h := unhide CH i hi W; rw [(steps_dg m i).1] at h; exact h)
    rw [← hf]
    have CD := hide (fun W => specDigits_any m (by omega) W)
    have DG := hide (fun k (h : k < 10) => digL_get m k h)
    have dl := digL_len m
    generalize digL m = D at *
    rw [h10]
    replace h10 := hide h10; replace hf := hide hf; replace dl := hide dl
    clear CH ES
    have hb0 := (Below.refl w.heap.size w).alloc (Nat.le_refl _) (.cells #[] 9)
    have ho0 : OwnV (w.alloc (.cells #[] 9)) w.heap.size 9 (.slice (some ⟨w.heap.size, 0, none⟩) 0 0) ((preS f 0).map sv) := World.ownsRow_made w #[] 0 (Nat.le_refl _) (by decide) (by simp)
    replace ho0 := hide ho0
    go_enter Tryz.func22, Tryz.ntmps22
    go_wp2_with fail
    generalize w.alloc (.cells #[] 9) = w0 at *
    refine (unhide CD w0).mono ?_
    rintro e w1 ⟨⟨vd, rfl, od⟩, hbd⟩
    have ho1 := hide ((unhide ho0).below hbd)
    have hB1 := hb0.trans (hbd.mono hb0.size)
    obtain ⟨ad, cd, rfl⟩ := od.shape
    have hdl : (D.map iv).length = 10 := by rw [List.length_map]; exact unhide dl
    rw [hdl] at od ⊢
    obtain ⟨gd, rfl, hgd1, hgd2⟩ : ∃ g, ad = some ⟨g, 0, none⟩ ∧ w0.heap.size ≤ g ∧ g < w1.heap.size := by
      rcases od.2 with ⟨h1, _⟩ | ⟨g, cap, cur, h1, hbb, hgr, _⟩
      · simp only [Value.slice.injEq] at h1; omega
      · simp only [Value.slice.injEq] at h1
        exact ⟨g, h1.1, hbb, (Array.getElem?_eq_some_iff.1 hgr).1⟩
    have KS := hide (fun (k : Nat) (hk : k < 10) (W : World) (h : Below w.heap.size w W) (hd : OwnV W w0.heap.size 3 (.slice (some ⟨gd, 0, none⟩) 10 cd) (D.map iv)) => (show ∃ g o, a = some ⟨g, o, none⟩ ∧ W.cell? ⟨g, o + k, none⟩ = some (.string (bAt l k)) ∧ W.cell? ⟨gd, k, none⟩ = some (.int .i64 (dgAt m k : Int)) from by
      obtain ⟨g, o, e1, e2, e3⟩ := hc k _ (bAt_get l k (by rw [unhide h10]; exact hk))
      exact ⟨g, o, e1, (h.cell (p := ⟨g, o + k, none⟩) e2).trans e3, hd.cell (unhide DG k hk)⟩))
    have HD := hide od
    clear od hbd ho0 hb0 CD hdl hc DG
    go_wp2
    go_loopw [7, 9] (fun tv ti wr => ∃ k : Nat, k ≤ 10 ∧ ti = .int .i64 (k : Int) ∧ Hid (OwnV wr w.heap.size 9 tv ((preS f k).map sv)) ∧ Hid (OwnV wr w0.heap.size 3 (.slice (some ⟨gd, 0, none⟩) 10 cd) (D.map iv)) ∧ Below w.heap.size w wr) (fun _ ti _ => 10 - (intOf ti).toNat)
    case atStart => exact ⟨0, by omega, rfl, ho1, HD, hB1⟩
    case round =>
      clear ho1 HD hB1
      obtain ⟨k, hk, rfl, HO, HD, hB⟩ := hrel
      have hsz := hB.size
      by_cases hlt : k < 10
      · have hk' : (k : Int) < 10 := by omega
        have hk0 : (0 : Int) ≤ (k : Int) := by omega
        obtain ⟨g, o, rfl, d1, d2⟩ := unhide KS k hlt wr hB (unhide HD)
        have KS2 := hide (fun (W : World) (h : Below w.heap.size w W) (hd : OwnV W w0.heap.size 3 (.slice (some ⟨gd, 0, none⟩) 10 cd) (D.map iv)) => (show W.cell? ⟨g, o + k, none⟩ = some (.string (bAt l k)) ∧ W.cell? ⟨gd, k, none⟩ = some (.int .i64 (dgAt m k : Int)) from by
          obtain ⟨g', o', e1, e2, e3⟩ := unhide KS k hlt W h hd
          cases e1
          exact ⟨e2, e3⟩))
        have c1 := hide (unhide CH2 k hlt)
        have HP := hide (preS_succ f k)
        have hl1 : ((preS f k).map sv).length + 1 ≤ maxLen := by rw [List.length_map, preS_len]; unfold maxLen; omega
        have hl2 : (((preS f k).map sv).length + 1) * 16 ≤ 140737488355328 := by rw [List.length_map, preS_len]; omega
        generalize bAt l k = x at *
        generalize (dgAt m k : Int) = dz at *
        generalize f k = y at *
        have hap := hide (fun (W : World) (q : OwnV W w.heap.size 9 u7 ((preS f k).map sv)) (hd : OwnV W w0.heap.size 3 (.slice (some ⟨gd, 0, none⟩) 10 cd) (D.map iv)) n hn => hd.apart q (by decide) n hn)
        replace hl1 := hide hl1; replace hl2 := hide hl2
        clear KS CH2
        go_wp2
        go_region_held3 (fun W => W.cell? ⟨g, o + k, none⟩ = some (.string x) ∧ W.cell? ⟨gd, k, none⟩ = some (.int .i64 dz)) (first | exact ⟨d1, d2⟩ | exact (unhide KS2) _ hB5 hD5 | exact (unhide KS2) _ hB4 hD4 | exact (unhide KS2) _ (hB4.alloc hB4.size _) (hD4.alloc _) | fail) (first
          | (refine step_append_gu (w := w4) (u := .string y) rfl rfl rfl (.tmp 21) (.tmp 33) 22 rfl w.heap.size i0 (.string ⟨#[]⟩) 16 Tryz.underlying22 hi hz0 hz1 hz2 rfl _ _ rfl (by exact hO4) rfl (unhide hl1) (unhide hl2) (by exact hB4.size) ?_; intro v' w5 hown5 hg5; have hD5 := (hD4.alloc _).grown hg5 (fun n hn => unhide hap _ hO4 hD4 n hn); have hB5 := (hB4.alloc hB4.size (.cells #[.string y] 9)).grown hg5 (by simp; have := hB4.size; omega) (fun n hn => (hO4.lt n hn).1))
          | (go_at_call 37; refine (unhide c1 _).mono ?_; rintro e w4 ⟨rfl, hb4⟩; have hO4 := OwnV.below (w := wr.drew) (unhide HO) hb4; have hD4 := OwnV.below (w := wr.drew) (unhide HD) hb4; have hB4 := (hB.drew).trans (hb4.mono hB.size)))
        all_goals
          have hown6 := hide (show OwnV w5 w.heap.size 9 v' ((preS f (k + 1)).map sv) by rw [unhide HP, List.map_append]; exact hown5)
          have hD6 := hide hD5
          clear hown5 hD5 hO4 hD4 hg5 d1 d2 KS2 HO HD hap
          go_wp2
          exact ⟨⟨k + 1, by omega, by go_num, hown6, hD6, hB5⟩, by simp [intOf]; omega⟩
      · have hk' : ¬ (k : Int) < 10 := by omega
        obtain rfl : k = 10 := by omega
        go_wp2
        go_ret
        exact ⟨⟨_, rfl, unhide HO⟩, hB⟩
  · have ES := hide (show onceS l leaf m = [] by unfold onceS; rw [if_neg h10])
    rw [unhide ES]
    have h10' : ¬ (l.length : Int) = 10 := by omega
    clear hc
    go_enter Tryz.func22, Tryz.ntmps22
    go_wp2
    go_ret
    exact ⟨⟨_, rfl, World.ownsRow_made w #[] 0 (Nat.le_refl _) (by decide) (by simp)⟩, (Below.refl _ _).alloc (Nat.le_refl _) _⟩
theorem chn_le (x : ByteArray) (leaf chain frm : Int) (k : Nat) : (chnB x leaf chain frm k).size ≤ 4 + x.size := by
  cases k with
  | zero => show x.size ≤ _; omega
  | succ k => show (chopB _).size ≤ _; rw [chopB_size]; omega
theorem catC_sum (l : List ByteArray) (f : Nat → ByteArray) (h : ∀ i, (f i).size ≤ 4 + (bAt l i).size) (k : Nat) (hk : k ≤ l.length) : (catC f k).size ≤ 4 * k + sumS (l.take k) := by
  induction k with
  | zero => exact Nat.zero_le _
  | succ k ih =>
    have h1 := ih (by omega)
    have h2 := h k
    have h3 := sumS_take l k (by omega)
    have h4 : bAt l k = l[k]'(by omega) := by
      unfold bAt
      rw [List.getD_eq_getElem?_getD, List.getElem?_eq_getElem (show k < l.length by omega)]
      rfl
    rw [h4] at h2
    show (catC f k ++ f k).size ≤ _
    rw [ByteArray.size_append]
    omega
theorem sumS_le (l : List ByteArray) (n : Nat) (h : sumS l ≤ n) : ∀ x ∈ l, x.size ≤ n := by
  intro x hx
  obtain ⟨k, hk, rfl⟩ := List.mem_iff_getElem.1 hx
  exact Nat.le_trans (sumS_at l k hk) h
end Go.Proofs.YtjgnjjphankhnabGreat

/- Digits by the project's own functions, over the loaded program. -/
namespace Go.Proofs.YtjgnjjphankhnabGreat
open Go.RowKit
/-- The first k of ten numbers f 0, f 1 .., the others 0. -/
def dgS (f : Nat → Int) (k : Nat) : List Int := (List.range 10).map (fun i => if i < k then f i else 0)
theorem dgS_len (f : Nat → Int) (k : Nat) : (dgS f k).length = 10 := by unfold dgS; rw [List.length_map, List.length_range]
theorem dgS_set (f : Nat → Int) (k : Nat) (hk : k < 10) : (dgS f k).set k (f k) = dgS f (k + 1) := by
  apply List.ext_getElem?
  intro i
  unfold dgS
  rw [List.getElem?_set]
  by_cases hi : i < 10
  · by_cases e : k = i
    · subst e
      rw [if_pos rfl, if_pos (by rw [List.length_map, List.length_range]; exact hk), List.getElem?_map, List.getElem?_range hk, Option.map_some, if_pos (by omega)]
    · rw [if_neg e, List.getElem?_map, List.getElem?_map, List.getElem?_range hi, Option.map_some, Option.map_some]
      by_cases h2 : i < k
      · rw [if_pos h2, if_pos (by omega)]
      · rw [if_neg h2, if_neg (by omega)]
  · rw [if_neg (by omega), List.getElem?_map, List.getElem?_map, List.getElem?_eq_none (by rw [List.length_range]; omega)]
    rfl
theorem dgS_at (f : Nat → Int) (k i : Nat) (hi : i < 10) : (dgS f k)[i]? = some (if i < k then f i else 0) := by
  unfold dgS
  rw [List.getElem?_map, List.getElem?_range hi]
  rfl
def dgF (m : ByteArray) (i : Nat) : Int := (dgAt m i : Int)
theorem dgS_all (m : ByteArray) : dgS (dgF m) 10 = digL m := by
  apply List.ext_getElem?
  intro i
  by_cases hi : i < 10
  · rw [dgS_at _ _ _ hi, digL_at m i hi, if_pos hi]; rfl
  · rw [List.getElem?_eq_none (by rw [dgS_len]; omega), List.getElem?_eq_none (by rw [digL_len]; omega)]
/-- A block that holds these ten numbers. -/
abbrev IA (w : World) (g : Nat) (T : TypeId) (l : List Int) : Prop := CB w g T (l.map iv).toArray
theorem ia_set {w : World} {g : Nat} {T : TypeId} {l : List Int} (h : IA w g T l) (k : Nat) (z : Int) : IA (w.setCell ⟨g, k, none⟩ (.int .i64 z)) g T (l.set k z) := by
  have h1 := CB.set h k (.int .i64 z)
  have e : ((l.map iv).toArray.setIfInBounds k (.int .i64 z)) = ((l.set k z).map iv).toArray := by
    rw [List.setIfInBounds_toArray, List.map_set]; rfl
  rw [e] at h1
  exact h1
theorem ia_cell {w : World} {g : Nat} {T : TypeId} {l : List Int} (h : IA w g T l) {k : Nat} {z : Int} (hk : l[k]? = some z) : w.cell? ⟨g, k, none⟩ = some (.int .i64 z) := by
  refine CB.cell h k ?_
  simp [hk, iv]
set_option maxRecDepth 20000 in
theorem halfBytes_any (n : Nat) (hn : n < 1000) (w : World) :
    Calls Tryz.prog 65 #[.int .i64 (n : Int)] w fun e w' => e = .returned (.tuple #[.int .i64 ((n / 16 : Nat) : Int), .int .i64 ((n % 16 : Nat) : Int)]) ∧ w' = w := by
  obtain ⟨x1, hx1⟩ : ∃ x : Nat, x = n / 16 := ⟨_, rfl⟩
  obtain ⟨x2, hx2⟩ : ∃ x : Nat, x = n % 16 := ⟨_, rfl⟩
  rw [← hx1, ← hx2]
  have q1 : (n : Int).tdiv 16 = (x1 : Int) := by rw [Int.tdiv_eq_ediv_of_nonneg (by omega)]; omega
  have q1' : (n : Int) / 16 = (x1 : Int) := by omega
  have q2 : (n : Int).tmod 16 = (x2 : Int) := by rw [Int.tmod_eq_emod_of_nonneg (by omega)]; omega
  have q2' : (n : Int) % 16 = (x2 : Int) := by omega
  have q3 : IntKind.i64.wrap (x1 : Int) = (x1 : Int) := by rw [IntKind.wrap_i64]; omega
  have q4 : IntKind.i64.wrap (x2 : Int) = (x2 : Int) := by rw [IntKind.wrap_i64]; omega
  replace hx1 := hide hx1; replace hx2 := hide hx2
  go_enter Tryz.func65, Tryz.ntmps65
  go_wp2
  exact bodyPost_ret (results_tmp2 (by exact Tryz.results65) _ _ _) rfl ⟨rfl, rfl⟩
theorem len10 : Tryz.prog.arrayLen 77 = 10 := by kernel_rfl
theorem idx10 (g k : Nat) (h : (k : Int) < 10) (W : World) : (Instr.indexAt 77 (.pointer (some ⟨g, 0, none⟩)) (.int .i64 (k : Int))).run Tryz.prog W = .ok (.pointer (some ⟨g, k, none⟩)) W := by
  have hu : Tryz.prog.underlying 77 = some (.array (Tryz.prog.arrayLen 77) (Tryz.prog.elem 77)) := by kernel_rfl
  have he : Tryz.prog.elem 77 = 3 := by kernel_rfl
  have h1 : (0 : Int) ≤ (k : Int) ∧ (k : Int) < ((Tryz.prog.arrayLen 77 : Nat) : Int) := by rw [len10]; exact ⟨by omega, by omega⟩
  rw [run_indexAt_array (P := Tryz.prog) (w := W) 77 ⟨g, 0, none⟩ .i64 (k : Int) hu, if_pos h1, he]
  simp [go_sem, Addr.add]
  intro h; exact h.symm
theorem info10 (l : List Int) (hl : l.length = 10) : (Tryz.prog.info? 77).map (·.size) = some (l.map iv).toArray.size := by
  have e : (l.map iv).toArray.size = 10 := by simp [hl]
  have h : (Tryz.prog.info? 77).map (·.size) = some 10 := by kernel_rfl
  rw [h, e]
theorem zer10 (f : Nat → Int) : (#[.int .i64 0, .int .i64 0, .int .i64 0, .int .i64 0, .int .i64 0, .int .i64 0, .int .i64 0, .int .i64 0, .int .i64 0, .int .i64 0] : Array Value) = ((dgS f 0).map iv).toArray := rfl
theorem iv_one (l : List Int) : (l.map iv).toArray.all (·.oneCell') = true := by
  rw [Array.all_eq_true_iff_forall_mem]
  intro v hv
  simp only [List.mem_toArray, List.mem_map] at hv
  obtain ⟨x, _, rfl⟩ := hv
  rfl
set_option maxRecDepth 20000 in
set_option maxHeartbeats 1000000 in
theorem digitsFor_any (m : ByteArray) (hm : m.size ≤ 4000000) (w : World) :
    Calls Tryz.prog 54 #[.string m] w fun e w' => e = .returned (.agg ((digL m).map iv).toArray) ∧ Below w.heap.size w w' := by
  have C := hide (fun W => implChop_any m hm W)
  have hs4 := chopB_size m
  have EA := hide (dgS_all m)
  have EF := hide (show ∀ k, k < 4 → dgF m (2 * k) = ((byA (chopB m) k / 16 : Nat) : Int) ∧ dgF m (2 * k + 1) = ((byA (chopB m) k % 16 : Nat) : Int) from fun k hk => by
    unfold dgF dgAt
    rw [if_pos (by omega), if_pos (by omega), (dgN_pair (chopB m) k).1, (dgN_pair (chopB m) k).2]
    exact ⟨rfl, rfl⟩)
  have E8 := hide (show dgF m 8 = ((lfN (chopB m) 4 / 16 : Nat) : Int) from rfl)
  have E9 := hide (show dgF m 9 = ((lfN (chopB m) 4 % 16 : Nat) : Int) from rfl)
  generalize chopB m = s at *
  generalize dgF m = f at *
  have hs4' : (s.size : Int) = 4 := by omega
  obtain ⟨W, hW, hR, hD, hb, hlt⟩ := two_cb w ((dgS f 0).map iv).toArray ((dgS f 0).map iv).toArray 77 77
  rw [← zer10 f] at hW
  replace hR := hide hR
  replace hD := hide hD
  go_enter Tryz.func54, Tryz.ntmps54
  go_wp2_with fail
  refine (unhide C W).mono ?_
  rintro e w1 ⟨rfl, hb1⟩
  have hR1 := hide ((unhide hR).below hb1 (by omega))
  have hD1 := hide ((unhide hD).below hb1 (by omega))
  have hB1 := hb.trans (hb1.mono hb.size)
  have hsz1 := hb1.size
  clear hR hD hb hb1 C hW
  go_wp2
  go_loopw [5, 11] (fun ts ti wr => ∃ (k : Nat) (q : Nat), k ≤ 4 ∧ ti = .int .i64 (k : Int) ∧ ts = .int .i64 (q : Int) ∧ Hid (q = lfN s k) ∧ Hid (IA wr (w.heap.size + 1) 77 (dgS f (2 * k))) ∧ Hid (IA wr w.heap.size 77 (dgS f 0)) ∧ Below w.heap.size w wr) (fun _ ti _ => 4 - (intOf ti).toNat)
  case atStart => exact ⟨0, 0, by omega, rfl, rfl, hide rfl, hD1, hR1, hB1⟩
  case round =>
    clear hR1 hD1 hB1
    obtain ⟨k, q, hk, rfl, rfl, hq, HD, HR, hB⟩ := hrel
    have hsz := hB.size
    by_cases hlt4 : k < 4
    · have hk' : (k : Int) < 4 := by omega
      have hk0 : (0 : Int) ≤ (k : Int) := by omega
      have hks : k < s.size := by omega
      have hby := byA_at s k hks
      have hbl := byA_lt s k
      have HL := hide (show lfN s (k + 1) = lfN s k + 30 - byA s k / 16 - byA s k % 16 from rfl)
      have hql := lfN_le s k
      rw [← unhide hq] at HL hql
      have HF := unhide EF k hlt4
      obtain ⟨b, hbb⟩ : ∃ b, b = byA s k := ⟨_, rfl⟩
      rw [← hbb] at hby hbl HL HF
      have CH := hide (fun W => halfBytes_any b (by omega) W)
      obtain ⟨x1, hx1⟩ : ∃ x : Nat, x = b / 16 := ⟨_, rfl⟩
      obtain ⟨x2, hx2⟩ : ∃ x : Nat, x = b % 16 := ⟨_, rfl⟩
      rw [← hx1, ← hx2] at HL HF CH
      have q5 : IntKind.i64.wrap (b : Int) = (b : Int) := by rw [IntKind.wrap_i64]; omega
      obtain ⟨i1, hi1⟩ : ∃ i : Nat, i = 2 * k := ⟨_, rfl⟩
      obtain ⟨i2, hi2⟩ : ∃ i : Nat, i = 2 * k + 1 := ⟨_, rfl⟩
      have q9 : IntKind.i64.wrap (2 * (k : Int)) = (i1 : Int) := by rw [IntKind.wrap_i64]; omega
      have q9' : IntKind.i64.wrap ((i1 : Int) + 1) = (i2 : Int) := by rw [IntKind.wrap_i64]; omega
      have I1 := idx10 (w.heap.size + 1) i1 (by omega)
      have I2 := idx10 (w.heap.size + 1) i2 (by omega)
      obtain ⟨y1, hy1⟩ : ∃ y : Nat, y + x1 = 15 := ⟨15 - x1, by omega⟩
      obtain ⟨y2, hy2⟩ : ∃ y : Nat, y = y1 + 15 := ⟨_, rfl⟩
      obtain ⟨y3, hy3⟩ : ∃ y : Nat, y + x2 = y2 := ⟨y2 - x2, by omega⟩
      obtain ⟨y4, hy4⟩ : ∃ y : Nat, y = q + y3 := ⟨_, rfl⟩
      have q6 : IntKind.i64.wrap (15 - (x1 : Int)) = (y1 : Int) := by rw [IntKind.wrap_i64]; omega
      have q7 : IntKind.i64.wrap ((y1 : Int) + 15) = (y2 : Int) := by rw [IntKind.wrap_i64]; omega
      have q8 : IntKind.i64.wrap ((y2 : Int) - (x2 : Int)) = (y3 : Int) := by rw [IntKind.wrap_i64]; omega
      have q10 : IntKind.i64.wrap ((q : Int) + (y3 : Int)) = (y4 : Int) := by rw [IntKind.wrap_i64]; omega
      have HQ := hide (show y4 = lfN s (k + 1) by have := unhide HL; omega)
      have hix : ∀ h : k < s.size, (s[k]'h).toNat = b := fun h => hby
      have HD' := unhide HD
      have g1 := ia_cell HD' (dgS_at f (2 * k) i1 (by omega))
      have f1 := HD'.frozen i1
      have D1 := ia_set HD' i1 (x1 : Int)
      rw [show (dgS f (2 * k)).set i1 (x1 : Int) = dgS f (2 * k + 1) by rw [hi1, ← HF.1]; exact dgS_set f (2 * k) (by omega)] at D1
      have g2 := ia_cell D1 (dgS_at f (2 * k + 1) i2 (by omega))
      have f2 := D1.frozen i2
      have D2 := ia_set D1 i2 (x2 : Int)
      rw [show (dgS f (2 * k + 1)).set i2 (x2 : Int) = dgS f (2 * (k + 1)) by rw [hi2, ← HF.2]; exact dgS_set f (2 * k + 1) (by omega)] at D2
      replace D2 := hide D2
      have HR2 := hide (((unhide HR).set_other (h := w.heap.size + 1) (k := i1) (by omega) (.int .i64 (x1 : Int))).set_other (h := w.heap.size + 1) (k := i2) (by omega) (.int .i64 (x2 : Int)))
      have hB2 := hide ((hB.setCell (p := ⟨w.heap.size + 1, i1, none⟩) (Nat.le_succ _) (.int .i64 (x1 : Int))).setCell (p := ⟨w.heap.size + 1, i2, none⟩) (Nat.le_succ _) (.int .i64 (x2 : Int)))
      replace hbb := hide hbb; replace hx1 := hide hx1; replace hx2 := hide hx2; replace hy1 := hide hy1; replace hy2 := hide hy2; replace hy3 := hide hy3; replace hy4 := hide hy4; replace HF := hide HF; replace hby := hide hby; replace hi1 := hide hi1; replace hi2 := hide hi2
      clear HL hql HD HD' HR hB D1 EA E8 E9 EF
      go_wp2_with (go_at_call 65; refine (unhide CH _).mono ?_; rintro e wz ⟨rfl, hwz⟩; subst hwz)
      exact ⟨⟨k + 1, y4, by omega, by go_num, by first | rfl | trivial, HQ, D2, HR2, unhide hB2⟩, by simp [intOf]; omega⟩
    · have hk' : ¬ (k : Int) < 4 := by omega
      obtain rfl : k = 4 := by omega
      have hql := lfN_le s 4
      rw [← unhide hq] at hql E8 E9
      have CH := hide (fun W => halfBytes_any q (by omega) W)
      obtain ⟨x1, hx1⟩ : ∃ x : Nat, x = q / 16 := ⟨_, rfl⟩
      obtain ⟨x2, hx2⟩ : ∃ x : Nat, x = q % 16 := ⟨_, rfl⟩
      rw [← hx1] at E8 CH
      rw [← hx2] at E9 CH
      have I1 := idx10 (w.heap.size + 1) 8 (by omega)
      have I2 := idx10 (w.heap.size + 1) 9 (by omega)
      have HD' := unhide HD
      have g1 := ia_cell HD' (dgS_at f (2 * 4) 8 (by omega))
      have f1 := HD'.frozen 8
      have D1 := ia_set HD' 8 (x1 : Int)
      rw [show (dgS f (2 * 4)).set 8 (x1 : Int) = dgS f 9 by rw [← unhide E8]; exact dgS_set f 8 (by omega)] at D1
      have g2 := ia_cell D1 (dgS_at f 9 9 (by omega))
      have f2 := D1.frozen 9
      have D2 := ia_set D1 9 (x2 : Int)
      rw [show (dgS f 9).set 9 (x2 : Int) = digL m by rw [← unhide EA, ← unhide E9]; exact dgS_set f 9 (by omega)] at D2
      replace D2 := hide D2
      have HR2 := hide (((unhide HR).set_other (h := w.heap.size + 1) (k := 8) (by omega) (.int .i64 (x1 : Int))).set_other (h := w.heap.size + 1) (k := 9) (by omega) (.int .i64 (x2 : Int)))
      have hB2 := hide ((hB.setCell (p := ⟨w.heap.size + 1, 8, none⟩) (Nat.le_succ _) (.int .i64 (x1 : Int))).setCell (p := ⟨w.heap.size + 1, 9, none⟩) (Nat.le_succ _) (.int .i64 (x2 : Int)))
      have hi := hide (info10 (digL m) (digL_len m))
      have hi0 := hide (info10 (dgS f 0) (dgS_len f 0))
      have hl10 := digL_len m
      replace hx1 := hide hx1; replace hx2 := hide hx2
      clear hql HD HD' HR hB D1 EA E8 E9 EF
      go_wp2_with (first
        | (go_at_call 65; refine (unhide CH _).mono ?_; rintro e wz ⟨rfl, hwz⟩; subst hwz)
        | (refine wpList_load_row rfl 77 _ rfl (w.heap.size + 1) rfl 77 _ (0, 0) _ (unhide D2) Tryz.underlying77 rfl (unhide hi) ?_)
        | (refine wpList_store_row rfl 77 _ _ rfl w.heap.size _ rfl rfl 77 _ (unhide HR2) (unhide hi) (by simp [dgS_len, hl10]) (iv_one _) ?_))
      have HR3 := setRow_heap _ w.heap.size _ ((digL m).map iv).toArray 77 (0, 0) (unhide HR2)
      have hB3 := Go.below_setRow (unhide hB2) (Nat.le_refl _) ((digL m).map iv).toArray
      exact bodyPost_ret (results_cell_row (by exact Tryz.results54) _ _ _ _ _ (0, 0) _ rfl HR3 Tryz.underlying77 rfl (unhide hi)) rfl ⟨rfl, hB3⟩
end Go.Proofs.YtjgnjjphankhnabGreat

/- Keys for once by the project's own functions: parts of chains, keys, signatures, what is found, over the loaded program. -/
namespace Go.Proofs.YtjgnjjphankhnabGreat
open Go.RowKit
def dgL (dg : Nat → Nat) : List Int := (List.range 10).map (fun i => (dg i : Int))
theorem dgL_len (dg : Nat → Nat) : (dgL dg).length = 10 := by unfold dgL; rw [List.length_map, List.length_range]
theorem dgL_at (dg : Nat → Nat) (i : Nat) (hi : i < 10) : (dgL dg)[i]? = some (dg i : Int) := by
  unfold dgL
  rw [List.getElem?_map, List.getElem?_range hi]
  rfl
theorem dgL_digL (m : ByteArray) : dgL (dgAt m) = digL m := by
  rw [← dgS_all]
  unfold dgL dgS dgF
  apply List.map_congr_left
  intro i hi
  rw [if_pos (List.mem_range.1 hi)]
theorem dgL_zero : (#[.int .i64 0, .int .i64 0, .int .i64 0, .int .i64 0, .int .i64 0, .int .i64 0, .int .i64 0, .int .i64 0, .int .i64 0, .int .i64 0] : Array Value) = ((dgL (fun _ => 0)).map iv).toArray := rfl
theorem ownV_of_full14 {w : World} {base g n : Nat} {e : TypeId} {xs : List Value} (hb : base ≤ g) (hm : n ≤ maxLen) (hl : xs.length = n) (h : w.heap[g]? = some (.cells xs.toArray e (0, 0))) : OwnV w base e (.slice (some ⟨g, 0, none⟩) n n) xs := by
  refine ⟨by rw [Nat.mul_one], .inr ⟨g, n, xs.toArray, by rw [hl], hb, h, by omega, hm, by simp [hl], ?_⟩⟩
  simp
theorem steps_le (n : Nat) (h : n ≤ 15) : stepsN (n : Int) = n := by unfold stepsN; rw [if_pos (by omega)]; omega
set_option maxRecDepth 20000 in
set_option maxHeartbeats 1000000 in
theorem gone_any (dg : Nat → Nat) (hdg : ∀ i, dg i ≤ 15) (k : Nat) (hk : k < 10) (w : World) :
    Calls Tryz.prog 55 #[.agg ((dgL dg).map iv).toArray, .int .i64 (k : Int)] w fun e w' => e = .returned (.tuple #[.int .i64 0, .int .i64 (dg k : Int)]) ∧ Below w.heap.size w w' := by
  obtain ⟨W, hW, hC, hb, hlt⟩ := one_cb w ((dgL dg).map iv).toArray 77
  have hd := hdg k
  have c0 : W.cell? ⟨w.heap.size, k, none⟩ = some (.int .i64 (dg k : Int)) := ia_cell hC (dgL_at dg k hk)
  have I1 := idx10 w.heap.size k (by omega)
  generalize dg k = d at *
  replace hC := hide hC
  clear hdg
  go_enter Tryz.func55, Tryz.ntmps55
  go_wp2
  go_quiet (fail)
  go_wp2
  exact bodyPost_ret (results_tmp2 (by exact Tryz.results55) _ _ _) rfl ⟨rfl, bDN hb _⟩
set_option maxRecDepth 20000 in
set_option maxHeartbeats 1000000 in
theorem ends_gone (dg : Nat → Nat) (hdg : ∀ i, dg i ≤ 15) (l : List ByteArray) (leaf : Int) (v : Value) (w : World) (hr : RdV w v (l.map sv)) (h10 : l.length = 10) (hl : ∀ x ∈ l, x.size ≤ 1048576) :
    Calls Tryz.prog 53 #[v, .int .i64 leaf, .func (Fn.func 55) #[.agg ((dgL dg).map iv).toArray] #[]] w fun e w' => (∃ a c, e = .returned (.slice a 10 c) ∧ OwnV w' w.heap.size 9 (.slice a 10 c) (((List.range 10).map (fun i => chnB (bAt l i) leaf (i : Int) 0 (dg i))).map sv)) ∧ Below w.heap.size w w' := by
  obtain ⟨i0, hi, hz0, hz1, hz2⟩ := info_parts infoTxt
  obtain ⟨a, c, rfl, hc⟩ := hr.open
  rw [List.length_map, h10]
  clear hr
  have CP := hide (fun (k : Nat) (hk : k < 10) W => gone_any dg hdg k hk W)
  have CH := hide (show ∀ (k : Nat), k < 10 → ∀ W, Calls Tryz.prog 63 #[.string (bAt l k), .int .i64 leaf, .int .i64 (k : Int), .int .i64 0, .int .i64 (dg k : Int)] W fun e w' => e = .returned (.string (chnB (bAt l k) leaf (k : Int) 0 (dg k))) ∧ Below W.heap.size W w' from fun k hk W => by
    have h := implChain_any (bAt l k) leaf (k : Int) 0 (dg k : Int) (bAt_size l k _ (by omega) hl) W
    rw [steps_le _ (by have := hdg k; omega)] at h
    exact h)
  obtain ⟨F, hF⟩ : ∃ F : Nat → ByteArray, F = fun i => chnB (bAt l i) leaf (i : Int) 0 (dg i) := ⟨_, rfl⟩
  have CH2 := hide (show ∀ (k : Nat), k < 10 → ∀ W, Calls Tryz.prog 63 #[.string (bAt l k), .int .i64 leaf, .int .i64 (k : Int), .int .i64 0, .int .i64 (dg k : Int)] W fun e w' => e = .returned (.string (F k)) ∧ Below W.heap.size W w' from fun k hk W => by rw [hF]; exact unhide CH k hk W)
  rw [← hF]
  obtain ⟨L, hL⟩ : ∃ L : List Value, L = ((List.range 10).map F).map sv := ⟨_, rfl⟩
  have hLl := hide (show L.length = 10 by rw [hL, List.length_map, List.length_map, List.length_range])
  have hLk := hide (show ∀ k, k < 10 → L[k]? = some (.string (F k)) from fun k hk => by rw [hL, List.getElem?_map, List.getElem?_map, List.getElem?_range hk]; rfl)
  rw [← hL]
  replace hF := hide hF
  replace hL := hide hL
  replace h10 := hide h10
  generalize ((dgL dg).map iv).toArray = A at *
  clear CH hl hdg
  go_enter Tryz.func53, Tryz.ntmps53
  go_wp2_with (at_make; refine wpList_make_full _ rfl _ _ 22 rfl w.heap.size 9 i0 (.string ⟨#[]⟩) 1 Tryz.underlying22 hi hz0 hz1 _ _ _ _ 10 rfl rfl rfl rfl (by rw [hz2]; omega) (by unfold maxLen; omega) (Nat.le_refl _) ?_; intro w1 hown1 hgrow1)
  have hr0 : OwnV w1 w.heap.size 9 (.slice (some ⟨w.heap.size, 0, none⟩) 10 10) (L.take 0 ++ List.replicate (10 - 0) (.string ⟨#[]⟩)) := by
    rw [madeT] at hown1
    unfold OwnV
    simpa using hown1
  have hb0 : Below w.heap.size w w1 := (Below.refl w.heap.size w).grown hgrow1 (Nat.le_refl _) (fun k hk => by cases hk)
  clear hown1 hgrow1
  go_loopw [15] (fun ti wr => ∃ k : Nat, k ≤ 10 ∧ ti = .int .i64 k ∧ Hid (OwnV wr w.heap.size 9 (.slice (some ⟨w.heap.size, 0, none⟩) 10 10) (L.take k ++ List.replicate (10 - k) (.string ⟨#[]⟩))) ∧ Below w.heap.size w wr ∧ w.heap.size < wr.heap.size) (fun ti _ => 10 - (intOf ti).toNat)
  case atStart => exact ⟨0, Nat.zero_le _, rfl, hide hr0, hb0, (hr0.lt _ rfl).2⟩
  case round =>
    obtain ⟨k, hk, rfl, HO, hb, hszz⟩ := hrel
    clear hr0 hb0
    by_cases hlt : k < 10
    · have hk' : (k : Int) < 10 := by omega
      have hk0 : (0 : Int) ≤ (k : Int) := by omega
      obtain ⟨g, o, rfl, hg, d1⟩ := hc k _ (bAt_get l k (by rw [unhide h10]; exact hlt))
      have d2 := (hb.cell (p := ⟨g, o + k, none⟩) hg).trans d1
      have c1 := hide (unhide CP k hlt)
      have c2 := hide (unhide CH2 k hlt)
      have HF := hide (fillV (z := .string ⟨#[]⟩) (unhide hLk k hlt) (unhide hLl))
      generalize bAt l k = x at *
      generalize F k = y at *
      generalize dg k = dd at *
      clear hc d1 CP CH2
      go_wp2_with (go_at_call 55; refine (unhide c1 _).mono ?_; rintro e w2 ⟨rfl, hb2⟩; have hB2 := hb.trans (hb2.mono hb.size); have HO2 := hide ((unhide HO).below hb2); have hs2 := Nat.lt_of_lt_of_le hszz hb2.size)
      go_wp2_with (go_at_call 63; refine (unhide c2 _).mono ?_; rintro e w3 ⟨rfl, hb3⟩; have hB3 := hB2.trans (hb3.mono hB2.size); have HO3 := (unhide HO2).below hb3; have hs3 := Nat.lt_of_lt_of_le hs2 hb3.size; obtain ⟨u, hu⟩ : ∃ u, (L.take k ++ List.replicate (10 - k) (.string ⟨#[]⟩))[k]? = some u := ⟨_, List.getElem?_eq_getElem (by have := HO3.len; omega)⟩; have cu := HO3.cell hu; have cz := HO3.frozen k; have ho2 := HO3.set k (.string y); rw [unhide HF] at ho2; replace ho2 := hide ho2; replace HO3 := hide HO3; clear hu)
      go_roundw
      case rel => exact ⟨k + 1, by omega, by go_num, ho2, hB3.setCell (p := ⟨w.heap.size, k, none⟩) (Nat.le_refl _) _, by simpa using hs3⟩
      case measure => simp [intOf]; omega
    · have hk' : ¬ (k : Int) < 10 := by omega
      obtain rfl : k = 10 := by omega
      have e2 : L.take 10 ++ List.replicate (10 - 10) (.string ⟨#[]⟩) = L := by
        rw [Nat.sub_self, List.take_of_length_le (by rw [unhide hLl]; exact Nat.le_refl _)]
        simp
      rw [e2] at HO
      clear hc
      go_wp2
      go_ret
      exact ⟨⟨_, _, rfl, unhide HO⟩, hb⟩
set_option maxRecDepth 20000 in
set_option maxHeartbeats 1000000 in
theorem left_any (dg : Nat → Nat) (hdg : ∀ i, dg i ≤ 15) (k : Nat) (hk : k < 10) (w : World) :
    Calls Tryz.prog 51 #[.agg ((dgL dg).map iv).toArray, .int .i64 (k : Int)] w fun e w' => e = .returned (.tuple #[.int .i64 (dg k : Int), .int .i64 ((15 - dg k : Nat) : Int)]) ∧ Below w.heap.size w w' := by
  obtain ⟨W, hW, hC, hb, hlt⟩ := one_cb w ((dgL dg).map iv).toArray 77
  have hd := hdg k
  have c0 : W.cell? ⟨w.heap.size, k, none⟩ = some (.int .i64 (dg k : Int)) := ia_cell hC (dgL_at dg k hk)
  have I1 := idx10 w.heap.size k (by omega)
  obtain ⟨s, hs⟩ : ∃ s : Nat, s = 15 - dg k := ⟨_, rfl⟩
  rw [← hs]
  have q1 : IntKind.i64.wrap (15 - (dg k : Int)) = (s : Int) := by rw [IntKind.wrap_i64]; omega
  replace hs := hide hs
  generalize dg k = d at *
  replace hC := hide hC
  clear hdg
  go_enter Tryz.func51, Tryz.ntmps51
  go_wp2
  go_quiet (fail)
  go_wp2
  exact bodyPost_ret (results_tmp2 (by exact Tryz.results51) _ _ _) rfl ⟨rfl, bDN hb _⟩
set_option maxRecDepth 20000 in
set_option maxHeartbeats 1000000 in
theorem ends_left (dg : Nat → Nat) (hdg : ∀ i, dg i ≤ 15) (l : List ByteArray) (leaf : Int) (v : Value) (w : World) (hr : RdV w v (l.map sv)) (h10 : l.length = 10) (hl : ∀ x ∈ l, x.size ≤ 1048576) :
    Calls Tryz.prog 53 #[v, .int .i64 leaf, .func (Fn.func 51) #[.agg ((dgL dg).map iv).toArray] #[]] w fun e w' => (∃ a c, e = .returned (.slice a 10 c) ∧ OwnV w' w.heap.size 9 (.slice a 10 c) (((List.range 10).map (fun i => chnB (bAt l i) leaf (i : Int) (dg i : Int) (15 - dg i))).map sv)) ∧ Below w.heap.size w w' := by
  obtain ⟨i0, hi, hz0, hz1, hz2⟩ := info_parts infoTxt
  obtain ⟨a, c, rfl, hc⟩ := hr.open
  rw [List.length_map, h10]
  clear hr
  have CP := hide (fun (k : Nat) (hk : k < 10) W => left_any dg hdg k hk W)
  have CH := hide (show ∀ (k : Nat), k < 10 → ∀ W, Calls Tryz.prog 63 #[.string (bAt l k), .int .i64 leaf, .int .i64 (k : Int), .int .i64 (dg k : Int), .int .i64 ((15 - dg k : Nat) : Int)] W fun e w' => e = .returned (.string (chnB (bAt l k) leaf (k : Int) (dg k : Int) (15 - dg k))) ∧ Below W.heap.size W w' from fun k hk W => by
    have h := implChain_any (bAt l k) leaf (k : Int) (dg k : Int) ((15 - dg k : Nat) : Int) (bAt_size l k _ (by omega) hl) W
    rw [steps_le _ (by have := hdg k; omega)] at h
    exact h)
  obtain ⟨F, hF⟩ : ∃ F : Nat → ByteArray, F = fun i => chnB (bAt l i) leaf (i : Int) (dg i : Int) (15 - dg i) := ⟨_, rfl⟩
  have CH2 := hide (show ∀ (k : Nat), k < 10 → ∀ W, Calls Tryz.prog 63 #[.string (bAt l k), .int .i64 leaf, .int .i64 (k : Int), .int .i64 (dg k : Int), .int .i64 ((15 - dg k : Nat) : Int)] W fun e w' => e = .returned (.string (F k)) ∧ Below W.heap.size W w' from fun k hk W => by rw [hF]; exact unhide CH k hk W)
  rw [← hF]
  obtain ⟨L, hL⟩ : ∃ L : List Value, L = ((List.range 10).map F).map sv := ⟨_, rfl⟩
  have hLl := hide (show L.length = 10 by rw [hL, List.length_map, List.length_map, List.length_range])
  have hLk := hide (show ∀ k, k < 10 → L[k]? = some (.string (F k)) from fun k hk => by rw [hL, List.getElem?_map, List.getElem?_map, List.getElem?_range hk]; rfl)
  rw [← hL]
  replace hF := hide hF
  replace hL := hide hL
  replace h10 := hide h10
  generalize ((dgL dg).map iv).toArray = A at *
  clear CH hl hdg
  go_enter Tryz.func53, Tryz.ntmps53
  go_wp2_with (at_make; refine wpList_make_full _ rfl _ _ 22 rfl w.heap.size 9 i0 (.string ⟨#[]⟩) 1 Tryz.underlying22 hi hz0 hz1 _ _ _ _ 10 rfl rfl rfl rfl (by rw [hz2]; omega) (by unfold maxLen; omega) (Nat.le_refl _) ?_; intro w1 hown1 hgrow1)
  have hr0 : OwnV w1 w.heap.size 9 (.slice (some ⟨w.heap.size, 0, none⟩) 10 10) (L.take 0 ++ List.replicate (10 - 0) (.string ⟨#[]⟩)) := by
    rw [madeT] at hown1
    unfold OwnV
    simpa using hown1
  have hb0 : Below w.heap.size w w1 := (Below.refl w.heap.size w).grown hgrow1 (Nat.le_refl _) (fun k hk => by cases hk)
  clear hown1 hgrow1
  go_loopw [15] (fun ti wr => ∃ k : Nat, k ≤ 10 ∧ ti = .int .i64 k ∧ Hid (OwnV wr w.heap.size 9 (.slice (some ⟨w.heap.size, 0, none⟩) 10 10) (L.take k ++ List.replicate (10 - k) (.string ⟨#[]⟩))) ∧ Below w.heap.size w wr ∧ w.heap.size < wr.heap.size) (fun ti _ => 10 - (intOf ti).toNat)
  case atStart => exact ⟨0, Nat.zero_le _, rfl, hide hr0, hb0, (hr0.lt _ rfl).2⟩
  case round =>
    obtain ⟨k, hk, rfl, HO, hb, hszz⟩ := hrel
    clear hr0 hb0
    by_cases hlt : k < 10
    · have hk' : (k : Int) < 10 := by omega
      have hk0 : (0 : Int) ≤ (k : Int) := by omega
      obtain ⟨g, o, rfl, hg, d1⟩ := hc k _ (bAt_get l k (by rw [unhide h10]; exact hlt))
      have d2 := (hb.cell (p := ⟨g, o + k, none⟩) hg).trans d1
      have c1 := hide (unhide CP k hlt)
      have c2 := hide (unhide CH2 k hlt)
      have HF := hide (fillV (z := .string ⟨#[]⟩) (unhide hLk k hlt) (unhide hLl))
      generalize bAt l k = x at *
      generalize F k = y at *
      generalize dg k = dd at *
      clear hc d1 CP CH2
      go_wp2_with (go_at_call 51; refine (unhide c1 _).mono ?_; rintro e w2 ⟨rfl, hb2⟩; have hB2 := hb.trans (hb2.mono hb.size); have HO2 := hide ((unhide HO).below hb2); have hs2 := Nat.lt_of_lt_of_le hszz hb2.size)
      go_wp2_with (go_at_call 63; refine (unhide c2 _).mono ?_; rintro e w3 ⟨rfl, hb3⟩; have hB3 := hB2.trans (hb3.mono hB2.size); have HO3 := (unhide HO2).below hb3; have hs3 := Nat.lt_of_lt_of_le hs2 hb3.size; obtain ⟨u, hu⟩ : ∃ u, (L.take k ++ List.replicate (10 - k) (.string ⟨#[]⟩))[k]? = some u := ⟨_, List.getElem?_eq_getElem (by have := HO3.len; omega)⟩; have cu := HO3.cell hu; have cz := HO3.frozen k; have ho2 := HO3.set k (.string y); rw [unhide HF] at ho2; replace ho2 := hide ho2; replace HO3 := hide HO3; clear hu)
      go_roundw
      case rel => exact ⟨k + 1, by omega, by go_num, ho2, hB3.setCell (p := ⟨w.heap.size, k, none⟩) (Nat.le_refl _) _, by simpa using hs3⟩
      case measure => simp [intOf]; omega
    · have hk' : ¬ (k : Int) < 10 := by omega
      obtain rfl : k = 10 := by omega
      have e2 : L.take 10 ++ List.replicate (10 - 10) (.string ⟨#[]⟩) = L := by
        rw [Nat.sub_self, List.take_of_length_le (by rw [unhide hLl]; exact Nat.le_refl _)]
        simp
      rw [e2] at HO
      clear hc
      go_wp2
      go_ret
      exact ⟨⟨_, _, rfl, unhide HO⟩, hb⟩
theorem catC_flat (F : Nat → ByteArray) (k : Nat) : (catC F k).data.toList = (((List.range k).map F).map (·.data.toList)).flatten := by
  induction k with
  | zero => rfl
  | succ k ih =>
    show (catC F k ++ F k).data.toList = _
    rw [ByteArray.data_append, Array.toList_append, ih, List.range_succ, List.map_append, List.map_append, List.flatten_append]
    simp
set_option maxRecDepth 20000 in
set_option maxHeartbeats 1000000 in
theorem chopEnds_left (dg : Nat → Nat) (hdg : ∀ i, dg i ≤ 15) (l : List ByteArray) (leaf : Int) (v : Value) (w : World) (hr : RdV w v (l.map sv)) (hl : sumS l ≤ 1048576) :
    Calls Tryz.prog 50 #[v, .int .i64 leaf, .func (Fn.func 51) #[.agg ((dgL dg).map iv).toArray] #[]] w fun e w' => e = .returned (.string (if l.length = 10 then chopB (catC (fun i => chnB (bAt l i) leaf (i : Int) (dg i : Int) (15 - dg i)) 10) else ⟨#[]⟩)) ∧ Below w.heap.size w w' := by
  by_cases h10 : l.length = 10
  · rw [if_pos h10]
    have CE := hide (ends_left dg hdg l leaf v w hr h10 (sumS_le l _ hl))
    obtain ⟨F, hF⟩ : ∃ F : Nat → ByteArray, F = fun i => chnB (bAt l i) leaf (i : Int) (dg i : Int) (15 - dg i) := ⟨_, rfl⟩
    have hz : (catC F 10).size ≤ 4000000 := by
      have h := catC_sum l F (fun i => by rw [hF]; exact chn_le _ _ _ _ _) 10 (by omega)
      rw [show l.take 10 = l from List.take_of_length_le (by omega)] at h
      omega
    rw [← hF] at CE ⊢
    have hfl := hide (catC_flat F 10)
    obtain ⟨T, hT⟩ : ∃ T, T = catC F 10 := ⟨_, rfl⟩
    rw [← hT] at hz hfl ⊢
    obtain ⟨xs, hxs⟩ : ∃ xs, xs = (List.range 10).map F := ⟨_, rfl⟩
    rw [← hxs] at CE hfl
    have hxl : xs.length = 10 := by rw [hxs, List.length_map, List.length_range]
    obtain ⟨a, c, rfl⟩ := hr.shape
    rw [List.length_map, h10] at CE ⊢
    generalize ((dgL dg).map iv).toArray = A at *
    obtain ⟨R, hR⟩ : ∃ R, R = chopB T := ⟨_, rfl⟩
    rw [← hR]
    replace hF := hide hF; replace hT := hide hT; replace hxs := hide hxs; replace h10 := hide h10
    clear hr
    go_enter Tryz.func50, Tryz.ntmps50
    go_wp2_with fail
    refine (unhide CE).mono ?_
    rintro e w1 ⟨⟨a1, c1, rfl, ho⟩, hb1⟩
    obtain ⟨g, rfl, _, hg⟩ := ho.some_at (by simp)
    have hcap : 10 ≤ c1 := by
      rcases ho.2 with ⟨h1, _⟩ | ⟨g', cap, cur, h1, _, _, h4, _⟩
      · cases h1
      · rw [List.length_map, hxl] at h1 h4
        injection h1 with _ _ h5
        omega
    have C2 := hide (chopParts_any g 0 c1 10 xs hxl T (unhide hfl) hz w1 (fun j x hx => by rw [Nat.zero_add]; exact ho.cell (by rw [List.getElem?_map, hx]; rfl)) hg hcap (by omega))
    rw [← hR] at C2
    replace hR := hide hR; replace ho := hide ho
    go_wp2_with fail
    refine (unhide C2).mono ?_
    rintro e w2 ⟨rfl, hb2⟩
    have hB := hb1.trans (hb2.mono hb1.size)
    clear hb1 hb2 C2 CE
    go_wp2
    go_ret
    exact ⟨rfl, hB⟩
  · rw [if_neg h10]
    obtain ⟨a, c, rfl⟩ := hr.shape
    rw [List.length_map]
    have h10' : ¬ (l.length : Int) = 10 := by omega
    generalize ((dgL dg).map iv).toArray = A at *
    clear hr
    go_enter Tryz.func50, Tryz.ntmps50
    go_wp2
    go_ret
    exact ⟨rfl, Below.refl _ _⟩
set_option maxRecDepth 20000 in
set_option maxHeartbeats 1000000 in
theorem implOncePublic_any (l : List ByteArray) (leaf : Int) (v : Value) (w : World) (hr : RdV w v (l.map sv)) (hl : sumS l ≤ 1048576) :
    Calls Tryz.prog 42 #[v, .int .i64 leaf] w fun e w' => e = .returned (.string (onceP l leaf)) ∧ Below w.heap.size w w' := by
  have C := hide (chopEnds_left (fun _ => 0) (fun _ => Nat.zero_le _) l leaf v w hr hl)
  rw [← dgL_zero] at C
  have E : onceP l leaf = (if l.length = 10 then chopB (catC (fun i => chnB (bAt l i) leaf (i : Int) (((fun _ => 0 : Nat → Nat) i : Nat) : Int) (15 - (fun _ => 0 : Nat → Nat) i)) 10) else ⟨#[]⟩) := rfl
  rw [E]
  generalize (if l.length = 10 then chopB (catC (fun i => chnB (bAt l i) leaf (i : Int) (((fun _ => 0 : Nat → Nat) i : Nat) : Int) (15 - (fun _ => 0 : Nat → Nat) i)) 10) else ⟨#[]⟩) = R at *
  obtain ⟨a, c, rfl⟩ := hr.shape
  rw [List.length_map] at C ⊢
  clear hr
  go_enter Tryz.func42, Tryz.ntmps42
  go_wp2_with fail
  refine (unhide C).mono ?_
  rintro e w1 ⟨rfl, hb1⟩
  go_wp2
  go_ret
  exact ⟨rfl, hb1⟩
set_option maxRecDepth 20000 in
set_option maxHeartbeats 1000000 in
theorem implOnceSign_any (l : List ByteArray) (leaf : Int) (m : ByteArray) (v : Value) (w : World) (hr : RdV w v (l.map sv)) (hl : sumS l ≤ 1048576) (hm : m.size ≤ 4000000) :
    Calls Tryz.prog 44 #[v, .int .i64 leaf, .string m] w fun e w' => (∃ v, e = .returned v ∧ OwnV w' w.heap.size 9 v ((onceS l leaf m).map sv)) ∧ Below w.heap.size w w' := by
  by_cases h10 : l.length = 10
  · have CD := hide (digitsFor_any m hm w)
    have C := hide (fun W (h : Below w.heap.size w W) => ends_gone (dgAt m) (dgAt_le m) l leaf v W (hr.below h) h10 (sumS_le l _ hl))
    rw [← dgL_digL] at CD
    have E : onceS l leaf m = (List.range 10).map (fun i => chnB (bAt l i) leaf (i : Int) 0 (dgAt m i)) := by unfold onceS; rw [if_pos h10]
    rw [E]
    generalize (List.range 10).map (fun i => chnB (bAt l i) leaf (i : Int) 0 (dgAt m i)) = R at *
    obtain ⟨a, c, rfl⟩ := hr.shape
    rw [List.length_map, h10] at C ⊢
    generalize ((dgL (dgAt m)).map iv).toArray = A at *
    clear hr E
    replace h10 := hide h10
    go_enter Tryz.func44, Tryz.ntmps44
    go_wp2_with fail
    refine (unhide CD).mono ?_
    rintro e w1 ⟨rfl, hb1⟩
    go_wp2_with fail
    refine (unhide C w1 hb1).mono ?_
    rintro e w2 ⟨⟨a1, c1, rfl, ho⟩, hb2⟩
    have hB := hb1.trans (hb2.mono hb1.size)
    have ho2 := hide (ho.low hb1.size)
    clear hb1 hb2 C CD ho
    go_wp2
    go_ret
    exact ⟨⟨_, rfl, unhide ho2⟩, hB⟩
  · have E : onceS l leaf m = [] := by unfold onceS; rw [if_neg h10]
    rw [E]
    obtain ⟨a, c, rfl⟩ := hr.shape
    rw [List.length_map]
    have h10' : ¬ (l.length : Int) = 10 := by omega
    clear hr
    go_enter Tryz.func44, Tryz.ntmps44
    go_wp2
    go_ret
    exact ⟨⟨_, rfl, ⟨rfl, .inl ⟨rfl, rfl⟩⟩⟩, Below.refl _ _⟩
set_option maxRecDepth 20000 in
set_option maxHeartbeats 1000000 in
theorem implOnceKey_any (s : ByteArray) (leaf : Int) (hs : s.size ≤ 2000000) (w : World) :
    Calls Tryz.prog 52 #[.string s, .int .i64 leaf] w fun e w' => (∃ v, e = .returned v ∧ OwnV w' w.heap.size 9 v ((keysO s leaf).map sv)) ∧ Below w.heap.size w w' := by
  obtain ⟨i0, hi, hz0, hz1, hz2⟩ := info_parts infoTxt
  have CY := hide (fun z W => implByteY_any z W)
  have CC := hide (fun (k : Nat) W => chop4_any s (oneY leaf) (oneY (k : Int)) ⟨#[111]⟩ hs (by rw [oneY_size]; omega) (by rw [oneY_size]; omega) (by show 1 ≤ _; omega) W)
  have HK := hide (show ∀ i : Nat, chopB (s ++ oneY leaf ++ oneY (i : Int) ++ ⟨#[111]⟩) = keyO s leaf i from fun i => rfl)
  have EK : keysO s leaf = (List.range 10).map (keyO s leaf) := rfl
  rw [EK]
  simp only [unhide HK] at CC
  generalize keyO s leaf = F at *
  obtain ⟨L, hL⟩ : ∃ L : List Value, L = ((List.range 10).map F).map sv := ⟨_, rfl⟩
  have hLl := hide (show L.length = 10 by rw [hL, List.length_map, List.length_map, List.length_range])
  have hLk := hide (show ∀ k, k < 10 → L[k]? = some (.string (F k)) from fun k hk => by rw [hL, List.getElem?_map, List.getElem?_map, List.getElem?_range hk]; rfl)
  rw [← hL]
  replace hL := hide hL
  clear HK EK
  go_enter Tryz.func52, Tryz.ntmps52
  go_wp2_with (at_make; refine wpList_make_full _ rfl _ _ 22 rfl w.heap.size 9 i0 (.string ⟨#[]⟩) 1 Tryz.underlying22 hi hz0 hz1 _ _ _ _ 10 rfl rfl rfl rfl (by rw [hz2]; omega) (by unfold maxLen; omega) (Nat.le_refl _) ?_; intro w1 hown1 hgrow1)
  have hr0 : OwnV w1 w.heap.size 9 (.slice (some ⟨w.heap.size, 0, none⟩) 10 10) (L.take 0 ++ List.replicate (10 - 0) (.string ⟨#[]⟩)) := by
    rw [madeT] at hown1
    unfold OwnV
    simpa using hown1
  have hb0 : Below w.heap.size w w1 := (Below.refl w.heap.size w).grown hgrow1 (Nat.le_refl _) (fun k hk => by cases hk)
  clear hown1 hgrow1
  go_loopw [10] (fun ti wr => ∃ k : Nat, k ≤ 10 ∧ ti = .int .i64 k ∧ Hid (OwnV wr w.heap.size 9 (.slice (some ⟨w.heap.size, 0, none⟩) 10 10) (L.take k ++ List.replicate (10 - k) (.string ⟨#[]⟩))) ∧ Below w.heap.size w wr ∧ w.heap.size < wr.heap.size) (fun ti _ => 10 - (intOf ti).toNat)
  case atStart => exact ⟨0, Nat.zero_le _, rfl, hide hr0, hb0, (hr0.lt _ rfl).2⟩
  case round =>
    obtain ⟨k, hk, rfl, HO, hb, hszz⟩ := hrel
    clear hr0 hb0
    by_cases hlt : k < 10
    · have hk' : (k : Int) < 10 := by omega
      have hk0 : (0 : Int) ≤ (k : Int) := by omega
      have c1 := hide (unhide CY leaf)
      have c2 := hide (unhide CY (k : Int))
      have c3 := hide (unhide CC k)
      have HF := hide (fillV (z := .string ⟨#[]⟩) (unhide hLk k hlt) (unhide hLl))
      generalize oneY leaf = ya at *
      generalize oneY (k : Int) = yb at *
      generalize F k = y at *
      clear CY CC
      go_wp2_with fail
      refine (unhide c1 wr).mono ?_
      rintro e w2 ⟨rfl, hb2⟩
      have hB2 := hb.trans (hb2.mono hb.size)
      have HO2 := hide ((unhide HO).below hb2)
      have hs2 := Nat.lt_of_lt_of_le hszz hb2.size
      clear hb2 hb HO hszz c1
      go_wp2_with fail
      refine (unhide c2 w2).mono ?_
      rintro e w3 ⟨rfl, hb3⟩
      have hB3 := hB2.trans (hb3.mono hB2.size)
      have HO3 := hide ((unhide HO2).below hb3)
      have hs3 := Nat.lt_of_lt_of_le hs2 hb3.size
      clear hb3 hB2 HO2 hs2 c2
      go_wp2_with fail
      refine (unhide c3 w3).mono ?_
      rintro e w4 ⟨rfl, hb4⟩
      have hB4 := hB3.trans (hb4.mono hB3.size)
      have HO4 := (unhide HO3).below hb4
      have hs4 := Nat.lt_of_lt_of_le hs3 hb4.size
      obtain ⟨u, hu⟩ : ∃ u, (L.take k ++ List.replicate (10 - k) (.string ⟨#[]⟩))[k]? = some u := ⟨_, List.getElem?_eq_getElem (by have := HO4.len; omega)⟩
      have cu := HO4.cell hu
      have cz := HO4.frozen k
      have ho2 := HO4.set k (.string y)
      rw [unhide HF] at ho2
      replace ho2 := hide ho2; replace HO4 := hide HO4
      clear hu hb4 hB3 HO3 hs3 c3
      go_wp2
      go_roundw
      case rel => exact ⟨k + 1, by omega, by go_num, ho2, hB4.setCell (p := ⟨w.heap.size, k, none⟩) (Nat.le_refl _) _, by simpa using hs4⟩
      case measure => simp [intOf]; omega
    · have hk' : ¬ (k : Int) < 10 := by omega
      obtain rfl : k = 10 := by omega
      have e2 : L.take 10 ++ List.replicate (10 - 10) (.string ⟨#[]⟩) = L := by
        rw [Nat.sub_self, List.take_of_length_le (by rw [unhide hLl]; exact Nat.le_refl _)]
        simp
      rw [e2] at HO
      go_wp2
      go_ret
      exact ⟨⟨_, rfl, unhide HO⟩, hb⟩
end Go.Proofs.YtjgnjjphankhnabGreat

