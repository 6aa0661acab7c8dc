/- What impl.Unframe comes to: the records of the frames that a file begins with, and the place behind the last. -/
import Derived.Test.YtkbbcjnickgfjaaDoorUnfI
import Derived.Test.YtkbbcjnickgfjaaDoorStrs
namespace Go.Proofs.YtkbbcjnickgfjaaDoor
open Go.RowKit Go.Shelf
attribute [local go_sem] Oper.semAt_some

theorem infoStr : (Tryd.prog.info? 9).map (fun i => (i.zero, i.size, i.bytes)) = some (some (.string ⟨#[]⟩), 1, 16) := by kernel_rfl

set_option maxHeartbeats 400000 in
theorem clone_any (s : ByteArray) (w : World) (hs : s.size ≤ 281474976710656) :
    Calls Tryd.prog 25 #[.string s] w fun e w' => e = .returned (.string s) ∧ Below w.heap.size w w' := by
  have C := hide (Tryd.stringslite_Clone s w hs)
  clear hs
  go_enter Tryd.func25, Tryd.ntmps25
  go_wp2_with (go_at_call 31; refine (unhide C).mono ?_; rintro e w1 ⟨rfl, hb⟩)
  go_ret
  exact ⟨rfl, hb⟩

set_option maxHeartbeats 1000000 in
theorem framesOf_in (m : Nat) (s : ByteArray) (w : World) :
    CallsIn Fence.wide m Tryd.prog 24 #[.string s] w fun e w' => e = .returned (.func (.func 29) #[] #[.pointer (some ⟨w.heap.size, 0, none⟩)]) ∧ w' = w.alloc (.cells #[.string s] 9) := by
  refine callsIn_of_wp Tryd.func24 rfl trivial ?_ rfl
  simp only [Tryd.ntmps24, List.size_toArray, List.length_cons, List.length_nil, Nat.reduceAdd, Nat.reduceSub, Array.replicate_succ, Array.replicate_zero, List.push_toArray, List.append_toArray, List.nil_append, List.cons_append]
  gi_wp2
  go_ret
  exact ⟨rfl, rfl⟩

theorem frames_stops (m Bn n₀ : Nat) (hm : 1 ≤ m) (s : ByteArray) (xs : List Rec) (hxs : xs.map Subtype.val = unfL s) (w : World)
    (hBn : w.heap[Bn]? = some (.cells #[.string s] 9 (0, 0))) (hn₀ : n₀ ≤ w.heap.size) (htab : ∀ W, Below n₀ w W → Laid W) :
    SeqStopsK Fence.wide m Tryd.prog 29 #[.pointer (some ⟨Bn, 0, none⟩)] recs (KpU n₀ Bn) (fun ys => ys = xs) (fun pre => pre <+: xs) xs.length w := fun l J Jx W hW hJ _ hY h0 =>
  framesOf1_in m l Bn n₀ hm s xs hxs J Jx W hJ hY ((hW.block Bn (Array.getElem?_eq_some_iff.1 hBn).1).trans hBn) (Nat.le_trans hn₀ hW.size) (fun W' h => htab W' ((hW.mono hn₀).trans h)) h0

theorem frs_mem {s : ByteArray} : ∀ (f p : Nat), p ≤ s.size → s.size - p ≤ f → ∀ x ∈ frs s p, x.1.size ≤ s.size ∧ x.2 ≤ s.size := by
  intro f
  induction f with
  | zero => intro p hp hf x hx; rw [frs_none (frAt_end (by omega))] at hx; cases hx
  | succ f ih =>
    intro p hp hf x hx
    cases h : frAt s p with
    | none => rw [frs_none h] at hx; cases hx
    | some r =>
      obtain ⟨b, e⟩ := r
      obtain ⟨h1, h2, h3, h4, h5⟩ := frAt_some hp h
      rw [frs_some hp h] at hx
      rcases List.mem_cons.1 hx with rfl | hx
      · exact ⟨by simp only [ByteArray.size_extract]; omega, h3⟩
      · exact ih e h3 (by omega) x hx

theorem recs_of (s : ByteArray) : ∃ xs : List Rec, xs.map Subtype.val = unfL s := by
  unfold unfL
  by_cases hs : s.size ≤ 20000
  case neg => exact ⟨[], by rw [if_neg hs]; rfl⟩
  rw [if_pos hs]
  have key : ∀ l : List (ByteArray × Nat), (∀ x ∈ l, x.1.size ≤ 20000 ∧ x.2 ≤ 20000) → ∃ xs : List Rec, xs.map Subtype.val = l := by
    intro l
    induction l with
    | nil => intro _; exact ⟨[], rfl⟩
    | cons y t ih =>
      intro h
      obtain ⟨xs, hx⟩ := ih (fun x hx => h x (List.mem_cons_of_mem _ hx))
      exact ⟨⟨y, h y (List.mem_cons_self ..)⟩ :: xs, by simp [hx]⟩
  refine key _ (fun x hx => ?_)
  have := frs_mem (s := s) s.size 0 (Nat.zero_le _) (by omega) x hx
  omega

/-- What the answer's list holds. -/
def recV (x : ByteArray × Nat) : Value := .string x.1
def recR (x : Rec) : Value := .string x.1.1
theorem recR_map (xs : List Rec) : xs.map recR = (xs.map Subtype.val).map recV := by
  rw [List.map_map]; rfl

theorem boxed_of {β : Type} {B0 B : Nat} {t : TypeId} (f : β → Value) : OwnFrom B0 (fun (s : β) W => Boxed W B t (f s)) := by
  intro s A C row hs hg hr
  refine Boxed.kept hs hg (fun e' => ?_)
  obtain ⟨o, ho, hc⟩ := (hr B e'.symm).2
  rw [show A.heap[B]? = _ from hs] at ho
  cases ho
  cases hc

theorem stepIn_append {F : Fence} {n : Nat} {P : Program} (w : World) {ops : Array Oper} {o : Oper} {a : Act} {K : Act → World → Prop} {Q : Exit → Act → World → Prop} {E : Prop}
    (hg : o.guard = none) (s x : Operand) (t : TypeId) (hop : o.op = Op.call { callee := Callee.builtin Builtin.append, args := #[s, x], argTypes := #[t, t] })
    (base : Nat) (e : TypeId) (i : TypeInfo) (z : Value) (size bytes : Nat) (h1 : P.underlying t = some (.slice e)) (h2 : P.info? e = some i) (h3 : i.zero = some z) (h4 : i.size = size) (h5 : i.bytes = bytes) (h6 : z.cells.size = size) (h7 : 0 < size)
    (v : Value) (k : Nat) (xs : List Value) (hs : a.eval s = v) (hown : w.ownsRow base e size v k xs) (ad : Addr) (m c : Nat) (news : List Value) (hx : a.eval x = .slice (some ad) m c) (hn : news.length = m * size)
    (hc : ∀ j u, news[j]? = some u → w.cell? (ad.add j) = some u) (h1c : ∀ u ∈ news, u.oneCell' = true) (b1 : k + m ≤ maxLen) (b2 : (k + m) * bytes ≤ 140737488355328) (b3 : base ≤ w.heap.size)
    (hK : ∀ v' w', w'.ownsRow base e size v' (k + m) (xs ++ news) → w.grownBy w' v.ownBlock → K (a.put o.dst v') w') :
    if Region.wanted o (yielded ops a.tmps) = true then Oper.wpIn F n P o a w K Q else E := by
  have hw : Region.wanted o (yielded ops a.tmps) = true := by simp [Region.wanted, hg]
  rw [if_pos hw]
  obtain ⟨v', w', hrun, r1, r2, r3⟩ := run_append_own (P := P) w base t o.type e i z size bytes h1 h2 h3 h4 h5 h6 h7 v k xs hown ad m c news hn hc h1c b1 b2 b3
  unfold Oper.wpIn
  refine ⟨?_, ?_⟩
  · simp [Oper.about, hop, resolve, Target.leads, Sem.run_pure]
  · rw [Oper.semAt_plain F _ _ (by rw [hop]; intro c hc'; cases hc')]
    simp [execOp, hop, resolve, invoke, builtin, hs, hx, hrun, Result.andThen]
    exact hK _ _ r1 r2

theorem round_end {n k : Nat} {T S I : TypeId} {W w1 w2 : World} {v v' i j : Value} {xs ys : List Value} {o : Obj} (hv : Boxed W n T v) (hrow : OwnV W (n + 3) S v xs) (hbe : Boxed W (n + 1) I i) (hTS : T ≠ S) (hIS : I ≠ S) (hn : n + 3 ≤ W.heap.size)
    (hb1 : Below W.heap.size W w1) (hown' : w2.ownsRow (n + 3) S 1 v' k ys) (hgrow : (w1.alloc o).grownBy w2 v.ownBlock) :
    Boxed w2 n T v ∧ Boxed (w2.setCell ⟨n, 0, none⟩ v') (n + 1) I i ∧ Boxed ((w2.setCell ⟨n, 0, none⟩ v').setCell ⟨n + 1, 0, none⟩ j) n T v' ∧ Boxed ((w2.setCell ⟨n, 0, none⟩ v').setCell ⟨n + 1, 0, none⟩ j) (n + 1) I j ∧
      ((w2.setCell ⟨n, 0, none⟩ v').setCell ⟨n + 1, 0, none⟩ j).ownsRow (n + 3) S 1 v' k ys ∧ KeepsOthers W ((w2.setCell ⟨n, 0, none⟩ v').setCell ⟨n + 1, 0, none⟩ j) ∧ KpU n (n + 1 + 1) W ((w2.setCell ⟨n, 0, none⟩ v').setCell ⟨n + 1, 0, none⟩ j) ∧ W.heap.size ≤ ((w2.setCell ⟨n, 0, none⟩ v').setCell ⟨n + 1, 0, none⟩ j).heap.size := by
  have g1 := grown_of_below hb1
  have hv1 := hv.kept g1 (by simp)
  have hbe1 := hbe.kept g1 (by simp)
  have hrow1 := OwnV.below hrow hb1
  have hs1 := hb1.size
  have hv2 : Boxed w2 n T v := (hv1.alloc o).kept hgrow (hv1.not_row hTS hrow1)
  have hbe2 : Boxed w2 (n + 1) I i := (hbe1.alloc o).kept hgrow (hbe1.not_row hIS hrow1)
  have hv3 := hv2.set v'
  have hbe3 : Boxed (w2.setCell ⟨n, 0, none⟩ v') (n + 1) I i := hbe2.kept (grownBy_setCell' w2 n v') (by simp)
  have hv4 : Boxed ((w2.setCell ⟨n, 0, none⟩ v').setCell ⟨n + 1, 0, none⟩ j) n T v' := hv3.kept (grownBy_setCell' _ (n + 1) j) (by simp)
  have hbe4 := hbe3.set j
  have o3 := hown'.kept (grownBy_setCell' w2 n v') (.inr (hv2.not_row hTS hown').symm)
  have o4 := o3.kept (grownBy_setCell' _ (n + 1) j) (.inr (hbe3.not_row hIS o3).symm)
  have hsz : w1.heap.size + 1 ≤ w2.heap.size := by have := hgrow.size; simpa using this
  refine ⟨hv2, hbe3, hv4, hbe4, o4, ?_, ⟨?_, ?_⟩, ?_⟩
  · refine ((((KeepsOthers.of_grownBy g1 fun j o ej hj => by cases ej).trans (KeepsOthers.alloc w1 o)).trans (KeepsOthers.of_grownBy hgrow fun j o ej hj => ?_)).trans (KeepsOthers.setCell _ _ _)).trans (KeepsOthers.setCell _ _ _)
    rcases (OwnV.alloc hrow1 _).2 with ⟨rfl, _⟩ | ⟨g, cap, cur, rfl, _, hgb, _⟩
    · simp [Value.ownBlock] at ej
    · obtain rfl : g = j := by simpa [Value.ownBlock] using ej
      rw [hgb] at hj; cases hj; rfl
  · have hA : Below n W w1 := hb1.mono (by omega)
    have hA2 : Below n W (w1.alloc o) := hA.alloc (by omega) o
    refine ((hA2.grown hgrow (by simp; omega) fun j ej => ?_).setCell (p := ⟨n, 0, none⟩) (Nat.le_refl _) v').setCell (p := ⟨n + 1, 0, none⟩) (by show n ≤ n + 1; omega) j
    have := OwnV.lt hrow1 j ej
    omega
  · rw [Below.heap_setCell _ _ _ _ (by show n + 1 + 1 ≠ n + 1; omega), Below.heap_setCell _ _ _ _ (by show n + 1 + 1 ≠ n; omega)]
    rw [hgrow.block (n + 1 + 1) (by simp; omega) (fun e => by have := OwnV.lt hrow1 (n + 1 + 1) e.symm; omega)]
    rw [Below.heap_alloc _ _ _ (by omega)]
    exact hb1.block _ (by omega)
  · have : ∀ (X : World) (a : Addr) (u : Value), (X.setCell a u).heap.size = X.heap.size := fun X a u => by simp [World.setCell]
    rw [this, this]
    omega

theorem three_boxes (w : World) (A B C : TypeId) (a b c : Value) : ∃ W, ((w.alloc (.cells #[a] A)).alloc (.cells #[b] B)).alloc (.cells #[c] C) = W ∧
    Boxed W w.heap.size A a ∧ Boxed W (w.heap.size + 1) B b ∧ Boxed W (w.heap.size + 1 + 1) C c ∧ Below w.heap.size w W ∧ W.heap.size = w.heap.size + 3 := by
  have h1 := Boxed.new w A a
  have h2 := Boxed.new (w.alloc (.cells #[a] A)) B b
  have h3 := Boxed.new ((w.alloc (.cells #[a] A)).alloc (.cells #[b] B)) C c
  simp only [World.size_alloc] at h2 h3
  exact ⟨_, rfl, (h1.alloc _).alloc _, h2.alloc _, h3, (((Below.refl _ w).alloc (Nat.le_refl _) _).alloc (by simp) _).alloc (by simp; omega) _, by simp⟩

set_option maxRecDepth 100000 in
set_option maxHeartbeats 2000000 in
theorem implUnframe_any (s : ByteArray) (w : World) (hlaid : Laid w) :
    Calls Tryd.prog 9 #[.string s] w fun e w' => ∃ v, e = .returned (.tuple #[v, .int .i64 (lastEnd 0 (unfL s) : Int)]) ∧ OwnV w' w.heap.size 9 v ((unfL s).map recV) ∧ Below w.heap.size w w' := by
  have HL := hide hlaid
  clear hlaid
  obtain ⟨xs, hxs⟩ := recs_of s
  have hlen : xs.length ≤ 20000 := by
    have h1 := congrArg List.length hxs
    have h2 : (unfL s).length ≤ 20000 := by
      unfold unfL
      by_cases hs : s.size ≤ 20000
      · rw [if_pos hs]
        have := frs_len s s.size 0 (Nat.zero_le _) (by omega)
        omega
      · rw [if_neg hs]; exact Nat.zero_le _
    rw [List.length_map] at h1
    omega
  rw [← hxs]
  obtain ⟨i0, hi, hz0, hz1, hz2⟩ := info_parts infoStr
  refine (callsIn_wide (n := 3)).1 ?_
  refine callsIn_of_wp_marks Tryd.func9 rfl trivial ?_ rfl
  simp only [Tryd.ntmps9, List.size_toArray, List.length_cons, List.length_nil, Nat.reduceAdd, Nat.reduceSub, Array.replicate_succ, Array.replicate_zero, List.push_toArray, List.append_toArray, List.nil_append, List.cons_append]
  gi_wp2_with (refine ⟨trivial, ?_⟩; gi_at_call 24; refine (framesOf_in _ s _).mono ?_; rintro e w' ⟨rfl, rfl⟩)
  obtain ⟨W0, e0, b0, b1, b2, hB0, hsz⟩ := three_boxes w 27 3 9 (.slice none 0 0) (.int .i64 0) (.string s)
  rw [e0]
  clear e0
  refine wpIn_rangeFunc_ownG rfl (by omega) (gf := 29) (lb := #[.pointer (some ⟨w.heap.size + 1 + 1, 0, none⟩)]) rfl trivial (enters_of Tryd.func29 (by kernel_rfl) rfl)
    (frames_stops _ (w.heap.size + 1 + 1) w.heap.size (by omega) s xs hxs W0 b2 (by omega) (fun W h => (unhide HL).below (hB0.trans h))) KpU.t
    (fun W l o o' hl h1 h2 h3 => ⟨belowK_b (w := W0) (by omega) W l o o' hl h1 h2 h3, World.putObj_heap_other (by omega)⟩) (Below.refl _ _) (fun _ => rfl)
    (fun (pre : List Rec) W => (∃ v, Boxed W w.heap.size 27 v ∧ W.ownsRow (w.heap.size + 3) 9 1 v (pre.map recR).length (pre.map recR) ∧ True) ∧ Boxed W (w.heap.size + 1) 3 (.int .i64 (lastEnd 0 (pre.map Subtype.val) : Int)) ∧ Below w.heap.size w W ∧ W0.heap.size ≤ W.heap.size)
    (fun _ _ _ => False)
    (OwnFrom.and (Own.from (holdsRow_own (w.heap.size + 3) w.heap.size 27 9 1 (fun pre : List Rec => (pre.map recR).length) (fun pre : List Rec => pre.map recR) (fun _ _ => True)) _) (OwnFrom.and (boxed_of _) (OwnFrom.and (ownFrom_below (Nat.le_refl _) (by omega)) (fun _ A C row hs hg hr => Nat.le_trans hs hg.size))))
    (fun _ _ _ _ _ hs _ _ => hs)
    ⟨⟨_, b0, World.ownsRow_nil _ _ _ _, trivial⟩, b1, hB0, Nat.le_refl _⟩
    (fun x => { tmps := #[.string s, undef, .slice none 0 0, .int .i64 0, .pointer (some ⟨w.heap.size, 0, none⟩), .pointer (some ⟨w.heap.size + 1, 0, none⟩), .string x.1.1, .int .i64 (x.1.2 : Int), .string s,
      .func (.func 29) #[] #[.pointer (some ⟨w.heap.size + 1 + 1, 0, none⟩)], .string x.1.1, .int .i64 (x.1.2 : Int), undef, undef, undef, undef, undef, undef, undef, undef], defers := [] }) ?assign ?body ?done ?stop
  case assign =>
    intro l x W K hK
    gi_wp2
    exact hK
  case body =>
    rintro l pre x W ⟨⟨v, hv, hrow, _⟩, hbe, hB, hW0⟩ hlt
    have hc := hv.cell
    have hmx : Tryd.prog.follows .mixedOrders = true := by kernel_rfl
    have hpl : (pre.map recR).length ≤ 20000 := by rw [List.length_map]; omega
    have hx2 := x.2
    gi_wp2
    refine wpIn_region_any hmx ?_
    change wpAnyIn _ _ _ _ _ _ _ _ _ (World.drew _)
    refine wpAnyIn_ready (rs := [0, 1]) (by kernel_rfl) (by simp) (AllReadyIn.cons rfl (fun K hK => ?_) (AllReadyIn.cons rfl (fun K hK => ?_) AllReadyIn.nil))
    · go_simp
      refine hK _ _ ?_
      clear hK K
      refine wpAnyIn_ready (rs := [1]) (by kernel_rfl) (by simp) (AllReadyIn.cons rfl (fun K hK => ?_) AllReadyIn.nil)
      go_simp
      refine hK _ _ ?_
      clear hK K
      refine wpAnyIn_ready (rs := [2]) (by kernel_rfl) (by simp) (AllReadyIn.cons rfl (fun K hK => ?_) AllReadyIn.nil)
      go_simp
      gi_wp2_with (refine ⟨trivial, ?_⟩; gi_at_call 25; refine (CallsIn.inRound l (callsIn_wide.2 (clone_any x.1.1 _ (by omega)))).mono ?_; rintro e w1 ⟨rfl, hb0⟩)
      have hb1 : Below W.heap.size W w1 := ((Below.refl _ W).drew).trans hb0
      have hv1 : Boxed w1 w.heap.size 27 v := hv.kept (grown_of_below hb1) (by simp)
      have hc1 := hv1.cell
      have hc1a := (hv1.alloc (.cells #[.string x.1.1] 9)).cell
      clear hb0
      refine wpAnyIn_ready (rs := [3]) (by kernel_rfl) (by simp) (AllReadyIn.cons rfl (fun K hK => ?_) AllReadyIn.nil)
      go_simp
      refine hK _ _ ?_
      clear hK K
      refine wpAnyIn_ready (rs := [4]) (by kernel_rfl) (by simp) (AllReadyIn.cons rfl (fun K hK => ?_) AllReadyIn.nil)
      refine stepIn_append _ rfl (.tmp 12) (.tmp 15) 27 rfl (w.heap.size + 3) 9 i0 (.string ⟨#[]⟩) 1 16 Tryd.underlying27 hi hz0 hz1 hz2 rfl (by decide) v _ _ rfl (OwnV.alloc (OwnV.below hrow hb1) _) ⟨w1.heap.size, 0, none⟩ 1 1 [.string x.1.1] rfl rfl (cell_one_new _ _ _) (by simp [Value.oneCell']) (by unfold maxLen; omega) (by omega) (by have := hb1.size; simp; omega) ?_
      intro v' w2 hown' hgrow
      rw [List.length_map] at hown'
      refine hK _ _ ?_
      clear hK K
      obtain ⟨g', cap', rfl⟩ := ownsRow_succ hown'
      obtain ⟨k1, k2, k3, k4, k5, k6, k7, k8⟩ := round_end (j := .int .i64 (x.1.2 : Int)) hv hrow hbe (by decide) (by decide) (by omega) hb1 hown' hgrow
      have kc1 := k1.cell
      have kf1 := k1.frozen
      have kc2 := k2.cell
      have kf2 := k2.frozen
      refine wpAnyIn_ready (rs := [5]) (by kernel_rfl) (by simp) (AllReadyIn.cons rfl (fun K hK => ?_) AllReadyIn.nil)
      go_simp
      refine hK _ _ ?_
      clear hK K
      refine wpAnyIn_done (by kernel_rfl) ?_ _
      gi_wp2
      exact ⟨k6.from _, k7, ⟨⟨_, k3, by simpa [recR] using k5, trivial⟩, by rw [List.map_append, List.map_singleton, lastEnd_snoc]; exact k4, hB.trans k7.1, Nat.le_trans hW0 k8⟩⟩
    · go_simp
      refine hK _ _ ?_
      clear hK K
      refine wpAnyIn_ready (rs := [0, 2]) (by kernel_rfl) (by simp) (AllReadyIn.cons rfl (fun K hK => ?_) (AllReadyIn.cons rfl (fun K hK => ?_) AllReadyIn.nil))
      · go_simp
        refine hK _ _ ?_
        clear hK K
        refine wpAnyIn_ready (rs := [2]) (by kernel_rfl) (by simp) (AllReadyIn.cons rfl (fun K hK => ?_) AllReadyIn.nil)
        go_simp
        gi_wp2_with (refine ⟨trivial, ?_⟩; gi_at_call 25; refine (CallsIn.inRound l (callsIn_wide.2 (clone_any x.1.1 _ (by omega)))).mono ?_; rintro e w1 ⟨rfl, hb0⟩)
        have hb1 : Below W.heap.size W w1 := ((Below.refl _ W).drew).trans hb0
        have hv1 : Boxed w1 w.heap.size 27 v := hv.kept (grown_of_below hb1) (by simp)
        have hc1 := hv1.cell
        have hc1a := (hv1.alloc (.cells #[.string x.1.1] 9)).cell
        clear hb0
        refine wpAnyIn_ready (rs := [3]) (by kernel_rfl) (by simp) (AllReadyIn.cons rfl (fun K hK => ?_) AllReadyIn.nil)
        go_simp
        refine hK _ _ ?_
        clear hK K
        refine wpAnyIn_ready (rs := [4]) (by kernel_rfl) (by simp) (AllReadyIn.cons rfl (fun K hK => ?_) AllReadyIn.nil)
        refine stepIn_append _ rfl (.tmp 12) (.tmp 15) 27 rfl (w.heap.size + 3) 9 i0 (.string ⟨#[]⟩) 1 16 Tryd.underlying27 hi hz0 hz1 hz2 rfl (by decide) v _ _ rfl (OwnV.alloc (OwnV.below hrow hb1) _) ⟨w1.heap.size, 0, none⟩ 1 1 [.string x.1.1] rfl rfl (cell_one_new _ _ _) (by simp [Value.oneCell']) (by unfold maxLen; omega) (by omega) (by have := hb1.size; simp; omega) ?_
        intro v' w2 hown' hgrow
        rw [List.length_map] at hown'
        refine hK _ _ ?_
        clear hK K
        obtain ⟨g', cap', rfl⟩ := ownsRow_succ hown'
        obtain ⟨k1, k2, k3, k4, k5, k6, k7, k8⟩ := round_end (j := .int .i64 (x.1.2 : Int)) hv hrow hbe (by decide) (by decide) (by omega) hb1 hown' hgrow
        have kc1 := k1.cell
        have kf1 := k1.frozen
        have kc2 := k2.cell
        have kf2 := k2.frozen
        refine wpAnyIn_ready (rs := [5]) (by kernel_rfl) (by simp) (AllReadyIn.cons rfl (fun K hK => ?_) AllReadyIn.nil)
        go_simp
        refine hK _ _ ?_
        clear hK K
        refine wpAnyIn_done (by kernel_rfl) ?_ _
        gi_wp2
        exact ⟨k6.from _, k7, ⟨⟨_, k3, by simpa [recR] using k5, trivial⟩, by rw [List.map_append, List.map_singleton, lastEnd_snoc]; exact k4, hB.trans k7.1, Nat.le_trans hW0 k8⟩⟩
      · go_simp
        gi_wp2_with (refine ⟨trivial, ?_⟩; gi_at_call 25; refine (CallsIn.inRound l (callsIn_wide.2 (clone_any x.1.1 _ (by omega)))).mono ?_; rintro e w1 ⟨rfl, hb0⟩)
        have hb1 : Below W.heap.size W w1 := ((Below.refl _ W).drew).trans hb0
        have hv1 : Boxed w1 w.heap.size 27 v := hv.kept (grown_of_below hb1) (by simp)
        have hc1 := hv1.cell
        have hc1a := (hv1.alloc (.cells #[.string x.1.1] 9)).cell
        clear hb0
        refine wpAnyIn_ready (rs := [0, 3]) (by kernel_rfl) (by simp) (AllReadyIn.cons rfl (fun K hK => ?_) (AllReadyIn.cons rfl (fun K hK => ?_) AllReadyIn.nil))
        · go_simp
          refine hK _ _ ?_
          clear hK K
          refine wpAnyIn_ready (rs := [3]) (by kernel_rfl) (by simp) (AllReadyIn.cons rfl (fun K hK => ?_) AllReadyIn.nil)
          go_simp
          refine hK _ _ ?_
          clear hK K
          refine wpAnyIn_ready (rs := [4]) (by kernel_rfl) (by simp) (AllReadyIn.cons rfl (fun K hK => ?_) AllReadyIn.nil)
          refine stepIn_append _ rfl (.tmp 12) (.tmp 15) 27 rfl (w.heap.size + 3) 9 i0 (.string ⟨#[]⟩) 1 16 Tryd.underlying27 hi hz0 hz1 hz2 rfl (by decide) v _ _ rfl (OwnV.alloc (OwnV.below hrow hb1) _) ⟨w1.heap.size, 0, none⟩ 1 1 [.string x.1.1] rfl rfl (cell_one_new _ _ _) (by simp [Value.oneCell']) (by unfold maxLen; omega) (by omega) (by have := hb1.size; simp; omega) ?_
          intro v' w2 hown' hgrow
          rw [List.length_map] at hown'
          refine hK _ _ ?_
          clear hK K
          obtain ⟨g', cap', rfl⟩ := ownsRow_succ hown'
          obtain ⟨k1, k2, k3, k4, k5, k6, k7, k8⟩ := round_end (j := .int .i64 (x.1.2 : Int)) hv hrow hbe (by decide) (by decide) (by omega) hb1 hown' hgrow
          have kc1 := k1.cell
          have kf1 := k1.frozen
          have kc2 := k2.cell
          have kf2 := k2.frozen
          refine wpAnyIn_ready (rs := [5]) (by kernel_rfl) (by simp) (AllReadyIn.cons rfl (fun K hK => ?_) AllReadyIn.nil)
          go_simp
          refine hK _ _ ?_
          clear hK K
          refine wpAnyIn_done (by kernel_rfl) ?_ _
          gi_wp2
          exact ⟨k6.from _, k7, ⟨⟨_, k3, by simpa [recR] using k5, trivial⟩, by rw [List.map_append, List.map_singleton, lastEnd_snoc]; exact k4, hB.trans k7.1, Nat.le_trans hW0 k8⟩⟩
        · go_simp
          refine hK _ _ ?_
          clear hK K
          refine wpAnyIn_ready (rs := [0]) (by kernel_rfl) (by simp) (AllReadyIn.cons rfl (fun K hK => ?_) AllReadyIn.nil)
          go_simp
          refine hK _ _ ?_
          clear hK K
          refine wpAnyIn_ready (rs := [4]) (by kernel_rfl) (by simp) (AllReadyIn.cons rfl (fun K hK => ?_) AllReadyIn.nil)
          refine stepIn_append _ rfl (.tmp 12) (.tmp 15) 27 rfl (w.heap.size + 3) 9 i0 (.string ⟨#[]⟩) 1 16 Tryd.underlying27 hi hz0 hz1 hz2 rfl (by decide) v _ _ rfl (OwnV.alloc (OwnV.below hrow hb1) _) ⟨w1.heap.size, 0, none⟩ 1 1 [.string x.1.1] rfl rfl (cell_one_new _ _ _) (by simp [Value.oneCell']) (by unfold maxLen; omega) (by omega) (by have := hb1.size; simp; omega) ?_
          intro v' w2 hown' hgrow
          rw [List.length_map] at hown'
          refine hK _ _ ?_
          clear hK K
          obtain ⟨g', cap', rfl⟩ := ownsRow_succ hown'
          obtain ⟨k1, k2, k3, k4, k5, k6, k7, k8⟩ := round_end (j := .int .i64 (x.1.2 : Int)) hv hrow hbe (by decide) (by decide) (by omega) hb1 hown' hgrow
          have kc1 := k1.cell
          have kf1 := k1.frozen
          have kc2 := k2.cell
          have kf2 := k2.frozen
          refine wpAnyIn_ready (rs := [5]) (by kernel_rfl) (by simp) (AllReadyIn.cons rfl (fun K hK => ?_) AllReadyIn.nil)
          go_simp
          refine hK _ _ ?_
          clear hK K
          refine wpAnyIn_done (by kernel_rfl) ?_ _
          gi_wp2
          exact ⟨k6.from _, k7, ⟨⟨_, k3, by simpa [recR] using k5, trivial⟩, by rw [List.map_append, List.map_singleton, lastEnd_snoc]; exact k4, hB.trans k7.1, Nat.le_trans hW0 k8⟩⟩
  case done =>
    rintro D ys W hD rfl ⟨⟨v, hv, hrow, _⟩, hbe, hB, hW0⟩ hK
    have hc := hv.cell
    have hc2 := hbe.cell
    have hmx : Tryd.prog.follows .mixedOrders = true := by kernel_rfl
    gi_wp2
    gi_region_o
    gi_wp2
    have hK' : W.drew.heap[D]? = some (.deferred (some [])) := hK
    refine ⟨by simp, .inl ⟨_, _, rfl, run_takeDeferred hK', ?_⟩⟩
    refine ⟨.tuple #[v, .int .i64 (lastEnd 0 (unfL s) : Int)], by simp [results, Tryd.results9, go_sem], v, by rw [hxs], ?_, (hB.drew).trans (belowK_b (w := w) (Nat.le_refl _) W.drew D _ _ (by omega) hK' rfl rfl)⟩
    rw [← recR_map]
    exact OwnV.low (ownsRow_putObj (OwnV.drew hrow) _ hK' rfl) (by omega)
  case stop =>
    rintro D c pre W _ _ h _
    exact h.elim

end Go.Proofs.YtkbbcjnickgfjaaDoor
