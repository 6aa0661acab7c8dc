/- Merged: Bok4, Bok5, Bok6. -/
import Derived.Test.YtoacaennpddoeaaMgRecText1
import Derived.Test.YtoacaennpddoeaaMgRecText2
import Derived.Test.YtoacaennpddoeaaMgRecText3
import Derived.Test.YtoacaennpddoeaaMgRecText4
import Derived.Test.YtoacaennpddoeaaMgRecText5
import Derived.Test.YtoacaennpddoeaaMgRecText6
import Derived.Test.YtoacaennpddoeaaMgRecText7
import Derived.Deep.RegionHeld3
import Derived.Deep.QuietTactic
import Derived.BigQuiet
/- Books by the given model: a new one, a thing of it, whether it is right, a copy, over the loaded program. -/
namespace Go.Proofs.Ytoacaennpddoeaa
open Go.RowKit
theorem ofT_at {xs : List Th} {k : Nat} {x : Th} {id : Int} (h : xs[k]? = some x) (hn : ∀ y ∈ xs.take k, y.id ≠ id) (e : x.id = id) : hasT xs id = true ∧ ofT xs id = x := by
  have hk := (List.getElem?_eq_some_iff.1 h).1
  have e1 : xs = xs.take k ++ x :: xs.drop (k + 1) := by
    conv => lhs; rw [← List.take_append_drop k xs, List.drop_eq_getElem_cons hk]
    rw [(List.getElem?_eq_some_iff.1 h).2]
  have h1 : (xs.take k).find? (fun y => decide (y.id = id)) = none := by
    rw [List.find?_eq_none]
    intro y hy
    simpa using hn y hy
  have h2 : xs.find? (fun y => decide (y.id = id)) = some x := by
    rw [e1, List.find?_append, h1]
    simp [e]
  constructor
  · unfold hasT
    rw [List.any_eq_true]
    exact ⟨x, List.mem_of_getElem? h, by simpa using e⟩
  · unfold ofT
    rw [h2]; rfl
theorem ofT_no {xs : List Th} {id : Int} (hn : ∀ y ∈ xs, y.id ≠ id) : hasT xs id = false ∧ ofT xs id = thZ := by
  have h2 : xs.find? (fun y => decide (y.id = id)) = none := by
    rw [List.find?_eq_none]
    intro y hy
    simpa using hn y hy
  constructor
  · unfold hasT
    rw [List.any_eq_false]
    intro y hy
    simpa using hn y hy
  · unfold ofT
    rw [h2]; rfl
theorem take_snocT {xs : List Th} {k : Nat} {x : Th} (h : xs[k]? = some x) {p : Th → Prop} (h1 : ∀ y ∈ xs.take k, p y) (h2 : p x) : ∀ y ∈ xs.take (k + 1), p y := by
  intro y hy
  rw [List.take_add_one, h] at hy
  rcases List.mem_append.1 hy with q | q
  · exact h1 y q
  · simp at q; rw [q]; exact h2
theorem bk_one (b : Bk) (a : Option Addr) (n c : Nat) : (#[.string b.wd, .int .i64 b.tr, .slice a n c, .int .i64 b.la, .string b.ch, .int .i64 b.ct] : Array Value).all (·.oneCell') = true := bkc_one _ _ _ _ _ _ _ _
set_option maxRecDepth 20000 in
set_option maxHeartbeats 2000000 in
theorem specThingOf_any (b : Bk) (id : Int) (v : Value) (w : World) (hr : RdBk w v b) (hn9 : b.ths.length ≤ 2000000) :
    Calls Try.prog 51 #[v, .int .i64 id] w fun e w' => e = .returned (.tuple #[.agg (thC (ofT b.ths id)), .bool (hasT b.ths id)]) ∧ Below w.heap.size w w' := by
  obtain ⟨wd, tr, ths, la, ch, ct⟩ := b
  obtain ⟨a, n, c, rfl, hn, hu⟩ := hr.open
  dsimp only at hn hu hn9 ⊢
  have HN := hide hn.symm
  rw [hn.symm] at hn9
  clear hn hr
  obtain ⟨W, hW, hX, hY, hB, hs1⟩ := two_cb w #[.string wd, .int .i64 tr, .slice a n c, .int .i64 la, .string ch, .int .i64 ct] (thC thZ) 36 25
  have hu1 := hu.below hB
  obtain ⟨a', c', hsl, hc⟩ := hu1.openT
  simp only [Value.slice.injEq] at hsl
  obtain ⟨rfl, hnl, rfl⟩ := hsl
  unfold thC thZ at hW
  dsimp only at hW
  have x2 := hX.cell 2 (v := .slice a n c) rfl
  replace hY := hide hY
  replace hB := hide hB
  replace hnl := hide hnl
  clear hu hu1 hX
  go_enter Try.func51, Try.ntmps51
  go_upto_region 1 with fail
  first | rw [hW] | skip
  clear hW
  go_wp2
  go_loop [6] (fun ti => ∃ k : Nat, k ≤ n ∧ ti = .int .i64 k ∧ Hid (∀ y ∈ ths.take k, y.id ≠ id)) (fun ti => n - (intOf ti).toNat)
  case atStart => exact ⟨0, Nat.zero_le _, rfl, fun y hy => by simp at hy⟩
  case round =>
    obtain ⟨k, hk, rfl, hno⟩ := hrel
    by_cases hlt : k < n
    · have hk' : k < ths.length := by have := unhide HN; omega
      obtain ⟨f, hf⟩ : ∃ f, ths[k]? = some f := ⟨ths[k], List.getElem?_eq_getElem hk'⟩
      obtain ⟨g, o, rfl, hg, hat⟩ := hc k f hf
      have hlk : (k : Int) < (n : Int) := by omega
      by_cases he : f.id = id
      · have HO := hide (ofT_at hf (unhide hno) he)
        have d0 := hat.th.1
        obtain ⟨f0, hf0⟩ : ∃ f0, f0 = f := ⟨_, rfl⟩
        rw [he] at d0
        replace hat := hide hat
        replace hf := hide hf
        replace he := hide he
        clear hc
        go_upto_region 5 with fail
        go_wp2_with (first
          | (refine wpList_load_n (L := thY) rfl 25 (.tmp 25) rfl g (o + k * 8) rfl f (unhide hat) _ Try.underlying25 rfl ?_)
          | (refine wpList_store_row rfl 25 (.tmp 4) (.tmp 26) rfl (w.heap.size + 1) (thC f) rfl rfl 25 _ (unhide hY) rfl rfl (th_one f) ?_))
        have hY8 := setRow_heap _ (w.heap.size + 1) _ (thC f) 25 (0, 0) (unhide hY)
        have T4 := Go.below_setRow (unhide hB) (show w.heap.size ≤ w.heap.size + 1 by omega) (thC f)
        exact bodyPost_ret (results_cb_tmp (by exact Try.results51) _ _ (w.heap.size + 1) 25 (thC f) _ rfl hY8 Try.underlying25 (th_size f)) rfl ⟨by rw [(unhide HO).1, (unhide HO).2]; rfl, T4⟩
      · have HO := hide (take_snocT (p := fun y => y.id ≠ id) hf (unhide hno) he)
        have d0 := hat.th.1
        clear hc hat hno
        replace hf := hide hf
        have he' : (f.id == id) = false := by simpa using he
        go_wp2
        go_round
        case rel => exact ⟨k + 1, by omega, by go_num, unhide HO⟩
        case measure => simp [intOf]; omega
    · have e2 : ths.take k = ths := List.take_of_length_le (by have := unhide HN; omega)
      rw [e2] at hno
      have HO := hide (ofT_no (unhide hno))
      clear hc hno e2
      go_upto_region 6 with fail
      go_wp2_with (refine wpList_store_row rfl 25 (.tmp 4) (.tmp 27) rfl (w.heap.size + 1) (thC thZ) rfl rfl 25 _ (unhide hY) rfl rfl (th_one thZ) ?_)
      have hY8 := setRow_heap _ (w.heap.size + 1) _ (thC thZ) 25 (0, 0) (unhide hY)
      have T4 := Go.below_setRow (unhide hB) (show w.heap.size ≤ w.heap.size + 1 by omega) (thC thZ)
      exact bodyPost_ret (results_cb_tmp (by exact Try.results51) _ _ (w.heap.size + 1) 25 (thC thZ) _ rfl hY8 Try.underlying25 (th_size thZ)) rfl ⟨by rw [(unhide HO).1, (unhide HO).2]; rfl, T4⟩
end Go.Proofs.Ytoacaennpddoeaa

/- Books by the given model: what a thing may become, over the loaded program. -/
namespace Go.Proofs.Ytoacaennpddoeaa
open Go.RowKit
set_option maxRecDepth 20000 in
set_option maxHeartbeats 4000000 in
theorem l21Grown_any (x y : Th) (w : World) :
    Calls Try.prog 52 #[.agg (thC x), .agg (thC y)] w fun e w' => e = .returned (.bool (grownB x y)) ∧ Below w.heap.size w w' := by
  have HG : grownB x y = decide (x.kind = y.kind ∧ x.val = y.val ∧ x.sgn = y.sgn ∧ x.wrp = y.wrp ∧ x.nxt ≤ y.nxt ∧ (x.hid = true → y.hid = true) ∧ (x.fix = true → y.fix = true)) := rfl
  generalize grownB x y = r at *
  obtain ⟨id, kind, hid, fix, sgn, wrp, val, nxt⟩ := x
  obtain ⟨yi, yk, yh, yf, ys, yw, yv, yn⟩ := y
  dsimp only at HG
  simp only [thC]
  have HV : val = yv ↔ val.toList = yv.toList := ⟨fun h => by rw [h], fun h => ByteArray.ext (Array.toList_inj.1 (by rw [← ByteArray.toList_eq, ← ByteArray.toList_eq, h]))⟩
  replace HG : r = true ↔ (kind = yk ∧ val.toList = yv.toList ∧ sgn = ys ∧ wrp = yw ∧ nxt ≤ yn ∧ (hid = true → yh = true) ∧ (fix = true → yf = true)) := by rw [HG, decide_eq_true_iff, HV]
  clear HV
  replace HG := hide HG
  obtain ⟨W, hW, hX, hY, hB, hs1⟩ := two_cb w #[.int .i64 id, .int .i64 kind, .bool hid, .bool fix, .bool sgn, .bool wrp, .string val, .int .i64 nxt] #[.int .i64 yi, .int .i64 yk, .bool yh, .bool yf, .bool ys, .bool yw, .string yv, .int .i64 yn] 25 25
  have x1 := hX.cell 1 (v := .int .i64 kind) rfl
  have x2 := hX.cell 2 (v := .bool hid) rfl
  have x3 := hX.cell 3 (v := .bool fix) rfl
  have x4 := hX.cell 4 (v := .bool sgn) rfl
  have x5 := hX.cell 5 (v := .bool wrp) rfl
  have x6 := hX.cell 6 (v := .string val) rfl
  have x7 := hX.cell 7 (v := .int .i64 nxt) rfl
  have y1 := hY.cell 1 (v := .int .i64 yk) rfl
  have y2 := hY.cell 2 (v := .bool yh) rfl
  have y3 := hY.cell 3 (v := .bool yf) rfl
  have y4 := hY.cell 4 (v := .bool ys) rfl
  have y5 := hY.cell 5 (v := .bool yw) rfl
  have y6 := hY.cell 6 (v := .string yv) rfl
  have y7 := hY.cell 7 (v := .int .i64 yn) rfl
  clear hX hY
  replace hB := hide hB
  go_enter Try.func52, Try.ntmps52
  go_upto_region 1 with fail
  first | rw [hW] | skip
  clear hW
  go_wp2
  all_goals
    go_ret
    refine ⟨retB ?_, unhide hB⟩
    rw [Bool.eq_iff_iff, unhide HG]
    clear HG
    simp_all
    try omega
set_option maxRecDepth 20000 in
set_option maxHeartbeats 2000000 in
theorem l21Copy_any (b : Bk) (v : Value) (w : World) (hr : RdBk w v b) (hn9 : b.ths.length ≤ 2000000) :
    Calls Try.prog 50 #[v] w fun e w' => (∃ a c, e = .returned (bkv b (.slice a b.ths.length c)) ∧ OwnN thY w' w.heap.size 25 (.slice a b.ths.length c) b.ths) ∧ Below w.heap.size w w' := by
  obtain ⟨i0, hi, hz0, hz1, hz2⟩ := info_parts infoThing
  obtain ⟨wd, tr, ths, la, ch, ct⟩ := b
  obtain ⟨a, n, c, rfl, hn, hu⟩ := hr.open
  dsimp only at hn hu hn9 ⊢
  subst hn
  clear hr
  obtain ⟨W, hW, hX, hY, hB, hs1⟩ := two_cb w #[.string wd, .int .i64 tr, .slice a ths.length c, .int .i64 la, .string ch, .int .i64 ct] #[.string ⟨#[]⟩, .int .i64 0, .slice none 0 0, .int .i64 0, .string ⟨#[]⟩, .int .i64 0] 36 36
  have hu1 := hu.below hB
  go_enter Try.func50, Try.ntmps50
  go_upto_region 1 with fail
  first | rw [hW] | skip
  clear hW
  have hX2 := hX.alloc (.cells #[] 25)
  have x2 := hX2.cell 2 (v := .slice a ths.length c) rfl
  have ho0 : OwnN thY (W.alloc (.cells #[] 25)) (w.heap.size + 1 + 1) 25 (.slice (some ⟨W.heap.size, 0, none⟩) 0 0) [] := OwnN.lit0 W _ _ (by omega)
  have hub := hu1.alloc (.cells #[] 25)
  have hY2 := hide (hY.alloc (.cells #[] 25))
  have hB2 := hide (hB.alloc hB.size (.cells #[] 25))
  have hl2 : w.heap.size + 1 < (W.alloc (.cells #[] 25)).heap.size := by simp; omega
  go_upto_region 2 with (at_builtin; refine wpList_append_rd (L := thY) rfl (.tmp 3) (.tmp 5) 34 rfl (w.heap.size + 1 + 1) (w.heap.size + 1 + 1) 25 i0 (.agg (thC thZ)) 48 Try.underlying34 hi hz0 hz1 hz2 rfl _ [] rfl ho0 _ ths rfl hub ths.length (by simp) hn9 (by decide) (Nat.le_refl _) (by omega) (Below.refl _ _) ?_; intro a1 c1 w1 ho1 hb1 hg1; have hX3 := hX2.below hb1 (by omega); have q2 := hX3.cell 2 (v := .slice a ths.length c) rfl; have f2 := hX3.frozen 2)
  have hX4 := cb_eq (hX3.set 2 (.slice a1 ths.length c1)) (show (#[.string wd, .int .i64 tr, .slice a1 ths.length c1, .int .i64 la, .string ch, .int .i64 ct] : Array Value) = _ from rfl)
  have hY3 := ((unhide hY2).below hb1 (by omega)).set_other (h := w.heap.size) (k := 2) (by omega) (.slice a1 ths.length c1)
  have T3 := ((unhide hB2).trans (hb1.mono (by omega))).setCell (p := ⟨w.heap.size, 2, none⟩) (Nat.le_refl _) (.slice a1 ths.length c1)
  have ho3 := ho1.other (a := ⟨w.heap.size, 2, none⟩) (by show w.heap.size < _; omega) (.slice a1 ths.length c1)
  rw [List.nil_append] at ho3
  refine wp_gen (fun W5 => CB W5 w.heap.size 36 #[.string wd, .int .i64 tr, .slice a1 ths.length c1, .int .i64 la, .string ch, .int .i64 ct] ∧ CB W5 (w.heap.size + 1) 36 #[.string ⟨#[]⟩, .int .i64 0, .slice none 0 0, .int .i64 0, .string ⟨#[]⟩, .int .i64 0] ∧ Below w.heap.size w W5 ∧ OwnN thY W5 (w.heap.size + 1 + 1) 25 (.slice a1 ths.length c1) ths) ⟨hX4, hY3, T3, ho3⟩ ?_
  clear hX4 hY3 T3 ho3 hX3 q2 f2 hX2 hY2 hB2 ho0 hub ho1 hb1 hg1
  rintro W5 ⟨hZ7, hY7, T3, ho3⟩
  go_wp2_with (first
    | (refine wpList_load_row rfl 36 (.tmp 1) rfl w.heap.size rfl 36 #[.string wd, .int .i64 tr, .slice a1 ths.length c1, .int .i64 la, .string ch, .int .i64 ct] (0, 0) _ hZ7 Try.underlying36 rfl rfl ?_)
    | (refine wpList_store_row rfl 36 (.tmp 2) (.tmp 8) rfl (w.heap.size + 1) #[.string wd, .int .i64 tr, .slice a1 ths.length c1, .int .i64 la, .string ch, .int .i64 ct] rfl rfl 36 _ hY7 rfl rfl (bkc_one _ _ _ _ _ _ _ _) ?_))
  have hY8 := setRow_heap _ (w.heap.size + 1) _ #[.string wd, .int .i64 tr, .slice a1 ths.length c1, .int .i64 la, .string ch, .int .i64 ct] 36 (0, 0) hY7
  have T4 := Go.below_setRow T3 (show w.heap.size ≤ w.heap.size + 1 by omega) #[.string wd, .int .i64 tr, .slice a1 ths.length c1, .int .i64 la, .string ch, .int .i64 ct]
  have ho4 := ho3.setRow (g := w.heap.size + 1) (by omega) #[.string wd, .int .i64 tr, .slice a1 ths.length c1, .int .i64 la, .string ch, .int .i64 ct]
  exact bodyPost_ret (results_cb (by exact Try.results50) _ _ (w.heap.size + 1) 36 _ _ rfl hY8 Try.underlying36 rfl) rfl ⟨⟨_, _, rfl, ho4.low (by omega)⟩, T4⟩
end Go.Proofs.Ytoacaennpddoeaa

/- Books by the given model: a thing put into its place, over the loaded program. -/
namespace Go.Proofs.Ytoacaennpddoeaa
open Go.RowKit
theorem filt_yes {xs : List Th} {k : Nat} {f : Th} {p : Th → Bool} (h : xs[k]? = some f) (hp : p f = true) : (xs.take (k + 1)).filter p = (xs.take k).filter p ++ [f] := by
  rw [List.take_add_one, h, List.filter_append]
  simp [hp]
theorem filt_no {xs : List Th} {k : Nat} {f : Th} {p : Th → Bool} (h : xs[k]? = some f) (hp : p f = false) : (xs.take (k + 1)).filter p = (xs.take k).filter p := by
  rw [List.take_add_one, h, List.filter_append]
  simp [hp]
theorem filt_len (xs : List Th) (k : Nat) (p : Th → Bool) : ((xs.take k).filter p).length ≤ k := Nat.le_trans (List.length_filter_le _ _) (List.length_take_le _ _)
set_option maxRecDepth 20000 in
set_option maxHeartbeats 4000000 in
theorem l21Put_any (xs : List Th) (x : Th) (v : Value) (w : World) (hr : RdN thY w v xs) (hn9 : xs.length ≤ 1000000) :
    Calls Try.prog 53 #[v, .agg (thC x)] w fun e w' => (∃ u, e = .returned u ∧ OwnN thY w' w.heap.size 25 u (putT xs x)) ∧ Below w.heap.size w w' := by
  obtain ⟨i0, hi, hz0, hz1, hz2⟩ := info_parts infoThing
  obtain ⟨a, c, rfl, hc⟩ := hr.openT
  clear hr
  obtain ⟨n, hnn⟩ : ∃ n, xs.length = n := ⟨_, rfl⟩
  rw [hnn] at hn9 ⊢
  replace hnn := hide hnn
  obtain ⟨P1, hP1⟩ : ∃ P1 : Th → Bool, P1 = fun y => decide (y.id < x.id) := ⟨_, rfl⟩
  obtain ⟨P2, hP2⟩ : ∃ P2 : Th → Bool, P2 = fun y => decide (x.id < y.id) := ⟨_, rfl⟩
  have HP := hide (show putT xs x = xs.filter P1 ++ x :: xs.filter P2 by rw [hP1, hP2]; rfl)
  have Q1 := hide (show ∀ y, P1 y = decide (y.id < x.id) from fun y => by rw [hP1])
  have Q2 := hide (show ∀ y, P2 y = decide (x.id < y.id) from fun y => by rw [hP2])
  clear hP1 hP2
  obtain ⟨x0, hx0⟩ : ∃ y, y = x := ⟨_, rfl⟩
  rw [← hx0] at HP
  obtain ⟨xi, xk, xh, xf, xg, xw, xv, xn⟩ := x
  simp only [thC]
  replace hx0 := hide hx0
  obtain ⟨W, hW, hX, hB, hs1⟩ := one_cb w #[.int .i64 xi, .int .i64 xk, .bool xh, .bool xf, .bool xg, .bool xw, .string xv, .int .i64 xn] 25
  go_enter Try.func53, Try.ntmps53
  go_upto_region 1 with fail
  first | rw [hW] | skip
  clear hW
  go_upto_region 2 with fail
  refine wp_gen (fun W5 => OwnN thY W5 W.heap.size 25 (.slice (some ⟨W.heap.size, 0, none⟩) 0 0) [] ∧ Below W.heap.size W W5) ⟨OwnN.lit0 W _ _ (by omega), (Below.refl _ W).alloc (Nat.le_refl _) _⟩ ?_
  rintro W5 ⟨ho0, hb0⟩
  have hWs := hB.size
  go_wp2
  go_loopw [5, 6] (fun tl ti wr => ∃ k : Nat, k ≤ n ∧ ti = .int .i64 k ∧ OwnN thY wr W.heap.size 25 tl ((xs.take k).filter P1) ∧ Below W.heap.size W wr) (fun _ ti _ => n - (intOf ti).toNat)
  case atStart => exact ⟨0, Nat.zero_le _, rfl, ho0, hb0⟩
  case round =>
    obtain ⟨k, hk, rfl, ho, hb⟩ := hrel
    clear ho0 hb0
    have hss := hb.size
    have hXr := hX.step hb
    by_cases hlt : k < n
    · have hk' : k < xs.length := by rw [unhide hnn]; exact hlt
      obtain ⟨f, hf⟩ : ∃ f, xs[k]? = some f := ⟨xs[k], List.getElem?_eq_getElem hk'⟩
      obtain ⟨g, o, rfl, hg, hat⟩ := hc k f hf
      have hA := (hat.below hB hg).below hb (by omega)
      obtain ⟨d0, d1, d2, d3, d4, d5, d6, d7⟩ := AtN.th hA
      have e0 := hXr.cell 0 (v := .int .i64 xi) rfl
      have hlk : (k : Int) < (n : Int) := by omega
      have hi0 : (0 : Int) ≤ (k : Int) := by omega
      have q1 := unhide Q1 f
      have HY := hide (fun h => @filt_yes xs k f P1 hf h)
      have HZ := hide (fun h => @filt_no xs k f P1 hf h)
      have hfl : ((xs.take k).filter P1).length ≤ 2000000 := by have := filt_len xs k P1; omega
      replace hf := hide hf
      clear hc hat
      obtain ⟨f0, hf0⟩ : ∃ y, y = f := ⟨_, rfl⟩
      rw [← hf0] at HY HZ
      obtain ⟨id, kind, hid, fix, sgn, wrp, val, nxt⟩ := f
      dsimp only at d0 d1 d2 d3 d4 d5 d6 d7 q1
      replace hf0 := hide hf0
      cases hd : decide (id < xi) with
      | true =>
        rw [hd, ← unhide hf0] at q1
        have E := hide (unhide HY q1)
        clear q1 HY HZ
        have HO := hide ho
        clear ho
        go_wp2
        go_quiet (fail)
        have HO : Hid (OwnN thY (wr.drewN nq) _ _ _ _) := HO
        go_wp2_with (first | (at_builtin; refine wpList_append_n (L := thY) (w := wr.drewN nq) rfl (.tmp 23) (.tmp 28) 34 rfl W.heap.size W.heap.size 25 i0 (.agg (thC thZ)) 48 Try.underlying34 hi hz0 hz1 hz2 rfl _ _ (by rfl) (unhide HO) _ ⟨id, kind, hid, fix, sgn, wrp, val, nxt⟩ rfl _ rfl hfl (by decide) (by omega) (by show _ ≤ wr.heap.size; omega) (bDN hb nq) ?_; intro v' w2 ho2 hb2))
        go_roundw
        case rel => exact ⟨k + 1, by omega, by go_num, by rw [unhide E, unhide hf0]; exact ho2, hb2⟩
        case measure => simp [intOf]; omega
      | false =>
        rw [hd, ← unhide hf0] at q1
        have E := hide (unhide HZ q1)
        clear q1 HY HZ
        go_wp2
        go_quiet (fail)
        go_wp2
        go_roundw
        case rel => exact ⟨k + 1, by omega, by go_num, by rw [unhide E]; exact ho, bDN hb nq⟩
        case measure => simp [intOf]; omega
    · have e2 : xs.take k = xs := List.take_of_length_le (by have := unhide hnn; omega)
      rw [e2] at ho
      obtain ⟨x0', x1', x2', x3', x4', x5', x6', x7'⟩ : wr.cell? ⟨w.heap.size, 0, none⟩ = some (.int .i64 xi) ∧ wr.cell? ⟨w.heap.size, 1, none⟩ = some (.int .i64 xk) ∧ wr.cell? ⟨w.heap.size, 2, none⟩ = some (.bool xh) ∧ wr.cell? ⟨w.heap.size, 3, none⟩ = some (.bool xf) ∧ wr.cell? ⟨w.heap.size, 4, none⟩ = some (.bool xg) ∧ wr.cell? ⟨w.heap.size, 5, none⟩ = some (.bool xw) ∧ wr.cell? ⟨w.heap.size, 6, none⟩ = some (.string xv) ∧ wr.cell? ⟨w.heap.size, 7, none⟩ = some (.int .i64 xn) := ⟨hXr.cell 0 rfl, hXr.cell 1 rfl, hXr.cell 2 rfl, hXr.cell 3 rfl, hXr.cell 4 rfl, hXr.cell 5 rfl, hXr.cell 6 rfl, hXr.cell 7 rfl⟩
      have hfl : (xs.filter P1).length ≤ 2000000 := by have h1 := List.length_filter_le P1 xs; have := unhide hnn; omega
      have HO := hide ho
      clear ho e2 Q1
      go_wp2_with (first | (at_builtin; refine wpList_append_n (L := thY) (w := wr) rfl (.tmp 30) (.tmp 32) 34 rfl W.heap.size W.heap.size 25 i0 (.agg (thC thZ)) 48 Try.underlying34 hi hz0 hz1 hz2 rfl _ _ (by rfl) (unhide HO) _ ⟨xi, xk, xh, xf, xg, xw, xv, xn⟩ rfl _ rfl hfl (by decide) (by omega) (by omega) hb ?_; intro v' w2 ho2 hb2))
      rw [← unhide hx0] at ho2
      clear x0' x1' x2' x3' x4' x5' x6' x7' HO hb hss hXr hfl
      go_loopw [5, 7] (fun tl ti wr => ∃ k : Nat, k ≤ n ∧ ti = .int .i64 k ∧ OwnN thY wr W.heap.size 25 tl ((xs.filter P1 ++ [x0]) ++ (xs.take k).filter P2) ∧ Below W.heap.size W wr) (fun _ ti _ => n - (intOf ti).toNat)
      case atStart => exact ⟨0, Nat.zero_le _, rfl, by rw [List.take_zero]; simpa using ho2, hb2⟩
      case round =>
        obtain ⟨k, hk, rfl, ho, hb⟩ := hrel
        clear ho2 hb2
        have hss := hb.size
        have hXr := hX.step hb
        by_cases hlt : k < n
        · have hk' : k < xs.length := by rw [unhide hnn]; exact hlt
          obtain ⟨f, hf⟩ : ∃ f, xs[k]? = some f := ⟨xs[k], List.getElem?_eq_getElem hk'⟩
          obtain ⟨g, o, rfl, hg, hat⟩ := hc k f hf
          have hA := (hat.below hB hg).below hb (by omega)
          obtain ⟨d0, d1, d2, d3, d4, d5, d6, d7⟩ := AtN.th hA
          have e0 := hXr.cell 0 (v := .int .i64 xi) rfl
          have hlk : (k : Int) < (n : Int) := by omega
          have hi0 : (0 : Int) ≤ (k : Int) := by omega
          have q1 := unhide Q2 f
          have HY := hide (fun h => @filt_yes xs k f P2 hf h)
          have HZ := hide (fun h => @filt_no xs k f P2 hf h)
          have hfl : ((xs.filter P1 ++ [x0]) ++ (xs.take k).filter P2).length ≤ 2000000 := by have h1 := filt_len xs k P2; have h2 := List.length_filter_le P1 xs; have := unhide hnn; simp only [List.length_append, List.length_cons, List.length_nil]; omega
          replace hf := hide hf
          clear hc hat
          obtain ⟨f0, hf0⟩ : ∃ y, y = f := ⟨_, rfl⟩
          rw [← hf0] at HY HZ
          obtain ⟨id, kind, hid, fix, sgn, wrp, val, nxt⟩ := f
          dsimp only at d0 d1 d2 d3 d4 d5 d6 d7 q1
          replace hf0 := hide hf0
          cases hd : decide (xi < id) with
          | true =>
            rw [hd, ← unhide hf0] at q1
            have E := hide (unhide HY q1)
            clear q1 HY HZ
            have HO := hide ho
            clear ho
            go_wp2
            go_quiet (fail)
            have HO : Hid (OwnN thY (wr.drewN nq) _ _ _ _) := HO
            go_wp2_with (first | (at_builtin; refine wpList_append_n (L := thY) (w := wr.drewN nq) rfl (.tmp 48) (.tmp 53) 34 rfl W.heap.size W.heap.size 25 i0 (.agg (thC thZ)) 48 Try.underlying34 hi hz0 hz1 hz2 rfl _ _ (by rfl) (unhide HO) _ ⟨id, kind, hid, fix, sgn, wrp, val, nxt⟩ rfl _ rfl hfl (by decide) (by omega) (by show _ ≤ wr.heap.size; omega) (bDN hb nq) ?_; intro v' w2 ho2 hb2))
            go_roundw
            case rel => exact ⟨k + 1, by omega, by go_num, by rw [unhide E, unhide hf0]; rw [← List.append_assoc]; exact ho2, hb2⟩
            case measure => simp [intOf]; omega
          | false =>
            rw [hd, ← unhide hf0] at q1
            have E := hide (unhide HZ q1)
            clear q1 HY HZ
            go_wp2
            go_quiet (fail)
            go_wp2
            go_roundw
            case rel => exact ⟨k + 1, by omega, by go_num, by rw [unhide E]; exact ho, bDN hb nq⟩
            case measure => simp [intOf]; omega
        · have e2 : xs.take k = xs := List.take_of_length_le (by have := unhide hnn; omega)
          rw [e2] at ho
          have HO := hide ho
          clear ho e2
          go_wp2
          go_ret
          exact ⟨⟨_, rfl, by rw [← unhide hx0, unhide HP]; have h9 := (unhide HO).low (base' := w.heap.size) (by omega); rw [List.append_assoc] at h9; exact h9⟩, hB.trans (hb.mono (by omega))⟩
end Go.Proofs.Ytoacaennpddoeaa

