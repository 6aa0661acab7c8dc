/- Merged: Rsz, Rmk, LawEa. -/
import Derived.Test.YtkbbcjnickgfjabMgEnterAll1
import Derived.Test.YtkbbcjnickgfjabMgEnterAll2
import Derived.Test.YtkbbcjnickgfjabMgEnterAll3
import Derived.Test.YtkbbcjnickgfjabMgEnterAll4
import Derived.Test.YtkbbcjnickgfjabMgEnterAll5
import Derived.Test.YtkbbcjnickgfjabMgEnterAll6
import Derived.Test.YtkbbcjnickgfjabMgEnterAll7
import Derived.Test.YtkbbcjnickgfjabMgEnterAll8
import Derived.Test.YtkbbcjnickgfjabMgEnterAll9
import Derived.Test.YtkbbcjnickgfjabMgEnterAll10
import Derived.Test.YtkbbcjnickgfjabMgEnterAll11
/- The laws' helpers on rows of records: how much, a copy, whether they are the same, marks. -/
namespace Go.Proofs.Ytkbbcjnickgfjab
open Go.RowKit
theorem RdN.openR {w : World} {v : Value} {xs : List Rc} (h : RdN rcY w v xs) : ∃ a c, v = .slice a xs.length c ∧ ∀ j x, xs[j]? = some x → ∃ g o, a = some ⟨g, o, none⟩ ∧ g < w.heap.size ∧ AtN rcY w g (o + j * 11) x := h.open
theorem infoRec : (Try.prog.info? 39).map (fun i => (i.zero, i.size, i.bytes)) = some (some (.agg (rcC rcZ)), 11, 80) := by kernel_rfl
set_option maxRecDepth 20000 in
set_option maxHeartbeats 1000000 in
theorem szRecS_any (xs : List Rc) (v : Value) (L : Int) (hL : 0 ≤ L ∧ L ≤ 1048576) (w : World) (hr : RdN rcY w v xs) (hn : xs.length ≤ maxLen) (hz : ∀ x ∈ xs, x.tx.size ≤ maxLen ∧ x.th.val.size ≤ maxLen) :
    Calls Try.prog 14 #[v, .int .i64 L] w fun e w' => (∃ z : Int, e = .returned (.int .i64 z) ∧ (z < 0 ∨ (0 ≤ z ∧ xs.length ≤ 1048576 ∧ ∀ x ∈ xs, x.tx.size ≤ 1048576))) ∧ Below w.heap.size w w' := by
  obtain ⟨a, c, rfl, hc⟩ := hr.openR
  have hn' := hn
  unfold maxLen at hn'
  clear hr hn
  obtain ⟨n, hnn⟩ : ∃ n, xs.length = n := ⟨_, rfl⟩
  rw [hnn] at hn' ⊢
  replace hnn := hide hnn
  replace hz := hide hz
  by_cases c1 : L - (n : Int) < 0
  · go_enter Try.func14, Try.ntmps14
    go_wp2
    go_ret
    exact ⟨⟨-1, rfl, .inl (by decide)⟩, Below.refl _ _⟩
  · go_enter Try.func14, Try.ntmps14
    go_wp2
    go_loopw [1, 5] (fun tl ti wr => ∃ (k : Nat) (l : Int), k ≤ n ∧ ti = .int .i64 k ∧ tl = .int .i64 l ∧ Hid (0 ≤ l ∧ l ≤ L ∧ ∀ x ∈ xs.take k, x.tx.size ≤ 1048576) ∧ Below w.heap.size w wr) (fun _ ti _ => n - (intOf ti).toNat)
    case atStart => exact ⟨0, L - n, Nat.zero_le _, rfl, by go_num, ⟨by omega, by omega, fun x hx => by simp at hx⟩, Below.refl _ _⟩
    case round =>
      obtain ⟨k, l, hk, rfl, rfl, hsum, hb⟩ := hrel
      by_cases hlt : k < n
      · have hk' : k < xs.length := by rw [unhide hnn]; exact hlt
        obtain ⟨f, hf⟩ : ∃ f, xs[k]? = some f := ⟨xs[k], List.getElem?_eq_getElem hk'⟩
        obtain ⟨g, o, rfl, hg, hat⟩ := hc k f hf
        have hatw := hide (hat.below hb hg)
        have hzf := unhide hz f (List.mem_of_getElem? hf)
        have hl2 : 0 ≤ l ∧ l ≤ 1048576 := by have := unhide hsum; omega
        have C := hide (fun W => szRec_any f l hl2 hzf.1 hzf.2 W)
        have hss := hb.size
        have hlk : (k : Int) < (n : Int) := by omega
        have hi0 : (0 : Int) ≤ (k : Int) := by omega
        replace hf := hide hf
        clear hc hat hzf
        go_wp2_with (first
          | (refine wpList_load_n (P := Try.prog) (L := rcY) rfl 28 (.tmp 20) rfl g (o + k * 11) rfl f (unhide hatw) _ Try.underlying28 rfl ?_)
          | (go_at_call 6; refine ((unhide C) _).mono ?_; rintro e w1 ⟨⟨r, rfl, hr1⟩, hb1⟩)
          | fail)
        · go_ret
          exact ⟨⟨_, rfl, .inl (by decide)⟩, hb.trans (hb1.mono hss)⟩
        · go_roundw
          case rel =>
            refine ⟨k + 1, r, by omega, by go_num, rfl, ?_, hb.trans (hb1.mono hss)⟩
            have h4 := unhide hsum
            rcases hr1 with q | ⟨q, q2⟩
            · exact absurd q (by omega)
            · refine ⟨by omega, by omega, fun x hx => ?_⟩
              rw [List.take_add_one, unhide hf] at hx
              rcases List.mem_append.1 hx with hx | hx
              · exact h4.2.2 x hx
              · have e : x = f := by simpa using hx
                subst e; omega
          case measure => simp [intOf]; omega
      · have e1 : k = n := by omega
        have e2 : xs.take k = xs := List.take_of_length_le (by rw [unhide hnn]; omega)
        have h4 := unhide hsum
        rw [e2] at h4
        have hfin := hide (show l < 0 ∨ (0 ≤ l ∧ n ≤ 1048576 ∧ ∀ x ∈ xs, x.tx.size ≤ 1048576) from .inr ⟨h4.1, by omega, h4.2.2⟩)
        clear h4
        go_wp2
        go_ret
        exact ⟨⟨_, rfl, unhide hfin⟩, hb⟩
set_option maxRecDepth 20000 in
set_option maxHeartbeats 2000000 in
theorem toRecS_any (fs : List Rc) (v : Value) (w : World) (hr : RdN rcY w v fs) (hn : fs.length ≤ 1048576) :
    Calls Try.prog 16 #[v] w fun e w' => (∃ a c, e = .returned (.slice a fs.length c) ∧ OwnN rcY w' w.heap.size 39 (.slice a fs.length c) fs) ∧ Below w.heap.size w w' := by
  obtain ⟨i0, hi, hz0, hz1, hz2⟩ := info_parts infoRec
  obtain ⟨a, c, rfl, hc⟩ := hr.openR
  clear hr
  obtain ⟨n, hnn⟩ : ∃ n, fs.length = n := ⟨_, rfl⟩
  rw [hnn] at hn ⊢
  replace hnn := hide hnn
  go_enter Try.func16, Try.ntmps16
  go_wp2_with (at_make; refine wpList_make_full _ rfl _ _ 47 rfl w.heap.size 39 i0 (.agg (rcC rcZ)) 11 Try.underlying47 hi hz0 hz1 _ _ _ _ n rfl rfl rfl rfl (by rw [hz2]; omega) (by unfold maxLen; omega) (Nat.le_refl _) ?_; intro w1 hown1 hgrow1)
  have hr0 : OwnN rcY w1 w.heap.size 39 (.slice (some ⟨w.heap.size, 0, none⟩) n n) (fs.take 0 ++ List.replicate (n - 0) rcZ) := OwnN.made rcZ rfl hown1
  have hb0 : Below w.heap.size w w1 := (Below.refl w.heap.size w).grown hgrow1 (Nat.le_refl _) (fun k hk => by cases hk)
  clear hown1 hgrow1
  go_loopw [4] (fun ti wr => ∃ k : Nat, k ≤ n ∧ ti = .int .i64 k ∧ OwnN rcY wr w.heap.size 39 (.slice (some ⟨w.heap.size, 0, none⟩) n n) (fs.take k ++ List.replicate (n - k) rcZ) ∧ Below w.heap.size w wr) (fun ti _ => n - (intOf ti).toNat)
  case atStart => exact ⟨0, Nat.zero_le _, rfl, hr0, hb0⟩
  case round =>
    obtain ⟨k, hk, rfl, ho, hb⟩ := hrel
    by_cases hlt : k < n
    · have hk' : k < fs.length := by rw [unhide hnn]; exact hlt
      obtain ⟨f, hf⟩ : ∃ f, fs[k]? = some f := ⟨fs[k], List.getElem?_eq_getElem hk'⟩
      obtain ⟨g, o, rfl, hg, hat⟩ := hc k f hf
      have hatw := hat.below hb hg
      have hss := hb.size
      replace hf := hide hf
      have hlk : (k : Int) < (n : Int) := by omega
      clear hc hat hr0 hb0
      go_wp2_with (first
        | (refine wpList_load_n (L := rcY) rfl 28 (.tmp 18) rfl g (o + k * 11) rfl f hatw _ Try.underlying28 rfl ?_)
        | (go_at_call 9; refine (toRec_any f _).mono ?_; rintro e w2 ⟨rfl, hb1⟩; have ho1 := ho.below hb1)
        | (refine wpList_store_n (L := rcY) rfl 39 (.tmp 21) (.tmp 20) rfl (k := k) rfl f rfl ho1 hlt rfl ?_; intro w3 ho2 hg2 hs2)
        | fail)
      rw [take_fillN (unhide hf) (unhide hnn)] at ho2
      go_roundw
      case rel => exact ⟨k + 1, by omega, by go_num, ho2, (hb.trans (hb1.mono hss)).grown hg2 (by have := hb1.size; omega) (fun j hj => by cases hj; exact Nat.le_refl _)⟩
      case measure => simp [intOf]; omega
    · have e1 : k = n := by omega
      have e2 : fs.take k ++ List.replicate (n - k) rcZ = fs := by
        rw [e1, Nat.sub_self, List.take_of_length_le (by rw [unhide hnn]; exact Nat.le_refl _)]
        simp
      rw [e2] at ho
      go_wp2
      go_ret
      exact ⟨⟨_, _, rfl, ho⟩, hb⟩
set_option maxRecDepth 20000 in
set_option maxHeartbeats 4000000 in
theorem eqRecS_any (fs : List Rc) (v1 v2 : Value) (w : World) (hr1 : RdN rcY w v1 fs) (hr2 : RdN rcY w v2 fs) (hn : fs.length ≤ 2000000) :
    Calls Try.prog 18 #[v1, v2] w fun e w' => e = .returned (.bool true) ∧ Below w.heap.size w w' := by
  obtain ⟨a1, c1, rfl, hc1⟩ := hr1.openR
  obtain ⟨a2, c2, rfl, hc2⟩ := hr2.openR
  clear hr1 hr2
  obtain ⟨n, hnn⟩ : ∃ n, fs.length = n := ⟨_, rfl⟩
  rw [hnn] at hn ⊢
  replace hnn := hide hnn
  go_enter Try.func18, Try.ntmps18
  go_wp2
  go_loopw [5] (fun ti wr => ∃ k : Nat, k ≤ n ∧ ti = .int .i64 k ∧ Below w.heap.size w wr) (fun ti _ => n - (intOf ti).toNat)
  case atStart => exact ⟨0, Nat.zero_le _, rfl, Below.refl _ _⟩
  case round =>
    obtain ⟨k, hk, rfl, hb⟩ := hrel
    by_cases hlt : k < n
    · have hk' : k < fs.length := by rw [unhide hnn]; exact hlt
      obtain ⟨f, hf⟩ : ∃ f, fs[k]? = some f := ⟨fs[k], List.getElem?_eq_getElem hk'⟩
      obtain ⟨g1, o1, rfl, hg1, hat1⟩ := hc1 k f hf
      obtain ⟨g2, o2, rfl, hg2, hat2⟩ := hc2 k f hf
      have hA1 := hide (hat1.below hb hg1)
      have hA2 := hide (hat2.below hb hg2)
      have hss := hb.size
      have hgw1 : g1 < wr.heap.size := by omega
      have hgw2 : g2 < wr.heap.size := by omega
      have hi0 : (0 : Int) ≤ (k : Int) := by omega
      have hi1 : (k : Int) < (n : Int) := by omega
      replace hf := hide hf
      clear hc1 hc2 hat1 hat2
      have C := hide (fun W => eqRec_any f W)
      obtain ⟨kd, tx, nm, ⟨id, kind, hid, fix, sgn, wrp, val, nxt⟩⟩ := f
      obtain ⟨d0, d1, d2, d3, d4, d5, d6, d7, d8, d9, d10⟩ := AtN.rc (o := o1 + k * 11) (unhide hA1)
      obtain ⟨e0, e1, e2, e3, e4, e5, e6, e7, e8, e9, e10⟩ := AtN.rc (o := o2 + k * 11) (unhide hA2)
      go_wp2
      go_region_held3 (fun W => W.cell? ⟨g1, o1 + k * 11, none⟩ = some (.int .i64 kd) ∧ W.cell? ⟨g1, o1 + k * 11 + 1, none⟩ = some (.string tx) ∧ W.cell? ⟨g1, o1 + k * 11 + 2, none⟩ = some (.int .i64 nm) ∧ W.cell? ⟨g1, o1 + k * 11 + 3, none⟩ = some (.int .i64 id) ∧ W.cell? ⟨g1, o1 + k * 11 + 4, none⟩ = some (.int .i64 kind) ∧ W.cell? ⟨g1, o1 + k * 11 + 5, none⟩ = some (.bool hid) ∧ W.cell? ⟨g1, o1 + k * 11 + 6, none⟩ = some (.bool fix) ∧ W.cell? ⟨g1, o1 + k * 11 + 7, none⟩ = some (.bool sgn) ∧ W.cell? ⟨g1, o1 + k * 11 + 8, none⟩ = some (.bool wrp) ∧ W.cell? ⟨g1, o1 + k * 11 + 9, none⟩ = some (.string val) ∧ W.cell? ⟨g1, o1 + k * 11 + 10, none⟩ = some (.int .i64 nxt) ∧ W.cell? ⟨g2, o2 + k * 11, none⟩ = some (.int .i64 kd) ∧ W.cell? ⟨g2, o2 + k * 11 + 1, none⟩ = some (.string tx) ∧ W.cell? ⟨g2, o2 + k * 11 + 2, none⟩ = some (.int .i64 nm) ∧ W.cell? ⟨g2, o2 + k * 11 + 3, none⟩ = some (.int .i64 id) ∧ W.cell? ⟨g2, o2 + k * 11 + 4, none⟩ = some (.int .i64 kind) ∧ W.cell? ⟨g2, o2 + k * 11 + 5, none⟩ = some (.bool hid) ∧ W.cell? ⟨g2, o2 + k * 11 + 6, none⟩ = some (.bool fix) ∧ W.cell? ⟨g2, o2 + k * 11 + 7, none⟩ = some (.bool sgn) ∧ W.cell? ⟨g2, o2 + k * 11 + 8, none⟩ = some (.bool wrp) ∧ W.cell? ⟨g2, o2 + k * 11 + 9, none⟩ = some (.string val) ∧ W.cell? ⟨g2, o2 + k * 11 + 10, none⟩ = some (.int .i64 nxt)) (first | exact ⟨d0, d1, d2, d3, d4, d5, d6, d7, d8, d9, d10, e0, e1, e2, e3, e4, e5, e6, e7, e8, e9, e10⟩ | (obtain ⟨p0, p1, p2, p3, p4, p5, p6, p7, p8, p9, p10⟩ := AtN.rc (o := o1 + k * 11) (AtN.below (w := wr.drew) (unhide hA1) hb1 hgw1); obtain ⟨q0, q1, q2, q3, q4, q5, q6, q7, q8, q9, q10⟩ := AtN.rc (o := o2 + k * 11) (AtN.below (w := wr.drew) (unhide hA2) hb1 hgw2); exact ⟨p0, p1, p2, p3, p4, p5, p6, p7, p8, p9, p10, q0, q1, q2, q3, q4, q5, q6, q7, q8, q9, q10⟩)) (first | (go_at_call 39; refine ((unhide C) _).mono ?_; rintro e w1 ⟨rfl, hb1⟩))
      go_wp2
      go_roundw
      case rel => exact ⟨k + 1, by omega, by go_num, hb.drew.trans (hb1.mono hss)⟩
      case measure => simp [intOf]; omega
    · go_wp2
      go_ret
      exact ⟨rfl, hb⟩
end Go.Proofs.Ytkbbcjnickgfjab

/- The laws' marks on rows of records of the call's own, and that they are found. -/
namespace Go.Proofs.Ytkbbcjnickgfjab
open Go.RowKit
def mkR0 (q : Nat) : Rc := ⟨(q : Int), mkS (q + 1), ((q + 2 : Nat) : Int), ⟨((q + 3 : Nat) : Int), ((q + 4 : Nat) : Int), mb3 (q + 5), mb3 (q + 6), mb3 (q + 7), mb3 (q + 8), mkS (q + 9), ((q + 10 : Nat) : Int)⟩⟩
theorem mkR0_is (q : Nat) : (⟨(q : Int), mkS (q + 1), (q : Int) + 1 + 1, ⟨(q : Int) + 1 + 1 + 1, (q : Int) + 1 + 1 + 1 + 1, (((q : Int) + 1 + 1 + 1 + 1 + 1) % 3 == 0), (((q : Int) + 1 + 1 + 1 + 1 + 1 + 1) % 3 == 0), (((q : Int) + 1 + 1 + 1 + 1 + 1 + 1 + 1) % 3 == 0), (((q : Int) + 1 + 1 + 1 + 1 + 1 + 1 + 1 + 1) % 3 == 0), mkS (q + 9), (q : Int) + 1 + 1 + 1 + 1 + 1 + 1 + 1 + 1 + 1 + 1⟩⟩ : Rc) = mkR0 q := by
  unfold mkR0 mb3
  have e : ∀ z : Int, (z == 0) = decide (z = 0) := fun z => by rw [Bool.eq_iff_iff]; simp
  simp only [e]
  congr 1
def mkR1 (k i : Nat) : Rc := mkR0 (k + 11 * i)
def mkR (k n : Nat) : List Rc := (List.range n).map (mkR1 k)
theorem mkR_len (k n : Nat) : (mkR k n).length = n := by unfold mkR; simp
theorem mkR_succ (k n : Nat) : mkR k (n + 1) = mkR k n ++ [mkR1 k n] := by unfold mkR; rw [List.range_succ, List.map_append]; rfl
theorem mkR_at (k n i : Nat) (h : i < n) : (mkR k n)[i]? = some (mkR1 k i) := by unfold mkR; simp [h]
theorem mkR_set (k i : Nat) (fs : List Rc) (h : i < fs.length) : (mkR k i ++ fs.drop i).set i (mkR1 k i) = mkR k (i + 1) ++ fs.drop (i + 1) := by
  rw [List.drop_eq_getElem_cons h, List.set_append_right _ _ (by rw [mkR_len]; exact Nat.le_refl _), mkR_len, Nat.sub_self, List.set_cons_zero, mkR_succ]
  simp
theorem OwnN.r0 {w : World} {base g n c : Nat} {e : TypeId} {xs : List Rc} (h : OwnN rcY w base e (.slice (some ⟨g, 0, none⟩) n c) xs) {k : Nat} {x : Rc} (hk : xs[k]? = some x) (z : Int) :
    OwnN rcY (w.setCell ⟨g, k * 11, none⟩ (.int .i64 z)) base e (.slice (some ⟨g, 0, none⟩) n c) (xs.set k { x with kd := z }) :=
  h.set1 hk { x with kd := z } 0 (.int .i64 z) (by decide) rfl
theorem OwnN.r1 {w : World} {base g n c : Nat} {e : TypeId} {xs : List Rc} (h : OwnN rcY w base e (.slice (some ⟨g, 0, none⟩) n c) xs) {k : Nat} {x : Rc} (hk : xs[k]? = some x) (z : ByteArray) :
    OwnN rcY (w.setCell ⟨g, k * 11 + 1, none⟩ (.string z)) base e (.slice (some ⟨g, 0, none⟩) n c) (xs.set k { x with tx := z }) :=
  h.set1 hk { x with tx := z } 1 (.string z) (by decide) rfl
theorem OwnN.r2 {w : World} {base g n c : Nat} {e : TypeId} {xs : List Rc} (h : OwnN rcY w base e (.slice (some ⟨g, 0, none⟩) n c) xs) {k : Nat} {x : Rc} (hk : xs[k]? = some x) (z : Int) :
    OwnN rcY (w.setCell ⟨g, k * 11 + 2, none⟩ (.int .i64 z)) base e (.slice (some ⟨g, 0, none⟩) n c) (xs.set k { x with nm := z }) :=
  h.set1 hk { x with nm := z } 2 (.int .i64 z) (by decide) rfl
theorem OwnN.r3 {w : World} {base g n c : Nat} {e : TypeId} {xs : List Rc} (h : OwnN rcY w base e (.slice (some ⟨g, 0, none⟩) n c) xs) {k : Nat} {x : Rc} (hk : xs[k]? = some x) (z : Int) :
    OwnN rcY (w.setCell ⟨g, k * 11 + 3, none⟩ (.int .i64 z)) base e (.slice (some ⟨g, 0, none⟩) n c) (xs.set k { x with th := { x.th with id := z } }) :=
  h.set1 hk { x with th := { x.th with id := z } } 3 (.int .i64 z) (by decide) rfl
theorem OwnN.r4 {w : World} {base g n c : Nat} {e : TypeId} {xs : List Rc} (h : OwnN rcY w base e (.slice (some ⟨g, 0, none⟩) n c) xs) {k : Nat} {x : Rc} (hk : xs[k]? = some x) (z : Int) :
    OwnN rcY (w.setCell ⟨g, k * 11 + 4, none⟩ (.int .i64 z)) base e (.slice (some ⟨g, 0, none⟩) n c) (xs.set k { x with th := { x.th with kind := z } }) :=
  h.set1 hk { x with th := { x.th with kind := z } } 4 (.int .i64 z) (by decide) rfl
theorem OwnN.r5 {w : World} {base g n c : Nat} {e : TypeId} {xs : List Rc} (h : OwnN rcY w base e (.slice (some ⟨g, 0, none⟩) n c) xs) {k : Nat} {x : Rc} (hk : xs[k]? = some x) (z : Bool) :
    OwnN rcY (w.setCell ⟨g, k * 11 + 5, none⟩ (.bool z)) base e (.slice (some ⟨g, 0, none⟩) n c) (xs.set k { x with th := { x.th with hid := z } }) :=
  h.set1 hk { x with th := { x.th with hid := z } } 5 (.bool z) (by decide) rfl
theorem OwnN.r6 {w : World} {base g n c : Nat} {e : TypeId} {xs : List Rc} (h : OwnN rcY w base e (.slice (some ⟨g, 0, none⟩) n c) xs) {k : Nat} {x : Rc} (hk : xs[k]? = some x) (z : Bool) :
    OwnN rcY (w.setCell ⟨g, k * 11 + 6, none⟩ (.bool z)) base e (.slice (some ⟨g, 0, none⟩) n c) (xs.set k { x with th := { x.th with fix := z } }) :=
  h.set1 hk { x with th := { x.th with fix := z } } 6 (.bool z) (by decide) rfl
theorem OwnN.r7 {w : World} {base g n c : Nat} {e : TypeId} {xs : List Rc} (h : OwnN rcY w base e (.slice (some ⟨g, 0, none⟩) n c) xs) {k : Nat} {x : Rc} (hk : xs[k]? = some x) (z : Bool) :
    OwnN rcY (w.setCell ⟨g, k * 11 + 7, none⟩ (.bool z)) base e (.slice (some ⟨g, 0, none⟩) n c) (xs.set k { x with th := { x.th with sgn := z } }) :=
  h.set1 hk { x with th := { x.th with sgn := z } } 7 (.bool z) (by decide) rfl
theorem OwnN.r8 {w : World} {base g n c : Nat} {e : TypeId} {xs : List Rc} (h : OwnN rcY w base e (.slice (some ⟨g, 0, none⟩) n c) xs) {k : Nat} {x : Rc} (hk : xs[k]? = some x) (z : Bool) :
    OwnN rcY (w.setCell ⟨g, k * 11 + 8, none⟩ (.bool z)) base e (.slice (some ⟨g, 0, none⟩) n c) (xs.set k { x with th := { x.th with wrp := z } }) :=
  h.set1 hk { x with th := { x.th with wrp := z } } 8 (.bool z) (by decide) rfl
theorem OwnN.r9 {w : World} {base g n c : Nat} {e : TypeId} {xs : List Rc} (h : OwnN rcY w base e (.slice (some ⟨g, 0, none⟩) n c) xs) {k : Nat} {x : Rc} (hk : xs[k]? = some x) (z : ByteArray) :
    OwnN rcY (w.setCell ⟨g, k * 11 + 9, none⟩ (.string z)) base e (.slice (some ⟨g, 0, none⟩) n c) (xs.set k { x with th := { x.th with val := z } }) :=
  h.set1 hk { x with th := { x.th with val := z } } 9 (.string z) (by decide) rfl
theorem OwnN.r10 {w : World} {base g n c : Nat} {e : TypeId} {xs : List Rc} (h : OwnN rcY w base e (.slice (some ⟨g, 0, none⟩) n c) xs) {k : Nat} {x : Rc} (hk : xs[k]? = some x) (z : Int) :
    OwnN rcY (w.setCell ⟨g, k * 11 + 10, none⟩ (.int .i64 z)) base e (.slice (some ⟨g, 0, none⟩) n c) (xs.set k { x with th := { x.th with nxt := z } }) :=
  h.set1 hk { x with th := { x.th with nxt := z } } 10 (.int .i64 z) (by decide) rfl
set_option maxRecDepth 20000 in
set_option maxHeartbeats 4000000 in
theorem markRecS_any (v : Value) (base k : Nat) (fs : List Rc) (w : World) (hl : fs.length ≤ 2000000) (hk1 : 1 ≤ k) (hk : k ≤ 20000000) (hbase : base ≤ w.heap.size) (ho : OwnN rcY w base 39 v fs) :
    Calls Try.prog 19 #[v, .int .i64 k] w fun e w' => e = .returned (.int .i64 ((k + 11 * fs.length : Nat) : Int)) ∧ OwnN rcY w' base 39 v (mkR k fs.length) ∧ w.grownBy w' v.ownBlock := by
  rcases ho.open with ⟨rfl, a, c, rfl⟩ | ⟨g, c, rfl, hg1, hg2⟩
  · have HO := hide ho
    clear ho
    go_enter Try.func19, Try.ntmps19
    go_wp2
    refine wp_loop_rounds 1 ?_
    rw [rounds_succ]
    go_wp2
    go_ret
    exact ⟨rfl, unhide HO, gR _ _⟩
  · obtain ⟨n, hnn⟩ : ∃ n, fs.length = n := ⟨_, rfl⟩
    rw [hnn] at hl ho ⊢
    replace hnn := hide hnn
    go_enter Try.func19, Try.ntmps19
    go_wp2
    go_loopw [1, 5] (fun tk ti wr => ∃ i q : Nat, i ≤ n ∧ ti = .int .i64 i ∧ tk = .int .i64 q ∧ Hid (q = k + 11 * i) ∧ OwnN rcY wr base 39 (.slice (some ⟨g, 0, none⟩) n c) (mkR k i ++ fs.drop i) ∧ w.grownBy wr (some g)) (fun _ ti _ => n - (intOf ti).toNat)
    case atStart => exact ⟨0, k, Nat.zero_le _, rfl, rfl, rfl, ho, gR _ _⟩
    case round =>
      obtain ⟨i, q, hi, rfl, rfl, hq, hown, hb⟩ := hrel
      clear ho
      have hsz := hb.size
      have hbase' : base ≤ wr.heap.size := by omega
      by_cases hlt : i < n
      · have hi' : i < fs.length := by rw [unhide hnn]; exact hlt
        have HS := hide (mkR_set k i fs hi')
        have hq1 : 1 ≤ q := by have := unhide hq; omega
        have hq2 : q ≤ 900000000 := by have := unhide hq; omega
        have hlx : i < (mkR k i ++ fs.drop i).length := by rw [hown.len]; exact hlt
        obtain ⟨f0, hf0⟩ : ∃ f0, (mkR k i ++ fs.drop i)[i]? = some f0 := ⟨_, List.getElem?_eq_getElem hlx⟩
        have hfz := hown.frozen
        have hat := hown.at hf0
        obtain ⟨d0, d1, d2, d3, d4, d5, d6, d7, d8, d9, d10⟩ := AtN.rc (o := i * 11) hat
        obtain ⟨kd, tx, nm, ⟨id, kind, hid, fix, sgn, wrp, val, nxt⟩⟩ := f0
        replace hf0 := hide hf0
        have hlt' : (i : Int) < (n : Int) := by omega
        clear hat hlx
        have s0 := hide (show OwnN rcY (wr.setCell ⟨g, i * 11, none⟩ (.int .i64 ((q : Int)))) base 39 (.slice (some ⟨g, 0, none⟩) n c) ((mkR k i ++ fs.drop i).set i (⟨(q : Int), tx, nm, ⟨id, kind, hid, fix, sgn, wrp, val, nxt⟩⟩ : Rc)) from hown.r0 (unhide hf0) (q : Int))
        have hf1 := hide (set_getN (unhide hf0) (⟨(q : Int), tx, nm, ⟨id, kind, hid, fix, sgn, wrp, val, nxt⟩⟩ : Rc))
        have b1 := hide (gT hb (gS wr g (i * 11) (.int .i64 (q : Int))))
        go_wp2_with fail
        refine calls_gen (fun W => OwnN rcY W base 39 (.slice (some ⟨g, 0, none⟩) n c) ((mkR k i ++ fs.drop i).set i (⟨(q : Int), tx, nm, ⟨id, kind, hid, fix, sgn, wrp, val, nxt⟩⟩ : Rc)) ∧ w.grownBy W (some g)) ⟨unhide s0, unhide b1⟩ ?_
        clear s0 b1 hb hfz hown d0 d1 d2 d3 d4 d5 d6 d7 d8 d9 d10
        rintro W2 ⟨s5, bs5⟩
        refine (markText_at _ (q + 1) (by omega) _ (by omega) (by omega)).mono ?_
        rintro e w3 ⟨rfl, hb3⟩
        have t0 := s5.below hb3
        have bt0 := hide (gT bs5 (gB hb3 (some g)))
        have hfz := t0.frozen
        obtain ⟨d0, d1, d2, d3, d4, d5, d6, d7, d8, d9, d10⟩ := AtN.rc (o := i * 11) (t0.at (unhide hf1))
        dsimp only at d0 d1 d2 d3 d4 d5 d6 d7 d8 d9 d10
        have t1 := (show OwnN rcY (w3.setCell ⟨g, i * 11 + 1, none⟩ (.string (mkS (q + 1)))) base 39 (.slice (some ⟨g, 0, none⟩) n c) (((mkR k i ++ fs.drop i).set i (⟨(q : Int), tx, nm, ⟨id, kind, hid, fix, sgn, wrp, val, nxt⟩⟩ : Rc)).set i (⟨(q : Int), mkS (q + 1), nm, ⟨id, kind, hid, fix, sgn, wrp, val, nxt⟩⟩ : Rc)) from t0.r1 (unhide hf1) (mkS (q + 1)))
        rw [List.set_set] at t1
        have g1 := set_getN (unhide hf0) (⟨(q : Int), mkS (q + 1), nm, ⟨id, kind, hid, fix, sgn, wrp, val, nxt⟩⟩ : Rc)
        have t2 := (show OwnN rcY ((w3.setCell ⟨g, i * 11 + 1, none⟩ (.string (mkS (q + 1)))).setCell ⟨g, i * 11 + 2, none⟩ (.int .i64 ((q : Int) + 1 + 1))) base 39 (.slice (some ⟨g, 0, none⟩) n c) (((mkR k i ++ fs.drop i).set i (⟨(q : Int), mkS (q + 1), nm, ⟨id, kind, hid, fix, sgn, wrp, val, nxt⟩⟩ : Rc)).set i (⟨(q : Int), mkS (q + 1), (q : Int) + 1 + 1, ⟨id, kind, hid, fix, sgn, wrp, val, nxt⟩⟩ : Rc)) from t1.r2 g1 ((q : Int) + 1 + 1))
        rw [List.set_set] at t2
        have g2 := set_getN (unhide hf0) (⟨(q : Int), mkS (q + 1), (q : Int) + 1 + 1, ⟨id, kind, hid, fix, sgn, wrp, val, nxt⟩⟩ : Rc)
        have t3 := (show OwnN rcY (((w3.setCell ⟨g, i * 11 + 1, none⟩ (.string (mkS (q + 1)))).setCell ⟨g, i * 11 + 2, none⟩ (.int .i64 ((q : Int) + 1 + 1))).setCell ⟨g, i * 11 + 3, none⟩ (.int .i64 ((q : Int) + 1 + 1 + 1))) base 39 (.slice (some ⟨g, 0, none⟩) n c) (((mkR k i ++ fs.drop i).set i (⟨(q : Int), mkS (q + 1), (q : Int) + 1 + 1, ⟨id, kind, hid, fix, sgn, wrp, val, nxt⟩⟩ : Rc)).set i (⟨(q : Int), mkS (q + 1), (q : Int) + 1 + 1, ⟨(q : Int) + 1 + 1 + 1, kind, hid, fix, sgn, wrp, val, nxt⟩⟩ : Rc)) from t2.r3 g2 ((q : Int) + 1 + 1 + 1))
        rw [List.set_set] at t3
        have g3 := set_getN (unhide hf0) (⟨(q : Int), mkS (q + 1), (q : Int) + 1 + 1, ⟨(q : Int) + 1 + 1 + 1, kind, hid, fix, sgn, wrp, val, nxt⟩⟩ : Rc)
        have t4 := (show OwnN rcY ((((w3.setCell ⟨g, i * 11 + 1, none⟩ (.string (mkS (q + 1)))).setCell ⟨g, i * 11 + 2, none⟩ (.int .i64 ((q : Int) + 1 + 1))).setCell ⟨g, i * 11 + 3, none⟩ (.int .i64 ((q : Int) + 1 + 1 + 1))).setCell ⟨g, i * 11 + 4, none⟩ (.int .i64 ((q : Int) + 1 + 1 + 1 + 1))) base 39 (.slice (some ⟨g, 0, none⟩) n c) (((mkR k i ++ fs.drop i).set i (⟨(q : Int), mkS (q + 1), (q : Int) + 1 + 1, ⟨(q : Int) + 1 + 1 + 1, kind, hid, fix, sgn, wrp, val, nxt⟩⟩ : Rc)).set i (⟨(q : Int), mkS (q + 1), (q : Int) + 1 + 1, ⟨(q : Int) + 1 + 1 + 1, (q : Int) + 1 + 1 + 1 + 1, hid, fix, sgn, wrp, val, nxt⟩⟩ : Rc)) from t3.r4 g3 ((q : Int) + 1 + 1 + 1 + 1))
        rw [List.set_set] at t4
        have g4 := set_getN (unhide hf0) (⟨(q : Int), mkS (q + 1), (q : Int) + 1 + 1, ⟨(q : Int) + 1 + 1 + 1, (q : Int) + 1 + 1 + 1 + 1, hid, fix, sgn, wrp, val, nxt⟩⟩ : Rc)
        have t5 := (show OwnN rcY (((((w3.setCell ⟨g, i * 11 + 1, none⟩ (.string (mkS (q + 1)))).setCell ⟨g, i * 11 + 2, none⟩ (.int .i64 ((q : Int) + 1 + 1))).setCell ⟨g, i * 11 + 3, none⟩ (.int .i64 ((q : Int) + 1 + 1 + 1))).setCell ⟨g, i * 11 + 4, none⟩ (.int .i64 ((q : Int) + 1 + 1 + 1 + 1))).setCell ⟨g, i * 11 + 5, none⟩ (.bool ((((q : Int) + 1 + 1 + 1 + 1 + 1) % 3 == 0)))) base 39 (.slice (some ⟨g, 0, none⟩) n c) (((mkR k i ++ fs.drop i).set i (⟨(q : Int), mkS (q + 1), (q : Int) + 1 + 1, ⟨(q : Int) + 1 + 1 + 1, (q : Int) + 1 + 1 + 1 + 1, hid, fix, sgn, wrp, val, nxt⟩⟩ : Rc)).set i (⟨(q : Int), mkS (q + 1), (q : Int) + 1 + 1, ⟨(q : Int) + 1 + 1 + 1, (q : Int) + 1 + 1 + 1 + 1, (((q : Int) + 1 + 1 + 1 + 1 + 1) % 3 == 0), fix, sgn, wrp, val, nxt⟩⟩ : Rc)) from t4.r5 g4 ((((q : Int) + 1 + 1 + 1 + 1 + 1) % 3 == 0)))
        rw [List.set_set] at t5
        have g5 := set_getN (unhide hf0) (⟨(q : Int), mkS (q + 1), (q : Int) + 1 + 1, ⟨(q : Int) + 1 + 1 + 1, (q : Int) + 1 + 1 + 1 + 1, (((q : Int) + 1 + 1 + 1 + 1 + 1) % 3 == 0), fix, sgn, wrp, val, nxt⟩⟩ : Rc)
        have t6 := (show OwnN rcY ((((((w3.setCell ⟨g, i * 11 + 1, none⟩ (.string (mkS (q + 1)))).setCell ⟨g, i * 11 + 2, none⟩ (.int .i64 ((q : Int) + 1 + 1))).setCell ⟨g, i * 11 + 3, none⟩ (.int .i64 ((q : Int) + 1 + 1 + 1))).setCell ⟨g, i * 11 + 4, none⟩ (.int .i64 ((q : Int) + 1 + 1 + 1 + 1))).setCell ⟨g, i * 11 + 5, none⟩ (.bool ((((q : Int) + 1 + 1 + 1 + 1 + 1) % 3 == 0)))).setCell ⟨g, i * 11 + 6, none⟩ (.bool ((((q : Int) + 1 + 1 + 1 + 1 + 1 + 1) % 3 == 0)))) base 39 (.slice (some ⟨g, 0, none⟩) n c) (((mkR k i ++ fs.drop i).set i (⟨(q : Int), mkS (q + 1), (q : Int) + 1 + 1, ⟨(q : Int) + 1 + 1 + 1, (q : Int) + 1 + 1 + 1 + 1, (((q : Int) + 1 + 1 + 1 + 1 + 1) % 3 == 0), fix, sgn, wrp, val, nxt⟩⟩ : Rc)).set i (⟨(q : Int), mkS (q + 1), (q : Int) + 1 + 1, ⟨(q : Int) + 1 + 1 + 1, (q : Int) + 1 + 1 + 1 + 1, (((q : Int) + 1 + 1 + 1 + 1 + 1) % 3 == 0), (((q : Int) + 1 + 1 + 1 + 1 + 1 + 1) % 3 == 0), sgn, wrp, val, nxt⟩⟩ : Rc)) from t5.r6 g5 ((((q : Int) + 1 + 1 + 1 + 1 + 1 + 1) % 3 == 0)))
        rw [List.set_set] at t6
        have g6 := set_getN (unhide hf0) (⟨(q : Int), mkS (q + 1), (q : Int) + 1 + 1, ⟨(q : Int) + 1 + 1 + 1, (q : Int) + 1 + 1 + 1 + 1, (((q : Int) + 1 + 1 + 1 + 1 + 1) % 3 == 0), (((q : Int) + 1 + 1 + 1 + 1 + 1 + 1) % 3 == 0), sgn, wrp, val, nxt⟩⟩ : Rc)
        have t7 := (show OwnN rcY (((((((w3.setCell ⟨g, i * 11 + 1, none⟩ (.string (mkS (q + 1)))).setCell ⟨g, i * 11 + 2, none⟩ (.int .i64 ((q : Int) + 1 + 1))).setCell ⟨g, i * 11 + 3, none⟩ (.int .i64 ((q : Int) + 1 + 1 + 1))).setCell ⟨g, i * 11 + 4, none⟩ (.int .i64 ((q : Int) + 1 + 1 + 1 + 1))).setCell ⟨g, i * 11 + 5, none⟩ (.bool ((((q : Int) + 1 + 1 + 1 + 1 + 1) % 3 == 0)))).setCell ⟨g, i * 11 + 6, none⟩ (.bool ((((q : Int) + 1 + 1 + 1 + 1 + 1 + 1) % 3 == 0)))).setCell ⟨g, i * 11 + 7, none⟩ (.bool ((((q : Int) + 1 + 1 + 1 + 1 + 1 + 1 + 1) % 3 == 0)))) base 39 (.slice (some ⟨g, 0, none⟩) n c) (((mkR k i ++ fs.drop i).set i (⟨(q : Int), mkS (q + 1), (q : Int) + 1 + 1, ⟨(q : Int) + 1 + 1 + 1, (q : Int) + 1 + 1 + 1 + 1, (((q : Int) + 1 + 1 + 1 + 1 + 1) % 3 == 0), (((q : Int) + 1 + 1 + 1 + 1 + 1 + 1) % 3 == 0), sgn, wrp, val, nxt⟩⟩ : Rc)).set i (⟨(q : Int), mkS (q + 1), (q : Int) + 1 + 1, ⟨(q : Int) + 1 + 1 + 1, (q : Int) + 1 + 1 + 1 + 1, (((q : Int) + 1 + 1 + 1 + 1 + 1) % 3 == 0), (((q : Int) + 1 + 1 + 1 + 1 + 1 + 1) % 3 == 0), (((q : Int) + 1 + 1 + 1 + 1 + 1 + 1 + 1) % 3 == 0), wrp, val, nxt⟩⟩ : Rc)) from t6.r7 g6 ((((q : Int) + 1 + 1 + 1 + 1 + 1 + 1 + 1) % 3 == 0)))
        rw [List.set_set] at t7
        have g7 := set_getN (unhide hf0) (⟨(q : Int), mkS (q + 1), (q : Int) + 1 + 1, ⟨(q : Int) + 1 + 1 + 1, (q : Int) + 1 + 1 + 1 + 1, (((q : Int) + 1 + 1 + 1 + 1 + 1) % 3 == 0), (((q : Int) + 1 + 1 + 1 + 1 + 1 + 1) % 3 == 0), (((q : Int) + 1 + 1 + 1 + 1 + 1 + 1 + 1) % 3 == 0), wrp, val, nxt⟩⟩ : Rc)
        have t8 := (show OwnN rcY ((((((((w3.setCell ⟨g, i * 11 + 1, none⟩ (.string (mkS (q + 1)))).setCell ⟨g, i * 11 + 2, none⟩ (.int .i64 ((q : Int) + 1 + 1))).setCell ⟨g, i * 11 + 3, none⟩ (.int .i64 ((q : Int) + 1 + 1 + 1))).setCell ⟨g, i * 11 + 4, none⟩ (.int .i64 ((q : Int) + 1 + 1 + 1 + 1))).setCell ⟨g, i * 11 + 5, none⟩ (.bool ((((q : Int) + 1 + 1 + 1 + 1 + 1) % 3 == 0)))).setCell ⟨g, i * 11 + 6, none⟩ (.bool ((((q : Int) + 1 + 1 + 1 + 1 + 1 + 1) % 3 == 0)))).setCell ⟨g, i * 11 + 7, none⟩ (.bool ((((q : Int) + 1 + 1 + 1 + 1 + 1 + 1 + 1) % 3 == 0)))).setCell ⟨g, i * 11 + 8, none⟩ (.bool ((((q : Int) + 1 + 1 + 1 + 1 + 1 + 1 + 1 + 1) % 3 == 0)))) base 39 (.slice (some ⟨g, 0, none⟩) n c) (((mkR k i ++ fs.drop i).set i (⟨(q : Int), mkS (q + 1), (q : Int) + 1 + 1, ⟨(q : Int) + 1 + 1 + 1, (q : Int) + 1 + 1 + 1 + 1, (((q : Int) + 1 + 1 + 1 + 1 + 1) % 3 == 0), (((q : Int) + 1 + 1 + 1 + 1 + 1 + 1) % 3 == 0), (((q : Int) + 1 + 1 + 1 + 1 + 1 + 1 + 1) % 3 == 0), wrp, val, nxt⟩⟩ : Rc)).set i (⟨(q : Int), mkS (q + 1), (q : Int) + 1 + 1, ⟨(q : Int) + 1 + 1 + 1, (q : Int) + 1 + 1 + 1 + 1, (((q : Int) + 1 + 1 + 1 + 1 + 1) % 3 == 0), (((q : Int) + 1 + 1 + 1 + 1 + 1 + 1) % 3 == 0), (((q : Int) + 1 + 1 + 1 + 1 + 1 + 1 + 1) % 3 == 0), (((q : Int) + 1 + 1 + 1 + 1 + 1 + 1 + 1 + 1) % 3 == 0), val, nxt⟩⟩ : Rc)) from t7.r8 g7 ((((q : Int) + 1 + 1 + 1 + 1 + 1 + 1 + 1 + 1) % 3 == 0)))
        rw [List.set_set] at t8
        have g8 := set_getN (unhide hf0) (⟨(q : Int), mkS (q + 1), (q : Int) + 1 + 1, ⟨(q : Int) + 1 + 1 + 1, (q : Int) + 1 + 1 + 1 + 1, (((q : Int) + 1 + 1 + 1 + 1 + 1) % 3 == 0), (((q : Int) + 1 + 1 + 1 + 1 + 1 + 1) % 3 == 0), (((q : Int) + 1 + 1 + 1 + 1 + 1 + 1 + 1) % 3 == 0), (((q : Int) + 1 + 1 + 1 + 1 + 1 + 1 + 1 + 1) % 3 == 0), val, nxt⟩⟩ : Rc)
        have HB8 := hide (show w.grownBy ((((((((w3.setCell ⟨g, i * 11 + 1, none⟩ (.string (mkS (q + 1)))).setCell ⟨g, i * 11 + 2, none⟩ (.int .i64 ((q : Int) + 1 + 1))).setCell ⟨g, i * 11 + 3, none⟩ (.int .i64 ((q : Int) + 1 + 1 + 1))).setCell ⟨g, i * 11 + 4, none⟩ (.int .i64 ((q : Int) + 1 + 1 + 1 + 1))).setCell ⟨g, i * 11 + 5, none⟩ (.bool ((((q : Int) + 1 + 1 + 1 + 1 + 1) % 3 == 0)))).setCell ⟨g, i * 11 + 6, none⟩ (.bool ((((q : Int) + 1 + 1 + 1 + 1 + 1 + 1) % 3 == 0)))).setCell ⟨g, i * 11 + 7, none⟩ (.bool ((((q : Int) + 1 + 1 + 1 + 1 + 1 + 1 + 1) % 3 == 0)))).setCell ⟨g, i * 11 + 8, none⟩ (.bool ((((q : Int) + 1 + 1 + 1 + 1 + 1 + 1 + 1 + 1) % 3 == 0)))) (some g) from (gT (gT (gT (gT (gT (gT (gT (gT (unhide bt0) (gS _ g (i * 11 + 1) _)) (gS _ g (i * 11 + 2) _)) (gS _ g (i * 11 + 3) _)) (gS _ g (i * 11 + 4) _)) (gS _ g (i * 11 + 5) _)) (gS _ g (i * 11 + 6) _)) (gS _ g (i * 11 + 7) _)) (gS _ g (i * 11 + 8) _)))
        have hf8 := hide g8
        have T8 := hide t8
        clear t0 t1 t2 t3 t4 t5 t6 t7 t8 g1 g2 g3 g4 g5 g6 g7 g8 s5 bs5 bt0 hb3
        go_wp2_with fail
        refine calls_gen (fun W => OwnN rcY W base 39 (.slice (some ⟨g, 0, none⟩) n c) ((mkR k i ++ fs.drop i).set i (⟨(q : Int), mkS (q + 1), (q : Int) + 1 + 1, ⟨(q : Int) + 1 + 1 + 1, (q : Int) + 1 + 1 + 1 + 1, (((q : Int) + 1 + 1 + 1 + 1 + 1) % 3 == 0), (((q : Int) + 1 + 1 + 1 + 1 + 1 + 1) % 3 == 0), (((q : Int) + 1 + 1 + 1 + 1 + 1 + 1 + 1) % 3 == 0), (((q : Int) + 1 + 1 + 1 + 1 + 1 + 1 + 1 + 1) % 3 == 0), val, nxt⟩⟩ : Rc)) ∧ w.grownBy W (some g)) ⟨unhide T8, unhide HB8⟩ ?_
        clear T8 HB8 hfz d0 d1 d2 d3 d4 d5 d6 d7 d8 d9 d10
        rintro W4 ⟨s8, bs8⟩
        refine (markText_at _ (q + 9) (by omega) _ (by omega) (by omega)).mono ?_
        rintro e w5 ⟨rfl, hb5⟩
        have t0 := s8.below hb5
        have bt0 := gT bs8 (gB hb5 (some g))
        have hfz := t0.frozen
        obtain ⟨d0, d1, d2, d3, d4, d5, d6, d7, d8, d9, d10⟩ := AtN.rc (o := i * 11) (t0.at (unhide hf8))
        dsimp only at d0 d1 d2 d3 d4 d5 d6 d7 d8 d9 d10
        have t9 := (show OwnN rcY (w5.setCell ⟨g, i * 11 + 9, none⟩ (.string (mkS (q + 9)))) base 39 (.slice (some ⟨g, 0, none⟩) n c) (((mkR k i ++ fs.drop i).set i (⟨(q : Int), mkS (q + 1), (q : Int) + 1 + 1, ⟨(q : Int) + 1 + 1 + 1, (q : Int) + 1 + 1 + 1 + 1, (((q : Int) + 1 + 1 + 1 + 1 + 1) % 3 == 0), (((q : Int) + 1 + 1 + 1 + 1 + 1 + 1) % 3 == 0), (((q : Int) + 1 + 1 + 1 + 1 + 1 + 1 + 1) % 3 == 0), (((q : Int) + 1 + 1 + 1 + 1 + 1 + 1 + 1 + 1) % 3 == 0), val, nxt⟩⟩ : Rc)).set i (⟨(q : Int), mkS (q + 1), (q : Int) + 1 + 1, ⟨(q : Int) + 1 + 1 + 1, (q : Int) + 1 + 1 + 1 + 1, (((q : Int) + 1 + 1 + 1 + 1 + 1) % 3 == 0), (((q : Int) + 1 + 1 + 1 + 1 + 1 + 1) % 3 == 0), (((q : Int) + 1 + 1 + 1 + 1 + 1 + 1 + 1) % 3 == 0), (((q : Int) + 1 + 1 + 1 + 1 + 1 + 1 + 1 + 1) % 3 == 0), mkS (q + 9), nxt⟩⟩ : Rc)) from t0.r9 (unhide hf8) (mkS (q + 9)))
        rw [List.set_set] at t9
        have t10 := (show OwnN rcY ((w5.setCell ⟨g, i * 11 + 9, none⟩ (.string (mkS (q + 9)))).setCell ⟨g, i * 11 + 10, none⟩ (.int .i64 ((q : Int) + 1 + 1 + 1 + 1 + 1 + 1 + 1 + 1 + 1 + 1))) base 39 (.slice (some ⟨g, 0, none⟩) n c) (((mkR k i ++ fs.drop i).set i (⟨(q : Int), mkS (q + 1), (q : Int) + 1 + 1, ⟨(q : Int) + 1 + 1 + 1, (q : Int) + 1 + 1 + 1 + 1, (((q : Int) + 1 + 1 + 1 + 1 + 1) % 3 == 0), (((q : Int) + 1 + 1 + 1 + 1 + 1 + 1) % 3 == 0), (((q : Int) + 1 + 1 + 1 + 1 + 1 + 1 + 1) % 3 == 0), (((q : Int) + 1 + 1 + 1 + 1 + 1 + 1 + 1 + 1) % 3 == 0), mkS (q + 9), nxt⟩⟩ : Rc)).set i (⟨(q : Int), mkS (q + 1), (q : Int) + 1 + 1, ⟨(q : Int) + 1 + 1 + 1, (q : Int) + 1 + 1 + 1 + 1, (((q : Int) + 1 + 1 + 1 + 1 + 1) % 3 == 0), (((q : Int) + 1 + 1 + 1 + 1 + 1 + 1) % 3 == 0), (((q : Int) + 1 + 1 + 1 + 1 + 1 + 1 + 1) % 3 == 0), (((q : Int) + 1 + 1 + 1 + 1 + 1 + 1 + 1 + 1) % 3 == 0), mkS (q + 9), (q : Int) + 1 + 1 + 1 + 1 + 1 + 1 + 1 + 1 + 1 + 1⟩⟩ : Rc)) from t9.r10 (set_getN (unhide hf0) (⟨(q : Int), mkS (q + 1), (q : Int) + 1 + 1, ⟨(q : Int) + 1 + 1 + 1, (q : Int) + 1 + 1 + 1 + 1, (((q : Int) + 1 + 1 + 1 + 1 + 1) % 3 == 0), (((q : Int) + 1 + 1 + 1 + 1 + 1 + 1) % 3 == 0), (((q : Int) + 1 + 1 + 1 + 1 + 1 + 1 + 1) % 3 == 0), (((q : Int) + 1 + 1 + 1 + 1 + 1 + 1 + 1 + 1) % 3 == 0), mkS (q + 9), nxt⟩⟩ : Rc)) ((q : Int) + 1 + 1 + 1 + 1 + 1 + 1 + 1 + 1 + 1 + 1))
        rw [List.set_set] at t10
        have hfin : (⟨(q : Int), mkS (q + 1), (q : Int) + 1 + 1, ⟨(q : Int) + 1 + 1 + 1, (q : Int) + 1 + 1 + 1 + 1, (((q : Int) + 1 + 1 + 1 + 1 + 1) % 3 == 0), (((q : Int) + 1 + 1 + 1 + 1 + 1 + 1) % 3 == 0), (((q : Int) + 1 + 1 + 1 + 1 + 1 + 1 + 1) % 3 == 0), (((q : Int) + 1 + 1 + 1 + 1 + 1 + 1 + 1 + 1) % 3 == 0), mkS (q + 9), (q : Int) + 1 + 1 + 1 + 1 + 1 + 1 + 1 + 1 + 1 + 1⟩⟩ : Rc) = mkR1 k i := by unfold mkR1; rw [← unhide hq]; exact mkR0_is q
        rw [hfin, unhide HS] at t10
        have bt2 := gT (gT bt0 (gS w5 g (i * 11 + 9) (.string (mkS (q + 9))))) (gS _ g (i * 11 + 10) (.int .i64 ((q : Int) + 1 + 1 + 1 + 1 + 1 + 1 + 1 + 1 + 1 + 1)))
        clear hfin t9 t0 s8 bs8 hb5
        go_wp2
        have hk3 : ((q : Int) + 1 + 1 + 1 + 1 + 1 + 1 + 1 + 1 + 1 + 1 + 1) = ((k + 11 * (i + 1) : Nat) : Int) := by have := unhide hq; omega
        go_roundw
        case rel => exact ⟨i + 1, k + 11 * (i + 1), by omega, by go_num, by rw [← hk3], rfl, t10, bt2⟩
        case measure => simp [intOf]; omega
      · have he : i = n := by omega
        have hfin : ((k + 11 * n : Nat) : Int) = (q : Int) := by have := unhide hq; omega
        subst he
        rw [List.drop_of_length_le (by rw [unhide hnn]; exact Nat.le_refl _), List.append_nil] at hown
        replace hfin := hide hfin
        go_wp2
        go_ret
        exact ⟨by rw [unhide hfin]; rfl, hown, hb⟩
end Go.Proofs.Ytkbbcjnickgfjab

/- The law of records that are entered one after another, over the loaded program. -/
namespace Go.Proofs.Ytkbbcjnickgfjab
open Go.RowKit
theorem entAll_sm {b o : Bk} {l : List Rc} (h : BkSm b) (he : entAll b l = some o) : BkSm o := by
  induction l generalizing b with
  | nil => have e := Option.some.inj he; subst e; exact h
  | cons r l ih =>
    have he : (entB b r).bind (fun o => entAll o l) = some o := he
    cases hb : entB b r with
    | none => rw [hb] at he; cases he
    | some q => rw [hb] at he; exact ih (bkSm_ok (entB_ok hb).1) he
set_option maxRecDepth 20000 in
set_option maxHeartbeats 6400000 in
theorem lawEnterAll_any (b : Bk) (l : List Rc) (v u : Value) (w : World) (hr : RdBk w v b) (hz : BkTx b) (hl : RdN rcY w u l) (h1 : l.length ≤ maxLen) (h2 : ∀ r ∈ l, r.tx.size ≤ maxLen ∧ r.th.val.size ≤ maxLen) (CI : bkSz b ≤ 1048576 → l.length ≤ 1048576 → (∀ r ∈ l, r.tx.size ≤ 1048576) → ∀ (v u : Value) (W : World), RdBk W v b → RdN rcY W u l → Calls Try.prog 17 #[v, u] W fun e w' => EntRes 37 W (entAll b l) e w') :
    Calls Try.prog 4 #[v, u] w fun e w' => e = .returned (.bool true) ∧ Below w.heap.size w w' := by
  obtain ⟨a, n, c, rfl, hn, hu⟩ := hr.open
  subst hn
  obtain ⟨al, cl, rfl⟩ := hl.shape
  have CZ : Hid (∀ W : World, RdN thY W (.slice a b.ths.length c) b.ths → Calls Try.prog 5 #[.agg #[.string b.wd, .int .i64 b.tr, .slice a b.ths.length c, .int .i64 b.la, .string b.ch, .int .i64 b.ct], .int .i64 1048576] W fun e w' => (∃ z : Int, e = .returned (.int .i64 z) ∧ (z < 0 ∨ z = 1048576 - (bkSz b : Int) ∧ 0 ≤ z)) ∧ Below W.heap.size W w') := fun W h => szBook_any b _ 1048576 (by omega) W ⟨_, rfl, h⟩ hz
  have CR : Hid (∀ (L : Int), 0 ≤ L ∧ L ≤ 1048576 → ∀ W : World, RdN rcY W (.slice al l.length cl) l → Calls Try.prog 14 #[.slice al l.length cl, .int .i64 L] W fun e w' => (∃ z : Int, e = .returned (.int .i64 z) ∧ (z < 0 ∨ (0 ≤ z ∧ l.length ≤ 1048576 ∧ ∀ x ∈ l, x.tx.size ≤ 1048576))) ∧ Below W.heap.size W w') := fun L hL W h => szRecS_any l _ L hL W h h1 h2
  have HU := hide hu
  have HL := hide hl
  have HI := hide CI
  clear hr hu hl CI h1 h2
  obtain ⟨W0, hW, k0, T0, hs1⟩ := one_cb w #[.string b.wd, .int .i64 b.tr, .slice a b.ths.length c, .int .i64 b.la, .string b.ch, .int .i64 b.ct] 24
  replace k0 := hide k0; replace T0 := hide T0
  go_enter Try.func4, Try.ntmps4
  go_upto_region 1 with fail
  first | rw [hW] | skip
  clear hW hs1
  go_upto_region 3 with (first
    | (refine wpList_load_row (P := Try.prog) rfl 24 (.tmp 2) rfl w.heap.size rfl 24 #[.string b.wd, .int .i64 b.tr, .slice a b.ths.length c, .int .i64 b.la, .string b.ch, .int .i64 b.ct] (0, 0) _ (unhide k0) Try.underlying24 rfl rfl ?_)
    | (go_at_call 5; refine (unhide CZ _ ((unhide HU).below (unhide T0))).mono ?_; rintro e w1 ⟨⟨z, rfl, hzz⟩, hb1⟩)
    | fail)
  have k11 := hide ((unhide k0).step hb1)
  have T12 := hide ((unhide T0).trans (hb1.mono (unhide T0).size))
  clear k0 T0 hb1
  clear CZ
  rcases hzz with hzz | ⟨hzz, hz0⟩
  · clear HI CR
    go_wp2
    go_ret
    exact ⟨rfl, unhide T12⟩
  have CR2 := hide (unhide CR z (by omega))
  have hz2 : ¬ z < 0 := by omega
  have hbs : bkSz b ≤ 1048576 := by omega
  replace hzz := hide hzz
  clear CR hz0
  go_upto_region 6 with (first
    | (go_at_call 14; refine (unhide CR2 _ ((unhide HL).below (unhide T12))).mono ?_; rintro e w2 ⟨⟨z2, rfl, hzr⟩, hb2⟩)
    | fail)
  have k13 := hide ((unhide k11).step hb2)
  have T14 := hide ((unhide T12).trans (hb2.mono (unhide T12).size))
  clear k11 T12 hb2
  clear CR2
  rcases hzr with hzr | ⟨hzr, hln, htx⟩
  · clear HI
    go_wp2
    go_ret
    exact ⟨rfl, unhide T14⟩
  have hz3 : ¬ z2 < 0 := by omega
  clear hzz hzr hz2 hz
  have hsm : BkSm b := ⟨by unfold bkSz at hbs; omega, by unfold bkSz at hbs; omega, by unfold bkSz at hbs; omega, fun x hx => by have := thsSz_mem hx; unfold bkSz at hbs; omega⟩
  have hnb : b.ths.length ≤ 1048576 := hsm.1
  have hno : ((entAll b l).getD bkZ).ths.length ≤ 2000000 := by
    cases hE : entAll b l with
    | none => exact Nat.zero_le _
    | some o => have h := (entAll_sm hsm hE).1; show o.ths.length ≤ 2000000; omega
  have CS0 := fun (a1 : Option Addr) (c1 : Nat) (a2 : Option Addr) (c2 : Nat) (W : World) (h : RdN thY W (.slice a1 b.ths.length c1) b.ths) (h' : RdN rcY W (.slice a2 l.length c2) l) => specEnterAll_any b l (bkv b (.slice a1 b.ths.length c1)) (.slice a2 l.length c2) W ⟨_, rfl, h⟩ h' hln hsm
  have CI0 := fun (a1 : Option Addr) (c1 : Nat) (a2 : Option Addr) (c2 : Nat) (W : World) (h : RdN thY W (.slice a1 b.ths.length c1) b.ths) (h' : RdN rcY W (.slice a2 l.length c2) l) => unhide HI hbs hln htx (bkv b (.slice a1 b.ths.length c1)) (.slice a2 l.length c2) W ⟨_, rfl, h⟩ h'
  have CT : Hid (∀ a c (W : World), RdN thY W (.slice a b.ths.length c) b.ths → Calls Try.prog 8 #[.agg #[.string b.wd, .int .i64 b.tr, .slice a b.ths.length c, .int .i64 b.la, .string b.ch, .int .i64 b.ct]] W fun e w' => (∃ a c, e = .returned (.agg #[.string b.wd, .int .i64 b.tr, .slice a b.ths.length c, .int .i64 b.la, .string b.ch, .int .i64 b.ct]) ∧ OwnN thY w' W.heap.size 37 (.slice a b.ths.length c) b.ths) ∧ Below W.heap.size W w') := fun a c W h => toBook_any b _ W ⟨_, rfl, h⟩ hnb
  have CQ : Hid (∀ (W : World), RdN rcY W (.slice al l.length cl) l → Calls Try.prog 16 #[.slice al l.length cl] W fun e w' => (∃ a c, e = .returned (.slice a l.length c) ∧ OwnN rcY w' W.heap.size 39 (.slice a l.length c) l) ∧ Below W.heap.size W w') := fun W h => toRecS_any l _ W h hln
  have CEr : Hid (∀ a1 c1 a2 c2 (W : World), RdN rcY W (.slice a1 l.length c1) l → RdN rcY W (.slice a2 l.length c2) l → Calls Try.prog 18 #[.slice a1 l.length c1, .slice a2 l.length c2] W fun e w' => e = .returned (.bool true) ∧ Below W.heap.size W w') := fun a1 c1 a2 c2 W h1 h2 => eqRecS_any l _ _ W h1 h2 (by omega)
  clear HI
  unfold EntRes at CS0 CI0
  generalize (entAll b l).getD bkZ = o at *
  generalize (entAll b l).isSome = rb at *
  have CS : Hid (∀ a1 c1 a2 c2 (W : World), RdN thY W (.slice a1 b.ths.length c1) b.ths → RdN rcY W (.slice a2 l.length c2) l → Calls Try.prog 15 #[.agg #[.string b.wd, .int .i64 b.tr, .slice a1 b.ths.length c1, .int .i64 b.la, .string b.ch, .int .i64 b.ct], .slice a2 l.length c2] W fun e w' => (∃ a c, e = .returned (.tuple #[.agg #[.string o.wd, .int .i64 o.tr, .slice a o.ths.length c, .int .i64 o.la, .string o.ch, .int .i64 o.ct], .bool rb]) ∧ OwnN thY w' W.heap.size 37 (.slice a o.ths.length c) o.ths) ∧ Below W.heap.size W w') := CS0
  have CI : Hid (∀ a1 c1 a2 c2 (W : World), RdN thY W (.slice a1 b.ths.length c1) b.ths → RdN rcY W (.slice a2 l.length c2) l → Calls Try.prog 17 #[.agg #[.string b.wd, .int .i64 b.tr, .slice a1 b.ths.length c1, .int .i64 b.la, .string b.ch, .int .i64 b.ct], .slice a2 l.length c2] W fun e w' => (∃ a c, e = .returned (.tuple #[.agg #[.string o.wd, .int .i64 o.tr, .slice a o.ths.length c, .int .i64 o.la, .string o.ch, .int .i64 o.ct], .bool rb]) ∧ OwnN thY w' W.heap.size 37 (.slice a o.ths.length c) o.ths) ∧ Below W.heap.size W w') := CI0
  have CEo : Hid (∀ a1 c1 a2 c2 (W : World), RdN thY W (.slice a1 o.ths.length c1) o.ths → RdN thY W (.slice a2 o.ths.length c2) o.ths → Calls Try.prog 11 #[.agg #[.string o.wd, .int .i64 o.tr, .slice a1 o.ths.length c1, .int .i64 o.la, .string o.ch, .int .i64 o.ct], .agg #[.string o.wd, .int .i64 o.tr, .slice a2 o.ths.length c2, .int .i64 o.la, .string o.ch, .int .i64 o.ct]] W fun e w' => e = .returned (.bool true) ∧ Below W.heap.size W w') := fun a1 c1 a2 c2 W h1 h2 => eqBook_any o _ _ W ⟨_, rfl, h1⟩ ⟨_, rfl, h2⟩ (hno)
  have CMo : Hid (∀ a c base (W : World), base ≤ W.heap.size → OwnN thY W base 37 (.slice a o.ths.length c) o.ths → Calls Try.prog 12 #[.agg #[.string o.wd, .int .i64 o.tr, .slice a o.ths.length c, .int .i64 o.la, .string o.ch, .int .i64 o.ct], .int .i64 1] W fun e w' => e = .returned (.int .i64 ((1 + 8 * o.ths.length : Nat) : Int)) ∧ OwnN thY w' base 37 (.slice a o.ths.length c) (mkT 1 o.ths.length) ∧ W.grownBy w' (Value.slice a o.ths.length c).ownBlock) := fun a c base W hb h => markBook_any o _ base 1 _ W rfl (hno) (by decide) (by decide) hb h
  have CEb : Hid (∀ a1 c1 a2 c2 (W : World), RdN thY W (.slice a1 b.ths.length c1) b.ths → RdN thY W (.slice a2 b.ths.length c2) b.ths → Calls Try.prog 11 #[.agg #[.string b.wd, .int .i64 b.tr, .slice a1 b.ths.length c1, .int .i64 b.la, .string b.ch, .int .i64 b.ct], .agg #[.string b.wd, .int .i64 b.tr, .slice a2 b.ths.length c2, .int .i64 b.la, .string b.ch, .int .i64 b.ct]] W fun e w' => e = .returned (.bool true) ∧ Below W.heap.size W w') := fun a1 c1 a2 c2 W h1 h2 => eqBook_any b _ _ W ⟨_, rfl, h1⟩ ⟨_, rfl, h2⟩ (by omega)
  have CMb : Hid (∀ a c base (W : World), base ≤ W.heap.size → OwnN thY W base 37 (.slice a b.ths.length c) b.ths → Calls Try.prog 12 #[.agg #[.string b.wd, .int .i64 b.tr, .slice a b.ths.length c, .int .i64 b.la, .string b.ch, .int .i64 b.ct], .int .i64 1] W fun e w' => e = .returned (.int .i64 ((1 + 8 * b.ths.length : Nat) : Int)) ∧ OwnN thY w' base 37 (.slice a b.ths.length c) (mkT 1 b.ths.length) ∧ W.grownBy w' (Value.slice a b.ths.length c).ownBlock) := fun a c base W hb h => markBook_any b _ base 1 _ W rfl (by omega) (by decide) (by decide) hb h
  have CH : Hid (∀ a c (W : World), RdN thY W (.slice a o.ths.length c) (mkT 1 o.ths.length) → Calls Try.prog 13 #[.agg #[.string o.wd, .int .i64 o.tr, .slice a o.ths.length c, .int .i64 o.la, .string o.ch, .int .i64 o.ct], .int .i64 1] W fun e w' => e = .returned (.int .i64 ((1 + 8 * o.ths.length : Nat) : Int)) ∧ Below W.heap.size W w') := fun a c W h => heldBook_any o _ 1 _ _ W rfl hno (by decide) (by decide) h
  obtain ⟨Mo, hMo⟩ : ∃ M : Nat, M = 1 + 8 * o.ths.length := ⟨_, rfl⟩
  obtain ⟨Mb, hMb⟩ : ∃ M : Nat, M = 1 + 8 * b.ths.length := ⟨_, rfl⟩
  have CMr : Hid (∀ a c base (W : World), base ≤ W.heap.size → OwnN rcY W base 39 (.slice a l.length c) l → Calls Try.prog 19 #[.slice a l.length c, .int .i64 (Mb : Int)] W fun e w' => e = .returned (.int .i64 ((Mb + 11 * l.length : Nat) : Int)) ∧ OwnN rcY w' base 39 (.slice a l.length c) (mkR Mb l.length) ∧ W.grownBy w' (Value.slice a l.length c).ownBlock) := fun a c base W hb h => markRecS_any _ base Mb l W (by omega) (by omega) (by omega) hb h
  obtain ⟨Mr, hMr⟩ : ∃ M : Nat, M = Mb + 11 * l.length := ⟨_, rfl⟩
  rw [← hMo] at CMo CH
  rw [← hMb] at CMb
  rw [← hMr] at CMr
  have hMo0 : ¬ (Mo : Int) < 0 := by omega
  have hMr0 : ¬ (Mr : Int) < 0 := by omega
  clear CS0 CI0 hno hnb hsm htx hbs hMo hMr
  replace hMb := hide hMb; replace hln := hide hln
  obtain ⟨bs15, hbs15⟩ : ∃ z, z = w2.heap.size := ⟨_, rfl⟩
  have wb_bs15 : w.heap.size ≤ bs15 := by rw [hbs15]; exact (unhide T14).size
  replace hbs15 := hide hbs15
  go_upto_region 9 with (first
    | (refine wpList_load_row (P := Try.prog) rfl 24 (.tmp 2) rfl w.heap.size rfl 24 #[.string b.wd, .int .i64 b.tr, .slice a b.ths.length c, .int .i64 b.la, .string b.ch, .int .i64 b.ct] (0, 0) _ (unhide k13) Try.underlying24 rfl rfl ?_)
    | (go_at_call 8; refine (unhide CT _ _ _ ((unhide HU).below (unhide T14))).mono ?_; rintro e w19 ⟨⟨a16, c17, rfl, q18⟩, hb20⟩; have m21 : Below w2.heap.size w2 w19 := hb20)
    | (go_at_call 16; refine (unhide CQ _ ((unhide HL).below ((unhide T14).trans (m21.mono (unhide T14).size)))).mono ?_; rintro e w25 ⟨⟨a22, c23, rfl, q24⟩, hb26⟩; have m27 : Below w2.heap.size w2 w25 := m21.trans (hb26.mono m21.size))
    | (go_at_call 15; refine (unhide CS _ _ _ _ _ (q18.below hb26).rd q24.rd).mono ?_; rintro e w31 ⟨⟨a28, c29, rfl, q30⟩, hb32⟩; have m33 : Below w2.heap.size w2 w31 := m27.trans (hb32.mono m27.size); have HGm := hide (CB.new w31 #[.string ⟨#[]⟩, .int .i64 0, .slice none 0 0, .int .i64 0, .string ⟨#[]⟩, .int .i64 0] 33))
    | (refine wpList_store_row (P := Try.prog) rfl 33 (.tmp 6) (.tmp 33) rfl w31.heap.size #[.string o.wd, .int .i64 o.tr, .slice a28 o.ths.length c29, .int .i64 o.la, .string o.ch, .int .i64 o.ct] rfl rfl 33 _ (unhide HGm) rfl rfl (bkc_one _ _ _ _ _ _ _ _) ?_)
    | fail)
  have hGm := setRow_heap _ w31.heap.size _ #[.string o.wd, .int .i64 o.tr, .slice a28 o.ths.length c29, .int .i64 o.la, .string o.ch, .int .i64 o.ct] 33 (0, 0) (unhide HGm)
  have hbM := Go.below_setRow ((Below.refl w31.heap.size w31).alloc (Nat.le_refl _) (.cells #[.string ⟨#[]⟩, .int .i64 0, .slice none 0 0, .int .i64 0, .string ⟨#[]⟩, .int .i64 0] 33)) (Nat.le_refl _) #[.string o.wd, .int .i64 o.tr, .slice a28 o.ths.length c29, .int .i64 o.la, .string o.ch, .int .i64 o.ct]
  have hbN := m33.trans (hbM.mono m33.size)
  have hlow : bs15 ≤ w25.heap.size := by rw [unhide hbs15]; exact m27.size
  obtain ⟨g34, hgm⟩ : ∃ z, z = w31.heap.size := ⟨_, rfl⟩
  have l35 : bs15 ≤ g34 := by rw [hgm, unhide hbs15]; exact m33.size
  refine wp_gen (fun V => CB V w31.heap.size 33 #[.string o.wd, .int .i64 o.tr, .slice a28 o.ths.length c29, .int .i64 o.la, .string o.ch, .int .i64 o.ct] ∧ CB V w.heap.size 24 #[.string b.wd, .int .i64 b.tr, .slice a b.ths.length c, .int .i64 b.la, .string b.ch, .int .i64 b.ct] ∧ OwnN thY V bs15 37 (.slice a28 o.ths.length c29) o.ths ∧ Below w.heap.size w V) ⟨hGm, (unhide k13).step hbN, ((q30.below hbM).low hlow), (unhide T14).trans (hbN.mono (unhide T14).size)⟩ ?_
  clear k13 T14 hGm hbM hbN hlow HGm m21 hb20 m27 hb26 m33 hb32
  rw [← hgm]
  replace hgm := hide hgm
  rintro V38 ⟨k39, k40, o41, T42⟩
  replace k39 := hide k39
  replace k40 := hide k40
  replace o41 := hide o41
  replace T42 := hide T42
  clear hgm
  obtain ⟨bs43, hbs43⟩ : ∃ z, z = V38.heap.size := ⟨_, rfl⟩
  have wb_bs43 : w.heap.size ≤ bs43 := by rw [hbs43]; exact (unhide T42).size
  have sp_w0_bs43 : ∀ k, ((.slice a28 o.ths.length c29) : Value).ownBlock = some k → k < bs43 := fun k hk => by rw [hbs43]; exact ((unhide o41).lt k hk).2
  replace hbs43 := hide hbs43
  go_upto_region 10 with (first
    | (refine wpList_load_row (P := Try.prog) rfl 24 (.tmp 2) rfl w.heap.size rfl 24 #[.string b.wd, .int .i64 b.tr, .slice a b.ths.length c, .int .i64 b.la, .string b.ch, .int .i64 b.ct] (0, 0) _ (unhide k40) Try.underlying24 rfl rfl ?_)
    | (go_at_call 8; refine (unhide CT _ _ _ ((unhide HU).below (unhide T42))).mono ?_; rintro e w46 ⟨⟨a44, c45, rfl, o47⟩, hb48⟩; have HGm := hide (CB.new w46 #[.string ⟨#[]⟩, .int .i64 0, .slice none 0 0, .int .i64 0, .string ⟨#[]⟩, .int .i64 0] 33))
    | (refine wpList_store_row (P := Try.prog) rfl 33 (.tmp 8) (.tmp 36) rfl w46.heap.size #[.string b.wd, .int .i64 b.tr, .slice a44 b.ths.length c45, .int .i64 b.la, .string b.ch, .int .i64 b.ct] rfl rfl 33 _ (unhide HGm) rfl rfl (bkc_one _ _ _ _ _ _ _ _) ?_)
    | fail)
  have hGm := setRow_heap _ w46.heap.size _ #[.string b.wd, .int .i64 b.tr, .slice a44 b.ths.length c45, .int .i64 b.la, .string b.ch, .int .i64 b.ct] 33 (0, 0) (unhide HGm)
  have hbM := Go.below_setRow ((Below.refl w46.heap.size w46).alloc (Nat.le_refl _) (.cells #[.string ⟨#[]⟩, .int .i64 0, .slice none 0 0, .int .i64 0, .string ⟨#[]⟩, .int .i64 0] 33)) (Nat.le_refl _) #[.string b.wd, .int .i64 b.tr, .slice a44 b.ths.length c45, .int .i64 b.la, .string b.ch, .int .i64 b.ct]
  have hbN := hb48.trans (hbM.mono hb48.size)
  obtain ⟨g49, hgm⟩ : ∃ z, z = w46.heap.size := ⟨_, rfl⟩
  have l50 : bs43 ≤ g49 := by rw [hgm, unhide hbs43]; exact hb48.size
  refine wp_gen (fun V => CB V w46.heap.size 33 #[.string b.wd, .int .i64 b.tr, .slice a44 b.ths.length c45, .int .i64 b.la, .string b.ch, .int .i64 b.ct] ∧ CB V g34 33 #[.string o.wd, .int .i64 o.tr, .slice a28 o.ths.length c29, .int .i64 o.la, .string o.ch, .int .i64 o.ct] ∧ CB V w.heap.size 24 #[.string b.wd, .int .i64 b.tr, .slice a b.ths.length c, .int .i64 b.la, .string b.ch, .int .i64 b.ct] ∧ OwnN thY V bs43 37 (.slice a44 b.ths.length c45) b.ths ∧ OwnN thY V bs15 37 (.slice a28 o.ths.length c29) o.ths ∧ Below w.heap.size w V) ⟨hGm, (unhide k39).step hbN, (unhide k40).step hbN, (by rw [unhide hbs43]; exact o47.below hbM), (unhide o41).below hbN, (unhide T42).trans (hbN.mono (unhide T42).size)⟩ ?_
  clear k39 k40 o41 T42 hGm hbM hbN hb48 o47 HGm
  rw [← hgm]
  replace hgm := hide hgm
  rintro V53 ⟨k54, k55, k56, o57, o58, T59⟩
  replace k54 := hide k54
  replace k55 := hide k55
  replace k56 := hide k56
  replace o57 := hide o57
  replace o58 := hide o58
  replace T59 := hide T59
  clear hgm
  obtain ⟨bs60, hbs60⟩ : ∃ z, z = V53.heap.size := ⟨_, rfl⟩
  have wb_bs60 : w.heap.size ≤ bs60 := by rw [hbs60]; exact (unhide T59).size
  have sp_x0_bs60 : ∀ k, ((.slice a44 b.ths.length c45) : Value).ownBlock = some k → k < bs60 := fun k hk => by rw [hbs60]; exact ((unhide o57).lt k hk).2
  have sp_w0_bs60 : ∀ k, ((.slice a28 o.ths.length c29) : Value).ownBlock = some k → k < bs60 := fun k hk => by rw [hbs60]; exact ((unhide o58).lt k hk).2
  replace hbs60 := hide hbs60
  go_upto_region 11 with (first
    | (go_at_call 16; refine (unhide CQ _ ((unhide HL).below (unhide T59))).mono ?_; rintro e w63 ⟨⟨a61, c62, rfl, o64⟩, hb65⟩)
    | fail)
  have o66 := hide (show OwnN rcY w63 bs60 39 (.slice a61 l.length c62) l by rw [unhide hbs60]; exact o64)
  have sz_bs60 : bs60 ≤ w63.heap.size := by rw [unhide hbs60]; exact hb65.size
  clear o64
  have k67 := hide ((unhide k54).step hb65)
  have k68 := hide ((unhide k55).step hb65)
  have k69 := hide ((unhide k56).step hb65)
  have o70 := hide ((unhide o57).below hb65)
  have o71 := hide ((unhide o58).below hb65)
  have T72 := hide ((unhide T59).trans (hb65.mono (unhide T59).size))
  clear k54 k55 k56 o57 o58 T59 hb65
  obtain ⟨bs73, hbs73⟩ : ∃ z, z = w63.heap.size := ⟨_, rfl⟩
  have wb_bs73 : w.heap.size ≤ bs73 := by rw [hbs73]; exact (unhide T72).size
  have sp_x1_bs73 : ∀ k, ((.slice a61 l.length c62) : Value).ownBlock = some k → k < bs73 := fun k hk => by rw [hbs73]; exact ((unhide o66).lt k hk).2
  have sp_x0_bs73 : ∀ k, ((.slice a44 b.ths.length c45) : Value).ownBlock = some k → k < bs73 := fun k hk => by rw [hbs73]; exact ((unhide o70).lt k hk).2
  have sp_w0_bs73 : ∀ k, ((.slice a28 o.ths.length c29) : Value).ownBlock = some k → k < bs73 := fun k hk => by rw [hbs73]; exact ((unhide o71).lt k hk).2
  replace hbs73 := hide hbs73
  go_upto_region 12 with (first
    | (refine wpList_load_row (P := Try.prog) rfl 33 (.tmp 8) rfl g49 rfl 33 #[.string b.wd, .int .i64 b.tr, .slice a44 b.ths.length c45, .int .i64 b.la, .string b.ch, .int .i64 b.ct] (0, 0) _ (unhide k67) Try.underlying33 rfl rfl ?_)
    | (go_at_call 17; refine (unhide CI _ _ _ _ _ (unhide o70).rd (unhide o66).rd).mono ?_; rintro e w77 ⟨⟨a74, c75, rfl, q76⟩, hb78⟩; have m79 : Below w63.heap.size w63 w77 := hb78; have HGm := hide (CB.new w77 #[.string ⟨#[]⟩, .int .i64 0, .slice none 0 0, .int .i64 0, .string ⟨#[]⟩, .int .i64 0] 33))
    | (refine wpList_store_row (P := Try.prog) rfl 33 (.tmp 10) (.tmp 43) rfl w77.heap.size #[.string o.wd, .int .i64 o.tr, .slice a74 o.ths.length c75, .int .i64 o.la, .string o.ch, .int .i64 o.ct] rfl rfl 33 _ (unhide HGm) rfl rfl (bkc_one _ _ _ _ _ _ _ _) ?_)
    | fail)
  have hGm := setRow_heap _ w77.heap.size _ #[.string o.wd, .int .i64 o.tr, .slice a74 o.ths.length c75, .int .i64 o.la, .string o.ch, .int .i64 o.ct] 33 (0, 0) (unhide HGm)
  have hbM := Go.below_setRow ((Below.refl w77.heap.size w77).alloc (Nat.le_refl _) (.cells #[.string ⟨#[]⟩, .int .i64 0, .slice none 0 0, .int .i64 0, .string ⟨#[]⟩, .int .i64 0] 33)) (Nat.le_refl _) #[.string o.wd, .int .i64 o.tr, .slice a74 o.ths.length c75, .int .i64 o.la, .string o.ch, .int .i64 o.ct]
  have hbN := m79.trans (hbM.mono m79.size)
  have hlow : bs73 ≤ w63.heap.size := by rw [unhide hbs73]; exact Nat.le_refl _
  obtain ⟨g80, hgm⟩ : ∃ z, z = w77.heap.size := ⟨_, rfl⟩
  have l81 : bs73 ≤ g80 := by rw [hgm, unhide hbs73]; exact m79.size
  refine wp_gen (fun V => CB V w77.heap.size 33 #[.string o.wd, .int .i64 o.tr, .slice a74 o.ths.length c75, .int .i64 o.la, .string o.ch, .int .i64 o.ct] ∧ CB V g49 33 #[.string b.wd, .int .i64 b.tr, .slice a44 b.ths.length c45, .int .i64 b.la, .string b.ch, .int .i64 b.ct] ∧ CB V g34 33 #[.string o.wd, .int .i64 o.tr, .slice a28 o.ths.length c29, .int .i64 o.la, .string o.ch, .int .i64 o.ct] ∧ CB V w.heap.size 24 #[.string b.wd, .int .i64 b.tr, .slice a b.ths.length c, .int .i64 b.la, .string b.ch, .int .i64 b.ct] ∧ OwnN thY V bs73 37 (.slice a74 o.ths.length c75) o.ths ∧ OwnN rcY V bs60 39 (.slice a61 l.length c62) l ∧ OwnN thY V bs43 37 (.slice a44 b.ths.length c45) b.ths ∧ OwnN thY V bs15 37 (.slice a28 o.ths.length c29) o.ths ∧ Below w.heap.size w V) ⟨hGm, (unhide k67).step hbN, (unhide k68).step hbN, (unhide k69).step hbN, ((q76.below hbM).low hlow), (unhide o66).below hbN, (unhide o70).below hbN, (unhide o71).below hbN, (unhide T72).trans (hbN.mono (unhide T72).size)⟩ ?_
  clear k67 k68 k69 o66 o70 o71 T72 hGm hbM hbN hlow HGm m79 hb78
  rw [← hgm]
  replace hgm := hide hgm
  rintro V84 ⟨k85, k86, k87, k88, o89, o90, o91, o92, T93⟩
  replace k85 := hide k85
  replace k86 := hide k86
  replace k87 := hide k87
  replace k88 := hide k88
  replace o89 := hide o89
  replace o90 := hide o90
  replace o91 := hide o91
  replace o92 := hide o92
  replace T93 := hide T93
  clear hgm
  go_upto_region 14 with (first
    | (refine wpList_load_row (P := Try.prog) rfl 33 (.tmp 10) rfl g80 rfl 33 #[.string o.wd, .int .i64 o.tr, .slice a74 o.ths.length c75, .int .i64 o.la, .string o.ch, .int .i64 o.ct] (0, 0) _ (unhide k85) Try.underlying33 rfl rfl ?_)
    | (refine wpList_load_row (P := Try.prog) rfl 33 (.tmp 6) rfl g34 rfl 33 #[.string o.wd, .int .i64 o.tr, .slice a28 o.ths.length c29, .int .i64 o.la, .string o.ch, .int .i64 o.ct] (0, 0) _ (unhide k87) Try.underlying33 rfl rfl ?_)
    | (go_at_call 11; refine (unhide CEo _ _ _ _ _ (unhide o89).rd (unhide o92).rd).mono ?_; rintro e w3 ⟨rfl, hb3⟩)
    | fail)
  have k94 := hide ((unhide k85).step hb3)
  have k95 := hide ((unhide k86).step hb3)
  have k96 := hide ((unhide k87).step hb3)
  have k97 := hide ((unhide k88).step hb3)
  have o98 := hide ((unhide o89).below hb3)
  have o99 := hide ((unhide o90).below hb3)
  have o100 := hide ((unhide o91).below hb3)
  have o101 := hide ((unhide o92).below hb3)
  have T102 := hide ((unhide T93).trans (hb3.mono (unhide T93).size))
  clear k85 k86 k87 k88 o89 o90 o91 o92 T93 hb3
  refine wp_region_held_drew (S := fun V => Below w3.heap.size w3 V) (by kernel_rfl) (Below.refl _ w3).drew (fun hHeld => ?_)
  refine held_take (i := 0) 54 (v := .agg #[.string b.wd, .int .i64 b.tr, .slice a44 b.ths.length c45, .int .i64 b.la, .string b.ch, .int .i64 b.ct]) rfl rfl (by kernel_rfl) (by kernel_rfl) (by kernel_rfl) (fun _ _ _ h => h) (Or.inl ⟨by rfl, fun V hS => by have kx := (unhide k95).step hS; have x0 := kx.cell 0 (v := .string b.wd) rfl; have x1 := kx.cell 1 (v := .int .i64 b.tr) rfl; have x2 := kx.cell 2 (v := .slice a44 b.ths.length c45) rfl; have x3 := kx.cell 3 (v := .int .i64 b.la) rfl; have x4 := kx.cell 4 (v := .string b.ch) rfl; have x5 := kx.cell 5 (v := .int .i64 b.ct) rfl; go_simp⟩) hHeld ?_
  simp only [Act.put, List.setIfInBounds_toArray, List.set_cons_zero, List.set_cons_succ]
  refine held_take (i := 1) 55 (v := .agg #[.string b.wd, .int .i64 b.tr, .slice a b.ths.length c, .int .i64 b.la, .string b.ch, .int .i64 b.ct]) rfl rfl (by kernel_rfl) (by kernel_rfl) (by kernel_rfl) (fun _ _ _ h => h) (Or.inl ⟨by rfl, fun V hS => by have kx := (unhide k97).step hS; have x0 := kx.cell 0 (v := .string b.wd) rfl; have x1 := kx.cell 1 (v := .int .i64 b.tr) rfl; have x2 := kx.cell 2 (v := .slice a b.ths.length c) rfl; have x3 := kx.cell 3 (v := .int .i64 b.la) rfl; have x4 := kx.cell 4 (v := .string b.ch) rfl; have x5 := kx.cell 5 (v := .int .i64 b.ct) rfl; go_simp⟩) hHeld ?_
  simp only [Act.put, List.setIfInBounds_toArray, List.set_cons_zero, List.set_cons_succ]
  have m0 : Below w3.heap.size w3 w3.drew := (Below.refl _ w3).drew
  refine wpAnyH_ready (rs := [2]) (by kernel_rfl) (by simp) ?_
  refine AllReadyH.cons rfl (fun K hK => ?_) AllReadyH.nil
  go_simp
  refine (unhide CT _ _ _ ((unhide HU).below ((unhide T102).trans (m0.mono (unhide T102).size)))).mono ?_
  rintro e w103 ⟨⟨a104, c105, rfl, q106⟩, hb107⟩
  refine hK.out _ _ (hHeld.trans (hb107.mono hHeld.size)) (fun hHeld => ?_)
  have m108 := m0.trans (hb107.mono m0.size)
  have m109 := Below.refl w103.heap.size w103
  clear hK K
  refine wpAnyH_ready (rs := [3]) (by kernel_rfl) (by simp) ?_
  refine AllReadyH.cons rfl (fun K hK => ?_) AllReadyH.nil
  go_simp
  refine (unhide CEb _ _ _ _ _ ((unhide o100).below m108).rd ((q106).below m109).rd).mono ?_
  rintro e w110 ⟨rfl, hb114⟩
  refine hK.out _ _ (hHeld.trans (hb114.mono hHeld.size)) (fun hHeld => ?_)
  have m115 := m108.trans (hb114.mono m108.size)
  have m116 := m109.trans (hb114.mono m109.size)
  have m117 := Below.refl w110.heap.size w110
  clear hK K
  refine held_take (i := 4) 58 (v := .bool false) rfl rfl (by kernel_rfl) (by kernel_rfl) (by kernel_rfl) (fun _ _ _ h => h) (Or.inl ⟨by rfl, fun V hS => by go_simp⟩) hHeld ?_
  simp only [Act.put, List.setIfInBounds_toArray, List.set_cons_zero, List.set_cons_succ]
  refine wpAnyH_done (by kernel_rfl) ?_ _
  go_upto_region 16 with fail
  refine wp_gen (fun V => CB V g80 33 #[.string o.wd, .int .i64 o.tr, .slice a74 o.ths.length c75, .int .i64 o.la, .string o.ch, .int .i64 o.ct] ∧ CB V g49 33 #[.string b.wd, .int .i64 b.tr, .slice a44 b.ths.length c45, .int .i64 b.la, .string b.ch, .int .i64 b.ct] ∧ CB V g34 33 #[.string o.wd, .int .i64 o.tr, .slice a28 o.ths.length c29, .int .i64 o.la, .string o.ch, .int .i64 o.ct] ∧ CB V w.heap.size 24 #[.string b.wd, .int .i64 b.tr, .slice a b.ths.length c, .int .i64 b.la, .string b.ch, .int .i64 b.ct] ∧ OwnN thY V bs73 37 (.slice a74 o.ths.length c75) o.ths ∧ OwnN rcY V bs60 39 (.slice a61 l.length c62) l ∧ OwnN thY V bs43 37 (.slice a44 b.ths.length c45) b.ths ∧ OwnN thY V bs15 37 (.slice a28 o.ths.length c29) o.ths ∧ Below w.heap.size w V) ⟨(unhide k94).step hHeld, (unhide k95).step hHeld, (unhide k96).step hHeld, (unhide k97).step hHeld, (unhide o98).below hHeld, (unhide o99).below hHeld, (unhide o100).below hHeld, (unhide o101).below hHeld, (unhide T102).trans (hHeld.mono (unhide T102).size)⟩ ?_
  clear k94 k95 k96 k97 o98 o99 o100 o101 T102 hHeld m0 m115 m116 m117
  rintro V118 ⟨k119, k120, k121, k122, o123, o124, o125, o126, T127⟩
  replace k119 := hide k119
  replace k120 := hide k120
  replace k121 := hide k121
  replace k122 := hide k122
  replace o123 := hide o123
  replace o124 := hide o124
  replace o125 := hide o125
  replace o126 := hide o126
  replace T127 := hide T127
  go_upto_region 19 with (first
    | (go_at_call 16; refine (unhide CQ _ ((unhide HL).below (unhide T127))).mono ?_; rintro e w130 ⟨⟨a131, c132, rfl, q128⟩, hb129⟩)
    | (go_at_call 18; refine (unhide CEr _ _ _ _ _ ((unhide o124).below hb129).rd q128.rd).mono ?_; rintro e w33 ⟨rfl, hb33⟩; have hb34 := hb129.trans (hb33.mono hb129.size); clear hb33 hb129 q128)
    | fail)
  have k133 := hide ((unhide k119).step hb34)
  have k134 := hide ((unhide k120).step hb34)
  have k135 := hide ((unhide k121).step hb34)
  have k136 := hide ((unhide k122).step hb34)
  have o137 := hide ((unhide o123).below hb34)
  have o138 := hide ((unhide o124).below hb34)
  have o139 := hide ((unhide o125).below hb34)
  have o140 := hide ((unhide o126).below hb34)
  have T141 := hide ((unhide T127).trans (hb34.mono (unhide T127).size))
  clear k119 k120 k121 k122 o123 o124 o125 o126 T127 hb34
  go_upto_region 20 with (first
    | (refine wpList_load_row (P := Try.prog) rfl 33 (.tmp 8) rfl g49 rfl 33 #[.string b.wd, .int .i64 b.tr, .slice a44 b.ths.length c45, .int .i64 b.la, .string b.ch, .int .i64 b.ct] (0, 0) _ (unhide k134) Try.underlying33 rfl rfl ?_)
    | (go_at_call 12; refine (unhide CMb _ _ bs43 _ (by have p1 := (unhide k134).lt; omega) (unhide o139)).mono ?_; rintro e w4 ⟨rfl, hnew, hg4⟩)
    | fail)
  have hoff := fun k (hk : ((.slice a44 b.ths.length c45) : Value).ownBlock = some k) => (unhide o139).lt k hk
  have k142 := hide ((unhide k133).grown hg4 ((unhide o139).off (unhide k133) (by decide)))
  have k143 := hide ((unhide k134).grown hg4 ((unhide o139).off (unhide k134) (by decide)))
  have k144 := hide ((unhide k135).grown hg4 ((unhide o139).off (unhide k135) (by decide)))
  have k145 := hide ((unhide k136).grown hg4 ((unhide o139).off (unhide k136) (by decide)))
  have o146 := hide ((unhide o137).grown hg4 (fun k hk e => by have p1 := sp_x0_bs73 k e; have p2 := ((unhide o137).lt k hk).1; omega))
  have o147 := hide ((unhide o138).grown hg4 (fun k hk e => by have p1 := sp_x0_bs60 k e; have p2 := ((unhide o138).lt k hk).1; omega))
  have o148 := hide hnew
  have o149 := hide ((unhide o140).grown hg4 (fun k hk e => by have p1 := sp_w0_bs43 k hk; have p2 := (hoff k e).1; omega))
  have T150 := hide ((unhide T141).grown hg4 (unhide T141).size (fun k hk => by have p1 := (hoff k hk).1; omega))
  clear k133 k134 k135 k136 o137 o138 o139 o140 T141 hg4 hnew hoff
  go_upto_region 21 with (first
    | (go_at_call 19; refine (unhide CMr _ _ bs60 _ (by have p1 := (unhide k142).lt; have p2 := sz_bs60; have p3 := unhide hbs73; omega) (unhide o147)).mono ?_; rintro e w44 ⟨rfl, hnew, hg44⟩)
    | fail)
  have hoff := fun k (hk : ((.slice a61 l.length c62) : Value).ownBlock = some k) => (unhide o147).lt k hk
  have k151 := hide ((unhide k142).grown hg44 ((unhide o147).off (unhide k142) (by decide)))
  have k152 := hide ((unhide k143).grown hg44 ((unhide o147).off (unhide k143) (by decide)))
  have k153 := hide ((unhide k144).grown hg44 ((unhide o147).off (unhide k144) (by decide)))
  have k154 := hide ((unhide k145).grown hg44 ((unhide o147).off (unhide k145) (by decide)))
  have o155 := hide ((unhide o146).grown hg44 (fun k hk e => by have p1 := sp_x1_bs73 k e; have p2 := ((unhide o146).lt k hk).1; omega))
  have o156 := hide hnew
  have o157 := hide ((unhide o148).grown hg44 (fun k hk e => by have p1 := sp_x0_bs60 k hk; have p2 := (hoff k e).1; omega))
  have o158 := hide ((unhide o149).grown hg44 (fun k hk e => by have p1 := sp_w0_bs60 k hk; have p2 := (hoff k e).1; omega))
  have T159 := hide ((unhide T150).grown hg44 (unhide T150).size (fun k hk => by have p1 := (hoff k hk).1; omega))
  clear k142 k143 k144 k145 o146 o147 o148 o149 T150 hg44 hnew hoff
  have x160 := (unhide k151).cell 0 (v := .string o.wd) rfl
  have x161 := (unhide k151).cell 1 (v := .int .i64 o.tr) rfl
  have x162 := (unhide k151).cell 2 (v := .slice a74 o.ths.length c75) rfl
  have x163 := (unhide k151).cell 3 (v := .int .i64 o.la) rfl
  have x164 := (unhide k151).cell 4 (v := .string o.ch) rfl
  have x165 := (unhide k151).cell 5 (v := .int .i64 o.ct) rfl
  have x166 := (unhide k153).cell 0 (v := .string o.wd) rfl
  have x167 := (unhide k153).cell 1 (v := .int .i64 o.tr) rfl
  have x168 := (unhide k153).cell 2 (v := .slice a28 o.ths.length c29) rfl
  have x169 := (unhide k153).cell 3 (v := .int .i64 o.la) rfl
  have x170 := (unhide k153).cell 4 (v := .string o.ch) rfl
  have x171 := (unhide k153).cell 5 (v := .int .i64 o.ct) rfl
  go_wp2_with fail
  refine (unhide CEo _ _ _ _ _ (unhide o155).rd (unhide o158).rd).mono ?_
  rintro e w5 ⟨rfl, hb5⟩
  clear x160 x161 x162 x163 x164 x165 x166 x167 x168 x169 x170 x171
  have k172 := hide ((unhide k151).step hb5)
  have k173 := hide ((unhide k152).step hb5)
  have k174 := hide ((unhide k153).step hb5)
  have k175 := hide ((unhide k154).step hb5)
  have o176 := hide ((unhide o155).below hb5)
  have o177 := hide ((unhide o156).below hb5)
  have o178 := hide ((unhide o157).below hb5)
  have o179 := hide ((unhide o158).below hb5)
  have T180 := hide ((unhide T159).trans (hb5.mono (unhide T159).size))
  clear k151 k152 k153 k154 o155 o156 o157 o158 T159 hb5
  go_upto_region 24 with fail
  go_upto_region 25 with (first
    | (refine wpList_load_row (P := Try.prog) rfl 33 (.tmp 10) rfl g80 rfl 33 #[.string o.wd, .int .i64 o.tr, .slice a74 o.ths.length c75, .int .i64 o.la, .string o.ch, .int .i64 o.ct] (0, 0) _ (unhide k172) Try.underlying33 rfl rfl ?_)
    | (go_at_call 12; refine (unhide CMo _ _ bs73 _ (by have p1 := (unhide k172).lt; omega) (unhide o176)).mono ?_; rintro e w6 ⟨rfl, hnew, hg6⟩)
    | fail)
  have hoff := fun k (hk : ((.slice a74 o.ths.length c75) : Value).ownBlock = some k) => (unhide o176).lt k hk
  have k181 := hide ((unhide k172).grown hg6 ((unhide o176).off (unhide k172) (by decide)))
  have k182 := hide ((unhide k173).grown hg6 ((unhide o176).off (unhide k173) (by decide)))
  have k183 := hide ((unhide k174).grown hg6 ((unhide o176).off (unhide k174) (by decide)))
  have k184 := hide ((unhide k175).grown hg6 ((unhide o176).off (unhide k175) (by decide)))
  have o185 := hide hnew
  have o186 := hide ((unhide o177).grown hg6 (fun k hk e => by have p1 := sp_x1_bs73 k hk; have p2 := (hoff k e).1; omega))
  have o187 := hide ((unhide o178).grown hg6 (fun k hk e => by have p1 := sp_x0_bs73 k hk; have p2 := (hoff k e).1; omega))
  have o188 := hide ((unhide o179).grown hg6 (fun k hk e => by have p1 := sp_w0_bs73 k hk; have p2 := (hoff k e).1; omega))
  have T189 := hide ((unhide T180).grown hg6 (unhide T180).size (fun k hk => by have p1 := (hoff k hk).1; omega))
  clear k172 k173 k174 k175 o176 o177 o178 o179 T180 hg6 hnew hoff
  go_upto_region 31 with (first
    | (refine wpList_load_row (P := Try.prog) rfl 33 (.tmp 10) rfl g80 rfl 33 #[.string o.wd, .int .i64 o.tr, .slice a74 o.ths.length c75, .int .i64 o.la, .string o.ch, .int .i64 o.ct] (0, 0) _ (unhide k181) Try.underlying33 rfl rfl ?_)
    | (go_at_call 13; refine (unhide CH _ _ _ (unhide o185).rd).mono ?_; rintro e w7 ⟨rfl, hb7⟩)
    | fail)
  have k190 := hide ((unhide k181).step hb7)
  have k191 := hide ((unhide k182).step hb7)
  have k192 := hide ((unhide k183).step hb7)
  have k193 := hide ((unhide k184).step hb7)
  have o194 := hide ((unhide o185).below hb7)
  have o195 := hide ((unhide o186).below hb7)
  have o196 := hide ((unhide o187).below hb7)
  have o197 := hide ((unhide o188).below hb7)
  have T198 := hide ((unhide T189).trans (hb7.mono (unhide T189).size))
  clear k181 k182 k183 k184 o185 o186 o187 o188 T189 hb7
  obtain ⟨bs199, hbs199⟩ : ∃ z, z = w7.heap.size := ⟨_, rfl⟩
  have wb_bs199 : w.heap.size ≤ bs199 := by rw [hbs199]; exact (unhide T198).size
  have sp_g0_bs199 : ∀ k, ((.slice a74 o.ths.length c75) : Value).ownBlock = some k → k < bs199 := fun k hk => by rw [hbs199]; exact ((unhide o194).lt k hk).2
  have sp_x1_bs199 : ∀ k, ((.slice a61 l.length c62) : Value).ownBlock = some k → k < bs199 := fun k hk => by rw [hbs199]; exact ((unhide o195).lt k hk).2
  have sp_x0_bs199 : ∀ k, ((.slice a44 b.ths.length c45) : Value).ownBlock = some k → k < bs199 := fun k hk => by rw [hbs199]; exact ((unhide o196).lt k hk).2
  have sp_w0_bs199 : ∀ k, ((.slice a28 o.ths.length c29) : Value).ownBlock = some k → k < bs199 := fun k hk => by rw [hbs199]; exact ((unhide o197).lt k hk).2
  replace hbs199 := hide hbs199
  go_upto_region 32 with (first
    | (refine wpList_load_row (P := Try.prog) rfl 24 (.tmp 2) rfl w.heap.size rfl 24 #[.string b.wd, .int .i64 b.tr, .slice a b.ths.length c, .int .i64 b.la, .string b.ch, .int .i64 b.ct] (0, 0) _ (unhide k193) Try.underlying24 rfl rfl ?_)
    | (go_at_call 8; refine (unhide CT _ _ _ ((unhide HU).below (unhide T198))).mono ?_; rintro e w203 ⟨⟨a200, c201, rfl, q202⟩, hb204⟩; have m205 : Below w7.heap.size w7 w203 := hb204)
    | (go_at_call 16; refine (unhide CQ _ ((unhide HL).below ((unhide T198).trans (m205.mono (unhide T198).size)))).mono ?_; rintro e w209 ⟨⟨a206, c207, rfl, q208⟩, hb210⟩; have m211 : Below w7.heap.size w7 w209 := m205.trans (hb210.mono m205.size))
    | (go_at_call 17; refine (unhide CI _ _ _ _ _ (q202.below hb210).rd q208.rd).mono ?_; rintro e w215 ⟨⟨a212, c213, rfl, q214⟩, hb216⟩; have m217 : Below w7.heap.size w7 w215 := m211.trans (hb216.mono m211.size); have HGm := hide (CB.new w215 #[.string ⟨#[]⟩, .int .i64 0, .slice none 0 0, .int .i64 0, .string ⟨#[]⟩, .int .i64 0] 33))
    | (refine wpList_store_row (P := Try.prog) rfl 33 (.tmp 15) (.tmp 100) rfl w215.heap.size #[.string o.wd, .int .i64 o.tr, .slice a212 o.ths.length c213, .int .i64 o.la, .string o.ch, .int .i64 o.ct] rfl rfl 33 _ (unhide HGm) rfl rfl (bkc_one _ _ _ _ _ _ _ _) ?_)
    | fail)
  have hGm := setRow_heap _ w215.heap.size _ #[.string o.wd, .int .i64 o.tr, .slice a212 o.ths.length c213, .int .i64 o.la, .string o.ch, .int .i64 o.ct] 33 (0, 0) (unhide HGm)
  have hbM := Go.below_setRow ((Below.refl w215.heap.size w215).alloc (Nat.le_refl _) (.cells #[.string ⟨#[]⟩, .int .i64 0, .slice none 0 0, .int .i64 0, .string ⟨#[]⟩, .int .i64 0] 33)) (Nat.le_refl _) #[.string o.wd, .int .i64 o.tr, .slice a212 o.ths.length c213, .int .i64 o.la, .string o.ch, .int .i64 o.ct]
  have hbN := m217.trans (hbM.mono m217.size)
  have hlow : bs199 ≤ w209.heap.size := by rw [unhide hbs199]; exact m211.size
  obtain ⟨g218, hgm⟩ : ∃ z, z = w215.heap.size := ⟨_, rfl⟩
  have l219 : bs199 ≤ g218 := by rw [hgm, unhide hbs199]; exact m217.size
  refine wp_gen (fun V => CB V w215.heap.size 33 #[.string o.wd, .int .i64 o.tr, .slice a212 o.ths.length c213, .int .i64 o.la, .string o.ch, .int .i64 o.ct] ∧ CB V g80 33 #[.string o.wd, .int .i64 o.tr, .slice a74 o.ths.length c75, .int .i64 o.la, .string o.ch, .int .i64 o.ct] ∧ CB V g49 33 #[.string b.wd, .int .i64 b.tr, .slice a44 b.ths.length c45, .int .i64 b.la, .string b.ch, .int .i64 b.ct] ∧ CB V g34 33 #[.string o.wd, .int .i64 o.tr, .slice a28 o.ths.length c29, .int .i64 o.la, .string o.ch, .int .i64 o.ct] ∧ CB V w.heap.size 24 #[.string b.wd, .int .i64 b.tr, .slice a b.ths.length c, .int .i64 b.la, .string b.ch, .int .i64 b.ct] ∧ OwnN thY V bs199 37 (.slice a212 o.ths.length c213) o.ths ∧ OwnN thY V bs73 37 (.slice a74 o.ths.length c75) (mkT 1 o.ths.length) ∧ OwnN rcY V bs60 39 (.slice a61 l.length c62) (mkR Mb l.length) ∧ OwnN thY V bs43 37 (.slice a44 b.ths.length c45) (mkT 1 b.ths.length) ∧ OwnN thY V bs15 37 (.slice a28 o.ths.length c29) o.ths ∧ Below w.heap.size w V) ⟨hGm, (unhide k190).step hbN, (unhide k191).step hbN, (unhide k192).step hbN, (unhide k193).step hbN, ((q214.below hbM).low hlow), (unhide o194).below hbN, (unhide o195).below hbN, (unhide o196).below hbN, (unhide o197).below hbN, (unhide T198).trans (hbN.mono (unhide T198).size)⟩ ?_
  clear k190 k191 k192 k193 o194 o195 o196 o197 T198 hGm hbM hbN hlow HGm m205 hb204 m211 hb210 m217 hb216
  rw [← hgm]
  replace hgm := hide hgm
  rintro V222 ⟨k223, k224, k225, k226, k227, o228, o229, o230, o231, o232, T233⟩
  replace k223 := hide k223
  replace k224 := hide k224
  replace k225 := hide k225
  replace k226 := hide k226
  replace k227 := hide k227
  replace o228 := hide o228
  replace o229 := hide o229
  replace o230 := hide o230
  replace o231 := hide o231
  replace o232 := hide o232
  replace T233 := hide T233
  clear hgm
  go_upto_region 35 with (first
    | (refine wpList_load_row (P := Try.prog) rfl 33 (.tmp 15) rfl g218 rfl 33 #[.string o.wd, .int .i64 o.tr, .slice a212 o.ths.length c213, .int .i64 o.la, .string o.ch, .int .i64 o.ct] (0, 0) _ (unhide k223) Try.underlying33 rfl rfl ?_)
    | (refine wpList_load_row (P := Try.prog) rfl 33 (.tmp 6) rfl g34 rfl 33 #[.string o.wd, .int .i64 o.tr, .slice a28 o.ths.length c29, .int .i64 o.la, .string o.ch, .int .i64 o.ct] (0, 0) _ (unhide k226) Try.underlying33 rfl rfl ?_)
    | (go_at_call 11; refine (unhide CEo _ _ _ _ _ (unhide o228).rd (unhide o232).rd).mono ?_; rintro e w8 ⟨rfl, hb8⟩)
    | fail)
  have k234 := hide ((unhide k223).step hb8)
  have k235 := hide ((unhide k224).step hb8)
  have k236 := hide ((unhide k225).step hb8)
  have k237 := hide ((unhide k226).step hb8)
  have k238 := hide ((unhide k227).step hb8)
  have o239 := hide ((unhide o228).below hb8)
  have o240 := hide ((unhide o229).below hb8)
  have o241 := hide ((unhide o230).below hb8)
  have o242 := hide ((unhide o231).below hb8)
  have o243 := hide ((unhide o232).below hb8)
  have T244 := hide ((unhide T233).trans (hb8.mono (unhide T233).size))
  clear k223 k224 k225 k226 k227 o228 o229 o230 o231 o232 T233 hb8
  go_upto_region 40 with (first
    | (refine wpList_load_row (P := Try.prog) rfl 33 (.tmp 10) rfl g80 rfl 33 #[.string o.wd, .int .i64 o.tr, .slice a74 o.ths.length c75, .int .i64 o.la, .string o.ch, .int .i64 o.ct] (0, 0) _ (unhide k235) Try.underlying33 rfl rfl ?_)
    | (go_at_call 13; refine (unhide CH _ _ _ (unhide o240).rd).mono ?_; rintro e w9 ⟨rfl, hb9⟩)
    | fail)
  have k245 := hide ((unhide k234).step hb9)
  have k246 := hide ((unhide k235).step hb9)
  have k247 := hide ((unhide k236).step hb9)
  have k248 := hide ((unhide k237).step hb9)
  have k249 := hide ((unhide k238).step hb9)
  have o250 := hide ((unhide o239).below hb9)
  have o251 := hide ((unhide o240).below hb9)
  have o252 := hide ((unhide o241).below hb9)
  have o253 := hide ((unhide o242).below hb9)
  have o254 := hide ((unhide o243).below hb9)
  have T255 := hide ((unhide T244).trans (hb9.mono (unhide T244).size))
  clear k234 k235 k236 k237 k238 o239 o240 o241 o242 o243 T244 hb9
  clear CS CI CT CEo CEb CMo CMb CH CQ CEr CMr
  go_wp2
  go_ret
  exact ⟨rfl, unhide T255⟩
end Go.Proofs.Ytkbbcjnickgfjab

