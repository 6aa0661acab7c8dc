/- What laws.markFileS, markDisk, heldFileS, heldDisk come to: rows of files of the call's own are marked, and the marks are found. -/
import Derived.Test.YtfglljollonnfalMarkT
import Derived.Test.YtfglljollonnfalFiles
namespace Go.Proofs.Ytfglljollonnfal
open Go.RowKit

/-- The marks from k on, n files of them. -/
def mkF1 (k i : Nat) : Fl := ⟨mkS (k + 3 * i), mkS (k + 3 * i + 1), ((k + 3 * i + 2 : Nat) : Int)⟩
def mkF (k n : Nat) : List Fl := (List.range n).map (mkF1 k)
theorem mkF_len (k n : Nat) : (mkF k n).length = n := by unfold mkF; simp
theorem mkF_succ (k n : Nat) : mkF k (n + 1) = mkF k n ++ [mkF1 k n] := by unfold mkF; rw [List.range_succ, List.map_append]; rfl
theorem mkF_at (k n i : Nat) (h : i < n) : (mkF k n)[i]? = some (mkF1 k i) := by unfold mkF; simp [h]
theorem mkF_set (k i : Nat) (fs : List Fl) (h : i < fs.length) : (mkF k i ++ fs.drop i).set i (mkF1 k i) = mkF k (i + 1) ++ fs.drop (i + 1) := by
  rw [List.drop_eq_getElem_cons h, List.set_append_right _ _ (by rw [mkF_len]; exact Nat.le_refl _), mkF_len, Nat.sub_self, List.set_cons_zero, mkF_succ]
  simp

theorem OwnF.open {w : World} {base : Nat} {e : TypeId} {v : Value} {fs : List Fl} (h : OwnF w base e v fs) : (fs = [] ∧ ∃ a c, v = .slice a 0 c) ∨ ∃ g c, v = .slice (some ⟨g, 0, none⟩) fs.length c ∧ base ≤ g ∧ g < w.heap.size := by
  rcases h.2 with ⟨h1, h2⟩ | ⟨g, cap, cur, h1, hb, hg, _⟩
  · exact .inl ⟨List.eq_nil_of_length_eq_zero h2, none, 0, h1⟩
  · exact .inr ⟨g, cap, h1, hb, (Array.getElem?_eq_some_iff.1 hg).1⟩

set_option maxRecDepth 20000 in
set_option maxHeartbeats 2000000 in
theorem markFileS_any (v : Value) (base k : Nat) (fs : List Fl) (w : World) (hl : fs.length ≤ 2000000) (hk1 : 1 ≤ k) (hk : k ≤ 20000000) (hbase : base ≤ w.heap.size) (ho : OwnF w base 63 v fs) :
    Calls Try.prog 43 #[v, .int .i64 k] w fun e w' => e = .returned (.int .i64 ((k + 3 * fs.length : Nat) : Int)) ∧ OwnF w' base 63 v (mkF k fs.length) ∧ w.grownBy w' v.ownBlock := by
  rcases ho.open with ⟨rfl, a, c, rfl⟩ | ⟨g, c, rfl, hg1, hg2⟩
  · have HO := hide ho
    clear ho
    go_enter Try.func43, Try.ntmps43
    go_wp2
    refine wp_loop_rounds 1 ?_
    rw [rounds_succ]
    go_wp2
    go_ret
    exact ⟨rfl, unhide HO, gR _ _⟩
  · obtain ⟨n, hnn⟩ : ∃ n, fs.length = n := ⟨_, rfl⟩
    rw [hnn] at hl ho ⊢
    replace hnn := hide hnn
    go_enter Try.func43, Try.ntmps43
    go_wp2
    go_loopw [1, 5] (fun tk ti wr => ∃ i q : Nat, i ≤ n ∧ ti = .int .i64 i ∧ tk = .int .i64 q ∧ Hid (q = k + 3 * i) ∧ OwnF wr base 63 (.slice (some ⟨g, 0, none⟩) n c) (mkF k i ++ fs.drop i) ∧ w.grownBy wr (some g)) (fun _ ti _ => n - (intOf ti).toNat)
    case atStart => exact ⟨0, k, Nat.zero_le _, rfl, rfl, rfl, ho, gR _ _⟩
    case round =>
      obtain ⟨i, q, hi, rfl, rfl, hq, hown, hb⟩ := hrel
      clear ho
      have hsz := hb.size
      have hbase' : base ≤ wr.heap.size := by omega
      by_cases hlt : i < n
      · have hi' : i < fs.length := by rw [unhide hnn]; exact hlt
        have HS := hide (mkF_set k i fs hi')
        have hq1 : 1 ≤ q := by have := unhide hq; omega
        have hq2 : q ≤ 900000000 := by have := unhide hq; omega
        obtain ⟨f0, hf0, d1, d2, d3⟩ := hown.cells3 hlt
        replace hf0 := hide hf0
        have hlt' : (i : Int) < (n : Int) := by omega
        clear d1 d2 d3
        go_wp2_with fail
        refine (markText_any q _ hq1 (by omega)).mono ?_
        rintro e w1 ⟨rfl, hb1⟩
        have ho1 := hown.below hb1
        have hb01 := gT hb (gB hb1 (some g))
        obtain ⟨e1, e2, e3⟩ := ho1.at (unhide hf0)
        have hfz1 := ho1.frozen
        have ho2 := ho1.set0 (unhide hf0) (mkS q)
        have hf2 := hide (set_get (unhide hf0) { f0 with nm := mkS q })
        have hb02 := gT hb01 (gS w1 g (i * 3) (.string (mkS q)))
        generalize hW2 : w1.setCell ⟨g, i * 3, none⟩ (.string (mkS q)) = W2 at ho2 hb02
        go_wp2_with fail
        clear hW2 e1 e2 e3 hfz1 ho1 hown hb1 hb01
        have s2 := hb02.size
        refine (markText_at _ (q + 1) (by omega) _ (by omega) (by omega)).mono ?_
        rintro e w3 ⟨rfl, hb3⟩
        have ho3 := ho2.below hb3
        have hb03 := gT hb02 (gB hb3 (some g))
        obtain ⟨e1, e2, e3⟩ := ho3.at (unhide hf2)
        have hfz3 := ho3.frozen
        have ho4 := ho3.set1 (unhide hf2) (mkS (q + 1))
        have hf4 := hide (set_get (unhide hf2) { nm := mkS q, tx := mkS (q + 1), kp := f0.kp })
        have ho5 := ho4.set2 (unhide hf4) ((q + 2 : Nat) : Int)
        rw [List.set_set, List.set_set] at ho5
        have hfin : (⟨mkS q, mkS (q + 1), ((q + 2 : Nat) : Int)⟩ : Fl) = mkF1 k i := by unfold mkF1; rw [unhide hq]
        rw [show ({ nm := mkS q, tx := mkS (q + 1), kp := ((q + 2 : Nat) : Int) } : Fl) = mkF1 k i from hfin, unhide HS] at ho5
        have hb05 := gT (gT hb03 (gS w3 g (i * 3 + 1) (.string (mkS (q + 1))))) (gS _ g (i * 3 + 2) (.int .i64 ((q + 2 : Nat) : Int)))
        clear hfin
        go_wp2
        have hk2 : ((q : Int) + 1 + 1) = ((q + 2 : Nat) : Int) := by omega
        have hk3 : ((q : Int) + 1 + 1 + 1) = ((k + 3 * (i + 1) : Nat) : Int) := by have := unhide hq; omega
        rw [hk2]
        go_roundw
        case rel => exact ⟨i + 1, k + 3 * (i + 1), by omega, by go_num, by rw [← hk3, ← hk2], rfl, ho5, hb05⟩
        case measure => simp [intOf]; omega
      · have he : i = n := by omega
        have hfin : ((k + 3 * n : Nat) : Int) = (q : Int) := by have := unhide hq; omega
        subst he
        rw [List.drop_of_length_le (by rw [unhide hnn]; exact Nat.le_refl _), List.append_nil] at hown
        replace hfin := hide hfin
        go_wp2
        go_ret
        exact ⟨by rw [unhide hfin]; rfl, hown, hb⟩

set_option maxHeartbeats 400000 in
theorem markDisk_any (v : Value) (base k M : Nat) (fs : List Fl) (w : World) (hM : M = k + 3 * fs.length) (hl : fs.length ≤ 2000000) (hk1 : 1 ≤ k) (hk : k ≤ 20000000) (hbase : base ≤ w.heap.size) (ho : OwnF w base 63 v fs) :
    Calls Try.prog 15 #[.agg #[v], .int .i64 k] w fun e w' => e = .returned (.int .i64 (M : Int)) ∧ OwnF w' base 63 v (mkF k fs.length) ∧ w.grownBy w' v.ownBlock := by
  have C : Hid (∀ W, base ≤ W.heap.size → OwnF W base 63 v fs → Calls Try.prog 43 #[v, .int .i64 k] W fun e w' => e = .returned (.int .i64 (M : Int)) ∧ OwnF w' base 63 v (mkF k fs.length) ∧ W.grownBy w' v.ownBlock) := fun W h1 h2 => by rw [hM]; exact markFileS_any v base k fs W hl hk1 hk h1 h2
  obtain ⟨a, c, rfl⟩ := ho.rd.shape
  have HO := hide ho
  clear ho hM
  go_enter Try.func15, Try.ntmps15
  go_wp2_with (go_at_call 43; refine ((unhide C) _ (by simp; omega) (by exact (unhide HO).alloc _)).mono ?_; rintro e w1 ⟨rfl, ho1, hb1⟩)
  go_ret
  exact ⟨rfl, ho1, gT (gB ((Below.refl w.heap.size w).alloc (Nat.le_refl _) _) _) hb1⟩

set_option maxRecDepth 20000 in
set_option maxHeartbeats 2000000 in
theorem heldFileS_any (v : Value) (base k n : Nat) (w : World) (hl : n ≤ 2000000) (hk1 : 1 ≤ k) (hk : k ≤ 20000000) (ho : OwnF w base 63 v (mkF k n)) :
    Calls Try.prog 44 #[v, .int .i64 k] w fun e w' => e = .returned (.int .i64 ((k + 3 * n : Nat) : Int)) ∧ Below w.heap.size w w' := by
  obtain ⟨a, c, rfl, hc⟩ := ho.rd.open
  rw [mkF_len]
  clear ho
  go_enter Try.func44, Try.ntmps44
  go_wp2
  go_loopw [1, 5] (fun tk ti wr => ∃ i q : Nat, i ≤ n ∧ ti = .int .i64 i ∧ tk = .int .i64 q ∧ Hid (q = k + 3 * i) ∧ Below w.heap.size w wr) (fun _ ti _ => n - (intOf ti).toNat)
  case atStart => exact ⟨0, k, Nat.zero_le _, rfl, rfl, rfl, Below.refl _ _⟩
  case round =>
    obtain ⟨i, q, hi, rfl, rfl, hq, hb⟩ := hrel
    have hsz := hb.size
    by_cases hlt : i < n
    · obtain ⟨g, o, rfl, hg, hat⟩ := hc i _ (mkF_at k n i hlt)
      obtain ⟨d1, d2, d3⟩ := hat.below hb hg
      have e1 : (mkF1 k i).nm = mkS q := by unfold mkF1; rw [unhide hq]
      have e2 : (mkF1 k i).tx = mkS (q + 1) := by unfold mkF1; rw [unhide hq]
      have e3 : (mkF1 k i).kp = (q : Int) + 1 + 1 := by unfold mkF1; have := unhide hq; simp only; omega
      rw [e1] at d1
      rw [e2] at d2
      rw [e3] at d3
      have hq1 : 1 ≤ q := by have := unhide hq; omega
      have hq2 : q ≤ 900000000 := by have := unhide hq; omega
      have hlt' : (i : Int) < (n : Int) := by omega
      have hi0 : (0 : Int) ≤ (i : Int) := by omega
      have hgr : g < wr.heap.size := by omega
      clear hc hat e1 e2 e3
      go_wp2
      go_region_held3 (fun W => W.cell? ⟨g, o + i * 3, none⟩ = some (.string (mkS q))) (first | exact d1 | exact (hb1.cell (p := ⟨g, o + i * 3, none⟩) hgr).trans d1) (first | (go_at_call 47; refine (markText_any q _ hq1 (by omega)).mono ?_; rintro e w1 ⟨rfl, hb1⟩))
      have f2 : w1.cell? ⟨g, o + i * 3 + 1, none⟩ = some (.string (mkS (q + 1))) := (hb1.cell (p := ⟨g, o + i * 3 + 1, none⟩) hgr).trans d2
      have f3 : w1.cell? ⟨g, o + i * 3 + 2, none⟩ = some (.int .i64 ((q : Int) + 1 + 1)) := (hb1.cell (p := ⟨g, o + i * 3 + 2, none⟩) hgr).trans d3
      have s1 := hb1.size
      have hg1 : g < w1.heap.size := Nat.lt_of_lt_of_le hgr s1
      have hb01 := hb.drew.trans (hb1.mono hsz)
      clear d1 d2 d3 hb1 hb
      go_wp2
      go_region_held3 (fun W => W.cell? ⟨g, o + i * 3 + 1, none⟩ = some (.string (mkS (q + 1)))) (first | exact f2 | exact (hb2.cell (p := ⟨g, o + i * 3 + 1, none⟩) hg1).trans f2) (first | (go_at_call 47; refine (markText_at _ (q + 1) (by omega) _ (by omega) (by omega)).mono ?_; rintro e w2 ⟨rfl, hb2⟩))
      have g3 : w2.cell? ⟨g, o + i * 3 + 2, none⟩ = some (.int .i64 ((q : Int) + 1 + 1)) := (hb2.cell (p := ⟨g, o + i * 3 + 2, none⟩) hg1).trans f3
      have hb02 := hb01.drew.trans (hb2.mono (by show _ ≤ w1.heap.size; exact Nat.le_trans hsz s1))
      clear f2 f3 hb2 hb01
      go_wp2
      have hk3 : ((q : Int) + 1 + 1 + 1) = ((k + 3 * (i + 1) : Nat) : Int) := by have := unhide hq; omega
      go_roundw
      case rel => exact ⟨i + 1, k + 3 * (i + 1), by omega, by go_num, by rw [← hk3], rfl, hb02⟩
      case measure => simp [intOf]; omega
    · have he : i = n := by omega
      have hfin : ((k + 3 * n : Nat) : Int) = (q : Int) := by have := unhide hq; omega
      replace hfin := hide hfin
      go_wp2
      go_ret
      exact ⟨by rw [unhide hfin]; rfl, hb⟩

set_option maxHeartbeats 400000 in
theorem heldDisk_any (v : Value) (base k n M : Nat) (w : World) (hM : M = k + 3 * n) (hl : n ≤ 2000000) (hk1 : 1 ≤ k) (hk : k ≤ 20000000) (ho : OwnF w base 63 v (mkF k n)) :
    Calls Try.prog 16 #[.agg #[v], .int .i64 k] w fun e w' => e = .returned (.int .i64 (M : Int)) ∧ Below w.heap.size w w' := by
  have C : Hid (∀ W, OwnF W base 63 v (mkF k n) → Calls Try.prog 44 #[v, .int .i64 k] W fun e w' => e = .returned (.int .i64 (M : Int)) ∧ Below W.heap.size W w') := fun W h2 => by rw [hM]; exact heldFileS_any v base k n W hl hk1 hk h2
  obtain ⟨a, c, rfl⟩ := ho.rd.shape
  have HO := hide ho
  clear ho hM
  go_enter Try.func16, Try.ntmps16
  go_wp2_with (go_at_call 44; refine ((unhide C) _ (by exact (unhide HO).alloc _)).mono ?_; rintro e w1 ⟨rfl, hb1⟩)
  go_ret
  exact ⟨rfl, ((Below.refl w.heap.size w).alloc (Nat.le_refl _) _).trans (hb1.mono (by simp))⟩
end Go.Proofs.Ytfglljollonnfal
