/- What the law's own helpers on lists of texts come to, over the loaded program: markText, eqStringS, markStringS, heldStringS. -/
import Derived.Test.YtkbbcjnickgfjaaDoorDecimal
import Derived.Test.YtkbbcjnickgfjaaDoorStrs
import Derived.Test.YtkbbcjnickgfjaaDoorPt
import Derived.Deep.RegionHeld3
import Derived.Deep.QuietTactic
import Derived.BigQuiet
namespace Go.Proofs.YtkbbcjnickgfjaaDoor
open Go.RowKit

/-- The text of a mark. -/
def mkS (k : Nat) : ByteArray := ⟨(109 :: decB k).toArray⟩
theorem fig_ten {m : Nat} (h : m < 10) : fig m = byteOf (48 + m) := by unfold fig; rw [if_pos h]
theorem ret_m {t l : List UInt8} (h : t = l) : Ending.returned (.string (ByteArray.mk #[109] ++ ByteArray.mk t.toArray)) = .returned (.string ⟨(109 :: l).toArray⟩) := by rw [str_cons, h]

set_option maxHeartbeats 400000 in
theorem markText_any (n : Nat) (w : World) (h0 : 1 ≤ n) (hn : n ≤ 1000000000) :
    Calls Tryd.prog 28 #[.int .i64 n] w fun e w' => e = .returned (.string (mkS n)) ∧ Below w.heap.size w w' := by
  have h1 : ¬ (n : Int) ≤ 0 := by omega
  go_enter Tryd.func28, Tryd.ntmps28
  go_wp2
  go_loopw [0, 3] (fun ti ts wr => ∃ (m : Nat) (t : List UInt8), m ≤ 1000000000 ∧ DecAt n m t ∧ ti = .int .i64 m ∧ ts = .string ⟨t.toArray⟩ ∧ Below w.heap.size w wr) (fun ti _ _ => (intOf ti).toNat)
  case atStart => exact ⟨n, [], hn, DecAt.start (by omega), rfl, rfl, Below.refl _ _⟩
  case round =>
    obtain ⟨m, t, hm, hat, rfl, rfl, hb⟩ := hrel
    clear h1
    have hsz := hb.size
    by_cases hz : m = 0
    · have hfin := hide (hat.done hz)
      have hl := hat.1
      subst hz
      go_wp2
      go_ret
      exact ⟨ret_m (unhide hfin), hb⟩
    · have hx := hat.next (by omega) hz
      have hl := hat.1
      have h3 : (0 : Int) < (m : Int) := by omega
      have hcv : ((fig (m % 10)).toNat : Int) = 48 + (m : Int) % 10 := by rw [fig_ten (by omega), byteOf_toNat (by omega)]; omega
      have hconv := fun (W : World) => run_string_new (P := Tryd.prog) 22 9 5 Tryd.underlying22 Tryd.underlying5 Tryd.underlying9 W (fig (m % 10))
      rw [hcv] at hconv
      clear hcv
      go_wp2
      go_roundw
      case rel => exact ⟨m / 10, fig (m % 10) :: t, by omega, hx, by go_num, str_cons _ _, hb.alloc hsz _⟩
      case measure => simp [intOf]; omega

theorem below_dN {B : Nat} {a w : World} (h : Below B a w) (n : Nat) : Below B a (w.drewN n) := ⟨h.os, h.tape, h.output, h.size, h.block⟩

theorem OwnV.some_shape {w : World} {base : Nat} {e : TypeId} {v : Value} {xs : List Value} (h : OwnV w base e v xs) (hn : 0 < xs.length) : ∃ g c, v = .slice (some ⟨g, 0, none⟩) xs.length c := by
  rcases h.2 with ⟨_, h2⟩ | ⟨g, cap, cur, h1, _⟩
  · omega
  · exact ⟨g, cap, h1⟩

set_option maxHeartbeats 1000000 in
theorem eqS_any (l : List (List UInt8)) (va vb : Value) (ba bb : Nat) (w : World) (hl : l.length ≤ 4000) (ha : OwnV w ba 9 va (l.map strv)) (hb : OwnV w bb 9 vb (l.map strv)) :
    Calls Tryd.prog 12 #[va, vb] w fun e w' => e = .returned (.bool true) ∧ Below w.heap.size w w' := by
  by_cases h0 : l.length = 0
  · obtain ⟨a1, c1, rfl⟩ := ha.shape
    obtain ⟨a2, c2, rfl⟩ := hb.shape
    rw [List.length_map, h0]
    clear ha hb
    go_enter Tryd.func12, Tryd.ntmps12
    go_wp2
    refine wp_loop_rounds 1 ?_
    rw [rounds_succ]
    go_wp2
    go_ret
    exact ⟨rfl, Below.refl _ _⟩
  · obtain ⟨g1, c1, rfl⟩ := ha.some_shape (by rw [List.length_map]; omega)
    obtain ⟨g2, c2, rfl⟩ := hb.some_shape (by rw [List.length_map]; omega)
    rw [List.length_map] at *
    have HA := hide ha
    have HB := hide hb
    clear ha hb
    go_enter Tryd.func12, Tryd.ntmps12
    go_wp2
    go_loopw [5] (fun ti wr => ∃ k : Nat, k ≤ l.length ∧ ti = .int .i64 k ∧ Below w.heap.size w wr) (fun ti _ => l.length - (intOf ti).toNat)
    case atStart => exact ⟨0, Nat.zero_le _, rfl, Below.refl _ _⟩
    case round =>
      obtain ⟨k, hk, rfl, hbw⟩ := hrel
      by_cases hlt : k < l.length
      · have hxk : (l.map strv)[k]? = some (strv l[k]) := by rw [List.getElem?_map, List.getElem?_eq_getElem hlt]; rfl
        obtain ⟨x, hx⟩ : ∃ x : ByteArray, strv l[k] = .string x := ⟨_, rfl⟩
        rw [hx] at hxk
        have q1 := ((unhide HA).below hbw).cell hxk
        have q2 := ((unhide HB).below hbw).cell hxk
        have hlt' : (k : Int) < (l.length : Int) := by omega
        have hk0 : (0 : Int) ≤ (k : Int) := by omega
        clear hx hxk
        go_wp2
        go_quiet (fail)
        go_wp2
        go_roundw
        case rel => exact ⟨k + 1, by omega, by go_num, below_dN hbw _⟩
        case measure => simp [intOf]; omega
      · go_wp2
        go_ret
        exact ⟨rfl, hbw⟩

/-- The marks from k on, n of them, as cells. -/
def marks (k n : Nat) : List Value := (List.range n).map fun i => .string (mkS (k + i))
theorem marks_len (k n : Nat) : (marks k n).length = n := by unfold marks; simp
theorem marks_succ (k n : Nat) : marks k (n + 1) = marks k n ++ [.string (mkS (k + n))] := by unfold marks; rw [List.range_succ, List.map_append]; rfl
theorem marks_at (k n i : Nat) (h : i < n) : (marks k n)[i]? = some (.string (mkS (k + i))) := by unfold marks; simp [h]
theorem marks_set (k i : Nat) (xs : List Value) (h : i < xs.length) : (marks k i ++ xs.drop i).set i (.string (mkS (k + i))) = marks k (i + 1) ++ xs.drop (i + 1) := by
  rw [List.drop_eq_getElem_cons h, List.set_append_right _ _ (by rw [marks_len]; exact Nat.le_refl _), marks_len, Nat.sub_self, List.set_cons_zero, marks_succ]
  simp

set_option maxHeartbeats 1000000 in
theorem markS_any (v : Value) (base k : Nat) (xs : List Value) (w : World) (hl : xs.length ≤ 4000) (hk1 : 1 ≤ k) (hk : k ≤ 1000000) (hbase : base ≤ w.heap.size) (ho : OwnV w base 9 v xs) :
    Calls Tryd.prog 13 #[v, .int .i64 k] w fun e w' => e = .returned (.int .i64 ((k + xs.length : Nat) : Int)) ∧ OwnV w' base 9 v (marks k xs.length) ∧ Below base w w' := by
  by_cases h0 : xs.length = 0
  · have hnil : xs = [] := List.length_eq_zero_iff.1 h0
    subst hnil
    have HO := hide ho
    obtain ⟨a1, c1, rfl⟩ := ho.shape
    clear ho h0
    go_enter Tryd.func13, Tryd.ntmps13
    go_wp2
    refine wp_loop_rounds 1 ?_
    rw [rounds_succ]
    go_wp2
    go_ret
    exact ⟨rfl, unhide HO, Below.refl _ _⟩
  · obtain ⟨g, c, rfl⟩ := ho.some_shape (by omega)
    have hg := (ho.lt g rfl).1
    go_enter Tryd.func13, Tryd.ntmps13
    go_wp2
    go_loopw [1, 5] (fun tk ti wr => ∃ i : Nat, i ≤ xs.length ∧ ti = .int .i64 i ∧ tk = .int .i64 ((k + i : Nat) : Int) ∧ OwnV wr base 9 (.slice (some ⟨g, 0, none⟩) xs.length c) (marks k i ++ xs.drop i) ∧ Below base w wr) (fun _ ti _ => xs.length - (intOf ti).toNat)
    case atStart => exact ⟨0, Nat.zero_le _, rfl, rfl, by simpa [marks] using ho, Below.refl _ _⟩
    case round =>
      obtain ⟨i, hi, rfl, rfl, hown, hb⟩ := hrel
      clear ho
      have hsz := hb.size
      by_cases hlt : i < xs.length
      · have hs := hide (marks_set k i xs hlt)
        obtain ⟨q, hq⟩ : ∃ q : Nat, q = k + i := ⟨_, rfl⟩
        have hq1 : 1 ≤ q := by omega
        have hq2 : q ≤ 1000000000 := by omega
        have hin : ∃ u, (marks k i ++ xs.drop i)[i]? = some u := by
          have hlen : i < (marks k i ++ xs.drop i).length := by rw [List.length_append, marks_len, List.length_drop]; omega
          exact ⟨_, List.getElem?_eq_getElem hlen⟩
        obtain ⟨u, hu⟩ := hin
        have HU := hide hu
        rw [← hq] at hs ⊢
        have HQ := hide hq
        clear hu hq
        have hlt' : (i : Int) < (xs.length : Int) := by omega
        go_wp2_with (go_at_call 28; refine (markText_any q _ hq1 hq2).mono ?_; rintro e w2 ⟨rfl, hb2⟩; have hown2 := hown.below hb2; have hc2 := hown2.cell (unhide HU); have hf2 := hown2.frozen i)
        have hown3 := hown2.set i (.string (mkS q))
        rw [unhide hs] at hown3
        have hqi := unhide HQ
        go_roundw
        case rel => exact ⟨i + 1, by omega, by go_num, by rw [hqi]; go_num, hown3, (hb.trans (hb2.mono (by omega))).setCell hg _⟩
        case measure => simp [intOf]; omega
      · have he : i = xs.length := by omega
        subst he
        go_wp2
        go_ret
        refine ⟨rfl, ?_, hb⟩
        rw [List.drop_of_length_le (Nat.le_refl _), List.append_nil] at hown
        exact hown

set_option maxRecDepth 20000 in
set_option maxHeartbeats 1000000 in
theorem heldS_any (v : Value) (base k n : Nat) (w : World) (hl : n ≤ 4000) (hk1 : 1 ≤ k) (hk : k ≤ 1000000) (ho : OwnV w base 9 v (marks k n)) :
    Calls Tryd.prog 14 #[v, .int .i64 k] w fun e w' => e = .returned (.int .i64 ((k + n : Nat) : Int)) ∧ Below w.heap.size w w' := by
  by_cases h0 : n = 0
  · subst h0
    obtain ⟨a1, c1, rfl⟩ := ho.shape
    rw [marks_len]
    clear ho
    go_enter Tryd.func14, Tryd.ntmps14
    go_wp2
    refine wp_loop_rounds 1 ?_
    rw [rounds_succ]
    go_wp2
    go_ret
    exact ⟨rfl, Below.refl _ _⟩
  · obtain ⟨g, c, rfl⟩ := ho.some_shape (by rw [marks_len]; omega)
    rw [marks_len] at *
    have HO := hide ho
    have hgl := (ho.lt g rfl).2
    clear ho
    go_enter Tryd.func14, Tryd.ntmps14
    go_wp2
    go_loopw [1, 5] (fun tk ti wr => ∃ i : Nat, i ≤ n ∧ ti = .int .i64 i ∧ tk = .int .i64 ((k + i : Nat) : Int) ∧ Below w.heap.size w wr) (fun _ ti _ => n - (intOf ti).toNat)
    case atStart => exact ⟨0, Nat.zero_le _, rfl, rfl, Below.refl _ _⟩
    case round =>
      obtain ⟨i, hi, rfl, rfl, hb⟩ := hrel
      have hsz := hb.size
      by_cases hlt : i < n
      · have hcell := ((unhide HO).below hb).cell (marks_at k n i hlt)
        obtain ⟨q, hq⟩ : ∃ q : Nat, q = k + i := ⟨_, rfl⟩
        have hq1 : 1 ≤ q := by omega
        have hq2 : q ≤ 1000000000 := by omega
        rw [← hq] at hcell ⊢
        have HQ := hide hq
        clear hq
        have hlt' : (i : Int) < (n : Int) := by omega
        have hi0 : (0 : Int) ≤ (i : Int) := by omega
        have hgr : g < wr.heap.size := by omega
        go_wp2
        go_region_held3 (fun W => W.cell? ⟨g, i, none⟩ = some (.string (mkS q))) (first | exact hcell | exact (hb1.cell (p := ⟨g, i, none⟩) hgr).trans hcell) (first | (go_at_call 28; refine (markText_any q _ hq1 hq2).mono ?_; rintro e w1 ⟨rfl, hb1⟩))
        all_goals
          clear hcell
          have hqi := unhide HQ
          clear HQ
          go_wp2
          go_roundw
          case rel => exact ⟨i + 1, by omega, by go_num, by go_num, (hb.drew).trans (hb1.mono hsz)⟩
          case measure => simp [intOf]; omega
      · have he : i = n := by omega
        subst he
        go_wp2
        go_ret
        exact ⟨rfl, hb⟩

end Go.Proofs.YtkbbcjnickgfjaaDoor
