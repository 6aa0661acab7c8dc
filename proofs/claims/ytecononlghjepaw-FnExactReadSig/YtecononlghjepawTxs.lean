/- The laws' helpers on rows of texts, over the loaded program. -/
import Derived.Test.YtecononlghjepawInts
import Derived.Test.YtecononlghjepawMarkT
import Derived.BigQuiet
import Derived.Deep.RegionHeld3
namespace Go.Proofs.Ytecononlghjepaw
open Go.RowKit
def sv (b : ByteArray) : Value := .string b
theorem sv_get (l : List ByteArray) (k : Nat) (h : k < l.length) : (l.map sv)[k]? = some (.string l[k]) := by rw [List.getElem?_map, List.getElem?_eq_getElem h]; rfl
theorem infoTxt : (Try.prog.info? 9).map (fun i => (i.zero, i.size, i.bytes)) = some (some (.string ⟨#[]⟩), 1, 16) := by kernel_rfl
theorem madeT (n : Nat) : (madeCells (Value.string ⟨#[]⟩).cells (n * 1)).toList = List.replicate n (.string ⟨#[]⟩) := by
  unfold madeCells
  apply List.ext_getElem?
  intro j
  rw [Array.toList_map, Array.toList_range, List.getElem?_map, List.getElem?_replicate, Nat.mul_one]
  by_cases hj : j < n
  · rw [List.getElem?_range hj, if_pos hj]
    show some ((#[Value.string ⟨#[]⟩] : Array Value)[j % 1]!) = _
    rw [Nat.mod_one]; rfl
  · rw [List.getElem?_eq_none (by simp; omega), if_neg hj]; rfl
/-- How many bytes the texts have together. -/
def sumS : List ByteArray → Nat
  | [] => 0
  | x :: xs => x.size + sumS xs
theorem sumS_take (l : List ByteArray) (k : Nat) (h : k < l.length) : sumS (l.take (k + 1)) = sumS (l.take k) + l[k].size := by
  induction l generalizing k with
  | nil => exact absurd h (Nat.not_lt_zero _)
  | cons x xs ih =>
    cases k with
    | zero => show x.size + sumS (xs.take 0) = 0 + x.size; rw [List.take_zero]; show x.size + 0 = _; omega
    | succ k =>
      show x.size + sumS (xs.take (k + 1)) = x.size + sumS (xs.take k) + (xs[k]'(by simpa using h)).size
      rw [ih k (by simpa using h)]
      omega
theorem sumS_all (l : List ByteArray) : sumS (l.take l.length) = sumS l := by rw [List.take_length]
theorem sumS_at (l : List ByteArray) (k : Nat) (h : k < l.length) : l[k].size ≤ sumS l := by
  induction l generalizing k with
  | nil => exact absurd h (Nat.not_lt_zero _)
  | cons x xs ih =>
    show _ ≤ x.size + sumS xs
    cases k with
    | zero => show x.size ≤ _; omega
    | succ k => have := ih k (by simpa using h); show (xs[k]'(by simpa using h)).size ≤ _; omega
set_option maxRecDepth 20000 in
set_option maxHeartbeats 400000 in
theorem szStrS_any (l : List ByteArray) (v : Value) (w : World) (hr : RdV w v (l.map sv)) (hb : ∀ x ∈ l, x.size ≤ maxLen) (hlen : l.length ≤ maxLen) :
    Calls Try.prog 20 #[v, .int .i64 1048576] w fun e w' => (∃ z : Int, e = .returned (.int .i64 z) ∧ (z < 0 ∨ (0 ≤ z ∧ l.length + sumS l ≤ 1048576))) ∧ w' = w := by
  obtain ⟨a, c, rfl, hc⟩ := hr.open
  clear hr
  rw [List.length_map]
  have hm : maxLen = 9223372036854775807 := by first | rfl | (unfold maxLen; rfl)
  obtain ⟨n, hnn⟩ : ∃ n, l.length = n := ⟨_, rfl⟩
  rw [hnn] at hlen ⊢
  have HE := hide (sumS_all l)
  rw [hnn] at HE
  replace hnn := hide hnn
  obtain ⟨z0, hz0⟩ : ∃ z : Int, z = 1048576 - (n : Int) := ⟨_, rfl⟩
  have w0 : IntKind.i64.wrap (1048576 - (n : Int)) = z0 := by rw [IntKind.wrap_i64]; omega
  by_cases h0 : z0 < 0
  · replace hz0 := hide hz0
    clear hc hm
    go_enter Try.func20, Try.ntmps20
    go_wp2
    go_ret
    exact ⟨⟨-1, rfl, .inl (by decide)⟩, rfl⟩
  · have hn2 : n ≤ 1048576 := by omega
    replace hz0 := hide hz0
    go_enter Try.func20, Try.ntmps20
    go_wp2
    go_loopw [1, 5] (fun tz ti wr => ∃ (k : Nat) (z : Int), k ≤ n ∧ ti = .int .i64 (k : Int) ∧ tz = .int .i64 z ∧ Hid (0 ≤ z ∧ z + (sumS (l.take k) : Int) + (n : Int) = 1048576) ∧ wr = w) (fun _ ti _ => n - (intOf ti).toNat)
    case atStart => exact ⟨0, z0, Nat.zero_le _, rfl, rfl, hide ⟨by omega, by rw [List.take_zero]; show z0 + ((0 : Nat) : Int) + _ = _; have := unhide hz0; omega⟩, rfl⟩
    case round =>
      obtain ⟨k, z, hk, rfl, rfl, hz, hw⟩ := hrel
      have hw' := hw.symm
      subst hw'
      clear hw
      have hzz := unhide hz
      by_cases hlt : k < n
      · have hk' : k < l.length := by rw [unhide hnn]; exact hlt
        have hlt' : (k : Int) < (n : Int) := by omega
        obtain ⟨g, o, rfl, hg, d1⟩ := hc k _ (sv_get l k hk')
        have hsb := hb l[k] (List.getElem_mem hk')
        have HS := hide (sumS_take l k hk')
        obtain ⟨x, hx⟩ : ∃ x, x = l[k] := ⟨_, rfl⟩
        rw [← hx] at d1 hsb HS
        obtain ⟨z2, hz2⟩ : ∃ y : Int, y = z - (x.size : Int) := ⟨_, rfl⟩
        have w1 : IntKind.i64.wrap (z - (x.size : Int)) = z2 := by rw [IntKind.wrap_i64]; omega
        by_cases hneg : z2 < 0
        · replace hz2 := hide hz2; replace hx := hide hx
          clear hc hzz hsb hm
          go_wp2
          go_ret
          exact ⟨⟨-1, rfl, .inl (by decide)⟩, rfl⟩
        · have HZ := hide (show 0 ≤ z2 ∧ z2 + (sumS (l.take (k + 1)) : Int) + (n : Int) = 1048576 by have h1 := unhide HS; omega)
          replace hz2 := hide hz2; replace hx := hide hx
          clear hc hzz hsb hm hz HS
          go_wp2
          go_roundw
          case rel => exact ⟨k + 1, z2, by omega, by go_num, by first | rfl | trivial, HZ, by first | rfl | trivial⟩
          case measure => simp [intOf]; omega
      · have hke : k = n := by omega
        have HF := hide (show 0 ≤ z ∧ n + sumS l ≤ 1048576 by have h1 := unhide HE; rw [hke] at hzz; rw [h1] at hzz; omega)
        replace hke := hide hke
        clear hc hzz hm
        go_wp2
        go_ret
        exact ⟨⟨z, rfl, .inr ⟨(unhide HF).1, (unhide HF).2⟩⟩, rfl⟩
set_option maxRecDepth 20000 in
set_option maxHeartbeats 1000000 in
theorem toStrS_any (l : List ByteArray) (v : Value) (w : World) (hr : RdV w v (l.map sv)) (hn : l.length ≤ 1048576) :
    Calls Try.prog 23 #[v] w fun e w' => (∃ a c, e = .returned (.slice a l.length c) ∧ OwnV w' w.heap.size 9 (.slice a l.length c) (l.map sv)) ∧ Below w.heap.size w w' := by
  obtain ⟨i0, hi, hz0, hz1, hz2⟩ := info_parts infoTxt
  obtain ⟨a, c, rfl, hc⟩ := hr.open
  clear hr
  rw [List.length_map]
  obtain ⟨n, hnn⟩ : ∃ n, l.length = n := ⟨_, rfl⟩
  rw [hnn] at hn ⊢
  have hxl := hide (show (l.map sv).length = n by rw [List.length_map]; exact hnn)
  replace hnn := hide hnn
  go_enter Try.func23, Try.ntmps23
  go_wp2_with (at_make; refine wpList_make_full _ rfl _ _ 22 rfl w.heap.size 9 i0 (.string ⟨#[]⟩) 1 Try.underlying22 hi hz0 hz1 _ _ _ _ n rfl rfl rfl rfl (by rw [hz2]; omega) (by unfold maxLen; omega) (Nat.le_refl _) ?_; intro w1 hown1 hgrow1)
  have hr0 : OwnV w1 w.heap.size 9 (.slice (some ⟨w.heap.size, 0, none⟩) n n) ((l.map sv).take 0 ++ List.replicate (n - 0) (.string ⟨#[]⟩)) := by
    rw [madeT] at hown1
    unfold OwnV
    simpa using hown1
  have hb0 : Below w.heap.size w w1 := (Below.refl w.heap.size w).grown hgrow1 (Nat.le_refl _) (fun k hk => by cases hk)
  clear hown1 hgrow1
  go_loopw [4] (fun ti wr => ∃ k : Nat, k ≤ n ∧ ti = .int .i64 k ∧ OwnV wr w.heap.size 9 (.slice (some ⟨w.heap.size, 0, none⟩) n n) ((l.map sv).take k ++ List.replicate (n - k) (.string ⟨#[]⟩)) ∧ Below w.heap.size w wr) (fun ti _ => n - (intOf ti).toNat)
  case atStart => exact ⟨0, Nat.zero_le _, rfl, hr0, hb0⟩
  case round =>
    obtain ⟨k, hk, rfl, ho, hb⟩ := hrel
    by_cases hlt : k < n
    · have hk' : k < l.length := by rw [unhide hnn]; exact hlt
      have hf := sv_get l k hk'
      obtain ⟨g, o, rfl, hg, d1⟩ := hc k _ hf
      have d2 := (hb.cell (p := ⟨g, o + k, none⟩) hg).trans d1
      have hss := hb.size
      have HF := hide (fillV (z := .string ⟨#[]⟩) hf (unhide hxl))
      have hin : ∃ u, ((l.map sv).take k ++ List.replicate (n - k) (.string ⟨#[]⟩))[k]? = some u := ⟨_, List.getElem?_eq_getElem (by have := ho.len; omega)⟩
      obtain ⟨u, hu⟩ := hin
      have cu := ho.cell hu
      have cz := ho.frozen k
      have ho2 := ho.set k (.string l[k])
      rw [unhide HF] at ho2
      generalize l[k] = told at *
      clear hc d1 hr0 hb0 hf hu
      go_wp2
      go_roundw
      case rel => exact ⟨k + 1, by omega, by go_num, ho2, hb.setCell (p := ⟨w.heap.size, k, none⟩) (Nat.le_refl _) _⟩
      case measure => simp [intOf]; omega
    · have e1 : k = n := by omega
      have e2 : (l.map sv).take k ++ List.replicate (n - k) (.string ⟨#[]⟩) = l.map sv := by
        rw [e1, Nat.sub_self, List.take_of_length_le (by rw [unhide hxl]; exact Nat.le_refl _)]
        simp
      rw [e2] at ho
      go_wp2
      go_ret
      exact ⟨⟨_, _, rfl, ho⟩, hb⟩
set_option maxRecDepth 20000 in
set_option maxHeartbeats 1000000 in
theorem eqStrS_any (l : List ByteArray) (v1 v2 : Value) (w : World) (hr1 : RdV w v1 (l.map sv)) (hr2 : RdV w v2 (l.map sv)) (hln : l.length ≤ 2000000) :
    Calls Try.prog 27 #[v1, v2] w fun e w' => e = .returned (.bool true) ∧ Below w.heap.size w w' := by
  obtain ⟨a1, c1, rfl, hc1⟩ := hr1.open
  obtain ⟨a2, c2, rfl, hc2⟩ := hr2.open
  clear hr1 hr2
  rw [List.length_map]
  obtain ⟨n, hnn⟩ : ∃ n, l.length = n := ⟨_, rfl⟩
  rw [hnn] at hln ⊢
  replace hnn := hide hnn
  go_enter Try.func27, Try.ntmps27
  go_wp2
  go_loopw [5] (fun ti wr => ∃ k q : Nat, k ≤ n ∧ ti = .int .i64 k ∧ wr = w.drewN q) (fun ti _ => n - (intOf ti).toNat)
  case atStart => exact ⟨0, 0, Nat.zero_le _, rfl, rfl⟩
  case round =>
    obtain ⟨k, q, hk, rfl, rfl⟩ := hrel
    by_cases hlt : k < n
    · have hk' : k < l.length := by rw [unhide hnn]; exact hlt
      have hf := sv_get l k hk'
      obtain ⟨g1, o1, rfl, hg1, d1⟩ := hc1 k _ hf
      obtain ⟨g2, o2, rfl, hg2, d2⟩ := hc2 k _ hf
      have hi0 : (0 : Int) ≤ (k : Int) := by omega
      have hi1 : (k : Int) < (n : Int) := by omega
      generalize l[k] = told at *
      clear hc1 hc2 hf
      go_wp2
      go_quiet (fail)
      go_wp2
      go_roundw
      case rel => exact ⟨k + 1, _, by omega, by go_num, by first | rfl | rw [World.drewN_drewN]⟩
      case measure => simp [intOf]; omega
    · go_wp2
      go_ret
      exact ⟨rfl, bDN (Below.refl _ w) _⟩
/-- The marks from k on, n of them, as cells. -/
def mkT (k n : Nat) : List Value := (List.range n).map fun i => .string (mkS (k + i))
theorem mkT_len (k n : Nat) : (mkT k n).length = n := by unfold mkT; simp
theorem mkT_succ (k n : Nat) : mkT k (n + 1) = mkT k n ++ [.string (mkS (k + n))] := by unfold mkT; rw [List.range_succ, List.map_append]; rfl
theorem mkT_at (k n i : Nat) (h : i < n) : (mkT k n)[i]? = some (.string (mkS (k + i))) := by
  unfold mkT
  rw [List.getElem?_map, List.getElem?_range h]
  rfl
theorem mkT_set (k i : Nat) (xs : List Value) (h : i < xs.length) : (mkT k i ++ xs.drop i).set i (.string (mkS (k + i))) = mkT k (i + 1) ++ xs.drop (i + 1) := by
  rw [List.drop_eq_getElem_cons h, List.set_append_right _ _ (by rw [mkT_len]; exact Nat.le_refl _), mkT_len, Nat.sub_self, List.set_cons_zero, mkT_succ]
  simp
theorem tR (w : World) (r : Option Nat) : w.grownBy w r := ⟨rfl, rfl, rfl, Nat.le_refl _, fun _ _ _ => rfl⟩
theorem tB {w w' : World} (hb : Below w.heap.size w w') (r : Option Nat) : w.grownBy w' r := ⟨hb.os, hb.tape, hb.output, hb.size, fun k hk _ => hb.block k hk⟩
theorem tS (w : World) (g o : Nat) (u : Value) : w.grownBy (w.setCell ⟨g, o, none⟩ u) (some g) := ⟨rfl, rfl, rfl, by simp, fun k _ hk => RowKit.Below.heap_setCell _ _ _ _ (fun e => hk (by rw [e]))⟩
theorem tT {a b c : World} {r : Option Nat} (h : a.grownBy b r) (k : b.grownBy c r) : a.grownBy c r :=
  ⟨k.os.trans h.os, k.tape.trans h.tape, k.output.trans h.output, Nat.le_trans h.size k.size, fun i hi hr => (k.block i (Nat.lt_of_lt_of_le hi h.size) hr).trans (h.block i hi hr)⟩
set_option maxRecDepth 20000 in
set_option maxHeartbeats 1000000 in
theorem markStrS_own (v : Value) (base k M : Nat) (xs : List Value) (w : World) (hM : M = k + xs.length) (hl : xs.length ≤ 2000000) (hk1 : 1 ≤ k) (hk : k ≤ 20000000) (ho : OwnV w base 9 v xs) :
    Calls Try.prog 30 #[v, .int .i64 k] w fun e w' => e = .returned (.int .i64 (M : Int)) ∧ OwnV w' base 9 v (mkT k xs.length) ∧ w.grownBy w' v.ownBlock := by
  obtain ⟨a, c, rfl⟩ := ho.shape
  obtain ⟨n, hnn⟩ : ∃ n, xs.length = n := ⟨_, rfl⟩
  rw [hnn] at hl ho hM ⊢
  replace hnn := hide hnn
  replace hM := hide hM
  go_enter Try.func30, Try.ntmps30
  go_wp2
  go_loopw [1, 5] (fun tk ti wr => ∃ (i q : Nat), i ≤ n ∧ ti = .int .i64 i ∧ tk = .int .i64 q ∧ Hid (q = k + i) ∧ OwnV wr base 9 (.slice a n c) (mkT k i ++ xs.drop i) ∧ w.grownBy wr (Value.slice a n c).ownBlock) (fun _ ti _ => n - (intOf ti).toNat)
  case atStart => exact ⟨0, k, Nat.zero_le _, rfl, rfl, rfl, by simpa [mkT] using ho, tR _ _⟩
  case round =>
    obtain ⟨i, q, hi, rfl, rfl, hq, hown, hb⟩ := hrel
    clear ho
    have hq2 : q ≤ 900000000 := by have := unhide hq; omega
    have hq1 : 1 ≤ q := by have := unhide hq; omega
    by_cases hlt : i < n
    · have hyl := hown.len
      have HS := hide (mkT_set k i xs (by rw [unhide hnn]; exact hlt))
      obtain ⟨g, cg, hgv⟩ : ∃ g cg, Value.slice a n c = .slice (some ⟨g, 0, none⟩) n cg := by
        rcases hown.2 with ⟨_, h2⟩ | ⟨g, cap, cur, h1, _⟩
        · omega
        · exact ⟨g, cap, by rw [h1, hyl]⟩
      simp only [Value.slice.injEq, true_and] at hgv
      obtain ⟨rfl, rfl⟩ := hgv
      have hlt' : (i : Int) < (n : Int) := by omega
      have hin : ∃ u, (mkT k i ++ xs.drop i)[i]? = some u := ⟨_, List.getElem?_eq_getElem (by omega)⟩
      obtain ⟨u, hu⟩ := hin
      have hk3 : ((q : Int) + 1) = ((k + (i + 1) : Nat) : Int) := by have := unhide hq; omega
      rw [show k + i = q from (unhide hq).symm] at HS
      replace hk3 := hide hk3; replace hu := hide hu; replace hown := hide hown
      go_wp2_with (go_at_call 39; refine (markText_any q _ hq1 (by omega)).mono ?_; rintro e w2 ⟨rfl, hb2⟩; have hown2 := (unhide hown).below hb2; have hc2 := hown2.cell (unhide hu); have hf2 := hown2.frozen i)
      have ho3 := hown2.set i (.string (mkS q))
      rw [unhide HS] at ho3
      have hg3 := tT hb (tT (tB hb2 _) (tS w2 g i (.string (mkS q))))
      go_roundw
      case rel => exact ⟨i + 1, k + (i + 1), by omega, by go_num, by rw [← unhide hk3], rfl, ho3, hg3⟩
      case measure => simp [intOf]; omega
    · have he : i = n := by omega
      have hfin : (M : Int) = (q : Int) := by have h1 := unhide hq; have h2 := unhide hM; omega
      have ho3 : OwnV wr base 9 (.slice a n c) (mkT k n) := by
        have h := hown
        rw [he, List.drop_eq_nil_of_le (by rw [unhide hnn]; exact Nat.le_refl _), List.append_nil] at h
        exact h
      replace hfin := hide hfin
      replace ho3 := hide ho3
      clear hown
      go_wp2
      go_ret
      exact ⟨by rw [unhide hfin]; rfl, unhide ho3, hb⟩
set_option maxRecDepth 20000 in
set_option maxHeartbeats 1000000 in
theorem heldStrS_any (v : Value) (k n M : Nat) (w : World) (hM : M = k + n) (hl : n ≤ 2000000) (hk1 : 1 ≤ k) (hk : k ≤ 20000000) (hr : RdV w v (mkT k n)) :
    Calls Try.prog 31 #[v, .int .i64 k] w fun e w' => e = .returned (.int .i64 (M : Int)) ∧ Below w.heap.size w w' := by
  obtain ⟨a, c, rfl, hc⟩ := hr.open
  clear hr
  rw [mkT_len]
  replace hM := hide hM
  go_enter Try.func31, Try.ntmps31
  go_wp2
  go_loopw [1, 5] (fun tk ti wr => ∃ (i q : Nat), i ≤ n ∧ ti = .int .i64 i ∧ tk = .int .i64 q ∧ Hid (q = k + i) ∧ Below w.heap.size w wr) (fun _ ti _ => n - (intOf ti).toNat)
  case atStart => exact ⟨0, k, Nat.zero_le _, rfl, rfl, rfl, Below.refl _ _⟩
  case round =>
    obtain ⟨i, q, hi, rfl, rfl, hq, hb⟩ := hrel
    have hsz := hb.size
    have hq2 : q ≤ 900000000 := by have := unhide hq; omega
    have hq1 : 1 ≤ q := by have := unhide hq; omega
    by_cases hlt : i < n
    · have hlt' : (i : Int) < (n : Int) := by omega
      have hi0 : (0 : Int) ≤ (i : Int) := by omega
      obtain ⟨g, o, rfl, hg, d1⟩ := hc i _ (mkT_at k n i hlt)
      rw [show k + i = q from (unhide hq).symm] at d1
      have hcell := (hb.cell (p := ⟨g, o + i, none⟩) hg).trans d1
      have hgr : g < wr.heap.size := by omega
      have hk3 : ((q : Int) + 1) = ((k + (i + 1) : Nat) : Int) := by have := unhide hq; omega
      replace hk3 := hide hk3
      clear hc d1
      go_wp2
      go_region_held3 (fun W => W.cell? ⟨g, o + i, none⟩ = some (.string (mkS q))) (first | exact hcell | exact (hb1.cell (p := ⟨g, o + i, none⟩) hgr).trans hcell) (first | (go_at_call 39; refine (markText_any q _ hq1 (by omega)).mono ?_; rintro e w1 ⟨rfl, hb1⟩))
      all_goals
        clear hcell
        go_wp2
        go_roundw
        case rel => exact ⟨i + 1, k + (i + 1), by omega, by go_num, by rw [← unhide hk3], rfl, (hb.drew).trans (hb1.mono hsz)⟩
        case measure => simp [intOf]; omega
    · have he : i = n := by omega
      have hfin : (M : Int) = (q : Int) := by have h1 := unhide hq; have h2 := unhide hM; omega
      replace hfin := hide hfin
      clear hc
      go_wp2
      go_ret
      exact ⟨by rw [unhide hfin]; rfl, hb⟩
end Go.Proofs.Ytecononlghjepaw
