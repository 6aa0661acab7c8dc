/- The laws' own helpers on lists of acts: their size is counted, copies are made, compared, marked. -/
import Derived.Test.YtfglljollonnfalActs
import Derived.Test.YtfglljollonnfalActA
import Derived.Test.YtfglljollonnfalMarkF
namespace Go.Proofs.Ytfglljollonnfal
open Go.RowKit

def acsSz : List Ac → Nat
  | [] => 0
  | a :: r => acSz a + acsSz r
theorem acsSz_append (a b : List Ac) : acsSz (a ++ b) = acsSz a + acsSz b := by
  induction a with
  | nil => simp [acsSz]
  | cons x r ih => simp only [List.cons_append, acsSz, ih]; omega
theorem acsSz_mem {fs : List Ac} {f : Ac} (h : f ∈ fs) : acSz f ≤ acsSz fs := by
  induction fs with
  | nil => cases h
  | cons x r ih =>
    simp only [acsSz]
    rcases List.mem_cons.1 h with rfl | h
    · omega
    · have := ih h; omega
theorem acsSz_take {fs : List Ac} {k : Nat} {f : Ac} (h : fs[k]? = some f) : acsSz (fs.take (k + 1)) = acsSz (fs.take k) + acSz f := by
  rw [List.take_add_one, h, acsSz_append]
  simp [acsSz]

set_option maxHeartbeats 1000000 in
theorem szActS_any (fs : List Ac) (v : Value) (L : Nat) (w : World) (hr : RdA w v fs) (hL : L ≤ 1048576) (hn : fs.length ≤ maxLen) (hz : ∀ f ∈ fs, f.nm.size ≤ maxLen ∧ f.tx.size ≤ maxLen ∧ f.to.size ≤ maxLen) :
    Calls Try.prog 17 #[v, .int .i64 L] w fun e w' => (∃ r : Int, e = .returned (.int .i64 r) ∧ (r = -1 ∨ ∃ m : Nat, r = m ∧ m + fs.length + acsSz fs = L)) ∧ Below w.heap.size w w' := by
  obtain ⟨a, c, rfl, hc⟩ := hr.open
  have hn' := hn
  unfold maxLen at hn'
  clear hr hn
  obtain ⟨n, hnn⟩ : ∃ n, fs.length = n := ⟨_, rfl⟩
  rw [hnn] at hn' ⊢
  replace hnn := hide hnn
  replace hz := hide hz
  by_cases c1 : (L : Int) - n < 0
  · go_enter Try.func17, Try.ntmps17
    go_wp2
    go_ret
    exact ⟨⟨_, rfl, .inl rfl⟩, Below.refl _ _⟩
  · go_enter Try.func17, Try.ntmps17
    go_wp2
    go_loopw [1, 5] (fun tl ti wr => ∃ k l : Nat, k ≤ n ∧ ti = .int .i64 k ∧ tl = .int .i64 l ∧ Hid (l + n + acsSz (fs.take k) = L) ∧ Below w.heap.size w wr) (fun _ ti _ => n - (intOf ti).toNat)
    case atStart => exact ⟨0, L - n, Nat.zero_le _, rfl, by go_num, by show _ + _ + acsSz [] = _; simp [acsSz]; omega, Below.refl _ _⟩
    case round =>
      obtain ⟨k, l, hk, rfl, rfl, hsum, hb⟩ := hrel
      by_cases hlt : k < n
      · have hk' : k < fs.length := by rw [unhide hnn]; exact hlt
        obtain ⟨f, hf⟩ : ∃ f, fs[k]? = some f := ⟨fs[k], List.getElem?_eq_getElem hk'⟩
        obtain ⟨g, o, rfl, hg, hat⟩ := hc k f hf
        obtain ⟨c1', c2', c3', c4'⟩ := hat.below hb hg
        have hzf := unhide hz f (List.mem_of_getElem? hf)
        have hl2 : l ≤ 1048576 := by have := unhide hsum; omega
        have HT := hide (acsSz_take hf)
        have hss := hb.size
        replace hf := hide hf
        clear hc hat
        have CZ := hide (fun W => szAct_any f l W hzf.1 hzf.2.1 hzf.2.2 hl2)
        unfold acv at CZ
        go_wp2_with (go_at_call 9; refine ((unhide CZ) _).mono ?_; rintro e w1 ⟨⟨r, rfl, hr1⟩, hb1⟩)
        · go_ret
          exact ⟨⟨_, rfl, .inl rfl⟩, hb.trans (hb1.mono hss)⟩
        · obtain ⟨m, rfl, hm⟩ := hr1.resolve_left (by omega)
          go_roundw
          case rel =>
            refine ⟨k + 1, m, by omega, by go_num, rfl, ?_, hb.trans (hb1.mono hss)⟩
            have h3 := unhide HT; have h4 := unhide hsum; show _ + _ + _ = _; rw [h3]; omega
          case measure => simp [intOf]; omega
      · have e1 : k = n := by omega
        have e2 : fs.take k = fs := List.take_of_length_le (by rw [unhide hnn]; omega)
        rw [e2] at hsum
        go_wp2
        go_ret
        exact ⟨⟨_, rfl, .inr ⟨l, rfl, unhide hsum⟩⟩, hb⟩

theorem infoAct : (Try.prog.info? 35).map (fun i => (i.zero, i.size, i.bytes)) = some (some (acv acz), 4, 56) := by kernel_rfl

set_option maxRecDepth 20000 in
set_option maxHeartbeats 1000000 in
theorem toActS_any (fs : List Ac) (v : Value) (w : World) (hr : RdA w v fs) (hn : fs.length ≤ 1048576) :
    Calls Try.prog 19 #[v] w fun e w' => (∃ a c, e = .returned (.slice a fs.length c) ∧ OwnA w' w.heap.size 35 (.slice a fs.length c) fs) ∧ Below w.heap.size w w' := by
  obtain ⟨i0, hi, hz0, hz1, hz2⟩ := info_parts infoAct
  obtain ⟨a, c, rfl, hc⟩ := hr.open
  clear hr
  obtain ⟨n, hnn⟩ : ∃ n, fs.length = n := ⟨_, rfl⟩
  rw [hnn] at hn ⊢
  replace hnn := hide hnn
  go_enter Try.func19, Try.ntmps19
  go_wp2_with (at_make; refine wpList_make_full _ rfl _ _ 44 rfl w.heap.size 35 i0 (acv acz) 4 Try.underlying44 hi hz0 hz1 _ _ _ _ n rfl rfl rfl rfl (by rw [hz2]; omega) (by unfold maxLen; omega) (Nat.le_refl _) ?_; intro w1 hown1 hgrow1)
  have hr0 : OwnA w1 w.heap.size 35 (.slice (some ⟨w.heap.size, 0, none⟩) n n) (fs.take 0 ++ List.replicate (n - 0) acz) := OwnA.made hown1
  have hb0 : Below w.heap.size w w1 := (Below.refl w.heap.size w).grown hgrow1 (Nat.le_refl _) (fun k hk => by cases hk)
  clear hown1 hgrow1
  go_loopw [4] (fun ti wr => ∃ k : Nat, k ≤ n ∧ ti = .int .i64 k ∧ OwnA wr w.heap.size 35 (.slice (some ⟨w.heap.size, 0, none⟩) n n) (fs.take k ++ List.replicate (n - k) acz) ∧ Below w.heap.size w wr) (fun ti _ => n - (intOf ti).toNat)
  case atStart => exact ⟨0, Nat.zero_le _, rfl, hr0, hb0⟩
  case round =>
    obtain ⟨k, hk, rfl, ho, hb⟩ := hrel
    by_cases hlt : k < n
    · have hk' : k < fs.length := by rw [unhide hnn]; exact hlt
      obtain ⟨f, hf⟩ : ∃ f, fs[k]? = some f := ⟨fs[k], List.getElem?_eq_getElem hk'⟩
      obtain ⟨g, o, rfl, hg, hat⟩ := hc k f hf
      obtain ⟨c1', c2', c3', c4'⟩ := hat.below hb hg
      have hss := hb.size
      replace hf := hide hf
      clear hc hat hr0 hb0
      have CT := hide (fun W => toAct_any f W)
      unfold acv at CT
      go_wp2_with (go_at_call 12; refine ((unhide CT) _).mono ?_; rintro e w2 ⟨rfl, hb1⟩; have ho1 := ho.below hb1; obtain ⟨fo, _, d1, d2, d3, d4⟩ := OwnA.cells4 ho1 hlt; have hfz := OwnA.frozen ho1)
      have ho2 := ho1.set4 hlt f
      rw [take_fillA (unhide hf) (unhide hnn)] at ho2
      go_roundw
      case rel => exact ⟨k + 1, by omega, by go_num, ho2, ((((hb.trans (hb1.mono hss)).setCell (p := ⟨w.heap.size, k * 4, none⟩) (Nat.le_refl _) _).setCell (p := ⟨w.heap.size, k * 4 + 1, none⟩) (Nat.le_refl _) _).setCell (p := ⟨w.heap.size, k * 4 + 2, none⟩) (Nat.le_refl _) _).setCell (p := ⟨w.heap.size, k * 4 + 3, none⟩) (Nat.le_refl _) _⟩
      case measure => simp [intOf]; omega
    · have e1 : k = n := by omega
      have e2 : fs.take k ++ List.replicate (n - k) acz = fs := by
        rw [e1, Nat.sub_self, List.take_of_length_le (by rw [unhide hnn]; exact Nat.le_refl _)]
        simp
      rw [e2] at ho
      go_wp2
      go_ret
      exact ⟨⟨_, _, rfl, ho⟩, hb⟩

set_option maxHeartbeats 400000 in
theorem eqAct_any (f : Ac) (w : World) :
    Calls Try.prog 46 #[acv f, acv f] w fun e w' => e = .returned (.bool true) ∧ Below w.heap.size w w' := by
  unfold acv
  go_enter Try.func46, Try.ntmps46
  go_wp2
  go_ret
  exact ⟨rfl, ((Below.refl w.heap.size w).alloc (Nat.le_refl _) _).alloc (by simp) _⟩
set_option maxRecDepth 20000 in
set_option maxHeartbeats 1000000 in
theorem eqActS_any (fs : List Ac) (v1 v2 : Value) (w : World) (hr1 : RdA w v1 fs) (hr2 : RdA w v2 fs) (hn : fs.length ≤ 2000000) :
    Calls Try.prog 21 #[v1, v2] w fun e w' => e = .returned (.bool true) ∧ Below w.heap.size w w' := by
  obtain ⟨a1, c1, rfl, hc1⟩ := hr1.open
  obtain ⟨a2, c2, rfl, hc2⟩ := hr2.open
  clear hr1 hr2
  obtain ⟨n, hnn⟩ : ∃ n, fs.length = n := ⟨_, rfl⟩
  rw [hnn] at hn ⊢
  replace hnn := hide hnn
  go_enter Try.func21, Try.ntmps21
  go_wp2
  go_loopw [5] (fun ti wr => ∃ k : Nat, k ≤ n ∧ ti = .int .i64 k ∧ Below w.heap.size w wr) (fun ti _ => n - (intOf ti).toNat)
  case atStart => exact ⟨0, Nat.zero_le _, rfl, Below.refl _ _⟩
  case round =>
    obtain ⟨k, hk, rfl, hb⟩ := hrel
    by_cases hlt : k < n
    · have hk' : k < fs.length := by rw [unhide hnn]; exact hlt
      obtain ⟨f, hf⟩ : ∃ f, fs[k]? = some f := ⟨fs[k], List.getElem?_eq_getElem hk'⟩
      obtain ⟨g1, o1, rfl, hg1, hat1⟩ := hc1 k f hf
      obtain ⟨g2, o2, rfl, hg2, hat2⟩ := hc2 k f hf
      have F1 := hat1.below hb hg1
      have F2 := hat2.below hb hg2
      have hss := hb.size
      have hgw1 : g1 < wr.heap.size := by omega
      have hgw2 : g2 < wr.heap.size := by omega
      have KS : Hid (∀ W, Below wr.heap.size wr W → W.cell? ⟨g1, o1 + k * 4, none⟩ = some (.int .i64 f.kd) ∧ W.cell? ⟨g1, o1 + k * 4 + 1, none⟩ = some (.string f.nm) ∧ W.cell? ⟨g1, o1 + k * 4 + 2, none⟩ = some (.string f.tx) ∧ W.cell? ⟨g1, o1 + k * 4 + 3, none⟩ = some (.string f.to) ∧ W.cell? ⟨g2, o2 + k * 4, none⟩ = some (.int .i64 f.kd) ∧ W.cell? ⟨g2, o2 + k * 4 + 1, none⟩ = some (.string f.nm) ∧ W.cell? ⟨g2, o2 + k * 4 + 2, none⟩ = some (.string f.tx) ∧ W.cell? ⟨g2, o2 + k * 4 + 3, none⟩ = some (.string f.to)) := fun W hB => by
        obtain ⟨q1, q2, q3, q4⟩ := F1.below hB hgw1
        obtain ⟨q5, q6, q7, q8⟩ := F2.below hB hgw2
        exact ⟨q1, q2, q3, q4, q5, q6, q7, q8⟩
      have hi0 : (0 : Int) ≤ (k : Int) := by omega
      have hi1 : (k : Int) < (n : Int) := by omega
      replace hf := hide hf
      clear hc1 hc2 hat1 hat2 F1 F2
      have CE := hide (fun W => eqAct_any f W)
      unfold acv at CE
      go_wp2
      go_region_held3 (fun W => W.cell? ⟨g1, o1 + k * 4, none⟩ = some (.int .i64 f.kd) ∧ W.cell? ⟨g1, o1 + k * 4 + 1, none⟩ = some (.string f.nm) ∧ W.cell? ⟨g1, o1 + k * 4 + 2, none⟩ = some (.string f.tx) ∧ W.cell? ⟨g1, o1 + k * 4 + 3, none⟩ = some (.string f.to) ∧ W.cell? ⟨g2, o2 + k * 4, none⟩ = some (.int .i64 f.kd) ∧ W.cell? ⟨g2, o2 + k * 4 + 1, none⟩ = some (.string f.nm) ∧ W.cell? ⟨g2, o2 + k * 4 + 2, none⟩ = some (.string f.tx) ∧ W.cell? ⟨g2, o2 + k * 4 + 3, none⟩ = some (.string f.to)) (first | exact (unhide KS) _ ((Below.refl _ wr).drew) | exact (unhide KS) _ (((Below.refl _ wr).drew).trans hb1)) (first
        | (go_at_call 46; refine ((unhide CE) _).mono ?_; rintro e w1 ⟨rfl, hb1⟩))
      go_wp2
      go_roundw
      case rel => exact ⟨k + 1, by omega, by go_num, hb.drew.trans (hb1.mono hss)⟩
      case measure => simp [intOf]; omega
    · go_wp2
      go_ret
      exact ⟨rfl, hb⟩

theorem OwnA.open {w : World} {base : Nat} {e : TypeId} {v : Value} {fs : List Ac} (h : OwnA w base e v fs) : (fs = [] ∧ ∃ a c, v = .slice a 0 c) ∨ ∃ g c, v = .slice (some ⟨g, 0, none⟩) fs.length c ∧ base ≤ g ∧ g < w.heap.size := by
  rcases h.2 with ⟨h1, h2⟩ | ⟨g, cap, cur, h1, hb, hg, _⟩
  · exact .inl ⟨List.eq_nil_of_length_eq_zero h2, none, 0, h1⟩
  · exact .inr ⟨g, cap, h1, hb, (Array.getElem?_eq_some_iff.1 hg).1⟩

set_option maxRecDepth 20000 in
set_option maxHeartbeats 2000000 in
theorem markActS_any (v : Value) (base k M : Nat) (fs : List Ac) (w : World) (hM : M = k + 4 * fs.length) (hl : fs.length ≤ 2000000) (hk1 : 1 ≤ k) (hk : k ≤ 20000000) (_ : base ≤ w.heap.size) (ho : OwnA w base 35 v fs) :
    Calls Try.prog 22 #[v, .int .i64 k] w fun e w' => e = .returned (.int .i64 (M : Int)) ∧ w.grownBy w' v.ownBlock := by
  subst hM
  rcases ho.open with ⟨rfl, a, c, rfl⟩ | ⟨g, c, rfl, hg1, hg2⟩
  · clear ho
    go_enter Try.func22, Try.ntmps22
    go_wp2
    refine wp_loop_rounds 1 ?_
    rw [rounds_succ]
    go_wp2
    go_ret
    exact ⟨rfl, gR _ _⟩
  · obtain ⟨n, hnn⟩ : ∃ n, fs.length = n := ⟨_, rfl⟩
    rw [hnn] at hl ho ⊢
    have HNN := hide hnn
    clear hnn
    go_enter Try.func22, Try.ntmps22
    go_wp2
    go_loopw [1, 5] (fun tk ti wr => ∃ i q : Nat, i ≤ n ∧ ti = .int .i64 i ∧ tk = .int .i64 q ∧ Hid (q = k + 4 * i) ∧ (∃ xs, OwnA wr base 35 (.slice (some ⟨g, 0, none⟩) n c) xs) ∧ w.grownBy wr (some g)) (fun _ ti _ => n - (intOf ti).toNat)
    case atStart => exact ⟨0, k, Nat.zero_le _, rfl, rfl, rfl, ⟨fs, ho⟩, gR _ _⟩
    case round =>
      obtain ⟨i, q, hi, rfl, rfl, hq, ⟨xs, hown⟩, hb⟩ := hrel
      clear ho
      have hsz := hb.size
      by_cases hlt : i < n
      · have hq1 : 1 ≤ q := by have := unhide hq; omega
        have hq2 : q ≤ 900000000 := by have := unhide hq; omega
        have hlt' : (i : Int) < (n : Int) := by omega
        obtain ⟨f0, hf0, d1, d2, d3, d4⟩ := hown.cells4 hlt
        have hfz0 := hown.frozen
        have hgl : g < wr.heap.size := by omega
        have ho1 := hown.set0 hf0 (q : Int)
        have hb01 := gT hb (gS wr g (i * 4) (.int .i64 (q : Int)))
        generalize hW1 : wr.setCell ⟨g, i * 4, none⟩ (.int .i64 (q : Int)) = W1 at ho1 hb01
        go_wp2_with fail
        clear hW1 d1 d2 d3 d4 hfz0 hown hf0
        have s1 := hb01.size
        refine (markText_at _ (q + 1) (by omega) _ (by omega) (by omega)).mono ?_
        rintro e w2 ⟨rfl, hb2⟩
        have ho2 := ho1.below hb2
        have hb02 := gT hb01 (gB hb2 (some g))
        obtain ⟨f2, hf2, e1, e2, e3, e4⟩ := ho2.cells4 hlt
        have hfz2 := ho2.frozen
        have s2 := hb02.size
        have hgl2 : g < w2.heap.size := by omega
        have ho3 := ho2.set1 hf2 (mkS (q + 1))
        have hb03 := gT hb02 (gS w2 g (i * 4 + 1) (.string (mkS (q + 1))))
        generalize hW3 : w2.setCell ⟨g, i * 4 + 1, none⟩ (.string (mkS (q + 1))) = W3 at ho3 hb03
        go_wp2_with fail
        clear hW3 e1 e2 e3 e4 hfz2 ho2 ho1 hf2 hb2
        have s3 := hb03.size
        refine (markText_at _ (q + 2) (by omega) _ (by omega) (by omega)).mono ?_
        rintro e w4 ⟨rfl, hb4⟩
        have ho4 := ho3.below hb4
        have hb04 := gT hb03 (gB hb4 (some g))
        obtain ⟨f4, hf4, e1, e2, e3, e4⟩ := ho4.cells4 hlt
        have hfz4 := ho4.frozen
        have s4 := hb04.size
        have hgl4 : g < w4.heap.size := by omega
        have ho5 := ho4.set2 hf4 (mkS (q + 2))
        have hb05 := gT hb04 (gS w4 g (i * 4 + 2) (.string (mkS (q + 2))))
        generalize hW5 : w4.setCell ⟨g, i * 4 + 2, none⟩ (.string (mkS (q + 2))) = W5 at ho5 hb05
        go_wp2_with fail
        clear hW5 e1 e2 e3 e4 hfz4 ho4 ho3 hf4 hb4
        have s5 := hb05.size
        refine (markText_at _ (q + 3) (by omega) _ (by omega) (by omega)).mono ?_
        rintro e w6 ⟨rfl, hb6⟩
        have ho6 := ho5.below hb6
        have hb06 := gT hb05 (gB hb6 (some g))
        obtain ⟨f6, hf6, e1, e2, e3, e4⟩ := ho6.cells4 hlt
        have hfz6 := ho6.frozen
        have s6 := hb06.size
        have hgl6 : g < w6.heap.size := by omega
        have ho7 := ho6.set3 hf6 (mkS (q + 3))
        have hb07 := gT hb06 (gS w6 g (i * 4 + 3) (.string (mkS (q + 3))))
        clear ho5 hb6
        go_wp2
        have hk4 : ((q : Int) + 1 + 1 + 1 + 1) = ((k + 4 * (i + 1) : Nat) : Int) := by have := unhide hq; omega
        go_roundw
        case rel => exact ⟨i + 1, k + 4 * (i + 1), by omega, by go_num, by rw [← hk4], rfl, ⟨_, ho7⟩, hb07⟩
        case measure => simp [intOf]; omega
      · have he : i = n := by omega
        have hfin : ((k + 4 * n : Nat) : Int) = (q : Int) := by have := unhide hq; omega
        subst he
        replace hfin := hide hfin
        go_wp2
        go_ret
        exact ⟨by rw [unhide hfin]; rfl, hb⟩
end Go.Proofs.Ytfglljollonnfal
