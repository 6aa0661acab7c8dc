/- Merged: BkI1, BkE7, LawBk, RcH. -/
import Derived.Test.YtkbbcjnickgfjabMgEnter1
import Derived.Test.YtkbbcjnickgfjabMgEnter2
import Derived.Test.YtkbbcjnickgfjabMgEnter3
import Derived.Test.YtkbbcjnickgfjabMgEnter4
import Derived.Test.YtkbbcjnickgfjabMgEnter5
import Derived.Test.YtkbbcjnickgfjabMgEnter6
import Derived.Test.YtkbbcjnickgfjabMgEnter7
import Derived.Test.YtkbbcjnickgfjabMgEnter8
import Derived.Test.YtkbbcjnickgfjabMgEnter9
import Derived.Test.YtkbbcjnickgfjabMgEnter10
/- The project's books: whether one is right, over the loaded program. -/
namespace Go.Proofs.Ytkbbcjnickgfjab
open Go.RowKit
theorem thOk_pos {x : Th} (h : thOk x = true) : 0 < x.id := by
  have h1 := (thOk_iff x).1 h
  unfold ThOk at h1
  omega
set_option maxRecDepth 20000 in
set_option maxHeartbeats 4000000 in
theorem thingsOk_any (xs : List Th) (la : Int) (v : Value) (w : World) (hr : RdN thY w v xs) (hn9 : xs.length ≤ 2000000) :
    Calls Try.prog 52 #[v, .int .i64 la] w fun e w' => e = .returned (.bool (decide (xs.length ≤ 8) && thsOk la xs)) ∧ Below w.heap.size w w' := by
  obtain ⟨a, c, rfl, hc⟩ := hr.openT
  clear hr
  obtain ⟨n, hnn⟩ : ∃ n, xs.length = n := ⟨_, rfl⟩
  rw [hnn] at hn9 ⊢
  obtain ⟨ts, hts⟩ : ∃ ts, ts = thsOk la xs := ⟨_, rfl⟩
  rw [← hts]
  replace hts := hide hts
  replace hnn := hide hnn
  by_cases h8 : (8 : Int) < (n : Int)
  · have hd : decide (n ≤ 8) = false := decide_eq_false (by omega)
    rw [hd]
    go_enter Try.func52, Try.ntmps52
    go_wp2
    go_ret
    exact ⟨rfl, Below.refl _ _⟩
  · have hd : decide (n ≤ 8) = true := decide_eq_true (by omega)
    rw [hd, Bool.true_and]
    go_enter Try.func52, Try.ntmps52
    go_wp2
    go_loopw [5, 13] (fun tb ti wr => ∃ (k : Nat) (bf : Int), k ≤ n ∧ ti = .int .i64 k ∧ tb = .int .i64 bf ∧ Hid ((∀ j, j < k → TsAt la xs j) ∧ (k = 0 → bf = 0) ∧ (∀ i p, k = i + 1 → xs[i]? = some p → bf = p.id)) ∧ Below w.heap.size w wr) (fun _ ti _ => n - (intOf ti).toNat)
    case atStart => exact ⟨0, 0, Nat.zero_le _, rfl, rfl, ⟨fun j hj => by omega, fun _ => rfl, fun i p hi _ => by omega⟩, Below.refl _ _⟩
    case round =>
      obtain ⟨k, bf, hk, rfl, rfl, hok, hb⟩ := hrel
      have hss := hb.size
      by_cases hlt : k < n
      · have hk' : k < xs.length := by rw [unhide hnn]; exact hlt
        obtain ⟨f, hf⟩ : ∃ f, xs[k]? = some f := ⟨xs[k], List.getElem?_eq_getElem hk'⟩
        obtain ⟨g, o, rfl, hg, hat⟩ := hc k f hf
        have hA := hat.below hb hg
        obtain ⟨d0, d1, d2, d3, d4, d5, d6, d7⟩ := AtN.th hA
        have hlk : (k : Int) < (n : Int) := by omega
        have hi0 : (0 : Int) ≤ (k : Int) := by omega
        have C := hide (fun W => implThingOk_any f W)
        obtain ⟨of, hof⟩ : ∃ of, of = thOk f := ⟨_, rfl⟩
        rw [← hof] at C
        replace hof := hide hof
        replace hf := hide hf
        have GD : of = true → bf < f.id → f.id ≤ la → ((∀ j, j < k + 1 → TsAt la xs j) ∧ (k + 1 = 0 → f.id = 0) ∧ (∀ i p, k + 1 = i + 1 → xs[i]? = some p → f.id = p.id)) := by
          intro h1 h2 h3
          have hh := unhide hok
          refine ⟨fun j hj => ?_, fun h => by omega, fun i p hi hp => ?_⟩
          · rcases Nat.lt_or_ge j k with h | h
            · exact hh.1 j h
            · obtain rfl : j = k := by omega
              exact tsAt_mk (unhide hf) (by rw [← unhide hof]; exact h1) h3 (fun i p hi hp => by rw [← hh.2.2 i p hi hp]; exact h2)
          · obtain rfl : i = k := by omega
            have := unhide hf
            rw [this] at hp
            rw [Option.some.inj hp]
        have BD : (of = false ∨ f.id ≤ bf ∨ la < f.id) → ts = false := by
          intro h
          rw [unhide hts]
          refine thsOk_no (j := k) (fun hT => ?_)
          have hh := unhide hok
          obtain ⟨q1, q2, q3⟩ := hT _ (unhide hf)
          rcases h with h | h | h
          · rw [unhide hof, q1] at h; cases h
          · cases k with
            | zero => have := hh.2.1 rfl; have := thOk_pos q1; omega
            | succ i =>
              have hi : i < xs.length := by omega
              have hp := List.getElem?_eq_getElem hi
              have e1 := hh.2.2 i _ rfl hp
              have e2 := q3 i _ rfl hp
              omega
          · omega
        replace GD := hide GD; replace BD := hide BD
        obtain ⟨id, kind, hid, fix, sgn, wrp, val, nxt⟩ := f
        dsimp only at d0 d1 d2 d3 d4 d5 d6 d7
        clear hc hat hA hok
        go_wp2_with fail
        obtain ⟨W, hW, hX, hB, hs1⟩ := one_cb wr #[.int .i64 id, .int .i64 kind, .bool hid, .bool fix, .bool sgn, .bool wrp, .string val, .int .i64 nxt] 37
        first | rw [hW] | skip
        clear hW d0 d1 d2 d3 d4 d5 d6 d7
        refine (unhide C _).mono ?_
        rintro e w1 ⟨rfl, hb1⟩
        have x0 := (hX.step hb1).cell 0 (v := .int .i64 id) rfl
        have T1 := hb.trans ((hB.trans (hb1.mono hB.size)).mono hss)
        clear hX hB hb1 C hb
        cases of with
        | false =>
          have E := unhide BD (.inl rfl)
          subst E
          go_wp2
          go_ret
          exact ⟨rfl, T1⟩
        | true =>
          by_cases c1 : id ≤ bf
          · have E := unhide BD (.inr (.inl c1))
            subst E
            go_wp2
            go_ret
            exact ⟨rfl, T1⟩
          · by_cases c2 : la < id
            · have E := unhide BD (.inr (.inr c2))
              subst E
              go_wp2
              go_ret
              exact ⟨rfl, T1⟩
            · have E := hide (unhide GD rfl (by omega) (by omega))
              go_wp2
              go_roundw
              case rel => exact ⟨k + 1, id, by omega, by go_num, rfl, unhide E, T1⟩
              case measure => simp [intOf]; omega
      · have e1 : k = n := by omega
        have HT := hide (thsOk_all (la := la) (xs := xs) (fun j hj => (unhide hok).1 j (by have := unhide hnn; omega)))
        clear hok hc
        go_wp2
        go_ret
        exact ⟨retB (by rw [unhide hts]; exact unhide HT), hb⟩
set_option maxRecDepth 20000 in
set_option maxHeartbeats 4000000 in
theorem implBookOk_any (b : Bk) (v : Value) (w : World) (hr : RdBk w v b) (hn9 : b.ths.length ≤ 2000000) (hs1 : b.wd.size ≤ 100000000) (hs2 : b.ch.size ≤ 100000000) :
    Calls Try.prog 32 #[v] w fun e w' => e = .returned (.bool (bkOk b)) ∧ Below w.heap.size w w' := by
  rw [bkOk_is]
  obtain ⟨wd, tr, ths, la, ch, ct⟩ := b
  obtain ⟨a, n, c, rfl, hn, hu⟩ := hr.open
  dsimp only at hn hu hn9 hs1 hs2 ⊢
  subst hn
  have CT := hide (fun W (h : RdN thY W (.slice a ths.length c) ths) => thingsOk_any ths la (.slice a ths.length c) W h hn9)
  obtain ⟨ts, hts⟩ : ∃ ts, ts = thsOk la ths := ⟨_, rfl⟩
  rw [← hts] at CT ⊢
  obtain ⟨l8, hl8⟩ : ∃ z, z = decide (ths.length ≤ 8) := ⟨_, rfl⟩
  rw [← hl8] at CT
  obtain ⟨hd, hhd⟩ : ∃ hd, hd = decide (BkHead ⟨wd, tr, ths, la, ch, ct⟩) := ⟨_, rfl⟩
  have HD : (hd && ts) = true ↔ (wd.size = 32 ∧ ch.size = 32 ∧ (0 ≤ tr ∧ tr ≤ 3) ∧ (l8 && ts) = true ∧ 0 ≤ la ∧ la ≤ 1000 ∧ 0 ≤ ct ∧ ct ≤ 10000) := by
    rw [Bool.and_eq_true, Bool.and_eq_true, hhd, hl8, decide_eq_true_iff, decide_eq_true_iff]
    show BkHead ⟨wd, tr, ths, la, ch, ct⟩ ∧ _ ↔ _
    unfold BkHead
    constructor
    · rintro ⟨⟨h1, h2, h3, h4, h5, h6, h7, h8, h9⟩, h10⟩; exact ⟨h1, h2, ⟨h3, h4⟩, ⟨h5, h10⟩, h6, h7, h8, h9⟩
    · rintro ⟨h1, h2, ⟨h3, h4⟩, ⟨h5, h10⟩, h6, h7, h8, h9⟩; exact ⟨⟨h1, h2, h3, h4, h5, h6, h7, h8, h9⟩, h10⟩
  rw [← hhd]
  obtain ⟨lt, hlt⟩ : ∃ z, z = (l8 && ts) := ⟨_, rfl⟩
  obtain ⟨fin, hfin⟩ : ∃ z, z = (hd && ts) := ⟨_, rfl⟩
  rw [← hlt] at CT HD
  rw [← hfin] at HD ⊢
  clear hhd hl8 hts hlt hfin
  replace HD := hide HD
  obtain ⟨W, hW, hX, hB, hs0⟩ := one_cb w #[.string wd, .int .i64 tr, .slice a ths.length c, .int .i64 la, .string ch, .int .i64 ct] 33
  have HU := hide (hu.below hB)
  have XF : ∀ W', Below W.heap.size W W' → W'.cell? ⟨w.heap.size, 3, none⟩ = some (.int .i64 la) ∧ W'.cell? ⟨w.heap.size, 5, none⟩ = some (.int .i64 ct) := fun W' h => ⟨(hX.step h).cell 3 rfl, (hX.step h).cell 5 rfl⟩
  have x0 := hX.cell 0 (v := .string wd) rfl
  have x1 := hX.cell 1 (v := .int .i64 tr) rfl
  have x2 := hX.cell 2 (v := .slice a ths.length c) rfl
  have x3 := hX.cell 3 (v := .int .i64 la) rfl
  have x4 := hX.cell 4 (v := .string ch) rfl
  clear hu hr hX
  replace hB := hide hB
  replace XF := hide XF
  go_enter Try.func32, Try.ntmps32
  go_upto_region 1 with fail
  first | rw [hW] | skip
  clear hW
  go_wp2_with (first
    | (go_at_call 52; refine (unhide CT _ (unhide HU)).mono ?_; rintro e w1 ⟨rfl, hb1⟩; obtain ⟨z3, z5⟩ := unhide XF w1 hb1; have T1 := hide ((unhide hB).trans (hb1.mono (unhide hB).size)))
    | go_in)
  all_goals
    go_ret
    refine ⟨retB ?_, ?_⟩
    · rw [Bool.eq_iff_iff, unhide HD]
      clear HD
      simp_all
      try omega
    · first | exact unhide T1 | exact unhide hB
end Go.Proofs.Ytkbbcjnickgfjab

/- The project's books: a record is entered, over the loaded program. -/
namespace Go.Proofs.Ytkbbcjnickgfjab
open Go.RowKit
set_option maxRecDepth 20000 in
set_option maxHeartbeats 6400000 in
theorem implEnter_any (b : Bk) (r : Rc) (v : Value) (w : World) (hr : RdBk w v b) (hn9 : b.ths.length ≤ 1048576) (hs1 : b.wd.size ≤ 4000000) (hs2 : b.ch.size ≤ 3000000) (hs3 : ∀ x ∈ b.ths, x.val.size ≤ 4000000) (hs4 : r.tx.size ≤ 100000000) :
    Calls Try.prog 10 #[v, .agg (rcC r)] w fun e w' => EntRes 37 w (entB b r) e w' := by
  obtain ⟨a, n, c, rfl, hn, hu⟩ := hr.open
  subst hn
  have CR := hide (fun W => implRecText_any r hs4 W)
  have CB1 : Hid (∀ W : World, RdBk W (bkv b (.slice a b.ths.length c)) b → Calls Try.prog 32 #[.agg #[.string b.wd, .int .i64 b.tr, .slice a b.ths.length c, .int .i64 b.la, .string b.ch, .int .i64 b.ct]] W fun e w' => e = .returned (.bool (bkOk b)) ∧ Below W.heap.size W w') := fun W h => implBookOk_any b _ W h (by omega) (by omega) (by omega)
  have CY := hide (fun W (h : RdBk W (bkv b (.slice a b.ths.length c)) b) => bkCopied_any b _ W h hn9 hs1 (by omega) hs3)
  have CT : Hid (bkOk b = true → rcOk r = true → ¬ b.ct = 10000 → ∀ (g base : Nat) W, BkAt W g base 33 37 b → base ≤ g → Calls Try.prog 34 #[.pointer (some ⟨g, 0, none⟩), .agg (rcC r)] W fun e w' => TakR b r g base e w' ∧ Below base W w') :=
    fun h1 h2 h3 g base W hA hbg => bkTake_any b r g base W hA hbg h1 h2 h3 (show (digB (b.ch ++ rcT r)).size = 32 from V8.text_size _)
  have hsz : (b.ch ++ rcT r).size ≤ 4000000 := by have := rcT_le9 r; rw [ByteArray.size_append]; omega
  have CG : Hid (∀ W, Calls Try.prog 35 #[.string (b.ch ++ rcT r)] W fun e w' => e = .returned (.string (digB (b.ch ++ rcT r))) ∧ Below W.heap.size W w') := fun W => implDigest_any _ hsz W
  have HADD := hide (show ∀ W : World, (Op.stringOp .add b.ch (rcT r)).run Try.prog W = .ok (.string (b.ch ++ rcT r)) W from fun W => run_string_add_sum W _ _ (by have := rcT_le9 r; omega))
  have hro : rcC r = #[.int .i64 r.kd, .string r.tx, .int .i64 r.nm, .int .i64 r.th.id, .int .i64 r.th.kind, .bool r.th.hid, .bool r.th.fix, .bool r.th.sgn, .bool r.th.wrp, .string r.th.val, .int .i64 r.th.nxt] := rfl
  obtain ⟨ok, hok⟩ : ∃ z, z = rcOk r := ⟨_, rfl⟩
  obtain ⟨t, ht⟩ : ∃ z, z = rcT r := ⟨_, rfl⟩
  obtain ⟨bo, hbo⟩ : ∃ z, z = bkOk b := ⟨_, rfl⟩
  rw [← hok, ← ht] at CR
  rw [← hbo] at CB1
  rw [← ht] at CG HADD
  replace hok := hide hok; replace hbo := hide hbo
  obtain ⟨W, hW, hX, hY, hZ, hB, hs0⟩ := three_cb w (bkc b (.slice a b.ths.length c)) (rcC r) #[.string ⟨#[]⟩, .int .i64 0, .slice none 0 0, .int .i64 0, .string ⟨#[]⟩, .int .i64 0] 33 39 33
  have K := hide (show RdBk W (bkv b (.slice a b.ths.length c)) b from hr.below hB)
  rw [hro] at hW hY CT ⊢
  clear hro hr hu hsz
  have hW2 := hW
  simp only [bkc] at hW2
  have HB := hide hB
  replace hX := hide hX; replace hY := hide hY; replace hZ := hide hZ; replace ht := hide ht
  clear hW hB
  go_enter Try.func10, Try.ntmps10
  go_upto_region 1 with fail
  first | rw [hW2] | skip
  clear hW2
  go_upto_region 2 with (first
    | (refine wpList_load_row (P := Try.prog) rfl 39 (.tmp 3) rfl (w.heap.size + 1) rfl 39 #[.int .i64 r.kd, .string r.tx, .int .i64 r.nm, .int .i64 r.th.id, .int .i64 r.th.kind, .bool r.th.hid, .bool r.th.fix, .bool r.th.sgn, .bool r.th.wrp, .string r.th.val, .int .i64 r.th.nxt] (0, 0) _ (unhide hY) Try.underlying39 rfl rfl ?_)
    | (go_at_call 31; refine (unhide CR _).mono ?_; rintro e w1 ⟨rfl, hb1⟩))
  have K1 := hide ((unhide K).below hb1)
  have T1 := hide ((unhide HB).trans (hb1.mono (unhide HB).size))
  have hX1 := hide ((unhide hX).step hb1)
  have hY1 := hide ((unhide hY).step hb1)
  have hZ1 := hide ((unhide hZ).step hb1)
  clear hb1 K HB hX hY hZ CR hs0
  cases ok with
  | false =>
    have E := entB_two b r (unhide hok).symm
    clear CT CY CB1 CG HADD
    go_wp2_with (refine wpList_store_row (P := Try.prog) rfl 33 (.tmp 4) (.tmp 26) rfl (w.heap.size + 1 + 1) #[.string ⟨#[]⟩, .int .i64 0, .slice none 0 0, .int .i64 0, .string ⟨#[]⟩, .int .i64 0] rfl rfl 33 _ (unhide hZ1) rfl rfl (bkc_one _ _ _ _ _ _ _ _) ?_)
    have hZ9 := setRow_heap _ (w.heap.size + 1 + 1) _ #[.string ⟨#[]⟩, .int .i64 0, .slice none 0 0, .int .i64 0, .string ⟨#[]⟩, .int .i64 0] 33 (0, 0) (unhide hZ1)
    have T9 := Go.below_setRow (unhide T1) (show w.heap.size ≤ w.heap.size + 1 + 1 by omega) #[.string ⟨#[]⟩, .int .i64 0, .slice none 0 0, .int .i64 0, .string ⟨#[]⟩, .int .i64 0]
    exact bodyPost_ret (results_cb_tmp (by exact Try.results10) _ _ (w.heap.size + 1 + 1) 33 #[.string ⟨#[]⟩, .int .i64 0, .slice none 0 0, .int .i64 0, .string ⟨#[]⟩, .int .i64 0] _ rfl hZ9 Try.underlying33 rfl) rfl (by rw [E]; exact ⟨⟨none, 0, rfl, OwnN.nil _ _ _⟩, T9⟩)
  | true =>
    cases bo with
    | false =>
      have E := entB_one b r (unhide hbo).symm
      clear CT CY CG HADD
      have x0 := (unhide hX1).cell 0 (v := .string b.wd) rfl
      have x1 := (unhide hX1).cell 1 (v := .int .i64 b.tr) rfl
      have x2 := (unhide hX1).cell 2 (v := .slice a b.ths.length c) rfl
      have x3 := (unhide hX1).cell 3 (v := .int .i64 b.la) rfl
      have x4 := (unhide hX1).cell 4 (v := .string b.ch) rfl
      have x5 := (unhide hX1).cell 5 (v := .int .i64 b.ct) rfl
      go_upto_region 3 with fail
      refine (unhide CB1 _ (unhide K1)).mono ?_
      rintro e w2 ⟨rfl, hb2⟩
      have hZ2 := hide ((unhide hZ1).step hb2)
      have T2 := hide ((unhide T1).trans (hb2.mono (unhide T1).size))
      clear x0 x1 x2 x3 x4 x5 hb2 hX1 hY1 hZ1 T1 K1 CB1
      go_upto_region 3 with fail
      go_wp2_with (refine wpList_store_row (P := Try.prog) rfl 33 (.tmp 4) (.tmp 26) rfl (w.heap.size + 1 + 1) #[.string ⟨#[]⟩, .int .i64 0, .slice none 0 0, .int .i64 0, .string ⟨#[]⟩, .int .i64 0] rfl rfl 33 _ (unhide hZ2) rfl rfl (bkc_one _ _ _ _ _ _ _ _) ?_)
      have hZ9 := setRow_heap _ (w.heap.size + 1 + 1) _ #[.string ⟨#[]⟩, .int .i64 0, .slice none 0 0, .int .i64 0, .string ⟨#[]⟩, .int .i64 0] 33 (0, 0) (unhide hZ2)
      have T9 := Go.below_setRow (unhide T2) (show w.heap.size ≤ w.heap.size + 1 + 1 by omega) #[.string ⟨#[]⟩, .int .i64 0, .slice none 0 0, .int .i64 0, .string ⟨#[]⟩, .int .i64 0]
      exact bodyPost_ret (results_cb_tmp (by exact Try.results10) _ _ (w.heap.size + 1 + 1) 33 #[.string ⟨#[]⟩, .int .i64 0, .slice none 0 0, .int .i64 0, .string ⟨#[]⟩, .int .i64 0] _ rfl hZ9 Try.underlying33 rfl) rfl (by rw [E]; exact ⟨⟨none, 0, rfl, OwnN.nil _ _ _⟩, T9⟩)
    | true =>
      by_cases h3 : b.ct = 10000
      · have E := entB_three b r h3
        clear CT CY CG HADD
        have x0 := (unhide hX1).cell 0 (v := .string b.wd) rfl
        have x1 := (unhide hX1).cell 1 (v := .int .i64 b.tr) rfl
        have x2 := (unhide hX1).cell 2 (v := .slice a b.ths.length c) rfl
        have x3 := (unhide hX1).cell 3 (v := .int .i64 b.la) rfl
        have x4 := (unhide hX1).cell 4 (v := .string b.ch) rfl
        have x5 := (unhide hX1).cell 5 (v := .int .i64 b.ct) rfl
        have q5 := hide (show ∀ w2 : World, Below w1.heap.size w1 w2 → w2.cell? ⟨w.heap.size, 5, none⟩ = some (.int .i64 b.ct) from fun w2 h => ((unhide hX1).step h).cell 5 rfl)
        have d3 : (b.ct == 10000) = true := by rw [h3]; rfl
        replace h3 := hide h3
        go_upto_region 3 with fail
        refine (unhide CB1 _ (unhide K1)).mono ?_
        rintro e w2 ⟨rfl, hb2⟩
        have hZ2 := hide ((unhide hZ1).step hb2)
        have T2 := hide ((unhide T1).trans (hb2.mono (unhide T1).size))
        clear x0 x1 x2 x3 x4 x5
        have x5 := unhide q5 w2 hb2
        clear hb2 hX1 hY1 hZ1 T1 K1 CB1 q5
        go_upto_region 3 with fail
        go_wp2_with (refine wpList_store_row (P := Try.prog) rfl 33 (.tmp 4) (.tmp 26) rfl (w.heap.size + 1 + 1) #[.string ⟨#[]⟩, .int .i64 0, .slice none 0 0, .int .i64 0, .string ⟨#[]⟩, .int .i64 0] rfl rfl 33 _ (unhide hZ2) rfl rfl (bkc_one _ _ _ _ _ _ _ _) ?_)
        have hZ9 := setRow_heap _ (w.heap.size + 1 + 1) _ #[.string ⟨#[]⟩, .int .i64 0, .slice none 0 0, .int .i64 0, .string ⟨#[]⟩, .int .i64 0] 33 (0, 0) (unhide hZ2)
        have T9 := Go.below_setRow (unhide T2) (show w.heap.size ≤ w.heap.size + 1 + 1 by omega) #[.string ⟨#[]⟩, .int .i64 0, .slice none 0 0, .int .i64 0, .string ⟨#[]⟩, .int .i64 0]
        exact bodyPost_ret (results_cb_tmp (by exact Try.results10) _ _ (w.heap.size + 1 + 1) 33 #[.string ⟨#[]⟩, .int .i64 0, .slice none 0 0, .int .i64 0, .string ⟨#[]⟩, .int .i64 0] _ rfl hZ9 Try.underlying33 rfl) rfl (by rw [E]; exact ⟨⟨none, 0, rfl, OwnN.nil _ _ _⟩, T9⟩)
      · have CT2 := hide (unhide CT (unhide hbo).symm (unhide hok).symm h3)
        clear CT
        have x0 := (unhide hX1).cell 0 (v := .string b.wd) rfl
        have x1 := (unhide hX1).cell 1 (v := .int .i64 b.tr) rfl
        have x2 := (unhide hX1).cell 2 (v := .slice a b.ths.length c) rfl
        have x3 := (unhide hX1).cell 3 (v := .int .i64 b.la) rfl
        have x4 := (unhide hX1).cell 4 (v := .string b.ch) rfl
        have x5 := (unhide hX1).cell 5 (v := .int .i64 b.ct) rfl
        have q5 := hide (show ∀ w2 : World, Below w1.heap.size w1 w2 → w2.cell? ⟨w.heap.size, 5, none⟩ = some (.int .i64 b.ct) from fun w2 h => ((unhide hX1).step h).cell 5 rfl)
        go_upto_region 4 with fail
        refine (unhide CB1 _ (unhide K1)).mono ?_
        rintro e w2 ⟨rfl, hb2⟩
        have hX2 := hide ((unhide hX1).step hb2)
        have hY2 := hide ((unhide hY1).step hb2)
        have hZ2 := hide ((unhide hZ1).step hb2)
        have K2 := hide ((unhide K1).below hb2)
        have T2 := hide ((unhide T1).trans (hb2.mono (unhide T1).size))
        clear x0 x1 x2 x3 x4 x5
        have x5 := unhide q5 w2 hb2
        clear hb2 hX1 hY1 hZ1 T1 K1 CB1 q5
        go_upto_region 4 with fail
        have HC := hide (show 0 ≤ b.ct ∧ b.ct ≤ 10000 by have h := bkOk_head (unhide hbo).symm; exact ⟨h.2.2.2.2.2.2.2.1, h.2.2.2.2.2.2.2.2⟩)
        clear x5
        go_upto_region 5 with (first
          | (refine wpList_load_row (P := Try.prog) rfl 33 (.tmp 2) rfl w.heap.size rfl 33 (bkc b (.slice a b.ths.length c)) (0, 0) _ (unhide hX2) Try.underlying33 rfl rfl ?_)
          | (go_at_call 33; refine (unhide CY _ (unhide K2)).mono ?_; rintro e w3 ⟨⟨a3, c3, rfl, ho3⟩, hb3⟩; have HG := hide (CB.new w3 #[.string ⟨#[]⟩, .int .i64 0, .slice none 0 0, .int .i64 0, .string ⟨#[]⟩, .int .i64 0] 33))
          | (refine wpList_store_row (P := Try.prog) rfl 33 (.tmp 8) (.tmp 28) rfl w3.heap.size (bkc b (.slice a3 b.ths.length c3)) rfl rfl 33 _ (unhide HG) rfl rfl (bkc_all _ _ _ _) ?_))
        have hG4 := setRow_heap _ w3.heap.size _ (bkc b (.slice a3 b.ths.length c3)) 33 (0, 0) (unhide HG)
        have hbV := Go.below_setRow ((Below.refl w3.heap.size w3).alloc (Nat.le_refl _) (.cells #[.string ⟨#[]⟩, .int .i64 0, .slice none 0 0, .int .i64 0, .string ⟨#[]⟩, .int .i64 0] 33)) (Nat.le_refl _) (bkc b (.slice a3 b.ths.length c3))
        have hb23 := hb3.trans (hbV.mono hb3.size)
        obtain ⟨g, hg⟩ : ∃ z, z = w3.heap.size := ⟨_, rfl⟩
        obtain ⟨base, hbase⟩ : ∃ z, z = w2.heap.size := ⟨_, rfl⟩
        have hbg : base ≤ g := by have := hb3.size; omega
        have hlb : w.heap.size + 1 + 1 < base := by have := (unhide hZ2).lt; omega
        refine wp_gen (fun V => BkAt V w3.heap.size w2.heap.size 33 37 b ∧ CB V w.heap.size 33 (bkc b (.slice a b.ths.length c)) ∧ CB V (w.heap.size + 1) 39 #[.int .i64 r.kd, .string r.tx, .int .i64 r.nm, .int .i64 r.th.id, .int .i64 r.th.kind, .bool r.th.hid, .bool r.th.fix, .bool r.th.sgn, .bool r.th.wrp, .string r.th.val, .int .i64 r.th.nxt] ∧ CB V (w.heap.size + 1 + 1) 33 #[.string ⟨#[]⟩, .int .i64 0, .slice none 0 0, .int .i64 0, .string ⟨#[]⟩, .int .i64 0] ∧ Below w.heap.size w V ∧ base ≤ V.heap.size) ⟨⟨a3, c3, hG4, ho3.below hbV⟩, (unhide hX2).step hb23, (unhide hY2).step hb23, (unhide hZ2).step hb23, (unhide T2).trans (hb23.mono (unhide T2).size), by have := hb23.size; omega⟩ ?_
        clear hG4 hbV hb23 ho3 hb3 HG hX2 hY2 hZ2 T2 K2 CY
        rw [← hg, ← hbase]
        replace hg := hide hg; replace hbase := hide hbase
        rintro V ⟨hA, hX, hY, hZ, hT, hlV⟩
        have CT3 := hide (unhide CT2 g base V hA hbg)
        clear CT2 hA
        replace hX := hide hX; replace hY := hide hY; replace hZ := hide hZ
        go_upto_region 5 with fail
        go_wp2_with (first
          | (refine wpList_load_row (P := Try.prog) rfl 39 (.tmp 3) rfl (w.heap.size + 1) rfl 39 #[.int .i64 r.kd, .string r.tx, .int .i64 r.nm, .int .i64 r.th.id, .int .i64 r.th.kind, .bool r.th.hid, .bool r.th.fix, .bool r.th.sgn, .bool r.th.wrp, .string r.th.val, .int .i64 r.th.nxt] (0, 0) _ (unhide hY) Try.underlying39 rfl rfl ?_)
          | fail)
        refine (unhide CT3).mono ?_
        rintro e w5 ⟨⟨rb, rfl, hres⟩, hb5⟩
        have hX5 := hide ((unhide hX).below hb5 (by omega))
        have hZ5 := hide ((unhide hZ).below hb5 hlb)
        have T5 := hide (hT.trans (hb5.mono (by omega)))
        clear CT3 hX hY hZ hT
        rcases hres with ⟨rfl, o, E, hoc, hA⟩ | ⟨rfl, E⟩
        · obtain ⟨a5, c5, hG5, ho5⟩ := hA
          have hgl := hG5.lt
          have x4 := (unhide hX5).cell 4 (v := .string b.ch) rfl
          have q5 := hide (show ∀ V2 : World, Below w5.heap.size w5 V2 → CB V2 g 33 (bkc o (.slice a5 o.ths.length c5)) ∧ OwnN thY V2 base 37 (.slice a5 o.ths.length c5) o.ths from fun V2 h => ⟨hG5.step h, ho5.below h⟩)
          have hadd := unhide HADD
          replace E := hide E
          clear hG5 ho5 hb5
          go_upto_region 7 with fail
          go_wp2_with fail
          refine (unhide CG _).mono ?_
          rintro e w6 ⟨rfl, hb6⟩
          obtain ⟨hG6, ho6⟩ := unhide q5 _ hb6
          have hZ6 := (unhide hZ5).step hb6
          have T6 := (unhide T5).trans (hb6.mono (unhide T5).size)
          clear hadd x4 q5 hX5 hZ5 T5 CG HADD hb6
          obtain ⟨dg, hdg⟩ : ∃ z, z = digB (b.ch ++ t) := ⟨_, rfl⟩
          rw [← hdg]
          replace hdg := hide hdg
          have q4 := hG6.cell 4 (v := .string o.ch) rfl
          have z4 := hG6.frozen 4
          have hG7 := hG6.set 4 (.string dg)
          have ho7 := ho6.setO g 4 (.string dg) (ho6.off hG6 (by decide))
          have hZ7 := hZ6.set_other (h := g) (k := 4) (by omega) (.string dg)
          have T7 := T6.setCell (p := ⟨g, 4, none⟩) (by show w.heap.size ≤ g; omega) (.string dg)
          have k5 := hG7.cell 5 (v := .int .i64 o.ct) rfl
          have z5 := hG7.frozen 5
          obtain ⟨n1, hn1⟩ : ∃ z, z = b.ct + 1 := ⟨_, rfl⟩
          have un : IntKind.i64.wrap (o.ct + 1) = n1 := by rw [hoc, IntKind.wrap_i64]; have := unhide HC; omega
          have hG8 := hide (cb_eq (hG7.set 5 (.int .i64 n1)) (show (#[.string o.wd, .int .i64 o.tr, .slice a5 o.ths.length c5, .int .i64 o.la, .string dg, .int .i64 n1] : Array Value) = _ from rfl))
          have ho8 := hide (ho7.setO g 5 (.int .i64 n1) (ho7.off hG7 (by decide)))
          have hZ8 := hide (hZ7.set_other (h := g) (k := 5) (by omega) (.int .i64 n1))
          have T8 := hide (T7.setCell (p := ⟨g, 5, none⟩) (by show w.heap.size ≤ g; omega) (.int .i64 n1))
          replace hn1 := hide hn1; replace hoc := hide hoc
          clear hG6 ho6 hZ6 T6 hG7 ho7 hZ7 T7
          go_upto_region 9 with fail
          refine wp_gen (fun V => CB V g 33 #[.string o.wd, .int .i64 o.tr, .slice a5 o.ths.length c5, .int .i64 o.la, .string dg, .int .i64 n1] ∧ OwnN thY V base 37 (.slice a5 o.ths.length c5) o.ths ∧ CB V (w.heap.size + 1 + 1) 33 #[.string ⟨#[]⟩, .int .i64 0, .slice none 0 0, .int .i64 0, .string ⟨#[]⟩, .int .i64 0] ∧ Below w.heap.size w V) ⟨unhide hG8, unhide ho8, unhide hZ8, unhide T8⟩ ?_
          clear hG8 ho8 hZ8 T8 q4 z4 k5 z5 un
          rintro V9 ⟨hG, ho, hZ, T⟩
          replace hG := hide hG; replace hZ := hide hZ; replace ho := hide ho; replace T := hide T
          go_wp2_with (first
            | (refine wpList_load_row (P := Try.prog) rfl 33 (.tmp 8) rfl g rfl 33 #[.string o.wd, .int .i64 o.tr, .slice a5 o.ths.length c5, .int .i64 o.la, .string dg, .int .i64 n1] (0, 0) _ (unhide hG) Try.underlying33 rfl rfl ?_)
            | (refine wpList_store_row (P := Try.prog) rfl 33 (.tmp 4) (.tmp 43) rfl (w.heap.size + 1 + 1) #[.string o.wd, .int .i64 o.tr, .slice a5 o.ths.length c5, .int .i64 o.la, .string dg, .int .i64 n1] rfl rfl 33 _ (unhide hZ) rfl rfl (bkc_one _ _ _ _ _ _ _ _) ?_))
          have hZ9 := setRow_heap _ (w.heap.size + 1 + 1) _ #[.string o.wd, .int .i64 o.tr, .slice a5 o.ths.length c5, .int .i64 o.la, .string dg, .int .i64 n1] 33 (0, 0) (unhide hZ)
          have T9 := Go.below_setRow (unhide T) (show w.heap.size ≤ w.heap.size + 1 + 1 by omega) #[.string o.wd, .int .i64 o.tr, .slice a5 o.ths.length c5, .int .i64 o.la, .string dg, .int .i64 n1]
          have ho9 := (unhide ho).setRow (g := w.heap.size + 1 + 1) hlb #[.string o.wd, .int .i64 o.tr, .slice a5 o.ths.length c5, .int .i64 o.la, .string dg, .int .i64 n1]
          have hfin : bkOn b r o = ⟨o.wd, o.tr, o.ths, o.la, dg, n1⟩ := by unfold bkOn; rw [unhide hdg, unhide hn1, unhide ht]
          exact bodyPost_ret (results_cb_tmp (by exact Try.results10) _ _ (w.heap.size + 1 + 1) 33 #[.string o.wd, .int .i64 o.tr, .slice a5 o.ths.length c5, .int .i64 o.la, .string dg, .int .i64 n1] _ rfl hZ9 Try.underlying33 rfl) rfl (by rw [unhide E, hfin]; exact ⟨⟨a5, c5, rfl, ho9.low (base' := w.heap.size) (by omega)⟩, T9⟩)
        · clear CG HADD
          go_upto_region 6 with fail
          go_wp2_with (refine wpList_store_row (P := Try.prog) rfl 33 (.tmp 4) (.tmp 32) rfl (w.heap.size + 1 + 1) #[.string ⟨#[]⟩, .int .i64 0, .slice none 0 0, .int .i64 0, .string ⟨#[]⟩, .int .i64 0] rfl rfl 33 _ (unhide hZ5) rfl rfl (bkc_one _ _ _ _ _ _ _ _) ?_)
          have hZ9 := setRow_heap _ (w.heap.size + 1 + 1) _ #[.string ⟨#[]⟩, .int .i64 0, .slice none 0 0, .int .i64 0, .string ⟨#[]⟩, .int .i64 0] 33 (0, 0) (unhide hZ5)
          have T9 := Go.below_setRow (unhide T5) (show w.heap.size ≤ w.heap.size + 1 + 1 by omega) #[.string ⟨#[]⟩, .int .i64 0, .slice none 0 0, .int .i64 0, .string ⟨#[]⟩, .int .i64 0]
          exact bodyPost_ret (results_cb_tmp (by exact Try.results10) _ _ (w.heap.size + 1 + 1) 33 #[.string ⟨#[]⟩, .int .i64 0, .slice none 0 0, .int .i64 0, .string ⟨#[]⟩, .int .i64 0] _ rfl hZ9 Try.underlying33 rfl) rfl (by rw [E]; exact ⟨⟨none, 0, rfl, OwnN.nil _ _ _⟩, T9⟩)
end Go.Proofs.Ytkbbcjnickgfjab

/- Exact laws over books, over the loaded program, the project's functions as premises. -/
namespace Go.Proofs.Ytkbbcjnickgfjab
open Go.RowKit
end Go.Proofs.Ytkbbcjnickgfjab

/- The laws' helpers on records, over the loaded program. -/
namespace Go.Proofs.Ytkbbcjnickgfjab
open Go.RowKit
set_option maxRecDepth 20000 in
set_option maxHeartbeats 4000000 in
theorem szRec_any (r : Rc) (L : Int) (hL : 0 ≤ L ∧ L ≤ 1048576) (h1 : r.tx.size ≤ maxLen) (h2 : r.th.val.size ≤ maxLen) (w : World) :
    Calls Try.prog 6 #[.agg (rcC r), .int .i64 L] w fun e w' => (∃ z : Int, e = .returned (.int .i64 z) ∧ (z < 0 ∨ (z = L - (r.tx.size : Int) - (r.th.val.size : Int) ∧ (r.tx.size : Int) + (r.th.val.size : Int) ≤ L))) ∧ Below w.heap.size w w' := by
  have C := fun L2 (h : 0 ≤ L2 ∧ L2 ≤ 1048576) W => szThing_any r.th L2 h h2 W
  obtain ⟨kd, tx, nm, ⟨id, kind, hid, fix, sgn, wrp, val, nxt⟩⟩ := r
  simp only [rcC, thC] at h1 h2 C ⊢
  unfold maxLen at h1 h2
  replace C := hide C
  obtain ⟨W, hW, hC, hb, hlt⟩ := one_cb w #[.int .i64 kd, .string tx, .int .i64 nm, .int .i64 id, .int .i64 kind, .bool hid, .bool fix, .bool sgn, .bool wrp, .string val, .int .i64 nxt] 28
  obtain ⟨z, hz⟩ : ∃ z : Int, z = L - (tx.size : Int) := ⟨_, rfl⟩
  have u1 : IntKind.i64.wrap (L - (tx.size : Int)) = z := by rw [IntKind.wrap_i64]; omega
  have u1' : wrap64 (L - (tx.size : Int)) = z := (IntWalk.i64_left _).symm.trans u1
  have c1 := hC.cell 1 (v := .string tx) rfl
  by_cases hn : z < 0
  · replace hz := hide hz; replace h1 := hide h1; replace h2 := hide h2; replace hL := hide hL
    go_enter Try.func6, Try.ntmps6
    go_wp2
    go_ret
    exact ⟨⟨-1, rfl, .inl (by omega)⟩, hb⟩
  · have C2 := hide (unhide C z (by omega))
    clear C
    have HZ := hide (show z = L - (tx.size : Int) ∧ (tx.size : Int) ≤ L from ⟨hz, by omega⟩)
    replace hz := hide hz; replace h1 := hide h1; replace h2 := hide h2; replace hL := hide hL
    have c3 := hC.cell 3 (v := .int .i64 id) rfl
    have c4 := hC.cell 4 (v := .int .i64 kind) rfl
    have c5 := hC.cell 5 (v := .bool hid) rfl
    have c6 := hC.cell 6 (v := .bool fix) rfl
    have c7 := hC.cell 7 (v := .bool sgn) rfl
    have c8 := hC.cell 8 (v := .bool wrp) rfl
    have c9 := hC.cell 9 (v := .string val) rfl
    have c10 := hC.cell 10 (v := .int .i64 nxt) rfl
    go_enter Try.func6, Try.ntmps6
    go_upto_region 5 with (go_at_call 21; refine (unhide C2 _).mono ?_; rintro e w1 ⟨⟨z1, rfl, hz1⟩, hb1⟩)
    clear c1 c3 c4 c5 c6 c7 c8 c9 c10
    have T1 := hb.trans (hb1.mono hb.size)
    rcases hz1 with ⟨hn1, _⟩ | ⟨hz1, hz2⟩
    · go_wp2
      go_ret
      exact ⟨⟨_, rfl, .inl (by omega)⟩, T1⟩
    · have hn1 : ¬ z1 < 0 := by omega
      obtain ⟨e1, e2⟩ := unhide HZ
      have HE := hide (show z1 = L - (tx.size : Int) - (val.size : Int) ∧ (tx.size : Int) + (val.size : Int) ≤ L from ⟨by omega, by omega⟩)
      clear HZ e1 e2 hz1 hz2
      go_wp2
      go_ret
      exact ⟨⟨_, rfl, .inr (unhide HE)⟩, T1⟩
set_option maxRecDepth 20000 in
set_option maxHeartbeats 4000000 in
theorem toRec_any (r : Rc) (w : World) :
    Calls Try.prog 9 #[.agg (rcC r)] w fun e w' => e = .returned (.agg (rcC r)) ∧ Below w.heap.size w w' := by
  have C := fun W => toThing_any r.th W
  obtain ⟨kd, tx, nm, ⟨id, kind, hid, fix, sgn, wrp, val, nxt⟩⟩ := r
  simp only [rcC, thC] at C ⊢
  replace C := hide C
  go_enter Try.func9, Try.ntmps9
  go_upto_region 2 with fail
  obtain ⟨W, hW, hX, hY, hZ, hB, hs1⟩ := three_cb w #[.int .i64 kd, .string tx, .int .i64 nm, .int .i64 id, .int .i64 kind, .bool hid, .bool fix, .bool sgn, .bool wrp, .string val, .int .i64 nxt] #[.int .i64 0, .string ⟨#[]⟩, .int .i64 0, .int .i64 0, .int .i64 0, .bool false, .bool false, .bool false, .bool false, .string ⟨#[]⟩, .int .i64 0] #[.int .i64 0, .string ⟨#[]⟩, .int .i64 0, .int .i64 0, .int .i64 0, .bool false, .bool false, .bool false, .bool false, .string ⟨#[]⟩, .int .i64 0] 28 39 39
  first | rw [hW] | skip
  clear hW hs1
  have x0 := hX.cell 0 (v := .int .i64 kd) rfl
  have z0 := hZ.cell 0 (v := .int .i64 0) rfl
  have f0 := hZ.frozen 0
  have hZ1 := hZ.set 0 (.int .i64 kd)
  have hX1 := hX.set_other (h := w.heap.size + 1 + 1) (k := 0) (by omega) (.int .i64 kd)
  have hY1 := hY.set_other (h := w.heap.size + 1 + 1) (k := 0) (by omega) (.int .i64 kd)
  have T1 := hB.setCell (p := ⟨w.heap.size + 1 + 1, 0, none⟩) (by show _ ≤ w.heap.size + 1 + 1; omega) (.int .i64 kd)
  have x1 := hX1.cell 1 (v := .string tx) rfl
  have z1 := hZ1.cell 1 (v := .string ⟨#[]⟩) rfl
  have f1 := hZ1.frozen 1
  have hZ2 := hZ1.set 1 (.string tx)
  have hX2 := hX1.set_other (h := w.heap.size + 1 + 1) (k := 1) (by omega) (.string tx)
  have hY2 := hY1.set_other (h := w.heap.size + 1 + 1) (k := 1) (by omega) (.string tx)
  have T2 := T1.setCell (p := ⟨w.heap.size + 1 + 1, 1, none⟩) (by show _ ≤ w.heap.size + 1 + 1; omega) (.string tx)
  have x2 := hX2.cell 2 (v := .int .i64 nm) rfl
  have z2 := hZ2.cell 2 (v := .int .i64 0) rfl
  have f2 := hZ2.frozen 2
  have hZ3 := hZ2.set 2 (.int .i64 nm)
  have hX3 := hX2.set_other (h := w.heap.size + 1 + 1) (k := 2) (by omega) (.int .i64 nm)
  have hY3 := hide (hY2.set_other (h := w.heap.size + 1 + 1) (k := 2) (by omega) (.int .i64 nm))
  have T3 := hide (T2.setCell (p := ⟨w.heap.size + 1 + 1, 2, none⟩) (by show _ ≤ w.heap.size + 1 + 1; omega) (.int .i64 nm))
  have hZ4 := hide (cb_eq hZ3 (show (#[.int .i64 kd, .string tx, .int .i64 nm, .int .i64 0, .int .i64 0, .bool false, .bool false, .bool false, .bool false, .string ⟨#[]⟩, .int .i64 0] : Array Value) = _ from rfl))
  have hX4 := hide hX3
  clear hB hX hY hZ hX1 hX2 hX3 hY1 hY2 hZ1 hZ2 hZ3 T1 T2
  go_upto_region 5 with fail
  refine wp_gen (fun W5 => CB W5 (w.heap.size + 1 + 1) 39 #[.int .i64 kd, .string tx, .int .i64 nm, .int .i64 0, .int .i64 0, .bool false, .bool false, .bool false, .bool false, .string ⟨#[]⟩, .int .i64 0] ∧ CB W5 w.heap.size 28 #[.int .i64 kd, .string tx, .int .i64 nm, .int .i64 id, .int .i64 kind, .bool hid, .bool fix, .bool sgn, .bool wrp, .string val, .int .i64 nxt] ∧ CB W5 (w.heap.size + 1) 39 #[.int .i64 0, .string ⟨#[]⟩, .int .i64 0, .int .i64 0, .int .i64 0, .bool false, .bool false, .bool false, .bool false, .string ⟨#[]⟩, .int .i64 0] ∧ Below w.heap.size w W5) ⟨unhide hZ4, unhide hX4, unhide hY3, unhide T3⟩ ?_
  clear x0 x1 x2 z0 z1 z2 f0 f1 f2 hZ4 hX4 hY3 T3
  rintro W5 ⟨hZ, hX, hY, T⟩
  have c3 := hX.cell 3 (v := .int .i64 id) rfl
  have c4 := hX.cell 4 (v := .int .i64 kind) rfl
  have c5 := hX.cell 5 (v := .bool hid) rfl
  have c6 := hX.cell 6 (v := .bool fix) rfl
  have c7 := hX.cell 7 (v := .bool sgn) rfl
  have c8 := hX.cell 8 (v := .bool wrp) rfl
  have c9 := hX.cell 9 (v := .string val) rfl
  have c10 := hX.cell 10 (v := .int .i64 nxt) rfl
  have hZ0 := hide hZ; have hX0 := hide hX; have hY0 := hide hY; have T0 := hide T
  clear hZ hX hY T
  go_upto_region 6 with (first
    | (go_at_call 30; refine (unhide C _).mono ?_; rintro e w1 ⟨rfl, hb1⟩; have hZ1 := (unhide hZ0).step hb1; clear c3 c4 c5 c6 c7 c8 c9 c10)
    | (refine wpList_store_cb rfl 37 (.tmp 16) (.tmp 15) rfl (g := w.heap.size + 1 + 1) (o := 3) (T := 39) (cs := #[.int .i64 kd, .string tx, .int .i64 nm, .int .i64 0, .int .i64 0, .bool false, .bool false, .bool false, .bool false, .string ⟨#[]⟩, .int .i64 0]) [.int .i64 id, .int .i64 kind, .bool hid, .bool fix, .bool sgn, .bool wrp, .string val, .int .i64 nxt] rfl rfl hZ1 (by simp) (by simp [Value.oneCell']) (by kernel_rfl) ?_
       intro w2 hZ2 hg2 hsz2))
  replace hZ2 := hide (cb_eq hZ2 (show (#[.int .i64 kd, .string tx, .int .i64 nm, .int .i64 id, .int .i64 kind, .bool hid, .bool fix, .bool sgn, .bool wrp, .string val, .int .i64 nxt] : Array Value) = _ from rfl))
  have T1 := (unhide T0).trans (hb1.mono (unhide T0).size)
  have hY1 := (unhide hY0).step hb1
  have hY2 := hide (hY1.grown hg2 (by simp))
  have T2 := hide (show Below w.heap.size w w2 from T1.grown hg2 (by have := T1.size; omega) (fun k hk => by injection hk with hk; omega))
  clear hY1 T1 hg2 hsz2 hZ1 hb1 hY0 T0 hX0 hZ0 C
  go_wp2_with (first
    | (refine wpList_load_row rfl 39 (.tmp 3) rfl (w.heap.size + 1 + 1) rfl 39 #[.int .i64 kd, .string tx, .int .i64 nm, .int .i64 id, .int .i64 kind, .bool hid, .bool fix, .bool sgn, .bool wrp, .string val, .int .i64 nxt] (0, 0) _ (unhide hZ2) Try.underlying39 rfl rfl ?_)
    | (refine wpList_store_row rfl 39 (.tmp 2) (.tmp 17) rfl (w.heap.size + 1) #[.int .i64 kd, .string tx, .int .i64 nm, .int .i64 id, .int .i64 kind, .bool hid, .bool fix, .bool sgn, .bool wrp, .string val, .int .i64 nxt] rfl rfl 39 _ (unhide hY2) rfl rfl (by simp [Value.oneCell']) ?_))
  have hY8 := setRow_heap _ (w.heap.size + 1) _ #[.int .i64 kd, .string tx, .int .i64 nm, .int .i64 id, .int .i64 kind, .bool hid, .bool fix, .bool sgn, .bool wrp, .string val, .int .i64 nxt] 39 (0, 0) (unhide hY2)
  have T4 := Go.below_setRow (unhide T2) (show w.heap.size ≤ w.heap.size + 1 by omega) #[.int .i64 kd, .string tx, .int .i64 nm, .int .i64 id, .int .i64 kind, .bool hid, .bool fix, .bool sgn, .bool wrp, .string val, .int .i64 nxt]
  exact bodyPost_ret (results_cb (by exact Try.results9) _ _ (w.heap.size + 1) 39 _ _ rfl hY8 Try.underlying39 rfl) rfl ⟨rfl, T4⟩
end Go.Proofs.Ytkbbcjnickgfjab

