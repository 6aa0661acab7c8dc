/- Merged: BkI1, BkE7, BkE8, LawBk, RcH, Bok9, LawRd, BkE9. -/
import Derived.Test.YtkbbcjnickgfjabMgEnterAll1
import Derived.Test.YtkbbcjnickgfjabMgEnterAll2
import Derived.Test.YtkbbcjnickgfjabMgEnterAll3
import Derived.Test.YtkbbcjnickgfjabMgEnterAll4
import Derived.Test.YtkbbcjnickgfjabMgEnterAll5
import Derived.Test.YtkbbcjnickgfjabMgEnterAll6
import Derived.Test.YtkbbcjnickgfjabMgEnterAll7
import Derived.Test.YtkbbcjnickgfjabMgEnterAll8
import Derived.Test.YtkbbcjnickgfjabMgEnterAll9
import Derived.Test.YtkbbcjnickgfjabMgEnterAll10
/- The project's books: whether one is right, over the loaded program. -/
namespace Go.Proofs.Ytkbbcjnickgfjab
open Go.RowKit
theorem thOk_pos {x : Th} (h : thOk x = true) : 0 < x.id := by
  have h1 := (thOk_iff x).1 h
  unfold ThOk at h1
  omega
set_option maxRecDepth 20000 in
set_option maxHeartbeats 4000000 in
theorem thingsOk_any (xs : List Th) (la : Int) (v : Value) (w : World) (hr : RdN thY w v xs) (hn9 : xs.length ≤ 2000000) :
    Calls Try.prog 52 #[v, .int .i64 la] w fun e w' => e = .returned (.bool (decide (xs.length ≤ 8) && thsOk la xs)) ∧ Below w.heap.size w w' := by
  obtain ⟨a, c, rfl, hc⟩ := hr.openT
  clear hr
  obtain ⟨n, hnn⟩ : ∃ n, xs.length = n := ⟨_, rfl⟩
  rw [hnn] at hn9 ⊢
  obtain ⟨ts, hts⟩ : ∃ ts, ts = thsOk la xs := ⟨_, rfl⟩
  rw [← hts]
  replace hts := hide hts
  replace hnn := hide hnn
  by_cases h8 : (8 : Int) < (n : Int)
  · have hd : decide (n ≤ 8) = false := decide_eq_false (by omega)
    rw [hd]
    go_enter Try.func52, Try.ntmps52
    go_wp2
    go_ret
    exact ⟨rfl, Below.refl _ _⟩
  · have hd : decide (n ≤ 8) = true := decide_eq_true (by omega)
    rw [hd, Bool.true_and]
    go_enter Try.func52, Try.ntmps52
    go_wp2
    go_loopw [5, 13] (fun tb ti wr => ∃ (k : Nat) (bf : Int), k ≤ n ∧ ti = .int .i64 k ∧ tb = .int .i64 bf ∧ Hid ((∀ j, j < k → TsAt la xs j) ∧ (k = 0 → bf = 0) ∧ (∀ i p, k = i + 1 → xs[i]? = some p → bf = p.id)) ∧ Below w.heap.size w wr) (fun _ ti _ => n - (intOf ti).toNat)
    case atStart => exact ⟨0, 0, Nat.zero_le _, rfl, rfl, ⟨fun j hj => by omega, fun _ => rfl, fun i p hi _ => by omega⟩, Below.refl _ _⟩
    case round =>
      obtain ⟨k, bf, hk, rfl, rfl, hok, hb⟩ := hrel
      have hss := hb.size
      by_cases hlt : k < n
      · have hk' : k < xs.length := by rw [unhide hnn]; exact hlt
        obtain ⟨f, hf⟩ : ∃ f, xs[k]? = some f := ⟨xs[k], List.getElem?_eq_getElem hk'⟩
        obtain ⟨g, o, rfl, hg, hat⟩ := hc k f hf
        have hA := hat.below hb hg
        obtain ⟨d0, d1, d2, d3, d4, d5, d6, d7⟩ := AtN.th hA
        have hlk : (k : Int) < (n : Int) := by omega
        have hi0 : (0 : Int) ≤ (k : Int) := by omega
        have C := hide (fun W => implThingOk_any f W)
        obtain ⟨of, hof⟩ : ∃ of, of = thOk f := ⟨_, rfl⟩
        rw [← hof] at C
        replace hof := hide hof
        replace hf := hide hf
        have GD : of = true → bf < f.id → f.id ≤ la → ((∀ j, j < k + 1 → TsAt la xs j) ∧ (k + 1 = 0 → f.id = 0) ∧ (∀ i p, k + 1 = i + 1 → xs[i]? = some p → f.id = p.id)) := by
          intro h1 h2 h3
          have hh := unhide hok
          refine ⟨fun j hj => ?_, fun h => by omega, fun i p hi hp => ?_⟩
          · rcases Nat.lt_or_ge j k with h | h
            · exact hh.1 j h
            · obtain rfl : j = k := by omega
              exact tsAt_mk (unhide hf) (by rw [← unhide hof]; exact h1) h3 (fun i p hi hp => by rw [← hh.2.2 i p hi hp]; exact h2)
          · obtain rfl : i = k := by omega
            have := unhide hf
            rw [this] at hp
            rw [Option.some.inj hp]
        have BD : (of = false ∨ f.id ≤ bf ∨ la < f.id) → ts = false := by
          intro h
          rw [unhide hts]
          refine thsOk_no (j := k) (fun hT => ?_)
          have hh := unhide hok
          obtain ⟨q1, q2, q3⟩ := hT _ (unhide hf)
          rcases h with h | h | h
          · rw [unhide hof, q1] at h; cases h
          · cases k with
            | zero => have := hh.2.1 rfl; have := thOk_pos q1; omega
            | succ i =>
              have hi : i < xs.length := by omega
              have hp := List.getElem?_eq_getElem hi
              have e1 := hh.2.2 i _ rfl hp
              have e2 := q3 i _ rfl hp
              omega
          · omega
        replace GD := hide GD; replace BD := hide BD
        obtain ⟨id, kind, hid, fix, sgn, wrp, val, nxt⟩ := f
        dsimp only at d0 d1 d2 d3 d4 d5 d6 d7
        clear hc hat hA hok
        go_wp2_with fail
        obtain ⟨W, hW, hX, hB, hs1⟩ := one_cb wr #[.int .i64 id, .int .i64 kind, .bool hid, .bool fix, .bool sgn, .bool wrp, .string val, .int .i64 nxt] 37
        first | rw [hW] | skip
        clear hW d0 d1 d2 d3 d4 d5 d6 d7
        refine (unhide C _).mono ?_
        rintro e w1 ⟨rfl, hb1⟩
        have x0 := (hX.step hb1).cell 0 (v := .int .i64 id) rfl
        have T1 := hb.trans ((hB.trans (hb1.mono hB.size)).mono hss)
        clear hX hB hb1 C hb
        cases of with
        | false =>
          have E := unhide BD (.inl rfl)
          subst E
          go_wp2
          go_ret
          exact ⟨rfl, T1⟩
        | true =>
          by_cases c1 : id ≤ bf
          · have E := unhide BD (.inr (.inl c1))
            subst E
            go_wp2
            go_ret
            exact ⟨rfl, T1⟩
          · by_cases c2 : la < id
            · have E := unhide BD (.inr (.inr c2))
              subst E
              go_wp2
              go_ret
              exact ⟨rfl, T1⟩
            · have E := hide (unhide GD rfl (by omega) (by omega))
              go_wp2
              go_roundw
              case rel => exact ⟨k + 1, id, by omega, by go_num, rfl, unhide E, T1⟩
              case measure => simp [intOf]; omega
      · have e1 : k = n := by omega
        have HT := hide (thsOk_all (la := la) (xs := xs) (fun j hj => (unhide hok).1 j (by have := unhide hnn; omega)))
        clear hok hc
        go_wp2
        go_ret
        exact ⟨retB (by rw [unhide hts]; exact unhide HT), hb⟩
set_option maxRecDepth 20000 in
set_option maxHeartbeats 4000000 in
theorem implBookOk_any (b : Bk) (v : Value) (w : World) (hr : RdBk w v b) (hn9 : b.ths.length ≤ 2000000) (hs1 : b.wd.size ≤ 100000000) (hs2 : b.ch.size ≤ 100000000) :
    Calls Try.prog 32 #[v] w fun e w' => e = .returned (.bool (bkOk b)) ∧ Below w.heap.size w w' := by
  rw [bkOk_is]
  obtain ⟨wd, tr, ths, la, ch, ct⟩ := b
  obtain ⟨a, n, c, rfl, hn, hu⟩ := hr.open
  dsimp only at hn hu hn9 hs1 hs2 ⊢
  subst hn
  have CT := hide (fun W (h : RdN thY W (.slice a ths.length c) ths) => thingsOk_any ths la (.slice a ths.length c) W h hn9)
  obtain ⟨ts, hts⟩ : ∃ ts, ts = thsOk la ths := ⟨_, rfl⟩
  rw [← hts] at CT ⊢
  obtain ⟨l8, hl8⟩ : ∃ z, z = decide (ths.length ≤ 8) := ⟨_, rfl⟩
  rw [← hl8] at CT
  obtain ⟨hd, hhd⟩ : ∃ hd, hd = decide (BkHead ⟨wd, tr, ths, la, ch, ct⟩) := ⟨_, rfl⟩
  have HD : (hd && ts) = true ↔ (wd.size = 32 ∧ ch.size = 32 ∧ (0 ≤ tr ∧ tr ≤ 3) ∧ (l8 && ts) = true ∧ 0 ≤ la ∧ la ≤ 1000 ∧ 0 ≤ ct ∧ ct ≤ 10000) := by
    rw [Bool.and_eq_true, Bool.and_eq_true, hhd, hl8, decide_eq_true_iff, decide_eq_true_iff]
    show BkHead ⟨wd, tr, ths, la, ch, ct⟩ ∧ _ ↔ _
    unfold BkHead
    constructor
    · rintro ⟨⟨h1, h2, h3, h4, h5, h6, h7, h8, h9⟩, h10⟩; exact ⟨h1, h2, ⟨h3, h4⟩, ⟨h5, h10⟩, h6, h7, h8, h9⟩
    · rintro ⟨h1, h2, ⟨h3, h4⟩, ⟨h5, h10⟩, h6, h7, h8, h9⟩; exact ⟨⟨h1, h2, h3, h4, h5, h6, h7, h8, h9⟩, h10⟩
  rw [← hhd]
  obtain ⟨lt, hlt⟩ : ∃ z, z = (l8 && ts) := ⟨_, rfl⟩
  obtain ⟨fin, hfin⟩ : ∃ z, z = (hd && ts) := ⟨_, rfl⟩
  rw [← hlt] at CT HD
  rw [← hfin] at HD ⊢
  clear hhd hl8 hts hlt hfin
  replace HD := hide HD
  obtain ⟨W, hW, hX, hB, hs0⟩ := one_cb w #[.string wd, .int .i64 tr, .slice a ths.length c, .int .i64 la, .string ch, .int .i64 ct] 33
  have HU := hide (hu.below hB)
  have XF : ∀ W', Below W.heap.size W W' → W'.cell? ⟨w.heap.size, 3, none⟩ = some (.int .i64 la) ∧ W'.cell? ⟨w.heap.size, 5, none⟩ = some (.int .i64 ct) := fun W' h => ⟨(hX.step h).cell 3 rfl, (hX.step h).cell 5 rfl⟩
  have x0 := hX.cell 0 (v := .string wd) rfl
  have x1 := hX.cell 1 (v := .int .i64 tr) rfl
  have x2 := hX.cell 2 (v := .slice a ths.length c) rfl
  have x3 := hX.cell 3 (v := .int .i64 la) rfl
  have x4 := hX.cell 4 (v := .string ch) rfl
  clear hu hr hX
  replace hB := hide hB
  replace XF := hide XF
  go_enter Try.func32, Try.ntmps32
  go_upto_region 1 with fail
  first | rw [hW] | skip
  clear hW
  go_wp2_with (first
    | (go_at_call 52; refine (unhide CT _ (unhide HU)).mono ?_; rintro e w1 ⟨rfl, hb1⟩; obtain ⟨z3, z5⟩ := unhide XF w1 hb1; have T1 := hide ((unhide hB).trans (hb1.mono (unhide hB).size)))
    | go_in)
  all_goals
    go_ret
    refine ⟨retB ?_, ?_⟩
    · rw [Bool.eq_iff_iff, unhide HD]
      clear HD
      simp_all
      try omega
    · first | exact unhide T1 | exact unhide hB
end Go.Proofs.Ytkbbcjnickgfjab

/- The project's books: a record is entered, over the loaded program. -/
namespace Go.Proofs.Ytkbbcjnickgfjab
open Go.RowKit
set_option maxRecDepth 20000 in
set_option maxHeartbeats 6400000 in
theorem implEnter_any (b : Bk) (r : Rc) (v : Value) (w : World) (hr : RdBk w v b) (hn9 : b.ths.length ≤ 1048576) (hs1 : b.wd.size ≤ 4000000) (hs2 : b.ch.size ≤ 3000000) (hs3 : ∀ x ∈ b.ths, x.val.size ≤ 4000000) (hs4 : r.tx.size ≤ 100000000) :
    Calls Try.prog 10 #[v, .agg (rcC r)] w fun e w' => EntRes 37 w (entB b r) e w' := by
  obtain ⟨a, n, c, rfl, hn, hu⟩ := hr.open
  subst hn
  have CR := hide (fun W => implRecText_any r hs4 W)
  have CB1 : Hid (∀ W : World, RdBk W (bkv b (.slice a b.ths.length c)) b → Calls Try.prog 32 #[.agg #[.string b.wd, .int .i64 b.tr, .slice a b.ths.length c, .int .i64 b.la, .string b.ch, .int .i64 b.ct]] W fun e w' => e = .returned (.bool (bkOk b)) ∧ Below W.heap.size W w') := fun W h => implBookOk_any b _ W h (by omega) (by omega) (by omega)
  have CY := hide (fun W (h : RdBk W (bkv b (.slice a b.ths.length c)) b) => bkCopied_any b _ W h hn9 hs1 (by omega) hs3)
  have CT : Hid (bkOk b = true → rcOk r = true → ¬ b.ct = 10000 → ∀ (g base : Nat) W, BkAt W g base 33 37 b → base ≤ g → Calls Try.prog 34 #[.pointer (some ⟨g, 0, none⟩), .agg (rcC r)] W fun e w' => TakR b r g base e w' ∧ Below base W w') :=
    fun h1 h2 h3 g base W hA hbg => bkTake_any b r g base W hA hbg h1 h2 h3 (show (digB (b.ch ++ rcT r)).size = 32 from V8.text_size _)
  have hsz : (b.ch ++ rcT r).size ≤ 4000000 := by have := rcT_le9 r; rw [ByteArray.size_append]; omega
  have CG : Hid (∀ W, Calls Try.prog 35 #[.string (b.ch ++ rcT r)] W fun e w' => e = .returned (.string (digB (b.ch ++ rcT r))) ∧ Below W.heap.size W w') := fun W => implDigest_any _ hsz W
  have HADD := hide (show ∀ W : World, (Op.stringOp .add b.ch (rcT r)).run Try.prog W = .ok (.string (b.ch ++ rcT r)) W from fun W => run_string_add_sum W _ _ (by have := rcT_le9 r; omega))
  have hro : rcC r = #[.int .i64 r.kd, .string r.tx, .int .i64 r.nm, .int .i64 r.th.id, .int .i64 r.th.kind, .bool r.th.hid, .bool r.th.fix, .bool r.th.sgn, .bool r.th.wrp, .string r.th.val, .int .i64 r.th.nxt] := rfl
  obtain ⟨ok, hok⟩ : ∃ z, z = rcOk r := ⟨_, rfl⟩
  obtain ⟨t, ht⟩ : ∃ z, z = rcT r := ⟨_, rfl⟩
  obtain ⟨bo, hbo⟩ : ∃ z, z = bkOk b := ⟨_, rfl⟩
  rw [← hok, ← ht] at CR
  rw [← hbo] at CB1
  rw [← ht] at CG HADD
  replace hok := hide hok; replace hbo := hide hbo
  obtain ⟨W, hW, hX, hY, hZ, hB, hs0⟩ := three_cb w (bkc b (.slice a b.ths.length c)) (rcC r) #[.string ⟨#[]⟩, .int .i64 0, .slice none 0 0, .int .i64 0, .string ⟨#[]⟩, .int .i64 0] 33 39 33
  have K := hide (show RdBk W (bkv b (.slice a b.ths.length c)) b from hr.below hB)
  rw [hro] at hW hY CT ⊢
  clear hro hr hu hsz
  have hW2 := hW
  simp only [bkc] at hW2
  have HB := hide hB
  replace hX := hide hX; replace hY := hide hY; replace hZ := hide hZ; replace ht := hide ht
  clear hW hB
  go_enter Try.func10, Try.ntmps10
  go_upto_region 1 with fail
  first | rw [hW2] | skip
  clear hW2
  go_upto_region 2 with (first
    | (refine wpList_load_row (P := Try.prog) rfl 39 (.tmp 3) rfl (w.heap.size + 1) rfl 39 #[.int .i64 r.kd, .string r.tx, .int .i64 r.nm, .int .i64 r.th.id, .int .i64 r.th.kind, .bool r.th.hid, .bool r.th.fix, .bool r.th.sgn, .bool r.th.wrp, .string r.th.val, .int .i64 r.th.nxt] (0, 0) _ (unhide hY) Try.underlying39 rfl rfl ?_)
    | (go_at_call 31; refine (unhide CR _).mono ?_; rintro e w1 ⟨rfl, hb1⟩))
  have K1 := hide ((unhide K).below hb1)
  have T1 := hide ((unhide HB).trans (hb1.mono (unhide HB).size))
  have hX1 := hide ((unhide hX).step hb1)
  have hY1 := hide ((unhide hY).step hb1)
  have hZ1 := hide ((unhide hZ).step hb1)
  clear hb1 K HB hX hY hZ CR hs0
  cases ok with
  | false =>
    have E := entB_two b r (unhide hok).symm
    clear CT CY CB1 CG HADD
    go_wp2_with (refine wpList_store_row (P := Try.prog) rfl 33 (.tmp 4) (.tmp 26) rfl (w.heap.size + 1 + 1) #[.string ⟨#[]⟩, .int .i64 0, .slice none 0 0, .int .i64 0, .string ⟨#[]⟩, .int .i64 0] rfl rfl 33 _ (unhide hZ1) rfl rfl (bkc_one _ _ _ _ _ _ _ _) ?_)
    have hZ9 := setRow_heap _ (w.heap.size + 1 + 1) _ #[.string ⟨#[]⟩, .int .i64 0, .slice none 0 0, .int .i64 0, .string ⟨#[]⟩, .int .i64 0] 33 (0, 0) (unhide hZ1)
    have T9 := Go.below_setRow (unhide T1) (show w.heap.size ≤ w.heap.size + 1 + 1 by omega) #[.string ⟨#[]⟩, .int .i64 0, .slice none 0 0, .int .i64 0, .string ⟨#[]⟩, .int .i64 0]
    exact bodyPost_ret (results_cb_tmp (by exact Try.results10) _ _ (w.heap.size + 1 + 1) 33 #[.string ⟨#[]⟩, .int .i64 0, .slice none 0 0, .int .i64 0, .string ⟨#[]⟩, .int .i64 0] _ rfl hZ9 Try.underlying33 rfl) rfl (by rw [E]; exact ⟨⟨none, 0, rfl, OwnN.nil _ _ _⟩, T9⟩)
  | true =>
    cases bo with
    | false =>
      have E := entB_one b r (unhide hbo).symm
      clear CT CY CG HADD
      have x0 := (unhide hX1).cell 0 (v := .string b.wd) rfl
      have x1 := (unhide hX1).cell 1 (v := .int .i64 b.tr) rfl
      have x2 := (unhide hX1).cell 2 (v := .slice a b.ths.length c) rfl
      have x3 := (unhide hX1).cell 3 (v := .int .i64 b.la) rfl
      have x4 := (unhide hX1).cell 4 (v := .string b.ch) rfl
      have x5 := (unhide hX1).cell 5 (v := .int .i64 b.ct) rfl
      go_upto_region 3 with fail
      refine (unhide CB1 _ (unhide K1)).mono ?_
      rintro e w2 ⟨rfl, hb2⟩
      have hZ2 := hide ((unhide hZ1).step hb2)
      have T2 := hide ((unhide T1).trans (hb2.mono (unhide T1).size))
      clear x0 x1 x2 x3 x4 x5 hb2 hX1 hY1 hZ1 T1 K1 CB1
      go_upto_region 3 with fail
      go_wp2_with (refine wpList_store_row (P := Try.prog) rfl 33 (.tmp 4) (.tmp 26) rfl (w.heap.size + 1 + 1) #[.string ⟨#[]⟩, .int .i64 0, .slice none 0 0, .int .i64 0, .string ⟨#[]⟩, .int .i64 0] rfl rfl 33 _ (unhide hZ2) rfl rfl (bkc_one _ _ _ _ _ _ _ _) ?_)
      have hZ9 := setRow_heap _ (w.heap.size + 1 + 1) _ #[.string ⟨#[]⟩, .int .i64 0, .slice none 0 0, .int .i64 0, .string ⟨#[]⟩, .int .i64 0] 33 (0, 0) (unhide hZ2)
      have T9 := Go.below_setRow (unhide T2) (show w.heap.size ≤ w.heap.size + 1 + 1 by omega) #[.string ⟨#[]⟩, .int .i64 0, .slice none 0 0, .int .i64 0, .string ⟨#[]⟩, .int .i64 0]
      exact bodyPost_ret (results_cb_tmp (by exact Try.results10) _ _ (w.heap.size + 1 + 1) 33 #[.string ⟨#[]⟩, .int .i64 0, .slice none 0 0, .int .i64 0, .string ⟨#[]⟩, .int .i64 0] _ rfl hZ9 Try.underlying33 rfl) rfl (by rw [E]; exact ⟨⟨none, 0, rfl, OwnN.nil _ _ _⟩, T9⟩)
    | true =>
      by_cases h3 : b.ct = 10000
      · have E := entB_three b r h3
        clear CT CY CG HADD
        have x0 := (unhide hX1).cell 0 (v := .string b.wd) rfl
        have x1 := (unhide hX1).cell 1 (v := .int .i64 b.tr) rfl
        have x2 := (unhide hX1).cell 2 (v := .slice a b.ths.length c) rfl
        have x3 := (unhide hX1).cell 3 (v := .int .i64 b.la) rfl
        have x4 := (unhide hX1).cell 4 (v := .string b.ch) rfl
        have x5 := (unhide hX1).cell 5 (v := .int .i64 b.ct) rfl
        have q5 := hide (show ∀ w2 : World, Below w1.heap.size w1 w2 → w2.cell? ⟨w.heap.size, 5, none⟩ = some (.int .i64 b.ct) from fun w2 h => ((unhide hX1).step h).cell 5 rfl)
        have d3 : (b.ct == 10000) = true := by rw [h3]; rfl
        replace h3 := hide h3
        go_upto_region 3 with fail
        refine (unhide CB1 _ (unhide K1)).mono ?_
        rintro e w2 ⟨rfl, hb2⟩
        have hZ2 := hide ((unhide hZ1).step hb2)
        have T2 := hide ((unhide T1).trans (hb2.mono (unhide T1).size))
        clear x0 x1 x2 x3 x4 x5
        have x5 := unhide q5 w2 hb2
        clear hb2 hX1 hY1 hZ1 T1 K1 CB1 q5
        go_upto_region 3 with fail
        go_wp2_with (refine wpList_store_row (P := Try.prog) rfl 33 (.tmp 4) (.tmp 26) rfl (w.heap.size + 1 + 1) #[.string ⟨#[]⟩, .int .i64 0, .slice none 0 0, .int .i64 0, .string ⟨#[]⟩, .int .i64 0] rfl rfl 33 _ (unhide hZ2) rfl rfl (bkc_one _ _ _ _ _ _ _ _) ?_)
        have hZ9 := setRow_heap _ (w.heap.size + 1 + 1) _ #[.string ⟨#[]⟩, .int .i64 0, .slice none 0 0, .int .i64 0, .string ⟨#[]⟩, .int .i64 0] 33 (0, 0) (unhide hZ2)
        have T9 := Go.below_setRow (unhide T2) (show w.heap.size ≤ w.heap.size + 1 + 1 by omega) #[.string ⟨#[]⟩, .int .i64 0, .slice none 0 0, .int .i64 0, .string ⟨#[]⟩, .int .i64 0]
        exact bodyPost_ret (results_cb_tmp (by exact Try.results10) _ _ (w.heap.size + 1 + 1) 33 #[.string ⟨#[]⟩, .int .i64 0, .slice none 0 0, .int .i64 0, .string ⟨#[]⟩, .int .i64 0] _ rfl hZ9 Try.underlying33 rfl) rfl (by rw [E]; exact ⟨⟨none, 0, rfl, OwnN.nil _ _ _⟩, T9⟩)
      · have CT2 := hide (unhide CT (unhide hbo).symm (unhide hok).symm h3)
        clear CT
        have x0 := (unhide hX1).cell 0 (v := .string b.wd) rfl
        have x1 := (unhide hX1).cell 1 (v := .int .i64 b.tr) rfl
        have x2 := (unhide hX1).cell 2 (v := .slice a b.ths.length c) rfl
        have x3 := (unhide hX1).cell 3 (v := .int .i64 b.la) rfl
        have x4 := (unhide hX1).cell 4 (v := .string b.ch) rfl
        have x5 := (unhide hX1).cell 5 (v := .int .i64 b.ct) rfl
        have q5 := hide (show ∀ w2 : World, Below w1.heap.size w1 w2 → w2.cell? ⟨w.heap.size, 5, none⟩ = some (.int .i64 b.ct) from fun w2 h => ((unhide hX1).step h).cell 5 rfl)
        go_upto_region 4 with fail
        refine (unhide CB1 _ (unhide K1)).mono ?_
        rintro e w2 ⟨rfl, hb2⟩
        have hX2 := hide ((unhide hX1).step hb2)
        have hY2 := hide ((unhide hY1).step hb2)
        have hZ2 := hide ((unhide hZ1).step hb2)
        have K2 := hide ((unhide K1).below hb2)
        have T2 := hide ((unhide T1).trans (hb2.mono (unhide T1).size))
        clear x0 x1 x2 x3 x4 x5
        have x5 := unhide q5 w2 hb2
        clear hb2 hX1 hY1 hZ1 T1 K1 CB1 q5
        go_upto_region 4 with fail
        have HC := hide (show 0 ≤ b.ct ∧ b.ct ≤ 10000 by have h := bkOk_head (unhide hbo).symm; exact ⟨h.2.2.2.2.2.2.2.1, h.2.2.2.2.2.2.2.2⟩)
        clear x5
        go_upto_region 5 with (first
          | (refine wpList_load_row (P := Try.prog) rfl 33 (.tmp 2) rfl w.heap.size rfl 33 (bkc b (.slice a b.ths.length c)) (0, 0) _ (unhide hX2) Try.underlying33 rfl rfl ?_)
          | (go_at_call 33; refine (unhide CY _ (unhide K2)).mono ?_; rintro e w3 ⟨⟨a3, c3, rfl, ho3⟩, hb3⟩; have HG := hide (CB.new w3 #[.string ⟨#[]⟩, .int .i64 0, .slice none 0 0, .int .i64 0, .string ⟨#[]⟩, .int .i64 0] 33))
          | (refine wpList_store_row (P := Try.prog) rfl 33 (.tmp 8) (.tmp 28) rfl w3.heap.size (bkc b (.slice a3 b.ths.length c3)) rfl rfl 33 _ (unhide HG) rfl rfl (bkc_all _ _ _ _) ?_))
        have hG4 := setRow_heap _ w3.heap.size _ (bkc b (.slice a3 b.ths.length c3)) 33 (0, 0) (unhide HG)
        have hbV := Go.below_setRow ((Below.refl w3.heap.size w3).alloc (Nat.le_refl _) (.cells #[.string ⟨#[]⟩, .int .i64 0, .slice none 0 0, .int .i64 0, .string ⟨#[]⟩, .int .i64 0] 33)) (Nat.le_refl _) (bkc b (.slice a3 b.ths.length c3))
        have hb23 := hb3.trans (hbV.mono hb3.size)
        obtain ⟨g, hg⟩ : ∃ z, z = w3.heap.size := ⟨_, rfl⟩
        obtain ⟨base, hbase⟩ : ∃ z, z = w2.heap.size := ⟨_, rfl⟩
        have hbg : base ≤ g := by have := hb3.size; omega
        have hlb : w.heap.size + 1 + 1 < base := by have := (unhide hZ2).lt; omega
        refine wp_gen (fun V => BkAt V w3.heap.size w2.heap.size 33 37 b ∧ CB V w.heap.size 33 (bkc b (.slice a b.ths.length c)) ∧ CB V (w.heap.size + 1) 39 #[.int .i64 r.kd, .string r.tx, .int .i64 r.nm, .int .i64 r.th.id, .int .i64 r.th.kind, .bool r.th.hid, .bool r.th.fix, .bool r.th.sgn, .bool r.th.wrp, .string r.th.val, .int .i64 r.th.nxt] ∧ CB V (w.heap.size + 1 + 1) 33 #[.string ⟨#[]⟩, .int .i64 0, .slice none 0 0, .int .i64 0, .string ⟨#[]⟩, .int .i64 0] ∧ Below w.heap.size w V ∧ base ≤ V.heap.size) ⟨⟨a3, c3, hG4, ho3.below hbV⟩, (unhide hX2).step hb23, (unhide hY2).step hb23, (unhide hZ2).step hb23, (unhide T2).trans (hb23.mono (unhide T2).size), by have := hb23.size; omega⟩ ?_
        clear hG4 hbV hb23 ho3 hb3 HG hX2 hY2 hZ2 T2 K2 CY
        rw [← hg, ← hbase]
        replace hg := hide hg; replace hbase := hide hbase
        rintro V ⟨hA, hX, hY, hZ, hT, hlV⟩
        have CT3 := hide (unhide CT2 g base V hA hbg)
        clear CT2 hA
        replace hX := hide hX; replace hY := hide hY; replace hZ := hide hZ
        go_upto_region 5 with fail
        go_wp2_with (first
          | (refine wpList_load_row (P := Try.prog) rfl 39 (.tmp 3) rfl (w.heap.size + 1) rfl 39 #[.int .i64 r.kd, .string r.tx, .int .i64 r.nm, .int .i64 r.th.id, .int .i64 r.th.kind, .bool r.th.hid, .bool r.th.fix, .bool r.th.sgn, .bool r.th.wrp, .string r.th.val, .int .i64 r.th.nxt] (0, 0) _ (unhide hY) Try.underlying39 rfl rfl ?_)
          | fail)
        refine (unhide CT3).mono ?_
        rintro e w5 ⟨⟨rb, rfl, hres⟩, hb5⟩
        have hX5 := hide ((unhide hX).below hb5 (by omega))
        have hZ5 := hide ((unhide hZ).below hb5 hlb)
        have T5 := hide (hT.trans (hb5.mono (by omega)))
        clear CT3 hX hY hZ hT
        rcases hres with ⟨rfl, o, E, hoc, hA⟩ | ⟨rfl, E⟩
        · obtain ⟨a5, c5, hG5, ho5⟩ := hA
          have hgl := hG5.lt
          have x4 := (unhide hX5).cell 4 (v := .string b.ch) rfl
          have q5 := hide (show ∀ V2 : World, Below w5.heap.size w5 V2 → CB V2 g 33 (bkc o (.slice a5 o.ths.length c5)) ∧ OwnN thY V2 base 37 (.slice a5 o.ths.length c5) o.ths from fun V2 h => ⟨hG5.step h, ho5.below h⟩)
          have hadd := unhide HADD
          replace E := hide E
          clear hG5 ho5 hb5
          go_upto_region 7 with fail
          go_wp2_with fail
          refine (unhide CG _).mono ?_
          rintro e w6 ⟨rfl, hb6⟩
          obtain ⟨hG6, ho6⟩ := unhide q5 _ hb6
          have hZ6 := (unhide hZ5).step hb6
          have T6 := (unhide T5).trans (hb6.mono (unhide T5).size)
          clear hadd x4 q5 hX5 hZ5 T5 CG HADD hb6
          obtain ⟨dg, hdg⟩ : ∃ z, z = digB (b.ch ++ t) := ⟨_, rfl⟩
          rw [← hdg]
          replace hdg := hide hdg
          have q4 := hG6.cell 4 (v := .string o.ch) rfl
          have z4 := hG6.frozen 4
          have hG7 := hG6.set 4 (.string dg)
          have ho7 := ho6.setO g 4 (.string dg) (ho6.off hG6 (by decide))
          have hZ7 := hZ6.set_other (h := g) (k := 4) (by omega) (.string dg)
          have T7 := T6.setCell (p := ⟨g, 4, none⟩) (by show w.heap.size ≤ g; omega) (.string dg)
          have k5 := hG7.cell 5 (v := .int .i64 o.ct) rfl
          have z5 := hG7.frozen 5
          obtain ⟨n1, hn1⟩ : ∃ z, z = b.ct + 1 := ⟨_, rfl⟩
          have un : IntKind.i64.wrap (o.ct + 1) = n1 := by rw [hoc, IntKind.wrap_i64]; have := unhide HC; omega
          have hG8 := hide (cb_eq (hG7.set 5 (.int .i64 n1)) (show (#[.string o.wd, .int .i64 o.tr, .slice a5 o.ths.length c5, .int .i64 o.la, .string dg, .int .i64 n1] : Array Value) = _ from rfl))
          have ho8 := hide (ho7.setO g 5 (.int .i64 n1) (ho7.off hG7 (by decide)))
          have hZ8 := hide (hZ7.set_other (h := g) (k := 5) (by omega) (.int .i64 n1))
          have T8 := hide (T7.setCell (p := ⟨g, 5, none⟩) (by show w.heap.size ≤ g; omega) (.int .i64 n1))
          replace hn1 := hide hn1; replace hoc := hide hoc
          clear hG6 ho6 hZ6 T6 hG7 ho7 hZ7 T7
          go_upto_region 9 with fail
          refine wp_gen (fun V => CB V g 33 #[.string o.wd, .int .i64 o.tr, .slice a5 o.ths.length c5, .int .i64 o.la, .string dg, .int .i64 n1] ∧ OwnN thY V base 37 (.slice a5 o.ths.length c5) o.ths ∧ CB V (w.heap.size + 1 + 1) 33 #[.string ⟨#[]⟩, .int .i64 0, .slice none 0 0, .int .i64 0, .string ⟨#[]⟩, .int .i64 0] ∧ Below w.heap.size w V) ⟨unhide hG8, unhide ho8, unhide hZ8, unhide T8⟩ ?_
          clear hG8 ho8 hZ8 T8 q4 z4 k5 z5 un
          rintro V9 ⟨hG, ho, hZ, T⟩
          replace hG := hide hG; replace hZ := hide hZ; replace ho := hide ho; replace T := hide T
          go_wp2_with (first
            | (refine wpList_load_row (P := Try.prog) rfl 33 (.tmp 8) rfl g rfl 33 #[.string o.wd, .int .i64 o.tr, .slice a5 o.ths.length c5, .int .i64 o.la, .string dg, .int .i64 n1] (0, 0) _ (unhide hG) Try.underlying33 rfl rfl ?_)
            | (refine wpList_store_row (P := Try.prog) rfl 33 (.tmp 4) (.tmp 43) rfl (w.heap.size + 1 + 1) #[.string o.wd, .int .i64 o.tr, .slice a5 o.ths.length c5, .int .i64 o.la, .string dg, .int .i64 n1] rfl rfl 33 _ (unhide hZ) rfl rfl (bkc_one _ _ _ _ _ _ _ _) ?_))
          have hZ9 := setRow_heap _ (w.heap.size + 1 + 1) _ #[.string o.wd, .int .i64 o.tr, .slice a5 o.ths.length c5, .int .i64 o.la, .string dg, .int .i64 n1] 33 (0, 0) (unhide hZ)
          have T9 := Go.below_setRow (unhide T) (show w.heap.size ≤ w.heap.size + 1 + 1 by omega) #[.string o.wd, .int .i64 o.tr, .slice a5 o.ths.length c5, .int .i64 o.la, .string dg, .int .i64 n1]
          have ho9 := (unhide ho).setRow (g := w.heap.size + 1 + 1) hlb #[.string o.wd, .int .i64 o.tr, .slice a5 o.ths.length c5, .int .i64 o.la, .string dg, .int .i64 n1]
          have hfin : bkOn b r o = ⟨o.wd, o.tr, o.ths, o.la, dg, n1⟩ := by unfold bkOn; rw [unhide hdg, unhide hn1, unhide ht]
          exact bodyPost_ret (results_cb_tmp (by exact Try.results10) _ _ (w.heap.size + 1 + 1) 33 #[.string o.wd, .int .i64 o.tr, .slice a5 o.ths.length c5, .int .i64 o.la, .string dg, .int .i64 n1] _ rfl hZ9 Try.underlying33 rfl) rfl (by rw [unhide E, hfin]; exact ⟨⟨a5, c5, rfl, ho9.low (base' := w.heap.size) (by omega)⟩, T9⟩)
        · clear CG HADD
          go_upto_region 6 with fail
          go_wp2_with (refine wpList_store_row (P := Try.prog) rfl 33 (.tmp 4) (.tmp 32) rfl (w.heap.size + 1 + 1) #[.string ⟨#[]⟩, .int .i64 0, .slice none 0 0, .int .i64 0, .string ⟨#[]⟩, .int .i64 0] rfl rfl 33 _ (unhide hZ5) rfl rfl (bkc_one _ _ _ _ _ _ _ _) ?_)
          have hZ9 := setRow_heap _ (w.heap.size + 1 + 1) _ #[.string ⟨#[]⟩, .int .i64 0, .slice none 0 0, .int .i64 0, .string ⟨#[]⟩, .int .i64 0] 33 (0, 0) (unhide hZ5)
          have T9 := Go.below_setRow (unhide T5) (show w.heap.size ≤ w.heap.size + 1 + 1 by omega) #[.string ⟨#[]⟩, .int .i64 0, .slice none 0 0, .int .i64 0, .string ⟨#[]⟩, .int .i64 0]
          exact bodyPost_ret (results_cb_tmp (by exact Try.results10) _ _ (w.heap.size + 1 + 1) 33 #[.string ⟨#[]⟩, .int .i64 0, .slice none 0 0, .int .i64 0, .string ⟨#[]⟩, .int .i64 0] _ rfl hZ9 Try.underlying33 rfl) rfl (by rw [E]; exact ⟨⟨none, 0, rfl, OwnN.nil _ _ _⟩, T9⟩)
end Go.Proofs.Ytkbbcjnickgfjab

/- Books: records entered one after another, by the given model and by the project, over the loaded program. -/
namespace Go.Proofs.Ytkbbcjnickgfjab
open Go.RowKit
/-- A book whose texts are small. -/
def BkSm (b : Bk) : Prop := b.ths.length ≤ 1048576 ∧ b.wd.size ≤ 2000000 ∧ b.ch.size ≤ 2000000 ∧ ∀ x ∈ b.ths, x.val.size ≤ 4000000
theorem bkSm_ok {b : Bk} (h : bkOk b = true) : BkSm b := by
  obtain ⟨a1, a2, a3, a4, a5, a6, a7, a8, a9⟩ := bkOk_head h
  refine ⟨by omega, by omega, by omega, fun y hy => ?_⟩
  have h := (thOk_iff y).1 (((thsOk_pw b.la b.ths).1 (bkOk_ths h)).1 y hy).1
  obtain ⟨_, _, _, _, _, _, _, _, q1, q2⟩ := h
  by_cases e : y.kind = 3
  · have := q1 e; omega
  · have := q2 e; omega
theorem entAll_snoc {b o : Bk} {l : List Rc} {k : Nat} {r : Rc} (h : entAll b (l.take k) = some o) (hr : l[k]? = some r) : entAll b (l.take (k + 1)) = entB o r := by
  rw [List.take_add_one, hr, entAll_app, h]
  show (entB o r).bind (fun o => some o) = _
  cases entB o r <;> rfl
theorem entAll_stop {b o : Bk} {l : List Rc} {k : Nat} {r : Rc} (h : entAll b (l.take k) = some o) (hr : l[k]? = some r) (hn : entB o r = none) : entAll b l = none := by
  have h1 : l = l.take (k + 1) ++ l.drop (k + 1) := (List.take_append_drop _ _).symm
  rw [h1, entAll_app, entAll_snoc h hr, hn]
  rfl
set_option maxRecDepth 20000 in
set_option maxHeartbeats 6400000 in
theorem implEnterAll_any (b : Bk) (l : List Rc) (v u : Value) (w : World) (hr : RdBk w v b) (hl : RdN rcY w u l) (hn : l.length ≤ 1048576) (hs : BkSm b) (ht : ∀ r ∈ l, r.tx.size ≤ 100000000) :
    Calls Try.prog 17 #[v, u] w fun e w' => EntRes 37 w (entAll b l) e w' := by
  obtain ⟨a, n0, c, rfl, hn0, hu⟩ := hr.open
  subst hn0
  obtain ⟨al, cl, rfl, hcl⟩ := hl.open
  obtain ⟨n, hnn⟩ : ∃ n, l.length = n := ⟨_, rfl⟩
  rw [hnn] at hn ⊢
  have CY : Hid (∀ W : World, RdN thY W (.slice a b.ths.length c) b.ths → Calls Try.prog 33 #[.agg (bkc b (.slice a b.ths.length c))] W fun e w' => (∃ a c, e = .returned (.agg (bkc b (.slice a b.ths.length c))) ∧ OwnN thY w' W.heap.size 37 (.slice a b.ths.length c) b.ths) ∧ Below W.heap.size W w') := fun W h => bkCopied_any b _ W ⟨_, rfl, h⟩ hs.1 (by have := hs.2.1; omega) (by have := hs.2.2.1; omega) hs.2.2.2
  have CE : Hid (∀ (o : Bk), BkSm o → ∀ (r : Rc), r ∈ l → ∀ (a : Option Addr) (c : Nat) (W : World), RdN thY W (.slice a o.ths.length c) o.ths → Calls Try.prog 10 #[.agg (bkc o (.slice a o.ths.length c)), .agg (rcC r)] W fun e w' => EntRes 37 W (entB o r) e w') := fun o hs r hr a c W h => implEnter_any o r (bkv o (.slice a o.ths.length c)) W ⟨_, rfl, h⟩ hs.1 (by have := hs.2.1; omega) (by have := hs.2.2.1; omega) hs.2.2.2 (ht r hr)
  obtain ⟨W, hW, hX, hZ, hB, hs0⟩ := two_cb w (bkc b (.slice a b.ths.length c)) #[.string ⟨#[]⟩, .int .i64 0, .slice none 0 0, .int .i64 0, .string ⟨#[]⟩, .int .i64 0] 33 33
  have hW2 := hW
  simp only [bkc] at hW2
  have HU := hide (hu.below hB)
  replace hX := hide hX; replace hZ := hide hZ; replace hB := hide hB; replace hs := hide hs
  clear hW hr hl hu ht
  go_enter Try.func17, Try.ntmps17
  go_upto_region 1 with fail
  first | rw [hW2] | skip
  clear hW2
  go_upto_region 2 with (first
    | (refine wpList_load_row (P := Try.prog) rfl 33 (.tmp 2) rfl w.heap.size rfl 33 (bkc b (.slice a b.ths.length c)) (0, 0) _ (unhide hX) Try.underlying33 rfl rfl ?_)
    | (go_at_call 33; refine (unhide CY _ (unhide HU)).mono ?_; rintro e w3 ⟨⟨a3, c3, rfl, ho3⟩, hb3⟩; have HG := hide (CB.new w3 #[.string ⟨#[]⟩, .int .i64 0, .slice none 0 0, .int .i64 0, .string ⟨#[]⟩, .int .i64 0] 33))
    | (refine wpList_store_row (P := Try.prog) rfl 33 (.tmp 6) (.tmp 12) rfl w3.heap.size (bkc b (.slice a3 b.ths.length c3)) rfl rfl 33 _ (unhide HG) rfl rfl (bkc_all _ _ _ _) ?_)
    | fail)
  have hG4 := setRow_heap _ w3.heap.size _ (bkc b (.slice a3 b.ths.length c3)) 33 (0, 0) (unhide HG)
  have hbV := Go.below_setRow ((Below.refl w3.heap.size w3).alloc (Nat.le_refl _) (.cells #[.string ⟨#[]⟩, .int .i64 0, .slice none 0 0, .int .i64 0, .string ⟨#[]⟩, .int .i64 0] 33)) (Nat.le_refl _) (bkc b (.slice a3 b.ths.length c3))
  have hb23 := hb3.trans (hbV.mono hb3.size)
  obtain ⟨g, hg⟩ : ∃ z, z = w3.heap.size := ⟨_, rfl⟩
  obtain ⟨base, hbase⟩ : ∃ z, z = W.heap.size := ⟨_, rfl⟩
  have hbg : base ≤ g := by have := hb3.size; omega
  have hlb : w.heap.size + 1 < base := by omega
  refine wp_gen (fun V => BkAt V w3.heap.size W.heap.size 33 37 b ∧ CB V (w.heap.size + 1) 33 #[.string ⟨#[]⟩, .int .i64 0, .slice none 0 0, .int .i64 0, .string ⟨#[]⟩, .int .i64 0] ∧ Below w.heap.size w V ∧ base ≤ V.heap.size) ⟨⟨a3, c3, hG4, ho3.below hbV⟩, (unhide hZ).step hb23, (unhide hB).trans (hb23.mono (unhide hB).size), by have := hb23.size; omega⟩ ?_
  clear hG4 hbV hb23 ho3 hb3 HG hX hZ hB HU CY hs0
  rw [← hg, ← hbase]
  replace hg := hide hg; replace hbase := hide hbase; replace hnn := hide hnn
  rintro V0 ⟨hA, hZ, hT, hlV⟩
  go_upto_region 3 with fail
  go_wp2
  go_loopw [15] (fun ti wr => ∃ (k : Nat) (o : Bk), k ≤ n ∧ ti = .int .i64 k ∧ Hid (entAll b (l.take k) = some o ∧ BkSm o) ∧ Hid (BkAt wr g base 33 37 o) ∧ Hid (CB wr (w.heap.size + 1) 33 #[.string ⟨#[]⟩, .int .i64 0, .slice none 0 0, .int .i64 0, .string ⟨#[]⟩, .int .i64 0]) ∧ Below w.heap.size w wr ∧ base ≤ wr.heap.size) (fun ti _ => n - (intOf ti).toNat)
  case atStart => exact ⟨0, b, Nat.zero_le _, rfl, ⟨rfl, unhide hs⟩, hA, hZ, hT, hlV⟩
  case round =>
    obtain ⟨k, o, hk, rfl, ho, hA, hZ, hb, hlV⟩ := hrel
    have hss := hb.size
    by_cases hlt : k < n
    · have hk' : k < l.length := by rw [unhide hnn]; exact hlt
      obtain ⟨r, hr⟩ : ∃ r, l[k]? = some r := ⟨l[k], List.getElem?_eq_getElem hk'⟩
      obtain ⟨gl, ol, rfl, hgl, hat⟩ := hcl k r hr
      have hatw := hide (hat.below hb hgl)
      have hlk : (k : Int) < (n : Int) := by omega
      have hi0 : (0 : Int) ≤ (k : Int) := by omega
      obtain ⟨a5, c5, hG, hO⟩ := unhide hA
      have hgg := hG.lt
      have CE2 := hide (unhide CE o (unhide ho).2 r (List.mem_of_getElem? hr))
      have HR := hide hr
      have hZ0 := hide (CB.new wr (rcC rcZ) 39)
      have hX1 := hide (setRow_heap _ wr.heap.size _ (rcC r) 39 (0, 0) (unhide hZ0))
      have hbW1 := hide (Go.below_setRow ((Below.refl wr.heap.size wr).alloc (Nat.le_refl _) (.cells (rcC rcZ) 39)) (Nat.le_refl _) (rcC r))
      clear hcl hat hr hA hZ0
      have hZ0 := hide (show CB (wr.alloc (.cells #[.int .i64 0, .string ⟨#[]⟩, .int .i64 0, .int .i64 0, .int .i64 0, .bool false, .bool false, .bool false, .bool false, .string ⟨#[]⟩, .int .i64 0] 39)) wr.heap.size 39 (rcC rcZ) from CB.new wr _ _)
      go_upto_region 5 with (first
        | (refine wpList_load_n (P := Try.prog) (L := rcY) rfl 39 (.tmp 17) rfl gl (ol + k * 11) rfl r (unhide hatw) _ Try.underlying39 rfl ?_)
        | (refine wpList_store_row (P := Try.prog) rfl 39 (.tmp 8) (.tmp 18) rfl wr.heap.size (rcC r) rfl rfl 39 (rcC rcZ) (unhide hZ0) rfl rfl (rc_one _) ?_)
        | fail)
      obtain ⟨gx, hgx⟩ : ∃ z, z = wr.heap.size := ⟨_, rfl⟩
      refine wp_gen (fun V => CB V g 33 (bkc o (.slice a5 o.ths.length c5)) ∧ OwnN thY V base 37 (.slice a5 o.ths.length c5) o.ths ∧ CB V wr.heap.size 39 (rcC r) ∧ CB V (w.heap.size + 1) 33 #[.string ⟨#[]⟩, .int .i64 0, .slice none 0 0, .int .i64 0, .string ⟨#[]⟩, .int .i64 0] ∧ Below w.heap.size w V ∧ base ≤ V.heap.size) ⟨hG.step (unhide hbW1), hO.below (unhide hbW1), unhide hX1, (unhide hZ).step (unhide hbW1), hb.trans ((unhide hbW1).mono hss), Nat.le_trans hlV (unhide hbW1).size⟩ ?_
      clear hG hO hX1 hbW1 hZ0 hatw hZ hA hb hlV hss
      rw [← hgx]
      replace hgx := hide hgx
      rintro V1 ⟨hG, hO, hX, hZ, hb, hlV⟩
      obtain ⟨x, hx⟩ : ∃ z, z = entB o r := ⟨_, rfl⟩
      rw [← hx] at CE2
      replace hx := hide hx
      have hgl := hG.lt
      replace hG := hide hG; replace hO := hide hO; replace hX := hide hX; replace hZ := hide hZ; replace hb := hide hb
      go_upto_region 6 with (first
        | (refine wpList_load_row (P := Try.prog) rfl 33 (.tmp 6) rfl g rfl 33 (bkc o (.slice a5 o.ths.length c5)) (0, 0) _ (unhide hG) Try.underlying33 rfl rfl ?_)
        | (refine wpList_load_row (P := Try.prog) rfl 39 (.tmp 8) rfl gx rfl 39 (rcC r) (0, 0) _ (unhide hX) Try.underlying39 rfl rfl ?_)
        | (go_at_call 10; refine (unhide CE2 _ _ _ (unhide hO).rd).mono ?_; rintro e w5 ⟨⟨a6, c6, rfl, ho6⟩, hb5⟩; have HGy := hide (CB.new w5 #[.string ⟨#[]⟩, .int .i64 0, .slice none 0 0, .int .i64 0, .string ⟨#[]⟩, .int .i64 0] 33))
        | (refine wpList_store_row (P := Try.prog) rfl 33 (.tmp 9) (.tmp 23) rfl w5.heap.size (bkc (x.getD bkZ) (.slice a6 (x.getD bkZ).ths.length c6)) rfl rfl 33 _ (unhide HGy) rfl rfl (bkc_all _ _ _ _) ?_)
        | fail)
      have hG6 := setRow_heap _ w5.heap.size _ (bkc (x.getD bkZ) (.slice a6 (x.getD bkZ).ths.length c6)) 33 (0, 0) (unhide HGy)
      have hbM := Go.below_setRow ((Below.refl w5.heap.size w5).alloc (Nat.le_refl _) (.cells #[.string ⟨#[]⟩, .int .i64 0, .slice none 0 0, .int .i64 0, .string ⟨#[]⟩, .int .i64 0] 33)) (Nat.le_refl _) (bkc (x.getD bkZ) (.slice a6 (x.getD bkZ).ths.length c6))
      have hbN := hb5.trans (hbM.mono hb5.size)
      obtain ⟨gy, hgy⟩ : ∃ z, z = w5.heap.size := ⟨_, rfl⟩
      have hgg2 : g < gy := by have := hb5.size; omega
      refine wp_gen (fun V => CB V g 33 (bkc o (.slice a5 o.ths.length c5)) ∧ OwnN thY V base 37 (.slice a6 (x.getD bkZ).ths.length c6) (x.getD bkZ).ths ∧ CB V w5.heap.size 33 (bkc (x.getD bkZ) (.slice a6 (x.getD bkZ).ths.length c6)) ∧ CB V (w.heap.size + 1) 33 #[.string ⟨#[]⟩, .int .i64 0, .slice none 0 0, .int .i64 0, .string ⟨#[]⟩, .int .i64 0] ∧ Below w.heap.size w V ∧ base ≤ V.heap.size) ⟨(unhide hG).step hbN, (ho6.below hbM).low hlV, hG6, (unhide hZ).step hbN, (unhide hb).trans (hbN.mono (unhide hb).size), Nat.le_trans hlV hbN.size⟩ ?_
      clear hG6 hbM hbN ho6 hb5 HGy hG hO hX hZ hb CE2
      rw [← hgy]
      replace hgy := hide hgy
      rintro V2 ⟨hG, hO, hY, hZ, hb, hlV2⟩
      replace hG := hide hG; replace hY := hide hY; replace hZ := hide hZ
      cases x with
      | none =>
        have E : entAll b l = none := entAll_stop (unhide ho).1 (unhide HR) (unhide hx).symm
        clear hO hY hG
        replace hb := hide hb
        go_wp2_with (first | (refine wpList_store_row (P := Try.prog) rfl 33 (.tmp 4) (.tmp 27) rfl (w.heap.size + 1) #[.string ⟨#[]⟩, .int .i64 0, .slice none 0 0, .int .i64 0, .string ⟨#[]⟩, .int .i64 0] rfl rfl 33 _ (unhide hZ) rfl rfl (bkc_one _ _ _ _ _ _ _ _) ?_) | fail)
        have hZ9 := setRow_heap _ (w.heap.size + 1) _ #[.string ⟨#[]⟩, .int .i64 0, .slice none 0 0, .int .i64 0, .string ⟨#[]⟩, .int .i64 0] 33 (0, 0) (unhide hZ)
        have T9 := Go.below_setRow (unhide hb) (show w.heap.size ≤ w.heap.size + 1 by omega) #[.string ⟨#[]⟩, .int .i64 0, .slice none 0 0, .int .i64 0, .string ⟨#[]⟩, .int .i64 0]
        exact bodyPost_ret (results_cb_tmp (by exact Try.results17) _ _ (w.heap.size + 1) 33 #[.string ⟨#[]⟩, .int .i64 0, .slice none 0 0, .int .i64 0, .string ⟨#[]⟩, .int .i64 0] _ rfl hZ9 Try.underlying33 rfl) rfl (by rw [E]; exact ⟨⟨none, 0, rfl, OwnN.nil _ _ _⟩, T9⟩)
      | some o2 =>
        have ho2 := hide (show entAll b (l.take (k + 1)) = some o2 ∧ BkSm o2 from ⟨by rw [entAll_snoc (unhide ho).1 (unhide HR)]; exact (unhide hx).symm, bkSm_ok (entB_ok (unhide hx).symm).1⟩)
        have hY2 := hide (show CB V2 gy 33 (bkc o2 (.slice a6 o2.ths.length c6)) from unhide hY)
        have hO2 : OwnN thY V2 base 37 (.slice a6 o2.ths.length c6) o2.ths := hO
        have hG9 := hide (setRow_heap _ g _ (bkc o2 (.slice a6 o2.ths.length c6)) 33 (0, 0) (unhide hG))
        have hO9 := hide (hO2.grown (grown_setRow V2 g (bkc o2 (.slice a6 o2.ths.length c6))) (fun q hq he => hO2.off (unhide hG) (by decide) (by rw [hq]; exact he.symm)))
        have hZ9 := hide (show CB (V2.setRow g (bkc o2 (.slice a6 o2.ths.length c6))) (w.heap.size + 1) 33 #[.string ⟨#[]⟩, .int .i64 0, .slice none 0 0, .int .i64 0, .string ⟨#[]⟩, .int .i64 0] from (setRow_other _ _ _ _ (by omega)).trans (unhide hZ))
        have hB9 := hide (Go.below_setRow hb (show w.heap.size ≤ g by omega) (bkc o2 (.slice a6 o2.ths.length c6)))
        have hS9 : (V2.setRow g (bkc o2 (.slice a6 o2.ths.length c6))).heap.size = V2.heap.size := Go.setRow_size _ _ _
        clear hY hO hO2 hb hZ
        go_wp2_with (first
          | (refine wpList_load_row (P := Try.prog) rfl 33 (.tmp 9) rfl gy rfl 33 (bkc o2 (.slice a6 o2.ths.length c6)) (0, 0) _ (unhide hY2) Try.underlying33 rfl rfl ?_)
          | (refine wpList_store_row (P := Try.prog) rfl 33 (.tmp 6) (.tmp 28) rfl g (bkc o2 (.slice a6 o2.ths.length c6)) rfl rfl 33 _ (unhide hG) rfl rfl (bkc_all _ _ _ _) ?_)
          | fail)
        go_roundw
        case rel => exact ⟨k + 1, o2, by omega, by go_num, ho2, hide ⟨a6, c6, unhide hG9, unhide hO9⟩, hZ9, unhide hB9, by rw [hS9]; exact hlV2⟩
        case measure => simp [intOf]; omega
    · have e1 : k = n := by omega
      have e2 : l.take k = l := List.take_of_length_le (by rw [unhide hnn]; omega)
      have E : entAll b l = some o := by rw [← e2]; exact (unhide ho).1
      obtain ⟨a5, c5, hG, hO⟩ := unhide hA
      have hG2 := hide hG; have hO2 := hide hO; replace hb := hide hb
      replace e1 := hide e1; replace e2 := hide e2; replace E := hide E
      clear hG hO hA
      go_wp2_with (first
        | (refine wpList_load_row (P := Try.prog) rfl 33 (.tmp 6) rfl g rfl 33 (bkc o (.slice a5 o.ths.length c5)) (0, 0) _ (unhide hG2) Try.underlying33 rfl rfl ?_)
        | (refine wpList_store_row (P := Try.prog) rfl 33 (.tmp 4) (.tmp 30) rfl (w.heap.size + 1) (bkc o (.slice a5 o.ths.length c5)) rfl rfl 33 _ (unhide hZ) rfl rfl (bkc_all _ _ _ _) ?_)
        | fail)
      have hZ9 := setRow_heap _ (w.heap.size + 1) _ (bkc o (.slice a5 o.ths.length c5)) 33 (0, 0) (unhide hZ)
      have T9 := Go.below_setRow (unhide hb) (show w.heap.size ≤ w.heap.size + 1 by omega) (bkc o (.slice a5 o.ths.length c5))
      have ho9 := (unhide hO2).setRow (g := w.heap.size + 1) hlb (bkc o (.slice a5 o.ths.length c5))
      exact bodyPost_ret (results_cb_tmp (by exact Try.results17) _ _ (w.heap.size + 1) 33 (bkc o (.slice a5 o.ths.length c5)) _ rfl hZ9 Try.underlying33 rfl) rfl (by rw [unhide E]; exact ⟨⟨a5, c5, rfl, ho9.low (base' := w.heap.size) (by omega)⟩, T9⟩)
end Go.Proofs.Ytkbbcjnickgfjab

/- Exact laws over books, over the loaded program, the project's functions as premises. -/
namespace Go.Proofs.Ytkbbcjnickgfjab
open Go.RowKit
end Go.Proofs.Ytkbbcjnickgfjab

/- The laws' helpers on records, over the loaded program. -/
namespace Go.Proofs.Ytkbbcjnickgfjab
open Go.RowKit
set_option maxRecDepth 20000 in
set_option maxHeartbeats 4000000 in
theorem szRec_any (r : Rc) (L : Int) (hL : 0 ≤ L ∧ L ≤ 1048576) (h1 : r.tx.size ≤ maxLen) (h2 : r.th.val.size ≤ maxLen) (w : World) :
    Calls Try.prog 6 #[.agg (rcC r), .int .i64 L] w fun e w' => (∃ z : Int, e = .returned (.int .i64 z) ∧ (z < 0 ∨ (z = L - (r.tx.size : Int) - (r.th.val.size : Int) ∧ (r.tx.size : Int) + (r.th.val.size : Int) ≤ L))) ∧ Below w.heap.size w w' := by
  have C := fun L2 (h : 0 ≤ L2 ∧ L2 ≤ 1048576) W => szThing_any r.th L2 h h2 W
  obtain ⟨kd, tx, nm, ⟨id, kind, hid, fix, sgn, wrp, val, nxt⟩⟩ := r
  simp only [rcC, thC] at h1 h2 C ⊢
  unfold maxLen at h1 h2
  replace C := hide C
  obtain ⟨W, hW, hC, hb, hlt⟩ := one_cb w #[.int .i64 kd, .string tx, .int .i64 nm, .int .i64 id, .int .i64 kind, .bool hid, .bool fix, .bool sgn, .bool wrp, .string val, .int .i64 nxt] 28
  obtain ⟨z, hz⟩ : ∃ z : Int, z = L - (tx.size : Int) := ⟨_, rfl⟩
  have u1 : IntKind.i64.wrap (L - (tx.size : Int)) = z := by rw [IntKind.wrap_i64]; omega
  have u1' : wrap64 (L - (tx.size : Int)) = z := (IntWalk.i64_left _).symm.trans u1
  have c1 := hC.cell 1 (v := .string tx) rfl
  by_cases hn : z < 0
  · replace hz := hide hz; replace h1 := hide h1; replace h2 := hide h2; replace hL := hide hL
    go_enter Try.func6, Try.ntmps6
    go_wp2
    go_ret
    exact ⟨⟨-1, rfl, .inl (by omega)⟩, hb⟩
  · have C2 := hide (unhide C z (by omega))
    clear C
    have HZ := hide (show z = L - (tx.size : Int) ∧ (tx.size : Int) ≤ L from ⟨hz, by omega⟩)
    replace hz := hide hz; replace h1 := hide h1; replace h2 := hide h2; replace hL := hide hL
    have c3 := hC.cell 3 (v := .int .i64 id) rfl
    have c4 := hC.cell 4 (v := .int .i64 kind) rfl
    have c5 := hC.cell 5 (v := .bool hid) rfl
    have c6 := hC.cell 6 (v := .bool fix) rfl
    have c7 := hC.cell 7 (v := .bool sgn) rfl
    have c8 := hC.cell 8 (v := .bool wrp) rfl
    have c9 := hC.cell 9 (v := .string val) rfl
    have c10 := hC.cell 10 (v := .int .i64 nxt) rfl
    go_enter Try.func6, Try.ntmps6
    go_upto_region 5 with (go_at_call 21; refine (unhide C2 _).mono ?_; rintro e w1 ⟨⟨z1, rfl, hz1⟩, hb1⟩)
    clear c1 c3 c4 c5 c6 c7 c8 c9 c10
    have T1 := hb.trans (hb1.mono hb.size)
    rcases hz1 with ⟨hn1, _⟩ | ⟨hz1, hz2⟩
    · go_wp2
      go_ret
      exact ⟨⟨_, rfl, .inl (by omega)⟩, T1⟩
    · have hn1 : ¬ z1 < 0 := by omega
      obtain ⟨e1, e2⟩ := unhide HZ
      have HE := hide (show z1 = L - (tx.size : Int) - (val.size : Int) ∧ (tx.size : Int) + (val.size : Int) ≤ L from ⟨by omega, by omega⟩)
      clear HZ e1 e2 hz1 hz2
      go_wp2
      go_ret
      exact ⟨⟨_, rfl, .inr (unhide HE)⟩, T1⟩
set_option maxRecDepth 20000 in
set_option maxHeartbeats 4000000 in
theorem toRec_any (r : Rc) (w : World) :
    Calls Try.prog 9 #[.agg (rcC r)] w fun e w' => e = .returned (.agg (rcC r)) ∧ Below w.heap.size w w' := by
  have C := fun W => toThing_any r.th W
  obtain ⟨kd, tx, nm, ⟨id, kind, hid, fix, sgn, wrp, val, nxt⟩⟩ := r
  simp only [rcC, thC] at C ⊢
  replace C := hide C
  go_enter Try.func9, Try.ntmps9
  go_upto_region 2 with fail
  obtain ⟨W, hW, hX, hY, hZ, hB, hs1⟩ := three_cb w #[.int .i64 kd, .string tx, .int .i64 nm, .int .i64 id, .int .i64 kind, .bool hid, .bool fix, .bool sgn, .bool wrp, .string val, .int .i64 nxt] #[.int .i64 0, .string ⟨#[]⟩, .int .i64 0, .int .i64 0, .int .i64 0, .bool false, .bool false, .bool false, .bool false, .string ⟨#[]⟩, .int .i64 0] #[.int .i64 0, .string ⟨#[]⟩, .int .i64 0, .int .i64 0, .int .i64 0, .bool false, .bool false, .bool false, .bool false, .string ⟨#[]⟩, .int .i64 0] 28 39 39
  first | rw [hW] | skip
  clear hW hs1
  have x0 := hX.cell 0 (v := .int .i64 kd) rfl
  have z0 := hZ.cell 0 (v := .int .i64 0) rfl
  have f0 := hZ.frozen 0
  have hZ1 := hZ.set 0 (.int .i64 kd)
  have hX1 := hX.set_other (h := w.heap.size + 1 + 1) (k := 0) (by omega) (.int .i64 kd)
  have hY1 := hY.set_other (h := w.heap.size + 1 + 1) (k := 0) (by omega) (.int .i64 kd)
  have T1 := hB.setCell (p := ⟨w.heap.size + 1 + 1, 0, none⟩) (by show _ ≤ w.heap.size + 1 + 1; omega) (.int .i64 kd)
  have x1 := hX1.cell 1 (v := .string tx) rfl
  have z1 := hZ1.cell 1 (v := .string ⟨#[]⟩) rfl
  have f1 := hZ1.frozen 1
  have hZ2 := hZ1.set 1 (.string tx)
  have hX2 := hX1.set_other (h := w.heap.size + 1 + 1) (k := 1) (by omega) (.string tx)
  have hY2 := hY1.set_other (h := w.heap.size + 1 + 1) (k := 1) (by omega) (.string tx)
  have T2 := T1.setCell (p := ⟨w.heap.size + 1 + 1, 1, none⟩) (by show _ ≤ w.heap.size + 1 + 1; omega) (.string tx)
  have x2 := hX2.cell 2 (v := .int .i64 nm) rfl
  have z2 := hZ2.cell 2 (v := .int .i64 0) rfl
  have f2 := hZ2.frozen 2
  have hZ3 := hZ2.set 2 (.int .i64 nm)
  have hX3 := hX2.set_other (h := w.heap.size + 1 + 1) (k := 2) (by omega) (.int .i64 nm)
  have hY3 := hide (hY2.set_other (h := w.heap.size + 1 + 1) (k := 2) (by omega) (.int .i64 nm))
  have T3 := hide (T2.setCell (p := ⟨w.heap.size + 1 + 1, 2, none⟩) (by show _ ≤ w.heap.size + 1 + 1; omega) (.int .i64 nm))
  have hZ4 := hide (cb_eq hZ3 (show (#[.int .i64 kd, .string tx, .int .i64 nm, .int .i64 0, .int .i64 0, .bool false, .bool false, .bool false, .bool false, .string ⟨#[]⟩, .int .i64 0] : Array Value) = _ from rfl))
  have hX4 := hide hX3
  clear hB hX hY hZ hX1 hX2 hX3 hY1 hY2 hZ1 hZ2 hZ3 T1 T2
  go_upto_region 5 with fail
  refine wp_gen (fun W5 => CB W5 (w.heap.size + 1 + 1) 39 #[.int .i64 kd, .string tx, .int .i64 nm, .int .i64 0, .int .i64 0, .bool false, .bool false, .bool false, .bool false, .string ⟨#[]⟩, .int .i64 0] ∧ CB W5 w.heap.size 28 #[.int .i64 kd, .string tx, .int .i64 nm, .int .i64 id, .int .i64 kind, .bool hid, .bool fix, .bool sgn, .bool wrp, .string val, .int .i64 nxt] ∧ CB W5 (w.heap.size + 1) 39 #[.int .i64 0, .string ⟨#[]⟩, .int .i64 0, .int .i64 0, .int .i64 0, .bool false, .bool false, .bool false, .bool false, .string ⟨#[]⟩, .int .i64 0] ∧ Below w.heap.size w W5) ⟨unhide hZ4, unhide hX4, unhide hY3, unhide T3⟩ ?_
  clear x0 x1 x2 z0 z1 z2 f0 f1 f2 hZ4 hX4 hY3 T3
  rintro W5 ⟨hZ, hX, hY, T⟩
  have c3 := hX.cell 3 (v := .int .i64 id) rfl
  have c4 := hX.cell 4 (v := .int .i64 kind) rfl
  have c5 := hX.cell 5 (v := .bool hid) rfl
  have c6 := hX.cell 6 (v := .bool fix) rfl
  have c7 := hX.cell 7 (v := .bool sgn) rfl
  have c8 := hX.cell 8 (v := .bool wrp) rfl
  have c9 := hX.cell 9 (v := .string val) rfl
  have c10 := hX.cell 10 (v := .int .i64 nxt) rfl
  have hZ0 := hide hZ; have hX0 := hide hX; have hY0 := hide hY; have T0 := hide T
  clear hZ hX hY T
  go_upto_region 6 with (first
    | (go_at_call 30; refine (unhide C _).mono ?_; rintro e w1 ⟨rfl, hb1⟩; have hZ1 := (unhide hZ0).step hb1; clear c3 c4 c5 c6 c7 c8 c9 c10)
    | (refine wpList_store_cb rfl 37 (.tmp 16) (.tmp 15) rfl (g := w.heap.size + 1 + 1) (o := 3) (T := 39) (cs := #[.int .i64 kd, .string tx, .int .i64 nm, .int .i64 0, .int .i64 0, .bool false, .bool false, .bool false, .bool false, .string ⟨#[]⟩, .int .i64 0]) [.int .i64 id, .int .i64 kind, .bool hid, .bool fix, .bool sgn, .bool wrp, .string val, .int .i64 nxt] rfl rfl hZ1 (by simp) (by simp [Value.oneCell']) (by kernel_rfl) ?_
       intro w2 hZ2 hg2 hsz2))
  replace hZ2 := hide (cb_eq hZ2 (show (#[.int .i64 kd, .string tx, .int .i64 nm, .int .i64 id, .int .i64 kind, .bool hid, .bool fix, .bool sgn, .bool wrp, .string val, .int .i64 nxt] : Array Value) = _ from rfl))
  have T1 := (unhide T0).trans (hb1.mono (unhide T0).size)
  have hY1 := (unhide hY0).step hb1
  have hY2 := hide (hY1.grown hg2 (by simp))
  have T2 := hide (show Below w.heap.size w w2 from T1.grown hg2 (by have := T1.size; omega) (fun k hk => by injection hk with hk; omega))
  clear hY1 T1 hg2 hsz2 hZ1 hb1 hY0 T0 hX0 hZ0 C
  go_wp2_with (first
    | (refine wpList_load_row rfl 39 (.tmp 3) rfl (w.heap.size + 1 + 1) rfl 39 #[.int .i64 kd, .string tx, .int .i64 nm, .int .i64 id, .int .i64 kind, .bool hid, .bool fix, .bool sgn, .bool wrp, .string val, .int .i64 nxt] (0, 0) _ (unhide hZ2) Try.underlying39 rfl rfl ?_)
    | (refine wpList_store_row rfl 39 (.tmp 2) (.tmp 17) rfl (w.heap.size + 1) #[.int .i64 kd, .string tx, .int .i64 nm, .int .i64 id, .int .i64 kind, .bool hid, .bool fix, .bool sgn, .bool wrp, .string val, .int .i64 nxt] rfl rfl 39 _ (unhide hY2) rfl rfl (by simp [Value.oneCell']) ?_))
  have hY8 := setRow_heap _ (w.heap.size + 1) _ #[.int .i64 kd, .string tx, .int .i64 nm, .int .i64 id, .int .i64 kind, .bool hid, .bool fix, .bool sgn, .bool wrp, .string val, .int .i64 nxt] 39 (0, 0) (unhide hY2)
  have T4 := Go.below_setRow (unhide T2) (show w.heap.size ≤ w.heap.size + 1 by omega) #[.int .i64 kd, .string tx, .int .i64 nm, .int .i64 id, .int .i64 kind, .bool hid, .bool fix, .bool sgn, .bool wrp, .string val, .int .i64 nxt]
  exact bodyPost_ret (results_cb (by exact Try.results9) _ _ (w.heap.size + 1) 39 _ _ rfl hY8 Try.underlying39 rfl) rfl ⟨rfl, T4⟩
end Go.Proofs.Ytkbbcjnickgfjab

/- Records that are read, by the given model, over the loaded program. -/
namespace Go.Proofs.Ytkbbcjnickgfjab
open Go.RowKit
end Go.Proofs.Ytkbbcjnickgfjab

/- The law of the records that are read, over the loaded program. -/
namespace Go.Proofs.Ytkbbcjnickgfjab
open Go.RowKit
set_option maxRecDepth 20000 in
set_option maxHeartbeats 2000000 in
theorem eqRec_any (r : Rc) (w : World) :
    Calls Try.prog 39 #[.agg (rcC r), .agg (rcC r)] w fun e w' => e = .returned (.bool true) ∧ Below w.heap.size w w' := by
  have C := fun W => eqThing_any r.th W
  obtain ⟨kd, tx, nm, ⟨id, kind, hid, fix, sgn, wrp, val, nxt⟩⟩ := r
  simp only [rcC, thC] at C ⊢
  replace C := hide C
  obtain ⟨W, hW, hA, hB, hb, hlt⟩ := two_cb w #[.int .i64 kd, .string tx, .int .i64 nm, .int .i64 id, .int .i64 kind, .bool hid, .bool fix, .bool sgn, .bool wrp, .string val, .int .i64 nxt] #[.int .i64 kd, .string tx, .int .i64 nm, .int .i64 id, .int .i64 kind, .bool hid, .bool fix, .bool sgn, .bool wrp, .string val, .int .i64 nxt] 39 39
  have a0 := hA.cell 0 rfl
  have b0 := hB.cell 0 rfl
  have a1 := hA.cell 1 rfl
  have b1 := hB.cell 1 rfl
  have a2 := hA.cell 2 rfl
  have b2 := hB.cell 2 rfl
  have a3 := hA.cell 3 rfl
  have b3 := hB.cell 3 rfl
  have a4 := hA.cell 4 rfl
  have b4 := hB.cell 4 rfl
  have a5 := hA.cell 5 rfl
  have b5 := hB.cell 5 rfl
  have a6 := hA.cell 6 rfl
  have b6 := hB.cell 6 rfl
  have a7 := hA.cell 7 rfl
  have b7 := hB.cell 7 rfl
  have a8 := hA.cell 8 rfl
  have b8 := hB.cell 8 rfl
  have a9 := hA.cell 9 rfl
  have b9 := hB.cell 9 rfl
  have a10 := hA.cell 10 rfl
  have b10 := hB.cell 10 rfl
  clear hA hB
  go_enter Try.func39, Try.ntmps39
  go_upto_region 1 with fail
  first | rw [hW] | skip
  clear hW
  go_wp2_with (go_at_call 61; refine (unhide C _).mono ?_; rintro e w1 ⟨rfl, hb1⟩)
  go_ret
  exact ⟨rfl, hb.trans (hb1.mono hb.size)⟩
end Go.Proofs.Ytkbbcjnickgfjab

/- Books: records entered one after another, by the given model, over the loaded program. -/
namespace Go.Proofs.Ytkbbcjnickgfjab
open Go.RowKit
theorem OwnN.setRowN {α : Type} {L : Lay α} {w : World} {g base : Nat} {T e : TypeId} {cs0 cs : Array Value} {v : Value} {xs : List α} (h : OwnN L w base e v xs) (hG : CB w g T cs0) (hT : T ≠ e) : OwnN L (w.setRow g cs) base e v xs :=
  h.grown (grown_setRow w g cs) (fun k hk he => h.off hG hT (by rw [hk]; exact he.symm))
/-- The eleven cells of a record, as they lie. -/
theorem AtN.rc {w : World} {g o : Nat} {r : Rc} (h : AtN rcY w g o r) : w.cell? ⟨g, o, none⟩ = some (.int .i64 r.kd) ∧ w.cell? ⟨g, o + 1, none⟩ = some (.string r.tx) ∧ w.cell? ⟨g, o + 2, none⟩ = some (.int .i64 r.nm) ∧ w.cell? ⟨g, o + 3, none⟩ = some (.int .i64 r.th.id) ∧ w.cell? ⟨g, o + 4, none⟩ = some (.int .i64 r.th.kind) ∧ w.cell? ⟨g, o + 5, none⟩ = some (.bool r.th.hid) ∧ w.cell? ⟨g, o + 6, none⟩ = some (.bool r.th.fix) ∧ w.cell? ⟨g, o + 7, none⟩ = some (.bool r.th.sgn) ∧ w.cell? ⟨g, o + 8, none⟩ = some (.bool r.th.wrp) ∧ w.cell? ⟨g, o + 9, none⟩ = some (.string r.th.val) ∧ w.cell? ⟨g, o + 10, none⟩ = some (.int .i64 r.th.nxt) :=
  ⟨h 0 _ rfl, h 1 _ rfl, h 2 _ rfl, h 3 _ rfl, h 4 _ rfl, h 5 _ rfl, h 6 _ rfl, h 7 _ rfl, h 8 _ rfl, h 9 _ rfl, h 10 _ rfl⟩
set_option maxRecDepth 20000 in
set_option maxHeartbeats 6400000 in
theorem specEnterAll_any (b : Bk) (l : List Rc) (v u : Value) (w : World) (hr : RdBk w v b) (hl : RdN rcY w u l) (hn : l.length ≤ 1048576) (hs : BkSm b) :
    Calls Try.prog 15 #[v, u] w fun e w' => EntRes 37 w (entAll b l) e w' := by
  obtain ⟨a, n0, c, rfl, hn0, hu⟩ := hr.open
  subst hn0
  obtain ⟨al, cl, rfl, hcl⟩ := hl.open
  obtain ⟨n, hnn⟩ : ∃ n, l.length = n := ⟨_, rfl⟩
  rw [hnn] at hn ⊢
  have CY : Hid (∀ W : World, RdN thY W (.slice a b.ths.length c) b.ths → Calls Try.prog 24 #[.agg (bkc b (.slice a b.ths.length c))] W fun e w' => (∃ a c, e = .returned (.agg (bkc b (.slice a b.ths.length c))) ∧ OwnN thY w' W.heap.size 37 (.slice a b.ths.length c) b.ths) ∧ Below W.heap.size W w') := fun W h => l21Copy_any b _ W ⟨_, rfl, h⟩ (by have := hs.1; omega)
  have CE : Hid (∀ (o : Bk), BkSm o → ∀ (r : Rc) (a : Option Addr) (c : Nat) (W : World), RdN thY W (.slice a o.ths.length c) o.ths → Calls Try.prog 7 #[.agg #[.string o.wd, .int .i64 o.tr, .slice a o.ths.length c, .int .i64 o.la, .string o.ch, .int .i64 o.ct], .agg #[.int .i64 r.kd, .string r.tx, .int .i64 r.nm, .int .i64 r.th.id, .int .i64 r.th.kind, .bool r.th.hid, .bool r.th.fix, .bool r.th.sgn, .bool r.th.wrp, .string r.th.val, .int .i64 r.th.nxt]] W fun e w' => (∃ a c, e = .returned (.tuple #[.agg #[.string ((entB o r).getD bkZ).wd, .int .i64 ((entB o r).getD bkZ).tr, .slice a ((entB o r).getD bkZ).ths.length c, .int .i64 ((entB o r).getD bkZ).la, .string ((entB o r).getD bkZ).ch, .int .i64 ((entB o r).getD bkZ).ct], .bool (entB o r).isSome]) ∧ OwnN thY w' W.heap.size 37 (.slice a ((entB o r).getD bkZ).ths.length c) ((entB o r).getD bkZ).ths) ∧ Below W.heap.size W w') := fun o hs r a c W h => specEnter_any o r (bkv o (.slice a o.ths.length c)) W ⟨_, rfl, h⟩ hs.1 (by have := hs.2.1; omega) (by have := hs.2.2.1; omega)
  obtain ⟨W, hW, hX, hZ, hB, hs0⟩ := two_cb w (bkc b (.slice a b.ths.length c)) #[.string ⟨#[]⟩, .int .i64 0, .slice none 0 0, .int .i64 0, .string ⟨#[]⟩, .int .i64 0] 33 33
  have hW2 := hW
  simp only [bkc] at hW2
  have HU := hide (hu.below hB)
  replace hX := hide hX; replace hZ := hide hZ; replace hB := hide hB; replace hs := hide hs
  clear hW hr hl hu
  go_enter Try.func15, Try.ntmps15
  go_upto_region 1 with fail
  first | rw [hW2] | skip
  clear hW2
  go_upto_region 2 with (first
    | (refine wpList_load_row (P := Try.prog) rfl 33 (.tmp 2) rfl w.heap.size rfl 33 (bkc b (.slice a b.ths.length c)) (0, 0) _ (unhide hX) Try.underlying33 rfl rfl ?_)
    | (go_at_call 24; refine (unhide CY _ (unhide HU)).mono ?_; rintro e w3 ⟨⟨a3, c3, rfl, ho3⟩, hb3⟩; have HG := hide (CB.new w3 #[.string ⟨#[]⟩, .int .i64 0, .slice none 0 0, .int .i64 0, .string ⟨#[]⟩, .int .i64 0] 33))
    | (refine wpList_store_row (P := Try.prog) rfl 33 (.tmp 6) (.tmp 11) rfl w3.heap.size (bkc b (.slice a3 b.ths.length c3)) rfl rfl 33 _ (unhide HG) rfl rfl (bkc_all _ _ _ _) ?_)
    | fail)
  have hG4 := setRow_heap _ w3.heap.size _ (bkc b (.slice a3 b.ths.length c3)) 33 (0, 0) (unhide HG)
  have hbV := Go.below_setRow ((Below.refl w3.heap.size w3).alloc (Nat.le_refl _) (.cells #[.string ⟨#[]⟩, .int .i64 0, .slice none 0 0, .int .i64 0, .string ⟨#[]⟩, .int .i64 0] 33)) (Nat.le_refl _) (bkc b (.slice a3 b.ths.length c3))
  have hb23 := hb3.trans (hbV.mono hb3.size)
  obtain ⟨g, hg⟩ : ∃ z, z = w3.heap.size := ⟨_, rfl⟩
  obtain ⟨base, hbase⟩ : ∃ z, z = W.heap.size := ⟨_, rfl⟩
  have hbg : base ≤ g := by have := hb3.size; omega
  have hlb : w.heap.size + 1 < base := by omega
  refine wp_gen (fun V => BkAt V w3.heap.size W.heap.size 33 37 b ∧ CB V (w.heap.size + 1) 33 #[.string ⟨#[]⟩, .int .i64 0, .slice none 0 0, .int .i64 0, .string ⟨#[]⟩, .int .i64 0] ∧ Below w.heap.size w V ∧ base ≤ V.heap.size) ⟨⟨a3, c3, hG4, ho3.below hbV⟩, (unhide hZ).step hb23, (unhide hB).trans (hb23.mono (unhide hB).size), by have := hb23.size; omega⟩ ?_
  clear hG4 hbV hb23 ho3 hb3 HG hX hZ hB HU CY hs0
  rw [← hg, ← hbase]
  replace hg := hide hg; replace hbase := hide hbase; replace hnn := hide hnn
  rintro V0 ⟨hA, hZ, hT, hlV⟩
  go_wp2
  go_loopw [7] (fun ti wr => ∃ (k : Nat) (o : Bk), k ≤ n ∧ ti = .int .i64 k ∧ Hid (entAll b (l.take k) = some o ∧ BkSm o) ∧ Hid (BkAt wr g base 33 37 o) ∧ Hid (CB wr (w.heap.size + 1) 33 #[.string ⟨#[]⟩, .int .i64 0, .slice none 0 0, .int .i64 0, .string ⟨#[]⟩, .int .i64 0]) ∧ Below w.heap.size w wr ∧ base ≤ wr.heap.size) (fun ti _ => n - (intOf ti).toNat)
  case atStart => exact ⟨0, b, Nat.zero_le _, rfl, ⟨rfl, unhide hs⟩, hA, hZ, hT, hlV⟩
  case round =>
    obtain ⟨k, o, hk, rfl, ho, hA, hZ, hb, hlV⟩ := hrel
    have hss := hb.size
    by_cases hlt : k < n
    · have hk' : k < l.length := by rw [unhide hnn]; exact hlt
      obtain ⟨r, hr⟩ : ∃ r, l[k]? = some r := ⟨l[k], List.getElem?_eq_getElem hk'⟩
      obtain ⟨gl, ol, rfl, hgl, hat⟩ := hcl k r hr
      have hatw := hide (hat.below hb hgl)
      have hglw : gl < wr.heap.size := by omega
      have hlk : (k : Int) < (n : Int) := by omega
      have hi0 : (0 : Int) ≤ (k : Int) := by omega
      obtain ⟨a5, c5, hG, hO⟩ := unhide hA
      have hgg := hG.lt
      have CE2 := hide (unhide CE o (unhide ho).2 r)
      have HR := hide hr
      clear hcl hat hr hA
      obtain ⟨x, hx⟩ : ∃ z, z = entB o r := ⟨_, rfl⟩
      rw [← hx] at CE2
      replace hx := hide hx
      replace hG := hide (show CB wr g 33 #[.string o.wd, .int .i64 o.tr, .slice a5 o.ths.length c5, .int .i64 o.la, .string o.ch, .int .i64 o.ct] from hG); replace hO := hide hO; replace hb := hide hb
      go_upto_region 5 with fail
      obtain ⟨bs21, hbs21⟩ : ∃ z, z = wr.heap.size := ⟨_, rfl⟩
      have wb_bs21 : w.heap.size ≤ bs21 := by rw [hbs21]; exact (unhide hb).size
      have sp_ro_bs21 : ∀ k, ((.slice a5 o.ths.length c5) : Value).ownBlock = some k → k < bs21 := fun k hk => by rw [hbs21]; exact ((unhide hO).lt k hk).2
      go_cut [8, 9] from 12 to 30 (fun t8 t9 wx => ∃ (a22 : Option Addr) (c23 : Nat) (g24 : Nat), t8 = .pointer (some ⟨g24, 0, none⟩) ∧ t9 = .bool x.isSome ∧ CB wx g24 33 #[.string (x.getD bkZ).wd, .int .i64 (x.getD bkZ).tr, .slice a22 (x.getD bkZ).ths.length c23, .int .i64 (x.getD bkZ).la, .string (x.getD bkZ).ch, .int .i64 (x.getD bkZ).ct] ∧ OwnN thY wx bs21 37 (.slice a22 (x.getD bkZ).ths.length c23) (x.getD bkZ).ths ∧ CB wx g 33 #[.string o.wd, .int .i64 o.tr, .slice a5 o.ths.length c5, .int .i64 o.la, .string o.ch, .int .i64 o.ct] ∧ CB wx (w.heap.size + 1) 33 #[.string ⟨#[]⟩, .int .i64 0, .slice none 0 0, .int .i64 0, .string ⟨#[]⟩, .int .i64 0] ∧ OwnN thY wx base 37 (.slice a5 o.ths.length c5) o.ths ∧ Below w.heap.size w wx ∧ bs21 ≤ g24 ∧ wr.heap.size ≤ wx.heap.size)
      case first =>
        refine wp_region_held_drew (S := fun V => Below wr.heap.size wr V) (by kernel_rfl) (Below.refl _ wr).drew (fun hHeld => ?_)
        refine held_take (i := 0) 19 (v := .agg #[.string o.wd, .int .i64 o.tr, .slice a5 o.ths.length c5, .int .i64 o.la, .string o.ch, .int .i64 o.ct]) rfl rfl (by kernel_rfl) (by kernel_rfl) (by kernel_rfl) (fun _ _ _ h => h) (Or.inl ⟨by rfl, fun V hS => by have kx := (unhide hG).step hS; have x0 := kx.cell 0 (v := .string o.wd) rfl; have x1 := kx.cell 1 (v := .int .i64 o.tr) rfl; have x2 := kx.cell 2 (v := .slice a5 o.ths.length c5) rfl; have x3 := kx.cell 3 (v := .int .i64 o.la) rfl; have x4 := kx.cell 4 (v := .string o.ch) rfl; have x5 := kx.cell 5 (v := .int .i64 o.ct) rfl; go_simp⟩) hHeld ?_
        simp only [Act.put, List.setIfInBounds_toArray, List.set_cons_zero, List.set_cons_succ]
        refine held_take (i := 1) 20 (v := .slice (some ⟨gl, ol, none⟩) n cl) rfl rfl (by kernel_rfl) (by kernel_rfl) (by kernel_rfl) (fun _ _ _ h => h) (Or.inl ⟨by rfl, fun V hS => by go_simp⟩) hHeld ?_
        simp only [Act.put, List.setIfInBounds_toArray, List.set_cons_zero, List.set_cons_succ]
        refine held_take (i := 2) 21 (v := .int .i64 (k : Int)) rfl rfl (by kernel_rfl) (by kernel_rfl) (by kernel_rfl) (fun _ _ _ h => h) (Or.inl ⟨by rfl, fun V hS => by go_simp⟩) hHeld ?_
        simp only [Act.put, List.setIfInBounds_toArray, List.set_cons_zero, List.set_cons_succ]
        refine held_take (i := 3) 22 (v := .pointer (some ⟨gl, ol + k * 11, none⟩)) rfl rfl (by kernel_rfl) (by kernel_rfl) (by kernel_rfl) (fun _ _ _ h => h) (Or.inl ⟨by rfl, fun V hS => by go_simp⟩) hHeld ?_
        simp only [Act.put, List.setIfInBounds_toArray, List.set_cons_zero, List.set_cons_succ]
        refine held_take (i := 4) 23 (v := .agg #[.int .i64 r.kd, .string r.tx, .int .i64 r.nm, .int .i64 r.th.id, .int .i64 r.th.kind, .bool r.th.hid, .bool r.th.fix, .bool r.th.sgn, .bool r.th.wrp, .string r.th.val, .int .i64 r.th.nxt]) rfl rfl (by kernel_rfl) (by kernel_rfl) (by kernel_rfl) (fun _ _ _ h => h) (Or.inl ⟨by rfl, fun V hS => by obtain ⟨y0, y1, y2, y3, y4, y5, y6, y7, y8, y9, y10⟩ := AtN.rc (o := ol + k * 11) ((unhide hatw).below hS hglw); go_simp⟩) hHeld ?_
        simp only [Act.put, List.setIfInBounds_toArray, List.set_cons_zero, List.set_cons_succ]
        have u0 : wr.heap.size ≤ wr.drew.heap.size := Nat.le_refl _
        have m0 : Below wr.heap.size wr wr.drew := (Below.refl _ wr).drew
        refine wpAnyH_ready (rs := [5, 9]) (by kernel_rfl) (by simp) ?_
        refine AllReadyH.cons rfl (fun K hK => ?_) (AllReadyH.cons rfl (fun K hK => ?_) AllReadyH.nil)
        · go_simp
          refine (unhide CE2 _ _ _ ((unhide hO).below m0).rd).mono ?_
          rintro e w25 ⟨⟨a26, c27, rfl, q28⟩, hb29⟩
          refine hK.out _ _ (hHeld.trans (hb29.mono hHeld.size)) (fun hHeld => ?_)
          have m30 := m0.trans (hb29.mono m0.size)
          have m31 := Below.refl w25.heap.size w25
          clear hK K
          have u32 : wr.heap.size ≤ _ := u0
          have u33 : wr.heap.size ≤ w25.heap.size := hHeld.size
          refine held_take (i := 6) 18 (v := .tuple #[.agg #[.string (x.getD bkZ).wd, .int .i64 (x.getD bkZ).tr, .slice a26 (x.getD bkZ).ths.length c27, .int .i64 (x.getD bkZ).la, .string (x.getD bkZ).ch, .int .i64 (x.getD bkZ).ct], .bool x.isSome]) rfl rfl (by kernel_rfl) (by kernel_rfl) (by kernel_rfl) (fun _ _ _ h => h) (Or.inl ⟨by rfl, fun V hS => by go_simp⟩) hHeld ?_
          simp only [Act.put, List.setIfInBounds_toArray, List.set_cons_zero, List.set_cons_succ]
          refine held_take (i := 7) 25 (v := .agg #[.string (x.getD bkZ).wd, .int .i64 (x.getD bkZ).tr, .slice a26 (x.getD bkZ).ths.length c27, .int .i64 (x.getD bkZ).la, .string (x.getD bkZ).ch, .int .i64 (x.getD bkZ).ct]) rfl rfl (by kernel_rfl) (by kernel_rfl) (by kernel_rfl) (fun _ _ _ h => h) (Or.inl ⟨by rfl, fun V hS => by go_simp⟩) hHeld ?_
          simp only [Act.put, List.setIfInBounds_toArray, List.set_cons_zero, List.set_cons_succ]
          refine held_take (i := 8) 26 (v := .bool x.isSome) rfl rfl (by kernel_rfl) (by kernel_rfl) (by kernel_rfl) (fun _ _ _ h => h) (Or.inl ⟨by rfl, fun V hS => by go_simp⟩) hHeld ?_
          simp only [Act.put, List.setIfInBounds_toArray, List.set_cons_zero, List.set_cons_succ]
          refine wpAnyH_ready (rs := [9]) (by kernel_rfl) (by simp) ?_
          refine AllReadyH.cons rfl (fun K hK => ?_) AllReadyH.nil
          go_simp
          have q34 := CB.new w25 #[.string ⟨#[]⟩, .int .i64 0, .slice none 0 0, .int .i64 0, .string ⟨#[]⟩, .int .i64 0] 33
          refine hK.out _ _ (hHeld.alloc hHeld.size _) (fun hHeld => ?_)
          have m35 := m30.alloc m30.size (.cells #[.string ⟨#[]⟩, .int .i64 0, .slice none 0 0, .int .i64 0, .string ⟨#[]⟩, .int .i64 0] 33)
          have m36 := m31.alloc m31.size (.cells #[.string ⟨#[]⟩, .int .i64 0, .slice none 0 0, .int .i64 0, .string ⟨#[]⟩, .int .i64 0] 33)
          have m37 := Below.refl (w25.alloc (.cells #[.string ⟨#[]⟩, .int .i64 0, .slice none 0 0, .int .i64 0, .string ⟨#[]⟩, .int .i64 0] 33)).heap.size (w25.alloc (.cells #[.string ⟨#[]⟩, .int .i64 0, .slice none 0 0, .int .i64 0, .string ⟨#[]⟩, .int .i64 0] 33))
          clear hK K
          have u38 : wr.heap.size ≤ (w25.alloc (.cells #[.string ⟨#[]⟩, .int .i64 0, .slice none 0 0, .int .i64 0, .string ⟨#[]⟩, .int .i64 0] 33)).heap.size := hHeld.size
          refine wpAnyH_ready (rs := [10]) (by kernel_rfl) (by simp) ?_
          refine AllReadyH.cons rfl (fun K hK => ?_) AllReadyH.nil
          have hGG := q34.step m37
          refine step_store_all (P := Try.prog) rfl 33 (.tmp 8) (.tmp 25) rfl #[.string (x.getD bkZ).wd, .int .i64 (x.getD bkZ).tr, .slice a26 (x.getD bkZ).ths.length c27, .int .i64 (x.getD bkZ).la, .string (x.getD bkZ).ch, .int .i64 (x.getD bkZ).ct] rfl rfl hGG rfl (by simp [Value.oneCell']) (by kernel_rfl) ?_
          have hS9 := setRow_heap _ _ _ #[.string (x.getD bkZ).wd, .int .i64 (x.getD bkZ).tr, .slice a26 (x.getD bkZ).ths.length c27, .int .i64 (x.getD bkZ).la, .string (x.getD bkZ).ch, .int .i64 (x.getD bkZ).ct] 33 (0, 0) hGG
          have hB9 : Below wr.heap.size wr _ := Go.below_setRow hHeld (show wr.heap.size ≤ _ from u33) #[.string (x.getD bkZ).wd, .int .i64 (x.getD bkZ).tr, .slice a26 (x.getD bkZ).ths.length c27, .int .i64 (x.getD bkZ).la, .string (x.getD bkZ).ch, .int .i64 (x.getD bkZ).ct]
          have hR9 := (q28.below m36).setRowN (g := _) (cs := #[.string (x.getD bkZ).wd, .int .i64 (x.getD bkZ).tr, .slice a26 (x.getD bkZ).ths.length c27, .int .i64 (x.getD bkZ).la, .string (x.getD bkZ).ch, .int .i64 (x.getD bkZ).ct]) (T := 33) hGG (by decide)
          refine hK.out _ _ hB9 (fun hHeld => ?_)
          clear hK K
          refine held_take (i := 11) 9 (v := .bool x.isSome) rfl rfl (by kernel_rfl) (by kernel_rfl) (by kernel_rfl) (fun _ _ _ h => h) (Or.inl ⟨by rfl, fun V hS => by go_simp⟩) hHeld ?_
          simp only [Act.put, List.setIfInBounds_toArray]
          refine wpAnyH_done (by kernel_rfl) ?_ _
          go_wp2_with fail
          go_meet
          case rel =>
            exact ⟨a26, c27, _, rfl, rfl, hS9, hR9.low (base' := bs21) (by rw [hbs21]; exact u32), (unhide hG).step hHeld, (unhide hZ).step hHeld, (unhide hO).below hHeld, (unhide hb).trans (hHeld.mono (unhide hb).size), (by rw [hbs21]; exact u33), hHeld.size⟩
        · go_simp
          have q39 := CB.new wr.drew #[.string ⟨#[]⟩, .int .i64 0, .slice none 0 0, .int .i64 0, .string ⟨#[]⟩, .int .i64 0] 33
          refine hK.out _ _ (hHeld.alloc hHeld.size _) (fun hHeld => ?_)
          have m40 := m0.alloc m0.size (.cells #[.string ⟨#[]⟩, .int .i64 0, .slice none 0 0, .int .i64 0, .string ⟨#[]⟩, .int .i64 0] 33)
          have m41 := Below.refl (wr.drew.alloc (.cells #[.string ⟨#[]⟩, .int .i64 0, .slice none 0 0, .int .i64 0, .string ⟨#[]⟩, .int .i64 0] 33)).heap.size (wr.drew.alloc (.cells #[.string ⟨#[]⟩, .int .i64 0, .slice none 0 0, .int .i64 0, .string ⟨#[]⟩, .int .i64 0] 33))
          clear hK K
          have u42 : wr.heap.size ≤ (wr.drew.alloc (.cells #[.string ⟨#[]⟩, .int .i64 0, .slice none 0 0, .int .i64 0, .string ⟨#[]⟩, .int .i64 0] 33)).heap.size := hHeld.size
          refine wpAnyH_ready (rs := [5]) (by kernel_rfl) (by simp) ?_
          refine AllReadyH.cons rfl (fun K hK => ?_) AllReadyH.nil
          go_simp
          refine (unhide CE2 _ _ _ ((unhide hO).below m40).rd).mono ?_
          rintro e w43 ⟨⟨a44, c45, rfl, q46⟩, hb47⟩
          refine hK.out _ _ (hHeld.trans (hb47.mono hHeld.size)) (fun hHeld => ?_)
          have m48 := m40.trans (hb47.mono m40.size)
          have m49 := m41.trans (hb47.mono m41.size)
          have m50 := Below.refl w43.heap.size w43
          clear hK K
          have u51 : wr.heap.size ≤ _ := u42
          have u52 : wr.heap.size ≤ w43.heap.size := hHeld.size
          refine held_take (i := 6) 18 (v := .tuple #[.agg #[.string (x.getD bkZ).wd, .int .i64 (x.getD bkZ).tr, .slice a44 (x.getD bkZ).ths.length c45, .int .i64 (x.getD bkZ).la, .string (x.getD bkZ).ch, .int .i64 (x.getD bkZ).ct], .bool x.isSome]) rfl rfl (by kernel_rfl) (by kernel_rfl) (by kernel_rfl) (fun _ _ _ h => h) (Or.inl ⟨by rfl, fun V hS => by go_simp⟩) hHeld ?_
          simp only [Act.put, List.setIfInBounds_toArray, List.set_cons_zero, List.set_cons_succ]
          refine held_take (i := 7) 25 (v := .agg #[.string (x.getD bkZ).wd, .int .i64 (x.getD bkZ).tr, .slice a44 (x.getD bkZ).ths.length c45, .int .i64 (x.getD bkZ).la, .string (x.getD bkZ).ch, .int .i64 (x.getD bkZ).ct]) rfl rfl (by kernel_rfl) (by kernel_rfl) (by kernel_rfl) (fun _ _ _ h => h) (Or.inl ⟨by rfl, fun V hS => by go_simp⟩) hHeld ?_
          simp only [Act.put, List.setIfInBounds_toArray, List.set_cons_zero, List.set_cons_succ]
          refine held_take (i := 8) 26 (v := .bool x.isSome) rfl rfl (by kernel_rfl) (by kernel_rfl) (by kernel_rfl) (fun _ _ _ h => h) (Or.inl ⟨by rfl, fun V hS => by go_simp⟩) hHeld ?_
          simp only [Act.put, List.setIfInBounds_toArray, List.set_cons_zero, List.set_cons_succ]
          refine wpAnyH_ready (rs := [10]) (by kernel_rfl) (by simp) ?_
          refine AllReadyH.cons rfl (fun K hK => ?_) AllReadyH.nil
          have hGG := q39.step m49
          refine step_store_all (P := Try.prog) rfl 33 (.tmp 8) (.tmp 25) rfl #[.string (x.getD bkZ).wd, .int .i64 (x.getD bkZ).tr, .slice a44 (x.getD bkZ).ths.length c45, .int .i64 (x.getD bkZ).la, .string (x.getD bkZ).ch, .int .i64 (x.getD bkZ).ct] rfl rfl hGG rfl (by simp [Value.oneCell']) (by kernel_rfl) ?_
          have hS9 := setRow_heap _ _ _ #[.string (x.getD bkZ).wd, .int .i64 (x.getD bkZ).tr, .slice a44 (x.getD bkZ).ths.length c45, .int .i64 (x.getD bkZ).la, .string (x.getD bkZ).ch, .int .i64 (x.getD bkZ).ct] 33 (0, 0) hGG
          have hB9 : Below wr.heap.size wr _ := Go.below_setRow hHeld (show wr.heap.size ≤ _ from u0) #[.string (x.getD bkZ).wd, .int .i64 (x.getD bkZ).tr, .slice a44 (x.getD bkZ).ths.length c45, .int .i64 (x.getD bkZ).la, .string (x.getD bkZ).ch, .int .i64 (x.getD bkZ).ct]
          have hR9 := (q46.below m50).setRowN (g := _) (cs := #[.string (x.getD bkZ).wd, .int .i64 (x.getD bkZ).tr, .slice a44 (x.getD bkZ).ths.length c45, .int .i64 (x.getD bkZ).la, .string (x.getD bkZ).ch, .int .i64 (x.getD bkZ).ct]) (T := 33) hGG (by decide)
          refine hK.out _ _ hB9 (fun hHeld => ?_)
          clear hK K
          refine held_take (i := 11) 9 (v := .bool x.isSome) rfl rfl (by kernel_rfl) (by kernel_rfl) (by kernel_rfl) (fun _ _ _ h => h) (Or.inl ⟨by rfl, fun V hS => by go_simp⟩) hHeld ?_
          simp only [Act.put, List.setIfInBounds_toArray]
          refine wpAnyH_done (by kernel_rfl) ?_ _
          go_wp2_with fail
          go_meet
          case rel =>
            exact ⟨a44, c45, _, rfl, rfl, hS9, hR9.low (base' := bs21) (by rw [hbs21]; exact u51), (unhide hG).step hHeld, (unhide hZ).step hHeld, (unhide hO).below hHeld, (unhide hb).trans (hHeld.mono (unhide hb).size), (by rw [hbs21]; exact u0), hHeld.size⟩
      case rest =>
      obtain ⟨a22, c23, g24, rfl, rfl, k57, o58, k53, k54, o55, T56, l59, z60⟩ := hcut
      replace k57 := hide k57
      replace k53 := hide k53
      replace k54 := hide k54
      replace o58 := hide o58
      replace o55 := hide o55
      replace T56 := hide T56
      replace hbs21 := hide hbs21
      clear hG hZ hO hb
      have hlow : base ≤ bs21 := by rw [unhide hbs21]; exact hlV
      have hlV2 : base ≤ wc.heap.size := Nat.le_trans hlV z60
      have hO2 := (unhide o58).low hlow
      have hZ2 := k54; have hG2 := k53; have hY2 := k57
      have hb2 := unhide T56
      clear k54 k53 k57 o58 o55 T56 CE2
      cases x with
      | none =>
        have E : entAll b l = none := entAll_stop (unhide ho).1 (unhide HR) (unhide hx).symm
        clear hO2 hY2 hG2
        replace hb2 := hide hb2
        go_wp2_with (first | (refine wpList_store_row (P := Try.prog) rfl 33 (.tmp 4) (.tmp 29) rfl (w.heap.size + 1) #[.string ⟨#[]⟩, .int .i64 0, .slice none 0 0, .int .i64 0, .string ⟨#[]⟩, .int .i64 0] rfl rfl 33 _ (unhide hZ2) rfl rfl (bkc_one _ _ _ _ _ _ _ _) ?_) | fail)
        have hZ9 := setRow_heap _ (w.heap.size + 1) _ #[.string ⟨#[]⟩, .int .i64 0, .slice none 0 0, .int .i64 0, .string ⟨#[]⟩, .int .i64 0] 33 (0, 0) (unhide hZ2)
        have T9 := Go.below_setRow (unhide hb2) (show w.heap.size ≤ w.heap.size + 1 by omega) #[.string ⟨#[]⟩, .int .i64 0, .slice none 0 0, .int .i64 0, .string ⟨#[]⟩, .int .i64 0]
        exact bodyPost_ret (results_cb_tmp (by exact Try.results15) _ _ (w.heap.size + 1) 33 #[.string ⟨#[]⟩, .int .i64 0, .slice none 0 0, .int .i64 0, .string ⟨#[]⟩, .int .i64 0] _ rfl hZ9 Try.underlying33 rfl) rfl (by rw [E]; exact ⟨⟨none, 0, rfl, OwnN.nil _ _ _⟩, T9⟩)
      | some o2 =>
        have ho2 := hide (show entAll b (l.take (k + 1)) = some o2 ∧ BkSm o2 from ⟨by rw [entAll_snoc (unhide ho).1 (unhide HR)]; exact (unhide hx).symm, bkSm_ok (entB_ok (unhide hx).symm).1⟩)
        have hY3 := hide (show CB wc g24 33 #[.string o2.wd, .int .i64 o2.tr, .slice a22 o2.ths.length c23, .int .i64 o2.la, .string o2.ch, .int .i64 o2.ct] from unhide hY2)
        have hO3 : OwnN thY wc base 37 (.slice a22 o2.ths.length c23) o2.ths := hO2
        have hG9 := hide (setRow_heap _ g _ #[.string o2.wd, .int .i64 o2.tr, .slice a22 o2.ths.length c23, .int .i64 o2.la, .string o2.ch, .int .i64 o2.ct] 33 (0, 0) (unhide hG2))
        have hO9 := hide (hO3.setRowN (cs := #[.string o2.wd, .int .i64 o2.tr, .slice a22 o2.ths.length c23, .int .i64 o2.la, .string o2.ch, .int .i64 o2.ct]) (unhide hG2) (by decide))
        have hZ9 := hide (show CB (wc.setRow g #[.string o2.wd, .int .i64 o2.tr, .slice a22 o2.ths.length c23, .int .i64 o2.la, .string o2.ch, .int .i64 o2.ct]) (w.heap.size + 1) 33 #[.string ⟨#[]⟩, .int .i64 0, .slice none 0 0, .int .i64 0, .string ⟨#[]⟩, .int .i64 0] from (setRow_other _ _ _ _ (by omega)).trans (unhide hZ2))
        have hB9 := hide (Go.below_setRow hb2 (show w.heap.size ≤ g by omega) #[.string o2.wd, .int .i64 o2.tr, .slice a22 o2.ths.length c23, .int .i64 o2.la, .string o2.ch, .int .i64 o2.ct])
        have hS9 : (wc.setRow g #[.string o2.wd, .int .i64 o2.tr, .slice a22 o2.ths.length c23, .int .i64 o2.la, .string o2.ch, .int .i64 o2.ct]).heap.size = wc.heap.size := Go.setRow_size _ _ _
        clear hY2 hO2 hO3 hb2 hZ2
        go_wp2_with (first
          | (refine wpList_load_row (P := Try.prog) rfl 33 (.tmp 8) rfl g24 rfl 33 #[.string o2.wd, .int .i64 o2.tr, .slice a22 o2.ths.length c23, .int .i64 o2.la, .string o2.ch, .int .i64 o2.ct] (0, 0) _ (unhide hY3) Try.underlying33 rfl rfl ?_)
          | (refine wpList_store_row (P := Try.prog) rfl 33 (.tmp 6) (.tmp 30) rfl g #[.string o2.wd, .int .i64 o2.tr, .slice a22 o2.ths.length c23, .int .i64 o2.la, .string o2.ch, .int .i64 o2.ct] rfl rfl 33 _ (unhide hG2) rfl rfl (bkc_one _ _ _ _ _ _ _ _) ?_)
          | fail)
        go_roundw
        case rel => exact ⟨k + 1, o2, by omega, by go_num, ho2, hide ⟨a22, c23, unhide hG9, unhide hO9⟩, hZ9, unhide hB9, by rw [hS9]; exact hlV2⟩
        case measure => simp [intOf]; omega
    · have e1 : k = n := by omega
      have e2 : l.take k = l := List.take_of_length_le (by rw [unhide hnn]; omega)
      have E : entAll b l = some o := by rw [← e2]; exact (unhide ho).1
      obtain ⟨a5, c5, hG, hO⟩ := unhide hA
      have hG2 := hide hG; have hO2 := hide hO; replace hb := hide hb
      replace e1 := hide e1; replace e2 := hide e2; replace E := hide E
      clear hG hO hA
      go_wp2_with (first
        | (refine wpList_load_row (P := Try.prog) rfl 33 (.tmp 6) rfl g rfl 33 (bkc o (.slice a5 o.ths.length c5)) (0, 0) _ (unhide hG2) Try.underlying33 rfl rfl ?_)
        | (refine wpList_store_row (P := Try.prog) rfl 33 (.tmp 4) (.tmp 31) rfl (w.heap.size + 1) (bkc o (.slice a5 o.ths.length c5)) rfl rfl 33 _ (unhide hZ) rfl rfl (bkc_all _ _ _ _) ?_)
        | fail)
      have hZ9 := setRow_heap _ (w.heap.size + 1) _ (bkc o (.slice a5 o.ths.length c5)) 33 (0, 0) (unhide hZ)
      have T9 := Go.below_setRow (unhide hb) (show w.heap.size ≤ w.heap.size + 1 by omega) (bkc o (.slice a5 o.ths.length c5))
      have ho9 := (unhide hO2).setRow (g := w.heap.size + 1) hlb (bkc o (.slice a5 o.ths.length c5))
      exact bodyPost_ret (results_cb_tmp (by exact Try.results15) _ _ (w.heap.size + 1) 33 (bkc o (.slice a5 o.ths.length c5)) _ rfl hZ9 Try.underlying33 rfl) rfl (by rw [unhide E]; exact ⟨⟨a5, c5, rfl, ho9.low (base' := w.heap.size) (by omega)⟩, T9⟩)
end Go.Proofs.Ytkbbcjnickgfjab

