/- Merged: BkI1, BkE7, BkE8, BkE9, Shlr, Bkn. -/
import Derived.Test.YtkbbcjnickgfjabGreatMgChainOk1
import Derived.Test.YtkbbcjnickgfjabGreatMgChainOk2
import Derived.Test.YtkbbcjnickgfjabGreatMgChainOk3
import Derived.Test.YtkbbcjnickgfjabGreatMgChainOk4
import Derived.Test.YtkbbcjnickgfjabGreatMgChainOk5
import Derived.Test.YtkbbcjnickgfjabGreatMgChainOk6
import Derived.Test.YtkbbcjnickgfjabGreatMgChainOk7
import Derived.Test.YtkbbcjnickgfjabGreatMgChainOk8
import Derived.Test.YtkbbcjnickgfjabGreatMgChainOk9
import Derived.Test.YtkbbcjnickgfjabGreatMgChainOk10
import Derived.Shelf.Strings.Builder1
import Derived.Shelf.Strings.Builder2
import Derived.Shelf.Strings.BuilderF
import Derived.Shelf.Strings.BuilderK
import Derived.Shelf.Strings.Builder2Cap
import Derived.Shelf.LaysM
import Derived.Shelf.Strconv.Clone
import Derived.Shelf.Strings.Prefix
import Derived.Shelf.Bits.Mul64
import Derived.Shelf.Strings.Repeat
import Derived.Test.YtkbbcjnickgfjabGreatProg
/- The project's books: whether one is right, over the loaded program. -/
namespace Go.Proofs.YtkbbcjnickgfjabGreat
open Go.RowKit
theorem thOk_pos {x : Th} (h : thOk x = true) : 0 < x.id := by
  have h1 := (thOk_iff x).1 h
  unfold ThOk at h1
  omega
set_option maxRecDepth 20000 in
set_option maxHeartbeats 4000000 in
theorem thingsOk_any (xs : List Th) (la : Int) (v : Value) (w : World) (hr : RdN thY w v xs) (hn9 : xs.length ≤ 2000000) :
    Calls Tryz.prog 71 #[v, .int .i64 la] w fun e w' => e = .returned (.bool (decide (xs.length ≤ 8) && thsOk la xs)) ∧ Below w.heap.size w w' := by
  obtain ⟨a, c, rfl, hc⟩ := hr.openT
  clear hr
  obtain ⟨n, hnn⟩ : ∃ n, xs.length = n := ⟨_, rfl⟩
  rw [hnn] at hn9 ⊢
  obtain ⟨ts, hts⟩ : ∃ ts, ts = thsOk la xs := ⟨_, rfl⟩
  rw [← hts]
  replace hts := hide hts
  replace hnn := hide hnn
  by_cases h8 : (8 : Int) < (n : Int)
  · have hd : decide (n ≤ 8) = false := decide_eq_false (by omega)
    rw [hd]
    go_enter Tryz.func71, Tryz.ntmps71
    go_wp2
    go_ret
    exact ⟨rfl, Below.refl _ _⟩
  · have hd : decide (n ≤ 8) = true := decide_eq_true (by omega)
    rw [hd, Bool.true_and]
    go_enter Tryz.func71, Tryz.ntmps71
    go_wp2
    go_loopw [5, 13] (fun tb ti wr => ∃ (k : Nat) (bf : Int), k ≤ n ∧ ti = .int .i64 k ∧ tb = .int .i64 bf ∧ Hid ((∀ j, j < k → TsAt la xs j) ∧ (k = 0 → bf = 0) ∧ (∀ i p, k = i + 1 → xs[i]? = some p → bf = p.id)) ∧ Below w.heap.size w wr) (fun _ ti _ => n - (intOf ti).toNat)
    case atStart => exact ⟨0, 0, Nat.zero_le _, rfl, rfl, ⟨fun j hj => by omega, fun _ => rfl, fun i p hi _ => by omega⟩, Below.refl _ _⟩
    case round =>
      obtain ⟨k, bf, hk, rfl, rfl, hok, hb⟩ := hrel
      have hss := hb.size
      by_cases hlt : k < n
      · have hk' : k < xs.length := by rw [unhide hnn]; exact hlt
        obtain ⟨f, hf⟩ : ∃ f, xs[k]? = some f := ⟨xs[k], List.getElem?_eq_getElem hk'⟩
        obtain ⟨g, o, rfl, hg, hat⟩ := hc k f hf
        have hA := hat.below hb hg
        obtain ⟨d0, d1, d2, d3, d4, d5, d6, d7⟩ := AtN.th hA
        have hlk : (k : Int) < (n : Int) := by omega
        have hi0 : (0 : Int) ≤ (k : Int) := by omega
        have C := hide (fun W => implThingOk_any f W)
        obtain ⟨of, hof⟩ : ∃ of, of = thOk f := ⟨_, rfl⟩
        rw [← hof] at C
        replace hof := hide hof
        replace hf := hide hf
        have GD : of = true → bf < f.id → f.id ≤ la → ((∀ j, j < k + 1 → TsAt la xs j) ∧ (k + 1 = 0 → f.id = 0) ∧ (∀ i p, k + 1 = i + 1 → xs[i]? = some p → f.id = p.id)) := by
          intro h1 h2 h3
          have hh := unhide hok
          refine ⟨fun j hj => ?_, fun h => by omega, fun i p hi hp => ?_⟩
          · rcases Nat.lt_or_ge j k with h | h
            · exact hh.1 j h
            · obtain rfl : j = k := by omega
              exact tsAt_mk (unhide hf) (by rw [← unhide hof]; exact h1) h3 (fun i p hi hp => by rw [← hh.2.2 i p hi hp]; exact h2)
          · obtain rfl : i = k := by omega
            have := unhide hf
            rw [this] at hp
            rw [Option.some.inj hp]
        have BD : (of = false ∨ f.id ≤ bf ∨ la < f.id) → ts = false := by
          intro h
          rw [unhide hts]
          refine thsOk_no (j := k) (fun hT => ?_)
          have hh := unhide hok
          obtain ⟨q1, q2, q3⟩ := hT _ (unhide hf)
          rcases h with h | h | h
          · rw [unhide hof, q1] at h; cases h
          · cases k with
            | zero => have := hh.2.1 rfl; have := thOk_pos q1; omega
            | succ i =>
              have hi : i < xs.length := by omega
              have hp := List.getElem?_eq_getElem hi
              have e1 := hh.2.2 i _ rfl hp
              have e2 := q3 i _ rfl hp
              omega
          · omega
        replace GD := hide GD; replace BD := hide BD
        obtain ⟨id, kind, hid, fix, sgn, wrp, val, nxt⟩ := f
        dsimp only at d0 d1 d2 d3 d4 d5 d6 d7
        clear hc hat hA hok
        go_wp2_with fail
        obtain ⟨W, hW, hX, hB, hs1⟩ := one_cb wr #[.int .i64 id, .int .i64 kind, .bool hid, .bool fix, .bool sgn, .bool wrp, .string val, .int .i64 nxt] 48
        first | rw [hW] | skip
        clear hW d0 d1 d2 d3 d4 d5 d6 d7
        refine (unhide C _).mono ?_
        rintro e w1 ⟨rfl, hb1⟩
        have x0 := (hX.step hb1).cell 0 (v := .int .i64 id) rfl
        have T1 := hb.trans ((hB.trans (hb1.mono hB.size)).mono hss)
        clear hX hB hb1 C hb
        cases of with
        | false =>
          have E := unhide BD (.inl rfl)
          subst E
          go_wp2
          go_ret
          exact ⟨rfl, T1⟩
        | true =>
          by_cases c1 : id ≤ bf
          · have E := unhide BD (.inr (.inl c1))
            subst E
            go_wp2
            go_ret
            exact ⟨rfl, T1⟩
          · by_cases c2 : la < id
            · have E := unhide BD (.inr (.inr c2))
              subst E
              go_wp2
              go_ret
              exact ⟨rfl, T1⟩
            · have E := hide (unhide GD rfl (by omega) (by omega))
              go_wp2
              go_roundw
              case rel => exact ⟨k + 1, id, by omega, by go_num, rfl, unhide E, T1⟩
              case measure => simp [intOf]; omega
      · have e1 : k = n := by omega
        have HT := hide (thsOk_all (la := la) (xs := xs) (fun j hj => (unhide hok).1 j (by have := unhide hnn; omega)))
        clear hok hc
        go_wp2
        go_ret
        exact ⟨retB (by rw [unhide hts]; exact unhide HT), hb⟩
set_option maxRecDepth 20000 in
set_option maxHeartbeats 4000000 in
theorem implBookOk_any (b : Bk) (v : Value) (w : World) (hr : RdBk w v b) (hn9 : b.ths.length ≤ 2000000) (hs1 : b.wd.size ≤ 100000000) (hs2 : b.ch.size ≤ 100000000) :
    Calls Tryz.prog 44 #[v] w fun e w' => e = .returned (.bool (bkOk b)) ∧ Below w.heap.size w w' := by
  rw [bkOk_is]
  obtain ⟨wd, tr, ths, la, ch, ct⟩ := b
  obtain ⟨a, n, c, rfl, hn, hu⟩ := hr.open
  dsimp only at hn hu hn9 hs1 hs2 ⊢
  subst hn
  have CT := hide (fun W (h : RdN thY W (.slice a ths.length c) ths) => thingsOk_any ths la (.slice a ths.length c) W h hn9)
  obtain ⟨ts, hts⟩ : ∃ ts, ts = thsOk la ths := ⟨_, rfl⟩
  rw [← hts] at CT ⊢
  obtain ⟨l8, hl8⟩ : ∃ z, z = decide (ths.length ≤ 8) := ⟨_, rfl⟩
  rw [← hl8] at CT
  obtain ⟨hd, hhd⟩ : ∃ hd, hd = decide (BkHead ⟨wd, tr, ths, la, ch, ct⟩) := ⟨_, rfl⟩
  have HD : (hd && ts) = true ↔ (wd.size = 32 ∧ ch.size = 32 ∧ (0 ≤ tr ∧ tr ≤ 3) ∧ (l8 && ts) = true ∧ 0 ≤ la ∧ la ≤ 1000 ∧ 0 ≤ ct ∧ ct ≤ 10000) := by
    rw [Bool.and_eq_true, Bool.and_eq_true, hhd, hl8, decide_eq_true_iff, decide_eq_true_iff]
    show BkHead ⟨wd, tr, ths, la, ch, ct⟩ ∧ _ ↔ _
    unfold BkHead
    constructor
    · rintro ⟨⟨h1, h2, h3, h4, h5, h6, h7, h8, h9⟩, h10⟩; exact ⟨h1, h2, ⟨h3, h4⟩, ⟨h5, h10⟩, h6, h7, h8, h9⟩
    · rintro ⟨h1, h2, ⟨h3, h4⟩, ⟨h5, h10⟩, h6, h7, h8, h9⟩; exact ⟨⟨h1, h2, h3, h4, h5, h6, h7, h8, h9⟩, h10⟩
  rw [← hhd]
  obtain ⟨lt, hlt⟩ : ∃ z, z = (l8 && ts) := ⟨_, rfl⟩
  obtain ⟨fin, hfin⟩ : ∃ z, z = (hd && ts) := ⟨_, rfl⟩
  rw [← hlt] at CT HD
  rw [← hfin] at HD ⊢
  clear hhd hl8 hts hlt hfin
  replace HD := hide HD
  obtain ⟨W, hW, hX, hB, hs0⟩ := one_cb w #[.string wd, .int .i64 tr, .slice a ths.length c, .int .i64 la, .string ch, .int .i64 ct] 31
  have HU := hide (hu.below hB)
  have XF : ∀ W', Below W.heap.size W W' → W'.cell? ⟨w.heap.size, 3, none⟩ = some (.int .i64 la) ∧ W'.cell? ⟨w.heap.size, 5, none⟩ = some (.int .i64 ct) := fun W' h => ⟨(hX.step h).cell 3 rfl, (hX.step h).cell 5 rfl⟩
  have x0 := hX.cell 0 (v := .string wd) rfl
  have x1 := hX.cell 1 (v := .int .i64 tr) rfl
  have x2 := hX.cell 2 (v := .slice a ths.length c) rfl
  have x3 := hX.cell 3 (v := .int .i64 la) rfl
  have x4 := hX.cell 4 (v := .string ch) rfl
  clear hu hr hX
  replace hB := hide hB
  replace XF := hide XF
  go_enter Tryz.func44, Tryz.ntmps44
  go_upto_region 1 with fail
  first | rw [hW] | skip
  clear hW
  go_wp2_with (first
    | (go_at_call 71; refine (unhide CT _ (unhide HU)).mono ?_; rintro e w1 ⟨rfl, hb1⟩; obtain ⟨z3, z5⟩ := unhide XF w1 hb1; have T1 := hide ((unhide hB).trans (hb1.mono (unhide hB).size)))
    | go_in)
  all_goals
    go_ret
    refine ⟨retB ?_, ?_⟩
    · rw [Bool.eq_iff_iff, unhide HD]
      clear HD
      simp_all
      try omega
    · first | exact unhide T1 | exact unhide hB
end Go.Proofs.YtkbbcjnickgfjabGreat

/- The project's books: a record is entered, over the loaded program. -/
namespace Go.Proofs.YtkbbcjnickgfjabGreat
open Go.RowKit
set_option maxRecDepth 20000 in
set_option maxHeartbeats 6400000 in
theorem implEnter_any (b : Bk) (r : Rc) (v : Value) (w : World) (hr : RdBk w v b) (hn9 : b.ths.length ≤ 1048576) (hs1 : b.wd.size ≤ 4000000) (hs2 : b.ch.size ≤ 3000000) (hs3 : ∀ x ∈ b.ths, x.val.size ≤ 4000000) (hs4 : r.tx.size ≤ 100000000) :
    Calls Tryz.prog 29 #[v, .agg (rcC r)] w fun e w' => EntRes 48 w (entB b r) e w' := by
  obtain ⟨a, n, c, rfl, hn, hu⟩ := hr.open
  subst hn
  have CR := hide (fun W => implRecText_any r hs4 W)
  have CB1 : Hid (∀ W : World, RdBk W (bkv b (.slice a b.ths.length c)) b → Calls Tryz.prog 44 #[.agg #[.string b.wd, .int .i64 b.tr, .slice a b.ths.length c, .int .i64 b.la, .string b.ch, .int .i64 b.ct]] W fun e w' => e = .returned (.bool (bkOk b)) ∧ Below W.heap.size W w') := fun W h => implBookOk_any b _ W h (by omega) (by omega) (by omega)
  have CY := hide (fun W (h : RdBk W (bkv b (.slice a b.ths.length c)) b) => bkCopied_any b _ W h hn9 hs1 (by omega) hs3)
  have CT : Hid (bkOk b = true → rcOk r = true → ¬ b.ct = 10000 → ∀ (g base : Nat) W, BkAt W g base 31 48 b → base ≤ g → Calls Tryz.prog 45 #[.pointer (some ⟨g, 0, none⟩), .agg (rcC r)] W fun e w' => TakR b r g base e w' ∧ Below base W w') :=
    fun h1 h2 h3 g base W hA hbg => bkTake_any b r g base W hA hbg h1 h2 h3 (show (digB (b.ch ++ rcT r)).size = 32 from V8.text_size _)
  have hsz : (b.ch ++ rcT r).size ≤ 4000000 := by have := rcT_le9 r; rw [ByteArray.size_append]; omega
  have CG : Hid (∀ W, Calls Tryz.prog 30 #[.string (b.ch ++ rcT r)] W fun e w' => e = .returned (.string (digB (b.ch ++ rcT r))) ∧ Below W.heap.size W w') := fun W => implDigest_any _ hsz W
  have HADD := hide (show ∀ W : World, (Op.stringOp .add b.ch (rcT r)).run Tryz.prog W = .ok (.string (b.ch ++ rcT r)) W from fun W => run_string_add_sum W _ _ (by have := rcT_le9 r; omega))
  have hro : rcC r = #[.int .i64 r.kd, .string r.tx, .int .i64 r.nm, .int .i64 r.th.id, .int .i64 r.th.kind, .bool r.th.hid, .bool r.th.fix, .bool r.th.sgn, .bool r.th.wrp, .string r.th.val, .int .i64 r.th.nxt] := rfl
  obtain ⟨ok, hok⟩ : ∃ z, z = rcOk r := ⟨_, rfl⟩
  obtain ⟨t, ht⟩ : ∃ z, z = rcT r := ⟨_, rfl⟩
  obtain ⟨bo, hbo⟩ : ∃ z, z = bkOk b := ⟨_, rfl⟩
  rw [← hok, ← ht] at CR
  rw [← hbo] at CB1
  rw [← ht] at CG HADD
  replace hok := hide hok; replace hbo := hide hbo
  obtain ⟨W, hW, hX, hY, hZ, hB, hs0⟩ := three_cb w (bkc b (.slice a b.ths.length c)) (rcC r) #[.string ⟨#[]⟩, .int .i64 0, .slice none 0 0, .int .i64 0, .string ⟨#[]⟩, .int .i64 0] 31 50 31
  have K := hide (show RdBk W (bkv b (.slice a b.ths.length c)) b from hr.below hB)
  rw [hro] at hW hY CT ⊢
  clear hro hr hu hsz
  have hW2 := hW
  simp only [bkc] at hW2
  have HB := hide hB
  replace hX := hide hX; replace hY := hide hY; replace hZ := hide hZ; replace ht := hide ht
  clear hW hB
  go_enter Tryz.func29, Tryz.ntmps29
  go_upto_region 1 with fail
  first | rw [hW2] | skip
  clear hW2
  go_upto_region 2 with (first
    | (refine wpList_load_row (P := Tryz.prog) rfl 50 (.tmp 3) rfl (w.heap.size + 1) rfl 50 #[.int .i64 r.kd, .string r.tx, .int .i64 r.nm, .int .i64 r.th.id, .int .i64 r.th.kind, .bool r.th.hid, .bool r.th.fix, .bool r.th.sgn, .bool r.th.wrp, .string r.th.val, .int .i64 r.th.nxt] (0, 0) _ (unhide hY) Tryz.underlying50 rfl rfl ?_)
    | (go_at_call 43; refine (unhide CR _).mono ?_; rintro e w1 ⟨rfl, hb1⟩))
  have K1 := hide ((unhide K).below hb1)
  have T1 := hide ((unhide HB).trans (hb1.mono (unhide HB).size))
  have hX1 := hide ((unhide hX).step hb1)
  have hY1 := hide ((unhide hY).step hb1)
  have hZ1 := hide ((unhide hZ).step hb1)
  clear hb1 K HB hX hY hZ CR hs0
  cases ok with
  | false =>
    have E := entB_two b r (unhide hok).symm
    clear CT CY CB1 CG HADD
    go_wp2_with (refine wpList_store_row (P := Tryz.prog) rfl 31 (.tmp 4) (.tmp 26) rfl (w.heap.size + 1 + 1) #[.string ⟨#[]⟩, .int .i64 0, .slice none 0 0, .int .i64 0, .string ⟨#[]⟩, .int .i64 0] rfl rfl 31 _ (unhide hZ1) rfl rfl (bkc_one _ _ _ _ _ _ _ _) ?_)
    have hZ9 := setRow_heap _ (w.heap.size + 1 + 1) _ #[.string ⟨#[]⟩, .int .i64 0, .slice none 0 0, .int .i64 0, .string ⟨#[]⟩, .int .i64 0] 31 (0, 0) (unhide hZ1)
    have T9 := Go.below_setRow (unhide T1) (show w.heap.size ≤ w.heap.size + 1 + 1 by omega) #[.string ⟨#[]⟩, .int .i64 0, .slice none 0 0, .int .i64 0, .string ⟨#[]⟩, .int .i64 0]
    exact bodyPost_ret (results_cb_tmp (by exact Tryz.results29) _ _ (w.heap.size + 1 + 1) 31 #[.string ⟨#[]⟩, .int .i64 0, .slice none 0 0, .int .i64 0, .string ⟨#[]⟩, .int .i64 0] _ rfl hZ9 Tryz.underlying31 rfl) rfl (by rw [E]; exact ⟨⟨none, 0, rfl, OwnN.nil _ _ _⟩, T9⟩)
  | true =>
    cases bo with
    | false =>
      have E := entB_one b r (unhide hbo).symm
      clear CT CY CG HADD
      have x0 := (unhide hX1).cell 0 (v := .string b.wd) rfl
      have x1 := (unhide hX1).cell 1 (v := .int .i64 b.tr) rfl
      have x2 := (unhide hX1).cell 2 (v := .slice a b.ths.length c) rfl
      have x3 := (unhide hX1).cell 3 (v := .int .i64 b.la) rfl
      have x4 := (unhide hX1).cell 4 (v := .string b.ch) rfl
      have x5 := (unhide hX1).cell 5 (v := .int .i64 b.ct) rfl
      go_upto_region 3 with fail
      refine (unhide CB1 _ (unhide K1)).mono ?_
      rintro e w2 ⟨rfl, hb2⟩
      have hZ2 := hide ((unhide hZ1).step hb2)
      have T2 := hide ((unhide T1).trans (hb2.mono (unhide T1).size))
      clear x0 x1 x2 x3 x4 x5 hb2 hX1 hY1 hZ1 T1 K1 CB1
      go_upto_region 3 with fail
      go_wp2_with (refine wpList_store_row (P := Tryz.prog) rfl 31 (.tmp 4) (.tmp 26) rfl (w.heap.size + 1 + 1) #[.string ⟨#[]⟩, .int .i64 0, .slice none 0 0, .int .i64 0, .string ⟨#[]⟩, .int .i64 0] rfl rfl 31 _ (unhide hZ2) rfl rfl (bkc_one _ _ _ _ _ _ _ _) ?_)
      have hZ9 := setRow_heap _ (w.heap.size + 1 + 1) _ #[.string ⟨#[]⟩, .int .i64 0, .slice none 0 0, .int .i64 0, .string ⟨#[]⟩, .int .i64 0] 31 (0, 0) (unhide hZ2)
      have T9 := Go.below_setRow (unhide T2) (show w.heap.size ≤ w.heap.size + 1 + 1 by omega) #[.string ⟨#[]⟩, .int .i64 0, .slice none 0 0, .int .i64 0, .string ⟨#[]⟩, .int .i64 0]
      exact bodyPost_ret (results_cb_tmp (by exact Tryz.results29) _ _ (w.heap.size + 1 + 1) 31 #[.string ⟨#[]⟩, .int .i64 0, .slice none 0 0, .int .i64 0, .string ⟨#[]⟩, .int .i64 0] _ rfl hZ9 Tryz.underlying31 rfl) rfl (by rw [E]; exact ⟨⟨none, 0, rfl, OwnN.nil _ _ _⟩, T9⟩)
    | true =>
      by_cases h3 : b.ct = 10000
      · have E := entB_three b r h3
        clear CT CY CG HADD
        have x0 := (unhide hX1).cell 0 (v := .string b.wd) rfl
        have x1 := (unhide hX1).cell 1 (v := .int .i64 b.tr) rfl
        have x2 := (unhide hX1).cell 2 (v := .slice a b.ths.length c) rfl
        have x3 := (unhide hX1).cell 3 (v := .int .i64 b.la) rfl
        have x4 := (unhide hX1).cell 4 (v := .string b.ch) rfl
        have x5 := (unhide hX1).cell 5 (v := .int .i64 b.ct) rfl
        have q5 := hide (show ∀ w2 : World, Below w1.heap.size w1 w2 → w2.cell? ⟨w.heap.size, 5, none⟩ = some (.int .i64 b.ct) from fun w2 h => ((unhide hX1).step h).cell 5 rfl)
        have d3 : (b.ct == 10000) = true := by rw [h3]; rfl
        replace h3 := hide h3
        go_upto_region 3 with fail
        refine (unhide CB1 _ (unhide K1)).mono ?_
        rintro e w2 ⟨rfl, hb2⟩
        have hZ2 := hide ((unhide hZ1).step hb2)
        have T2 := hide ((unhide T1).trans (hb2.mono (unhide T1).size))
        clear x0 x1 x2 x3 x4 x5
        have x5 := unhide q5 w2 hb2
        clear hb2 hX1 hY1 hZ1 T1 K1 CB1 q5
        go_upto_region 3 with fail
        go_wp2_with (refine wpList_store_row (P := Tryz.prog) rfl 31 (.tmp 4) (.tmp 26) rfl (w.heap.size + 1 + 1) #[.string ⟨#[]⟩, .int .i64 0, .slice none 0 0, .int .i64 0, .string ⟨#[]⟩, .int .i64 0] rfl rfl 31 _ (unhide hZ2) rfl rfl (bkc_one _ _ _ _ _ _ _ _) ?_)
        have hZ9 := setRow_heap _ (w.heap.size + 1 + 1) _ #[.string ⟨#[]⟩, .int .i64 0, .slice none 0 0, .int .i64 0, .string ⟨#[]⟩, .int .i64 0] 31 (0, 0) (unhide hZ2)
        have T9 := Go.below_setRow (unhide T2) (show w.heap.size ≤ w.heap.size + 1 + 1 by omega) #[.string ⟨#[]⟩, .int .i64 0, .slice none 0 0, .int .i64 0, .string ⟨#[]⟩, .int .i64 0]
        exact bodyPost_ret (results_cb_tmp (by exact Tryz.results29) _ _ (w.heap.size + 1 + 1) 31 #[.string ⟨#[]⟩, .int .i64 0, .slice none 0 0, .int .i64 0, .string ⟨#[]⟩, .int .i64 0] _ rfl hZ9 Tryz.underlying31 rfl) rfl (by rw [E]; exact ⟨⟨none, 0, rfl, OwnN.nil _ _ _⟩, T9⟩)
      · have CT2 := hide (unhide CT (unhide hbo).symm (unhide hok).symm h3)
        clear CT
        have x0 := (unhide hX1).cell 0 (v := .string b.wd) rfl
        have x1 := (unhide hX1).cell 1 (v := .int .i64 b.tr) rfl
        have x2 := (unhide hX1).cell 2 (v := .slice a b.ths.length c) rfl
        have x3 := (unhide hX1).cell 3 (v := .int .i64 b.la) rfl
        have x4 := (unhide hX1).cell 4 (v := .string b.ch) rfl
        have x5 := (unhide hX1).cell 5 (v := .int .i64 b.ct) rfl
        have q5 := hide (show ∀ w2 : World, Below w1.heap.size w1 w2 → w2.cell? ⟨w.heap.size, 5, none⟩ = some (.int .i64 b.ct) from fun w2 h => ((unhide hX1).step h).cell 5 rfl)
        go_upto_region 4 with fail
        refine (unhide CB1 _ (unhide K1)).mono ?_
        rintro e w2 ⟨rfl, hb2⟩
        have hX2 := hide ((unhide hX1).step hb2)
        have hY2 := hide ((unhide hY1).step hb2)
        have hZ2 := hide ((unhide hZ1).step hb2)
        have K2 := hide ((unhide K1).below hb2)
        have T2 := hide ((unhide T1).trans (hb2.mono (unhide T1).size))
        clear x0 x1 x2 x3 x4 x5
        have x5 := unhide q5 w2 hb2
        clear hb2 hX1 hY1 hZ1 T1 K1 CB1 q5
        go_upto_region 4 with fail
        have HC := hide (show 0 ≤ b.ct ∧ b.ct ≤ 10000 by have h := bkOk_head (unhide hbo).symm; exact ⟨h.2.2.2.2.2.2.2.1, h.2.2.2.2.2.2.2.2⟩)
        clear x5
        go_upto_region 5 with (first
          | (refine wpList_load_row (P := Tryz.prog) rfl 31 (.tmp 2) rfl w.heap.size rfl 31 (bkc b (.slice a b.ths.length c)) (0, 0) _ (unhide hX2) Tryz.underlying31 rfl rfl ?_)
          | (go_at_call 28; refine (unhide CY _ (unhide K2)).mono ?_; rintro e w3 ⟨⟨a3, c3, rfl, ho3⟩, hb3⟩; have HG := hide (CB.new w3 #[.string ⟨#[]⟩, .int .i64 0, .slice none 0 0, .int .i64 0, .string ⟨#[]⟩, .int .i64 0] 31))
          | (refine wpList_store_row (P := Tryz.prog) rfl 31 (.tmp 8) (.tmp 28) rfl w3.heap.size (bkc b (.slice a3 b.ths.length c3)) rfl rfl 31 _ (unhide HG) rfl rfl (bkc_all _ _ _ _) ?_))
        have hG4 := setRow_heap _ w3.heap.size _ (bkc b (.slice a3 b.ths.length c3)) 31 (0, 0) (unhide HG)
        have hbV := Go.below_setRow ((Below.refl w3.heap.size w3).alloc (Nat.le_refl _) (.cells #[.string ⟨#[]⟩, .int .i64 0, .slice none 0 0, .int .i64 0, .string ⟨#[]⟩, .int .i64 0] 31)) (Nat.le_refl _) (bkc b (.slice a3 b.ths.length c3))
        have hb23 := hb3.trans (hbV.mono hb3.size)
        obtain ⟨g, hg⟩ : ∃ z, z = w3.heap.size := ⟨_, rfl⟩
        obtain ⟨base, hbase⟩ : ∃ z, z = w2.heap.size := ⟨_, rfl⟩
        have hbg : base ≤ g := by have := hb3.size; omega
        have hlb : w.heap.size + 1 + 1 < base := by have := (unhide hZ2).lt; omega
        refine wp_gen (fun V => BkAt V w3.heap.size w2.heap.size 31 48 b ∧ CB V w.heap.size 31 (bkc b (.slice a b.ths.length c)) ∧ CB V (w.heap.size + 1) 50 #[.int .i64 r.kd, .string r.tx, .int .i64 r.nm, .int .i64 r.th.id, .int .i64 r.th.kind, .bool r.th.hid, .bool r.th.fix, .bool r.th.sgn, .bool r.th.wrp, .string r.th.val, .int .i64 r.th.nxt] ∧ CB V (w.heap.size + 1 + 1) 31 #[.string ⟨#[]⟩, .int .i64 0, .slice none 0 0, .int .i64 0, .string ⟨#[]⟩, .int .i64 0] ∧ Below w.heap.size w V ∧ base ≤ V.heap.size) ⟨⟨a3, c3, hG4, ho3.below hbV⟩, (unhide hX2).step hb23, (unhide hY2).step hb23, (unhide hZ2).step hb23, (unhide T2).trans (hb23.mono (unhide T2).size), by have := hb23.size; omega⟩ ?_
        clear hG4 hbV hb23 ho3 hb3 HG hX2 hY2 hZ2 T2 K2 CY
        rw [← hg, ← hbase]
        replace hg := hide hg; replace hbase := hide hbase
        rintro V ⟨hA, hX, hY, hZ, hT, hlV⟩
        have CT3 := hide (unhide CT2 g base V hA hbg)
        clear CT2 hA
        replace hX := hide hX; replace hY := hide hY; replace hZ := hide hZ
        go_upto_region 5 with fail
        go_wp2_with (first
          | (refine wpList_load_row (P := Tryz.prog) rfl 50 (.tmp 3) rfl (w.heap.size + 1) rfl 50 #[.int .i64 r.kd, .string r.tx, .int .i64 r.nm, .int .i64 r.th.id, .int .i64 r.th.kind, .bool r.th.hid, .bool r.th.fix, .bool r.th.sgn, .bool r.th.wrp, .string r.th.val, .int .i64 r.th.nxt] (0, 0) _ (unhide hY) Tryz.underlying50 rfl rfl ?_)
          | fail)
        refine (unhide CT3).mono ?_
        rintro e w5 ⟨⟨rb, rfl, hres⟩, hb5⟩
        have hX5 := hide ((unhide hX).below hb5 (by omega))
        have hZ5 := hide ((unhide hZ).below hb5 hlb)
        have T5 := hide (hT.trans (hb5.mono (by omega)))
        clear CT3 hX hY hZ hT
        rcases hres with ⟨rfl, o, E, hoc, hA⟩ | ⟨rfl, E⟩
        · obtain ⟨a5, c5, hG5, ho5⟩ := hA
          have hgl := hG5.lt
          have x4 := (unhide hX5).cell 4 (v := .string b.ch) rfl
          have q5 := hide (show ∀ V2 : World, Below w5.heap.size w5 V2 → CB V2 g 31 (bkc o (.slice a5 o.ths.length c5)) ∧ OwnN thY V2 base 48 (.slice a5 o.ths.length c5) o.ths from fun V2 h => ⟨hG5.step h, ho5.below h⟩)
          have hadd := unhide HADD
          replace E := hide E
          clear hG5 ho5 hb5
          go_upto_region 7 with fail
          go_wp2_with fail
          refine (unhide CG _).mono ?_
          rintro e w6 ⟨rfl, hb6⟩
          obtain ⟨hG6, ho6⟩ := unhide q5 _ hb6
          have hZ6 := (unhide hZ5).step hb6
          have T6 := (unhide T5).trans (hb6.mono (unhide T5).size)
          clear hadd x4 q5 hX5 hZ5 T5 CG HADD hb6
          obtain ⟨dg, hdg⟩ : ∃ z, z = digB (b.ch ++ t) := ⟨_, rfl⟩
          rw [← hdg]
          replace hdg := hide hdg
          have q4 := hG6.cell 4 (v := .string o.ch) rfl
          have z4 := hG6.frozen 4
          have hG7 := hG6.set 4 (.string dg)
          have ho7 := ho6.setO g 4 (.string dg) (ho6.off hG6 (by decide))
          have hZ7 := hZ6.set_other (h := g) (k := 4) (by omega) (.string dg)
          have T7 := T6.setCell (p := ⟨g, 4, none⟩) (by show w.heap.size ≤ g; omega) (.string dg)
          have k5 := hG7.cell 5 (v := .int .i64 o.ct) rfl
          have z5 := hG7.frozen 5
          obtain ⟨n1, hn1⟩ : ∃ z, z = b.ct + 1 := ⟨_, rfl⟩
          have un : IntKind.i64.wrap (o.ct + 1) = n1 := by rw [hoc, IntKind.wrap_i64]; have := unhide HC; omega
          have hG8 := hide (cb_eq (hG7.set 5 (.int .i64 n1)) (show (#[.string o.wd, .int .i64 o.tr, .slice a5 o.ths.length c5, .int .i64 o.la, .string dg, .int .i64 n1] : Array Value) = _ from rfl))
          have ho8 := hide (ho7.setO g 5 (.int .i64 n1) (ho7.off hG7 (by decide)))
          have hZ8 := hide (hZ7.set_other (h := g) (k := 5) (by omega) (.int .i64 n1))
          have T8 := hide (T7.setCell (p := ⟨g, 5, none⟩) (by show w.heap.size ≤ g; omega) (.int .i64 n1))
          replace hn1 := hide hn1; replace hoc := hide hoc
          clear hG6 ho6 hZ6 T6 hG7 ho7 hZ7 T7
          go_upto_region 9 with fail
          refine wp_gen (fun V => CB V g 31 #[.string o.wd, .int .i64 o.tr, .slice a5 o.ths.length c5, .int .i64 o.la, .string dg, .int .i64 n1] ∧ OwnN thY V base 48 (.slice a5 o.ths.length c5) o.ths ∧ CB V (w.heap.size + 1 + 1) 31 #[.string ⟨#[]⟩, .int .i64 0, .slice none 0 0, .int .i64 0, .string ⟨#[]⟩, .int .i64 0] ∧ Below w.heap.size w V) ⟨unhide hG8, unhide ho8, unhide hZ8, unhide T8⟩ ?_
          clear hG8 ho8 hZ8 T8 q4 z4 k5 z5 un
          rintro V9 ⟨hG, ho, hZ, T⟩
          replace hG := hide hG; replace hZ := hide hZ; replace ho := hide ho; replace T := hide T
          go_wp2_with (first
            | (refine wpList_load_row (P := Tryz.prog) rfl 31 (.tmp 8) rfl g rfl 31 #[.string o.wd, .int .i64 o.tr, .slice a5 o.ths.length c5, .int .i64 o.la, .string dg, .int .i64 n1] (0, 0) _ (unhide hG) Tryz.underlying31 rfl rfl ?_)
            | (refine wpList_store_row (P := Tryz.prog) rfl 31 (.tmp 4) (.tmp 43) rfl (w.heap.size + 1 + 1) #[.string o.wd, .int .i64 o.tr, .slice a5 o.ths.length c5, .int .i64 o.la, .string dg, .int .i64 n1] rfl rfl 31 _ (unhide hZ) rfl rfl (bkc_one _ _ _ _ _ _ _ _) ?_))
          have hZ9 := setRow_heap _ (w.heap.size + 1 + 1) _ #[.string o.wd, .int .i64 o.tr, .slice a5 o.ths.length c5, .int .i64 o.la, .string dg, .int .i64 n1] 31 (0, 0) (unhide hZ)
          have T9 := Go.below_setRow (unhide T) (show w.heap.size ≤ w.heap.size + 1 + 1 by omega) #[.string o.wd, .int .i64 o.tr, .slice a5 o.ths.length c5, .int .i64 o.la, .string dg, .int .i64 n1]
          have ho9 := (unhide ho).setRow (g := w.heap.size + 1 + 1) hlb #[.string o.wd, .int .i64 o.tr, .slice a5 o.ths.length c5, .int .i64 o.la, .string dg, .int .i64 n1]
          have hfin : bkOn b r o = ⟨o.wd, o.tr, o.ths, o.la, dg, n1⟩ := by unfold bkOn; rw [unhide hdg, unhide hn1, unhide ht]
          exact bodyPost_ret (results_cb_tmp (by exact Tryz.results29) _ _ (w.heap.size + 1 + 1) 31 #[.string o.wd, .int .i64 o.tr, .slice a5 o.ths.length c5, .int .i64 o.la, .string dg, .int .i64 n1] _ rfl hZ9 Tryz.underlying31 rfl) rfl (by rw [unhide E, hfin]; exact ⟨⟨a5, c5, rfl, ho9.low (base' := w.heap.size) (by omega)⟩, T9⟩)
        · clear CG HADD
          go_upto_region 6 with fail
          go_wp2_with (refine wpList_store_row (P := Tryz.prog) rfl 31 (.tmp 4) (.tmp 32) rfl (w.heap.size + 1 + 1) #[.string ⟨#[]⟩, .int .i64 0, .slice none 0 0, .int .i64 0, .string ⟨#[]⟩, .int .i64 0] rfl rfl 31 _ (unhide hZ5) rfl rfl (bkc_one _ _ _ _ _ _ _ _) ?_)
          have hZ9 := setRow_heap _ (w.heap.size + 1 + 1) _ #[.string ⟨#[]⟩, .int .i64 0, .slice none 0 0, .int .i64 0, .string ⟨#[]⟩, .int .i64 0] 31 (0, 0) (unhide hZ5)
          have T9 := Go.below_setRow (unhide T5) (show w.heap.size ≤ w.heap.size + 1 + 1 by omega) #[.string ⟨#[]⟩, .int .i64 0, .slice none 0 0, .int .i64 0, .string ⟨#[]⟩, .int .i64 0]
          exact bodyPost_ret (results_cb_tmp (by exact Tryz.results29) _ _ (w.heap.size + 1 + 1) 31 #[.string ⟨#[]⟩, .int .i64 0, .slice none 0 0, .int .i64 0, .string ⟨#[]⟩, .int .i64 0] _ rfl hZ9 Tryz.underlying31 rfl) rfl (by rw [E]; exact ⟨⟨none, 0, rfl, OwnN.nil _ _ _⟩, T9⟩)
end Go.Proofs.YtkbbcjnickgfjabGreat

/- Books: records entered one after another, by the given model and by the project, over the loaded program. -/
namespace Go.Proofs.YtkbbcjnickgfjabGreat
open Go.RowKit
/-- A book whose texts are small. -/
def BkSm (b : Bk) : Prop := b.ths.length ≤ 1048576 ∧ b.wd.size ≤ 2000000 ∧ b.ch.size ≤ 2000000 ∧ ∀ x ∈ b.ths, x.val.size ≤ 4000000
theorem bkSm_ok {b : Bk} (h : bkOk b = true) : BkSm b := by
  obtain ⟨a1, a2, a3, a4, a5, a6, a7, a8, a9⟩ := bkOk_head h
  refine ⟨by omega, by omega, by omega, fun y hy => ?_⟩
  have h := (thOk_iff y).1 (((thsOk_pw b.la b.ths).1 (bkOk_ths h)).1 y hy).1
  obtain ⟨_, _, _, _, _, _, _, _, q1, q2⟩ := h
  by_cases e : y.kind = 3
  · have := q1 e; omega
  · have := q2 e; omega
theorem entAll_snoc {b o : Bk} {l : List Rc} {k : Nat} {r : Rc} (h : entAll b (l.take k) = some o) (hr : l[k]? = some r) : entAll b (l.take (k + 1)) = entB o r := by
  rw [List.take_add_one, hr, entAll_app, h]
  show (entB o r).bind (fun o => some o) = _
  cases entB o r <;> rfl
theorem entAll_stop {b o : Bk} {l : List Rc} {k : Nat} {r : Rc} (h : entAll b (l.take k) = some o) (hr : l[k]? = some r) (hn : entB o r = none) : entAll b l = none := by
  have h1 : l = l.take (k + 1) ++ l.drop (k + 1) := (List.take_append_drop _ _).symm
  rw [h1, entAll_app, entAll_snoc h hr, hn]
  rfl
set_option maxRecDepth 20000 in
set_option maxHeartbeats 6400000 in
theorem implEnterAll_any (b : Bk) (l : List Rc) (v u : Value) (w : World) (hr : RdBk w v b) (hl : RdN rcY w u l) (hn : l.length ≤ 1048576) (hs : BkSm b) (ht : ∀ r ∈ l, r.tx.size ≤ 100000000) :
    Calls Tryz.prog 18 #[v, u] w fun e w' => EntRes 48 w (entAll b l) e w' := by
  obtain ⟨a, n0, c, rfl, hn0, hu⟩ := hr.open
  subst hn0
  obtain ⟨al, cl, rfl, hcl⟩ := hl.open
  obtain ⟨n, hnn⟩ : ∃ n, l.length = n := ⟨_, rfl⟩
  rw [hnn] at hn ⊢
  have CY : Hid (∀ W : World, RdN thY W (.slice a b.ths.length c) b.ths → Calls Tryz.prog 28 #[.agg (bkc b (.slice a b.ths.length c))] W fun e w' => (∃ a c, e = .returned (.agg (bkc b (.slice a b.ths.length c))) ∧ OwnN thY w' W.heap.size 48 (.slice a b.ths.length c) b.ths) ∧ Below W.heap.size W w') := fun W h => bkCopied_any b _ W ⟨_, rfl, h⟩ hs.1 (by have := hs.2.1; omega) (by have := hs.2.2.1; omega) hs.2.2.2
  have CE : Hid (∀ (o : Bk), BkSm o → ∀ (r : Rc), r ∈ l → ∀ (a : Option Addr) (c : Nat) (W : World), RdN thY W (.slice a o.ths.length c) o.ths → Calls Tryz.prog 29 #[.agg (bkc o (.slice a o.ths.length c)), .agg (rcC r)] W fun e w' => EntRes 48 W (entB o r) e w') := fun o hs r hr a c W h => implEnter_any o r (bkv o (.slice a o.ths.length c)) W ⟨_, rfl, h⟩ hs.1 (by have := hs.2.1; omega) (by have := hs.2.2.1; omega) hs.2.2.2 (ht r hr)
  obtain ⟨W, hW, hX, hZ, hB, hs0⟩ := two_cb w (bkc b (.slice a b.ths.length c)) #[.string ⟨#[]⟩, .int .i64 0, .slice none 0 0, .int .i64 0, .string ⟨#[]⟩, .int .i64 0] 31 31
  have hW2 := hW
  simp only [bkc] at hW2
  have HU := hide (hu.below hB)
  replace hX := hide hX; replace hZ := hide hZ; replace hB := hide hB; replace hs := hide hs
  clear hW hr hl hu ht
  go_enter Tryz.func18, Tryz.ntmps18
  go_upto_region 1 with fail
  first | rw [hW2] | skip
  clear hW2
  go_upto_region 2 with (first
    | (refine wpList_load_row (P := Tryz.prog) rfl 31 (.tmp 2) rfl w.heap.size rfl 31 (bkc b (.slice a b.ths.length c)) (0, 0) _ (unhide hX) Tryz.underlying31 rfl rfl ?_)
    | (go_at_call 28; refine (unhide CY _ (unhide HU)).mono ?_; rintro e w3 ⟨⟨a3, c3, rfl, ho3⟩, hb3⟩; have HG := hide (CB.new w3 #[.string ⟨#[]⟩, .int .i64 0, .slice none 0 0, .int .i64 0, .string ⟨#[]⟩, .int .i64 0] 31))
    | (refine wpList_store_row (P := Tryz.prog) rfl 31 (.tmp 6) (.tmp 12) rfl w3.heap.size (bkc b (.slice a3 b.ths.length c3)) rfl rfl 31 _ (unhide HG) rfl rfl (bkc_all _ _ _ _) ?_)
    | fail)
  have hG4 := setRow_heap _ w3.heap.size _ (bkc b (.slice a3 b.ths.length c3)) 31 (0, 0) (unhide HG)
  have hbV := Go.below_setRow ((Below.refl w3.heap.size w3).alloc (Nat.le_refl _) (.cells #[.string ⟨#[]⟩, .int .i64 0, .slice none 0 0, .int .i64 0, .string ⟨#[]⟩, .int .i64 0] 31)) (Nat.le_refl _) (bkc b (.slice a3 b.ths.length c3))
  have hb23 := hb3.trans (hbV.mono hb3.size)
  obtain ⟨g, hg⟩ : ∃ z, z = w3.heap.size := ⟨_, rfl⟩
  obtain ⟨base, hbase⟩ : ∃ z, z = W.heap.size := ⟨_, rfl⟩
  have hbg : base ≤ g := by have := hb3.size; omega
  have hlb : w.heap.size + 1 < base := by omega
  refine wp_gen (fun V => BkAt V w3.heap.size W.heap.size 31 48 b ∧ CB V (w.heap.size + 1) 31 #[.string ⟨#[]⟩, .int .i64 0, .slice none 0 0, .int .i64 0, .string ⟨#[]⟩, .int .i64 0] ∧ Below w.heap.size w V ∧ base ≤ V.heap.size) ⟨⟨a3, c3, hG4, ho3.below hbV⟩, (unhide hZ).step hb23, (unhide hB).trans (hb23.mono (unhide hB).size), by have := hb23.size; omega⟩ ?_
  clear hG4 hbV hb23 ho3 hb3 HG hX hZ hB HU CY hs0
  rw [← hg, ← hbase]
  replace hg := hide hg; replace hbase := hide hbase; replace hnn := hide hnn
  rintro V0 ⟨hA, hZ, hT, hlV⟩
  go_upto_region 3 with fail
  go_wp2
  go_loopw [15] (fun ti wr => ∃ (k : Nat) (o : Bk), k ≤ n ∧ ti = .int .i64 k ∧ Hid (entAll b (l.take k) = some o ∧ BkSm o) ∧ Hid (BkAt wr g base 31 48 o) ∧ Hid (CB wr (w.heap.size + 1) 31 #[.string ⟨#[]⟩, .int .i64 0, .slice none 0 0, .int .i64 0, .string ⟨#[]⟩, .int .i64 0]) ∧ Below w.heap.size w wr ∧ base ≤ wr.heap.size) (fun ti _ => n - (intOf ti).toNat)
  case atStart => exact ⟨0, b, Nat.zero_le _, rfl, ⟨rfl, unhide hs⟩, hA, hZ, hT, hlV⟩
  case round =>
    obtain ⟨k, o, hk, rfl, ho, hA, hZ, hb, hlV⟩ := hrel
    have hss := hb.size
    by_cases hlt : k < n
    · have hk' : k < l.length := by rw [unhide hnn]; exact hlt
      obtain ⟨r, hr⟩ : ∃ r, l[k]? = some r := ⟨l[k], List.getElem?_eq_getElem hk'⟩
      obtain ⟨gl, ol, rfl, hgl, hat⟩ := hcl k r hr
      have hatw := hide (hat.below hb hgl)
      have hlk : (k : Int) < (n : Int) := by omega
      have hi0 : (0 : Int) ≤ (k : Int) := by omega
      obtain ⟨a5, c5, hG, hO⟩ := unhide hA
      have hgg := hG.lt
      have CE2 := hide (unhide CE o (unhide ho).2 r (List.mem_of_getElem? hr))
      have HR := hide hr
      have hZ0 := hide (CB.new wr (rcC rcZ) 50)
      have hX1 := hide (setRow_heap _ wr.heap.size _ (rcC r) 50 (0, 0) (unhide hZ0))
      have hbW1 := hide (Go.below_setRow ((Below.refl wr.heap.size wr).alloc (Nat.le_refl _) (.cells (rcC rcZ) 50)) (Nat.le_refl _) (rcC r))
      clear hcl hat hr hA hZ0
      have hZ0 := hide (show CB (wr.alloc (.cells #[.int .i64 0, .string ⟨#[]⟩, .int .i64 0, .int .i64 0, .int .i64 0, .bool false, .bool false, .bool false, .bool false, .string ⟨#[]⟩, .int .i64 0] 50)) wr.heap.size 50 (rcC rcZ) from CB.new wr _ _)
      go_upto_region 5 with (first
        | (refine wpList_load_n (P := Tryz.prog) (L := rcY) rfl 50 (.tmp 17) rfl gl (ol + k * 11) rfl r (unhide hatw) _ Tryz.underlying50 rfl ?_)
        | (refine wpList_store_row (P := Tryz.prog) rfl 50 (.tmp 8) (.tmp 18) rfl wr.heap.size (rcC r) rfl rfl 50 (rcC rcZ) (unhide hZ0) rfl rfl (rc_one _) ?_)
        | fail)
      obtain ⟨gx, hgx⟩ : ∃ z, z = wr.heap.size := ⟨_, rfl⟩
      refine wp_gen (fun V => CB V g 31 (bkc o (.slice a5 o.ths.length c5)) ∧ OwnN thY V base 48 (.slice a5 o.ths.length c5) o.ths ∧ CB V wr.heap.size 50 (rcC r) ∧ CB V (w.heap.size + 1) 31 #[.string ⟨#[]⟩, .int .i64 0, .slice none 0 0, .int .i64 0, .string ⟨#[]⟩, .int .i64 0] ∧ Below w.heap.size w V ∧ base ≤ V.heap.size) ⟨hG.step (unhide hbW1), hO.below (unhide hbW1), unhide hX1, (unhide hZ).step (unhide hbW1), hb.trans ((unhide hbW1).mono hss), Nat.le_trans hlV (unhide hbW1).size⟩ ?_
      clear hG hO hX1 hbW1 hZ0 hatw hZ hA hb hlV hss
      rw [← hgx]
      replace hgx := hide hgx
      rintro V1 ⟨hG, hO, hX, hZ, hb, hlV⟩
      obtain ⟨x, hx⟩ : ∃ z, z = entB o r := ⟨_, rfl⟩
      rw [← hx] at CE2
      replace hx := hide hx
      have hgl := hG.lt
      replace hG := hide hG; replace hO := hide hO; replace hX := hide hX; replace hZ := hide hZ; replace hb := hide hb
      go_upto_region 6 with (first
        | (refine wpList_load_row (P := Tryz.prog) rfl 31 (.tmp 6) rfl g rfl 31 (bkc o (.slice a5 o.ths.length c5)) (0, 0) _ (unhide hG) Tryz.underlying31 rfl rfl ?_)
        | (refine wpList_load_row (P := Tryz.prog) rfl 50 (.tmp 8) rfl gx rfl 50 (rcC r) (0, 0) _ (unhide hX) Tryz.underlying50 rfl rfl ?_)
        | (go_at_call 29; refine (unhide CE2 _ _ _ (unhide hO).rd).mono ?_; rintro e w5 ⟨⟨a6, c6, rfl, ho6⟩, hb5⟩; have HGy := hide (CB.new w5 #[.string ⟨#[]⟩, .int .i64 0, .slice none 0 0, .int .i64 0, .string ⟨#[]⟩, .int .i64 0] 31))
        | (refine wpList_store_row (P := Tryz.prog) rfl 31 (.tmp 9) (.tmp 23) rfl w5.heap.size (bkc (x.getD bkZ) (.slice a6 (x.getD bkZ).ths.length c6)) rfl rfl 31 _ (unhide HGy) rfl rfl (bkc_all _ _ _ _) ?_)
        | fail)
      have hG6 := setRow_heap _ w5.heap.size _ (bkc (x.getD bkZ) (.slice a6 (x.getD bkZ).ths.length c6)) 31 (0, 0) (unhide HGy)
      have hbM := Go.below_setRow ((Below.refl w5.heap.size w5).alloc (Nat.le_refl _) (.cells #[.string ⟨#[]⟩, .int .i64 0, .slice none 0 0, .int .i64 0, .string ⟨#[]⟩, .int .i64 0] 31)) (Nat.le_refl _) (bkc (x.getD bkZ) (.slice a6 (x.getD bkZ).ths.length c6))
      have hbN := hb5.trans (hbM.mono hb5.size)
      obtain ⟨gy, hgy⟩ : ∃ z, z = w5.heap.size := ⟨_, rfl⟩
      have hgg2 : g < gy := by have := hb5.size; omega
      refine wp_gen (fun V => CB V g 31 (bkc o (.slice a5 o.ths.length c5)) ∧ OwnN thY V base 48 (.slice a6 (x.getD bkZ).ths.length c6) (x.getD bkZ).ths ∧ CB V w5.heap.size 31 (bkc (x.getD bkZ) (.slice a6 (x.getD bkZ).ths.length c6)) ∧ CB V (w.heap.size + 1) 31 #[.string ⟨#[]⟩, .int .i64 0, .slice none 0 0, .int .i64 0, .string ⟨#[]⟩, .int .i64 0] ∧ Below w.heap.size w V ∧ base ≤ V.heap.size) ⟨(unhide hG).step hbN, (ho6.below hbM).low hlV, hG6, (unhide hZ).step hbN, (unhide hb).trans (hbN.mono (unhide hb).size), Nat.le_trans hlV hbN.size⟩ ?_
      clear hG6 hbM hbN ho6 hb5 HGy hG hO hX hZ hb CE2
      rw [← hgy]
      replace hgy := hide hgy
      rintro V2 ⟨hG, hO, hY, hZ, hb, hlV2⟩
      replace hG := hide hG; replace hY := hide hY; replace hZ := hide hZ
      cases x with
      | none =>
        have E : entAll b l = none := entAll_stop (unhide ho).1 (unhide HR) (unhide hx).symm
        clear hO hY hG
        replace hb := hide hb
        go_wp2_with (first | (refine wpList_store_row (P := Tryz.prog) rfl 31 (.tmp 4) (.tmp 27) rfl (w.heap.size + 1) #[.string ⟨#[]⟩, .int .i64 0, .slice none 0 0, .int .i64 0, .string ⟨#[]⟩, .int .i64 0] rfl rfl 31 _ (unhide hZ) rfl rfl (bkc_one _ _ _ _ _ _ _ _) ?_) | fail)
        have hZ9 := setRow_heap _ (w.heap.size + 1) _ #[.string ⟨#[]⟩, .int .i64 0, .slice none 0 0, .int .i64 0, .string ⟨#[]⟩, .int .i64 0] 31 (0, 0) (unhide hZ)
        have T9 := Go.below_setRow (unhide hb) (show w.heap.size ≤ w.heap.size + 1 by omega) #[.string ⟨#[]⟩, .int .i64 0, .slice none 0 0, .int .i64 0, .string ⟨#[]⟩, .int .i64 0]
        exact bodyPost_ret (results_cb_tmp (by exact Tryz.results18) _ _ (w.heap.size + 1) 31 #[.string ⟨#[]⟩, .int .i64 0, .slice none 0 0, .int .i64 0, .string ⟨#[]⟩, .int .i64 0] _ rfl hZ9 Tryz.underlying31 rfl) rfl (by rw [E]; exact ⟨⟨none, 0, rfl, OwnN.nil _ _ _⟩, T9⟩)
      | some o2 =>
        have ho2 := hide (show entAll b (l.take (k + 1)) = some o2 ∧ BkSm o2 from ⟨by rw [entAll_snoc (unhide ho).1 (unhide HR)]; exact (unhide hx).symm, bkSm_ok (entB_ok (unhide hx).symm).1⟩)
        have hY2 := hide (show CB V2 gy 31 (bkc o2 (.slice a6 o2.ths.length c6)) from unhide hY)
        have hO2 : OwnN thY V2 base 48 (.slice a6 o2.ths.length c6) o2.ths := hO
        have hG9 := hide (setRow_heap _ g _ (bkc o2 (.slice a6 o2.ths.length c6)) 31 (0, 0) (unhide hG))
        have hO9 := hide (hO2.grown (grown_setRow V2 g (bkc o2 (.slice a6 o2.ths.length c6))) (fun q hq he => hO2.off (unhide hG) (by decide) (by rw [hq]; exact he.symm)))
        have hZ9 := hide (show CB (V2.setRow g (bkc o2 (.slice a6 o2.ths.length c6))) (w.heap.size + 1) 31 #[.string ⟨#[]⟩, .int .i64 0, .slice none 0 0, .int .i64 0, .string ⟨#[]⟩, .int .i64 0] from (setRow_other _ _ _ _ (by omega)).trans (unhide hZ))
        have hB9 := hide (Go.below_setRow hb (show w.heap.size ≤ g by omega) (bkc o2 (.slice a6 o2.ths.length c6)))
        have hS9 : (V2.setRow g (bkc o2 (.slice a6 o2.ths.length c6))).heap.size = V2.heap.size := Go.setRow_size _ _ _
        clear hY hO hO2 hb hZ
        go_wp2_with (first
          | (refine wpList_load_row (P := Tryz.prog) rfl 31 (.tmp 9) rfl gy rfl 31 (bkc o2 (.slice a6 o2.ths.length c6)) (0, 0) _ (unhide hY2) Tryz.underlying31 rfl rfl ?_)
          | (refine wpList_store_row (P := Tryz.prog) rfl 31 (.tmp 6) (.tmp 28) rfl g (bkc o2 (.slice a6 o2.ths.length c6)) rfl rfl 31 _ (unhide hG) rfl rfl (bkc_all _ _ _ _) ?_)
          | fail)
        go_roundw
        case rel => exact ⟨k + 1, o2, by omega, by go_num, ho2, hide ⟨a6, c6, unhide hG9, unhide hO9⟩, hZ9, unhide hB9, by rw [hS9]; exact hlV2⟩
        case measure => simp [intOf]; omega
    · have e1 : k = n := by omega
      have e2 : l.take k = l := List.take_of_length_le (by rw [unhide hnn]; omega)
      have E : entAll b l = some o := by rw [← e2]; exact (unhide ho).1
      obtain ⟨a5, c5, hG, hO⟩ := unhide hA
      have hG2 := hide hG; have hO2 := hide hO; replace hb := hide hb
      replace e1 := hide e1; replace e2 := hide e2; replace E := hide E
      clear hG hO hA
      go_wp2_with (first
        | (refine wpList_load_row (P := Tryz.prog) rfl 31 (.tmp 6) rfl g rfl 31 (bkc o (.slice a5 o.ths.length c5)) (0, 0) _ (unhide hG2) Tryz.underlying31 rfl rfl ?_)
        | (refine wpList_store_row (P := Tryz.prog) rfl 31 (.tmp 4) (.tmp 30) rfl (w.heap.size + 1) (bkc o (.slice a5 o.ths.length c5)) rfl rfl 31 _ (unhide hZ) rfl rfl (bkc_all _ _ _ _) ?_)
        | fail)
      have hZ9 := setRow_heap _ (w.heap.size + 1) _ (bkc o (.slice a5 o.ths.length c5)) 31 (0, 0) (unhide hZ)
      have T9 := Go.below_setRow (unhide hb) (show w.heap.size ≤ w.heap.size + 1 by omega) (bkc o (.slice a5 o.ths.length c5))
      have ho9 := (unhide hO2).setRow (g := w.heap.size + 1) hlb (bkc o (.slice a5 o.ths.length c5))
      exact bodyPost_ret (results_cb_tmp (by exact Tryz.results18) _ _ (w.heap.size + 1) 31 (bkc o (.slice a5 o.ths.length c5)) _ rfl hZ9 Tryz.underlying31 rfl) rfl (by rw [unhide E]; exact ⟨⟨a5, c5, rfl, ho9.low (base' := w.heap.size) (by omega)⟩, T9⟩)
end Go.Proofs.YtkbbcjnickgfjabGreat

/- Books: records entered one after another, by the given model, over the loaded program. -/
namespace Go.Proofs.YtkbbcjnickgfjabGreat
open Go.RowKit
theorem OwnN.setRowN {α : Type} {L : Lay α} {w : World} {g base : Nat} {T e : TypeId} {cs0 cs : Array Value} {v : Value} {xs : List α} (h : OwnN L w base e v xs) (hG : CB w g T cs0) (hT : T ≠ e) : OwnN L (w.setRow g cs) base e v xs :=
  h.grown (grown_setRow w g cs) (fun k hk he => h.off hG hT (by rw [hk]; exact he.symm))
/-- The eleven cells of a record, as they lie. -/
theorem AtN.rc {w : World} {g o : Nat} {r : Rc} (h : AtN rcY w g o r) : w.cell? ⟨g, o, none⟩ = some (.int .i64 r.kd) ∧ w.cell? ⟨g, o + 1, none⟩ = some (.string r.tx) ∧ w.cell? ⟨g, o + 2, none⟩ = some (.int .i64 r.nm) ∧ w.cell? ⟨g, o + 3, none⟩ = some (.int .i64 r.th.id) ∧ w.cell? ⟨g, o + 4, none⟩ = some (.int .i64 r.th.kind) ∧ w.cell? ⟨g, o + 5, none⟩ = some (.bool r.th.hid) ∧ w.cell? ⟨g, o + 6, none⟩ = some (.bool r.th.fix) ∧ w.cell? ⟨g, o + 7, none⟩ = some (.bool r.th.sgn) ∧ w.cell? ⟨g, o + 8, none⟩ = some (.bool r.th.wrp) ∧ w.cell? ⟨g, o + 9, none⟩ = some (.string r.th.val) ∧ w.cell? ⟨g, o + 10, none⟩ = some (.int .i64 r.th.nxt) :=
  ⟨h 0 _ rfl, h 1 _ rfl, h 2 _ rfl, h 3 _ rfl, h 4 _ rfl, h 5 _ rfl, h 6 _ rfl, h 7 _ rfl, h 8 _ rfl, h 9 _ rfl, h 10 _ rfl⟩
set_option maxRecDepth 20000 in
set_option maxHeartbeats 6400000 in
theorem specEnterAll_any (b : Bk) (l : List Rc) (v u : Value) (w : World) (hr : RdBk w v b) (hl : RdN rcY w u l) (hn : l.length ≤ 1048576) (hs : BkSm b) :
    Calls Tryz.prog 14 #[v, u] w fun e w' => EntRes 48 w (entAll b l) e w' := by
  obtain ⟨a, n0, c, rfl, hn0, hu⟩ := hr.open
  subst hn0
  obtain ⟨al, cl, rfl, hcl⟩ := hl.open
  obtain ⟨n, hnn⟩ : ∃ n, l.length = n := ⟨_, rfl⟩
  rw [hnn] at hn ⊢
  have CY : Hid (∀ W : World, RdN thY W (.slice a b.ths.length c) b.ths → Calls Tryz.prog 23 #[.agg (bkc b (.slice a b.ths.length c))] W fun e w' => (∃ a c, e = .returned (.agg (bkc b (.slice a b.ths.length c))) ∧ OwnN thY w' W.heap.size 48 (.slice a b.ths.length c) b.ths) ∧ Below W.heap.size W w') := fun W h => l21Copy_any b _ W ⟨_, rfl, h⟩ (by have := hs.1; omega)
  have CE : Hid (∀ (o : Bk), BkSm o → ∀ (r : Rc) (a : Option Addr) (c : Nat) (W : World), RdN thY W (.slice a o.ths.length c) o.ths → Calls Tryz.prog 24 #[.agg #[.string o.wd, .int .i64 o.tr, .slice a o.ths.length c, .int .i64 o.la, .string o.ch, .int .i64 o.ct], .agg #[.int .i64 r.kd, .string r.tx, .int .i64 r.nm, .int .i64 r.th.id, .int .i64 r.th.kind, .bool r.th.hid, .bool r.th.fix, .bool r.th.sgn, .bool r.th.wrp, .string r.th.val, .int .i64 r.th.nxt]] W fun e w' => (∃ a c, e = .returned (.tuple #[.agg #[.string ((entB o r).getD bkZ).wd, .int .i64 ((entB o r).getD bkZ).tr, .slice a ((entB o r).getD bkZ).ths.length c, .int .i64 ((entB o r).getD bkZ).la, .string ((entB o r).getD bkZ).ch, .int .i64 ((entB o r).getD bkZ).ct], .bool (entB o r).isSome]) ∧ OwnN thY w' W.heap.size 48 (.slice a ((entB o r).getD bkZ).ths.length c) ((entB o r).getD bkZ).ths) ∧ Below W.heap.size W w') := fun o hs r a c W h => specEnter_any o r (bkv o (.slice a o.ths.length c)) W ⟨_, rfl, h⟩ hs.1 (by have := hs.2.1; omega) (by have := hs.2.2.1; omega)
  obtain ⟨W, hW, hX, hZ, hB, hs0⟩ := two_cb w (bkc b (.slice a b.ths.length c)) #[.string ⟨#[]⟩, .int .i64 0, .slice none 0 0, .int .i64 0, .string ⟨#[]⟩, .int .i64 0] 31 31
  have hW2 := hW
  simp only [bkc] at hW2
  have HU := hide (hu.below hB)
  replace hX := hide hX; replace hZ := hide hZ; replace hB := hide hB; replace hs := hide hs
  clear hW hr hl hu
  go_enter Tryz.func14, Tryz.ntmps14
  go_upto_region 1 with fail
  first | rw [hW2] | skip
  clear hW2
  go_upto_region 2 with (first
    | (refine wpList_load_row (P := Tryz.prog) rfl 31 (.tmp 2) rfl w.heap.size rfl 31 (bkc b (.slice a b.ths.length c)) (0, 0) _ (unhide hX) Tryz.underlying31 rfl rfl ?_)
    | (go_at_call 23; refine (unhide CY _ (unhide HU)).mono ?_; rintro e w3 ⟨⟨a3, c3, rfl, ho3⟩, hb3⟩; have HG := hide (CB.new w3 #[.string ⟨#[]⟩, .int .i64 0, .slice none 0 0, .int .i64 0, .string ⟨#[]⟩, .int .i64 0] 31))
    | (refine wpList_store_row (P := Tryz.prog) rfl 31 (.tmp 6) (.tmp 11) rfl w3.heap.size (bkc b (.slice a3 b.ths.length c3)) rfl rfl 31 _ (unhide HG) rfl rfl (bkc_all _ _ _ _) ?_)
    | fail)
  have hG4 := setRow_heap _ w3.heap.size _ (bkc b (.slice a3 b.ths.length c3)) 31 (0, 0) (unhide HG)
  have hbV := Go.below_setRow ((Below.refl w3.heap.size w3).alloc (Nat.le_refl _) (.cells #[.string ⟨#[]⟩, .int .i64 0, .slice none 0 0, .int .i64 0, .string ⟨#[]⟩, .int .i64 0] 31)) (Nat.le_refl _) (bkc b (.slice a3 b.ths.length c3))
  have hb23 := hb3.trans (hbV.mono hb3.size)
  obtain ⟨g, hg⟩ : ∃ z, z = w3.heap.size := ⟨_, rfl⟩
  obtain ⟨base, hbase⟩ : ∃ z, z = W.heap.size := ⟨_, rfl⟩
  have hbg : base ≤ g := by have := hb3.size; omega
  have hlb : w.heap.size + 1 < base := by omega
  refine wp_gen (fun V => BkAt V w3.heap.size W.heap.size 31 48 b ∧ CB V (w.heap.size + 1) 31 #[.string ⟨#[]⟩, .int .i64 0, .slice none 0 0, .int .i64 0, .string ⟨#[]⟩, .int .i64 0] ∧ Below w.heap.size w V ∧ base ≤ V.heap.size) ⟨⟨a3, c3, hG4, ho3.below hbV⟩, (unhide hZ).step hb23, (unhide hB).trans (hb23.mono (unhide hB).size), by have := hb23.size; omega⟩ ?_
  clear hG4 hbV hb23 ho3 hb3 HG hX hZ hB HU CY hs0
  rw [← hg, ← hbase]
  replace hg := hide hg; replace hbase := hide hbase; replace hnn := hide hnn
  rintro V0 ⟨hA, hZ, hT, hlV⟩
  go_wp2
  go_loopw [7] (fun ti wr => ∃ (k : Nat) (o : Bk), k ≤ n ∧ ti = .int .i64 k ∧ Hid (entAll b (l.take k) = some o ∧ BkSm o) ∧ Hid (BkAt wr g base 31 48 o) ∧ Hid (CB wr (w.heap.size + 1) 31 #[.string ⟨#[]⟩, .int .i64 0, .slice none 0 0, .int .i64 0, .string ⟨#[]⟩, .int .i64 0]) ∧ Below w.heap.size w wr ∧ base ≤ wr.heap.size) (fun ti _ => n - (intOf ti).toNat)
  case atStart => exact ⟨0, b, Nat.zero_le _, rfl, ⟨rfl, unhide hs⟩, hA, hZ, hT, hlV⟩
  case round =>
    obtain ⟨k, o, hk, rfl, ho, hA, hZ, hb, hlV⟩ := hrel
    have hss := hb.size
    by_cases hlt : k < n
    · have hk' : k < l.length := by rw [unhide hnn]; exact hlt
      obtain ⟨r, hr⟩ : ∃ r, l[k]? = some r := ⟨l[k], List.getElem?_eq_getElem hk'⟩
      obtain ⟨gl, ol, rfl, hgl, hat⟩ := hcl k r hr
      have hatw := hide (hat.below hb hgl)
      have hglw : gl < wr.heap.size := by omega
      have hlk : (k : Int) < (n : Int) := by omega
      have hi0 : (0 : Int) ≤ (k : Int) := by omega
      obtain ⟨a5, c5, hG, hO⟩ := unhide hA
      have hgg := hG.lt
      have CE2 := hide (unhide CE o (unhide ho).2 r)
      have HR := hide hr
      clear hcl hat hr hA
      obtain ⟨x, hx⟩ : ∃ z, z = entB o r := ⟨_, rfl⟩
      rw [← hx] at CE2
      replace hx := hide hx
      replace hG := hide (show CB wr g 31 #[.string o.wd, .int .i64 o.tr, .slice a5 o.ths.length c5, .int .i64 o.la, .string o.ch, .int .i64 o.ct] from hG); replace hO := hide hO; replace hb := hide hb
      go_upto_region 5 with fail
      obtain ⟨bs21, hbs21⟩ : ∃ z, z = wr.heap.size := ⟨_, rfl⟩
      have wb_bs21 : w.heap.size ≤ bs21 := by rw [hbs21]; exact (unhide hb).size
      have sp_ro_bs21 : ∀ k, ((.slice a5 o.ths.length c5) : Value).ownBlock = some k → k < bs21 := fun k hk => by rw [hbs21]; exact ((unhide hO).lt k hk).2
      go_cut [8, 9] from 12 to 30 (fun t8 t9 wx => ∃ (a22 : Option Addr) (c23 : Nat) (g24 : Nat), t8 = .pointer (some ⟨g24, 0, none⟩) ∧ t9 = .bool x.isSome ∧ CB wx g24 31 #[.string (x.getD bkZ).wd, .int .i64 (x.getD bkZ).tr, .slice a22 (x.getD bkZ).ths.length c23, .int .i64 (x.getD bkZ).la, .string (x.getD bkZ).ch, .int .i64 (x.getD bkZ).ct] ∧ OwnN thY wx bs21 48 (.slice a22 (x.getD bkZ).ths.length c23) (x.getD bkZ).ths ∧ CB wx g 31 #[.string o.wd, .int .i64 o.tr, .slice a5 o.ths.length c5, .int .i64 o.la, .string o.ch, .int .i64 o.ct] ∧ CB wx (w.heap.size + 1) 31 #[.string ⟨#[]⟩, .int .i64 0, .slice none 0 0, .int .i64 0, .string ⟨#[]⟩, .int .i64 0] ∧ OwnN thY wx base 48 (.slice a5 o.ths.length c5) o.ths ∧ Below w.heap.size w wx ∧ bs21 ≤ g24 ∧ wr.heap.size ≤ wx.heap.size)
      case first =>
        refine wp_region_held_drew (S := fun V => Below wr.heap.size wr V) (by kernel_rfl) (Below.refl _ wr).drew (fun hHeld => ?_)
        refine held_take (i := 0) 19 (v := .agg #[.string o.wd, .int .i64 o.tr, .slice a5 o.ths.length c5, .int .i64 o.la, .string o.ch, .int .i64 o.ct]) rfl rfl (by kernel_rfl) (by kernel_rfl) (by kernel_rfl) (fun _ _ _ h => h) (Or.inl ⟨by rfl, fun V hS => by have kx := (unhide hG).step hS; have x0 := kx.cell 0 (v := .string o.wd) rfl; have x1 := kx.cell 1 (v := .int .i64 o.tr) rfl; have x2 := kx.cell 2 (v := .slice a5 o.ths.length c5) rfl; have x3 := kx.cell 3 (v := .int .i64 o.la) rfl; have x4 := kx.cell 4 (v := .string o.ch) rfl; have x5 := kx.cell 5 (v := .int .i64 o.ct) rfl; go_simp⟩) hHeld ?_
        simp only [Act.put, List.setIfInBounds_toArray, List.set_cons_zero, List.set_cons_succ]
        refine held_take (i := 1) 20 (v := .slice (some ⟨gl, ol, none⟩) n cl) rfl rfl (by kernel_rfl) (by kernel_rfl) (by kernel_rfl) (fun _ _ _ h => h) (Or.inl ⟨by rfl, fun V hS => by go_simp⟩) hHeld ?_
        simp only [Act.put, List.setIfInBounds_toArray, List.set_cons_zero, List.set_cons_succ]
        refine held_take (i := 2) 21 (v := .int .i64 (k : Int)) rfl rfl (by kernel_rfl) (by kernel_rfl) (by kernel_rfl) (fun _ _ _ h => h) (Or.inl ⟨by rfl, fun V hS => by go_simp⟩) hHeld ?_
        simp only [Act.put, List.setIfInBounds_toArray, List.set_cons_zero, List.set_cons_succ]
        refine held_take (i := 3) 22 (v := .pointer (some ⟨gl, ol + k * 11, none⟩)) rfl rfl (by kernel_rfl) (by kernel_rfl) (by kernel_rfl) (fun _ _ _ h => h) (Or.inl ⟨by rfl, fun V hS => by go_simp⟩) hHeld ?_
        simp only [Act.put, List.setIfInBounds_toArray, List.set_cons_zero, List.set_cons_succ]
        refine held_take (i := 4) 23 (v := .agg #[.int .i64 r.kd, .string r.tx, .int .i64 r.nm, .int .i64 r.th.id, .int .i64 r.th.kind, .bool r.th.hid, .bool r.th.fix, .bool r.th.sgn, .bool r.th.wrp, .string r.th.val, .int .i64 r.th.nxt]) rfl rfl (by kernel_rfl) (by kernel_rfl) (by kernel_rfl) (fun _ _ _ h => h) (Or.inl ⟨by rfl, fun V hS => by obtain ⟨y0, y1, y2, y3, y4, y5, y6, y7, y8, y9, y10⟩ := AtN.rc (o := ol + k * 11) ((unhide hatw).below hS hglw); go_simp⟩) hHeld ?_
        simp only [Act.put, List.setIfInBounds_toArray, List.set_cons_zero, List.set_cons_succ]
        have u0 : wr.heap.size ≤ wr.drew.heap.size := Nat.le_refl _
        have m0 : Below wr.heap.size wr wr.drew := (Below.refl _ wr).drew
        refine wpAnyH_ready (rs := [5, 9]) (by kernel_rfl) (by simp) ?_
        refine AllReadyH.cons rfl (fun K hK => ?_) (AllReadyH.cons rfl (fun K hK => ?_) AllReadyH.nil)
        · go_simp
          refine (unhide CE2 _ _ _ ((unhide hO).below m0).rd).mono ?_
          rintro e w25 ⟨⟨a26, c27, rfl, q28⟩, hb29⟩
          refine hK.out _ _ (hHeld.trans (hb29.mono hHeld.size)) (fun hHeld => ?_)
          have m30 := m0.trans (hb29.mono m0.size)
          have m31 := Below.refl w25.heap.size w25
          clear hK K
          have u32 : wr.heap.size ≤ _ := u0
          have u33 : wr.heap.size ≤ w25.heap.size := hHeld.size
          refine held_take (i := 6) 18 (v := .tuple #[.agg #[.string (x.getD bkZ).wd, .int .i64 (x.getD bkZ).tr, .slice a26 (x.getD bkZ).ths.length c27, .int .i64 (x.getD bkZ).la, .string (x.getD bkZ).ch, .int .i64 (x.getD bkZ).ct], .bool x.isSome]) rfl rfl (by kernel_rfl) (by kernel_rfl) (by kernel_rfl) (fun _ _ _ h => h) (Or.inl ⟨by rfl, fun V hS => by go_simp⟩) hHeld ?_
          simp only [Act.put, List.setIfInBounds_toArray, List.set_cons_zero, List.set_cons_succ]
          refine held_take (i := 7) 25 (v := .agg #[.string (x.getD bkZ).wd, .int .i64 (x.getD bkZ).tr, .slice a26 (x.getD bkZ).ths.length c27, .int .i64 (x.getD bkZ).la, .string (x.getD bkZ).ch, .int .i64 (x.getD bkZ).ct]) rfl rfl (by kernel_rfl) (by kernel_rfl) (by kernel_rfl) (fun _ _ _ h => h) (Or.inl ⟨by rfl, fun V hS => by go_simp⟩) hHeld ?_
          simp only [Act.put, List.setIfInBounds_toArray, List.set_cons_zero, List.set_cons_succ]
          refine held_take (i := 8) 26 (v := .bool x.isSome) rfl rfl (by kernel_rfl) (by kernel_rfl) (by kernel_rfl) (fun _ _ _ h => h) (Or.inl ⟨by rfl, fun V hS => by go_simp⟩) hHeld ?_
          simp only [Act.put, List.setIfInBounds_toArray, List.set_cons_zero, List.set_cons_succ]
          refine wpAnyH_ready (rs := [9]) (by kernel_rfl) (by simp) ?_
          refine AllReadyH.cons rfl (fun K hK => ?_) AllReadyH.nil
          go_simp
          have q34 := CB.new w25 #[.string ⟨#[]⟩, .int .i64 0, .slice none 0 0, .int .i64 0, .string ⟨#[]⟩, .int .i64 0] 31
          refine hK.out _ _ (hHeld.alloc hHeld.size _) (fun hHeld => ?_)
          have m35 := m30.alloc m30.size (.cells #[.string ⟨#[]⟩, .int .i64 0, .slice none 0 0, .int .i64 0, .string ⟨#[]⟩, .int .i64 0] 31)
          have m36 := m31.alloc m31.size (.cells #[.string ⟨#[]⟩, .int .i64 0, .slice none 0 0, .int .i64 0, .string ⟨#[]⟩, .int .i64 0] 31)
          have m37 := Below.refl (w25.alloc (.cells #[.string ⟨#[]⟩, .int .i64 0, .slice none 0 0, .int .i64 0, .string ⟨#[]⟩, .int .i64 0] 31)).heap.size (w25.alloc (.cells #[.string ⟨#[]⟩, .int .i64 0, .slice none 0 0, .int .i64 0, .string ⟨#[]⟩, .int .i64 0] 31))
          clear hK K
          have u38 : wr.heap.size ≤ (w25.alloc (.cells #[.string ⟨#[]⟩, .int .i64 0, .slice none 0 0, .int .i64 0, .string ⟨#[]⟩, .int .i64 0] 31)).heap.size := hHeld.size
          refine wpAnyH_ready (rs := [10]) (by kernel_rfl) (by simp) ?_
          refine AllReadyH.cons rfl (fun K hK => ?_) AllReadyH.nil
          have hGG := q34.step m37
          refine step_store_all (P := Tryz.prog) rfl 31 (.tmp 8) (.tmp 25) rfl #[.string (x.getD bkZ).wd, .int .i64 (x.getD bkZ).tr, .slice a26 (x.getD bkZ).ths.length c27, .int .i64 (x.getD bkZ).la, .string (x.getD bkZ).ch, .int .i64 (x.getD bkZ).ct] rfl rfl hGG rfl (by simp [Value.oneCell']) (by kernel_rfl) ?_
          have hS9 := setRow_heap _ _ _ #[.string (x.getD bkZ).wd, .int .i64 (x.getD bkZ).tr, .slice a26 (x.getD bkZ).ths.length c27, .int .i64 (x.getD bkZ).la, .string (x.getD bkZ).ch, .int .i64 (x.getD bkZ).ct] 31 (0, 0) hGG
          have hB9 : Below wr.heap.size wr _ := Go.below_setRow hHeld (show wr.heap.size ≤ _ from u33) #[.string (x.getD bkZ).wd, .int .i64 (x.getD bkZ).tr, .slice a26 (x.getD bkZ).ths.length c27, .int .i64 (x.getD bkZ).la, .string (x.getD bkZ).ch, .int .i64 (x.getD bkZ).ct]
          have hR9 := (q28.below m36).setRowN (g := _) (cs := #[.string (x.getD bkZ).wd, .int .i64 (x.getD bkZ).tr, .slice a26 (x.getD bkZ).ths.length c27, .int .i64 (x.getD bkZ).la, .string (x.getD bkZ).ch, .int .i64 (x.getD bkZ).ct]) (T := 31) hGG (by decide)
          refine hK.out _ _ hB9 (fun hHeld => ?_)
          clear hK K
          refine held_take (i := 11) 9 (v := .bool x.isSome) rfl rfl (by kernel_rfl) (by kernel_rfl) (by kernel_rfl) (fun _ _ _ h => h) (Or.inl ⟨by rfl, fun V hS => by go_simp⟩) hHeld ?_
          simp only [Act.put, List.setIfInBounds_toArray]
          refine wpAnyH_done (by kernel_rfl) ?_ _
          go_wp2_with fail
          go_meet
          case rel =>
            exact ⟨a26, c27, _, rfl, rfl, hS9, hR9.low (base' := bs21) (by rw [hbs21]; exact u32), (unhide hG).step hHeld, (unhide hZ).step hHeld, (unhide hO).below hHeld, (unhide hb).trans (hHeld.mono (unhide hb).size), (by rw [hbs21]; exact u33), hHeld.size⟩
        · go_simp
          have q39 := CB.new wr.drew #[.string ⟨#[]⟩, .int .i64 0, .slice none 0 0, .int .i64 0, .string ⟨#[]⟩, .int .i64 0] 31
          refine hK.out _ _ (hHeld.alloc hHeld.size _) (fun hHeld => ?_)
          have m40 := m0.alloc m0.size (.cells #[.string ⟨#[]⟩, .int .i64 0, .slice none 0 0, .int .i64 0, .string ⟨#[]⟩, .int .i64 0] 31)
          have m41 := Below.refl (wr.drew.alloc (.cells #[.string ⟨#[]⟩, .int .i64 0, .slice none 0 0, .int .i64 0, .string ⟨#[]⟩, .int .i64 0] 31)).heap.size (wr.drew.alloc (.cells #[.string ⟨#[]⟩, .int .i64 0, .slice none 0 0, .int .i64 0, .string ⟨#[]⟩, .int .i64 0] 31))
          clear hK K
          have u42 : wr.heap.size ≤ (wr.drew.alloc (.cells #[.string ⟨#[]⟩, .int .i64 0, .slice none 0 0, .int .i64 0, .string ⟨#[]⟩, .int .i64 0] 31)).heap.size := hHeld.size
          refine wpAnyH_ready (rs := [5]) (by kernel_rfl) (by simp) ?_
          refine AllReadyH.cons rfl (fun K hK => ?_) AllReadyH.nil
          go_simp
          refine (unhide CE2 _ _ _ ((unhide hO).below m40).rd).mono ?_
          rintro e w43 ⟨⟨a44, c45, rfl, q46⟩, hb47⟩
          refine hK.out _ _ (hHeld.trans (hb47.mono hHeld.size)) (fun hHeld => ?_)
          have m48 := m40.trans (hb47.mono m40.size)
          have m49 := m41.trans (hb47.mono m41.size)
          have m50 := Below.refl w43.heap.size w43
          clear hK K
          have u51 : wr.heap.size ≤ _ := u42
          have u52 : wr.heap.size ≤ w43.heap.size := hHeld.size
          refine held_take (i := 6) 18 (v := .tuple #[.agg #[.string (x.getD bkZ).wd, .int .i64 (x.getD bkZ).tr, .slice a44 (x.getD bkZ).ths.length c45, .int .i64 (x.getD bkZ).la, .string (x.getD bkZ).ch, .int .i64 (x.getD bkZ).ct], .bool x.isSome]) rfl rfl (by kernel_rfl) (by kernel_rfl) (by kernel_rfl) (fun _ _ _ h => h) (Or.inl ⟨by rfl, fun V hS => by go_simp⟩) hHeld ?_
          simp only [Act.put, List.setIfInBounds_toArray, List.set_cons_zero, List.set_cons_succ]
          refine held_take (i := 7) 25 (v := .agg #[.string (x.getD bkZ).wd, .int .i64 (x.getD bkZ).tr, .slice a44 (x.getD bkZ).ths.length c45, .int .i64 (x.getD bkZ).la, .string (x.getD bkZ).ch, .int .i64 (x.getD bkZ).ct]) rfl rfl (by kernel_rfl) (by kernel_rfl) (by kernel_rfl) (fun _ _ _ h => h) (Or.inl ⟨by rfl, fun V hS => by go_simp⟩) hHeld ?_
          simp only [Act.put, List.setIfInBounds_toArray, List.set_cons_zero, List.set_cons_succ]
          refine held_take (i := 8) 26 (v := .bool x.isSome) rfl rfl (by kernel_rfl) (by kernel_rfl) (by kernel_rfl) (fun _ _ _ h => h) (Or.inl ⟨by rfl, fun V hS => by go_simp⟩) hHeld ?_
          simp only [Act.put, List.setIfInBounds_toArray, List.set_cons_zero, List.set_cons_succ]
          refine wpAnyH_ready (rs := [10]) (by kernel_rfl) (by simp) ?_
          refine AllReadyH.cons rfl (fun K hK => ?_) AllReadyH.nil
          have hGG := q39.step m49
          refine step_store_all (P := Tryz.prog) rfl 31 (.tmp 8) (.tmp 25) rfl #[.string (x.getD bkZ).wd, .int .i64 (x.getD bkZ).tr, .slice a44 (x.getD bkZ).ths.length c45, .int .i64 (x.getD bkZ).la, .string (x.getD bkZ).ch, .int .i64 (x.getD bkZ).ct] rfl rfl hGG rfl (by simp [Value.oneCell']) (by kernel_rfl) ?_
          have hS9 := setRow_heap _ _ _ #[.string (x.getD bkZ).wd, .int .i64 (x.getD bkZ).tr, .slice a44 (x.getD bkZ).ths.length c45, .int .i64 (x.getD bkZ).la, .string (x.getD bkZ).ch, .int .i64 (x.getD bkZ).ct] 31 (0, 0) hGG
          have hB9 : Below wr.heap.size wr _ := Go.below_setRow hHeld (show wr.heap.size ≤ _ from u0) #[.string (x.getD bkZ).wd, .int .i64 (x.getD bkZ).tr, .slice a44 (x.getD bkZ).ths.length c45, .int .i64 (x.getD bkZ).la, .string (x.getD bkZ).ch, .int .i64 (x.getD bkZ).ct]
          have hR9 := (q46.below m50).setRowN (g := _) (cs := #[.string (x.getD bkZ).wd, .int .i64 (x.getD bkZ).tr, .slice a44 (x.getD bkZ).ths.length c45, .int .i64 (x.getD bkZ).la, .string (x.getD bkZ).ch, .int .i64 (x.getD bkZ).ct]) (T := 31) hGG (by decide)
          refine hK.out _ _ hB9 (fun hHeld => ?_)
          clear hK K
          refine held_take (i := 11) 9 (v := .bool x.isSome) rfl rfl (by kernel_rfl) (by kernel_rfl) (by kernel_rfl) (fun _ _ _ h => h) (Or.inl ⟨by rfl, fun V hS => by go_simp⟩) hHeld ?_
          simp only [Act.put, List.setIfInBounds_toArray]
          refine wpAnyH_done (by kernel_rfl) ?_ _
          go_wp2_with fail
          go_meet
          case rel =>
            exact ⟨a44, c45, _, rfl, rfl, hS9, hR9.low (base' := bs21) (by rw [hbs21]; exact u51), (unhide hG).step hHeld, (unhide hZ).step hHeld, (unhide hO).below hHeld, (unhide hb).trans (hHeld.mono (unhide hb).size), (by rw [hbs21]; exact u0), hHeld.size⟩
      case rest =>
      obtain ⟨a22, c23, g24, rfl, rfl, k57, o58, k53, k54, o55, T56, l59, z60⟩ := hcut
      replace k57 := hide k57
      replace k53 := hide k53
      replace k54 := hide k54
      replace o58 := hide o58
      replace o55 := hide o55
      replace T56 := hide T56
      replace hbs21 := hide hbs21
      clear hG hZ hO hb
      have hlow : base ≤ bs21 := by rw [unhide hbs21]; exact hlV
      have hlV2 : base ≤ wc.heap.size := Nat.le_trans hlV z60
      have hO2 := (unhide o58).low hlow
      have hZ2 := k54; have hG2 := k53; have hY2 := k57
      have hb2 := unhide T56
      clear k54 k53 k57 o58 o55 T56 CE2
      cases x with
      | none =>
        have E : entAll b l = none := entAll_stop (unhide ho).1 (unhide HR) (unhide hx).symm
        clear hO2 hY2 hG2
        replace hb2 := hide hb2
        go_wp2_with (first | (refine wpList_store_row (P := Tryz.prog) rfl 31 (.tmp 4) (.tmp 29) rfl (w.heap.size + 1) #[.string ⟨#[]⟩, .int .i64 0, .slice none 0 0, .int .i64 0, .string ⟨#[]⟩, .int .i64 0] rfl rfl 31 _ (unhide hZ2) rfl rfl (bkc_one _ _ _ _ _ _ _ _) ?_) | fail)
        have hZ9 := setRow_heap _ (w.heap.size + 1) _ #[.string ⟨#[]⟩, .int .i64 0, .slice none 0 0, .int .i64 0, .string ⟨#[]⟩, .int .i64 0] 31 (0, 0) (unhide hZ2)
        have T9 := Go.below_setRow (unhide hb2) (show w.heap.size ≤ w.heap.size + 1 by omega) #[.string ⟨#[]⟩, .int .i64 0, .slice none 0 0, .int .i64 0, .string ⟨#[]⟩, .int .i64 0]
        exact bodyPost_ret (results_cb_tmp (by exact Tryz.results14) _ _ (w.heap.size + 1) 31 #[.string ⟨#[]⟩, .int .i64 0, .slice none 0 0, .int .i64 0, .string ⟨#[]⟩, .int .i64 0] _ rfl hZ9 Tryz.underlying31 rfl) rfl (by rw [E]; exact ⟨⟨none, 0, rfl, OwnN.nil _ _ _⟩, T9⟩)
      | some o2 =>
        have ho2 := hide (show entAll b (l.take (k + 1)) = some o2 ∧ BkSm o2 from ⟨by rw [entAll_snoc (unhide ho).1 (unhide HR)]; exact (unhide hx).symm, bkSm_ok (entB_ok (unhide hx).symm).1⟩)
        have hY3 := hide (show CB wc g24 31 #[.string o2.wd, .int .i64 o2.tr, .slice a22 o2.ths.length c23, .int .i64 o2.la, .string o2.ch, .int .i64 o2.ct] from unhide hY2)
        have hO3 : OwnN thY wc base 48 (.slice a22 o2.ths.length c23) o2.ths := hO2
        have hG9 := hide (setRow_heap _ g _ #[.string o2.wd, .int .i64 o2.tr, .slice a22 o2.ths.length c23, .int .i64 o2.la, .string o2.ch, .int .i64 o2.ct] 31 (0, 0) (unhide hG2))
        have hO9 := hide (hO3.setRowN (cs := #[.string o2.wd, .int .i64 o2.tr, .slice a22 o2.ths.length c23, .int .i64 o2.la, .string o2.ch, .int .i64 o2.ct]) (unhide hG2) (by decide))
        have hZ9 := hide (show CB (wc.setRow g #[.string o2.wd, .int .i64 o2.tr, .slice a22 o2.ths.length c23, .int .i64 o2.la, .string o2.ch, .int .i64 o2.ct]) (w.heap.size + 1) 31 #[.string ⟨#[]⟩, .int .i64 0, .slice none 0 0, .int .i64 0, .string ⟨#[]⟩, .int .i64 0] from (setRow_other _ _ _ _ (by omega)).trans (unhide hZ2))
        have hB9 := hide (Go.below_setRow hb2 (show w.heap.size ≤ g by omega) #[.string o2.wd, .int .i64 o2.tr, .slice a22 o2.ths.length c23, .int .i64 o2.la, .string o2.ch, .int .i64 o2.ct])
        have hS9 : (wc.setRow g #[.string o2.wd, .int .i64 o2.tr, .slice a22 o2.ths.length c23, .int .i64 o2.la, .string o2.ch, .int .i64 o2.ct]).heap.size = wc.heap.size := Go.setRow_size _ _ _
        clear hY2 hO2 hO3 hb2 hZ2
        go_wp2_with (first
          | (refine wpList_load_row (P := Tryz.prog) rfl 31 (.tmp 8) rfl g24 rfl 31 #[.string o2.wd, .int .i64 o2.tr, .slice a22 o2.ths.length c23, .int .i64 o2.la, .string o2.ch, .int .i64 o2.ct] (0, 0) _ (unhide hY3) Tryz.underlying31 rfl rfl ?_)
          | (refine wpList_store_row (P := Tryz.prog) rfl 31 (.tmp 6) (.tmp 30) rfl g #[.string o2.wd, .int .i64 o2.tr, .slice a22 o2.ths.length c23, .int .i64 o2.la, .string o2.ch, .int .i64 o2.ct] rfl rfl 31 _ (unhide hG2) rfl rfl (bkc_one _ _ _ _ _ _ _ _) ?_)
          | fail)
        go_roundw
        case rel => exact ⟨k + 1, o2, by omega, by go_num, ho2, hide ⟨a22, c23, unhide hG9, unhide hO9⟩, hZ9, unhide hB9, by rw [hS9]; exact hlV2⟩
        case measure => simp [intOf]; omega
    · have e1 : k = n := by omega
      have e2 : l.take k = l := List.take_of_length_le (by rw [unhide hnn]; omega)
      have E : entAll b l = some o := by rw [← e2]; exact (unhide ho).1
      obtain ⟨a5, c5, hG, hO⟩ := unhide hA
      have hG2 := hide hG; have hO2 := hide hO; replace hb := hide hb
      replace e1 := hide e1; replace e2 := hide e2; replace E := hide E
      clear hG hO hA
      go_wp2_with (first
        | (refine wpList_load_row (P := Tryz.prog) rfl 31 (.tmp 6) rfl g rfl 31 (bkc o (.slice a5 o.ths.length c5)) (0, 0) _ (unhide hG2) Tryz.underlying31 rfl rfl ?_)
        | (refine wpList_store_row (P := Tryz.prog) rfl 31 (.tmp 4) (.tmp 31) rfl (w.heap.size + 1) (bkc o (.slice a5 o.ths.length c5)) rfl rfl 31 _ (unhide hZ) rfl rfl (bkc_all _ _ _ _) ?_)
        | fail)
      have hZ9 := setRow_heap _ (w.heap.size + 1) _ (bkc o (.slice a5 o.ths.length c5)) 31 (0, 0) (unhide hZ)
      have T9 := Go.below_setRow (unhide hb) (show w.heap.size ≤ w.heap.size + 1 by omega) (bkc o (.slice a5 o.ths.length c5))
      have ho9 := (unhide hO2).setRow (g := w.heap.size + 1) hlb (bkc o (.slice a5 o.ths.length c5))
      exact bodyPost_ret (results_cb_tmp (by exact Tryz.results14) _ _ (w.heap.size + 1) 31 (bkc o (.slice a5 o.ths.length c5)) _ rfl hZ9 Tryz.underlying31 rfl) rfl (by rw [unhide E]; exact ⟨⟨a5, c5, rfl, ho9.low (base' := w.heap.size) (by omega)⟩, T9⟩)
end Go.Proofs.YtkbbcjnickgfjabGreat

/- The library's functions that this seat's program calls, each by its contract, at this program's own numbers (laid by the shelf's own tools). -/
namespace Go.Proofs
open Go.Shelf
def Tryz.lays105_ren : Go.Shelf.Ren := ⟨fun | 105 => 31 | 212 => 50 | 99 => 51 | 165 => 52 | 166 => 53 | 170 => 54 | 169 => 55 | 263 => 81 | 264 => 82 | 206 => 83 | 240 => 84 | 241 => 85 | 276 => 102 | 277 => 103 | n => n, fun | 9 => 9 | 3 => 3 | 4 => 4 | 20 => 20 | 0 => 0 | 46 => 82 | 109 => 83 | 5 => 5 | 72 => 88 | 76 => 92 | 51 => 76 | 146 => 117 | 53 => 119 | 148 => 120 | 70 => 86 | 37 => 73 | 75 => 91 | 127 => 122 | 164 => 131 | 80 => 95 | n => n, fun | n => n⟩
theorem Tryz.lays105 : Go.Proofs.Lays.n105 Tryz.prog Tryz.lays105_ren := {
  mixed := by kernel_rfl
  f99 := Tryz.func51.trans (congrArg some (by kernel_rfl))
  f105 := Tryz.func31.trans (congrArg some (by kernel_rfl))
  f165 := Tryz.func52.trans (congrArg some (by kernel_rfl))
  f166 := Tryz.func53.trans (congrArg some (by kernel_rfl))
  f169 := Tryz.func55.trans (congrArg some (by kernel_rfl))
  f170 := Tryz.func54.trans (congrArg some (by kernel_rfl))
  f206 := Tryz.func83.trans (congrArg some (by kernel_rfl))
  f212 := Tryz.func50.trans (congrArg some (by kernel_rfl))
  f240 := Tryz.func84.trans (congrArg some (by kernel_rfl))
  f241 := Tryz.func85.trans (congrArg some (by kernel_rfl))
  f263 := Tryz.func81.trans (congrArg some (by kernel_rfl))
  f264 := Tryz.func82.trans (congrArg some (by kernel_rfl))
  f276 := Tryz.func102.trans (congrArg some (by kernel_rfl))
  f277 := Tryz.func103.trans (congrArg some (by kernel_rfl))
  t0 := Tryz.underlying0
  a0 := Tryz.isAgg0
  z0 := Tryz.sizeOf0
  v0 := Tryz.zeroValue0
  t3 := Tryz.underlying3
  a3 := Tryz.isAgg3
  z3 := Tryz.sizeOf3
  v3 := Tryz.zeroValue3
  t4 := Tryz.underlying4
  a4 := Tryz.isAgg4
  z4 := Tryz.sizeOf4
  v4 := Tryz.zeroValue4
  t5 := Tryz.underlying5
  a5 := Tryz.isAgg5
  z5 := Tryz.sizeOf5
  v5 := Tryz.zeroValue5
  t9 := Tryz.underlying9
  a9 := Tryz.isAgg9
  z9 := Tryz.sizeOf9
  v9 := Tryz.zeroValue9
  t20 := Tryz.underlying20
  a20 := Tryz.isAgg20
  z20 := Tryz.sizeOf20
  v20 := Tryz.zeroValue20
  t37 := Tryz.underlying73
  a37 := Tryz.isAgg73
  z37 := Tryz.sizeOf73
  v37 := Tryz.zeroValue73
  t46 := Tryz.underlying82
  a46 := Tryz.isAgg82
  z46 := Tryz.sizeOf82
  v46 := Tryz.zeroValue82
  t51 := Tryz.underlying76
  a51 := Tryz.isAgg76
  z51 := Tryz.sizeOf76
  v51 := Tryz.zeroValue76
  t53 := Tryz.underlying119
  a53 := Tryz.isAgg119
  z53 := Tryz.sizeOf119
  v53 := Tryz.zeroValue119
  t70 := Tryz.underlying86
  a70 := Tryz.isAgg86
  z70 := Tryz.sizeOf86
  v70 := Tryz.zeroValue86
  t72 := Tryz.underlying88
  a72 := Tryz.isAgg88
  z72 := Tryz.sizeOf88
  v72 := Tryz.zeroValue88
  t75 := Tryz.underlying91
  a75 := Tryz.isAgg91
  z75 := Tryz.sizeOf91
  v75 := Tryz.zeroValue91
  t76 := Tryz.underlying92
  a76 := Tryz.isAgg92
  z76 := Tryz.sizeOf92
  v76 := Tryz.zeroValue92
  t109 := Tryz.underlying83
  a109 := Tryz.isAgg83
  z109 := Tryz.sizeOf83
  v109 := Tryz.zeroValue83
  t127 := Tryz.underlying122
  a127 := Tryz.isAgg122
  z127 := Tryz.sizeOf122
  v127 := Tryz.zeroValue122
  t146 := Tryz.underlying117
  a146 := Tryz.isAgg117
  z146 := Tryz.sizeOf117
  v146 := Tryz.zeroValue117
  t148 := Tryz.underlying120
  a148 := Tryz.isAgg120
  z148 := Tryz.sizeOf120
  v148 := Tryz.zeroValue120
  t164 := Tryz.underlying131
  a164 := Tryz.isAgg131
  z164 := Tryz.sizeOf131
  v164 := Tryz.zeroValue131 }
theorem Tryz.Builder_Extra_105 : Builder.Extra Tryz.prog Tryz.lays105_ren := {
  sizeBuilder := by kernel_rfl
  liesBuilder := by kernel_rfl
  t5 := Tryz.underlying5
  a5 := Tryz.isAgg5
  z5 := Tryz.sizeOf5
  v5 := Tryz.zeroValue5
  infoByte := by kernel_rfl
  cellsByte := by kernel_rfl
  sizeByte := by kernel_rfl
  neB5 := by decide }
open Go.RowKit Go.Lib in
theorem Tryz.strings_Repeat (s : ByteArray) (c : Nat) (w : World) (hc : c ≤ 9223372036854775807) (hlen : s.size * c ≤ 140737488355328) :
    Calls Tryz.prog 31 #[.string s, .int .i64 c] w fun e w' => e = .returned (.string ⟨(Lib.repeatL s.data.toList c).toArray⟩) ∧ Below w.heap.size w w' := Any.strings_Repeat Tryz.lays105 Tryz.Builder_Extra_105 s c w hc hlen
end Go.Proofs

/- BookNew, of both sides, over the loaded program. -/
namespace Go.Proofs.YtkbbcjnickgfjabGreat
open Go.RowKit
def repL21 (m k : Nat) (b : UInt8) : List UInt8 := List.replicate k b ++ List.replicate (m - k) 0
theorem repL21_len (m k : Nat) (b : UInt8) (h : k ≤ m) : (repL21 m k b).length = m := by
  unfold repL21
  rw [List.length_append, List.length_replicate, List.length_replicate]
  omega
theorem repL21_set (m k : Nat) (b : UInt8) (h : k < m) : (repL21 m k b).set k b = repL21 m (k + 1) b := by
  unfold repL21
  rw [List.set_append_right _ _ (by simp), List.length_replicate, Nat.sub_self, show m - k = (m - (k + 1)) + 1 by omega, List.replicate_succ, List.set_cons_zero, List.replicate_succ', List.append_assoc]
  rfl
def repB21 (x : Nat) : ByteArray := ⟨(List.replicate 32 (byteOf x)).toArray⟩
theorem repB21_size (x : Nat) : (repB21 x).size = 32 := by
  show (List.replicate 32 (byteOf x)).length = 32
  exact List.length_replicate

theorem OwnT.nil (w : World) (base : Nat) (e : TypeId) : OwnN thY w base e (.slice none 0 0) [] := World.ownsRow_nil w base e 8
theorem map_set21 (l : List UInt8) (k x : Nat) (hx : x < 256) : (l.map bv).set k (.int .u8 (x : Int)) = (l.set k (byteOf x)).map bv := by
  rw [List.map_set]
  congr 1
  simp only [bv, byteOf_toNat hx]
theorem rep_bv21 (n : Nat) : List.replicate n (Value.int .u8 0) = (List.replicate n (0 : UInt8)).map bv := by
  rw [List.map_replicate]; rfl
theorem Tryz.infoB21 : (Tryz.prog.info? 5).map (fun i => (i.zero, i.size, i.bytes)) = some (some (.int .u8 0), 1, 1) := by kernel_rfl
set_option maxRecDepth 20000 in
set_option maxHeartbeats 400000 in
theorem l01Long21 (x : Nat) (w : World) (hx : x < 256) :
    Calls Tryz.prog 26 #[.int .i64 32, .int .u8 (x : Int)] w fun e w' => e = .returned (.string (repB21 x)) ∧ Below w.heap.size w w' := by
  obtain ⟨m, hm⟩ : ∃ m : Nat, m = 32 := ⟨_, rfl⟩
  have E := hide (show repB21 x = ⟨(repL21 m m (byteOf x)).toArray⟩ by rw [hm]; unfold repB21 repL21; rw [Nat.sub_self, List.replicate_zero, List.append_nil])
  rw [show (32 : Int) = (m : Int) by omega]
  obtain ⟨i0, hi, hz0, hz1, hz2⟩ := info_parts Tryz.infoB21
  have hm1 : 0 < m := by omega
  have hm2 : m ≤ 1000 := by omega
  clear hm
  go_enter Tryz.func26, Tryz.ntmps26
  go_wp2_with (at_make; refine wpList_make_full _ rfl _ _ 73 rfl w.heap.size 5 i0 (.int .u8 0) 1 Tryz.underlying73 hi hz0 hz1 _ _ _ _ m rfl rfl rfl rfl (by rw [hz2]; omega) (by unfold maxLen; omega) (Nat.le_refl _) ?_; intro w1 hown1 hgrow1)
  have hb1 : Below w.heap.size w w1 := (Below.refl _ _).grown hgrow1 (Nat.le_refl _) (fun k hk => by cases hk)
  have hown0 : OwnB w1 w.heap.size 5 (.slice (some ⟨w.heap.size, 0, none⟩) m m) (repL21 m 0 (byteOf x)) := by
    have e1 : (madeCells (Value.int .u8 0).cells (m * 1)).toList = (repL21 m 0 (byteOf x)).map bv := by
      show (madeCells #[Value.int .u8 0] (m * 1)).toList = _
      rw [Nat.mul_one, toList_madeCells_one]
      unfold repL21
      rw [List.replicate_zero, List.nil_append, Nat.sub_zero, rep_bv21]
    rw [e1] at hown1
    unfold OwnB
    rw [repL21_len _ _ _ (Nat.zero_le _)]
    exact hown1
  clear hown1 hgrow1
  go_loopw [6] (fun ti wr => ∃ k : Nat, k ≤ m ∧ ti = .int .i64 (k : Int) ∧ OwnB wr w.heap.size 5 (.slice (some ⟨w.heap.size, 0, none⟩) m m) (repL21 m k (byteOf x)) ∧ Below w.heap.size w wr)
    (fun ti _ => m - (intOf ti).toNat)
  case atStart => exact ⟨0, Nat.zero_le _, rfl, hown0, hb1⟩
  case round =>
    obtain ⟨k, hk, rfl, hown, hb⟩ := hrel
    clear hown0 hb1
    have hl := repL21_len m k (byteOf x) hk
    by_cases hlt : k < m
    · have hstep := hide (repL21_set m k (byteOf x) hlt)
      generalize repL21 m k (byteOf x) = l at *
      have hownV : OwnV wr w.heap.size 5 (.slice (some ⟨w.heap.size, 0, none⟩) m m) (l.map bv) := by unfold OwnV; rw [List.length_map]; exact hown
      have hset := hownV.set k (.int .u8 (x : Int))
      rw [map_set21 l k x hx] at hset
      have hown2 : OwnB (wr.setCell ⟨w.heap.size, k, none⟩ (.int .u8 (x : Int))) w.heap.size 5 (.slice (some ⟨w.heap.size, 0, none⟩) m m) (l.set k (byteOf x)) := by
        unfold OwnV at hset; rw [List.length_map] at hset; exact hset
      rw [unhide hstep] at hown2
      have hcell : wr.cell? ⟨w.heap.size, k, none⟩ = some (bv (l[k]'(by omega))) := hownV.cell (by rw [List.getElem?_map, List.getElem?_eq_getElem (by omega)]; rfl)
      have hfr := hownV.frozen k
      have hb2 := hb.setCell (p := ⟨w.heap.size, k, none⟩) (Nat.le_refl _) (.int .u8 (x : Int))
      replace hset := hide hset
      replace hownV := hide hownV
      replace hown2 := hide hown2
      replace hb2 := hide hb2
      replace hown := hide hown
      clear hb
      go_wp2
      go_roundw
      case rel => exact ⟨k + 1, by omega, by go_num, unhide hown2, unhide hb2⟩
      case measure => simp [intOf]; omega
    · have hkm : k = m := by omega
      subst hkm
      have hc := run_string_owned (P := Tryz.prog) wr 73 9 5 w.heap.size _ _ Tryz.underlying73 Tryz.underlying5 Tryz.underlying9 hown
      replace hown := hide hown
      go_wp2
      go_ret
      exact ⟨by rw [unhide E]; rfl, hb⟩
set_option maxRecDepth 20000 in
set_option maxHeartbeats 2000000 in
theorem specBookNew_any (w : World) : Calls Tryz.prog 15 #[] w fun e w' => e = .returned (bkv bkNew (.slice none 0 0)) ∧ Below w.heap.size w w' := by
  have CD := fun W => specDigest_any ⟨#[]⟩ (by decide) W
  have CR := fun W => l01Long21 0 W (by decide)
  simp only [bkNew, bkv]
  rw [show (⟨(List.replicate 32 0).toArray⟩ : ByteArray) = repB21 0 from rfl]
  generalize digB ⟨#[]⟩ = wd at *
  generalize repB21 0 = ch at *
  replace CD := hide CD; replace CR := hide CR
  go_enter Tryz.func15, Tryz.ntmps15
  go_upto_region 1 with fail
  obtain ⟨W, hW, hA, hB, hs1⟩ := one_cb w #[.string ⟨#[]⟩, .int .i64 0, .slice none 0 0, .int .i64 0, .string ⟨#[]⟩, .int .i64 0] 31
  first | rw [hW] | skip
  clear hW hs1
  replace hA := hide hA; replace hB := hide hB
  go_wp2_with (first
    | (go_at_call 25; refine (unhide CD _).mono ?_; rintro e w1 ⟨rfl, hb1⟩)
    | (go_at_call 26; refine (unhide CR _).mono ?_; rintro e w2 ⟨rfl, hb2⟩
       have hA2 := ((unhide hA).step hb1).step hb2
       have T2 := hide (((unhide hB).trans (hb1.mono (unhide hB).size)).trans (hb2.mono (Nat.le_trans (unhide hB).size hb1.size))))
    | (refine wpList_store_row rfl 31 (.tmp 0) (.tmp 3) rfl w.heap.size #[.string wd, .int .i64 0, .slice none 0 0, .int .i64 0, .string ch, .int .i64 0] rfl rfl 31 _ hA2 rfl rfl (by simp [Value.oneCell']) ?_))
  have hY8 := setRow_heap _ w.heap.size _ #[.string wd, .int .i64 0, .slice none 0 0, .int .i64 0, .string ch, .int .i64 0] 31 (0, 0) hA2
  have T4 := Go.below_setRow (unhide T2) (show w.heap.size ≤ w.heap.size by omega) #[.string wd, .int .i64 0, .slice none 0 0, .int .i64 0, .string ch, .int .i64 0]
  exact bodyPost_ret (results_cb (by exact Tryz.results15) _ _ w.heap.size 31 _ _ rfl hY8 Tryz.underlying31 rfl) rfl ⟨rfl, T4⟩
theorem rep21_any (w : World) :
    Calls Tryz.prog 31 #[.string ⟨#[0]⟩, .int .i64 32] w fun e w' => e = .returned (.string (repB21 0)) ∧ Below w.heap.size w w' := by
  have h := Tryz.strings_Repeat ⟨#[byteOf 0]⟩ 32 w (by omega) (by show 1 * 32 ≤ _; omega)
  exact h
set_option maxRecDepth 20000 in
set_option maxHeartbeats 2000000 in
theorem implBookNew_any (w : World) : Calls Tryz.prog 19 #[] w fun e w' => e = .returned (bkv bkNew (.slice none 0 0)) ∧ Below w.heap.size w w' := by
  have CD := fun W => implDigest_any ⟨#[]⟩ (by decide) W
  rw [show endV (blocksW first8 ⟨#[]⟩ 0 ((⟨#[]⟩ : ByteArray).size / 64)) ((⟨#[]⟩ : ByteArray).extract (64 * ((⟨#[]⟩ : ByteArray).size / 64)) (⟨#[]⟩ : ByteArray).size) (⟨#[]⟩ : ByteArray).size = digB ⟨#[]⟩ from rfl] at CD
  have CR := fun W => rep21_any W
  simp only [bkNew, bkv]
  rw [show (⟨(List.replicate 32 0).toArray⟩ : ByteArray) = repB21 0 from rfl]
  generalize digB ⟨#[]⟩ = wd at *
  generalize repB21 0 = ch at *
  replace CD := hide CD; replace CR := hide CR
  go_enter Tryz.func19, Tryz.ntmps19
  go_upto_region 1 with fail
  obtain ⟨W, hW, hA, hB, hs1⟩ := one_cb w #[.string ⟨#[]⟩, .int .i64 0, .slice none 0 0, .int .i64 0, .string ⟨#[]⟩, .int .i64 0] 31
  first | rw [hW] | skip
  clear hW hs1
  replace hA := hide hA; replace hB := hide hB
  go_wp2_with (first
    | (go_at_call 30; refine (unhide CD _).mono ?_; rintro e w1 ⟨rfl, hb1⟩)
    | (go_at_call 31; refine (unhide CR _).mono ?_; rintro e w2 ⟨rfl, hb2⟩
       have hA2 := ((unhide hA).step hb1).step hb2
       have T2 := hide (((unhide hB).trans (hb1.mono (unhide hB).size)).trans (hb2.mono (Nat.le_trans (unhide hB).size hb1.size))))
    | (refine wpList_store_row rfl 31 (.tmp 0) (.tmp 3) rfl w.heap.size #[.string wd, .int .i64 0, .slice none 0 0, .int .i64 0, .string ch, .int .i64 0] rfl rfl 31 _ hA2 rfl rfl (by simp [Value.oneCell']) ?_))
  have hY8 := setRow_heap _ w.heap.size _ #[.string wd, .int .i64 0, .slice none 0 0, .int .i64 0, .string ch, .int .i64 0] 31 (0, 0) hA2
  have T4 := Go.below_setRow (unhide T2) (show w.heap.size ≤ w.heap.size by omega) #[.string wd, .int .i64 0, .slice none 0 0, .int .i64 0, .string ch, .int .i64 0]
  exact bodyPost_ret (results_cb (by exact Tryz.results19) _ _ w.heap.size 31 _ _ rfl hY8 Tryz.underlying31 rfl) rfl ⟨rfl, T4⟩
end Go.Proofs.YtkbbcjnickgfjabGreat

