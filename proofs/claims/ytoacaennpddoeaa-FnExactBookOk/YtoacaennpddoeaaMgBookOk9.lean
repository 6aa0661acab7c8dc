/- Merged: ThI1, BkI1, LawBk. -/
import Derived.Test.YtoacaennpddoeaaMgBookOk1
import Derived.Test.YtoacaennpddoeaaMgBookOk2
import Derived.Test.YtoacaennpddoeaaMgBookOk3
import Derived.Test.YtoacaennpddoeaaMgBookOk4
import Derived.Test.YtoacaennpddoeaaMgBookOk5
import Derived.Test.YtoacaennpddoeaaMgBookOk6
import Derived.Test.YtoacaennpddoeaaMgBookOk7
import Derived.Test.YtoacaennpddoeaaMgBookOk8
/- The project's things: what is right, flags, a byte, over the loaded program. -/
namespace Go.Proofs.Ytoacaennpddoeaa
open Go.RowKit
theorem idOk_yes (a : Int) (w : World) (h1 : 1 ≤ a) (h2 : a ≤ 1000) : Calls Try.prog 75 #[.int .i64 a] w fun e w' => e = .returned (.bool true) ∧ w' = w := by
  go_enter Try.func75, Try.ntmps75
  go_wp2
  go_ret
  exact ⟨rfl, rfl⟩
theorem idOk_no (a : Int) (w : World) (h : a < 1 ∨ 1000 < a) : Calls Try.prog 75 #[.int .i64 a] w fun e w' => e = .returned (.bool false) ∧ w' = w := by
  by_cases h1 : 1 ≤ a
  · have h2 : ¬ a ≤ 1000 := by omega
    clear h
    go_enter Try.func75, Try.ntmps75
    go_wp2
    go_ret
    exact ⟨rfl, rfl⟩
  · have h2 : decide (1 ≤ a) = false := by rw [decide_eq_false_iff_not]; exact h1
    clear h
    go_enter Try.func75, Try.ntmps75
    go_wp2
    go_ret
    exact ⟨rfl, rfl⟩
set_option maxRecDepth 20000 in
set_option maxHeartbeats 4000000 in
theorem implThingOk_any (x : Th) (w : World) :
    Calls Try.prog 94 #[.agg (thC x)] w fun e w' => e = .returned (.bool (thOk x)) ∧ Below w.heap.size w w' := by
  have HY := hide ((thOk_iff x).2)
  have HN := hide ((thOk_not x).2)
  generalize thOk x = r at *
  obtain ⟨id, kind, hid, fix, sgn, wrp, val, nxt⟩ := x
  unfold thC
  obtain ⟨W, hW, hC, hb, hlt⟩ := one_cb w #[.int .i64 id, .int .i64 kind, .bool hid, .bool fix, .bool sgn, .bool wrp, .string val, .int .i64 nxt] 25
  have c0 := hC.cell 0 rfl
  have c1 := hC.cell 1 rfl
  have c4 := hC.cell 4 rfl
  have c5 := hC.cell 5 rfl
  have c6 := hC.cell 6 rfl
  have c7 := hC.cell 7 rfl
  clear hC
  by_cases A1 : 1 ≤ id ∧ id ≤ 1000
  · have C1 := hide (fun W => idOk_yes id W A1.1 A1.2)
    by_cases k1 : kind = 1
    · subst k1
      by_cases hs : val.size = 32
      · by_cases hn : nxt = 0
        · subst hn
          cases sgn with
          | true =>
            obtain rfl := unhide HN (fun h => by have := (h.2.2.2.2.2.2.1 (by simp)).2; cases this)
            have hs' : ((val.size : Int) == 32) = true := by rw [beq_iff_eq]; omega
            clear HY HN A1
            go_enter Try.func94, Try.ntmps94
            go_wp2_with fail
            refine (unhide C1 W).mono ?_
            rintro e w1 ⟨rfl, hw1⟩
            subst hw1
            go_wp2
            go_ret
            exact ⟨rfl, hb⟩
          | false =>
            obtain rfl := unhide HY ⟨A1.1, A1.2, (by dsimp only; omega), (by dsimp only; omega), (by dsimp only; omega), (by dsimp only; omega), fun _ => ⟨rfl, rfl⟩, fun h => absurd rfl h, fun h => by simp at h, fun _ => hs⟩
            have hs' : ((val.size : Int) == 32) = true := by rw [beq_iff_eq]; omega
            clear HY HN A1
            go_enter Try.func94, Try.ntmps94
            go_wp2_with fail
            refine (unhide C1 W).mono ?_
            rintro e w1 ⟨rfl, hw1⟩
            subst hw1
            go_wp2
            go_ret
            exact ⟨rfl, hb⟩
        · obtain rfl := unhide HN (fun h => hn (h.2.2.2.2.2.2.1 (by simp)).1)
          have hs' : ((val.size : Int) == 32) = true := by rw [beq_iff_eq]; omega
          have hn' : (nxt == 0) = false := by rw [beq_eq_false_iff_ne]; exact hn
          clear HY HN A1
          go_enter Try.func94, Try.ntmps94
          go_wp2_with fail
          refine (unhide C1 W).mono ?_
          rintro e w1 ⟨rfl, hw1⟩
          subst hw1
          go_wp2
          go_ret
          exact ⟨rfl, hb⟩
      · obtain rfl := unhide HN (fun h => hs (h.2.2.2.2.2.2.2.2.2 (by simp)))
        have hs' : ((val.size : Int) == 32) = false := by rw [beq_eq_false_iff_ne]; omega
        clear HY HN A1
        go_enter Try.func94, Try.ntmps94
        go_wp2_with fail
        refine (unhide C1 W).mono ?_
        rintro e w1 ⟨rfl, hw1⟩
        subst hw1
        go_wp2
        go_ret
        exact ⟨rfl, hb⟩
    · by_cases k2 : kind = 2
      · subst k2
        by_cases hs : val.size = 32
        · by_cases hn : 0 ≤ nxt
          · by_cases hm : nxt ≤ 16
            · cases wrp with
              | true =>
                obtain rfl := unhide HN (fun h => by have := h.2.2.2.2.2.2.2.1 (by simp); cases this)
                have hs' : ((val.size : Int) == 32) = true := by rw [beq_iff_eq]; omega
                clear HY HN A1
                go_enter Try.func94, Try.ntmps94
                go_wp2_with fail
                refine (unhide C1 W).mono ?_
                rintro e w1 ⟨rfl, hw1⟩
                subst hw1
                go_wp2
                go_ret
                exact ⟨rfl, hb⟩
              | false =>
                obtain rfl := unhide HY ⟨A1.1, A1.2, (by dsimp only; omega), (by dsimp only; omega), hn, hm, fun h => absurd rfl h, fun _ => rfl, fun h => by simp at h, fun _ => hs⟩
                have hs' : ((val.size : Int) == 32) = true := by rw [beq_iff_eq]; omega
                clear HY HN A1
                go_enter Try.func94, Try.ntmps94
                go_wp2_with fail
                refine (unhide C1 W).mono ?_
                rintro e w1 ⟨rfl, hw1⟩
                subst hw1
                go_wp2
                go_ret
                exact ⟨rfl, hb⟩
            · obtain rfl := unhide HN (fun h => hm (h.2.2.2.2.2.1))
              have hs' : ((val.size : Int) == 32) = true := by rw [beq_iff_eq]; omega
              have hm' : decide (nxt ≤ 16) = false := by rw [decide_eq_false_iff_not]; exact hm
              clear HY HN A1
              go_enter Try.func94, Try.ntmps94
              go_wp2_with fail
              refine (unhide C1 W).mono ?_
              rintro e w1 ⟨rfl, hw1⟩
              subst hw1
              go_wp2
              go_ret
              exact ⟨rfl, hb⟩
          · obtain rfl := unhide HN (fun h => hn (h.2.2.2.2.1))
            have hs' : ((val.size : Int) == 32) = true := by rw [beq_iff_eq]; omega
            have hn' : decide (0 ≤ nxt) = false := by rw [decide_eq_false_iff_not]; exact hn
            clear HY HN A1
            go_enter Try.func94, Try.ntmps94
            go_wp2_with fail
            refine (unhide C1 W).mono ?_
            rintro e w1 ⟨rfl, hw1⟩
            subst hw1
            go_wp2
            go_ret
            exact ⟨rfl, hb⟩
        · obtain rfl := unhide HN (fun h => hs (h.2.2.2.2.2.2.2.2.2 (by simp)))
          have hs' : ((val.size : Int) == 32) = false := by rw [beq_eq_false_iff_ne]; omega
          clear HY HN A1
          go_enter Try.func94, Try.ntmps94
          go_wp2_with fail
          refine (unhide C1 W).mono ?_
          rintro e w1 ⟨rfl, hw1⟩
          subst hw1
          go_wp2
          go_ret
          exact ⟨rfl, hb⟩
      · by_cases k3 : kind = 3
        · subst k3
          by_cases hs : val.size ≤ 100
          · by_cases hn : nxt = 0
            · subst hn
              cases sgn with
              | true =>
                obtain rfl := unhide HN (fun h => by have := (h.2.2.2.2.2.2.1 (by simp)).2; cases this)
                have hs' : (val.size : Int) ≤ 100 := by omega
                clear HY HN A1
                go_enter Try.func94, Try.ntmps94
                go_wp2_with fail
                refine (unhide C1 W).mono ?_
                rintro e w1 ⟨rfl, hw1⟩
                subst hw1
                go_wp2
                go_ret
                exact ⟨rfl, hb⟩
              | false =>
                cases wrp with
                | true =>
                  obtain rfl := unhide HN (fun h => by have := h.2.2.2.2.2.2.2.1 (by simp); cases this)
                  have hs' : (val.size : Int) ≤ 100 := by omega
                  clear HY HN A1
                  go_enter Try.func94, Try.ntmps94
                  go_wp2_with fail
                  refine (unhide C1 W).mono ?_
                  rintro e w1 ⟨rfl, hw1⟩
                  subst hw1
                  go_wp2
                  go_ret
                  exact ⟨rfl, hb⟩
                | false =>
                  obtain rfl := unhide HY ⟨A1.1, A1.2, (by dsimp only; omega), (by dsimp only; omega), (by dsimp only; omega), (by dsimp only; omega), fun _ => ⟨rfl, rfl⟩, fun _ => rfl, fun _ => hs, fun h => absurd rfl h⟩
                  have hs' : (val.size : Int) ≤ 100 := by omega
                  clear HY HN A1
                  go_enter Try.func94, Try.ntmps94
                  go_wp2_with fail
                  refine (unhide C1 W).mono ?_
                  rintro e w1 ⟨rfl, hw1⟩
                  subst hw1
                  go_wp2
                  go_ret
                  exact ⟨rfl, hb⟩
            · obtain rfl := unhide HN (fun h => hn (h.2.2.2.2.2.2.1 (by simp)).1)
              have hs' : (val.size : Int) ≤ 100 := by omega
              have hn' : (nxt == 0) = false := by rw [beq_eq_false_iff_ne]; exact hn
              clear HY HN A1
              go_enter Try.func94, Try.ntmps94
              go_wp2_with fail
              refine (unhide C1 W).mono ?_
              rintro e w1 ⟨rfl, hw1⟩
              subst hw1
              go_wp2
              go_ret
              exact ⟨rfl, hb⟩
          · obtain rfl := unhide HN (fun h => hs (h.2.2.2.2.2.2.2.2.1 rfl))
            have hs1 : ¬ (val.size : Int) ≤ 100 := by omega
            have hs' : decide ((val.size : Int) ≤ 100) = false := by rw [decide_eq_false_iff_not]; omega
            clear HY HN A1
            go_enter Try.func94, Try.ntmps94
            go_wp2_with fail
            refine (unhide C1 W).mono ?_
            rintro e w1 ⟨rfl, hw1⟩
            subst hw1
            go_wp2
            go_ret
            exact ⟨rfl, hb⟩
        · obtain rfl := unhide HN (fun h => by have h1 := h.2.2.1; have h2 := h.2.2.2.1; dsimp only at h1 h2; omega)
          have k1' : (kind == 1) = false := by rw [beq_eq_false_iff_ne]; exact k1
          have k2' : (kind == 2) = false := by rw [beq_eq_false_iff_ne]; exact k2
          have k3' : (kind == 3) = false := by rw [beq_eq_false_iff_ne]; exact k3
          clear HY HN A1
          go_enter Try.func94, Try.ntmps94
          go_wp2_with fail
          refine (unhide C1 W).mono ?_
          rintro e w1 ⟨rfl, hw1⟩
          subst hw1
          go_wp2
          go_ret
          exact ⟨rfl, hb⟩
  · have C1 := hide (fun W => idOk_no id W (by omega))
    obtain rfl := unhide HN (fun h => A1 ⟨h.1, h.2.1⟩)
    clear HY HN A1
    go_enter Try.func94, Try.ntmps94
    go_wp2_with fail
    refine (unhide C1 W).mono ?_
    rintro e w1 ⟨rfl, hw1⟩
    subst hw1
    go_wp2
    go_ret
    exact ⟨rfl, hb⟩
theorem flagIf_any (b : Bool) (n : Int) (w : World) :
    Calls Try.prog 133 #[.bool b, .int .u8 n] w fun e w' => e = .returned (.int .u8 (flI b n)) ∧ w' = w := by
  cases b with
  | true =>
    go_enter Try.func133, Try.ntmps133
    go_wp2
    go_ret
    exact ⟨rfl, rfl⟩
  | false =>
    go_enter Try.func133, Try.ntmps133
    go_wp2
    go_ret
    exact ⟨rfl, rfl⟩
theorem fl_or (h f s w : Bool) : bits .or .u8 (bits .or .u8 (bits .or .u8 (flI h 1) (flI f 2)) (flI s 4)) (flI w 8) = ((flN h f s w : Nat) : Int) := by
  cases h <;> cases f <;> cases s <;> cases w <;> rfl
set_option maxRecDepth 20000 in
set_option maxHeartbeats 1000000 in
theorem flags_any (x : Th) (w : World) :
    Calls Try.prog 110 #[.agg (thC x)] w fun e w' => e = .returned (.int .u8 ((fl x : Nat) : Int)) ∧ Below w.heap.size w w' := by
  have CF := hide (fun b n W => flagIf_any b n W)
  have E := fl_or x.hid x.fix x.sgn x.wrp
  have E2 : flN x.hid x.fix x.sgn x.wrp = fl x := rfl
  rw [E2] at E
  clear E2
  generalize ((fl x : Nat) : Int) = F at *
  obtain ⟨id, kind, hid, fix, sgn, wrp, val, nxt⟩ := x
  unfold thC
  simp only at E
  have q1 := hide (fun W => unhide CF hid 1 W)
  have q2 := hide (fun W => unhide CF fix 2 W)
  have q4 := hide (fun W => unhide CF sgn 4 W)
  have q8 := hide (fun W => unhide CF wrp 8 W)
  clear CF
  generalize flI hid 1 = f1 at *
  generalize flI fix 2 = f2 at *
  generalize flI sgn 4 = f4 at *
  generalize flI wrp 8 = f8 at *
  obtain ⟨W, hW, hC, hb, hlt⟩ := one_cb w #[.int .i64 id, .int .i64 kind, .bool hid, .bool fix, .bool sgn, .bool wrp, .string val, .int .i64 nxt] 25
  have c2 := hC.cell 2 rfl
  have c3 := hC.cell 3 rfl
  have c4 := hC.cell 4 rfl
  have c5 := hC.cell 5 rfl
  clear hC
  go_enter Try.func110, Try.ntmps110
  go_wp2
  go_quiet ((first | (go_at_call 133; exact Calls.quiet_of_same (unhide q1 _)) | (go_at_call 133; exact Calls.quiet_of_same (unhide q2 _)) | (go_at_call 133; exact Calls.quiet_of_same (unhide q4 _)) | (go_at_call 133; exact Calls.quiet_of_same (unhide q8 _))))
  go_wp2
  go_ret
  exact ⟨by rw [← E]; rfl, bDN hb _⟩
set_option maxRecDepth 20000 in
set_option maxHeartbeats 400000 in
theorem implByteY9_any (z : Int) (w : World) :
    Calls Try.prog 36 #[.int .i64 z] w fun e w' => e = .returned (.string (oneY z)) ∧ Below w.heap.size w w' := by
  have hx := b256_lt z
  have E := hide (show oneY z = ⟨#[UInt8.ofNat (b256 z)]⟩ from rfl)
  rw [unhide E]
  have ew : IntKind.u8.wrap z = (b256 z : Int) := by rw [IntKind.wrap_u8]; unfold b256; omega
  have ew8 : z % 256 = (b256 z : Int) := by unfold b256; omega
  generalize b256 z = x at *
  have hcv := conv_oneY w x hx
  have hb : Below w.heap.size w (w.alloc (.cells #[.int .u8 (x : Int)] 5)) := (Below.refl w.heap.size w).alloc (Nat.le_refl _) _
  go_enter Try.func36, Try.ntmps36
  go_wp2
  go_ret
  exact ⟨rfl, hb⟩
end Go.Proofs.Ytoacaennpddoeaa

/- The project's books: whether one is right, over the loaded program. -/
namespace Go.Proofs.Ytoacaennpddoeaa
open Go.RowKit
theorem thOk_pos {x : Th} (h : thOk x = true) : 0 < x.id := by
  have h1 := (thOk_iff x).1 h
  unfold ThOk at h1
  omega
set_option maxRecDepth 20000 in
set_option maxHeartbeats 4000000 in
theorem thingsOk_any (xs : List Th) (la : Int) (v : Value) (w : World) (hr : RdN thY w v xs) (hn9 : xs.length ≤ 2000000) :
    Calls Try.prog 56 #[v, .int .i64 la] w fun e w' => e = .returned (.bool (decide (xs.length ≤ 8) && thsOk la xs)) ∧ Below w.heap.size w w' := by
  obtain ⟨a, c, rfl, hc⟩ := hr.openT
  clear hr
  obtain ⟨n, hnn⟩ : ∃ n, xs.length = n := ⟨_, rfl⟩
  rw [hnn] at hn9 ⊢
  obtain ⟨ts, hts⟩ : ∃ ts, ts = thsOk la xs := ⟨_, rfl⟩
  rw [← hts]
  replace hts := hide hts
  replace hnn := hide hnn
  by_cases h8 : (8 : Int) < (n : Int)
  · have hd : decide (n ≤ 8) = false := decide_eq_false (by omega)
    rw [hd]
    go_enter Try.func56, Try.ntmps56
    go_wp2
    go_ret
    exact ⟨rfl, Below.refl _ _⟩
  · have hd : decide (n ≤ 8) = true := decide_eq_true (by omega)
    rw [hd, Bool.true_and]
    go_enter Try.func56, Try.ntmps56
    go_wp2
    go_loopw [5, 13] (fun tb ti wr => ∃ (k : Nat) (bf : Int), k ≤ n ∧ ti = .int .i64 k ∧ tb = .int .i64 bf ∧ Hid ((∀ j, j < k → TsAt la xs j) ∧ (k = 0 → bf = 0) ∧ (∀ i p, k = i + 1 → xs[i]? = some p → bf = p.id)) ∧ Below w.heap.size w wr) (fun _ ti _ => n - (intOf ti).toNat)
    case atStart => exact ⟨0, 0, Nat.zero_le _, rfl, rfl, ⟨fun j hj => by omega, fun _ => rfl, fun i p hi _ => by omega⟩, Below.refl _ _⟩
    case round =>
      obtain ⟨k, bf, hk, rfl, rfl, hok, hb⟩ := hrel
      have hss := hb.size
      by_cases hlt : k < n
      · have hk' : k < xs.length := by rw [unhide hnn]; exact hlt
        obtain ⟨f, hf⟩ : ∃ f, xs[k]? = some f := ⟨xs[k], List.getElem?_eq_getElem hk'⟩
        obtain ⟨g, o, rfl, hg, hat⟩ := hc k f hf
        have hA := hat.below hb hg
        obtain ⟨d0, d1, d2, d3, d4, d5, d6, d7⟩ := AtN.th hA
        have hlk : (k : Int) < (n : Int) := by omega
        have hi0 : (0 : Int) ≤ (k : Int) := by omega
        have C := hide (fun W => implThingOk_any f W)
        obtain ⟨of, hof⟩ : ∃ of, of = thOk f := ⟨_, rfl⟩
        rw [← hof] at C
        replace hof := hide hof
        replace hf := hide hf
        have GD : of = true → bf < f.id → f.id ≤ la → ((∀ j, j < k + 1 → TsAt la xs j) ∧ (k + 1 = 0 → f.id = 0) ∧ (∀ i p, k + 1 = i + 1 → xs[i]? = some p → f.id = p.id)) := by
          intro h1 h2 h3
          have hh := unhide hok
          refine ⟨fun j hj => ?_, fun h => by omega, fun i p hi hp => ?_⟩
          · rcases Nat.lt_or_ge j k with h | h
            · exact hh.1 j h
            · obtain rfl : j = k := by omega
              exact tsAt_mk (unhide hf) (by rw [← unhide hof]; exact h1) h3 (fun i p hi hp => by rw [← hh.2.2 i p hi hp]; exact h2)
          · obtain rfl : i = k := by omega
            have := unhide hf
            rw [this] at hp
            rw [Option.some.inj hp]
        have BD : (of = false ∨ f.id ≤ bf ∨ la < f.id) → ts = false := by
          intro h
          rw [unhide hts]
          refine thsOk_no (j := k) (fun hT => ?_)
          have hh := unhide hok
          obtain ⟨q1, q2, q3⟩ := hT _ (unhide hf)
          rcases h with h | h | h
          · rw [unhide hof, q1] at h; cases h
          · cases k with
            | zero => have := hh.2.1 rfl; have := thOk_pos q1; omega
            | succ i =>
              have hi : i < xs.length := by omega
              have hp := List.getElem?_eq_getElem hi
              have e1 := hh.2.2 i _ rfl hp
              have e2 := q3 i _ rfl hp
              omega
          · omega
        replace GD := hide GD; replace BD := hide BD
        obtain ⟨id, kind, hid, fix, sgn, wrp, val, nxt⟩ := f
        dsimp only at d0 d1 d2 d3 d4 d5 d6 d7
        clear hc hat hA hok
        go_wp2_with fail
        obtain ⟨W, hW, hX, hB, hs1⟩ := one_cb wr #[.int .i64 id, .int .i64 kind, .bool hid, .bool fix, .bool sgn, .bool wrp, .string val, .int .i64 nxt] 25
        first | rw [hW] | skip
        clear hW d0 d1 d2 d3 d4 d5 d6 d7
        refine (unhide C _).mono ?_
        rintro e w1 ⟨rfl, hb1⟩
        have x0 := (hX.step hb1).cell 0 (v := .int .i64 id) rfl
        have T1 := hb.trans ((hB.trans (hb1.mono hB.size)).mono hss)
        clear hX hB hb1 C hb
        cases of with
        | false =>
          have E := unhide BD (.inl rfl)
          subst E
          go_wp2
          go_ret
          exact ⟨rfl, T1⟩
        | true =>
          by_cases c1 : id ≤ bf
          · have E := unhide BD (.inr (.inl c1))
            subst E
            go_wp2
            go_ret
            exact ⟨rfl, T1⟩
          · by_cases c2 : la < id
            · have E := unhide BD (.inr (.inr c2))
              subst E
              go_wp2
              go_ret
              exact ⟨rfl, T1⟩
            · have E := hide (unhide GD rfl (by omega) (by omega))
              go_wp2
              go_roundw
              case rel => exact ⟨k + 1, id, by omega, by go_num, rfl, unhide E, T1⟩
              case measure => simp [intOf]; omega
      · have e1 : k = n := by omega
        have HT := hide (thsOk_all (la := la) (xs := xs) (fun j hj => (unhide hok).1 j (by have := unhide hnn; omega)))
        clear hok hc
        go_wp2
        go_ret
        exact ⟨retB (by rw [unhide hts]; exact unhide HT), hb⟩
set_option maxRecDepth 20000 in
set_option maxHeartbeats 4000000 in
theorem implBookOk_any (b : Bk) (v : Value) (w : World) (hr : RdBk w v b) (hn9 : b.ths.length ≤ 2000000) (hs1 : b.wd.size ≤ 100000000) (hs2 : b.ch.size ≤ 100000000) :
    Calls Try.prog 19 #[v] w fun e w' => e = .returned (.bool (bkOk b)) ∧ Below w.heap.size w w' := by
  rw [bkOk_is]
  obtain ⟨wd, tr, ths, la, ch, ct⟩ := b
  obtain ⟨a, n, c, rfl, hn, hu⟩ := hr.open
  dsimp only at hn hu hn9 hs1 hs2 ⊢
  subst hn
  have CT := hide (fun W (h : RdN thY W (.slice a ths.length c) ths) => thingsOk_any ths la (.slice a ths.length c) W h hn9)
  obtain ⟨ts, hts⟩ : ∃ ts, ts = thsOk la ths := ⟨_, rfl⟩
  rw [← hts] at CT ⊢
  obtain ⟨l8, hl8⟩ : ∃ z, z = decide (ths.length ≤ 8) := ⟨_, rfl⟩
  rw [← hl8] at CT
  obtain ⟨hd, hhd⟩ : ∃ hd, hd = decide (BkHead ⟨wd, tr, ths, la, ch, ct⟩) := ⟨_, rfl⟩
  have HD : (hd && ts) = true ↔ (wd.size = 32 ∧ ch.size = 32 ∧ (0 ≤ tr ∧ tr ≤ 3) ∧ (l8 && ts) = true ∧ 0 ≤ la ∧ la ≤ 1000 ∧ 0 ≤ ct ∧ ct ≤ 10000) := by
    rw [Bool.and_eq_true, Bool.and_eq_true, hhd, hl8, decide_eq_true_iff, decide_eq_true_iff]
    show BkHead ⟨wd, tr, ths, la, ch, ct⟩ ∧ _ ↔ _
    unfold BkHead
    constructor
    · rintro ⟨⟨h1, h2, h3, h4, h5, h6, h7, h8, h9⟩, h10⟩; exact ⟨h1, h2, ⟨h3, h4⟩, ⟨h5, h10⟩, h6, h7, h8, h9⟩
    · rintro ⟨h1, h2, ⟨h3, h4⟩, ⟨h5, h10⟩, h6, h7, h8, h9⟩; exact ⟨⟨h1, h2, h3, h4, h5, h6, h7, h8, h9⟩, h10⟩
  rw [← hhd]
  obtain ⟨lt, hlt⟩ : ∃ z, z = (l8 && ts) := ⟨_, rfl⟩
  obtain ⟨fin, hfin⟩ : ∃ z, z = (hd && ts) := ⟨_, rfl⟩
  rw [← hlt] at CT HD
  rw [← hfin] at HD ⊢
  clear hhd hl8 hts hlt hfin
  replace HD := hide HD
  obtain ⟨W, hW, hX, hB, hs0⟩ := one_cb w #[.string wd, .int .i64 tr, .slice a ths.length c, .int .i64 la, .string ch, .int .i64 ct] 36
  have HU := hide (hu.below hB)
  have XF : ∀ W', Below W.heap.size W W' → W'.cell? ⟨w.heap.size, 3, none⟩ = some (.int .i64 la) ∧ W'.cell? ⟨w.heap.size, 5, none⟩ = some (.int .i64 ct) := fun W' h => ⟨(hX.step h).cell 3 rfl, (hX.step h).cell 5 rfl⟩
  have x0 := hX.cell 0 (v := .string wd) rfl
  have x1 := hX.cell 1 (v := .int .i64 tr) rfl
  have x2 := hX.cell 2 (v := .slice a ths.length c) rfl
  have x3 := hX.cell 3 (v := .int .i64 la) rfl
  have x4 := hX.cell 4 (v := .string ch) rfl
  clear hu hr hX
  replace hB := hide hB
  replace XF := hide XF
  go_enter Try.func19, Try.ntmps19
  go_upto_region 1 with fail
  first | rw [hW] | skip
  clear hW
  go_wp2_with (first
    | (go_at_call 56; refine (unhide CT _ (unhide HU)).mono ?_; rintro e w1 ⟨rfl, hb1⟩; obtain ⟨z3, z5⟩ := unhide XF w1 hb1; have T1 := hide ((unhide hB).trans (hb1.mono (unhide hB).size)))
    | go_in)
  all_goals
    go_ret
    refine ⟨retB ?_, ?_⟩
    · rw [Bool.eq_iff_iff, unhide HD]
      clear HD
      simp_all
      try omega
    · first | exact unhide T1 | exact unhide hB
end Go.Proofs.Ytoacaennpddoeaa

/- Exact laws over books, over the loaded program, the project's functions as premises. -/
namespace Go.Proofs.Ytoacaennpddoeaa
open Go.RowKit
set_option maxRecDepth 20000 in
set_option maxHeartbeats 4000000 in
theorem lawBookOk_any (b : Bk) (v : Value) (w : World) (hr : RdBk w v b) (hz : BkTx b) (CI : bkSz b ≤ 1048576 → ∀ (u : Value) (W : World), Below w.heap.size w W → RdBk W (bkv b u) b → Calls Try.prog 19 #[bkv b u] W fun e w' => e = .returned (.bool (bkOk b)) ∧ Below W.heap.size W w') :
    Calls Try.prog 6 #[v] w fun e w' => e = .returned (.bool true) ∧ Below w.heap.size w w' := by
  obtain ⟨a, n, c, rfl, hn, hu⟩ := hr.open
  subst hn
  have CZ := hide (fun W (h : RdBk W (bkv b (.slice a b.ths.length c)) b) => szBook_any b _ 1048576 (by omega) W h hz)
  have HU := hide hu
  replace CI := hide CI
  clear hr hu hz
  go_enter Try.func6, Try.ntmps6
  go_upto_region 1 with fail
  obtain ⟨W0, hW, hA, hB, hs1⟩ := one_cb w #[.string b.wd, .int .i64 b.tr, .slice a b.ths.length c, .int .i64 b.la, .string b.ch, .int .i64 b.ct] 50
  first | rw [hW] | skip
  clear hW hs1
  replace hA := hide hA; replace hB := hide hB
  go_upto_region 3 with (first
    | (refine wpList_load_row (P := Try.prog) rfl 50 (.tmp 1) rfl w.heap.size rfl 50 #[.string b.wd, .int .i64 b.tr, .slice a b.ths.length c, .int .i64 b.la, .string b.ch, .int .i64 b.ct] (0, 0) _ (unhide hA) Try.underlying50 rfl rfl ?_)
    | (go_at_call 27; refine (unhide CZ _ ⟨_, rfl, (unhide HU).below (unhide hB)⟩).mono ?_; rintro e w1 ⟨⟨z, rfl, hz⟩, hb1⟩))
  have hA1 := hide ((unhide hA).step hb1)
  have T1 := hide ((unhide hB).trans (hb1.mono (unhide hB).size))
  clear hb1 hA hB CZ
  rcases hz with hz | ⟨hz, hz0⟩
  · clear CI
    go_wp2
    go_ret
    exact ⟨rfl, unhide T1⟩
  have hz' : ¬ z < 0 := by omega
  have hsm : bkSz b ≤ 1048576 := by omega
  have hl9 : b.ths.length ≤ 1048576 := by unfold bkSz at hsm; omega
  have hw9 : b.wd.size ≤ 1048576 := by unfold bkSz at hsm; omega
  have hc9 : b.ch.size ≤ 1048576 := by unfold bkSz at hsm; omega
  have CI := hide (unhide CI hsm)
  clear hz hz0 hsm
  replace hz' := hide hz'
  have CT := hide (fun W (h : RdBk W (bkv b (.slice a b.ths.length c)) b) => toBook_any b _ W h hl9)
  have CE := hide (fun v1 v2 W (h1 : RdBk W v1 b) (h2 : RdBk W v2 b) => eqBook_any b v1 v2 W h1 h2 (by omega))
  have hz' := unhide hz'
  have CS := hide (fun v W (h : RdBk W v b) => specBookOk_any b v W h (by omega) (by omega) (by omega))
  generalize bkOk b = r at *
  go_upto_region 6 with (first
    | (refine wpList_load_row (P := Try.prog) rfl 50 (.tmp 1) rfl w.heap.size rfl 50 #[.string b.wd, .int .i64 b.tr, .slice a b.ths.length c, .int .i64 b.la, .string b.ch, .int .i64 b.ct] (0, 0) _ (unhide hA1) Try.underlying50 rfl rfl ?_)
    | (go_at_call 28; refine (unhide CT _ ⟨_, rfl, (unhide HU).below (unhide T1)⟩).mono ?_; rintro e w2 ⟨⟨a2, c2, rfl, o2⟩, hb2⟩)
    | (go_at_call 20; refine (unhide CS _ _ ⟨_, rfl, o2.rd⟩).mono ?_; rintro e w3 ⟨rfl, hb3⟩))
  have hb23 := hb2.trans (hb3.mono hb2.size)
  have hA3 := hide ((unhide hA1).step hb23)
  have T3 := hide ((unhide T1).trans (hb23.mono (unhide T1).size))
  clear hb2 hb3 hb23 o2 hA1 T1 CS
  go_upto_region 7 with (first
    | (refine wpList_load_row (P := Try.prog) rfl 50 (.tmp 1) rfl w.heap.size rfl 50 #[.string b.wd, .int .i64 b.tr, .slice a b.ths.length c, .int .i64 b.la, .string b.ch, .int .i64 b.ct] (0, 0) _ (unhide hA3) Try.underlying50 rfl rfl ?_)
    | (go_at_call 28; refine (unhide CT _ ⟨_, rfl, (unhide HU).below (unhide T3)⟩).mono ?_; rintro e w4 ⟨⟨a4, c4, rfl, o4⟩, hb4⟩; simp only [bkv]))
  obtain ⟨W5, hW, hX, hB, hs1⟩ := one_cb w4 #[.string b.wd, .int .i64 b.tr, .slice a4 b.ths.length c4, .int .i64 b.la, .string b.ch, .int .i64 b.ct] 36
  first | rw [hW] | skip
  clear hW hs1
  have hb45 := hb4.trans (hB.mono hb4.size)
  have hA5 := hide ((unhide hA3).step hb45)
  have T5 := hide ((unhide T3).trans (hb45.mono (unhide T3).size))
  have o5 := hide (o4.below hB)
  obtain ⟨gx, hgx⟩ : ∃ g, g = w4.heap.size := ⟨_, rfl⟩
  rw [← hgx] at hX ⊢
  replace hX := hide hX
  clear hb4 hB hb45 o4 hA3 T3 hgx
  go_upto_region 8 with (first
    | (refine wpList_load_row (P := Try.prog) rfl 36 (.tmp 5) rfl gx rfl 36 #[.string b.wd, .int .i64 b.tr, .slice a4 b.ths.length c4, .int .i64 b.la, .string b.ch, .int .i64 b.ct] (0, 0) _ (unhide hX) Try.underlying36 rfl rfl ?_)
    | (go_at_call 19; refine (unhide CI _ _ (unhide T5) ⟨_, rfl, (unhide o5).rd⟩).mono ?_; rintro e w6 ⟨rfl, hb6⟩))
  have hA6 := hide ((unhide hA5).step hb6)
  have hX6 := hide ((unhide hX).step hb6)
  have T6 := hide ((unhide T5).trans (hb6.mono (unhide T5).size))
  have o6 := hide ((unhide o5).below hb6)
  clear hb6 hA5 hX T5 o5 CI
  have KF := hide (fun W' (h : Below w6.heap.size w6 W') => (⟨(unhide hX6).step h, (unhide hA6).step h⟩ : CB W' gx 36 #[.string b.wd, .int .i64 b.tr, .slice a4 b.ths.length c4, .int .i64 b.la, .string b.ch, .int .i64 b.ct] ∧ CB W' w.heap.size 50 #[.string b.wd, .int .i64 b.tr, .slice a b.ths.length c, .int .i64 b.la, .string b.ch, .int .i64 b.ct]))
  go_upto_region 10 with fail
  refine wp_region_held_drew (S := fun W => Below w6.heap.size w6 W) (by kernel_rfl) (Below.refl _ w6).drew (fun hHeld => ?_)
  refine held_take (i := 0) 22 (v := ?vb_0) rfl rfl (by kernel_rfl) (by kernel_rfl) (by kernel_rfl) (fun _ _ _ h => h) (Or.inl ⟨by rfl, ?hyb_0⟩) hHeld ?restb_0
  case hyb_0 => (intro W hS; obtain ⟨kx, ka⟩ := unhide KF W hS; have x0 := kx.cell 0 (v := (.string _)) rfl; have x1 := kx.cell 1 (v := (.int .i64 _)) rfl; have x2 := kx.cell 2 (v := (.slice _ _ _)) rfl; have x3 := kx.cell 3 (v := (.int .i64 _)) rfl; have x4 := kx.cell 4 (v := (.string _)) rfl; have x5 := kx.cell 5 (v := (.int .i64 _)) rfl; go_simp; try with_reducible rfl)
  simp only [Act.put, List.setIfInBounds_toArray, List.set_cons_zero, List.set_cons_succ]
  refine held_take (i := 1) 23 (v := ?vb_1) rfl rfl (by kernel_rfl) (by kernel_rfl) (by kernel_rfl) (fun _ _ _ h => h) (Or.inl ⟨by rfl, ?hyb_1⟩) hHeld ?restb_1
  case hyb_1 => (intro W hS; obtain ⟨kx, ka⟩ := unhide KF W hS; have x0 := ka.cell 0 (v := (.string _)) rfl; have x1 := ka.cell 1 (v := (.int .i64 _)) rfl; have x2 := ka.cell 2 (v := (.slice _ _ _)) rfl; have x3 := ka.cell 3 (v := (.int .i64 _)) rfl; have x4 := ka.cell 4 (v := (.string _)) rfl; have x5 := ka.cell 5 (v := (.int .i64 _)) rfl; go_simp; try with_reducible rfl)
  simp only [Act.put, List.setIfInBounds_toArray, List.set_cons_zero, List.set_cons_succ]
  refine wpAnyH_ready (rs := [2]) (by kernel_rfl) (by simp) ?_
  refine AllReadyH.cons rfl (fun K hK => ?_) AllReadyH.nil
  go_simp
  refine (unhide CT _ ⟨_, rfl, (unhide HU).below ((unhide T6).trans (hHeld.mono (unhide T6).size))⟩).mono ?_
  rintro e w7 ⟨⟨a7, c7, rfl, o7⟩, hb7⟩
  refine hK.out _ _ (hHeld.trans (hb7.mono hHeld.size)) (fun hHeld => ?_)
  clear hK K hb7
  refine wpAnyH_ready (rs := [3]) (by kernel_rfl) (by simp) ?_
  refine AllReadyH.cons rfl (fun K hK => ?_) AllReadyH.nil
  go_simp
  refine (unhide CE _ _ _ ⟨_, rfl, ((unhide o6).below hHeld).rd⟩ ⟨_, rfl, o7.rd⟩).mono ?_
  rintro e w8 ⟨rfl, hb8⟩
  refine hK.out _ _ (hHeld.trans (hb8.mono hHeld.size)) (fun hHeld => ?_)
  clear hK K hb8
  refine held_take (i := 4) 26 (v := ?vb_4) rfl rfl (by kernel_rfl) (by kernel_rfl) (by kernel_rfl) (fun _ _ _ h => h) (Or.inl ⟨by rfl, ?hyb_4⟩) hHeld ?restb_4
  case hyb_4 => (intro W hS; go_simp; try with_reducible rfl)
  simp only [Act.put, List.setIfInBounds_toArray, List.set_cons_zero, List.set_cons_succ]
  refine wpAnyH_done (by kernel_rfl) ?_ _
  have T9 := (unhide T6).trans (hHeld.mono (unhide T6).size)
  clear hHeld CT CE
  go_wp2
  go_ret
  exact ⟨rfl, T9⟩
end Go.Proofs.Ytoacaennpddoeaa

