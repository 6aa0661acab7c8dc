/- The project's things: what is right, flags, a byte, over the loaded program. -/
import Derived.Test.YtjhjoaihdpahhaaThg4
namespace Go.Proofs.Ytjhjoaihdpahhaa
open Go.RowKit
theorem idOk_yes (a : Int) (w : World) (h1 : 1 ≤ a) (h2 : a ≤ 1000) : Calls Try.prog 16 #[.int .i64 a] w fun e w' => e = .returned (.bool true) ∧ w' = w := by
  go_enter Try.func16, Try.ntmps16
  go_wp2
  go_ret
  exact ⟨rfl, rfl⟩
theorem idOk_no (a : Int) (w : World) (h : a < 1 ∨ 1000 < a) : Calls Try.prog 16 #[.int .i64 a] w fun e w' => e = .returned (.bool false) ∧ w' = w := by
  by_cases h1 : 1 ≤ a
  · have h2 : ¬ a ≤ 1000 := by omega
    clear h
    go_enter Try.func16, Try.ntmps16
    go_wp2
    go_ret
    exact ⟨rfl, rfl⟩
  · have h2 : decide (1 ≤ a) = false := by rw [decide_eq_false_iff_not]; exact h1
    clear h
    go_enter Try.func16, Try.ntmps16
    go_wp2
    go_ret
    exact ⟨rfl, rfl⟩
set_option maxRecDepth 20000 in
set_option maxHeartbeats 4000000 in
theorem implThingOk_any (x : Th) (w : World) :
    Calls Try.prog 9 #[.agg (thC x)] w fun e w' => e = .returned (.bool (thOk x)) ∧ Below w.heap.size w w' := by
  have HY := hide ((thOk_iff x).2)
  have HN := hide ((thOk_not x).2)
  generalize thOk x = r at *
  obtain ⟨id, kind, hid, fix, sgn, wrp, val, nxt⟩ := x
  unfold thC
  obtain ⟨W, hW, hC, hb, hlt⟩ := one_cb w #[.int .i64 id, .int .i64 kind, .bool hid, .bool fix, .bool sgn, .bool wrp, .string val, .int .i64 nxt] 26
  have c0 := hC.cell 0 rfl
  have c1 := hC.cell 1 rfl
  have c4 := hC.cell 4 rfl
  have c5 := hC.cell 5 rfl
  have c6 := hC.cell 6 rfl
  have c7 := hC.cell 7 rfl
  clear hC
  by_cases A1 : 1 ≤ id ∧ id ≤ 1000
  · have C1 := hide (fun W => idOk_yes id W A1.1 A1.2)
    by_cases k1 : kind = 1
    · subst k1
      by_cases hs : val.size = 32
      · by_cases hn : nxt = 0
        · subst hn
          cases sgn with
          | true =>
            obtain rfl := unhide HN (fun h => by have := (h.2.2.2.2.2.2.1 (by simp)).2; cases this)
            have hs' : ((val.size : Int) == 32) = true := by rw [beq_iff_eq]; omega
            clear HY HN A1
            go_enter Try.func9, Try.ntmps9
            go_wp2_with fail
            refine (unhide C1 W).mono ?_
            rintro e w1 ⟨rfl, hw1⟩
            subst hw1
            go_wp2
            go_ret
            exact ⟨rfl, hb⟩
          | false =>
            obtain rfl := unhide HY ⟨A1.1, A1.2, (by dsimp only; omega), (by dsimp only; omega), (by dsimp only; omega), (by dsimp only; omega), fun _ => ⟨rfl, rfl⟩, fun h => absurd rfl h, fun h => by simp at h, fun _ => hs⟩
            have hs' : ((val.size : Int) == 32) = true := by rw [beq_iff_eq]; omega
            clear HY HN A1
            go_enter Try.func9, Try.ntmps9
            go_wp2_with fail
            refine (unhide C1 W).mono ?_
            rintro e w1 ⟨rfl, hw1⟩
            subst hw1
            go_wp2
            go_ret
            exact ⟨rfl, hb⟩
        · obtain rfl := unhide HN (fun h => hn (h.2.2.2.2.2.2.1 (by simp)).1)
          have hs' : ((val.size : Int) == 32) = true := by rw [beq_iff_eq]; omega
          have hn' : (nxt == 0) = false := by rw [beq_eq_false_iff_ne]; exact hn
          clear HY HN A1
          go_enter Try.func9, Try.ntmps9
          go_wp2_with fail
          refine (unhide C1 W).mono ?_
          rintro e w1 ⟨rfl, hw1⟩
          subst hw1
          go_wp2
          go_ret
          exact ⟨rfl, hb⟩
      · obtain rfl := unhide HN (fun h => hs (h.2.2.2.2.2.2.2.2.2 (by simp)))
        have hs' : ((val.size : Int) == 32) = false := by rw [beq_eq_false_iff_ne]; omega
        clear HY HN A1
        go_enter Try.func9, Try.ntmps9
        go_wp2_with fail
        refine (unhide C1 W).mono ?_
        rintro e w1 ⟨rfl, hw1⟩
        subst hw1
        go_wp2
        go_ret
        exact ⟨rfl, hb⟩
    · by_cases k2 : kind = 2
      · subst k2
        by_cases hs : val.size = 32
        · by_cases hn : 0 ≤ nxt
          · by_cases hm : nxt ≤ 16
            · cases wrp with
              | true =>
                obtain rfl := unhide HN (fun h => by have := h.2.2.2.2.2.2.2.1 (by simp); cases this)
                have hs' : ((val.size : Int) == 32) = true := by rw [beq_iff_eq]; omega
                clear HY HN A1
                go_enter Try.func9, Try.ntmps9
                go_wp2_with fail
                refine (unhide C1 W).mono ?_
                rintro e w1 ⟨rfl, hw1⟩
                subst hw1
                go_wp2
                go_ret
                exact ⟨rfl, hb⟩
              | false =>
                obtain rfl := unhide HY ⟨A1.1, A1.2, (by dsimp only; omega), (by dsimp only; omega), hn, hm, fun h => absurd rfl h, fun _ => rfl, fun h => by simp at h, fun _ => hs⟩
                have hs' : ((val.size : Int) == 32) = true := by rw [beq_iff_eq]; omega
                clear HY HN A1
                go_enter Try.func9, Try.ntmps9
                go_wp2_with fail
                refine (unhide C1 W).mono ?_
                rintro e w1 ⟨rfl, hw1⟩
                subst hw1
                go_wp2
                go_ret
                exact ⟨rfl, hb⟩
            · obtain rfl := unhide HN (fun h => hm (h.2.2.2.2.2.1))
              have hs' : ((val.size : Int) == 32) = true := by rw [beq_iff_eq]; omega
              have hm' : decide (nxt ≤ 16) = false := by rw [decide_eq_false_iff_not]; exact hm
              clear HY HN A1
              go_enter Try.func9, Try.ntmps9
              go_wp2_with fail
              refine (unhide C1 W).mono ?_
              rintro e w1 ⟨rfl, hw1⟩
              subst hw1
              go_wp2
              go_ret
              exact ⟨rfl, hb⟩
          · obtain rfl := unhide HN (fun h => hn (h.2.2.2.2.1))
            have hs' : ((val.size : Int) == 32) = true := by rw [beq_iff_eq]; omega
            have hn' : decide (0 ≤ nxt) = false := by rw [decide_eq_false_iff_not]; exact hn
            clear HY HN A1
            go_enter Try.func9, Try.ntmps9
            go_wp2_with fail
            refine (unhide C1 W).mono ?_
            rintro e w1 ⟨rfl, hw1⟩
            subst hw1
            go_wp2
            go_ret
            exact ⟨rfl, hb⟩
        · obtain rfl := unhide HN (fun h => hs (h.2.2.2.2.2.2.2.2.2 (by simp)))
          have hs' : ((val.size : Int) == 32) = false := by rw [beq_eq_false_iff_ne]; omega
          clear HY HN A1
          go_enter Try.func9, Try.ntmps9
          go_wp2_with fail
          refine (unhide C1 W).mono ?_
          rintro e w1 ⟨rfl, hw1⟩
          subst hw1
          go_wp2
          go_ret
          exact ⟨rfl, hb⟩
      · by_cases k3 : kind = 3
        · subst k3
          by_cases hs : val.size ≤ 100
          · by_cases hn : nxt = 0
            · subst hn
              cases sgn with
              | true =>
                obtain rfl := unhide HN (fun h => by have := (h.2.2.2.2.2.2.1 (by simp)).2; cases this)
                have hs' : (val.size : Int) ≤ 100 := by omega
                clear HY HN A1
                go_enter Try.func9, Try.ntmps9
                go_wp2_with fail
                refine (unhide C1 W).mono ?_
                rintro e w1 ⟨rfl, hw1⟩
                subst hw1
                go_wp2
                go_ret
                exact ⟨rfl, hb⟩
              | false =>
                cases wrp with
                | true =>
                  obtain rfl := unhide HN (fun h => by have := h.2.2.2.2.2.2.2.1 (by simp); cases this)
                  have hs' : (val.size : Int) ≤ 100 := by omega
                  clear HY HN A1
                  go_enter Try.func9, Try.ntmps9
                  go_wp2_with fail
                  refine (unhide C1 W).mono ?_
                  rintro e w1 ⟨rfl, hw1⟩
                  subst hw1
                  go_wp2
                  go_ret
                  exact ⟨rfl, hb⟩
                | false =>
                  obtain rfl := unhide HY ⟨A1.1, A1.2, (by dsimp only; omega), (by dsimp only; omega), (by dsimp only; omega), (by dsimp only; omega), fun _ => ⟨rfl, rfl⟩, fun _ => rfl, fun _ => hs, fun h => absurd rfl h⟩
                  have hs' : (val.size : Int) ≤ 100 := by omega
                  clear HY HN A1
                  go_enter Try.func9, Try.ntmps9
                  go_wp2_with fail
                  refine (unhide C1 W).mono ?_
                  rintro e w1 ⟨rfl, hw1⟩
                  subst hw1
                  go_wp2
                  go_ret
                  exact ⟨rfl, hb⟩
            · obtain rfl := unhide HN (fun h => hn (h.2.2.2.2.2.2.1 (by simp)).1)
              have hs' : (val.size : Int) ≤ 100 := by omega
              have hn' : (nxt == 0) = false := by rw [beq_eq_false_iff_ne]; exact hn
              clear HY HN A1
              go_enter Try.func9, Try.ntmps9
              go_wp2_with fail
              refine (unhide C1 W).mono ?_
              rintro e w1 ⟨rfl, hw1⟩
              subst hw1
              go_wp2
              go_ret
              exact ⟨rfl, hb⟩
          · obtain rfl := unhide HN (fun h => hs (h.2.2.2.2.2.2.2.2.1 rfl))
            have hs1 : ¬ (val.size : Int) ≤ 100 := by omega
            have hs' : decide ((val.size : Int) ≤ 100) = false := by rw [decide_eq_false_iff_not]; omega
            clear HY HN A1
            go_enter Try.func9, Try.ntmps9
            go_wp2_with fail
            refine (unhide C1 W).mono ?_
            rintro e w1 ⟨rfl, hw1⟩
            subst hw1
            go_wp2
            go_ret
            exact ⟨rfl, hb⟩
        · obtain rfl := unhide HN (fun h => by have h1 := h.2.2.1; have h2 := h.2.2.2.1; dsimp only at h1 h2; omega)
          have k1' : (kind == 1) = false := by rw [beq_eq_false_iff_ne]; exact k1
          have k2' : (kind == 2) = false := by rw [beq_eq_false_iff_ne]; exact k2
          have k3' : (kind == 3) = false := by rw [beq_eq_false_iff_ne]; exact k3
          clear HY HN A1
          go_enter Try.func9, Try.ntmps9
          go_wp2_with fail
          refine (unhide C1 W).mono ?_
          rintro e w1 ⟨rfl, hw1⟩
          subst hw1
          go_wp2
          go_ret
          exact ⟨rfl, hb⟩
  · have C1 := hide (fun W => idOk_no id W (by omega))
    obtain rfl := unhide HN (fun h => A1 ⟨h.1, h.2.1⟩)
    clear HY HN A1
    go_enter Try.func9, Try.ntmps9
    go_wp2_with fail
    refine (unhide C1 W).mono ?_
    rintro e w1 ⟨rfl, hw1⟩
    subst hw1
    go_wp2
    go_ret
    exact ⟨rfl, hb⟩
theorem flagIf_any (b : Bool) (n : Int) (w : World) :
    Calls Try.prog 29 #[.bool b, .int .u8 n] w fun e w' => e = .returned (.int .u8 (flI b n)) ∧ w' = w := by
  cases b with
  | true =>
    go_enter Try.func29, Try.ntmps29
    go_wp2
    go_ret
    exact ⟨rfl, rfl⟩
  | false =>
    go_enter Try.func29, Try.ntmps29
    go_wp2
    go_ret
    exact ⟨rfl, rfl⟩
theorem fl_or (h f s w : Bool) : bits .or .u8 (bits .or .u8 (bits .or .u8 (flI h 1) (flI f 2)) (flI s 4)) (flI w 8) = ((flN h f s w : Nat) : Int) := by
  cases h <;> cases f <;> cases s <;> cases w <;> rfl
set_option maxRecDepth 20000 in
set_option maxHeartbeats 1000000 in
theorem flags_any (x : Th) (w : World) :
    Calls Try.prog 24 #[.agg (thC x)] w fun e w' => e = .returned (.int .u8 ((fl x : Nat) : Int)) ∧ Below w.heap.size w w' := by
  have CF := hide (fun b n W => flagIf_any b n W)
  have E := fl_or x.hid x.fix x.sgn x.wrp
  have E2 : flN x.hid x.fix x.sgn x.wrp = fl x := rfl
  rw [E2] at E
  clear E2
  generalize ((fl x : Nat) : Int) = F at *
  obtain ⟨id, kind, hid, fix, sgn, wrp, val, nxt⟩ := x
  unfold thC
  simp only at E
  have q1 := hide (fun W => unhide CF hid 1 W)
  have q2 := hide (fun W => unhide CF fix 2 W)
  have q4 := hide (fun W => unhide CF sgn 4 W)
  have q8 := hide (fun W => unhide CF wrp 8 W)
  clear CF
  generalize flI hid 1 = f1 at *
  generalize flI fix 2 = f2 at *
  generalize flI sgn 4 = f4 at *
  generalize flI wrp 8 = f8 at *
  obtain ⟨W, hW, hC, hb, hlt⟩ := one_cb w #[.int .i64 id, .int .i64 kind, .bool hid, .bool fix, .bool sgn, .bool wrp, .string val, .int .i64 nxt] 26
  have c2 := hC.cell 2 rfl
  have c3 := hC.cell 3 rfl
  have c4 := hC.cell 4 rfl
  have c5 := hC.cell 5 rfl
  clear hC
  go_enter Try.func24, Try.ntmps24
  go_wp2
  go_quiet ((first | (go_at_call 29; exact Calls.quiet_of_same (unhide q1 _)) | (go_at_call 29; exact Calls.quiet_of_same (unhide q2 _)) | (go_at_call 29; exact Calls.quiet_of_same (unhide q4 _)) | (go_at_call 29; exact Calls.quiet_of_same (unhide q8 _))))
  go_wp2
  go_ret
  exact ⟨by rw [← E]; rfl, bDN hb _⟩
set_option maxRecDepth 20000 in
set_option maxHeartbeats 400000 in
theorem implByteY9_any (z : Int) (w : World) :
    Calls Try.prog 23 #[.int .i64 z] w fun e w' => e = .returned (.string (oneY z)) ∧ Below w.heap.size w w' := by
  have hx := b256_lt z
  have E := hide (show oneY z = ⟨#[UInt8.ofNat (b256 z)]⟩ from rfl)
  rw [unhide E]
  have ew : IntKind.u8.wrap z = (b256 z : Int) := by rw [IntKind.wrap_u8]; unfold b256; omega
  have ew8 : z % 256 = (b256 z : Int) := by unfold b256; omega
  generalize b256 z = x at *
  have hcv := conv_oneY w x hx
  have hb : Below w.heap.size w (w.alloc (.cells #[.int .u8 (x : Int)] 5)) := (Below.refl w.heap.size w).alloc (Nat.le_refl _) _
  go_enter Try.func23, Try.ntmps23
  go_wp2
  go_ret
  exact ⟨rfl, hb⟩
end Go.Proofs.Ytjhjoaihdpahhaa
