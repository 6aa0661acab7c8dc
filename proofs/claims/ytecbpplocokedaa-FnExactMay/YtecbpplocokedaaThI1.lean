/- The project's things: what is right, flags, a byte, over the loaded program. -/
import Derived.Test.YtecbpplocokedaaThg4
namespace Go.Proofs.Ytecbpplocokedaa
open Go.RowKit
theorem idOk_yes (a : Int) (w : World) (h1 : 1 ≤ a) (h2 : a ≤ 1000) : Calls Try.prog 32 #[.int .i64 a] w fun e w' => e = .returned (.bool true) ∧ w' = w := by
  go_enter Try.func32, Try.ntmps32
  go_wp2
  go_ret
  exact ⟨rfl, rfl⟩
theorem idOk_no (a : Int) (w : World) (h : a < 1 ∨ 1000 < a) : Calls Try.prog 32 #[.int .i64 a] w fun e w' => e = .returned (.bool false) ∧ w' = w := by
  by_cases h1 : 1 ≤ a
  · have h2 : ¬ a ≤ 1000 := by omega
    clear h
    go_enter Try.func32, Try.ntmps32
    go_wp2
    go_ret
    exact ⟨rfl, rfl⟩
  · have h2 : decide (1 ≤ a) = false := by rw [decide_eq_false_iff_not]; exact h1
    clear h
    go_enter Try.func32, Try.ntmps32
    go_wp2
    go_ret
    exact ⟨rfl, rfl⟩
set_option maxRecDepth 20000 in
set_option maxHeartbeats 4000000 in
theorem implThingOk_any (x : Th) (w : World) :
    Calls Try.prog 15 #[.agg (thC x)] w fun e w' => e = .returned (.bool (thOk x)) ∧ Below w.heap.size w w' := by
  have HY := hide ((thOk_iff x).2)
  have HN := hide ((thOk_not x).2)
  generalize thOk x = r at *
  obtain ⟨id, kind, hid, fix, sgn, wrp, val, nxt⟩ := x
  unfold thC
  obtain ⟨W, hW, hC, hb, hlt⟩ := one_cb w #[.int .i64 id, .int .i64 kind, .bool hid, .bool fix, .bool sgn, .bool wrp, .string val, .int .i64 nxt] 25
  have c0 := hC.cell 0 rfl
  have c1 := hC.cell 1 rfl
  have c4 := hC.cell 4 rfl
  have c5 := hC.cell 5 rfl
  have c6 := hC.cell 6 rfl
  have c7 := hC.cell 7 rfl
  clear hC
  by_cases A1 : 1 ≤ id ∧ id ≤ 1000
  · have C1 := hide (fun W => idOk_yes id W A1.1 A1.2)
    by_cases k1 : kind = 1
    · subst k1
      by_cases hs : val.size = 32
      · by_cases hn : nxt = 0
        · subst hn
          cases sgn with
          | true =>
            obtain rfl := unhide HN (fun h => by have := (h.2.2.2.2.2.2.1 (by simp)).2; cases this)
            have hs' : ((val.size : Int) == 32) = true := by rw [beq_iff_eq]; omega
            clear HY HN A1
            go_enter Try.func15, Try.ntmps15
            go_wp2_with fail
            refine (unhide C1 W).mono ?_
            rintro e w1 ⟨rfl, hw1⟩
            subst hw1
            go_wp2
            go_ret
            exact ⟨rfl, hb⟩
          | false =>
            obtain rfl := unhide HY ⟨A1.1, A1.2, (by dsimp only; omega), (by dsimp only; omega), (by dsimp only; omega), (by dsimp only; omega), fun _ => ⟨rfl, rfl⟩, fun h => absurd rfl h, fun h => by simp at h, fun _ => hs⟩
            have hs' : ((val.size : Int) == 32) = true := by rw [beq_iff_eq]; omega
            clear HY HN A1
            go_enter Try.func15, Try.ntmps15
            go_wp2_with fail
            refine (unhide C1 W).mono ?_
            rintro e w1 ⟨rfl, hw1⟩
            subst hw1
            go_wp2
            go_ret
            exact ⟨rfl, hb⟩
        · obtain rfl := unhide HN (fun h => hn (h.2.2.2.2.2.2.1 (by simp)).1)
          have hs' : ((val.size : Int) == 32) = true := by rw [beq_iff_eq]; omega
          have hn' : (nxt == 0) = false := by rw [beq_eq_false_iff_ne]; exact hn
          clear HY HN A1
          go_enter Try.func15, Try.ntmps15
          go_wp2_with fail
          refine (unhide C1 W).mono ?_
          rintro e w1 ⟨rfl, hw1⟩
          subst hw1
          go_wp2
          go_ret
          exact ⟨rfl, hb⟩
      · obtain rfl := unhide HN (fun h => hs (h.2.2.2.2.2.2.2.2.2 (by simp)))
        have hs' : ((val.size : Int) == 32) = false := by rw [beq_eq_false_iff_ne]; omega
        clear HY HN A1
        go_enter Try.func15, Try.ntmps15
        go_wp2_with fail
        refine (unhide C1 W).mono ?_
        rintro e w1 ⟨rfl, hw1⟩
        subst hw1
        go_wp2
        go_ret
        exact ⟨rfl, hb⟩
    · by_cases k2 : kind = 2
      · subst k2
        by_cases hs : val.size = 32
        · by_cases hn : 0 ≤ nxt
          · by_cases hm : nxt ≤ 16
            · cases wrp with
              | true =>
                obtain rfl := unhide HN (fun h => by have := h.2.2.2.2.2.2.2.1 (by simp); cases this)
                have hs' : ((val.size : Int) == 32) = true := by rw [beq_iff_eq]; omega
                clear HY HN A1
                go_enter Try.func15, Try.ntmps15
                go_wp2_with fail
                refine (unhide C1 W).mono ?_
                rintro e w1 ⟨rfl, hw1⟩
                subst hw1
                go_wp2
                go_ret
                exact ⟨rfl, hb⟩
              | false =>
                obtain rfl := unhide HY ⟨A1.1, A1.2, (by dsimp only; omega), (by dsimp only; omega), hn, hm, fun h => absurd rfl h, fun _ => rfl, fun h => by simp at h, fun _ => hs⟩
                have hs' : ((val.size : Int) == 32) = true := by rw [beq_iff_eq]; omega
                clear HY HN A1
                go_enter Try.func15, Try.ntmps15
                go_wp2_with fail
                refine (unhide C1 W).mono ?_
                rintro e w1 ⟨rfl, hw1⟩
                subst hw1
                go_wp2
                go_ret
                exact ⟨rfl, hb⟩
            · obtain rfl := unhide HN (fun h => hm (h.2.2.2.2.2.1))
              have hs' : ((val.size : Int) == 32) = true := by rw [beq_iff_eq]; omega
              have hm' : decide (nxt ≤ 16) = false := by rw [decide_eq_false_iff_not]; exact hm
              clear HY HN A1
              go_enter Try.func15, Try.ntmps15
              go_wp2_with fail
              refine (unhide C1 W).mono ?_
              rintro e w1 ⟨rfl, hw1⟩
              subst hw1
              go_wp2
              go_ret
              exact ⟨rfl, hb⟩
          · obtain rfl := unhide HN (fun h => hn (h.2.2.2.2.1))
            have hs' : ((val.size : Int) == 32) = true := by rw [beq_iff_eq]; omega
            have hn' : decide (0 ≤ nxt) = false := by rw [decide_eq_false_iff_not]; exact hn
            clear HY HN A1
            go_enter Try.func15, Try.ntmps15
            go_wp2_with fail
            refine (unhide C1 W).mono ?_
            rintro e w1 ⟨rfl, hw1⟩
            subst hw1
            go_wp2
            go_ret
            exact ⟨rfl, hb⟩
        · obtain rfl := unhide HN (fun h => hs (h.2.2.2.2.2.2.2.2.2 (by simp)))
          have hs' : ((val.size : Int) == 32) = false := by rw [beq_eq_false_iff_ne]; omega
          clear HY HN A1
          go_enter Try.func15, Try.ntmps15
          go_wp2_with fail
          refine (unhide C1 W).mono ?_
          rintro e w1 ⟨rfl, hw1⟩
          subst hw1
          go_wp2
          go_ret
          exact ⟨rfl, hb⟩
      · by_cases k3 : kind = 3
        · subst k3
          by_cases hs : val.size ≤ 100
          · by_cases hn : nxt = 0
            · subst hn
              cases sgn with
              | true =>
                obtain rfl := unhide HN (fun h => by have := (h.2.2.2.2.2.2.1 (by simp)).2; cases this)
                have hs' : (val.size : Int) ≤ 100 := by omega
                clear HY HN A1
                go_enter Try.func15, Try.ntmps15
                go_wp2_with fail
                refine (unhide C1 W).mono ?_
                rintro e w1 ⟨rfl, hw1⟩
                subst hw1
                go_wp2
                go_ret
                exact ⟨rfl, hb⟩
              | false =>
                cases wrp with
                | true =>
                  obtain rfl := unhide HN (fun h => by have := h.2.2.2.2.2.2.2.1 (by simp); cases this)
                  have hs' : (val.size : Int) ≤ 100 := by omega
                  clear HY HN A1
                  go_enter Try.func15, Try.ntmps15
                  go_wp2_with fail
                  refine (unhide C1 W).mono ?_
                  rintro e w1 ⟨rfl, hw1⟩
                  subst hw1
                  go_wp2
                  go_ret
                  exact ⟨rfl, hb⟩
                | false =>
                  obtain rfl := unhide HY ⟨A1.1, A1.2, (by dsimp only; omega), (by dsimp only; omega), (by dsimp only; omega), (by dsimp only; omega), fun _ => ⟨rfl, rfl⟩, fun _ => rfl, fun _ => hs, fun h => absurd rfl h⟩
                  have hs' : (val.size : Int) ≤ 100 := by omega
                  clear HY HN A1
                  go_enter Try.func15, Try.ntmps15
                  go_wp2_with fail
                  refine (unhide C1 W).mono ?_
                  rintro e w1 ⟨rfl, hw1⟩
                  subst hw1
                  go_wp2
                  go_ret
                  exact ⟨rfl, hb⟩
            · obtain rfl := unhide HN (fun h => hn (h.2.2.2.2.2.2.1 (by simp)).1)
              have hs' : (val.size : Int) ≤ 100 := by omega
              have hn' : (nxt == 0) = false := by rw [beq_eq_false_iff_ne]; exact hn
              clear HY HN A1
              go_enter Try.func15, Try.ntmps15
              go_wp2_with fail
              refine (unhide C1 W).mono ?_
              rintro e w1 ⟨rfl, hw1⟩
              subst hw1
              go_wp2
              go_ret
              exact ⟨rfl, hb⟩
          · obtain rfl := unhide HN (fun h => hs (h.2.2.2.2.2.2.2.2.1 rfl))
            have hs1 : ¬ (val.size : Int) ≤ 100 := by omega
            have hs' : decide ((val.size : Int) ≤ 100) = false := by rw [decide_eq_false_iff_not]; omega
            clear HY HN A1
            go_enter Try.func15, Try.ntmps15
            go_wp2_with fail
            refine (unhide C1 W).mono ?_
            rintro e w1 ⟨rfl, hw1⟩
            subst hw1
            go_wp2
            go_ret
            exact ⟨rfl, hb⟩
        · obtain rfl := unhide HN (fun h => by have h1 := h.2.2.1; have h2 := h.2.2.2.1; dsimp only at h1 h2; omega)
          have k1' : (kind == 1) = false := by rw [beq_eq_false_iff_ne]; exact k1
          have k2' : (kind == 2) = false := by rw [beq_eq_false_iff_ne]; exact k2
          have k3' : (kind == 3) = false := by rw [beq_eq_false_iff_ne]; exact k3
          clear HY HN A1
          go_enter Try.func15, Try.ntmps15
          go_wp2_with fail
          refine (unhide C1 W).mono ?_
          rintro e w1 ⟨rfl, hw1⟩
          subst hw1
          go_wp2
          go_ret
          exact ⟨rfl, hb⟩
  · have C1 := hide (fun W => idOk_no id W (by omega))
    obtain rfl := unhide HN (fun h => A1 ⟨h.1, h.2.1⟩)
    clear HY HN A1
    go_enter Try.func15, Try.ntmps15
    go_wp2_with fail
    refine (unhide C1 W).mono ?_
    rintro e w1 ⟨rfl, hw1⟩
    subst hw1
    go_wp2
    go_ret
    exact ⟨rfl, hb⟩
end Go.Proofs.Ytecbpplocokedaa
