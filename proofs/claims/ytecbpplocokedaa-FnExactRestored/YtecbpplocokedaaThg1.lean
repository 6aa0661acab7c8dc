/- Things by the given model: what is right, their texts, over the loaded program. -/
import Derived.Test.YtecbpplocokedaaThg0
import Derived.Test.YtecbpplocokedaaCbx
import Derived.Test.YtecbpplocokedaaVar
import Derived.Test.YtecbpplocokedaaReadVarS
namespace Go.Proofs.Ytecbpplocokedaa
open Go.RowKit
set_option maxRecDepth 20000 in
set_option maxHeartbeats 4000000 in
theorem specThingOk_any (x : Th) (w : World) :
    Calls Try.prog 12 #[.agg (thC x)] w fun e w' => e = .returned (.bool (thOk x)) ∧ Below w.heap.size w w' := by
  have HY := hide ((thOk_iff x).2)
  have HN := hide ((thOk_not x).2)
  generalize thOk x = r at *
  obtain ⟨id, kind, hid, fix, sgn, wrp, val, nxt⟩ := x
  unfold thC
  obtain ⟨W, hW, hC, hb, hlt⟩ := one_cb w #[.int .i64 id, .int .i64 kind, .bool hid, .bool fix, .bool sgn, .bool wrp, .string val, .int .i64 nxt] 25
  have c0 := hC.cell 0 rfl
  have c1 := hC.cell 1 rfl
  have c4 := hC.cell 4 rfl
  have c5 := hC.cell 5 rfl
  have c6 := hC.cell 6 rfl
  have c7 := hC.cell 7 rfl
  clear hC
  have CY := hide (fun (a b c : Int) (h1 : b ≤ a) (h2 : a ≤ c) W => l01In_yes a b c W h1 h2)
  have CN := hide (fun (a b c : Int) (h : a < b ∨ c < a) W => l01In_no a b c W h)
  by_cases A1 : 1 ≤ id ∧ id ≤ 1000
  · have C1 := hide (unhide CY id 1 1000 A1.1 A1.2)
    by_cases A2 : 1 ≤ kind ∧ kind ≤ 3
    · have C2 := hide (unhide CY kind 1 3 A2.1 A2.2)
      by_cases A3 : 0 ≤ nxt ∧ nxt ≤ 16
      · have C3 := hide (unhide CY nxt 0 16 A3.1 A3.2)
        clear CY CN
        have hk3 : kind = 1 ∨ kind = 2 ∨ kind = 3 := by omega
        rcases hk3 with rfl | rfl | rfl
        · by_cases hn : nxt = 0
          · subst hn
            cases sgn with
            | true =>
              obtain rfl := unhide HN (fun h => by have := (h.2.2.2.2.2.2.1 (by simp)).2; cases this)
              clear HY HN A1 A2 A3
              go_enter Try.func12, Try.ntmps12
              go_wp2_with fail
              refine (unhide C1 W).mono ?_
              rintro e w1 ⟨rfl, hw1⟩
              subst hw1
              go_wp2_with fail
              refine (unhide C2 w1).mono ?_
              rintro e w2 ⟨rfl, hw2⟩
              subst hw2
              go_wp2_with fail
              refine (unhide C3 w2).mono ?_
              rintro e w3 ⟨rfl, hw3⟩
              subst hw3
              go_wp2
              go_ret
              exact ⟨rfl, hb⟩
            | false =>
              by_cases hs : val.size = 32
              · obtain rfl := unhide HY ⟨A1.1, A1.2, A2.1, A2.2, A3.1, A3.2, fun _ => ⟨rfl, rfl⟩, fun h => absurd rfl h, fun h => by simp at h, fun _ => hs⟩
                have hs' : (val.size : Int) = 32 := by omega
                clear HY HN A1 A2 A3
                go_enter Try.func12, Try.ntmps12
                go_wp2_with fail
                refine (unhide C1 W).mono ?_
                rintro e w1 ⟨rfl, hw1⟩
                subst hw1
                go_wp2_with fail
                refine (unhide C2 w1).mono ?_
                rintro e w2 ⟨rfl, hw2⟩
                subst hw2
                go_wp2_with fail
                refine (unhide C3 w2).mono ?_
                rintro e w3 ⟨rfl, hw3⟩
                subst hw3
                go_wp2
                go_ret
                exact ⟨rfl, hb⟩
              · obtain rfl := unhide HN (fun h => hs (h.2.2.2.2.2.2.2.2.2 (by simp)))
                have hs' : ((val.size : Int) == 32) = false := by rw [beq_eq_false_iff_ne]; omega
                clear HY HN A1 A2 A3
                go_enter Try.func12, Try.ntmps12
                go_wp2_with fail
                refine (unhide C1 W).mono ?_
                rintro e w1 ⟨rfl, hw1⟩
                subst hw1
                go_wp2_with fail
                refine (unhide C2 w1).mono ?_
                rintro e w2 ⟨rfl, hw2⟩
                subst hw2
                go_wp2_with fail
                refine (unhide C3 w2).mono ?_
                rintro e w3 ⟨rfl, hw3⟩
                subst hw3
                go_wp2
                go_ret
                exact ⟨rfl, hb⟩
          · obtain rfl := unhide HN (fun h => hn (h.2.2.2.2.2.2.1 (by simp)).1)
            clear HY HN A1 A2 A3
            go_enter Try.func12, Try.ntmps12
            go_wp2_with fail
            refine (unhide C1 W).mono ?_
            rintro e w1 ⟨rfl, hw1⟩
            subst hw1
            go_wp2_with fail
            refine (unhide C2 w1).mono ?_
            rintro e w2 ⟨rfl, hw2⟩
            subst hw2
            go_wp2_with fail
            refine (unhide C3 w2).mono ?_
            rintro e w3 ⟨rfl, hw3⟩
            subst hw3
            go_wp2
            go_ret
            exact ⟨rfl, hb⟩
        · cases wrp with
          | true =>
            obtain rfl := unhide HN (fun h => by have := h.2.2.2.2.2.2.2.1 (by simp); cases this)
            clear HY HN A1 A2 A3
            go_enter Try.func12, Try.ntmps12
            go_wp2_with fail
            refine (unhide C1 W).mono ?_
            rintro e w1 ⟨rfl, hw1⟩
            subst hw1
            go_wp2_with fail
            refine (unhide C2 w1).mono ?_
            rintro e w2 ⟨rfl, hw2⟩
            subst hw2
            go_wp2_with fail
            refine (unhide C3 w2).mono ?_
            rintro e w3 ⟨rfl, hw3⟩
            subst hw3
            go_wp2
            go_ret
            exact ⟨rfl, hb⟩
          | false =>
            by_cases hs : val.size = 32
            · obtain rfl := unhide HY ⟨A1.1, A1.2, A2.1, A2.2, A3.1, A3.2, fun h => absurd rfl h, fun _ => rfl, fun h => by simp at h, fun _ => hs⟩
              have hs' : (val.size : Int) = 32 := by omega
              clear HY HN A1 A2 A3
              go_enter Try.func12, Try.ntmps12
              go_wp2_with fail
              refine (unhide C1 W).mono ?_
              rintro e w1 ⟨rfl, hw1⟩
              subst hw1
              go_wp2_with fail
              refine (unhide C2 w1).mono ?_
              rintro e w2 ⟨rfl, hw2⟩
              subst hw2
              go_wp2_with fail
              refine (unhide C3 w2).mono ?_
              rintro e w3 ⟨rfl, hw3⟩
              subst hw3
              go_wp2
              go_ret
              exact ⟨rfl, hb⟩
            · obtain rfl := unhide HN (fun h => hs (h.2.2.2.2.2.2.2.2.2 (by simp)))
              have hs' : ((val.size : Int) == 32) = false := by rw [beq_eq_false_iff_ne]; omega
              clear HY HN A1 A2 A3
              go_enter Try.func12, Try.ntmps12
              go_wp2_with fail
              refine (unhide C1 W).mono ?_
              rintro e w1 ⟨rfl, hw1⟩
              subst hw1
              go_wp2_with fail
              refine (unhide C2 w1).mono ?_
              rintro e w2 ⟨rfl, hw2⟩
              subst hw2
              go_wp2_with fail
              refine (unhide C3 w2).mono ?_
              rintro e w3 ⟨rfl, hw3⟩
              subst hw3
              go_wp2
              go_ret
              exact ⟨rfl, hb⟩
        · by_cases hn : nxt = 0
          · subst hn
            cases sgn with
            | true =>
              obtain rfl := unhide HN (fun h => by have := (h.2.2.2.2.2.2.1 (by simp)).2; cases this)
              clear HY HN A1 A2 A3
              go_enter Try.func12, Try.ntmps12
              go_wp2_with fail
              refine (unhide C1 W).mono ?_
              rintro e w1 ⟨rfl, hw1⟩
              subst hw1
              go_wp2_with fail
              refine (unhide C2 w1).mono ?_
              rintro e w2 ⟨rfl, hw2⟩
              subst hw2
              go_wp2_with fail
              refine (unhide C3 w2).mono ?_
              rintro e w3 ⟨rfl, hw3⟩
              subst hw3
              go_wp2
              go_ret
              exact ⟨rfl, hb⟩
            | false =>
              cases wrp with
              | true =>
                obtain rfl := unhide HN (fun h => by have := h.2.2.2.2.2.2.2.1 (by simp); cases this)
                clear HY HN A1 A2 A3
                go_enter Try.func12, Try.ntmps12
                go_wp2_with fail
                refine (unhide C1 W).mono ?_
                rintro e w1 ⟨rfl, hw1⟩
                subst hw1
                go_wp2_with fail
                refine (unhide C2 w1).mono ?_
                rintro e w2 ⟨rfl, hw2⟩
                subst hw2
                go_wp2_with fail
                refine (unhide C3 w2).mono ?_
                rintro e w3 ⟨rfl, hw3⟩
                subst hw3
                go_wp2
                go_ret
                exact ⟨rfl, hb⟩
              | false =>
                by_cases hs : val.size ≤ 100
                · obtain rfl := unhide HY ⟨A1.1, A1.2, A2.1, A2.2, A3.1, A3.2, fun _ => ⟨rfl, rfl⟩, fun _ => rfl, fun _ => hs, fun h => absurd rfl h⟩
                  have hs' : (val.size : Int) ≤ 100 := by omega
                  clear HY HN A1 A2 A3
                  go_enter Try.func12, Try.ntmps12
                  go_wp2_with fail
                  refine (unhide C1 W).mono ?_
                  rintro e w1 ⟨rfl, hw1⟩
                  subst hw1
                  go_wp2_with fail
                  refine (unhide C2 w1).mono ?_
                  rintro e w2 ⟨rfl, hw2⟩
                  subst hw2
                  go_wp2_with fail
                  refine (unhide C3 w2).mono ?_
                  rintro e w3 ⟨rfl, hw3⟩
                  subst hw3
                  go_wp2
                  go_ret
                  exact ⟨rfl, hb⟩
                · obtain rfl := unhide HN (fun h => hs (h.2.2.2.2.2.2.2.2.1 rfl))
                  have hs' : ¬ (val.size : Int) ≤ 100 := by omega
                  have hs2 : decide ((val.size : Int) ≤ 100) = false := by rw [decide_eq_false_iff_not]; omega
                  clear HY HN A1 A2 A3
                  go_enter Try.func12, Try.ntmps12
                  go_wp2_with fail
                  refine (unhide C1 W).mono ?_
                  rintro e w1 ⟨rfl, hw1⟩
                  subst hw1
                  go_wp2_with fail
                  refine (unhide C2 w1).mono ?_
                  rintro e w2 ⟨rfl, hw2⟩
                  subst hw2
                  go_wp2_with fail
                  refine (unhide C3 w2).mono ?_
                  rintro e w3 ⟨rfl, hw3⟩
                  subst hw3
                  go_wp2
                  go_ret
                  exact ⟨rfl, hb⟩
          · obtain rfl := unhide HN (fun h => hn (h.2.2.2.2.2.2.1 (by simp)).1)
            clear HY HN A1 A2 A3
            go_enter Try.func12, Try.ntmps12
            go_wp2_with fail
            refine (unhide C1 W).mono ?_
            rintro e w1 ⟨rfl, hw1⟩
            subst hw1
            go_wp2_with fail
            refine (unhide C2 w1).mono ?_
            rintro e w2 ⟨rfl, hw2⟩
            subst hw2
            go_wp2_with fail
            refine (unhide C3 w2).mono ?_
            rintro e w3 ⟨rfl, hw3⟩
            subst hw3
            go_wp2
            go_ret
            exact ⟨rfl, hb⟩
      · have C3 := hide (unhide CN nxt 0 16 (by omega))
        clear CY CN
        obtain rfl := unhide HN (fun h => A3 ⟨h.2.2.2.2.1, h.2.2.2.2.2.1⟩)
        clear HY HN A1 A2 A3
        go_enter Try.func12, Try.ntmps12
        go_wp2_with fail
        refine (unhide C1 W).mono ?_
        rintro e w1 ⟨rfl, hw1⟩
        subst hw1
        go_wp2_with fail
        refine (unhide C2 w1).mono ?_
        rintro e w2 ⟨rfl, hw2⟩
        subst hw2
        go_wp2_with fail
        refine (unhide C3 w2).mono ?_
        rintro e w3 ⟨rfl, hw3⟩
        subst hw3
        go_wp2
        go_ret
        exact ⟨rfl, hb⟩
    · have C2 := hide (unhide CN kind 1 3 (by omega))
      clear CY CN
      obtain rfl := unhide HN (fun h => A2 ⟨h.2.2.1, h.2.2.2.1⟩)
      clear HY HN A1 A2
      go_enter Try.func12, Try.ntmps12
      go_wp2_with fail
      refine (unhide C1 W).mono ?_
      rintro e w1 ⟨rfl, hw1⟩
      subst hw1
      go_wp2_with fail
      refine (unhide C2 w1).mono ?_
      rintro e w2 ⟨rfl, hw2⟩
      subst hw2
      go_wp2
      go_ret
      exact ⟨rfl, hb⟩
  · have C1 := hide (unhide CN id 1 1000 (by omega))
    clear CY CN
    obtain rfl := unhide HN (fun h => A1 ⟨h.1, h.2.1⟩)
    clear HY HN A1
    go_enter Try.func12, Try.ntmps12
    go_wp2_with fail
    refine (unhide C1 W).mono ?_
    rintro e w1 ⟨rfl, hw1⟩
    subst hw1
    go_wp2
    go_ret
    exact ⟨rfl, hb⟩
end Go.Proofs.Ytecbpplocokedaa
