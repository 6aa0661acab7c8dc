/- Merged: EqR, ThI1, ThI2, Rwo, Hld, BkI3, BkI4. -/
import Derived.Test.YtkbbcjnickgfjaaMgReadRec1
import Derived.Test.YtkbbcjnickgfjaaMgReadRec2
import Derived.Test.YtkbbcjnickgfjaaMgReadRec3
import Derived.Test.YtkbbcjnickgfjaaMgReadRec4
import Derived.Test.YtkbbcjnickgfjaaMgReadRec5
import Derived.Laws.Rows
import Derived.Laws.Tables
import Derived.Laws.CopyOwn
import Derived.Laws.CopyRow
import Derived.Deep.RegionHeld3
import Derived.Deep.DeepCutAuto
import Derived.Deep.QuietTactic
import Derived.BigQuiet
/- Things and records held against each other, over the loaded program. -/
namespace Go.Proofs.Ytkbbcjnickgfjaa
open Go.RowKit
def thEq (x y : Th) : Bool := decide (x.id = y.id ∧ x.kind = y.kind ∧ x.hid = y.hid ∧ x.fix = y.fix ∧ x.sgn = y.sgn ∧ x.wrp = y.wrp ∧ x.val = y.val ∧ x.nxt = y.nxt)
def rcEq (x y : Rc) : Bool := decide (x.kd = y.kd ∧ x.tx = y.tx ∧ x.nm = y.nm ∧ thEq x.th y.th = true)
theorem thEq_iff (x y : Th) : thEq x y = true ↔ x = y := by
  unfold thEq
  rw [decide_eq_true_iff]
  obtain ⟨id, kind, hid, fix, sgn, wrp, val, nxt⟩ := x
  obtain ⟨yi, yk, yh, yf, ys, yw, yv, yn⟩ := y
  simp
theorem rcEq_iff (x y : Rc) : rcEq x y = true ↔ x = y := by
  unfold rcEq
  rw [decide_eq_true_iff, thEq_iff]
  obtain ⟨a, b, c, d⟩ := x
  obtain ⟨e, f, g, h⟩ := y
  simp
theorem toList_ne {a b : ByteArray} (h : ¬ a = b) : ¬ a.toList = b.toList := fun e => h (ByteArray.ext (Array.toList_inj.1 (by rw [← ByteArray.toList_eq, ← ByteArray.toList_eq, e])))
set_option maxRecDepth 20000 in
set_option maxHeartbeats 1600000 in
theorem eqTh_run (x y : Th) (W : World) : (binOp .eql 25 (.agg (thC x)) (.agg (thC y))).run Try.prog W = .ok (.bool (thEq x y)) W := by
  obtain ⟨id, kind, hid, fix, sgn, wrp, val, nxt⟩ := x
  obtain ⟨yi, yk, yh, yf, ys, yw, yv, yn⟩ := y
  simp only [thC]
  have HN : thEq ⟨id, kind, hid, fix, sgn, wrp, val, nxt⟩ ⟨yi, yk, yh, yf, ys, yw, yv, yn⟩ = (decide (id = yi) && (decide (kind = yk) && (decide (hid = yh) && (decide (fix = yf) && (decide (sgn = ys) && (decide (wrp = yw) && (decide (val = yv) && decide (nxt = yn)))))))) := by
    unfold thEq
    simp only [Bool.decide_and]
  rw [HN]
  by_cases h1 : id = yi
  · subst h1
    by_cases h2 : kind = yk
    · subst h2
      by_cases h3 : hid = yh
      · subst h3
        by_cases h4 : fix = yf
        · subst h4
          by_cases h5 : sgn = ys
          · subst h5
            by_cases h6 : wrp = yw
            · subst h6
              by_cases h7 : val = yv
              · subst h7
                by_cases h8 : nxt = yn
                · subst h8; go_simp
                · go_simp
              · have h9 := toList_ne h7
                go_simp
            · go_simp
          · go_simp
        · go_simp
      · go_simp
    · go_simp
  · go_simp
theorem rcGuard0 : Try.prog.eqGuardType Try.prog.depth 27 = false := by kernel_rfl
theorem guardRc (x y : Operand) (p q : Array Value) (W : World) : (eqGuard .neq 27 x y (.agg p) (.agg q)).run Try.prog W = .ok () W := run_eqGuard_agg W .neq _ x y _ _ rcGuard0
set_option maxRecDepth 20000 in
set_option maxHeartbeats 4000000 in
theorem neRc_run (x y : Rc) (W : World) : (binOp .neq 27 (.agg (rcC x)) (.agg (rcC y))).run Try.prog W = .ok (.bool (!rcEq x y)) W := by
  obtain ⟨kd, tx, nm, ⟨id, kind, hid, fix, sgn, wrp, val, nxt⟩⟩ := x
  obtain ⟨kd2, tx2, nm2, ⟨yi, yk, yh, yf, ys, yw, yv, yn⟩⟩ := y
  simp only [rcC]
  have HN : rcEq ⟨kd, tx, nm, ⟨id, kind, hid, fix, sgn, wrp, val, nxt⟩⟩ ⟨kd2, tx2, nm2, ⟨yi, yk, yh, yf, ys, yw, yv, yn⟩⟩ = (decide (kd = kd2) && (decide (tx = tx2) && (decide (nm = nm2) && (decide (id = yi) && (decide (kind = yk) && (decide (hid = yh) && (decide (fix = yf) && (decide (sgn = ys) && (decide (wrp = yw) && (decide (val = yv) && decide (nxt = yn))))))))))) := by
    unfold rcEq thEq
    simp only [Bool.decide_and, Bool.decide_eq_true]
  rw [HN]
  by_cases g1 : kd = kd2
  · subst g1
    by_cases g2 : tx = tx2
    · subst g2
      by_cases g3 : nm = nm2
      · subst g3
        by_cases h1 : id = yi
        · subst h1
          by_cases h2 : kind = yk
          · subst h2
            by_cases h3 : hid = yh
            · subst h3
              by_cases h4 : fix = yf
              · subst h4
                by_cases h5 : sgn = ys
                · subst h5
                  by_cases h6 : wrp = yw
                  · subst h6
                    by_cases h7 : val = yv
                    · subst h7
                      by_cases h8 : nxt = yn
                      · subst h8; go_simp
                      · go_simp
                    · have h9 := toList_ne h7
                      go_simp
                  · go_simp
                · go_simp
              · go_simp
            · go_simp
          · go_simp
        · go_simp
      · go_simp
    · have g9 := toList_ne g2
      go_simp
  · go_simp
end Go.Proofs.Ytkbbcjnickgfjaa

/- The project's things: what is right, flags, a byte, over the loaded program. -/
namespace Go.Proofs.Ytkbbcjnickgfjaa
open Go.RowKit
theorem idOk_yes (a : Int) (w : World) (h1 : 1 ≤ a) (h2 : a ≤ 1000) : Calls Try.prog 58 #[.int .i64 a] w fun e w' => e = .returned (.bool true) ∧ w' = w := by
  go_enter Try.func58, Try.ntmps58
  go_wp2
  go_ret
  exact ⟨rfl, rfl⟩
theorem idOk_no (a : Int) (w : World) (h : a < 1 ∨ 1000 < a) : Calls Try.prog 58 #[.int .i64 a] w fun e w' => e = .returned (.bool false) ∧ w' = w := by
  by_cases h1 : 1 ≤ a
  · have h2 : ¬ a ≤ 1000 := by omega
    clear h
    go_enter Try.func58, Try.ntmps58
    go_wp2
    go_ret
    exact ⟨rfl, rfl⟩
  · have h2 : decide (1 ≤ a) = false := by rw [decide_eq_false_iff_not]; exact h1
    clear h
    go_enter Try.func58, Try.ntmps58
    go_wp2
    go_ret
    exact ⟨rfl, rfl⟩
set_option maxRecDepth 20000 in
set_option maxHeartbeats 4000000 in
theorem implThingOk_any (x : Th) (w : World) :
    Calls Try.prog 77 #[.agg (thC x)] w fun e w' => e = .returned (.bool (thOk x)) ∧ Below w.heap.size w w' := by
  have HY := hide ((thOk_iff x).2)
  have HN := hide ((thOk_not x).2)
  generalize thOk x = r at *
  obtain ⟨id, kind, hid, fix, sgn, wrp, val, nxt⟩ := x
  unfold thC
  obtain ⟨W, hW, hC, hb, hlt⟩ := one_cb w #[.int .i64 id, .int .i64 kind, .bool hid, .bool fix, .bool sgn, .bool wrp, .string val, .int .i64 nxt] 25
  have c0 := hC.cell 0 rfl
  have c1 := hC.cell 1 rfl
  have c4 := hC.cell 4 rfl
  have c5 := hC.cell 5 rfl
  have c6 := hC.cell 6 rfl
  have c7 := hC.cell 7 rfl
  clear hC
  by_cases A1 : 1 ≤ id ∧ id ≤ 1000
  · have C1 := hide (fun W => idOk_yes id W A1.1 A1.2)
    by_cases k1 : kind = 1
    · subst k1
      by_cases hs : val.size = 32
      · by_cases hn : nxt = 0
        · subst hn
          cases sgn with
          | true =>
            obtain rfl := unhide HN (fun h => by have := (h.2.2.2.2.2.2.1 (by simp)).2; cases this)
            have hs' : ((val.size : Int) == 32) = true := by rw [beq_iff_eq]; omega
            clear HY HN A1
            go_enter Try.func77, Try.ntmps77
            go_wp2_with fail
            refine (unhide C1 W).mono ?_
            rintro e w1 ⟨rfl, hw1⟩
            subst hw1
            go_wp2
            go_ret
            exact ⟨rfl, hb⟩
          | false =>
            obtain rfl := unhide HY ⟨A1.1, A1.2, (by dsimp only; omega), (by dsimp only; omega), (by dsimp only; omega), (by dsimp only; omega), fun _ => ⟨rfl, rfl⟩, fun h => absurd rfl h, fun h => by simp at h, fun _ => hs⟩
            have hs' : ((val.size : Int) == 32) = true := by rw [beq_iff_eq]; omega
            clear HY HN A1
            go_enter Try.func77, Try.ntmps77
            go_wp2_with fail
            refine (unhide C1 W).mono ?_
            rintro e w1 ⟨rfl, hw1⟩
            subst hw1
            go_wp2
            go_ret
            exact ⟨rfl, hb⟩
        · obtain rfl := unhide HN (fun h => hn (h.2.2.2.2.2.2.1 (by simp)).1)
          have hs' : ((val.size : Int) == 32) = true := by rw [beq_iff_eq]; omega
          have hn' : (nxt == 0) = false := by rw [beq_eq_false_iff_ne]; exact hn
          clear HY HN A1
          go_enter Try.func77, Try.ntmps77
          go_wp2_with fail
          refine (unhide C1 W).mono ?_
          rintro e w1 ⟨rfl, hw1⟩
          subst hw1
          go_wp2
          go_ret
          exact ⟨rfl, hb⟩
      · obtain rfl := unhide HN (fun h => hs (h.2.2.2.2.2.2.2.2.2 (by simp)))
        have hs' : ((val.size : Int) == 32) = false := by rw [beq_eq_false_iff_ne]; omega
        clear HY HN A1
        go_enter Try.func77, Try.ntmps77
        go_wp2_with fail
        refine (unhide C1 W).mono ?_
        rintro e w1 ⟨rfl, hw1⟩
        subst hw1
        go_wp2
        go_ret
        exact ⟨rfl, hb⟩
    · by_cases k2 : kind = 2
      · subst k2
        by_cases hs : val.size = 32
        · by_cases hn : 0 ≤ nxt
          · by_cases hm : nxt ≤ 16
            · cases wrp with
              | true =>
                obtain rfl := unhide HN (fun h => by have := h.2.2.2.2.2.2.2.1 (by simp); cases this)
                have hs' : ((val.size : Int) == 32) = true := by rw [beq_iff_eq]; omega
                clear HY HN A1
                go_enter Try.func77, Try.ntmps77
                go_wp2_with fail
                refine (unhide C1 W).mono ?_
                rintro e w1 ⟨rfl, hw1⟩
                subst hw1
                go_wp2
                go_ret
                exact ⟨rfl, hb⟩
              | false =>
                obtain rfl := unhide HY ⟨A1.1, A1.2, (by dsimp only; omega), (by dsimp only; omega), hn, hm, fun h => absurd rfl h, fun _ => rfl, fun h => by simp at h, fun _ => hs⟩
                have hs' : ((val.size : Int) == 32) = true := by rw [beq_iff_eq]; omega
                clear HY HN A1
                go_enter Try.func77, Try.ntmps77
                go_wp2_with fail
                refine (unhide C1 W).mono ?_
                rintro e w1 ⟨rfl, hw1⟩
                subst hw1
                go_wp2
                go_ret
                exact ⟨rfl, hb⟩
            · obtain rfl := unhide HN (fun h => hm (h.2.2.2.2.2.1))
              have hs' : ((val.size : Int) == 32) = true := by rw [beq_iff_eq]; omega
              have hm' : decide (nxt ≤ 16) = false := by rw [decide_eq_false_iff_not]; exact hm
              clear HY HN A1
              go_enter Try.func77, Try.ntmps77
              go_wp2_with fail
              refine (unhide C1 W).mono ?_
              rintro e w1 ⟨rfl, hw1⟩
              subst hw1
              go_wp2
              go_ret
              exact ⟨rfl, hb⟩
          · obtain rfl := unhide HN (fun h => hn (h.2.2.2.2.1))
            have hs' : ((val.size : Int) == 32) = true := by rw [beq_iff_eq]; omega
            have hn' : decide (0 ≤ nxt) = false := by rw [decide_eq_false_iff_not]; exact hn
            clear HY HN A1
            go_enter Try.func77, Try.ntmps77
            go_wp2_with fail
            refine (unhide C1 W).mono ?_
            rintro e w1 ⟨rfl, hw1⟩
            subst hw1
            go_wp2
            go_ret
            exact ⟨rfl, hb⟩
        · obtain rfl := unhide HN (fun h => hs (h.2.2.2.2.2.2.2.2.2 (by simp)))
          have hs' : ((val.size : Int) == 32) = false := by rw [beq_eq_false_iff_ne]; omega
          clear HY HN A1
          go_enter Try.func77, Try.ntmps77
          go_wp2_with fail
          refine (unhide C1 W).mono ?_
          rintro e w1 ⟨rfl, hw1⟩
          subst hw1
          go_wp2
          go_ret
          exact ⟨rfl, hb⟩
      · by_cases k3 : kind = 3
        · subst k3
          by_cases hs : val.size ≤ 100
          · by_cases hn : nxt = 0
            · subst hn
              cases sgn with
              | true =>
                obtain rfl := unhide HN (fun h => by have := (h.2.2.2.2.2.2.1 (by simp)).2; cases this)
                have hs' : (val.size : Int) ≤ 100 := by omega
                clear HY HN A1
                go_enter Try.func77, Try.ntmps77
                go_wp2_with fail
                refine (unhide C1 W).mono ?_
                rintro e w1 ⟨rfl, hw1⟩
                subst hw1
                go_wp2
                go_ret
                exact ⟨rfl, hb⟩
              | false =>
                cases wrp with
                | true =>
                  obtain rfl := unhide HN (fun h => by have := h.2.2.2.2.2.2.2.1 (by simp); cases this)
                  have hs' : (val.size : Int) ≤ 100 := by omega
                  clear HY HN A1
                  go_enter Try.func77, Try.ntmps77
                  go_wp2_with fail
                  refine (unhide C1 W).mono ?_
                  rintro e w1 ⟨rfl, hw1⟩
                  subst hw1
                  go_wp2
                  go_ret
                  exact ⟨rfl, hb⟩
                | false =>
                  obtain rfl := unhide HY ⟨A1.1, A1.2, (by dsimp only; omega), (by dsimp only; omega), (by dsimp only; omega), (by dsimp only; omega), fun _ => ⟨rfl, rfl⟩, fun _ => rfl, fun _ => hs, fun h => absurd rfl h⟩
                  have hs' : (val.size : Int) ≤ 100 := by omega
                  clear HY HN A1
                  go_enter Try.func77, Try.ntmps77
                  go_wp2_with fail
                  refine (unhide C1 W).mono ?_
                  rintro e w1 ⟨rfl, hw1⟩
                  subst hw1
                  go_wp2
                  go_ret
                  exact ⟨rfl, hb⟩
            · obtain rfl := unhide HN (fun h => hn (h.2.2.2.2.2.2.1 (by simp)).1)
              have hs' : (val.size : Int) ≤ 100 := by omega
              have hn' : (nxt == 0) = false := by rw [beq_eq_false_iff_ne]; exact hn
              clear HY HN A1
              go_enter Try.func77, Try.ntmps77
              go_wp2_with fail
              refine (unhide C1 W).mono ?_
              rintro e w1 ⟨rfl, hw1⟩
              subst hw1
              go_wp2
              go_ret
              exact ⟨rfl, hb⟩
          · obtain rfl := unhide HN (fun h => hs (h.2.2.2.2.2.2.2.2.1 rfl))
            have hs1 : ¬ (val.size : Int) ≤ 100 := by omega
            have hs' : decide ((val.size : Int) ≤ 100) = false := by rw [decide_eq_false_iff_not]; omega
            clear HY HN A1
            go_enter Try.func77, Try.ntmps77
            go_wp2_with fail
            refine (unhide C1 W).mono ?_
            rintro e w1 ⟨rfl, hw1⟩
            subst hw1
            go_wp2
            go_ret
            exact ⟨rfl, hb⟩
        · obtain rfl := unhide HN (fun h => by have h1 := h.2.2.1; have h2 := h.2.2.2.1; dsimp only at h1 h2; omega)
          have k1' : (kind == 1) = false := by rw [beq_eq_false_iff_ne]; exact k1
          have k2' : (kind == 2) = false := by rw [beq_eq_false_iff_ne]; exact k2
          have k3' : (kind == 3) = false := by rw [beq_eq_false_iff_ne]; exact k3
          clear HY HN A1
          go_enter Try.func77, Try.ntmps77
          go_wp2_with fail
          refine (unhide C1 W).mono ?_
          rintro e w1 ⟨rfl, hw1⟩
          subst hw1
          go_wp2
          go_ret
          exact ⟨rfl, hb⟩
  · have C1 := hide (fun W => idOk_no id W (by omega))
    obtain rfl := unhide HN (fun h => A1 ⟨h.1, h.2.1⟩)
    clear HY HN A1
    go_enter Try.func77, Try.ntmps77
    go_wp2_with fail
    refine (unhide C1 W).mono ?_
    rintro e w1 ⟨rfl, hw1⟩
    subst hw1
    go_wp2
    go_ret
    exact ⟨rfl, hb⟩
theorem flagIf_any (b : Bool) (n : Int) (w : World) :
    Calls Try.prog 104 #[.bool b, .int .u8 n] w fun e w' => e = .returned (.int .u8 (flI b n)) ∧ w' = w := by
  cases b with
  | true =>
    go_enter Try.func104, Try.ntmps104
    go_wp2
    go_ret
    exact ⟨rfl, rfl⟩
  | false =>
    go_enter Try.func104, Try.ntmps104
    go_wp2
    go_ret
    exact ⟨rfl, rfl⟩
theorem fl_or (h f s w : Bool) : bits .or .u8 (bits .or .u8 (bits .or .u8 (flI h 1) (flI f 2)) (flI s 4)) (flI w 8) = ((flN h f s w : Nat) : Int) := by
  cases h <;> cases f <;> cases s <;> cases w <;> rfl
set_option maxRecDepth 20000 in
set_option maxHeartbeats 1000000 in
theorem flags_any (x : Th) (w : World) :
    Calls Try.prog 86 #[.agg (thC x)] w fun e w' => e = .returned (.int .u8 ((fl x : Nat) : Int)) ∧ Below w.heap.size w w' := by
  have CF := hide (fun b n W => flagIf_any b n W)
  have E := fl_or x.hid x.fix x.sgn x.wrp
  have E2 : flN x.hid x.fix x.sgn x.wrp = fl x := rfl
  rw [E2] at E
  clear E2
  generalize ((fl x : Nat) : Int) = F at *
  obtain ⟨id, kind, hid, fix, sgn, wrp, val, nxt⟩ := x
  unfold thC
  simp only at E
  have q1 := hide (fun W => unhide CF hid 1 W)
  have q2 := hide (fun W => unhide CF fix 2 W)
  have q4 := hide (fun W => unhide CF sgn 4 W)
  have q8 := hide (fun W => unhide CF wrp 8 W)
  clear CF
  generalize flI hid 1 = f1 at *
  generalize flI fix 2 = f2 at *
  generalize flI sgn 4 = f4 at *
  generalize flI wrp 8 = f8 at *
  obtain ⟨W, hW, hC, hb, hlt⟩ := one_cb w #[.int .i64 id, .int .i64 kind, .bool hid, .bool fix, .bool sgn, .bool wrp, .string val, .int .i64 nxt] 25
  have c2 := hC.cell 2 rfl
  have c3 := hC.cell 3 rfl
  have c4 := hC.cell 4 rfl
  have c5 := hC.cell 5 rfl
  clear hC
  go_enter Try.func86, Try.ntmps86
  go_wp2
  go_quiet ((first | (go_at_call 104; exact Calls.quiet_of_same (unhide q1 _)) | (go_at_call 104; exact Calls.quiet_of_same (unhide q2 _)) | (go_at_call 104; exact Calls.quiet_of_same (unhide q4 _)) | (go_at_call 104; exact Calls.quiet_of_same (unhide q8 _))))
  go_wp2
  go_ret
  exact ⟨by rw [← E]; rfl, bDN hb _⟩
set_option maxRecDepth 20000 in
set_option maxHeartbeats 400000 in
theorem implByteY9_any (z : Int) (w : World) :
    Calls Try.prog 26 #[.int .i64 z] w fun e w' => e = .returned (.string (oneY z)) ∧ Below w.heap.size w w' := by
  have hx := b256_lt z
  have E := hide (show oneY z = ⟨#[UInt8.ofNat (b256 z)]⟩ from rfl)
  rw [unhide E]
  have ew : IntKind.u8.wrap z = (b256 z : Int) := by rw [IntKind.wrap_u8]; unfold b256; omega
  have ew8 : z % 256 = (b256 z : Int) := by unfold b256; omega
  generalize b256 z = x at *
  have hcv := conv_oneY w x hx
  have hb : Below w.heap.size w (w.alloc (.cells #[.int .u8 (x : Int)] 5)) := (Below.refl w.heap.size w).alloc (Nat.le_refl _) _
  go_enter Try.func26, Try.ntmps26
  go_wp2
  go_ret
  exact ⟨rfl, hb⟩
end Go.Proofs.Ytkbbcjnickgfjaa

/- The project's things: their texts, over the loaded program. -/
namespace Go.Proofs.Ytkbbcjnickgfjaa
open Go.RowKit
set_option maxRecDepth 20000 in
set_option maxHeartbeats 400000 in
theorem implShort9_any (s : ByteArray) (hs : s.size ≤ 400) (w : World) :
    Calls Try.prog 85 #[.string s] w fun e w' => e = .returned (.tuple #[.string (shB s), .bool true]) ∧ Below w.heap.size w w' := by
  have CV := hide (fun W => implVar_yes s.size W (by omega))
  have hz : (⟨(varB s.size).toArray⟩ : ByteArray).size ≤ 3 := by
    show (varB s.size).toArray.size ≤ 3
    rw [List.size_toArray]; exact varB_len9 (by omega)
  have h1 : ¬ (20000 : Int) < (s.size : Int) := by omega
  unfold shB
  generalize (⟨(varB s.size).toArray⟩ : ByteArray) = vt at *
  have h2 : ¬ 9223372036854775807 < vt.size + s.size := by omega
  have h3 : vt.size + s.size ≤ 9223372036854775807 := by omega
  go_enter Try.func85, Try.ntmps85
  go_wp2_with fail
  refine (unhide CV w).mono ?_
  rintro e w1 ⟨rfl, hb1⟩
  clear CV
  go_wp2
  refine bodyPost_ret (v := .tuple #[.string (vt ++ s), .bool true]) (by simp [results, Try.results85, go_sem]) rfl ⟨rfl, hb1⟩
set_option maxRecDepth 20000 in
set_option maxHeartbeats 4000000 in
theorem implThingText_any (x : Th) (w : World) :
    Calls Try.prog 57 #[.agg (thC x)] w fun e w' => e = .returned (.tuple #[.string (ttB x), .bool (thOk x)]) ∧ Below w.heap.size w w' := by
  have CO := hide (fun W => implThingOk_any x W)
  cases hok : thOk x with
  | false =>
    have E : ttB x = ⟨#[]⟩ := by unfold ttB; rw [if_neg (by rw [hok]; simp)]
    rw [E]
    rw [hok] at CO
    clear hok E
    obtain ⟨id, kind, hid, fix, sgn, wrp, val, nxt⟩ := x
    unfold thC at CO ⊢
    obtain ⟨W, hW, hC, hb, hlt⟩ := one_cb w #[.int .i64 id, .int .i64 kind, .bool hid, .bool fix, .bool sgn, .bool wrp, .string val, .int .i64 nxt] 25
    have c0 := hC.cell 0 rfl
    have c1 := hC.cell 1 rfl
    have c2 := hC.cell 2 rfl
    have c3 := hC.cell 3 rfl
    have c4 := hC.cell 4 rfl
    have c5 := hC.cell 5 rfl
    have c6 := hC.cell 6 rfl
    have c7 := hC.cell 7 rfl
    clear hC
    go_enter Try.func57, Try.ntmps57
    go_wp2_with fail
    refine (unhide CO W).mono ?_
    rintro e w1 ⟨rfl, hb1⟩
    have hT := hb.trans (hb1.mono hb.size)
    clear c0 c1 c2 c3 c4 c5 c6 c7
    go_wp2
    go_ret2
    exact ⟨rfl, hT⟩
  | true =>
    have E : ttB x = thT x := by unfold ttB; rw [if_pos hok]
    have hO := (thOk_iff x).1 hok
    rw [E, thT_is hO]
    rw [hok] at CO
    have hvz : x.val.size ≤ 100 := by
      obtain ⟨i1, i2, k1, k2, n1, n2, _, _, hv3, hv2⟩ := hO
      by_cases e : x.kind = 3
      · exact hv3 e
      · have := hv2 e; omega
    have hi0 : x.id = ((x.id.toNat : Nat) : Int) := by omega
    have hn0 : x.nxt = ((x.nxt.toNat : Nat) : Int) := by omega
    have V1 := hide (fun W => implVar_yes x.id.toNat W (by omega))
    have V2 := hide (fun W => implVar_yes x.nxt.toNat W (by omega))
    have CS := hide (fun W => implShort9_any x.val (by omega) W)
    have CF := hide (fun W => flags_any x W)
    have z1 : (⟨(varB x.id.toNat).toArray⟩ : ByteArray).size ≤ 3 := by
      show (varB x.id.toNat).toArray.size ≤ 3
      rw [List.size_toArray]; exact varB_len9 (by omega)
    have z2 : (⟨(varB x.nxt.toNat).toArray⟩ : ByteArray).size ≤ 3 := by
      show (varB x.nxt.toNat).toArray.size ≤ 3
      rw [List.size_toArray]; exact varB_len9 (by omega)
    have z3 : (shB x.val).size ≤ 200 := by
      have : (⟨(varB x.val.size).toArray⟩ : ByteArray).size ≤ 3 := by
        show (varB x.val.size).toArray.size ≤ 3
        rw [List.size_toArray]; exact varB_len9 (by omega)
      unfold shB
      rw [ByteArray.size_append]; omega
    have hfl := fl_lt x
    rw [← hi0] at V1
    rw [← hn0] at V2
    obtain ⟨F, hF⟩ : ∃ F : Int, F = ((fl x : Nat) : Int) := ⟨_, rfl⟩
    rw [← hF] at CF ⊢
    have hF0 : 0 ≤ F := by omega
    have hF1 : F ≤ 15 := by omega
    have y1 := hide (fun W => implByteY9_any x.kind W)
    have y2 := hide (fun W => implByteY9_any F W)
    have zk : (oneY x.kind).size ≤ 1 := by rw [oneY_size9]; omega
    have zg : (oneY F).size ≤ 1 := by rw [oneY_size9]; omega
    clear hok E hO hvz hi0 hn0 hfl hF
    obtain ⟨id, kind, hid, fix, sgn, wrp, val, nxt⟩ := x
    unfold thC at CO CF ⊢
    simp only at V1 V2 CS z1 z2 z3 zk y1 ⊢
    generalize (⟨(varB id.toNat).toArray⟩ : ByteArray) = t1 at *
    generalize (⟨(varB nxt.toNat).toArray⟩ : ByteArray) = t2 at *
    generalize shB val = t3 at *
    obtain ⟨R, hR⟩ : ∃ R, R = t1 ++ oneY kind ++ oneY F ++ t3 ++ t2 := ⟨_, rfl⟩
    rw [← hR]
    generalize oneY kind = yk at *
    generalize oneY F = yg at *
    have u0 : IntKind.i64.wrap F = F := by rw [IntKind.wrap_i64]; omega
    have s1 : ∀ W : World, (Op.stringOp .add t1 yk).run Try.prog W = .ok (.string (t1 ++ yk)) W := fun W => run_string_add_sum W _ _ (by omega)
    have s2 : ∀ W : World, (Op.stringOp .add (t1 ++ yk) yg).run Try.prog W = .ok (.string (t1 ++ yk ++ yg)) W := fun W => run_string_add_sum W _ _ (by rw [ByteArray.size_append]; omega)
    have s3 : ∀ W : World, (Op.stringOp .add (t1 ++ yk ++ yg) t3).run Try.prog W = .ok (.string (t1 ++ yk ++ yg ++ t3)) W := fun W => run_string_add_sum W _ _ (by rw [ByteArray.size_append, ByteArray.size_append]; omega)
    have s4 : ∀ W : World, (Op.stringOp .add (t1 ++ yk ++ yg ++ t3) t2).run Try.prog W = .ok (.string (t1 ++ yk ++ yg ++ t3 ++ t2)) W := fun W => run_string_add_sum W _ _ (by rw [ByteArray.size_append, ByteArray.size_append, ByteArray.size_append]; omega)
    replace zk := hide zk; replace zg := hide zg; replace hR := hide hR; replace hF0 := hide hF0; replace hF1 := hide hF1; replace z1 := hide z1; replace z2 := hide z2; replace z3 := hide z3
    obtain ⟨W, hW, hC, hb, hlt⟩ := one_cb w #[.int .i64 id, .int .i64 kind, .bool hid, .bool fix, .bool sgn, .bool wrp, .string val, .int .i64 nxt] 25
    have c0 := hC.cell 0 rfl
    have c1 := hC.cell 1 rfl
    have c2 := hC.cell 2 rfl
    have c3 := hC.cell 3 rfl
    have c4 := hC.cell 4 rfl
    have c5 := hC.cell 5 rfl
    have c6 := hC.cell 6 rfl
    have c7 := hC.cell 7 rfl
    go_enter Try.func57, Try.ntmps57
    go_wp2_with fail
    refine (unhide CO W).mono ?_
    rintro e w1 ⟨rfl, hb1⟩
    have hT1 := hb.trans (hb1.mono hb.size)
    have hC1 := hC.step hb1
    have d0 := hC1.cell 0 rfl
    clear c0 c1 c2 c3 c4 c5 c6 c7 hC hb1 hb CO
    go_wp2_with fail
    refine (unhide V1 w1).mono ?_
    rintro e w2 ⟨rfl, hb2⟩
    have hT2 := hT1.trans (hb2.mono hT1.size)
    have hC2 := hC1.step hb2
    clear d0 hC1 hT1 hb2 V1
    have d6 := hC2.cell 6 rfl
    go_wp2_with fail
    refine (unhide CS w2).mono ?_
    rintro e w3 ⟨rfl, hb3⟩
    have hT3 := hT2.trans (hb3.mono hT2.size)
    have hC3 := hC2.step hb3
    clear d6 hC2 hT2 hb3 CS
    have d7 := hC3.cell 7 rfl
    go_wp2_with fail
    refine (unhide V2 w3).mono ?_
    rintro e w4 ⟨rfl, hb4⟩
    have hT4 := hT3.trans (hb4.mono hT3.size)
    have hC4 := hC3.step hb4
    clear d7 hC3 hT3 hb4 V2
    have e0 := hC4.cell 0 rfl
    have e1 := hC4.cell 1 rfl
    have e2 := hC4.cell 2 rfl
    have e3 := hC4.cell 3 rfl
    have e4 := hC4.cell 4 rfl
    have e5 := hC4.cell 5 rfl
    have e6 := hC4.cell 6 rfl
    have e7 := hC4.cell 7 rfl
    have hg4 := hC4.lt
    clear hC4
    have KS := hide (fun (W' : World) (h : Below w4.heap.size w4 W') => (⟨(h.cell (p := ⟨w.heap.size, 0, none⟩) hg4).trans e0, (h.cell (p := ⟨w.heap.size, 1, none⟩) hg4).trans e1, (h.cell (p := ⟨w.heap.size, 2, none⟩) hg4).trans e2, (h.cell (p := ⟨w.heap.size, 3, none⟩) hg4).trans e3, (h.cell (p := ⟨w.heap.size, 4, none⟩) hg4).trans e4, (h.cell (p := ⟨w.heap.size, 5, none⟩) hg4).trans e5, (h.cell (p := ⟨w.heap.size, 6, none⟩) hg4).trans e6, (h.cell (p := ⟨w.heap.size, 7, none⟩) hg4).trans e7⟩ : W'.cell? ⟨w.heap.size, 0, none⟩ = some (.int .i64 id) ∧ W'.cell? ⟨w.heap.size, 1, none⟩ = some (.int .i64 kind) ∧ W'.cell? ⟨w.heap.size, 2, none⟩ = some (.bool hid) ∧ W'.cell? ⟨w.heap.size, 3, none⟩ = some (.bool fix) ∧ W'.cell? ⟨w.heap.size, 4, none⟩ = some (.bool sgn) ∧ W'.cell? ⟨w.heap.size, 5, none⟩ = some (.bool wrp) ∧ W'.cell? ⟨w.heap.size, 6, none⟩ = some (.string val) ∧ W'.cell? ⟨w.heap.size, 7, none⟩ = some (.int .i64 nxt)))
    have hB0 := Below.refl w4.heap.size w4
    go_wp2
    go_region_held3 (fun W' => W'.cell? ⟨w.heap.size, 0, none⟩ = some (.int .i64 id) ∧ W'.cell? ⟨w.heap.size, 1, none⟩ = some (.int .i64 kind) ∧ W'.cell? ⟨w.heap.size, 2, none⟩ = some (.bool hid) ∧ W'.cell? ⟨w.heap.size, 3, none⟩ = some (.bool fix) ∧ W'.cell? ⟨w.heap.size, 4, none⟩ = some (.bool sgn) ∧ W'.cell? ⟨w.heap.size, 5, none⟩ = some (.bool wrp) ∧ W'.cell? ⟨w.heap.size, 6, none⟩ = some (.string val) ∧ W'.cell? ⟨w.heap.size, 7, none⟩ = some (.int .i64 nxt)) (first | exact ⟨e0, e1, e2, e3, e4, e5, e6, e7⟩ | exact (unhide KS) _ hB3 | exact (unhide KS) _ hB2 | exact (unhide KS) _ hB1 | fail) (first
      | (go_at_call 86; have hB1' := hB1; refine ((unhide CF) _).mono ?_; rintro e w6 ⟨rfl, hb2⟩; have hB2 : Below w4.heap.size w4 w6 := (by first | exact hB1.trans (hb2.mono hB1.size) | exact (bDN hB1 _).drew.trans (hb2.mono (by exact (bDN hB1 _).drew.size)) | exact hB1.drew.trans (hb2.mono (by exact hB1.drew.size)) | exact (bDN hB1 _).trans (hb2.mono (by exact (bDN hB1 _).size))))
      | (go_at_call 26; have hB2' := hB2; refine ((unhide y2) _).mono ?_; rintro e w7 ⟨rfl, hb3⟩; have hB3 : Below w4.heap.size w4 w7 := (by first | exact hB2.trans (hb3.mono hB2.size) | exact (bDN hB2 _).drew.trans (hb3.mono (by exact (bDN hB2 _).drew.size)) | exact hB2.drew.trans (hb3.mono (by exact hB2.drew.size)) | exact (bDN hB2 _).trans (hb3.mono (by exact (bDN hB2 _).size))))
      | (go_at_call 26; refine ((unhide y1) _).mono ?_; rintro e w5 ⟨rfl, hb1⟩; have hB1 : Below w4.heap.size w4 w5 := (by first | exact hB0.trans (hb1.mono hB0.size) | exact (bDN hB0 _).drew.trans (hb1.mono (by exact (bDN hB0 _).drew.size)) | exact hB0.drew.trans (hb1.mono (by exact hB0.drew.size)) | exact (bDN hB0 _).trans (hb1.mono (by exact (bDN hB0 _).size))))
      | fail)
    all_goals
      have hF := hT4.trans (hB3.mono hT4.size)
      clear hb1 hb2 hb3 hB1 hB2 hB3 KS e0 e1 e2 e3 e4 e5 e6 e7
      go_wp2
      go_ret2
      exact ⟨by rw [unhide hR]; rfl, hF⟩
end Go.Proofs.Ytkbbcjnickgfjaa

/- Laws of no program: rows of values of several cells each: one of them loaded whole, stored whole, one cell of one of them set; a row of zeros; appends inside a region that draws. -/
namespace Go.Proofs.Ytkbbcjnickgfjaa
open Go.RowKit
/-- Of a world only what is named is kept. -/
theorem wp_gen {P : Program} {c : Code} {Q : Exit → Act → World → Prop} {a : Act} {w : World} (Pr : World → Prop) (h : Pr w) (K : ∀ W, Pr W → Code.wp P c Q a W) : Code.wp P c Q a w := K w h
theorem calls_gen {P : Program} {F : FuncId} {args : Array Value} {R : Ending → World → Prop} {w : World} (Pr : World → Prop) (h : Pr w) (K : ∀ W, Pr W → Calls P F args W R) : Calls P F args w R := K w h
theorem wpList_gen {P : Program} {ops : Array Oper} {rest : List Oper} {a : Act} {Q : Exit → Act → World → Prop} {w : World} (Pr : World → Prop) (h : Pr w) (K : ∀ W, Pr W → wpList P ops Q rest a W) : wpList P ops Q rest a w := K w h
section
variable {α : Type} {L : Lay α}
theorem addr_addN (g o j : Nat) : (⟨g, o, none⟩ : Addr).add j = ⟨g, o + j, none⟩ := by unfold Addr.add; split <;> simp_all
theorem flat_set (L : Lay α) (j : Nat) (u : Value) : ∀ (xs : List α) (k : Nat) (x y : α), xs[k]? = some x → L.c y = (L.c x).set j u → j < L.m → (xs.flatMap L.c).set (k * L.m + j) u = (xs.set k y).flatMap L.c
  | [], k, x, y, h, _, _ => by simp at h
  | z :: r, 0, x, y, h, hy, hj => by
    simp only [List.getElem?_cons_zero, Option.some.injEq] at h
    subst h
    rw [Nat.zero_mul, Nat.zero_add, List.set_cons_zero, List.flatMap_cons, List.flatMap_cons, hy]
    rw [List.set_append_left _ _ (by rw [L.len]; exact hj)]
  | z :: r, k + 1, x, y, h, hy, hj => by
    have ih := flat_set L j u r k x y (by simpa using h) hy hj
    rw [List.set_cons_succ, List.flatMap_cons, List.flatMap_cons, ← ih]
    rw [List.set_append_right _ _ (by rw [L.len, Nat.succ_mul]; omega), L.len, show (k + 1) * L.m + j - L.m = k * L.m + j by rw [Nat.succ_mul]; omega]
theorem OwnN.set1 {w : World} {base g n c : Nat} {e : TypeId} {xs : List α} (h : OwnN L w base e (.slice (some ⟨g, 0, none⟩) n c) xs) {k : Nat} {x : α} (hk : xs[k]? = some x) (y : α) (j : Nat) (u : Value) (hj : j < L.m) (hy : L.c y = (L.c x).set j u) :
    OwnN L (w.setCell ⟨g, k * L.m + j, none⟩ u) base e (.slice (some ⟨g, 0, none⟩) n c) (xs.set k y) := by
  have hl := h.len
  unfold OwnN at h ⊢
  rw [List.length_set, ← flat_set L j u xs k x y hk hy hj]
  rw [hl] at h ⊢
  exact ownsRow_set h _ _
theorem set_getN {xs : List α} {k : Nat} {f : α} (h : xs[k]? = some f) (x : α) : (xs.set k x)[k]? = some x := by
  rw [List.getElem?_set]
  simp [(List.getElem?_eq_some_iff.1 h).1]
/-- What stands behind a store of several cells into a block at o. -/
def putC (l vs : List Value) (o : Nat) : List Value := l.take o ++ vs ++ l.drop (o + vs.length)
theorem flat_put (L : Lay α) : ∀ (xs : List α) (k : Nat) (y : α), k < xs.length → putC (xs.flatMap L.c) (L.c y) (k * L.m) = (xs.set k y).flatMap L.c
  | [], k, y, h => by simp at h
  | z :: r, 0, y, _ => by
    unfold putC
    rw [Nat.zero_mul, Nat.zero_add, List.take_zero, List.nil_append, List.set_cons_zero, List.flatMap_cons, List.flatMap_cons]
    rw [List.drop_append_of_le_length (by rw [L.len, L.len]; exact Nat.le_refl _)]
    rw [show (L.c z).drop (L.c y).length = [] from List.drop_of_length_le (by rw [L.len, L.len]; exact Nat.le_refl _), List.nil_append]
  | z :: r, k + 1, y, h => by
    have ih := flat_put L r k y (by simpa using h)
    unfold putC at ih ⊢
    rw [List.set_cons_succ, List.flatMap_cons, List.flatMap_cons, ← ih]
    have hz := L.len z
    have hy := L.len y
    rw [List.take_append, List.drop_append, List.take_of_length_le (by rw [hz, Nat.succ_mul]; omega), List.drop_of_length_le (by rw [hz, hy, Nat.succ_mul]; omega)]
    rw [hz, show (k + 1) * L.m - L.m = k * L.m by rw [Nat.succ_mul]; omega, show (k + 1) * L.m + (L.c y).length - L.m = k * L.m + (L.c y).length by rw [Nat.succ_mul]; omega]
    simp
theorem ownsRow_put {w : World} {base g n c : Nat} {e : TypeId} {xs : List α} (h : OwnN L w base e (.slice (some ⟨g, 0, none⟩) n c) xs) {k : Nat} (hk : k < n) (y : α) :
    ∃ cur, w.heap[g]? = some (.cells cur e (0, 0)) ∧ k * L.m + L.m ≤ cur.size ∧ OwnN L (w.setRow g (putC cur.toList (L.c y) (k * L.m)).toArray) base e (.slice (some ⟨g, 0, none⟩) n c) (xs.set k y) := by
  have hl := h.len
  unfold OwnN at h
  rcases h.2 with ⟨h1, _⟩ | ⟨g', cap, cur, h1, hb, h2, h3, h4, h5, h6⟩
  · cases h1
  · simp only [Value.slice.injEq, Option.some.injEq, Addr.mk.injEq] at h1
    obtain ⟨⟨rfl, _⟩, _, rfl⟩ := h1
    have hkm : k * L.m + L.m ≤ n * L.m := by rw [← Nat.succ_mul]; exact Nat.mul_le_mul_right _ hk
    have hnc : n * L.m ≤ cur.size := by rw [h5]; exact Nat.mul_le_mul_right _ (by omega)
    refine ⟨cur, h2, Nat.le_trans hkm hnc, ?_⟩
    unfold OwnN
    have hy := L.len y
    have hpl : (putC cur.toList (L.c y) (k * L.m)).length = cur.size := by
      unfold putC
      rw [List.length_append, List.length_append, List.length_take, List.length_drop, hy, Array.length_toList]
      omega
    have hcut : (putC cur.toList (L.c y) (k * L.m)).take (n * L.m) = (xs.set k y).flatMap L.c := by
      rw [← flat_put L xs k y (by omega)]
      have e6 : xs.flatMap L.c = cur.toList.take (n * L.m) := by rw [← hl]; exact h6.symm
      rw [e6]
      unfold putC
      rw [List.take_append, List.take_append]
      rw [List.length_append, List.length_take, hy, Array.length_toList, show min (k * L.m) cur.size = k * L.m by omega]
      rw [List.take_of_length_le (l := List.take (k * L.m) cur.toList) (by rw [List.length_take]; omega)]
      rw [List.take_of_length_le (l := L.c y) (by rw [hy]; omega)]
      rw [List.take_take, show min (k * L.m) (n * L.m) = k * L.m by omega, List.drop_take]
    refine ⟨by rw [lay_len, List.length_set], .inr ⟨g, c, (putC cur.toList (L.c y) (k * L.m)).toArray, ?_, hb, setRow_heap _ g _ _ e (0, 0) h2, by rw [List.length_set]; exact h3, h4, by rw [List.size_toArray, hpl]; exact h5, ?_⟩⟩
    · rw [List.length_set, hl]
    · rw [List.length_set, hl]; exact hcut
/-- A value of several cells loaded whole out of a place where it lies. -/
theorem run_loadVar_n {P : Program} (w : World) (g o : Nat) (ty : TypeId) (x : α) (hA : AtN L w g o x) (fs : Array Field) (hu : P.underlying ty = some (.struct fs)) (hi : (P.info? ty).map (·.size) = some L.m) :
    (loadVar ty ⟨g, o, none⟩).run P w = .ok (.agg (L.c x).toArray) w := by
  have hl : (loadCells ⟨g, o, none⟩ (L.c x).length).run P w = .ok (L.c x).toArray w :=
    run_loadCells_list (P := P) w ⟨g, o, none⟩ _ (fun j v hv => by rw [addr_addN]; exact hA j v hv)
  cases hq : P.info? ty with
  | none => simp [hq] at hi
  | some i =>
    have hs : i.size = L.m := by simpa [hq] using hi
    have hagg : (isAgg ty).run P w = .ok true w := by
      unfold isAgg
      rw [Sem.run_bind, run_underlying hu w]
      rfl
    rw [L.len] at hl
    simp [loadVar, Sem.run_bind, hagg, sizeOf, typeInfo, hq, hs, hl]
theorem run_load_n {P : Program} (w : World) (g o : Nat) (ty : TypeId) (x : α) (hA : AtN L w g o x) (fs : Array Field) (hu : P.underlying ty = some (.struct fs)) (hi : (P.info? ty).map (·.size) = some L.m) :
    (Instr.loadAt ty (.pointer (some ⟨g, o, none⟩))).run P w = .ok (.agg (L.c x).toArray) w := by
  simp only [Instr.loadAt, Instr.sureAddr, Sem.run_bind, Sem.run_pure, Result.andThen_ok, run_loadVar_n w g o ty x hA fs hu hi]
theorem wpList_load_n {P : Program} {ops : Array Oper} {rest : List Oper} {q : Oper} {a : Act} {w : World} {Q : Exit → Act → World → Prop} (hgd : q.guard = none) (ty : TypeId) (p : Operand) (ho : q.op = .load ty p)
    (g o : Nat) (hx : a.eval p = .pointer (some ⟨g, o, none⟩)) (x : α) (hA : AtN L w g o x) (fs : Array Field) (hu : P.underlying ty = some (.struct fs)) (hi : (P.info? ty).map (·.size) = some L.m)
    (h : wpList P ops Q rest (a.put q.dst (.agg (L.c x).toArray)) w) : wpList P ops Q (q :: rest) a w := by
  refine wpList_plain hgd fun _ hK => ?_
  unfold Oper.wp execOp
  simp only [ho, hx, Instr.loadAt, Instr.sureAddr, Sem.run_bind, Sem.run_pure, Result.andThen_ok, run_loadVar_n w g o ty x hA fs hu hi]
  exact hK _ _ h
theorem wpList_store_n {P : Program} {ops : Array Oper} {rest : List Oper} {q : Oper} {a : Act} {w : World} {Q : Exit → Act → World → Prop} (hgd : q.guard = none) (ty : TypeId) (p z : Operand) (ho : q.op = .store ty p z)
    {base g n c k : Nat} {e : TypeId} {xs : List α} (hx : a.eval p = .pointer (some ⟨g, k * L.m, none⟩)) (y : α) (hy : a.eval z = .agg (L.c y).toArray) (hown : OwnN L w base e (.slice (some ⟨g, 0, none⟩) n c) xs) (hk : k < n) (hi : (P.info? ty).map (·.size) = some L.m)
    (h : ∀ w', OwnN L w' base e (.slice (some ⟨g, 0, none⟩) n c) (xs.set k y) → w.grownBy w' (some g) → w'.heap.size = w.heap.size → wpList P ops Q rest (a.put q.dst undef) w') : wpList P ops Q (q :: rest) a w := by
  obtain ⟨cur, h2, hle, h3⟩ := ownsRow_put hown hk y
  have hst := run_storeCells_at P g (k * L.m) e (L.c y) 0 cur w h2 (by rw [L.len]; omega) (fun v hv => L.one y v hv)
  rw [show k * L.m + 0 = k * L.m from rfl, show cur.toList.take (k * L.m) ++ L.c y ++ cur.toList.drop (k * L.m + (L.c y).length) = putC cur.toList (L.c y) (k * L.m) from rfl] at hst
  have hG : w.grownBy (w.setRow g (putC cur.toList (L.c y) (k * L.m)).toArray) (some g) := by
    refine ⟨rfl, rfl, rfl, ?_, fun j hj hne => Go.setRow_other w g j _ (fun e => hne (by rw [e]))⟩
    have := Go.setRow_size w g (putC cur.toList (L.c y) (k * L.m)).toArray
    omega
  have hS : (w.setRow g (putC cur.toList (L.c y) (k * L.m)).toArray).heap.size = w.heap.size := Go.setRow_size w g _
  refine wpList_plain hgd fun _ hK => ?_
  unfold Oper.wp execOp
  cases hq : P.info? ty with
  | none => simp [hq] at hi
  | some i =>
    have hs : i.size = L.m := by simpa [hq] using hi
    have hst' : (storeVar ty ⟨g, k * L.m, none⟩ (.agg (L.c y).toArray)).run P w = .ok () (w.setRow g (putC cur.toList (L.c y) (k * L.m)).toArray) := by
      simp [storeVar, sizeOf, typeInfo, hq, Value.cells, hs, L.len, hst]
    simp only [ho, hx, hy, Instr.storeAt, Instr.sureAddr, Sem.run_bind, Sem.run_pure, Result.andThen_ok, hst']
    exact hK _ _ (h _ h3 hG hS)
theorem OwnN.below_at {w w' : World} {base B : Nat} {e : TypeId} {v : Value} {xs : List α} (h : OwnN L w base e v xs) (hb : Below B w w') (hB : ∀ g, v.ownBlock = some g → g < B) : OwnN L w' base e v xs := by
  refine ⟨h.1, ?_⟩
  rcases h.2 with hn | ⟨g, cap, cur, rfl, hbg, hgg, rest⟩
  · exact .inl hn
  · refine .inr ⟨g, cap, cur, rfl, hbg, ?_, rest⟩
    rw [hb.block g (hB g rfl)]
    exact hgg
/-- An older block is laid anew: the row stands. -/
theorem OwnN.setRow {w : World} {base g : Nat} {e : TypeId} {v : Value} {xs : List α} (h : OwnN L w base e v xs) (hg : g < base) (cs : Array Value) : OwnN L (w.setRow g cs) base e v xs := by
  refine ⟨h.1, ?_⟩
  rcases h.2 with hn | ⟨g', cap, cur, rfl, hbg, hgg, rest⟩
  · exact .inl hn
  · refine .inr ⟨g', cap, cur, rfl, hbg, ?_, rest⟩
    rw [Go.setRow_other w g g' cs (by omega)]
    exact hgg
theorem OwnN.open {w : World} {base : Nat} {e : TypeId} {v : Value} {xs : List α} (h : OwnN L w base e v xs) : (xs = [] ∧ ∃ a c, v = .slice a 0 c) ∨ ∃ g c, v = .slice (some ⟨g, 0, none⟩) xs.length c ∧ base ≤ g ∧ g < w.heap.size := by
  rcases h.2 with ⟨h1, h2⟩ | ⟨g, cap, cur, h1, hb, hg, _⟩
  · exact .inl ⟨List.eq_nil_of_length_eq_zero h2, none, 0, h1⟩
  · exact .inr ⟨g, cap, h1, hb, (Array.getElem?_eq_some_iff.1 hg).1⟩
theorem madeN (L : Lay α) (z : Value) (x : α) (hz : z.cells = (L.c x).toArray) (n : Nat) : (madeCells z.cells (n * L.m)).toList = (List.replicate n x).flatMap L.c := by
  rw [hz]
  unfold madeCells
  apply List.ext_getElem?
  intro j
  rw [Array.toList_map, Array.toList_range, List.getElem?_map]
  by_cases hj : j < n * L.m
  · rw [List.getElem?_range hj]
    have hq : j / L.m < n := (Nat.div_lt_iff_lt_mul L.pos).2 hj
    have hr : j % L.m < L.m := Nat.mod_lt _ L.pos
    have hx : (List.replicate n x)[j / L.m]? = some x := by rw [List.getElem?_replicate, if_pos hq]
    have hu := List.getElem?_eq_getElem (show j % L.m < (L.c x).length by rw [L.len]; exact hr)
    have h2 := lay_get (L := L) _ _ _ hx _ _ hu
    have e : j / L.m * L.m + j % L.m = j := by rw [Nat.mul_comm]; exact Nat.div_add_mod j L.m
    rw [e] at h2
    rw [h2, Option.map_some]
    have hs : (L.c x).toArray.size = L.m := by rw [List.size_toArray, L.len]
    rw [hs]
    congr 1
    rw [getElem!_pos _ _ (by rw [hs]; exact hr)]
    simp
  · rw [List.getElem?_eq_none (by simp; omega), List.getElem?_eq_none (by rw [lay_len, List.length_replicate]; omega)]
    rfl
theorem OwnN.made {w : World} {base n : Nat} {e : TypeId} {g : Nat} {z : Value} (x : α) (hz : z.cells = (L.c x).toArray) (h : w.ownsRow base e L.m (.slice (some ⟨g, 0, none⟩) n n) n (madeCells z.cells (n * L.m)).toList) :
    OwnN L w base e (.slice (some ⟨g, 0, none⟩) n n) (List.replicate n x) := by
  rw [madeN L z x hz] at h
  unfold OwnN
  rw [List.length_replicate]
  exact h
theorem take_fillN {xs : List α} {k n : Nat} {f z : α} (hf : xs[k]? = some f) (hn : xs.length = n) :
    (xs.take k ++ List.replicate (n - k) z).set k f = xs.take (k + 1) ++ List.replicate (n - (k + 1)) z := by
  have hk : k < xs.length := (List.getElem?_eq_some_iff.1 hf).1
  have hl : (xs.take k).length = k := by rw [List.length_take]; omega
  rw [List.set_append_right _ _ (by omega), hl, Nat.sub_self, show n - k = (n - (k + 1)) + 1 by omega, List.replicate_succ, List.set_cons_zero, List.take_add_one, hf, List.append_assoc]
  rfl
/-- 'out = append(out, x)' inside a region that draws its order, or outside one. -/
theorem wp_append_m {P : Program} {W : World} {o : Oper} {a : Act} {K : Act → World → Prop} {Q : Exit → Act → World → Prop} (s x : Operand) (t : TypeId)
    (ho : o.op = .call { callee := .builtin .append, args := #[s, x], argTypes := #[t, t] })
    (base B : Nat) (e : TypeId) (i : TypeInfo) (z : Value) (nb : Nat) (ht : P.underlying t = some (.slice e)) (hi : P.info? e = some i) (hz : i.zero = some z) (hsize : i.size = L.m) (hby : i.bytes = nb) (hzs : z.cells.size = L.m)
    (v : Value) (xs : List α) (hs : a.eval s = v) (hown : OwnN L W base e v xs)
    (blk : Nat) (cs : Array Value) (hblk : W.heap[blk]? = some (.cells cs e (0, 0))) (f : α) (hcs : cs.toList = L.c f) (c : Nat) (hx : a.eval x = .slice (some ⟨blk, 0, none⟩) 1 c)
    (n : Nat) (hfn : xs.length = n) (hlen : n ≤ 2000000) (hnb : nb ≤ 1000) (hB : B ≤ base) (hbase : base ≤ W.heap.size) {w00 : World} (hbel : Below B w00 W)
    (h : ∀ a' c' w', OwnN L w' base e (.slice a' (n + 1) c') (xs ++ [f]) → Below B w00 w' → (∀ k, k < W.heap.size → v.ownBlock ≠ some k → w'.heap[k]? = W.heap[k]?) → W.heap.size ≤ w'.heap.size → K (a.put o.dst (.slice a' (n + 1) c')) w') : o.wp P a W K Q := by
  subst hfn
  have hcell : ∀ j u, (L.c f)[j]? = some u → W.cell? ((⟨blk, 0, none⟩ : Addr).add j) = some u := by
    intro j u hu
    rw [addr_addN, Nat.zero_add, cell_of_row W blk j cs e (0, 0) hblk]
    rw [← hcs] at hu
    simpa using hu
  have hmul : (xs.length + 1) * nb ≤ 140737488355328 := Nat.le_trans (Nat.mul_le_mul (show xs.length + 1 ≤ 2000001 by omega) hnb) (by decide)
  refine wp_append_own W s x t ho base e i z L.m nb ht hi hz hsize hby hzs L.pos v xs.length (xs.flatMap L.c) hs hown
    ⟨blk, 0, none⟩ 1 c (L.c f) hx (by rw [L.len, Nat.one_mul]) hcell (L.one f) (by unfold maxLen; omega) hmul hbase ?_
  intro v' w' h2 h3 _
  have h2' : OwnN L w' base e v' (xs ++ [f]) := by unfold OwnN; rw [List.length_append, List.flatMap_append]; simpa using h2
  obtain ⟨a', c', rfl⟩ := h2'.shape
  rw [List.length_append] at h2' ⊢
  refine h a' c' w' h2' (hbel.grown h3 (by omega) ?_) (fun k hk hne => h3.block k hk (fun e => hne e.symm)) h3.size
  intro k hk
  have := (World.ownsRow.lt hown k hk).1
  omega
theorem wpList_append_m {P : Program} {W : World} {ops : Array Oper} {rest : List Oper} {o : Oper} {a : Act} {Q : Exit → Act → World → Prop} (hgd : o.guard = none) (s x : Operand) (t : TypeId)
    (ho : o.op = .call { callee := .builtin .append, args := #[s, x], argTypes := #[t, t] })
    (base B : Nat) (e : TypeId) (i : TypeInfo) (z : Value) (nb : Nat) (ht : P.underlying t = some (.slice e)) (hi : P.info? e = some i) (hz : i.zero = some z) (hsize : i.size = L.m) (hby : i.bytes = nb) (hzs : z.cells.size = L.m)
    (v : Value) (xs : List α) (hs : a.eval s = v) (hown : OwnN L W base e v xs)
    (blk : Nat) (cs : Array Value) (hblk : W.heap[blk]? = some (.cells cs e (0, 0))) (f : α) (hcs : cs.toList = L.c f) (c : Nat) (hx : a.eval x = .slice (some ⟨blk, 0, none⟩) 1 c)
    (n : Nat) (hfn : xs.length = n) (hlen : n ≤ 2000000) (hnb : nb ≤ 1000) (hB : B ≤ base) (hbase : base ≤ W.heap.size) {w00 : World} (hbel : Below B w00 W)
    (h : ∀ a' c' w', OwnN L w' base e (.slice a' (n + 1) c') (xs ++ [f]) → Below B w00 w' → (∀ k, k < W.heap.size → v.ownBlock ≠ some k → w'.heap[k]? = W.heap[k]?) → W.heap.size ≤ w'.heap.size → wpList P ops Q rest (a.put o.dst (.slice a' (n + 1) c')) w') :
    wpList P ops Q (o :: rest) a W :=
  wpList_plain hgd fun _ hK => wp_append_m s x t ho base B e i z nb ht hi hz hsize hby hzs v xs hs hown blk cs hblk f hcs c hx n hfn hlen hnb hB hbase hbel fun a' c' w' h2 h3 h4 h5 => hK _ _ (h a' c' w' h2 h3 h4 h5)
theorem step_append_m {P : Program} {W : World} {ops : Array Oper} {o : Oper} {a : Act} {K : Act → World → Prop} {Q : Exit → Act → World → Prop} {E : Prop} (hg : o.guard = none) (s x : Operand) (t : TypeId)
    (ho : o.op = .call { callee := .builtin .append, args := #[s, x], argTypes := #[t, t] })
    (base B : Nat) (e : TypeId) (i : TypeInfo) (z : Value) (nb : Nat) (ht : P.underlying t = some (.slice e)) (hi : P.info? e = some i) (hz : i.zero = some z) (hsize : i.size = L.m) (hby : i.bytes = nb) (hzs : z.cells.size = L.m)
    (v : Value) (xs : List α) (hs : a.eval s = v) (hown : OwnN L W base e v xs)
    (blk : Nat) (cs : Array Value) (hblk : W.heap[blk]? = some (.cells cs e (0, 0))) (f : α) (hcs : cs.toList = L.c f) (c : Nat) (hx : a.eval x = .slice (some ⟨blk, 0, none⟩) 1 c)
    (n : Nat) (hfn : xs.length = n) (hlen : n ≤ 2000000) (hnb : nb ≤ 1000) (hB : B ≤ base) (hbase : base ≤ W.heap.size) {w00 : World} (hbel : Below B w00 W)
    (h : ∀ a' c' w', OwnN L w' base e (.slice a' (n + 1) c') (xs ++ [f]) → Below B w00 w' → (∀ k, k < W.heap.size → v.ownBlock ≠ some k → w'.heap[k]? = W.heap[k]?) → W.heap.size ≤ w'.heap.size → K (a.put o.dst (.slice a' (n + 1) c')) w') :
    if Region.wanted o (yielded ops a.tmps) = true then Oper.wp P o a W K Q else E := by
  have hw : Region.wanted o (yielded ops a.tmps) = true := by simp [Region.wanted, hg]
  rw [if_pos hw]
  exact wp_append_m s x t ho base B e i z nb ht hi hz hsize hby hzs v xs hs hown blk cs hblk f hcs c hx n hfn hlen hnb hB hbase hbel h
theorem flat_at {w : World} {g o : Nat} {xs : List α} (h : ∀ j x, xs[j]? = some x → AtN L w g (o + j * L.m) x) (j : Nat) (u : Value) (hj : (xs.flatMap L.c)[j]? = some u) : w.cell? ⟨g, o + j, none⟩ = some u := by
  have hlt : j < xs.length * L.m := by rw [← lay_len (L := L)]; exact (List.getElem?_eq_some_iff.1 hj).1
  have hq : j / L.m < xs.length := (Nat.div_lt_iff_lt_mul L.pos).2 hlt
  have hr : j % L.m < L.m := Nat.mod_lt _ L.pos
  have hx := List.getElem?_eq_getElem hq
  have hu := List.getElem?_eq_getElem (show j % L.m < (L.c xs[j / L.m]).length by rw [L.len]; exact hr)
  have e : j / L.m * L.m + j % L.m = j := by rw [Nat.mul_comm]; exact Nat.div_add_mod j L.m
  have h2 := lay_get (L := L) xs _ _ hx _ _ hu
  rw [e, hj] at h2
  have h1 := h _ _ hx _ _ hu
  rw [Nat.add_assoc, e] at h1
  rw [h1, h2]
theorem flat_one (xs : List α) : ∀ u ∈ xs.flatMap L.c, u.oneCell' = true := by
  intro u hu
  obtain ⟨f, _, hf⟩ := List.mem_flatMap.1 hu
  exact L.one f u hf
theorem run_append_noneN {P : Program} {w : World} (base : Nat) (t ty e : TypeId) (i : TypeInfo) (size c : Nat) (ht : P.underlying t = some (.slice e)) (hi : P.info? e = some i)
    (v : Value) (n : Nat) (xs : List Value) (hown : w.ownsRow base e size v n xs) :
    (Builtin.append_ #[t, t] ty #[v, .slice none 0 c]).run P w = .ok v w := by
  rcases hown.2 with ⟨rfl, rfl⟩ | ⟨g, cap, cur, rfl, _, _, hnc, _⟩
  · simp [Builtin.append_, run_underlying ht, sizeOf, typeInfo, hi, Builtin.lenOf, Builtin.firstCells]
  · simp [Builtin.append_, run_underlying ht, sizeOf, typeInfo, hi, Builtin.lenOf, Builtin.firstCells, hnc, storeCells]
/-- 'append(out, row...)': a row that can be read behind a row of the call's own. -/
theorem wp_append_rd {P : Program} {W : World} {o : Oper} {a : Act} {K : Act → World → Prop} {Q : Exit → Act → World → Prop} (s x : Operand) (t : TypeId)
    (ho : o.op = .call { callee := .builtin .append, args := #[s, x], argTypes := #[t, t] })
    (base B : Nat) (e : TypeId) (i : TypeInfo) (z : Value) (nb : Nat) (ht : P.underlying t = some (.slice e)) (hi : P.info? e = some i) (hz : i.zero = some z) (hsize : i.size = L.m) (hby : i.bytes = nb) (hzs : z.cells.size = L.m)
    (v : Value) (ys : List α) (hs : a.eval s = v) (hown : OwnN L W base e v ys) (u : Value) (xs : List α) (hx : a.eval x = u) (hu : RdN L W u xs)
    (n : Nat) (hfn : ys.length + xs.length = n) (hlen : n ≤ 2000000) (hnb : nb ≤ 1000) (hB : B ≤ base) (hbase : base ≤ W.heap.size) {w00 : World} (hbel : Below B w00 W)
    (h : ∀ a' c' w', OwnN L w' base e (.slice a' n c') (ys ++ xs) → Below B w00 w' → W.grownBy w' v.ownBlock → K (a.put o.dst (.slice a' n c')) w') : o.wp P a W K Q := by
  subst hfn
  obtain ⟨a0, c0, rfl⟩ := hu.shape
  cases a0 with
  | none =>
    have hxs : xs = [] := by
      rcases hu with ⟨_, _, _, h⟩ | ⟨g, o', c', h, _⟩
      · exact h
      · simp at h
    subst hxs
    have hr := run_append_noneN (P := P) base t o.type e i L.m c0 ht hi v ys.length (ys.flatMap L.c) hown
    obtain ⟨a1, c1, rfl⟩ := hown.shape
    unfold Oper.wp execOp
    simp only [List.length_nil] at hx
    simp only [ho, resolve, invoke, builtin, Sem.run_bind, Sem.run_pure, Result.andThen_ok, List.map_toArray, List.map_cons, List.map_nil, hs, hx, hr]
    have h2 := h a1 c1 W (by rw [List.append_nil]; exact hown) hbel (gR _ _)
    exact h2
  | some ad =>
    have hcell : ∀ j u, (xs.flatMap L.c)[j]? = some u → W.cell? (ad.add j) = some u := by
      intro j u hj
      rcases hu with ⟨a', c', h1, h2⟩ | ⟨g, o', c', h1, _, _, h3⟩
      · subst h2
        simp at hj
      · simp only [Value.slice.injEq, Option.some.injEq] at h1
        rw [h1.1, addr_addN]
        exact flat_at h3 j u hj
    have hmul : (ys.length + xs.length) * nb ≤ 140737488355328 := Nat.le_trans (Nat.mul_le_mul hlen hnb) (by decide)
    refine wp_append_own W s x t ho base e i z L.m nb ht hi hz hsize hby hzs L.pos v ys.length (ys.flatMap L.c) hs hown
      ad xs.length c0 (xs.flatMap L.c) hx (lay_len xs) hcell (flat_one xs) (by unfold maxLen; omega) hmul hbase ?_
    intro v' w' h2 h3 _
    have h2' : OwnN L w' base e v' (ys ++ xs) := by unfold OwnN; rw [List.length_append, List.flatMap_append]; exact h2
    obtain ⟨a', c', rfl⟩ := h2'.shape
    rw [List.length_append] at h2' ⊢
    refine h a' c' w' h2' (hbel.grown h3 (by omega) ?_) h3
    intro k hk
    have := (World.ownsRow.lt hown k hk).1
    omega
theorem wpList_append_rd {P : Program} {W : World} {ops : Array Oper} {rest : List Oper} {o : Oper} {a : Act} {Q : Exit → Act → World → Prop} (hgd : o.guard = none) (s x : Operand) (t : TypeId)
    (ho : o.op = .call { callee := .builtin .append, args := #[s, x], argTypes := #[t, t] })
    (base B : Nat) (e : TypeId) (i : TypeInfo) (z : Value) (nb : Nat) (ht : P.underlying t = some (.slice e)) (hi : P.info? e = some i) (hz : i.zero = some z) (hsize : i.size = L.m) (hby : i.bytes = nb) (hzs : z.cells.size = L.m)
    (v : Value) (ys : List α) (hs : a.eval s = v) (hown : OwnN L W base e v ys) (u : Value) (xs : List α) (hx : a.eval x = u) (hu : RdN L W u xs)
    (n : Nat) (hfn : ys.length + xs.length = n) (hlen : n ≤ 2000000) (hnb : nb ≤ 1000) (hB : B ≤ base) (hbase : base ≤ W.heap.size) {w00 : World} (hbel : Below B w00 W)
    (h : ∀ a' c' w', OwnN L w' base e (.slice a' n c') (ys ++ xs) → Below B w00 w' → W.grownBy w' v.ownBlock → wpList P ops Q rest (a.put o.dst (.slice a' n c')) w') :
    wpList P ops Q (o :: rest) a W :=
  wpList_plain hgd fun _ hK => wp_append_rd s x t ho base B e i z nb ht hi hz hsize hby hzs v ys hs hown u xs hx hu n hfn hlen hnb hB hbase hbel fun a' c' w' h2 h3 h4 => hK _ _ (h a' c' w' h2 h3 h4)
theorem OwnN.lit0 (w : World) (base : Nat) (e : TypeId) (hb : base ≤ w.heap.size) : OwnN L (w.alloc (.cells #[] e)) base e (.slice (some ⟨w.heap.size, 0, none⟩) 0 0) [] :=
  World.ownsRow_made w #[] 0 hb (by decide) (by simp)
end
end Go.Proofs.Ytkbbcjnickgfjaa

/- Laws of no program: an operation of a drawn region taken first, its slot named. -/
namespace Go.Proofs.Ytkbbcjnickgfjaa
open Go.RowKit
theorem held_take {P : Program} {md : Region.Mode} {ops : Array Oper} {Q : Exit → Act → World → Prop} {S : World → Prop} {i : Nat} (d : Tmp) {oi : Oper} {v : Value} {fuel : Nat} {listed : Array Bool} {a : Act} {w : World} (hi : ops[i]? = some oi) (hd : oi.dst = some d)
    (hs : Region.noSelect ops = true) (hf : Region.free md ops listed i = true) (hr : (Region.ready md ops listed).contains i = true)
    (hQ : ∀ c a w, Q (.panic c) (a.put oi.dst v) w → Q (.panic c) a w) (hy : YieldsIf P ops S oi v a) (hS : S w)
    (h : wpAnyH P md ops Q S fuel (listed.setIfInBounds i true) (a.put (some d) v) w) : wpAnyH P md ops Q S (fuel + 1) listed a w :=
  wpAnyH_take hi hs hf hr hQ hy hS (by rw [hd]; exact h)
theorem exec_cmp : True := trivial
theorem exec_neq {P : Program} {w : World} {o : Oper} {a : Act} (t : TypeId) (x y : Operand) (ty : TypeId) (ho : o.op = .binOp .neq t x y ty) {vx vy v : Value} (hx : a.eval x = vx) (hy : a.eval y = vy)
    (hg : (eqGuard .neq t x y vx vy).run P w = .ok () w) (hr : (binOp .neq t vx vy).run P w = .ok v w) : (execOp a.eval o).run P w = .ok (.value v) w := by
  simp [execOp, ho, hx, hy, hg, hr, Result.andThen]
/-- Several cells stored into the midst of a variable. -/
theorem wpList_store_cb {P : Program} {ops : Array Oper} {rest : List Oper} {q : Oper} {a : Act} {w : World} {Q : Exit → Act → World → Prop} (hgd : q.guard = none) (ty : TypeId) (p z : Operand) (ho : q.op = .store ty p z)
    {g o : Nat} {T : TypeId} {cs : Array Value} (vs : List Value) (hx : a.eval p = .pointer (some ⟨g, o, none⟩)) (hy : a.eval z = .agg vs.toArray) (hA : CB w g T cs) (hm : o + vs.length ≤ cs.size) (h1 : ∀ v ∈ vs, v.oneCell' = true) (hi : (P.info? ty).map (·.size) = some vs.length)
    (h : ∀ w', CB w' g T (putC cs.toList vs o).toArray → w.grownBy w' (some g) → w'.heap.size = w.heap.size → wpList P ops Q rest (a.put q.dst undef) w') : wpList P ops Q (q :: rest) a w := by
  have hst := run_storeCells_at P g o T vs 0 cs w hA (by omega) h1
  rw [show o + 0 = o from rfl, show cs.toList.take o ++ vs ++ cs.toList.drop (o + vs.length) = putC cs.toList vs o from rfl] at hst
  have hG : w.grownBy (w.setRow g (putC cs.toList vs o).toArray) (some g) := by
    refine ⟨rfl, rfl, rfl, ?_, fun j hj hne => Go.setRow_other w g j _ (fun e => hne (by rw [e]))⟩
    have := Go.setRow_size w g (putC cs.toList vs o).toArray
    omega
  refine wpList_plain hgd fun _ hK => ?_
  unfold Oper.wp execOp
  cases hq : P.info? ty with
  | none => simp [hq] at hi
  | some i =>
    have hs : i.size = vs.length := by simpa [hq] using hi
    have hst' : (storeVar ty ⟨g, o, none⟩ (.agg vs.toArray)).run P w = .ok () (w.setRow g (putC cs.toList vs o).toArray) := by
      simp [storeVar, sizeOf, typeInfo, hq, Value.cells, hs, hst]
    simp only [ho, hx, hy, Instr.storeAt, Instr.sureAddr, Sem.run_bind, Sem.run_pure, Result.andThen_ok, hst']
    exact hK _ _ (h _ (setRow_heap w g _ _ T (0, 0) hA) hG (Go.setRow_size w g _))
end Go.Proofs.Ytkbbcjnickgfjaa

/- The project's records: their texts, over the loaded program. -/
namespace Go.Proofs.Ytkbbcjnickgfjaa
open Go.RowKit
def vT (n : Int) : ByteArray := if 0 ≤ n ∧ n ≤ 1000000000 then ⟨(varB n.toNat).toArray⟩ else ⟨#[]⟩
def bodyS (r : Rc) : ByteArray := if r.kd = 1 then r.tx else if r.kd = 2 ∨ r.kd = 4 then vT r.nm else if r.kd = 3 then ttB r.th else ⟨#[]⟩
def bodyO (r : Rc) : Bool := if r.kd = 1 then decide (r.tx.size = 32) else if r.kd = 2 then decide (0 ≤ r.nm ∧ r.nm ≤ 3) else if r.kd = 3 then thOk r.th else if r.kd = 4 then decide (1 ≤ r.nm ∧ r.nm ≤ 1000) else false
def onlyT (r : Rc) : Rc := if r.kd = 1 then ⟨r.kd, r.tx, 0, thZ⟩ else if r.kd = 2 ∨ r.kd = 4 then ⟨r.kd, ⟨#[]⟩, r.nm, thZ⟩ else if r.kd = 3 then ⟨r.kd, ⟨#[]⟩, 0, r.th⟩ else ⟨r.kd, ⟨#[]⟩, 0, thZ⟩
theorem rc_at9 {w : World} {g : Nat} {T : TypeId} {kd : Int} {tx : ByteArray} {nm id kind : Int} {hid fix sgn wrp : Bool} {val : ByteArray} {nxt : Int} (h : CB w g T #[.int .i64 kd, .string tx, .int .i64 nm, .int .i64 id, .int .i64 kind, .bool hid, .bool fix, .bool sgn, .bool wrp, .string val, .int .i64 nxt]) : AtN thY w g 3 ⟨id, kind, hid, fix, sgn, wrp, val, nxt⟩ := fun i u hu => by
  have hi : i < 8 := (List.getElem?_eq_some_iff.1 hu).1
  have e : (#[.int .i64 kd, .string tx, .int .i64 nm, .int .i64 id, .int .i64 kind, .bool hid, .bool fix, .bool sgn, .bool wrp, .string val, .int .i64 nxt] : Array Value)[3 + i]? = some u := by
    have : i = 0 ∨ i = 1 ∨ i = 2 ∨ i = 3 ∨ i = 4 ∨ i = 5 ∨ i = 6 ∨ i = 7 := by omega
    rcases this with rfl | rfl | rfl | rfl | rfl | rfl | rfl | rfl <;> exact hu
  exact h.cell (3 + i) e
theorem rc_one9 (a : Int) (b : ByteArray) (c d e : Int) (f g h i : Bool) (j : ByteArray) (k : Int) : (#[.int .i64 a, .string b, .int .i64 c, .int .i64 d, .int .i64 e, .bool f, .bool g, .bool h, .bool i, .string j, .int .i64 k] : Array Value).all (·.oneCell') = true := by simp [Value.oneCell']
set_option maxRecDepth 20000 in
set_option maxHeartbeats 2000000 in
theorem onlyTold_any (r : Rc) (w : World) :
    Calls Try.prog 25 #[.agg (rcC r)] w fun e w' => e = .returned (.agg (rcC (onlyT r))) ∧ Below w.heap.size w w' := by
  obtain ⟨o, ho⟩ : ∃ o, o = onlyT r := ⟨_, rfl⟩
  rw [← ho]
  obtain ⟨kd, tx, nm, ⟨id, kind, hid, fix, sgn, wrp, val, nxt⟩⟩ := r
  unfold onlyT at ho
  dsimp only at ho
  simp only [rcC]
  replace ho := hide ho
  obtain ⟨W, hW, hX, hR, hB, hs1⟩ := two_cb w #[.int .i64 kd, .string tx, .int .i64 nm, .int .i64 id, .int .i64 kind, .bool hid, .bool fix, .bool sgn, .bool wrp, .string val, .int .i64 nxt] (rcC rcZ) 27 27
  have hW2 := hW
  unfold rcC rcZ thZ at hW2
  dsimp only at hW2
  clear hW
  replace ho := unhide ho
  replace hX := hide hX; replace hR := hide hR; replace hB := hide hB
  have x0 : W.cell? ⟨w.heap.size, 0, none⟩ = some (.int .i64 kd) := (unhide hX).cell 0 rfl
  go_enter Try.func25, Try.ntmps25
  go_upto_region 1 with fail
  first | rw [hW2] | skip
  clear hW2
  go_upto_region 2 with fail
  refine wp_gen (fun W1 => CB W1 w.heap.size 27 #[.int .i64 kd, .string tx, .int .i64 nm, .int .i64 id, .int .i64 kind, .bool hid, .bool fix, .bool sgn, .bool wrp, .string val, .int .i64 nxt] ∧ CB W1 (w.heap.size + 1) 27 (rcC rcZ) ∧ CB W1 W.heap.size 27 #[.int .i64 kd, .string ⟨#[]⟩, .int .i64 0, .int .i64 0, .int .i64 0, .bool false, .bool false, .bool false, .bool false, .string ⟨#[]⟩, .int .i64 0] ∧ Below w.heap.size w W1) ⟨(unhide hX).alloc _, (unhide hR).alloc _, CB.new W _ _, (unhide hB).alloc (unhide hB).size _⟩ ?_
  rintro W1 ⟨hX1, hR1, hT1, T1⟩
  obtain ⟨gT, hgT⟩ : ∃ g, g = W.heap.size := ⟨_, rfl⟩
  rw [← hgT] at hT1 hs1 ⊢
  clear x0 hX hR hB hgT
  have x0 := hX1.cell 0 (v := .int .i64 kd) rfl
  by_cases k1 : kd = 1
  · subst k1
    rw [if_pos rfl] at ho
    replace ho := hide ho
    have x1 := hX1.cell 1 (v := .string tx) rfl
    have t1 := hT1.cell 1 (v := .string ⟨#[]⟩) rfl
    have f1 := hT1.frozen 1
    have hT2 := hide (cb_eq (hT1.set 1 (.string tx)) (show (#[.int .i64 1, .string tx, .int .i64 0, .int .i64 0, .int .i64 0, .bool false, .bool false, .bool false, .bool false, .string ⟨#[]⟩, .int .i64 0] : Array Value) = _ from rfl))
    have hR2 := hide (hR1.set_other (h := gT) (k := 1) (by omega) (.string tx))
    have T2 := hide (T1.setCell (p := ⟨gT, 1, none⟩) (by show w.heap.size ≤ gT; omega) (.string tx))
    go_upto_region 10 with fail
    refine wp_gen (fun W2 => CB W2 gT 27 #[.int .i64 1, .string tx, .int .i64 0, .int .i64 0, .int .i64 0, .bool false, .bool false, .bool false, .bool false, .string ⟨#[]⟩, .int .i64 0] ∧ CB W2 (w.heap.size + 1) 27 (rcC rcZ) ∧ Below w.heap.size w W2) ⟨unhide hT2, unhide hR2, unhide T2⟩ ?_
    rintro W2 ⟨hT9, hR9, T9⟩
    clear hT1 hR1 T1 x0
    clear x1 t1 f1 hT2 hR2 T2 hX1
    go_wp2_with (first
      | (refine wpList_load_row (P := Try.prog) rfl 27 (.tmp 3) rfl gT rfl 27 #[.int .i64 1, .string tx, .int .i64 0, .int .i64 0, .int .i64 0, .bool false, .bool false, .bool false, .bool false, .string ⟨#[]⟩, .int .i64 0] (0, 0) _ hT9 Try.underlying27 rfl rfl ?_)
      | (refine wpList_store_row (P := Try.prog) rfl 27 (.tmp 2) (.tmp 25) rfl (w.heap.size + 1) #[.int .i64 1, .string tx, .int .i64 0, .int .i64 0, .int .i64 0, .bool false, .bool false, .bool false, .bool false, .string ⟨#[]⟩, .int .i64 0] rfl rfl 27 _ hR9 rfl rfl (rc_one9 _ _ _ _ _ _ _ _ _ _ _) ?_))
    have hR8 := setRow_heap _ (w.heap.size + 1) _ #[.int .i64 1, .string tx, .int .i64 0, .int .i64 0, .int .i64 0, .bool false, .bool false, .bool false, .bool false, .string ⟨#[]⟩, .int .i64 0] 27 (0, 0) hR9
    have T4 := Go.below_setRow T9 (show w.heap.size ≤ w.heap.size + 1 by omega) #[.int .i64 1, .string tx, .int .i64 0, .int .i64 0, .int .i64 0, .bool false, .bool false, .bool false, .bool false, .string ⟨#[]⟩, .int .i64 0]
    exact bodyPost_ret (results_cb (by exact Try.results25) _ _ (w.heap.size + 1) 27 #[.int .i64 1, .string tx, .int .i64 0, .int .i64 0, .int .i64 0, .bool false, .bool false, .bool false, .bool false, .string ⟨#[]⟩, .int .i64 0] _ rfl hR8 Try.underlying27 rfl) rfl ⟨by rw [unhide ho] <;> rfl, T4⟩
  · by_cases k2 : kd = 2
    · subst k2
      rw [if_neg (by decide), if_pos (by decide)] at ho
      replace ho := hide ho
      have x2 := hX1.cell 2 (v := .int .i64 nm) rfl
      have t2 := hT1.cell 2 (v := .int .i64 0) rfl
      have f2 := hT1.frozen 2
      have hT2 := hide (cb_eq (hT1.set 2 (.int .i64 nm)) (show (#[.int .i64 2, .string ⟨#[]⟩, .int .i64 nm, .int .i64 0, .int .i64 0, .bool false, .bool false, .bool false, .bool false, .string ⟨#[]⟩, .int .i64 0] : Array Value) = _ from rfl))
      have hR2 := hide (hR1.set_other (h := gT) (k := 2) (by omega) (.int .i64 nm))
      have T2 := hide (T1.setCell (p := ⟨gT, 2, none⟩) (by show w.heap.size ≤ gT; omega) (.int .i64 nm))
      go_upto_region 10 with fail
      refine wp_gen (fun W2 => CB W2 gT 27 #[.int .i64 2, .string ⟨#[]⟩, .int .i64 nm, .int .i64 0, .int .i64 0, .bool false, .bool false, .bool false, .bool false, .string ⟨#[]⟩, .int .i64 0] ∧ CB W2 (w.heap.size + 1) 27 (rcC rcZ) ∧ Below w.heap.size w W2) ⟨unhide hT2, unhide hR2, unhide T2⟩ ?_
      rintro W2 ⟨hT9, hR9, T9⟩
      clear hT1 hR1 T1 x0
      clear x2 t2 f2 hT2 hR2 T2 hX1
      go_wp2_with (first
        | (refine wpList_load_row (P := Try.prog) rfl 27 (.tmp 3) rfl gT rfl 27 #[.int .i64 2, .string ⟨#[]⟩, .int .i64 nm, .int .i64 0, .int .i64 0, .bool false, .bool false, .bool false, .bool false, .string ⟨#[]⟩, .int .i64 0] (0, 0) _ hT9 Try.underlying27 rfl rfl ?_)
        | (refine wpList_store_row (P := Try.prog) rfl 27 (.tmp 2) (.tmp 25) rfl (w.heap.size + 1) #[.int .i64 2, .string ⟨#[]⟩, .int .i64 nm, .int .i64 0, .int .i64 0, .bool false, .bool false, .bool false, .bool false, .string ⟨#[]⟩, .int .i64 0] rfl rfl 27 _ hR9 rfl rfl (rc_one9 _ _ _ _ _ _ _ _ _ _ _) ?_))
      have hR8 := setRow_heap _ (w.heap.size + 1) _ #[.int .i64 2, .string ⟨#[]⟩, .int .i64 nm, .int .i64 0, .int .i64 0, .bool false, .bool false, .bool false, .bool false, .string ⟨#[]⟩, .int .i64 0] 27 (0, 0) hR9
      have T4 := Go.below_setRow T9 (show w.heap.size ≤ w.heap.size + 1 by omega) #[.int .i64 2, .string ⟨#[]⟩, .int .i64 nm, .int .i64 0, .int .i64 0, .bool false, .bool false, .bool false, .bool false, .string ⟨#[]⟩, .int .i64 0]
      exact bodyPost_ret (results_cb (by exact Try.results25) _ _ (w.heap.size + 1) 27 #[.int .i64 2, .string ⟨#[]⟩, .int .i64 nm, .int .i64 0, .int .i64 0, .bool false, .bool false, .bool false, .bool false, .string ⟨#[]⟩, .int .i64 0] _ rfl hR8 Try.underlying27 rfl) rfl ⟨by rw [unhide ho] <;> rfl, T4⟩
    · by_cases k4 : kd = 4
      · subst k4
        rw [if_neg (by decide), if_pos (by decide)] at ho
        replace ho := hide ho
        have x2 := hX1.cell 2 (v := .int .i64 nm) rfl
        have t2 := hT1.cell 2 (v := .int .i64 0) rfl
        have f2 := hT1.frozen 2
        have hT2 := hide (cb_eq (hT1.set 2 (.int .i64 nm)) (show (#[.int .i64 4, .string ⟨#[]⟩, .int .i64 nm, .int .i64 0, .int .i64 0, .bool false, .bool false, .bool false, .bool false, .string ⟨#[]⟩, .int .i64 0] : Array Value) = _ from rfl))
        have hR2 := hide (hR1.set_other (h := gT) (k := 2) (by omega) (.int .i64 nm))
        have T2 := hide (T1.setCell (p := ⟨gT, 2, none⟩) (by show w.heap.size ≤ gT; omega) (.int .i64 nm))
        go_upto_region 10 with fail
        refine wp_gen (fun W2 => CB W2 gT 27 #[.int .i64 4, .string ⟨#[]⟩, .int .i64 nm, .int .i64 0, .int .i64 0, .bool false, .bool false, .bool false, .bool false, .string ⟨#[]⟩, .int .i64 0] ∧ CB W2 (w.heap.size + 1) 27 (rcC rcZ) ∧ Below w.heap.size w W2) ⟨unhide hT2, unhide hR2, unhide T2⟩ ?_
        rintro W2 ⟨hT9, hR9, T9⟩
        clear hT1 hR1 T1 x0
        clear x2 t2 f2 hT2 hR2 T2 hX1
        go_wp2_with (first
          | (refine wpList_load_row (P := Try.prog) rfl 27 (.tmp 3) rfl gT rfl 27 #[.int .i64 4, .string ⟨#[]⟩, .int .i64 nm, .int .i64 0, .int .i64 0, .bool false, .bool false, .bool false, .bool false, .string ⟨#[]⟩, .int .i64 0] (0, 0) _ hT9 Try.underlying27 rfl rfl ?_)
          | (refine wpList_store_row (P := Try.prog) rfl 27 (.tmp 2) (.tmp 25) rfl (w.heap.size + 1) #[.int .i64 4, .string ⟨#[]⟩, .int .i64 nm, .int .i64 0, .int .i64 0, .bool false, .bool false, .bool false, .bool false, .string ⟨#[]⟩, .int .i64 0] rfl rfl 27 _ hR9 rfl rfl (rc_one9 _ _ _ _ _ _ _ _ _ _ _) ?_))
        have hR8 := setRow_heap _ (w.heap.size + 1) _ #[.int .i64 4, .string ⟨#[]⟩, .int .i64 nm, .int .i64 0, .int .i64 0, .bool false, .bool false, .bool false, .bool false, .string ⟨#[]⟩, .int .i64 0] 27 (0, 0) hR9
        have T4 := Go.below_setRow T9 (show w.heap.size ≤ w.heap.size + 1 by omega) #[.int .i64 4, .string ⟨#[]⟩, .int .i64 nm, .int .i64 0, .int .i64 0, .bool false, .bool false, .bool false, .bool false, .string ⟨#[]⟩, .int .i64 0]
        exact bodyPost_ret (results_cb (by exact Try.results25) _ _ (w.heap.size + 1) 27 #[.int .i64 4, .string ⟨#[]⟩, .int .i64 nm, .int .i64 0, .int .i64 0, .bool false, .bool false, .bool false, .bool false, .string ⟨#[]⟩, .int .i64 0] _ rfl hR8 Try.underlying27 rfl) rfl ⟨by rw [unhide ho] <;> rfl, T4⟩
      · by_cases k3 : kd = 3
        · subst k3
          rw [if_neg (by decide), if_neg (by decide), if_pos rfl] at ho
          replace ho := hide ho
          have hX3 := hide (rc_at9 hX1)
          replace hT1 := hide hT1
          go_upto_region 10 with (first
            | (refine wpList_load_n (P := Try.prog) (L := thY) rfl 25 (.tmp 22) rfl w.heap.size 3 rfl ⟨id, kind, hid, fix, sgn, wrp, val, nxt⟩ (unhide hX3) _ Try.underlying25 rfl ?_)
            | (refine wpList_store_cb (P := Try.prog) rfl 25 (.tmp 24) (.tmp 23) rfl (thY.c ⟨id, kind, hid, fix, sgn, wrp, val, nxt⟩) rfl rfl (unhide hT1) (show 3 + 8 ≤ 11 by decide) (thY.one _) rfl ?_; intro w5 hT5 hg5 hs5))
          refine wp_gen (fun W2 => CB W2 gT 27 #[.int .i64 3, .string ⟨#[]⟩, .int .i64 0, .int .i64 id, .int .i64 kind, .bool hid, .bool fix, .bool sgn, .bool wrp, .string val, .int .i64 nxt] ∧ CB W2 (w.heap.size + 1) 27 (rcC rcZ) ∧ Below w.heap.size w W2) ⟨cb_eq hT5 (show (#[.int .i64 3, .string ⟨#[]⟩, .int .i64 0, .int .i64 id, .int .i64 kind, .bool hid, .bool fix, .bool sgn, .bool wrp, .string val, .int .i64 nxt] : Array Value) = _ from rfl), hR1.grown hg5 (by intro e; injection e with e; omega), T1.grown hg5 (by have := T1.size; omega) (fun k hk => by injection hk with hk; omega)⟩ ?_
          rintro W2 ⟨hT9, hR9, T9⟩
          clear hT1 hR1 T1 x0
          clear hX3 hX1 hT5 hg5 hs5
          go_wp2_with (first
            | (refine wpList_load_row (P := Try.prog) rfl 27 (.tmp 3) rfl gT rfl 27 #[.int .i64 3, .string ⟨#[]⟩, .int .i64 0, .int .i64 id, .int .i64 kind, .bool hid, .bool fix, .bool sgn, .bool wrp, .string val, .int .i64 nxt] (0, 0) _ hT9 Try.underlying27 rfl rfl ?_)
            | (refine wpList_store_row (P := Try.prog) rfl 27 (.tmp 2) (.tmp 25) rfl (w.heap.size + 1) #[.int .i64 3, .string ⟨#[]⟩, .int .i64 0, .int .i64 id, .int .i64 kind, .bool hid, .bool fix, .bool sgn, .bool wrp, .string val, .int .i64 nxt] rfl rfl 27 _ hR9 rfl rfl (rc_one9 _ _ _ _ _ _ _ _ _ _ _) ?_))
          have hR8 := setRow_heap _ (w.heap.size + 1) _ #[.int .i64 3, .string ⟨#[]⟩, .int .i64 0, .int .i64 id, .int .i64 kind, .bool hid, .bool fix, .bool sgn, .bool wrp, .string val, .int .i64 nxt] 27 (0, 0) hR9
          have T4 := Go.below_setRow T9 (show w.heap.size ≤ w.heap.size + 1 by omega) #[.int .i64 3, .string ⟨#[]⟩, .int .i64 0, .int .i64 id, .int .i64 kind, .bool hid, .bool fix, .bool sgn, .bool wrp, .string val, .int .i64 nxt]
          exact bodyPost_ret (results_cb (by exact Try.results25) _ _ (w.heap.size + 1) 27 #[.int .i64 3, .string ⟨#[]⟩, .int .i64 0, .int .i64 id, .int .i64 kind, .bool hid, .bool fix, .bool sgn, .bool wrp, .string val, .int .i64 nxt] _ rfl hR8 Try.underlying27 rfl) rfl ⟨by rw [unhide ho] <;> rfl, T4⟩
        · rw [if_neg k1, if_neg (by omega), if_neg k3] at ho
          skip
          replace ho := hide ho
          go_upto_region 10 with fail
          refine wp_gen (fun W2 => CB W2 gT 27 #[.int .i64 kd, .string ⟨#[]⟩, .int .i64 0, .int .i64 0, .int .i64 0, .bool false, .bool false, .bool false, .bool false, .string ⟨#[]⟩, .int .i64 0] ∧ CB W2 (w.heap.size + 1) 27 (rcC rcZ) ∧ Below w.heap.size w W2) ⟨hT1, hR1, T1⟩ ?_
          rintro W2 ⟨hT9, hR9, T9⟩
          clear hT1 hR1 T1 x0
          clear hX1
          go_wp2_with (first
            | (refine wpList_load_row (P := Try.prog) rfl 27 (.tmp 3) rfl gT rfl 27 #[.int .i64 kd, .string ⟨#[]⟩, .int .i64 0, .int .i64 0, .int .i64 0, .bool false, .bool false, .bool false, .bool false, .string ⟨#[]⟩, .int .i64 0] (0, 0) _ hT9 Try.underlying27 rfl rfl ?_)
            | (refine wpList_store_row (P := Try.prog) rfl 27 (.tmp 2) (.tmp 25) rfl (w.heap.size + 1) #[.int .i64 kd, .string ⟨#[]⟩, .int .i64 0, .int .i64 0, .int .i64 0, .bool false, .bool false, .bool false, .bool false, .string ⟨#[]⟩, .int .i64 0] rfl rfl 27 _ hR9 rfl rfl (rc_one9 _ _ _ _ _ _ _ _ _ _ _) ?_))
          have hR8 := setRow_heap _ (w.heap.size + 1) _ #[.int .i64 kd, .string ⟨#[]⟩, .int .i64 0, .int .i64 0, .int .i64 0, .bool false, .bool false, .bool false, .bool false, .string ⟨#[]⟩, .int .i64 0] 27 (0, 0) hR9
          have T4 := Go.below_setRow T9 (show w.heap.size ≤ w.heap.size + 1 by omega) #[.int .i64 kd, .string ⟨#[]⟩, .int .i64 0, .int .i64 0, .int .i64 0, .bool false, .bool false, .bool false, .bool false, .string ⟨#[]⟩, .int .i64 0]
          exact bodyPost_ret (results_cb (by exact Try.results25) _ _ (w.heap.size + 1) 27 #[.int .i64 kd, .string ⟨#[]⟩, .int .i64 0, .int .i64 0, .int .i64 0, .bool false, .bool false, .bool false, .bool false, .string ⟨#[]⟩, .int .i64 0] _ rfl hR8 Try.underlying27 rfl) rfl ⟨by rw [unhide ho] <;> rfl, T4⟩
end Go.Proofs.Ytkbbcjnickgfjaa

/- The project's records: their bodies and their texts, over the loaded program. -/
namespace Go.Proofs.Ytkbbcjnickgfjaa
open Go.RowKit
theorem rcT_le9 (r : Rc) : (rcT r).size ≤ 2000 := by
  unfold rcT
  split
  · rename_i h
    have h1 := (rcOk_iff r).1 h
    show (rcL r).toArray.size ≤ 2000
    rw [List.size_toArray]
    unfold rcL
    rw [List.length_cons]
    rcases h1 with ⟨h2, h3, _, _⟩ | ⟨h2, _, _, h5, h6⟩ | ⟨h2, h3, _, _⟩ | ⟨h2, _, _, h5, h6⟩
    · rw [if_pos h2]
      have : r.tx.data.toList.length = r.tx.size := rfl
      omega
    · rw [if_neg (by omega), if_neg (by omega)]
      have := (varB_len r.nm.toNat).2; omega
    · rw [if_neg (by omega), if_pos h2]
      have h9 := thT_le ((thOk_iff r.th).2 h3)
      have : (thL r.th).length = (thT r.th).size := by unfold thT; show _ = (thL r.th).toArray.size; rw [List.size_toArray]
      omega
    · rw [if_neg (by omega), if_neg (by omega)]
      have := (varB_len r.nm.toNat).2; omega
  · exact Nat.zero_le _
theorem implVar_any (n : Int) (w : World) : Calls Try.prog 56 #[.int .i64 n] w fun e w' => (∃ b, e = .returned (.tuple #[.string (vT n), .bool b])) ∧ Below w.heap.size w w' := by
  by_cases h : 0 ≤ n ∧ n ≤ 1000000000
  · obtain ⟨m, rfl⟩ : ∃ m : Nat, n = (m : Int) := ⟨n.toNat, by omega⟩
    refine (implVar_yes m w (by omega)).mono ?_
    rintro e w' ⟨rfl, hb⟩
    refine ⟨⟨true, ?_⟩, hb⟩
    unfold vT
    rw [if_pos h]; rfl
  · refine (implVar_no n w (by omega)).mono ?_
    rintro e w' ⟨rfl, rfl⟩
    refine ⟨⟨false, ?_⟩, Below.refl _ _⟩
    unfold vT
    rw [if_neg h]
theorem triesOk_any (n : Int) (w : World) : Calls Try.prog 45 #[.int .i64 n] w fun e w' => e = .returned (.bool (decide (0 ≤ n ∧ n ≤ 3))) ∧ w' = w := by
  by_cases h1 : 0 ≤ n
  · by_cases h2 : n ≤ 3
    · have H := hide (show decide (0 ≤ n ∧ n ≤ 3) = true from decide_eq_true ⟨h1, h2⟩)
      go_enter Try.func45, Try.ntmps45
      go_wp2
      go_ret
      exact ⟨retB (by simp; try omega), rfl⟩
    · have H := hide (show decide (0 ≤ n ∧ n ≤ 3) = false from decide_eq_false (fun h => h2 h.2))
      go_enter Try.func45, Try.ntmps45
      go_wp2
      go_ret
      exact ⟨retB (by simp; try omega), rfl⟩
  · have H := hide (show decide (0 ≤ n ∧ n ≤ 3) = false from decide_eq_false (fun h => h1 h.1))
    go_enter Try.func45, Try.ntmps45
    go_wp2
    go_ret
    exact ⟨retB (by simp; try omega), rfl⟩
set_option maxRecDepth 20000 in
set_option maxHeartbeats 2000000 in
theorem recBody_any (r : Rc) (htx : r.tx.size ≤ 100000000) (w : World) :
    Calls Try.prog 24 #[.agg (rcC r)] w fun e w' => e = .returned (.tuple #[.string (bodyS r), .bool (bodyO r)]) ∧ Below w.heap.size w w' := by
  obtain ⟨bs, hbs⟩ : ∃ z, z = bodyS r := ⟨_, rfl⟩
  obtain ⟨bo, hbo⟩ : ∃ z, z = bodyO r := ⟨_, rfl⟩
  rw [← hbs, ← hbo]
  have CV := hide (fun W => implVar_any r.nm W)
  have CT := (fun W => implThingText_any r.th W)
  obtain ⟨kd, tx, nm, ⟨id, kind, hid, fix, sgn, wrp, val, nxt⟩⟩ := r
  unfold bodyS at hbs
  unfold bodyO at hbo
  dsimp only at hbs hbo htx CV CT
  simp only [rcC]
  simp only [thC] at CT
  obtain ⟨tt, htt⟩ : ∃ z, z = ttB ⟨id, kind, hid, fix, sgn, wrp, val, nxt⟩ := ⟨_, rfl⟩
  obtain ⟨tk, hto⟩ : ∃ z, z = thOk ⟨id, kind, hid, fix, sgn, wrp, val, nxt⟩ := ⟨_, rfl⟩
  rw [← htt, ← hto] at CT
  rw [← htt] at hbs
  rw [← hto] at hbo
  clear htt hto
  obtain ⟨vt, hvt⟩ : ∃ z, z = vT nm := ⟨_, rfl⟩
  rw [← hvt] at CV hbs
  clear hvt
  replace CT := hide CT
  obtain ⟨W, hW, hX, hB, hs1⟩ := one_cb w #[.int .i64 kd, .string tx, .int .i64 nm, .int .i64 id, .int .i64 kind, .bool hid, .bool fix, .bool sgn, .bool wrp, .string val, .int .i64 nxt] 27
  have x2 := hX.cell 2 (v := .int .i64 nm) rfl
  replace hX := hide hX; replace hB := hide hB
  replace hbs := hide hbs; replace hbo := hide hbo
  go_enter Try.func24, Try.ntmps24
  go_upto_region 1 with fail
  first | rw [hW] | skip
  clear hW
  go_upto_region 2 with (go_at_call 56; refine (unhide CV _).mono ?_; rintro e w1 ⟨⟨vb, rfl⟩, hb1⟩)
  have hX1 := (unhide hX).step hb1
  have T1 := hide ((unhide hB).trans (hb1.mono (unhide hB).size))
  clear hb1 x2 hX hB CV
  have x0 := hX1.cell 0 (v := (.int .i64 kd)) rfl
  have x1 := hX1.cell 1 (v := (.string tx)) rfl
  have x2 := hX1.cell 2 (v := (.int .i64 nm)) rfl
  have x3 := hX1.cell 3 (v := (.int .i64 id)) rfl
  have x4 := hX1.cell 4 (v := (.int .i64 kind)) rfl
  have x5 := hX1.cell 5 (v := (.bool hid)) rfl
  have x6 := hX1.cell 6 (v := (.bool fix)) rfl
  have x7 := hX1.cell 7 (v := (.bool sgn)) rfl
  have x8 := hX1.cell 8 (v := (.bool wrp)) rfl
  have x9 := hX1.cell 9 (v := (.string val)) rfl
  have x10 := hX1.cell 10 (v := (.int .i64 nxt)) rfl
  clear hX1
  replace hbs := unhide hbs; replace hbo := unhide hbo
  by_cases k1 : kd = 1
  · subst k1
    rw [if_pos rfl] at hbs hbo
    subst hbs hbo
    have hsz : ((bs.size : Int) == 32) = decide (bs.size = 32) := by
      rw [Bool.eq_iff_iff]; simp; omega
    clear CT
    go_wp2
    go_quiet (fail)
    go_wp2
    go_ret2
    exact ⟨rfl, (unhide T1).trans (bDN (Below.refl _ _) nq)⟩
  · by_cases k2 : kd = 2
    · subst k2
      rw [if_neg (by decide), if_pos (by decide)] at hbs
      rw [if_neg (by decide), if_pos rfl] at hbo
      subst hbs
      have CI := (fun W => triesOk_any nm W)
      rw [← hbo] at CI
      replace CI := hide CI; replace hbo := hide hbo
      clear CT
      go_wp2_with (go_at_call 45; refine (unhide CI _).mono ?_; rintro e w2 ⟨rfl, hw2⟩; have hw2' := hw2.symm; subst hw2')
      go_ret2
      exact ⟨rfl, unhide T1⟩
    · by_cases k4 : kd = 4
      · subst k4
        rw [if_neg (by decide), if_pos (by decide)] at hbs
        rw [if_neg (by decide), if_neg (by decide), if_neg (by decide), if_pos rfl] at hbo
        subst hbs
        by_cases c1 : 1 ≤ nm ∧ nm ≤ 1000
        · rw [decide_eq_true c1] at hbo
          subst hbo
          have CI := hide (fun W => idOk_yes nm W c1.1 c1.2)
          clear CT
          go_wp2_with (go_at_call 58; refine (unhide CI _).mono ?_; rintro e w2 ⟨rfl, hw2⟩; have hw2' := hw2.symm; subst hw2')
          go_ret2
          exact ⟨rfl, unhide T1⟩
        · rw [decide_eq_false c1] at hbo
          subst hbo
          have CI := hide (fun W => idOk_no nm W (by omega))
          clear CT
          go_wp2_with (go_at_call 58; refine (unhide CI _).mono ?_; rintro e w2 ⟨rfl, hw2⟩; have hw2' := hw2.symm; subst hw2')
          go_ret2
          exact ⟨rfl, unhide T1⟩
      · by_cases k3 : kd = 3
        · subst k3
          rw [if_neg (by decide), if_neg (by decide), if_pos rfl] at hbs
          rw [if_neg (by decide), if_neg (by decide), if_pos rfl] at hbo
          subst hbs hbo
          go_wp2_with (go_at_call 57; refine (unhide CT _).mono ?_; rintro e w2 ⟨rfl, hb2⟩)
          go_ret2
          exact ⟨rfl, (unhide T1).trans (hb2.mono (unhide T1).size)⟩
        · rw [if_neg k1, if_neg (by omega), if_neg k3] at hbs
          rw [if_neg k1, if_neg k2, if_neg k3, if_neg k4] at hbo
          subst hbs hbo
          clear CT
          go_wp2
          go_ret2
          exact ⟨rfl, unhide T1⟩
theorem recOk_is (r : Rc) : rcOk r = (bodyO r && rcEq r (onlyT r)) := by
  rw [Bool.eq_iff_iff, rcOk_iff, Bool.and_eq_true, rcEq_iff]
  obtain ⟨kd, tx, nm, th⟩ := r
  unfold RcOk bodyO onlyT
  dsimp only
  have hE : ∀ s : ByteArray, s.size = 0 ↔ s = ⟨#[]⟩ := fun s => ⟨size_zero_is, fun h => by rw [h]; rfl⟩
  have hZ : ∀ x : Th, ThNo x ↔ x = thZ := fun x => ⟨thNo_is, fun h => by rw [h]; exact thNo_thZ⟩
  rw [hE, hZ]
  by_cases k1 : kd = 1
  · subst k1; simp
  · by_cases k2 : kd = 2
    · subst k2; simp; constructor
      · rintro ⟨a, b, c, d⟩; exact ⟨⟨c, d⟩, a, b⟩
      · rintro ⟨⟨c, d⟩, a, b⟩; exact ⟨a, b, c, d⟩
    · by_cases k4 : kd = 4
      · subst k4; simp; constructor
        · rintro ⟨a, b, c, d⟩; exact ⟨⟨c, d⟩, a, b⟩
        · rintro ⟨⟨c, d⟩, a, b⟩; exact ⟨a, b, c, d⟩
      · by_cases k3 : kd = 3
        · subst k3; simp [thOk_iff]
        · simp [k1, k2, k3, k4]
theorem recT_is {r : Rc} (h : rcOk r = true) : rcT r = oneY r.kd ++ bodyS r ∧ 1 ≤ r.kd ∧ r.kd ≤ 4 := by
  have h1 := (rcOk_iff r).1 h
  have e : ∀ (k : Nat) (l : List UInt8), (⟨(byteOf k :: l).toArray⟩ : ByteArray) = ⟨#[byteOf k]⟩ ++ ⟨l.toArray⟩ := fun k l => by
    apply ByteArray.ext
    apply Array.toList_inj.1
    rw [ByteArray.data_append]
    simp
  unfold rcT rcL bodyS
  rw [if_pos h]
  obtain ⟨kd, tx, nm, th⟩ := r
  unfold RcOk at h1
  dsimp only at h1 ⊢
  rcases h1 with ⟨rfl, h2, h3, _⟩ | ⟨rfl, _, _, h5, h6⟩ | ⟨rfl, h2, _, _⟩ | ⟨rfl, _, _, h5, h6⟩
  · refine ⟨?_, by decide, by decide⟩
    rw [if_pos rfl, if_pos rfl, e]
    rfl
  · refine ⟨?_, by decide, by decide⟩
    rw [if_neg (by decide), if_neg (by decide), if_neg (by decide), if_pos (by decide), e]
    unfold vT
    rw [if_pos ⟨h5, by omega⟩]
    rfl
  · refine ⟨?_, by decide, by decide⟩
    rw [if_neg (by decide), if_pos rfl, if_neg (by decide), if_neg (by decide), if_pos rfl, e]
    unfold ttB
    rw [if_pos ((thOk_iff th).2 h2)]
    rfl
  · refine ⟨?_, by decide, by decide⟩
    rw [if_neg (by decide), if_neg (by decide), if_neg (by decide), if_pos (by decide), e]
    unfold vT
    rw [if_pos ⟨by omega, by omega⟩]
    rfl
end Go.Proofs.Ytkbbcjnickgfjaa

