/- The rounds of the sponge, by impl, over the loaded program. -/
import Derived.Test.YtkidgllmhdfgaanDoorSpg4
namespace Go.Proofs.YtkidgllmhdfgaanDoor
open Go.RowKit
theorem built5 (z0 z1 z2 z3 z4 : Nat) : Tryd.prog.built 32 [(0, .int .u64 (z0 : Int)), (1, .int .u64 (z1 : Int)), (2, .int .u64 (z2 : Int)), (3, .int .u64 (z3 : Int)), (4, .int .u64 (z4 : Int))] = some (([z0, z1, z2, z3, z4] : List Nat).map u64v).toArray := by kernel_rfl
theorem wpList_build5 {ops : Array Oper} {rest : List Oper} {o : Oper} {a : Act} {w : World} {Q : Exit → Act → World → Prop} (z0 z1 z2 z3 z4 : Nat) (hg : o.guard = none) (x0 x1 x2 x3 x4 : Operand) (ho : o.op = .build 32 #[(0, x0), (1, x1), (2, x2), (3, x3), (4, x4)])
    (e0 : a.eval x0 = .int .u64 (z0 : Int)) (e1 : a.eval x1 = .int .u64 (z1 : Int)) (e2 : a.eval x2 = .int .u64 (z2 : Int)) (e3 : a.eval x3 = .int .u64 (z3 : Int)) (e4 : a.eval x4 = .int .u64 (z4 : Int))
    (h : wpList Tryd.prog ops Q rest (a.put o.dst (aggL [z0, z1, z2, z3, z4])) w) : wpList Tryd.prog ops Q (o :: rest) a w := by
  refine wpList_build_lan hg 32 _ ho [z0, z1, z2, z3, z4] ?_ h
  simp only [List.map_toArray, List.map_cons, List.map_nil, e0, e1, e2, e3, e4]
  exact built5 z0 z1 z2 z3 z4
theorem chi_lane (b c : Nat) (hb : b < M64) (hc : c < M64) : bits .andNot .u64 (c : Int) (b : Int) = (((18446744073709551615 - b) &&& c : Nat) : Int) := by
  rw [u64_andNot_nat c b hc hb, Nat.and_comm]
set_option maxRecDepth 20000 in
set_option maxHeartbeats 2000000 in
theorem chi_any (a : List Nat) (ha : LanesOk a) (g : Nat) (w : World) (hA : LnAt w g 34 a) :
    Calls Tryd.prog 33 #[.pointer (some ⟨g, 0, none⟩)] w fun e w' => e = .returned (.tuple #[]) ∧ LnAt w' g 34 (chiL a) ∧ w.grownBy w' (some g) := by
  have HA := hide hA
  clear hA
  go_enter Tryd.func33, Tryd.ntmps33
  go_wp2
  go_loopw [8] (fun ti wr => ∃ k : Nat, k ≤ 5 ∧ ti = .int .i64 (k : Int) ∧ Hid (LnAt wr g 34 (chP a k)) ∧ Hid (w.grownBy wr (some g))) (fun ti _ => 5 - (intOf ti).toNat)
  case atStart => exact ⟨0, by omega, rfl, hide (by rw [chP_zero ha.1]; exact unhide HA), hide (World.grownBy.refl w _)⟩
  case round =>
    clear HA
    obtain ⟨y, hy, rfl, HA, HG⟩ := hrel
    by_cases hlt : y < 5
    · have ly : (y : Int) < 5 := by omega
      obtain ⟨o, ho⟩ : ∃ o, o = 5 * y := ⟨_, rfl⟩
      obtain ⟨p1, hp1⟩ : ∃ p, p = o + 1 := ⟨_, rfl⟩
      obtain ⟨p2, hp2⟩ : ∃ p, p = o + 2 := ⟨_, rfl⟩
      obtain ⟨p3, hp3⟩ : ∃ p, p = o + 3 := ⟨_, rfl⟩
      obtain ⟨p4, hp4⟩ : ∃ p, p = o + 4 := ⟨_, rfl⟩
      have I1 := idxY g y o ly ho
      have X0 : ∀ W, (Instr.indexAt 32 (.pointer (some ⟨g, o, none⟩)) (.int .i64 0)).run Tryd.prog W = .ok (.pointer (some ⟨g, o, none⟩)) W := idxX g o 0 o (by decide) rfl
      have X1 : ∀ W, (Instr.indexAt 32 (.pointer (some ⟨g, o, none⟩)) (.int .i64 1)).run Tryd.prog W = .ok (.pointer (some ⟨g, p1, none⟩)) W := idxX g o 1 p1 (by decide) (by omega)
      have X2 : ∀ W, (Instr.indexAt 32 (.pointer (some ⟨g, o, none⟩)) (.int .i64 2)).run Tryd.prog W = .ok (.pointer (some ⟨g, p2, none⟩)) W := idxX g o 2 p2 (by decide) (by omega)
      have X3 : ∀ W, (Instr.indexAt 32 (.pointer (some ⟨g, o, none⟩)) (.int .i64 3)).run Tryd.prog W = .ok (.pointer (some ⟨g, p3, none⟩)) W := idxX g o 3 p3 (by decide) (by omega)
      have X4 : ∀ W, (Instr.indexAt 32 (.pointer (some ⟨g, o, none⟩)) (.int .i64 4)).run Tryd.prog W = .ok (.pointer (some ⟨g, p4, none⟩)) W := idxX g o 4 p4 (by decide) (by omega)
      have hA := unhide HA
      have hln := chP_len a y
      have c0 := hA.cell o (by rw [hln]; omega)
      have c1 := hA.cell p1 (by rw [hln]; omega)
      have c2 := hA.cell p2 (by rw [hln]; omega)
      have c3 := hA.cell p3 (by rw [hln]; omega)
      have c4 := hA.cell p4 (by rw [hln]; omega)
      have t0 := chP_at a y 0 hlt (by decide)
      have t1 := chP_at a y 1 hlt (by decide)
      have t2 := chP_at a y 2 hlt (by decide)
      have t3 := chP_at a y 3 hlt (by decide)
      have t4 := chP_at a y 4 hlt (by decide)
      have hP := chP_put a y hlt
      rw [show chR a y 0 = ln a (5 * y + 0) ^^^ ((18446744073709551615 - ln a (5 * y + 1)) &&& ln a (5 * y + 2)) from rfl, show chR a y 1 = ln a (5 * y + 1) ^^^ ((18446744073709551615 - ln a (5 * y + 2)) &&& ln a (5 * y + 3)) from rfl,
        show chR a y 2 = ln a (5 * y + 2) ^^^ ((18446744073709551615 - ln a (5 * y + 3)) &&& ln a (5 * y + 4)) from rfl, show chR a y 3 = ln a (5 * y + 3) ^^^ ((18446744073709551615 - ln a (5 * y + 4)) &&& ln a (5 * y + 0)) from rfl,
        show chR a y 4 = ln a (5 * y + 4) ^^^ ((18446744073709551615 - ln a (5 * y + 0)) &&& ln a (5 * y + 1)) from rfl] at hP
      rw [Nat.add_zero, ← ho] at t0 hP
      rw [← ho, ← hp1] at t1
      rw [← hp1] at hP
      rw [← ho, ← hp2] at t2
      rw [← hp2] at hP
      rw [← ho, ← hp3] at t3
      rw [← hp3] at hP
      rw [← ho, ← hp4] at t4
      rw [← hp4] at hP
      rw [t0] at c0; rw [t1] at c1; rw [t2] at c2; rw [t3] at c3; rw [t4] at c4
      have l0 := ha.ln o
      have l1 := ha.ln p1
      have l2 := ha.ln p2
      have l3 := ha.ln p3
      have l4 := ha.ln p4
      clear t0 t1 t2 t3 t4
      generalize ln a o = v0 at *
      generalize ln a p1 = v1 at *
      generalize ln a p2 = v2 at *
      generalize ln a p3 = v3 at *
      generalize ln a p4 = v4 at *
      have n0 := chi_lane v1 v2 l1 l2
      have n1 := chi_lane v2 v3 l2 l3
      have n2 := chi_lane v3 v4 l3 l4
      have n3 := chi_lane v4 v0 l4 l0
      have n4 := chi_lane v0 v1 l0 l1
      have q0 : (18446744073709551615 - v1) &&& v2 < M64 := lt64_and l2
      have q1 : (18446744073709551615 - v2) &&& v3 < M64 := lt64_and l3
      have q2 : (18446744073709551615 - v3) &&& v4 < M64 := lt64_and l4
      have q3 : (18446744073709551615 - v4) &&& v0 < M64 := lt64_and l0
      have q4 : (18446744073709551615 - v0) &&& v1 < M64 := lt64_and l1
      generalize (18446744073709551615 - v1) &&& v2 = m0 at *
      generalize (18446744073709551615 - v2) &&& v3 = m1 at *
      generalize (18446744073709551615 - v3) &&& v4 = m2 at *
      generalize (18446744073709551615 - v4) &&& v0 = m3 at *
      generalize (18446744073709551615 - v0) &&& v1 = m4 at *
      have x0 : bits .xor .u64 (v0 : Int) (m0 : Int) = ((v0 ^^^ m0 : Nat) : Int) := u64_xor_nat _ _ l0 q0
      have x1 : bits .xor .u64 (v1 : Int) (m1 : Int) = ((v1 ^^^ m1 : Nat) : Int) := u64_xor_nat _ _ l1 q1
      have x2 : bits .xor .u64 (v2 : Int) (m2 : Int) = ((v2 ^^^ m2 : Nat) : Int) := u64_xor_nat _ _ l2 q2
      have x3 : bits .xor .u64 (v3 : Int) (m3 : Int) = ((v3 ^^^ m3 : Nat) : Int) := u64_xor_nat _ _ l3 q3
      have x4 : bits .xor .u64 (v4 : Int) (m4 : Int) = ((v4 ^^^ m4 : Nat) : Int) := u64_xor_nat _ _ l4 q4
      generalize v0 ^^^ m0 = z0 at *
      generalize v1 ^^^ m1 = z1 at *
      generalize v2 ^^^ m2 = z2 at *
      generalize v3 ^^^ m3 = z3 at *
      generalize v4 ^^^ m4 = z4 at *
      have HP := hide hP
      have HB := hide (show o + ([z0, z1, z2, z3, z4] : List Nat).length ≤ (chP a y).length by rw [hln, ho]; simp; omega)
      have hi5 : Hid ((Tryd.prog.info? 32).map (·.size) = some ([z0, z1, z2, z3, z4] : List Nat).length) := hide (by kernel_rfl)
      have HA4 : Hid (∀ n, LnAt (wr.drewN n) g 34 (chP a y)) := hide (fun n => hA.drewN n)
      replace ho := hide ho; replace hp1 := hide hp1; replace hp2 := hide hp2; replace hp3 := hide hp3; replace hp4 := hide hp4
      clear hA HA hP hln l0 l1 l2 l3 l4 q0 q1 q2 q3 q4
      go_wp2
      go_quiet (fail)
      go_wp2_with (first
        | (refine wpList_build5 z0 z1 z2 z3 z4 rfl (.tmp 47) (.tmp 52) (.tmp 57) (.tmp 62) (.tmp 67) rfl rfl rfl rfl rfl rfl ?_)
        | (refine wpList_store_part rfl 32 (.tmp 70) (.tmp 68) rfl g o (chP a y) [z0, z1, z2, z3, z4] rfl rfl 34 ((unhide HA4) _) (unhide HB) (unhide hi5) ?_))
      go_roundw
      all_goals first | exact ⟨y + 1, by omega, by go_num, hide (by rw [← unhide HP]; exact ((unhide HA4) _).setRow _), hide (grown_row (grown_drew (unhide HG) _) _)⟩ | (simp [intOf]; omega)
    · have hkk : y = 5 := by omega
      have nk : ¬ (y : Int) < 5 := by omega
      have HA5 := hide (show LnAt wr g 34 (chiL a) by rw [← chP_end a, ← hkk]; exact unhide HA)
      replace hkk := hide hkk
      clear HA
      go_wp2
      go_end0
      exact ⟨rfl, unhide HA5, unhide HG⟩
end Go.Proofs.YtkidgllmhdfgaanDoor
