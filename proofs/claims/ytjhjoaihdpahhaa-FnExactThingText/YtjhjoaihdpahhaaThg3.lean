/- Readers of texts by the given model, and things that are read, over the loaded program. -/
import Derived.Test.YtjhjoaihdpahhaaThg2
namespace Go.Proofs.Ytjhjoaihdpahhaa
open Go.RowKit
abbrev cuC (t : ByteArray) (a : Nat) (b : Bool) : Array Value := #[.string t, .int .i64 (a : Int), .bool b]
theorem gB9 {w w' : World} (hb : Below w.heap.size w w') (r : Option Nat) : w.grownBy w' r := ⟨hb.os, hb.tape, hb.output, hb.size, fun k hk _ => hb.block k hk⟩
theorem gT9 {a b c : World} {r : Option Nat} (h : a.grownBy b r) (k : b.grownBy c r) : a.grownBy c r :=
  ⟨k.os.trans h.os, k.tape.trans h.tape, k.output.trans h.output, Nat.le_trans h.size k.size, fun i hi hr => (k.block i (Nat.lt_of_lt_of_le hi h.size) hr).trans (h.block i hi hr)⟩
theorem gD9 {w w' : World} {r : Option Nat} (h : w.grownBy w' r) (n : Nat) : w.grownBy (w'.drewN n) r := ⟨h.os, h.tape, h.output, h.size, h.block⟩
theorem below_gr {a b c : World} {g : Nat} (h : Below a.heap.size a b) (k : b.grownBy c (some g)) (hg : a.heap.size ≤ g) : Below a.heap.size a c :=
  ⟨k.os.trans h.os, k.tape.trans h.tape, k.output.trans h.output, Nat.le_trans h.size k.size, fun q hq => (k.block q (Nat.lt_of_lt_of_le hq h.size) (fun e => by have := Option.some.inj e; omega)).trans (h.block q hq)⟩
set_option maxRecDepth 20000 in
set_option maxHeartbeats 2000000 in
theorem l19Var_any (t : ByteArray) (ht : t.size ≤ 1048576) (a : Nat) (b : Bool) (ha : a ≤ t.size) (g : Nat) (w : World) (hC : CB w g 46 (cuC t a b)) :
    Calls Try.prog 25 #[.pointer (some ⟨g, 0, none⟩)] w fun e w' => e = .returned (.int .i64 ((vrS t a b).1 : Int)) ∧ CB w' g 46 (cuC t (vrS t a b).2.1 (vrS t a b).2.2) ∧ w.grownBy w' (some g) := by
  have CR := hide (fun W => specReadVar_yes t a W ht ha)
  have hg := hC.lt
  have c0 := hC.cell 0 rfl
  have c1 := hC.cell 1 rfl
  have KS := hide (fun (W : World) (h : Below w.heap.size w W) => (⟨(h.cell (p := ⟨g, 0, none⟩) hg).trans c0, (h.cell (p := ⟨g, 1, none⟩) hg).trans c1⟩ : W.cell? ⟨g, 0, none⟩ = some (.string t) ∧ W.cell? ⟨g, 1, none⟩ = some (.int .i64 (a : Int))))
  replace hC := hide hC
  cases hr : rvRun t a a 1 0 with
  | none =>
    have E : vrS t a b = (0, a, true) := by unfold vrS; split; rfl; rw [hr]
    rw [E]
    rw [hr] at CR
    clear hr E
    go_enter Try.func25, Try.ntmps25
    go_wp2
    go_region_held3 (fun W => W.cell? ⟨g, 0, none⟩ = some (.string t) ∧ W.cell? ⟨g, 1, none⟩ = some (.int .i64 (a : Int))) (first | exact ⟨c0, c1⟩ | exact (unhide KS) _ hB1 | fail) (first
      | (go_at_call 30; refine ((unhide CR) _).mono ?_; unfold rvTup; rintro e w1 ⟨rfl, hb1⟩; have hB1 : Below w.heap.size w w1 := (Below.refl _ w).drew.trans hb1)
      | fail)
    all_goals
      have hC1 := (unhide hC).below hB1 hg
      have e2 := hC1.cell 2 rfl
      have f2 := hC1.frozen 2
      have hC2 := hide (hC1.set 2 (.bool true))
      have hG2 := hide (gT9 (gB9 hB1 (some g)) (tS0 w1 g 2 (.bool true)))
      clear hb1 hB1 KS c0 c1 hC1 CR
      cases b with
      | true =>
        go_wp2
        go_ret
        exact ⟨rfl, unhide hC2, unhide hG2⟩
      | false =>
        go_wp2
        go_ret
        exact ⟨rfl, unhide hC2, unhide hG2⟩
  | some p =>
    obtain ⟨n, j⟩ := p
    obtain ⟨q1, q2, q3, q4, _⟩ := rvRun_own ha hr
    have E : vrS t a b = if b then (0, a, true) else (n, j, false) := by unfold vrS; rw [hr]
    rw [E]
    rw [hr] at CR
    clear hr E
    cases b with
    | true =>
      go_enter Try.func25, Try.ntmps25
      go_wp2
      go_region_held3 (fun W => W.cell? ⟨g, 0, none⟩ = some (.string t) ∧ W.cell? ⟨g, 1, none⟩ = some (.int .i64 (a : Int))) (first | exact ⟨c0, c1⟩ | exact (unhide KS) _ hB1 | fail) (first
        | (go_at_call 30; refine ((unhide CR) _).mono ?_; unfold rvTup; rintro e w1 ⟨rfl, hb1⟩; have hB1 : Below w.heap.size w w1 := (Below.refl _ w).drew.trans hb1)
        | fail)
      all_goals
        have hC1 := (unhide hC).below hB1 hg
        have e2 := hC1.cell 2 rfl
        have f2 := hC1.frozen 2
        have hC2 := hide (hC1.set 2 (.bool true))
        have hG2 := hide (gT9 (gB9 hB1 (some g)) (tS0 w1 g 2 (.bool true)))
        clear hb1 hB1 KS c0 c1 hC1 CR
        go_wp2
        go_ret
        exact ⟨rfl, unhide hC2, unhide hG2⟩
    | false =>
      go_enter Try.func25, Try.ntmps25
      go_wp2
      go_region_held3 (fun W => W.cell? ⟨g, 0, none⟩ = some (.string t) ∧ W.cell? ⟨g, 1, none⟩ = some (.int .i64 (a : Int))) (first | exact ⟨c0, c1⟩ | exact (unhide KS) _ hB1 | fail) (first
        | (go_at_call 30; refine ((unhide CR) _).mono ?_; unfold rvTup; rintro e w1 ⟨rfl, hb1⟩; have hB1 : Below w.heap.size w w1 := (Below.refl _ w).drew.trans hb1)
        | fail)
      all_goals
        have hC1 := (unhide hC).below hB1 hg
        have e1 := hC1.cell 1 rfl
        have e2 := hC1.cell 2 rfl
        have f1 := hC1.frozen 1
        have hC2 := hide (hC1.set 1 (.int .i64 (j : Int)))
        have hG2 := hide (gT9 (gB9 hB1 (some g)) (tS0 w1 g 1 (.int .i64 (j : Int))))
        clear hb1 hB1 KS c0 c1 hC1 CR
        go_wp2
        go_ret
        exact ⟨rfl, unhide hC2, unhide hG2⟩
set_option maxRecDepth 20000 in
set_option maxHeartbeats 2000000 in
theorem l19Take_any (t : ByteArray) (ht : t.size ≤ 1048576) (a : Nat) (b : Bool) (ha : a ≤ t.size) (n : Nat) (hn : n ≤ 1000000000) (g : Nat) (w : World) (hC : CB w g 46 (cuC t a b)) :
    Calls Try.prog 31 #[.pointer (some ⟨g, 0, none⟩), .int .i64 (n : Int)] w fun e w' => e = .returned (.string (tkS t a b n).1) ∧ CB w' g 46 (cuC t (tkS t a b n).2.1 (tkS t a b n).2.2) ∧ w.grownBy w' (some g) := by
  have c0 := hC.cell 0 rfl
  have c1 := hC.cell 1 rfl
  have c2 := hC.cell 2 rfl
  have f1 := hC.frozen 1
  have f2 := hC.frozen 2
  have R1 : ∀ q, World.frozen? (w.drewN q) ⟨g, 2, none⟩ = false := fun _ => f2
  have R2 : ∀ q, World.frozen? (w.drewN q) ⟨g, 1, none⟩ = false := fun _ => f1
  cases b with
  | true =>
    have E : tkS t a true n = (⟨#[]⟩, a, true) := by unfold tkS; rw [if_pos (.inl rfl)]
    rw [E]
    have hC2 := hide (fun q => (show CB (w.drewN q) g 46 (cuC t a true) from hC).set 2 (.bool true))
    have hG2 := hide (fun q => gT9 (gD9 (World.grownBy.refl w (some g)) q) (tS0 (w.drewN q) g 2 (.bool true)))
    clear hC E
    go_enter Try.func31, Try.ntmps31
    go_wp2
    go_quiet (fail)
    go_wp2
    go_ret
    exact ⟨rfl, unhide hC2 _, unhide hG2 _⟩
  | false =>
    obtain ⟨m, hm⟩ : ∃ m : Nat, m = t.size - a := ⟨_, rfl⟩
    have u1 : IntKind.i64.wrap ((t.size : Int) - (a : Int)) = (m : Int) := by rw [IntKind.wrap_i64]; omega
    by_cases hlt : m < n
    · have E : tkS t a false n = (⟨#[]⟩, a, true) := by unfold tkS; rw [if_pos (.inr (by omega))]
      rw [E]
      have hlt' : (m : Int) < (n : Int) := by omega
      have hC2 := hide (fun q => (show CB (w.drewN q) g 46 (cuC t a false) from hC).set 2 (.bool true))
      have hG2 := hide (fun q => gT9 (gD9 (World.grownBy.refl w (some g)) q) (tS0 (w.drewN q) g 2 (.bool true)))
      clear hC E
      replace hm := hide hm
      go_enter Try.func31, Try.ntmps31
      go_wp2
      go_quiet (fail)
      go_wp2
      go_ret
      exact ⟨rfl, unhide hC2 _, unhide hG2 _⟩
    · obtain ⟨j, hj⟩ : ∃ j : Nat, j = a + n := ⟨_, rfl⟩
      have E : tkS t a false n = (t.extract a j, j, false) := by unfold tkS; rw [if_neg (by simp; omega), hj]
      rw [E]
      have hlt' : ¬ (m : Int) < (n : Int) := by omega
      have u2 : IntKind.i64.wrap ((a : Int) + (n : Int)) = (j : Int) := by rw [IntKind.wrap_i64]; omega
      have u3 : IntKind.i64.wrap ((j : Int) - (n : Int)) = (a : Int) := by rw [IntKind.wrap_i64]; omega
      have hjl : (j : Int) ≤ (t.size : Int) := by omega
      have haj : (a : Int) ≤ (j : Int) := by omega
      have ha0 : (0 : Int) ≤ (a : Int) := by omega
      have hj0 : (0 : Int) ≤ (j : Int) := by omega
      have hC2 := hide (fun q => (show CB (w.drewN q) g 46 (cuC t a false) from hC).set 1 (.int .i64 (j : Int)))
      have hG2 := hide (fun q => gT9 (gD9 (World.grownBy.refl w (some g)) q) (tS0 (w.drewN q) g 1 (.int .i64 (j : Int))))
      clear hC E
      replace hm := hide hm; replace hj := hide hj
      go_enter Try.func31, Try.ntmps31
      go_wp2
      go_quiet (fail)
      have hC3 := (unhide hC2) nq
      have hG3 := hide ((unhide hG2) nq)
      have e0 := hC3.cell 0 rfl
      have e1 := hC3.cell 1 rfl
      go_wp2
      go_quiet (fail)
      go_wp2
      go_ret
      exact ⟨rfl, hC3, gD9 (unhide hG3) _⟩
set_option maxRecDepth 20000 in
set_option maxHeartbeats 2000000 in
theorem l19One_any (t : ByteArray) (ht : t.size ≤ 1048576) (a : Nat) (b : Bool) (ha : a ≤ t.size) (g : Nat) (w : World) (hC : CB w g 46 (cuC t a b)) :
    Calls Try.prog 26 #[.pointer (some ⟨g, 0, none⟩)] w fun e w' => e = .returned (.int .i64 ((onS t a b).1 : Int)) ∧ CB w' g 46 (cuC t (onS t a b).2.1 (onS t a b).2.2) ∧ w.grownBy w' (some g) := by
  have CT := hide (l19Take_any t ht a b ha 1 (by omega) g w hC)
  rw [show ((1 : Nat) : Int) = 1 from rfl] at CT
  have E := hide (show onS t a b = if (tkS t a b 1).2.2 then (0, (tkS t a b 1).2) else (byA9 (tkS t a b 1).1 0, (tkS t a b 1).2) from rfl)
  rw [unhide E]
  have hz : (tkS t a b 1).2.2 = false → (tkS t a b 1).1.size = 1 := by
    unfold tkS
    split
    · intro h; cases h
    · intro _
      show (t.extract a (a + 1)).size = 1
      rw [ByteArray.size_extract]; omega
  generalize tkS t a b 1 = r at *
  obtain ⟨s, k, bd⟩ := r
  simp only at hz CT ⊢
  clear E
  cases bd with
  | true =>
    clear hC hz
    go_enter Try.func26, Try.ntmps26
    go_wp2_with fail
    refine (unhide CT).mono ?_
    rintro e w1 ⟨rfl, hC1, hG1⟩
    have e2 := hC1.cell 2 rfl
    replace hC1 := hide hC1; replace hG1 := hide hG1
    go_wp2
    go_ret
    exact ⟨rfl, unhide hC1, unhide hG1⟩
  | false =>
    have hs1 := hz rfl
    have h0 : (0 : Int) < (s.size : Int) := by omega
    have hx : ∀ h : 0 < s.size, (s[0]'h).toNat = byA9 s 0 := fun h => by
      unfold byA9
      rw [Array.getD_eq_getD_getElem?, Array.getElem?_eq_getElem h]
      rfl
    have hq : byA9 s 0 < 256 := UInt8.toNat_lt _
    generalize byA9 s 0 = q at *
    clear hC hz
    replace hs1 := hide hs1
    go_enter Try.func26, Try.ntmps26
    go_wp2_with fail
    refine (unhide CT).mono ?_
    rintro e w1 ⟨rfl, hC1, hG1⟩
    have e2 := hC1.cell 2 rfl
    replace hC1 := hide hC1; replace hG1 := hide hG1
    go_wp2
    go_ret
    exact ⟨rfl, unhide hC1, unhide hG1⟩
set_option maxRecDepth 20000 in
theorem l19ReadShort_any (t : ByteArray) (ht : t.size ≤ 1048576) (a : Nat) (b : Bool) (ha : a ≤ t.size) (g : Nat) (w : World) (hC : CB w g 46 (cuC t a b)) :
    Calls Try.prog 27 #[.pointer (some ⟨g, 0, none⟩)] w fun e w' => e = .returned (.string (shS t a b).1) ∧ CB w' g 46 (cuC t (shS t a b).2.1 (shS t a b).2.2) ∧ w.grownBy w' (some g) := by
  have CV := hide (l19Var_any t ht a b ha g w hC)
  have CT := hide (fun W h => l19Take_any t ht (vrS t a b).2.1 (vrS t a b).2.2 (vrS_le t a b ha) (vrS t a b).1 (vrS_num t a b ha) g W h)
  have E := hide (show shS t a b = tkS t (vrS t a b).2.1 (vrS t a b).2.2 (vrS t a b).1 from rfl)
  rw [← unhide E] at CT
  generalize vrS t a b = v at *
  clear hC
  go_enter Try.func27, Try.ntmps27
  go_wp2_with fail
  refine (unhide CV).mono ?_
  rintro e w1 ⟨rfl, hC1, hG1⟩
  go_wp2_with fail
  refine (unhide CT w1 hC1).mono ?_
  rintro e w2 ⟨rfl, hC2, hG2⟩
  have hG := gT9 hG1 hG2
  clear hG1 hG2 hC1
  replace hC2 := hide hC2; replace hG := hide hG
  go_wp2
  go_ret
  exact ⟨rfl, unhide hC2, unhide hG⟩
end Go.Proofs.Ytjhjoaihdpahhaa
