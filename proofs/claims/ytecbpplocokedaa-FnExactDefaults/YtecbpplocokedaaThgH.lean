/- The laws' helpers on things, over the loaded program. -/
import Derived.Test.YtecbpplocokedaaThg4
namespace Go.Proofs.Ytecbpplocokedaa
open Go.RowKit
theorem cb_eq {w : World} {g : Nat} {T : TypeId} {cs cs' : Array Value} (h : CB w g T cs) (e : cs' = cs) : CB w g T cs' := by rw [e]; exact h
theorem szThing_any (x : Th) (L : Int) (hL : 0 ≤ L ∧ L ≤ 1048576) (hv : x.val.size ≤ maxLen) (w : World) :
    Calls Try.prog 21 #[.agg (thC x), .int .i64 L] w fun e w' => (∃ z : Int, e = .returned (.int .i64 z) ∧ ((z < 0 ∧ L < (x.val.size : Int)) ∨ (z = L - (x.val.size : Int) ∧ (x.val.size : Int) ≤ L))) ∧ Below w.heap.size w w' := by
  obtain ⟨id, kind, hid, fix, sgn, wrp, val, nxt⟩ := x
  unfold thC
  simp only at hv ⊢
  unfold maxLen at hv
  obtain ⟨W, hW, hC, hb, hlt⟩ := one_cb w #[.int .i64 id, .int .i64 kind, .bool hid, .bool fix, .bool sgn, .bool wrp, .string val, .int .i64 nxt] 37
  have c6 := hC.cell 6 rfl
  clear hC
  obtain ⟨z, hz⟩ : ∃ z : Int, z = L - (val.size : Int) := ⟨_, rfl⟩
  have u1 : IntKind.i64.wrap (L - (val.size : Int)) = z := by rw [IntKind.wrap_i64]; omega
  have u1' : wrap64 (L - (val.size : Int)) = z := (IntWalk.i64_left _).symm.trans u1
  by_cases hn : z < 0
  · have HZ := hide (show (-1 : Int) < 0 ∧ L < (val.size : Int) from ⟨by omega, by omega⟩)
    replace hz := hide hz
    clear hL hv
    go_enter Try.func21, Try.ntmps21
    go_wp2
    go_ret
    exact ⟨⟨-1, rfl, .inl (unhide HZ)⟩, hb⟩
  · have HZ := hide (show z = L - (val.size : Int) ∧ (val.size : Int) ≤ L from ⟨hz, by omega⟩)
    replace hz := hide hz
    clear hL hv
    go_enter Try.func21, Try.ntmps21
    go_wp2
    go_ret
    exact ⟨⟨z, rfl, .inr (unhide HZ)⟩, hb⟩
set_option maxRecDepth 20000 in
set_option maxHeartbeats 2000000 in
theorem toThing_any (x : Th) (w : World) :
    Calls Try.prog 22 #[.agg (thC x)] w fun e w' => e = .returned (.agg (thC x)) ∧ Below w.heap.size w w' := by
  obtain ⟨id, kind, hid, fix, sgn, wrp, val, nxt⟩ := x
  unfold thC
  simp only
  go_enter Try.func22, Try.ntmps22
  go_wp2
  exact bodyPost_ret (v := .agg #[.int .i64 id, .int .i64 kind, .bool hid, .bool fix, .bool sgn, .bool wrp, .string val, .int .i64 nxt]) (by simp [results, Try.results22, go_sem]) rfl ⟨rfl, (((Below.refl w.heap.size w).alloc (Nat.le_refl _) _).alloc (by simp) _).alloc (by simp; omega) _⟩
set_option maxRecDepth 20000 in
set_option maxHeartbeats 1000000 in
theorem eqThing_any (x : Th) (w : World) :
    Calls Try.prog 24 #[.agg (thC x), .agg (thC x)] w fun e w' => e = .returned (.bool true) ∧ Below w.heap.size w w' := by
  obtain ⟨id, kind, hid, fix, sgn, wrp, val, nxt⟩ := x
  unfold thC
  simp only
  obtain ⟨W, hW, hA, hB, hb, hlt⟩ := two_cb w #[.int .i64 id, .int .i64 kind, .bool hid, .bool fix, .bool sgn, .bool wrp, .string val, .int .i64 nxt] #[.int .i64 id, .int .i64 kind, .bool hid, .bool fix, .bool sgn, .bool wrp, .string val, .int .i64 nxt] 25 25
  have a0 := hA.cell 0 rfl
  have b0 := hB.cell 0 rfl
  have a1 := hA.cell 1 rfl
  have b1 := hB.cell 1 rfl
  have a2 := hA.cell 2 rfl
  have b2 := hB.cell 2 rfl
  have a3 := hA.cell 3 rfl
  have b3 := hB.cell 3 rfl
  have a4 := hA.cell 4 rfl
  have b4 := hB.cell 4 rfl
  have a5 := hA.cell 5 rfl
  have b5 := hB.cell 5 rfl
  have a6 := hA.cell 6 rfl
  have b6 := hB.cell 6 rfl
  have a7 := hA.cell 7 rfl
  have b7 := hB.cell 7 rfl
  clear hA hB
  go_enter Try.func24, Try.ntmps24
  go_wp2
  go_ret
  exact ⟨rfl, hb⟩
end Go.Proofs.Ytecbpplocokedaa
