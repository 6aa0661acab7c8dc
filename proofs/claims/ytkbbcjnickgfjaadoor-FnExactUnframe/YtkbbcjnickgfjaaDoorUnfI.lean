/- The reader of frames: framesOf's function value hands each whole frame's record and the place behind it to a yield, in order. -/
import Derived.Test.YtkbbcjnickgfjaaDoorUnfA
import Derived.Test.YtkbbcjnickgfjaaDoorShelf
import Derived.RangeFuncNested
import Derived.RangeFuncBound
import Derived.RangeFuncCalls
import Derived.RangeFuncLeaves
import Derived.RangeFuncBox
import Derived.Shelf.Abstract
import Derived.Shelf.RegionOpen
import Derived.WalkKit
import Derived.OwnWalkIn
import Derived.TacticsInMore
import Derived.LoopNIn
import Derived.LoopIn
import Derived.Maps.AppendAt
namespace Go.Proofs.YtkbbcjnickgfjaaDoor
open Go.RowKit Go.Shelf
attribute [local go_sem] Oper.semAt_some

/-- A record with the place behind it. -/
abbrev Rec := { x : ByteArray × Nat // x.1.size ≤ 20000 ∧ x.2 ≤ 20000 }
abbrev recs (x : Rec) : Array Value := #[.string x.1.1, .int .i64 (x.1.2 : Int)]

def frRec (s : ByteArray) : Option (Nat × Nat) → ByteArray
  | none => ⟨#[]⟩
  | some (b, e) => s.extract b e
def frEnd : Option (Nat × Nat) → Nat
  | none => 0
  | some (_, e) => e
theorem frTup_eq (s : ByteArray) (o : Option (Nat × Nat)) : frTup s o = .tuple #[.string (frRec s o), .int .i64 (frEnd o : Int), .bool o.isSome] := by
  cases o with
  | none => rfl
  | some r => rfl

/-- The records of a file, each with the place behind it; none of one that is too long. -/
def unfL (s : ByteArray) : List (ByteArray × Nat) := if s.size ≤ 20000 then frs s 0 else []

/-- How many rounds may still come. -/
def itLeft (n : Nat) (e : Value) : Value → Nat
  | .bool true => n - (intOf e).toNat + 1
  | _ => 0

/-- What a round keeps: what lay ahead of the call, and the box of the file. -/
def KpU (n₀ Bn : Nat) (W W' : World) : Prop := Below n₀ W W' ∧ W'.heap[Bn]? = W.heap[Bn]?
theorem KpU.t {n₀ Bn : Nat} {A B C : World} (h : KpU n₀ Bn A B) (k : KpU n₀ Bn B C) : KpU n₀ Bn A C := ⟨h.1.trans k.1, k.2.trans h.2⟩

theorem grown_of_below {w w' : World} (h : Below w.heap.size w w') : w.grownBy w' none := ⟨h.os, h.tape, h.output, h.size, fun k hk _ => h.block k hk⟩

set_option maxRecDepth 100000 in
set_option maxHeartbeats 2000000 in
theorem framesOf1_in (m l Bn n₀ : Nat) (hm : 1 ≤ m) (s : ByteArray) (xs : List Rec) (hxs : xs.map Subtype.val = unfL s) (J Jx : List Rec → World → Prop) (W0 : World) (hJ : AbidesFrom W0.heap.size J)
    (hY : ∀ pre x W, J pre W → pre.length < xs.length → YieldAt Fence.wide (m - 1) Tryd.prog l (recs x) W fun e W' =>
      (e = .returned (.bool true) ∧ J (pre ++ [x]) W' ∧ KpU n₀ Bn W W') ∨ (e = .returned (.bool false) ∧ Jx (pre ++ [x]) W'))
    (hBn : W0.heap[Bn]? = some (.cells #[.string s] 9 (0, 0))) (hn₀ : n₀ ≤ W0.heap.size) (htab : ∀ W, Below n₀ W0 W → Laid W) (h0 : J [] W0) :
    CallsIn Fence.wide m Tryd.prog 29 #[.func (.yield l) #[] #[], .pointer (some ⟨Bn, 0, none⟩)] W0 fun e W' => (∃ v, e = .returned v) ∧
      ((∃ ys, ys = xs ∧ J ys W') ∨ (∃ pre, pre <+: xs ∧ Jx pre W')) := by
  by_cases hs : s.size ≤ 20000
  case neg =>
    have hs' : (20000 : Int) < (s.size : Int) := by omega
    have hc0 : W0.cell? ⟨Bn, 0, none⟩ = some (.string s) := by simp [World.cell?, hBn]
    have hx0 : xs = [] := by unfold unfL at hxs; rw [if_neg hs] at hxs; simpa using hxs
    refine callsIn_of_wp Tryd.func29 rfl trivial ?_ rfl
    simp only [Tryd.ntmps29, List.size_toArray, List.length_cons, List.length_nil, Nat.reduceAdd, Nat.reduceSub, Array.replicate_succ, Array.replicate_zero, List.push_toArray, List.append_toArray, List.nil_append, List.cons_append]
    gi_wp2
    refine bodyPost_ret (results_none (by exact Tryd.results29) _ _ _) rfl ?_
    exact ⟨⟨_, rfl⟩, .inl ⟨[], hx0.symm, h0⟩⟩
  have hs' : ¬ (20000 : Int) < (s.size : Int) := by omega
  unfold unfL at hxs
  rw [if_pos hs] at hxs
  have CF : Hid (∀ p W, p ≤ s.size → Below n₀ W0 W → CallsIn Fence.wide (m - 1) Tryd.prog 30 #[.string s, .int .i64 (p : Int)] W fun e w' => e = .returned (.tuple #[.string (frRec s (frAt s p)), .int .i64 (frEnd (frAt s p) : Int), .bool (frAt s p).isSome]) ∧ Below W.heap.size W w') := by
    intro p W hp hB
    refine callsIn_wide.2 ?_
    have := frameAt_any s p W hs hp (htab W hB)
    rwa [frTup_eq] at this
  have hc0 : W0.cell? ⟨Bn, 0, none⟩ = some (.string s) := by simp [World.cell?, hBn]
  have hBl : Bn < W0.heap.size := (Array.getElem?_eq_some_iff.1 hBn).1
  have CF0 : Hid (CallsIn Fence.wide (m - 1) Tryd.prog 30 #[.string s, .int .i64 0] W0 fun e w' => e = .returned (.tuple #[.string (frRec s (frAt s 0)), .int .i64 (frEnd (frAt s 0) : Int), .bool (frAt s 0).isSome]) ∧ Below W0.heap.size W0 w') := (unhide CF) 0 W0 (Nat.zero_le _) (Below.refl _ _)
  refine callsIn_of_wp Tryd.func29 rfl trivial ?_ rfl
  simp only [Tryd.ntmps29, List.size_toArray, List.length_cons, List.length_nil, Nat.reduceAdd, Nat.reduceSub, Array.replicate_succ, Array.replicate_zero, List.push_toArray, List.append_toArray, List.nil_append, List.cons_append]
  gi_wp2_with (refine ⟨trivial, ?_⟩; gi_at_call 30; refine (unhide CF0).mono ?_; rintro e w1 ⟨rfl, hb1⟩)
  gi_loopw [3, 4, 5] (fun r e h wr => ∃ (pre rest : List Rec) (q : Nat), r = .string (frRec s (frAt s q)) ∧ e = .int .i64 (frEnd (frAt s q) : Int) ∧ h = .bool (frAt s q).isSome ∧ xs = pre ++ rest ∧ rest.map Subtype.val = frs s q ∧ q ≤ s.size ∧ J pre wr ∧ wr.heap[Bn]? = some (.cells #[.string s] 9 (0, 0)) ∧ Below n₀ W0 wr)
    (fun _ e h _ => itLeft s.size e h)
  case atStart =>
    exact ⟨[], xs, 0, rfl, rfl, rfl, rfl, hxs, Nat.zero_le _, hJ _ _ _ _ h0 (grown_of_below hb1) (fun r e => by cases e), (hb1.block Bn hBl).trans hBn, hb1.mono hn₀⟩
  case round =>
    obtain ⟨pre, rest, q, rfl, rfl, rfl, hx, hrest, hq, hJs, hBr, hBW⟩ := hrel
    clear CF0 hb1
    have hcr : wr.cell? ⟨Bn, 0, none⟩ = some (.string s) := by simp [World.cell?, hBr]
    cases hf : frAt s q with
    | none =>
      rw [frs_none hf] at hrest
      have hre : rest = [] := by simpa using hrest
      subst hre
      rw [show frRec s none = ⟨#[]⟩ from rfl, show frEnd none = 0 from rfl, show (none : Option (Nat × Nat)).isSome = false from rfl]
      gi_wp2
      refine ⟨fun _ h => (by cases h), ?_⟩
      gi_wp2
      go_end0
      exact ⟨⟨_, rfl⟩, .inl ⟨pre, by rw [hx, List.append_nil], hJs⟩⟩
    | some r =>
      obtain ⟨b, e⟩ := r
      obtain ⟨f1, f2, f3, f4, f5⟩ := frAt_some hq hf
      rw [frs_some hq hf] at hrest
      cases rest with
      | nil => simp at hrest
      | cons x rest =>
        simp only [List.map_cons, List.cons.injEq] at hrest
        obtain ⟨hx1, hrest⟩ := hrest
        obtain ⟨fn, tmps, assign, body, hy, hR⟩ := hY pre x wr hJs (by rw [hx]; simp)
        unfold recs at hy
        rw [hx1] at hy
        dsimp only at hy
        rw [show frRec s (some (b, e)) = s.extract b e from rfl, show frEnd (some (b, e)) = e from rfl, show (some (b, e)).isSome = true from rfl]
        gi_wp2
        refine hR.mono ?_
        rintro e3 W3 (⟨rfl, hJ3, hk3⟩ | ⟨rfl, hJx3⟩)
        · have hB3 := hk3.2.trans hBr
          have hc3 : W3.cell? ⟨Bn, 0, none⟩ = some (.string s) := by simp [World.cell?, hB3]
          have hBW3 := hBW.trans hk3.1
          have CF3 := hide ((unhide CF) e W3 f3 hBW3)
          gi_wp2_with (refine ⟨trivial, ?_⟩; gi_at_call 30; refine (unhide CF3).mono ?_; rintro e4 w4 ⟨rfl, hb4⟩)
          go_roundw
          case rel => exact ⟨pre ++ [x], rest, e, rfl, rfl, rfl, by simp [hx], hrest, f3, hJ _ _ _ _ hJ3 (grown_of_below hb4) (fun r e => by cases e), (hb4.block Bn (Array.getElem?_eq_some_iff.1 hB3).1).trans hB3, hBW3.trans (hb4.mono (Nat.le_trans hn₀ hBW3.size))⟩
          case measure =>
            cases hf2 : frAt s e with
            | none => simp [itLeft, intOf]
            | some r2 =>
              obtain ⟨b2, e2⟩ := r2
              obtain ⟨g1, g2, g3, g4, g5⟩ := frAt_some f3 hf2
              simp [itLeft, intOf, frEnd]
              omega
        · gi_wp2
          go_end0
          exact ⟨⟨_, rfl⟩, .inr ⟨pre ++ [x], ⟨rest, by simp [hx]⟩, hJx3⟩⟩
end Go.Proofs.YtkbbcjnickgfjaaDoor
