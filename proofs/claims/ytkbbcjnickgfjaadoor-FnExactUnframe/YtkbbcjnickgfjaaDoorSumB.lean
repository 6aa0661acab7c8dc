/- The four bytes of a sum; SumMore, SumOf, Sealed and Unsealed of both sides, over the loaded program. -/
import Derived.Test.YtkbbcjnickgfjaaDoorSum
namespace Go.Proofs.YtkbbcjnickgfjaaDoor
open Go.RowKit

theorem four_bytes (c : Nat) (hc : c < 4294967296) :
    [Value.int .u8 ((c : Int) / 16777216), .int .u8 ((c : Int) / 65536 % 256), .int .u8 ((c : Int) / 256 % 256), .int .u8 ((c : Int) % 256)] = (four c).map bv := by
  simp only [four, List.map, bv, UInt8.toNat_ofNat']
  have h (x : Nat) : ((x : Int) % 256) = ((x % 2 ^ 8 : Nat) : Int) := by omega
  have h0 : ((c : Int) / 16777216) = ((c / 16777216 % 2 ^ 8 : Nat) : Int) := by omega
  rw [← h (c / 65536), ← h (c / 256), ← h c, h0]
  rfl

theorem run_four (c : Nat) (hc : c < 4294967296) (w : World) :
    (convert 22 9 (.slice (some ⟨w.heap.size, 0, none⟩) 4 4)).run Tryd.prog (w.alloc (.cells #[.int .u8 ((c : Int) / 16777216), .int .u8 ((c : Int) / 65536 % 256), .int .u8 ((c : Int) / 256 % 256), .int .u8 ((c : Int) % 256)] 5))
      = .ok (.string ⟨(four c).toArray⟩) (w.alloc (.cells #[.int .u8 ((c : Int) / 16777216), .int .u8 ((c : Int) / 65536 % 256), .int .u8 ((c : Int) / 256 % 256), .int .u8 ((c : Int) % 256)] 5)) := by
  refine run_convert_bytes_back (P := Tryd.prog) _ 22 9 5 ⟨w.heap.size, 0, none⟩ 4 (four c) Tryd.underlying22 Tryd.underlying5 Tryd.underlying9 (fun j hj => ?_)
  have hadd : (⟨w.heap.size, 0, none⟩ : Addr).add j = ⟨w.heap.size, j, none⟩ := by unfold Addr.add; split <;> simp_all
  rw [hadd, cell_of_row _ w.heap.size j _ 5 (0, 0) (heap_alloc_new w _)]
  have := congrArg (fun l : List Value => l[j]?) (four_bytes c hc)
  simp only [List.getElem?_map, List.getElem?_eq_getElem hj, Option.map_some] at this
  simpa [bv] using this

set_option maxHeartbeats 400000 in
theorem specFour_any (c : Nat) (hc : c < 4294967296) (w : World) :
    Calls Tryd.prog 34 #[.int .u32 (c : Int)] w fun e w' => e = .returned (.string ⟨(four c).toArray⟩) ∧ Below w.heap.size w w' := by
  have hr := run_four c hc w
  go_enter Tryd.func34, Tryd.ntmps34
  go_wp2
  go_ret
  exact ⟨rfl, (Below.refl _ _).alloc (Nat.le_refl _) _⟩

set_option maxHeartbeats 400000 in
theorem implFour_any (c : Nat) (hc : c < 4294967296) (w : World) :
    Calls Tryd.prog 23 #[.int .u32 (c : Int)] w fun e w' => e = .returned (.string ⟨(four c).toArray⟩) ∧ Below w.heap.size w w' := by
  have hr := run_four c hc w
  go_enter Tryd.func23, Tryd.ntmps23
  go_wp2
  go_ret
  exact ⟨rfl, (Below.refl _ _).alloc (Nat.le_refl _) _⟩



set_option maxHeartbeats 400000 in
theorem specSumOf_any (s : ByteArray) (w : World) (hs : s.size ≤ 1048580) :
    Calls Tryd.prog 35 #[.string s] w fun e w' => e = .returned (.int .u32 (crcL 4294967295 s.data.toList : Int)) ∧ w' = w := by
  have C := hide (specMore_any 4294967295 (by decide) s w hs)
  generalize crcL 4294967295 s.data.toList = x at C
  go_enter Tryd.func35, Tryd.ntmps35
  go_wp2_with (go_at_call 37; refine (unhide C).mono ?_; rintro e w1 ⟨rfl, rfl⟩)
  go_ret
  exact ⟨rfl, rfl⟩
end Go.Proofs.YtkbbcjnickgfjaaDoor
