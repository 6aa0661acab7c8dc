/- The sixty-four numbers by impl, over the loaded program. -/
import Derived.Test.YtljjajbkaffofauShaW
namespace Go.Proofs.Ytljjajbkaffofau
open Go.RowKit
set_option maxRecDepth 100000 in
theorem implNumbers_any (w : World) :
    Calls Try.prog 73 #[] w fun e w' => e = .returned (aggV kTab) ∧ Below w.heap.size w w' := by
  go_enter Try.func73, Try.ntmps73
  have H1 := hide (ArrAt.new w 96 zeros64)
  have hik : (Try.prog.info? 96).map (·.size) = some kTab.length := by kernel_rfl
  replace hik := hide hik
  have hb : Below w.heap.size w (w.alloc (.cells (zeros64.map u32v).toArray 96)) := (Below.refl w.heap.size w).alloc (Nat.le_refl _) _
  replace hb := hide hb
  go_wp2_with (first | (refine wpList_build_arr rfl 96 _ rfl kTab (by kernel_rfl) ?_) | (refine wpList_store_arr rfl 96 _ _ rfl w.heap.size _ zeros64 rfl rfl 96 (unhide H1) (unhide hik) rfl ?_))
  refine bodyPost_ret (v := aggV kTab) (results_arr Try.results73 _ _ w.heap.size 96 _ _ _ rfl ((unhide H1).setRow _) Try.underlying96 (unhide hik)) rfl ⟨rfl, Go.below_setRow (unhide hb) (Nat.le_refl _) _⟩
end Go.Proofs.Ytljjajbkaffofau
