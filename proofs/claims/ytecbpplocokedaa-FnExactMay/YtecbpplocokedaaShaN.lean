/- The sixty-four numbers by impl, over the loaded program. -/
import Derived.Test.YtecbpplocokedaaShaW
namespace Go.Proofs.Ytecbpplocokedaa
open Go.RowKit
set_option maxRecDepth 100000 in
theorem implNumbers_any (w : World) :
    Calls Try.prog 58 #[] w fun e w' => e = .returned (aggV kTab) ∧ Below w.heap.size w w' := by
  go_enter Try.func58, Try.ntmps58
  have H1 := hide (ArrAt.new w 81 zeros64)
  have hik : (Try.prog.info? 81).map (·.size) = some kTab.length := by kernel_rfl
  replace hik := hide hik
  have hb : Below w.heap.size w (w.alloc (.cells (zeros64.map u32v).toArray 81)) := (Below.refl w.heap.size w).alloc (Nat.le_refl _) _
  replace hb := hide hb
  go_wp2_with (first | (refine wpList_build_arr rfl 81 _ rfl kTab (by kernel_rfl) ?_) | (refine wpList_store_arr rfl 81 _ _ rfl w.heap.size _ zeros64 rfl rfl 81 (unhide H1) (unhide hik) rfl ?_))
  refine bodyPost_ret (v := aggV kTab) (results_arr Try.results58 _ _ w.heap.size 81 _ _ _ rfl ((unhide H1).setRow _) Try.underlying81 (unhide hik)) rfl ⟨rfl, Go.below_setRow (unhide hb) (Nat.le_refl _) _⟩
end Go.Proofs.Ytecbpplocokedaa
