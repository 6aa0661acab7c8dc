/- Merged: LawRc. -/
import Derived.Test.YtoacaennpddoeaaMgRecText1
import Derived.Test.YtoacaennpddoeaaMgRecText2
import Derived.Test.YtoacaennpddoeaaMgRecText3
import Derived.Test.YtoacaennpddoeaaMgRecText4
import Derived.Test.YtoacaennpddoeaaMgRecText5
import Derived.Test.YtoacaennpddoeaaMgRecText6
import Derived.Test.YtoacaennpddoeaaMgRecText7
import Derived.Test.YtoacaennpddoeaaMgRecText8
import Derived.Test.YtoacaennpddoeaaMgRecText9
/- The law of the records' texts, over the loaded program. -/
namespace Go.Proofs.Ytoacaennpddoeaa
open Go.RowKit
set_option maxRecDepth 20000 in
set_option maxHeartbeats 4000000 in
theorem lawRecText_any (r : Rc) (h1 : r.tx.size ≤ maxLen) (h2 : r.th.val.size ≤ maxLen) (w : World) (CI : r.tx.size ≤ 1048576 → ∀ W : World, Below w.heap.size w W → Calls Try.prog 10 #[.agg (rcC r)] W fun e w' => e = .returned (.tuple #[.string (rcT r), .bool (rcOk r)]) ∧ Below W.heap.size W w') :
    Calls Try.prog 7 #[.agg (rcC r)] w fun e w' => e = .returned (.bool true) ∧ Below w.heap.size w w' := by
  have CZ := fun W => szRec_any r 1048576 (by omega) h1 h2 W
  have CT := fun W => toRec_any r W
  have CS := fun W => specRecText_any r W
  generalize rcT r = tb at *
  generalize rcOk r = ro at *
  obtain ⟨kd, tx, nm, ⟨id, kind, hid, fix, sgn, wrp, val, nxt⟩⟩ := r
  simp only [rcC] at CZ CT CS CI ⊢
  clear h1 h2
  replace CZ := hide CZ; replace CT := hide CT; replace CS := hide CS; replace CI := hide CI
  go_enter Try.func7, Try.ntmps7
  go_upto_region 1 with fail
  obtain ⟨W0, hW, hA, hB, hs1⟩ := one_cb w #[.int .i64 kd, .string tx, .int .i64 nm, .int .i64 id, .int .i64 kind, .bool hid, .bool fix, .bool sgn, .bool wrp, .string val, .int .i64 nxt] 56
  first | rw [hW] | skip
  clear hW hs1
  replace hA := hide hA; replace hB := hide hB
  go_upto_region 3 with (first
    | (refine wpList_load_row (P := Try.prog) rfl 56 (.tmp 1) rfl w.heap.size rfl 56 #[.int .i64 kd, .string tx, .int .i64 nm, .int .i64 id, .int .i64 kind, .bool hid, .bool fix, .bool sgn, .bool wrp, .string val, .int .i64 nxt] (0, 0) _ (unhide hA) Try.underlying56 rfl rfl ?_)
    | (go_at_call 29; refine (unhide CZ _).mono ?_; rintro e w1 ⟨⟨z, rfl, hz⟩, hb1⟩))
  have hA1 := hide ((unhide hA).step hb1)
  have T1 := hide ((unhide hB).trans (hb1.mono (unhide hB).size))
  clear hb1 hA hB CZ
  rcases hz with hz | ⟨hz, hz0⟩
  · clear CI CT CS hA1
    go_wp2
    go_ret
    exact ⟨rfl, unhide T1⟩
  have hz' : ¬ z < 0 := by omega
  have CI := hide (unhide CI (by omega))
  clear hz hz0
  go_upto_region 6 with (first
    | (refine wpList_load_row (P := Try.prog) rfl 56 (.tmp 1) rfl w.heap.size rfl 56 #[.int .i64 kd, .string tx, .int .i64 nm, .int .i64 id, .int .i64 kind, .bool hid, .bool fix, .bool sgn, .bool wrp, .string val, .int .i64 nxt] (0, 0) _ (unhide hA1) Try.underlying56 rfl rfl ?_)
    | (go_at_call 30; refine (unhide CT _).mono ?_; rintro e w2 ⟨rfl, hb2⟩)
    | (go_at_call 12; refine (unhide CS _).mono ?_; rintro e w3 ⟨rfl, hb3⟩))
  have hb23 := hb2.trans (hb3.mono hb2.size)
  have hA3 := hide ((unhide hA1).step hb23)
  have T3 := hide ((unhide T1).trans (hb23.mono (unhide T1).size))
  clear hb2 hb3 hb23 hA1 T1 CS
  go_upto_region 7 with (first
    | (refine wpList_load_row (P := Try.prog) rfl 56 (.tmp 1) rfl w.heap.size rfl 56 #[.int .i64 kd, .string tx, .int .i64 nm, .int .i64 id, .int .i64 kind, .bool hid, .bool fix, .bool sgn, .bool wrp, .string val, .int .i64 nxt] (0, 0) _ (unhide hA3) Try.underlying56 rfl rfl ?_)
    | (go_at_call 30; refine (unhide CT _).mono ?_; rintro e w4 ⟨rfl, hb4⟩; have T4 := hide ((unhide T3).trans (hb4.mono (unhide T3).size)))
    | (go_at_call 10; refine (unhide CI _ (unhide T4)).mono ?_; rintro e w5 ⟨rfl, hb5⟩))
  have T5 := hide ((unhide T4).trans (hb5.mono (unhide T4).size))
  clear hb4 hb5 T3 T4 CI CT hA3
  go_wp2
  go_ret
  exact ⟨rfl, unhide T5⟩
end Go.Proofs.Ytoacaennpddoeaa

