/- The law FnExactPoolOk, walked over the loaded program; what the project's function answers is a premise. -/
import Derived.Test.YtanianfealalgaoPol0
namespace Go.Proofs.Ytanianfealalgao
open Go.RowKit
set_option maxRecDepth 20000 in
set_option maxHeartbeats 800000 in
theorem lawPoolOk_any (a : Hs) (CI : a.st.size ≤ maxLen → a.rs.size ≤ maxLen → ∀ W : World, Calls Try.prog 13 #[hsv a] W fun e w' => e = .returned (.bool (okP a)) ∧ Below W.heap.size W w') (w : World) (h1 : a.st.size ≤ maxLen) (h2 : a.rs.size ≤ maxLen) :
    Calls Try.prog 4 #[hsv a] w fun e w' => e = .returned (.bool true) ∧ Below w.heap.size w w' := by
  have CZ := hide (fun W => szPool_any a 1048576 W h1 h2 (by decide))
  have CT := hide (fun W => toPool_any a W)
  have CS := hide (fun W => specPoolOk_any a W h1 h2)
  replace CI := hide (CI h1 h2)
  clear h1 h2
  unfold hsv at CI ⊢
  go_enter Try.func4, Try.ntmps4
  go_wp2_with fail
  obtain ⟨W, hW, hB, hb, hlt⟩ := one_hash w a 27
  rw [hW]
  clear hW
  have HW := hide hB
  refine ((unhide CZ) W).mono ?_
  rintro e w1 ⟨⟨r, rfl, hr⟩, hb1⟩
  have HB1 := hide ((unhide HW).step hb1)
  have k1 := (unhide HB1).c0
  have k2 := (unhide HB1).c1
  have k3 := (unhide HB1).c2
  have HT1 := hide (hb.trans (hb1.mono (Nat.le_of_lt hlt)))
  have hl1 := (unhide HB1).lt
  clear hB hb hb1
  rcases hr with rfl | ⟨m, rfl, hm⟩
  · go_wp2
    go_ret
    exact ⟨rfl, unhide HT1⟩
  · replace hm := hide hm
    go_wp2_with fail
    refine ((unhide CT) _).mono ?_
    rintro e w2 ⟨rfl, hb2⟩
    unfold hsv
    go_wp2_with fail
    refine ((unhide CS) _).mono ?_
    rintro e w3 ⟨rfl, hb3⟩
    have hb13 := hb2.trans (hb3.mono hb2.size)
    have HB3 := hide ((unhide HB1).step hb13)
    have q1 := (unhide HB3).c0
    have q2 := (unhide HB3).c1
    have q3 := (unhide HB3).c2
    have hl3 := (unhide HB3).lt
    have HT3 := hide ((unhide HT1).trans (hb13.mono (Nat.le_of_lt hl1)))
    clear hb2 hb3 hb13
    go_wp2_with fail
    refine ((unhide CT) _).mono ?_
    rintro e w4 ⟨rfl, hb4⟩
    unfold hsv
    go_wp2_with fail
    refine ((unhide CI) _).mono ?_
    rintro e w5 ⟨rfl, hb5⟩
    have HT5 := hide ((unhide HT3).trans ((hb4.trans (hb5.mono hb4.size)).mono (Nat.le_of_lt hl3)))
    clear hb4 hb5
    go_wp2
    go_ret
    exact ⟨rfl, unhide HT5⟩
end Go.Proofs.Ytanianfealalgao
