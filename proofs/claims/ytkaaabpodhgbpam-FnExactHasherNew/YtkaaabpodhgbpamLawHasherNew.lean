/- The law FnExactHasherNew, walked over the loaded program. -/
import Derived.Test.YtkaaabpodhgbpamShaH
namespace Go.Proofs.Ytkaaabpodhgbpam
open Go.RowKit
set_option maxHeartbeats 400000 in
theorem lawHasherNew_any (w : World) :
    Calls Try.prog 4 #[] w fun e w' => e = .returned (.bool true) ∧ Below w.heap.size w w' := by
  go_enter Try.func4, Try.ntmps4
  have CE := hide (fun W => eqHasher_any ⟨first8.text, ⟨#[]⟩, 0⟩ W)
  go_wp2_with fail
  refine (specNew_any _).mono ?_
  rintro e w1 ⟨rfl, hb1⟩
  unfold hsv
  dsimp only
  generalize hT : first8.text = T8 at *
  go_wp2_with fail
  obtain ⟨W1, hW1, hB1, hbb1, hl1⟩ := one_hash w1 ⟨T8, ⟨#[]⟩, 0⟩ 25
  dsimp only at hW1
  rw [hW1]
  clear hW1
  refine (implNew_any _).mono ?_
  rintro e w2 ⟨rfl, hb2⟩
  unfold hsv
  dsimp only
  rw [hT]
  have hB2 := hB1.step hb2
  have HT2 := (hb1.trans (hbb1.mono hb1.size)).trans (hb2.mono (Nat.le_of_lt (Nat.lt_of_le_of_lt hb1.size hl1)))
  have hl2 := hB2.lt
  have hs2 := HT2.size
  replace hT := hide hT
  replace hB2 := hide hB2
  replace HT2 := hide HT2
  clear hb1 hbb1 hB1 hb2 hl1
  have k0 := (unhide hB2).c0
  have k1 := (unhide hB2).c1
  have k2 := (unhide hB2).c2
  dsimp only at k0 k1 k2
  go_wp2_with fail
  obtain ⟨W3, hW3, hB3, hbb3, hl3⟩ := one_hash w2 ⟨T8, ⟨#[]⟩, 0⟩ 25
  dsimp only at hW3
  rw [hW3]
  clear hW3
  have HT3 := hide ((unhide HT2).trans (hbb3.mono hs2))
  unfold hsv at CE
  dsimp only at CE
  refine ((unhide CE) _).mono ?_
  rintro e w4 ⟨rfl, hb4⟩
  have HT4 := hide ((unhide HT3).trans (hb4.mono (Nat.le_trans hs2 (Nat.le_of_lt hl3))))
  clear hb4 hbb3 hB3
  go_wp2
  go_ret
  exact ⟨rfl, unhide HT4⟩
end Go.Proofs.Ytkaaabpodhgbpam
