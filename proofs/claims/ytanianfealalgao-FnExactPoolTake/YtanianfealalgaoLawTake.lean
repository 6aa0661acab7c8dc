/- The law FnExactPoolTake, walked over the loaded program; what the project's function answers is a premise. -/
import Derived.Test.YtanianfealalgaoPol2
namespace Go.Proofs.Ytanianfealalgao
open Go.RowKit
def mayT (a : Hs) (z : Int) : Bool := okP a && (decide (0 ≤ z) && (decide (z ≤ 200) && !(decide (a.ct = 20))))
theorem mayT_yes {a : Hs} {z : Int} (h : mayT a z = true) : okP a = true ∧ 0 ≤ z ∧ z ≤ 200 ∧ ¬ a.ct = 20 := by
  simpa [mayT] using h
theorem mayT_is {a : Hs} {z : Int} (h1 : okP a = true) (h2 : 0 ≤ z) (h3 : z ≤ 200) (h4 : ¬ a.ct = 20) : mayT a z = true := by
  simp [mayT, h1, h2, h3, h4]
def tkH (a : Hs) (z : Int) : Hs := if mayT a z = true then takeH a z.toNat else hz
def tkB (a : Hs) (z : Int) : ByteArray := if mayT a z = true then takeB a z.toNat else ⟨#[]⟩
def tkO (a : Hs) (z : Int) : Bool := if mayT a z = true then true else false
theorem specTake_any (a : Hs) (z : Int) (h1 : a.st.size ≤ maxLen) (h2 : a.rs.size ≤ maxLen) (w : World) :
    Calls Try.prog 14 #[hsv a, .int .i64 z] w fun e w' => e = .returned (.tuple #[hsv (tkH a z), .string (tkB a z), .bool (tkO a z)]) ∧ Below w.heap.size w w' := by
  unfold tkH tkB tkO
  by_cases h : mayT a z = true
  · rw [if_pos h, if_pos h, if_pos h]
    obtain ⟨c1, c2, c3, c4⟩ := mayT_yes h
    obtain ⟨n, rfl⟩ : ∃ n : Nat, z = (n : Int) := ⟨z.toNat, by omega⟩
    have := okP_yes c1
    rw [Int.toNat_natCast]
    exact specTake_yes a c1 (by omega) n (by omega) w
  · rw [if_neg h, if_neg h, if_neg h]
    refine specTake_no a z ?_ h1 h2 w
    by_cases c1 : okP a = true
    · by_cases c2 : 0 ≤ z
      · by_cases c3 : z ≤ 200
        · by_cases c4 : a.ct = 20
          · exact .inr (.inr (.inr c4))
          · exact absurd (mayT_is c1 c2 c3 c4) h
        · exact .inr (.inr (.inl (by omega)))
      · exact .inr (.inl (by omega))
    · exact .inl (by simpa using c1)
set_option maxRecDepth 20000 in
set_option maxHeartbeats 800000 in
theorem lawPoolTake_any (a : Hs) (z : Int) (CI : a.st.size ≤ 1048576 → a.rs.size ≤ 1048576 → ∀ W : World, Calls Try.prog 15 #[hsv a, .int .i64 z] W fun e w' => e = .returned (.tuple #[hsv (tkH a z), .string (tkB a z), .bool (tkO a z)]) ∧ Below W.heap.size W w') (w : World) (h1 : a.st.size ≤ maxLen) (h2 : a.rs.size ≤ maxLen) :
    Calls Try.prog 5 #[hsv a, .int .i64 z] w fun e w' => e = .returned (.bool true) ∧ Below w.heap.size w w' := by
  have CZ := hide (fun W => szPool_any a 1048576 W h1 h2 (by decide))
  have CT := hide (fun W => toPool_any a W)
  have CS := hide (fun W => specTake_any a z h1 h2 W)
  replace CI := hide CI
  have CE := hide (fun W => eqPool_any (tkH a z) W)
  generalize tkH a z = d at CS CI CE
  generalize tkB a z = dB at CS CI CE
  generalize tkO a z = dO at CS CI CE
  unfold hsv
  clear h1 h2
  go_enter Try.func5, Try.ntmps5
  go_wp2_with fail
  obtain ⟨W, hW, hB, hb, hlt⟩ := one_hash w a 27
  rw [hW]
  clear hW
  have HW := hide hB
  refine ((unhide CZ) W).mono ?_
  rintro e w1 ⟨⟨r, rfl, hr⟩, hb1⟩
  have HB1 := hide ((unhide HW).step hb1)
  have k1 := (unhide HB1).c0
  have k2 := (unhide HB1).c1
  have k3 := (unhide HB1).c2
  have HT1 := hide (hb.trans (hb1.mono (Nat.le_of_lt hlt)))
  have hl1 := (unhide HB1).lt
  clear hB hb hb1
  rcases hr with rfl | ⟨m, rfl, hm⟩
  · go_wp2
    go_ret
    exact ⟨rfl, unhide HT1⟩
  · have hz1 : a.rs.size ≤ 1048576 := by omega
    have hz2 : a.st.size ≤ 1048576 := by omega
    replace hm := hide hm
    go_wp2_with fail
    refine ((unhide CT) _).mono ?_
    rintro e w2 ⟨rfl, hb2⟩
    unfold hsv
    go_wp2_with fail
    refine ((unhide CS) _).mono ?_
    rintro e w3 ⟨rfl, hb3⟩
    have hb13 := hb2.trans (hb3.mono hb2.size)
    have HB3 := hide ((unhide HB1).step hb13)
    have q1 := (unhide HB3).c0
    have q2 := (unhide HB3).c1
    have q3 := (unhide HB3).c2
    have hl3 := (unhide HB3).lt
    have HT3 := hide ((unhide HT1).trans (hb13.mono (Nat.le_of_lt hl1)))
    clear hb2 hb3 hb13
    obtain ⟨ds, dr, dc⟩ := d
    unfold hsv
    dsimp only
    go_wp2_with fail
    obtain ⟨W4, hW4, hB4, hbb4, hl4⟩ := one_hash w3 ⟨ds, dr, dc⟩ 23
    dsimp only at hW4
    rw [hW4]
    clear hW4
    refine ((unhide CT) _).mono ?_
    rintro e w5 ⟨rfl, hb5⟩
    unfold hsv
    go_wp2_with fail
    refine ((unhide CI) hz2 hz1 _).mono ?_
    rintro e w6 ⟨rfl, hb6⟩
    have hb46 := hb5.trans (hb6.mono hb5.size)
    have HB6 := hide (hB4.step hb46)
    have t0 := (unhide HB6).c0
    have t1 := (unhide HB6).c1
    have t2 := (unhide HB6).c2
    dsimp only at t0 t1 t2
    have hl6 := (unhide HB6).lt
    have hb36 := hbb4.trans (hb46.mono (Nat.le_of_lt hl4))
    have hs36 := hb36.size
    have HT6 := hide ((unhide HT3).trans (hb36.mono (Nat.le_of_lt hl3)))
    have hs06 := (unhide HT6).size
    clear hb5 hb6 hb46 hb36 hB4 hbb4 q1 q2 q3 k1 k2 k3
    unfold hsv
    dsimp only
    go_wp2_with fail
    obtain ⟨W7, hW7, hB7, hbb7, hl7⟩ := one_hash w6 ⟨ds, dr, dc⟩ 23
    dsimp only at hW7
    rw [hW7]
    clear hW7
    have HT7 := hide ((unhide HT6).trans (hbb7.mono hs06))
    unfold hsv at CE
    dsimp only at CE
    refine ((unhide CE) _).mono ?_
    rintro e w8 ⟨rfl, hb8⟩
    have HT8 := hide ((unhide HT7).trans (hb8.mono (Nat.le_trans hs06 (Nat.le_of_lt hl7))))
    clear hb8 hbb7 hB7
    go_wp2
    go_ret
    exact ⟨rfl, unhide HT8⟩
end Go.Proofs.Ytanianfealalgao
