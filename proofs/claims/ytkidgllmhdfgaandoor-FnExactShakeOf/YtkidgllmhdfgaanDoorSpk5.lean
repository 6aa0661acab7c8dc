/- The given model's permutation, over the loaded program. -/
import Derived.Test.YtkidgllmhdfgaanDoorSpk4
import Derived.Test.YtkidgllmhdfgaanDoorSpg9
namespace Go.Proofs.YtkidgllmhdfgaanDoor
open Go.RowKit
theorem OwnV.up {w : World} {base base' g n c : Nat} {e : TypeId} {xs : List Value} (h : OwnV w base e (.slice (some ⟨g, 0, none⟩) n c) xs) (hg : base' ≤ g) : OwnV w base' e (.slice (some ⟨g, 0, none⟩) n c) xs := by
  refine ⟨h.1, ?_⟩
  rcases h.2 with hn | ⟨g', cap, cur, hv, _, rest⟩
  · exact .inl hn
  · cases hv
    exact .inr ⟨g, c, cur, rfl, hg, rest⟩
set_option maxRecDepth 20000 in
set_option maxHeartbeats 400000 in
theorem specPerm_any (a : List Nat) (ha : LanesOk a) (ga ca base : Nat) (w : World) (hOA : OwnV w base 31 (.slice (some ⟨ga, 0, none⟩) 25 ca) (a.map u64v)) :
    Calls Tryd.prog 13 #[.slice (some ⟨ga, 0, none⟩) 25 ca] w fun e w' => (∃ g, e = .returned (.slice (some ⟨g, 0, none⟩) 25 25) ∧ OwnV w' w.heap.size 31 (.slice (some ⟨g, 0, none⟩) 25 25) ((keccak a).map u64v)) ∧ Below w.heap.size w w' := by
  have HOA := hide (hOA.low (Nat.zero_le _))
  have CT := hide (fun W => specTurns_any W)
  have CN := hide (fun W => specRounds_any W)
  clear hOA
  go_enter Tryd.func13, Tryd.ntmps13
  go_wp2_with fail
  refine ((unhide CT) w).mono ?_
  rintro e w1 ⟨⟨gt, rfl, hOT⟩, hb1⟩
  replace hOT := hide hOT
  have hs1 := hb1.size
  have HA1 := hide ((unhide HOA).below hb1)
  clear HOA
  go_wp2_with fail
  refine ((unhide CN) w1).mono ?_
  rintro e w2 ⟨⟨gn, cn, rfl, hON⟩, hb2⟩
  have HA2 := hide ((unhide HA1).below hb2)
  have HT2 := hide (((unhide hOT).below hb2).low (Nat.zero_le _))
  have HN2 := hide (hON.low (Nat.zero_le _))
  have hs2 := hb2.size
  have HB2 := hide (hb1.trans (hb2.mono hs1))
  clear HA1 hOT hON hb1 hb2
  go_wp2
  go_loopw [0, 5] (fun tv ti wr => ∃ k : Nat, k ≤ 24 ∧ ti = .int .i64 (k : Int) ∧ (∃ g c, tv = .slice (some ⟨g, 0, none⟩) 25 c ∧ Hid (OwnV wr 0 31 (.slice (some ⟨g, 0, none⟩) 25 c) ((kRounds a k).map u64v)) ∧ Hid (1 ≤ k → c = 25 ∧ w2.heap.size ≤ g)) ∧ Below w2.heap.size w2 wr) (fun _ ti _ => 24 - (intOf ti).toNat)
  case atStart => exact ⟨0, by omega, rfl, ⟨ga, ca, rfl, HA2, hide (fun h => by omega)⟩, Below.refl _ _⟩
  case round =>
    clear HA2
    obtain ⟨k, hk, rfl, ⟨g, c, rfl, HA, HQ⟩, hb⟩ := hrel
    by_cases hlt : k < 24
    · have lk : (k : Int) < 24 := by omega
      have cn' := ((unhide HN2).below hb).cell (lan_get numsL k hlt)
      have C := hide (specRound_any (kRounds a k) (kRounds_ok ha k) (ln numsL k) (numsL_lt k) g c gt 0 wr (unhide HA) ((unhide HT2).below hb))
      have HR : Hid (kRounds a (k + 1) = kRound (kRounds a k) (ln numsL k)) := hide rfl
      rw [← unhide HR] at C
      generalize ln numsL k = num at *
      have hsz := hb.size
      go_wp2_with (go_at_call 28; refine (unhide C).mono ?_; rintro e w3 ⟨⟨g3, rfl, hO3⟩, hb3⟩)
      have hg3 := (hO3.lt g3 rfl).1
      have HA3 := hide (hO3.low (Nat.zero_le _))
      clear hO3
      go_roundw
      all_goals first | exact ⟨k + 1, by omega, by go_num, ⟨g3, 25, rfl, HA3, hide (fun _ => ⟨rfl, by omega⟩)⟩, hb.trans (hb3.mono hsz)⟩ | (simp [intOf]; omega)
    · have hkk : k = 24 := by omega
      have nk : ¬ (k : Int) < 24 := by omega
      obtain ⟨hc, hg⟩ := (unhide HQ) (by omega)
      have hF : OwnV wr 0 31 (.slice (some ⟨g, 0, none⟩) 25 c) ((keccak a).map u64v) := by unfold keccak; rw [← hkk]; exact unhide HA
      subst hc
      have hF2 := hide (hF.up (base' := w.heap.size) (by omega))
      replace hkk := hide hkk
      clear HA hF
      go_wp2
      go_ret
      exact ⟨⟨_, rfl, unhide hF2⟩, (unhide HB2).trans (hb.mono (by omega))⟩
set_option maxRecDepth 20000 in
set_option maxHeartbeats 400000 in
theorem specPermute_any (s : ByteArray) (w : World) :
    Calls Tryd.prog 6 #[.string s] w fun e w' => e = .returned (.string (permT s)) ∧ Below w.heap.size w w' := by
  by_cases h2 : s.size = 200
  · have h2' : (s.size : Int) = 200 := by omega
    unfold permT
    rw [if_pos h2]
    have C1 := hide (fun W => specLanes_any s 25 h2 (by decide) W)
    rw [lanesR_S s h2] at C1
    have hok := lanesS_ok s
    have C2 := hide (fun ga ca W hW => specPerm_any (lanesS s) hok ga ca 0 W hW)
    have hkk := keccak_ok hok
    have C3 := hide (fun g W (hW : OwnV W 0 31 (.slice (some ⟨g, 0, none⟩) (keccak (lanesS s)).length 25) ((keccak (lanesS s)).map u64v)) => specBytes_any (keccak (lanesS s)) hkk.2 (by rw [hkk.1]; decide) g 25 0 W hW)
    rw [hkk.1] at C3
    clear hok hkk
    generalize textN (keccak (lanesS s)) = out at *
    generalize keccak (lanesS s) = l2 at *
    generalize lanesS s = l at *
    go_enter Tryd.func6, Tryd.ntmps6
    go_wp2_with fail
    refine ((unhide C1) w).mono ?_
    rintro e w1 ⟨⟨a1, c1, rfl, hO1⟩, hb1⟩
    obtain ⟨g1, rfl⟩ : ∃ g, a1 = some ⟨g, 0, none⟩ := by
      rcases hO1.2 with ⟨h, _⟩ | ⟨g, cap, cur, h, _⟩
      · simp only [Value.slice.injEq] at h; exact absurd h.2.1 (by decide)
      · simp only [Value.slice.injEq] at h; exact ⟨_, h.1⟩
    have hs1 := hb1.size
    replace hO1 := hide (hO1.low (Nat.zero_le _))
    go_wp2_with fail
    refine ((unhide C2) g1 c1 w1 (unhide hO1)).mono ?_
    rintro e w2 ⟨⟨g2, rfl, hO2⟩, hb2⟩
    have hs2 := hb2.size
    have HB2 := hide (hb1.trans (hb2.mono hs1))
    replace hO2 := hide (hO2.low (Nat.zero_le _))
    clear hb1 hb2 hO1
    go_wp2_with fail
    refine ((unhide C3) g2 w2 (unhide hO2)).mono ?_
    rintro e w3 ⟨rfl, hb3⟩
    have HB3 := hide ((unhide HB2).trans (hb3.mono (by omega)))
    clear hb3 hO2
    go_wp2
    go_ret
    exact ⟨rfl, unhide HB3⟩
  · have h2' : ¬ (s.size : Int) = 200 := by omega
    unfold permT
    rw [if_neg h2]
    go_enter Tryd.func6, Tryd.ntmps6
    go_wp2
    go_ret
    exact ⟨rfl, Below.refl _ _⟩
end Go.Proofs.YtkidgllmhdfgaanDoor
