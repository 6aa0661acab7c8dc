/- The laws FnExactOnceKey, OncePublic, OnceSign, OnceFound, walked over the loaded program; what the project's function answers is a premise. -/
import Derived.Test.YtfjfjiolmadbaatChn4
namespace Go.Proofs.Ytfjfjiolmadbaat
open Go.RowKit
theorem OwnV.loT {w : World} {base : Nat} {e : TypeId} {v : Value} {xs : List Value} (h : OwnV w base e v xs) : ∀ k, v.ownBlock = some k → base ≤ k ∧ k < w.heap.size := fun k hk => World.ownsRow.lt h k hk
theorem keysO_len (s : ByteArray) (leaf : Int) : (keysO s leaf).length = 10 := by unfold keysO; rw [List.length_map, List.length_range]
theorem onceS_len (l : List ByteArray) (leaf : Int) (m : ByteArray) : (onceS l leaf m).length ≤ 1000 := by
  unfold onceS
  split
  · rw [List.length_map, List.length_range]; omega
  · exact Nat.zero_le _
set_option maxRecDepth 20000 in
set_option maxHeartbeats 1000000 in
theorem lawOnceKey_any (s : ByteArray) (leaf : Int) (w : World) (CI : s.size ≤ 1048576 → ∀ W : World, Below w.heap.size w W → Calls Try.prog 17 #[.string s, .int .i64 leaf] W fun e w' => (∃ v, e = .returned v ∧ OwnV w' W.heap.size 9 v ((keysO s leaf).map sv)) ∧ Below W.heap.size W w') :
    Calls Try.prog 6 #[.string s, .int .i64 leaf] w fun e w' => e = .returned (.bool true) ∧ Below w.heap.size w w' := by
  by_cases hs0 : (1048576 : Int) < (s.size : Int)
  · go_enter Try.func6, Try.ntmps6
    go_wp2
    go_ret
    exact ⟨rfl, Below.refl _ _⟩
  have ns0 : s.size ≤ 1048576 := by omega
  have CS := hide (fun W => specOnceKey_any s leaf ns0 W)
  replace CI := hide (CI ns0)
  have hxl : (keysO s leaf).length ≤ 1000 := by rw [keysO_len]; omega
  generalize keysO s leaf = xs at *
  have HT0 := Below.refl w.heap.size w
  go_enter Try.func6, Try.ntmps6
  have HT1 := HT0
  go_wp2_with fail
  refine ((unhide CS) w).mono ?_
  rintro e w3 ⟨⟨vS, rfl, oS⟩, hb3⟩
  have HT3 := HT1.trans (hb3.mono HT1.size)
  have rS3 := oS.rdv
  have bS := fun k hk => (oS.loT k hk).2
  clear oS hb3 HT1 CS
  go_wp2_with fail
  refine ((unhide CI) w3 HT3).mono ?_
  rintro e w6 ⟨⟨vG, rfl, oG6⟩, hb6⟩
  have HT6 := HT3.trans (hb6.mono HT3.size)
  have bG := fun k hk => (oG6.loT k hk).1
  have rS6 := rS3.below hb6
  have z46 := hb6.size
  clear rS3 hb6
  go_wp2_with fail
  refine (eqStrS_any xs _ _ w6 oG6.rdv rS6 (by omega)).mono ?_
  rintro e w7 ⟨rfl, hb7⟩
  have HT7 := HT6.trans (hb7.mono HT6.size)
  have rS7 := rS6.below hb7
  have oG7 := oG6.below hb7
  clear rS6 oG6 hb7
  obtain ⟨nx, hnx⟩ : ∃ n, xs.length = n := ⟨_, rfl⟩
  rw [hnx] at hxl
  obtain ⟨M3, hM3⟩ : ∃ M, M = 1 + (xs.map sv).length := ⟨_, rfl⟩
  have hM3' := hM3
  rw [List.length_map, hnx] at hM3'
  have hm3 : M3 ≤ 2000000 := by omega
  have hm30 : ¬ (M3 : Int) < 0 := by omega
  have K3 := hide (markStrS_own _ w3.heap.size 1 M3 _ w7 hM3 (by rw [List.length_map, hnx]; omega) (by omega) (by omega) oG7)
  rw [show ((1 : Nat) : Int) = 1 from rfl] at K3
  rw [List.length_map, hnx] at K3
  have K4 := hide (fun (W : World) (h : RdV W vG (mkT 1 nx)) => heldStrS_any vG 1 nx M3 W hM3' (by omega) (by omega) (by omega) h)
  rw [show ((1 : Nat) : Int) = 1 from rfl] at K4
  replace hM3 := hide hM3; replace hM3' := hide hM3'; replace hnx := hide hnx
  go_wp2_with fail
  refine (unhide K3).mono ?_
  rintro e w15 ⟨rfl, oG15, hg15⟩
  have rS15 := rS7.grown hg15 (fun k hk h => by have h1 := bS k hk; have h2 := bG k h; omega)
  have HT15 := HT7.grown hg15 HT7.size (fun k hk => by have h2 := bG k hk; have := HT3.size; omega)
  clear rS7 oG7 hg15 K3
  go_wp2_with fail
  refine ((unhide K4) w15 oG15.rdv).mono ?_
  rintro e w16 ⟨rfl, hb16⟩
  have HT16 := HT15.trans (hb16.mono HT15.size)
  have rS16 := rS15.below hb16
  have oG16 := oG15.below hb16
  clear rS15 oG15 hb16
  go_wp2_with fail
  refine ((unhide CI) w16 HT16).mono ?_
  rintro e w19 ⟨⟨vH, rfl, oH19⟩, hb19⟩
  have HT19 := HT16.trans (hb19.mono HT16.size)
  have rS19 := rS16.below hb19
  have oG19 := oG16.below hb19
  clear rS16 oG16 hb19
  go_wp2_with fail
  refine (eqStrS_any xs _ _ w19 oH19.rdv rS19 (by rw [unhide hnx]; omega)).mono ?_
  rintro e w20 ⟨rfl, hb20⟩
  have HT20 := HT19.trans (hb20.mono HT19.size)
  have oG20 := oG19.below hb20
  clear rS19 oG19 hb20 oH19
  go_wp2_with fail
  refine ((unhide K4) w20 oG20.rdv).mono ?_
  rintro e w21 ⟨rfl, hb21⟩
  have HT21 := HT20.trans (hb21.mono HT20.size)
  go_wp2
  go_ret
  exact ⟨rfl, HT21⟩
end Go.Proofs.Ytfjfjiolmadbaat
