/- The law FnPools, walked over the loaded program. -/
import Derived.Test.YtanianfealalgacDrawQ
import Derived.Test.YtanianfealalgacPolI
namespace Go.Proofs.Ytanianfealalgac
open Go.RowKit
theorem takeB_size (a : Hs) (n : Nat) : (takeB a n).size = n := by
  show ((outN a.st a.rs ((n + 31) / 32)).take n).toArray.size = n
  rw [List.size_toArray, List.length_take, outN_len]
  omega
theorem okP_of {a : Hs} (h1 : a.st.size = 32) (h2 : a.rs.size = 32) (h3 : 0 ≤ a.ct) (h4 : a.ct ≤ 20) : okP a = true := by
  simp [okP, h1, h2, h3, h4]
theorem may_yes {a : Hs} {z : Int} (h : mayT a z = true) : tkO a z = true ∧ ((tkB a z).size : Int) = z ∧ okP (tkH a z) = true ∧ (tkH a z).ct = a.ct + 1 := by
  obtain ⟨c1, c2, c3, c4⟩ := mayT_yes h
  obtain ⟨g1, g2, g3, g4⟩ := okP_yes c1
  unfold tkO tkB tkH
  rw [if_pos h, if_pos h, if_pos h]
  obtain ⟨k1, k2, k3⟩ := takeH_is a z.toNat
  refine ⟨rfl, by rw [takeB_size]; omega, okP_of k1 k2 (by omega) (by omega), k3⟩
theorem may_no {a : Hs} {z : Int} (h : ¬ mayT a z = true) : tkO a z = false ∧ tkB a z = ⟨#[]⟩ := by
  unfold tkO tkB
  rw [if_neg h, if_neg h]
  exact ⟨rfl, rfl⟩
def seedB : ByteArray := ⟨#[115, 101, 101, 100]⟩
def moreB : ByteArray := ⟨#[109, 111, 114, 101]⟩
def seqP : Nat → Hs
  | 0 => newP seedB
  | k + 1 => tkH (seqP k) 3
theorem seqP_is (k : Nat) (hk : k ≤ 20) : okP (seqP k) = true ∧ (seqP k).ct = (k : Int) := by
  induction k with
  | zero =>
    obtain ⟨k1, k2, k3⟩ := mixH_st ⟨repB 0, repB 1, 0⟩ seedB
    have k4 : (mixH ⟨repB 0, repB 1, 0⟩ seedB).ct = 0 := k3
    exact ⟨okP_of k1 k2 (by show 0 ≤ (mixH ⟨repB 0, repB 1, 0⟩ seedB).ct; omega) (by show (mixH ⟨repB 0, repB 1, 0⟩ seedB).ct ≤ 20; omega), k3⟩
  | succ k ih =>
    obtain ⟨h1, h2⟩ := ih (by omega)
    obtain ⟨_, _, m3, m4⟩ := may_yes (mayT_is (z := 3) h1 (by omega) (by omega) (by omega))
    exact ⟨m3, by show (tkH (seqP k) 3).ct = _; rw [m4, h2]; omega⟩
theorem seqP_on (k : Nat) (hk : k < 20) : tkO (seqP k) 3 = true ∧ (tkB (seqP k) 3).size = 3 := by
  obtain ⟨h1, h2⟩ := seqP_is k (by omega)
  obtain ⟨m1, m2, _, _⟩ := may_yes (mayT_is (z := 3) h1 (by omega) (by omega) (by omega))
  exact ⟨m1, by omega⟩
theorem seqP_off : tkO (seqP 20) 3 = false := by
  obtain ⟨h1, h2⟩ := seqP_is 20 (by omega)
  refine (may_no (fun h => ?_)).1
  obtain ⟨_, _, _, c4⟩ := mayT_yes h
  exact c4 (by omega)
theorem fed_on : tkO (feedP (seqP 20) moreB) 3 = true := by
  obtain ⟨h1, h2⟩ := seqP_is 20 (by omega)
  have e : feedP (seqP 20) moreB = ⟨(mixH (seqP 20) moreB).st, (mixH (seqP 20) moreB).rs, 0⟩ := by unfold feedP; rw [if_pos h1]
  obtain ⟨k1, k2, _⟩ := mixH_st (seqP 20) moreB
  rw [e]
  have hok : okP ⟨(mixH (seqP 20) moreB).st, (mixH (seqP 20) moreB).rs, 0⟩ = true := okP_of k1 k2 (by decide) (by decide)
  exact (may_yes (mayT_is (z := 3) hok (by omega) (by omega) (by show ¬ (0 : Int) = 20; decide))).1
theorem okP_small {a : Hs} (h : okP a = true) : a.st.size ≤ 1048576 ∧ a.rs.size ≤ 1048576 := by
  obtain ⟨h1, h2, _, _⟩ := okP_yes h
  omega
theorem fed_small : (feedP (seqP 20) moreB).st.size ≤ 1048576 ∧ (feedP (seqP 20) moreB).rs.size ≤ 1048576 := by
  obtain ⟨h1, h2⟩ := seqP_is 20 (by omega)
  obtain ⟨k1, k2, _⟩ := mixH_st (seqP 20) moreB
  unfold feedP
  rw [if_pos h1]
  exact ⟨by show (mixH (seqP 20) moreB).st.size ≤ _; omega, by show (mixH (seqP 20) moreB).rs.size ≤ _; omega⟩
theorem nums8 (w : World) (T : TypeId) : ∀ j, j < 8 → ∃ z, (w.alloc (.cells #[.int .i64 0, .int .i64 1, .int .i64 32, .int .i64 33, .int .i64 100, .int .i64 200, .int .i64 201, .int .i64 (-1)] T)).cell? ⟨w.heap.size, j, none⟩ = some (.int .i64 z) ∧ (-1 ≤ z ∧ z ≤ 201) := by
  intro j hj
  rw [cell_of_row _ w.heap.size j _ T (0, 0) (heap_alloc_new w _)]
  match j, hj with
  | 0, _ => exact ⟨0, rfl, by decide⟩
  | 1, _ => exact ⟨1, rfl, by decide⟩
  | 2, _ => exact ⟨32, rfl, by decide⟩
  | 3, _ => exact ⟨33, rfl, by decide⟩
  | 4, _ => exact ⟨100, rfl, by decide⟩
  | 5, _ => exact ⟨200, rfl, by decide⟩
  | 6, _ => exact ⟨201, rfl, by decide⟩
  | 7, _ => exact ⟨-1, rfl, by decide⟩
  | j + 8, hj => exact absurd hj (by omega)
set_option maxRecDepth 20000 in
set_option maxHeartbeats 800000 in
theorem drawPoolTake_any (w : World) (o : Option Addr) (n c : Nat) (hs : Src w w.heap.size o n) (hn : n ≤ 1048576) :
    Calls Try.prog 5 #[.slice o n c] w fun e w' => ∃ (a : Hs) (z : Int), SmallP a ∧ (-1 ≤ z ∧ z ≤ 201) ∧ e = .returned (.tuple #[hsv a, .int .i64 z]) ∧ Below w.heap.size w w' := by
  have HS := hide hs
  clear hs
  go_enter Try.func5, Try.ntmps5
  go_wp2_with fail
  obtain ⟨W1, hW1, hR1, hb1, hl1⟩ := one_hash w hz 25
  unfold hz at hW1
  dsimp only at hW1
  rw [hW1]
  clear hW1
  have HS1 := hide (((unhide HS).below hb1 (Nat.le_refl _)).up hb1.size)
  refine (l01New_any W1 o n c (unhide HS1) hn).mono ?_
  rintro e w2 ⟨rfl, hb2, hc2⟩
  obtain ⟨g, hg⟩ : ∃ g, g = W1.heap.size := ⟨_, rfl⟩
  rw [← hg] at hc2 hb2 ⊢
  have hR2 := hR1.below hb2 (by omega)
  have hb12 := hb1.trans (hb2.mono (by omega))
  have hgR : w.heap.size < g := by omega
  replace hc2 := hide hc2
  clear hR1 hb1 hb2 hl1 HS HS1 hg
  go_wp2_with fail
  refine (l08Pool_any (unhide hc2) hn).mono ?_
  rintro e w3 ⟨a, hsm, rfl, hg3, hc3⟩
  have hR3 := HB.grown hR2 hg3 (by omega)
  have hb13 := hb12.trans (gBelow hg3 hb12.size (fun k hk => by cases hk; omega))
  clear hR2 hb12 hg3 hc2
  obtain ⟨a1, a2, a3⟩ := a
  have hl3 := hR3.lt
  have hg3l := hc3.lt
  have hU : Below w3.heap.size w3 (w3.alloc (.cells #[.int .i64 0, .int .i64 1, .int .i64 32, .int .i64 33, .int .i64 100, .int .i64 200, .int .i64 201, .int .i64 (-1)] 3)) := (Below.refl w3.heap.size w3).alloc (Nat.le_refl _) _
  have CP := hide (l01PickP_any (fun z => -1 ≤ z ∧ z ≤ 201) (hc3.below hU hg3l) hn w3.heap.size 8 8 (by omega) (by omega) (nums8 w3 3) (by omega))
  have hRU := hR3.step hU
  have hbU := hb13.trans (hU.mono hb13.size)
  clear hR3 hb13 hc3 hU
  unfold hsv
  dsimp only
  go_wp2_with fail
  refine (unhide CP).mono ?_
  rintro e w4 ⟨zc, hzc, rfl, ho4, _⟩
  have hR4 := HB.grown hRU (gO ho4) (by omega)
  have hb4 := hbU.trans (gBelow (gO ho4) hbU.size (fun k hk => by cases hk; omega))
  have r0 := hR4.c0; have r1 := hR4.c1; have r2 := hR4.c2
  unfold hz at r0 r1 r2
  have e0 := hR4.frozen 0; have e1 := hR4.frozen 1; have e2 := hR4.frozen 2
  have hF := hR4.set3 ⟨a1, a2, a3⟩
  have F0 := hF.c0; have F1 := hF.c1; have F2 := hF.c2
  dsimp only at F0 F1 F2
  have HBF := hide (((hb4.setCell (p := ⟨w.heap.size, 0, none⟩) (Nat.le_refl _) (.string a1)).setCell (p := ⟨w.heap.size, 1, none⟩) (Nat.le_refl _) (.string a2)).setCell (p := ⟨w.heap.size, 2, none⟩) (Nat.le_refl _) (.int .i64 a3))
  clear hF hR4 hb4 hRU hbU ho4 CP
  go_wp2
  refine bodyPost_ret (v := .tuple #[hsv ⟨a1, a2, a3⟩, .int .i64 zc]) (by simp [results, Try.results5, go_sem, F0, F1, F2, hsv]) rfl ⟨_, zc, hsm, hzc, rfl, unhide HBF⟩
end Go.Proofs.Ytanianfealalgac
