/- The law FnMacs, walked over the loaded program. -/
import Derived.Test.YtkidgllmhdfgaabMacD
namespace Go.Proofs.Ytkidgllmhdfgaab
open Go.RowKit
theorem row_some {w : World} {base : Nat} {e : TypeId} {v : Value} {xs : List Value} (h : OwnV w base e v xs) (hne : xs ≠ []) : ∃ g c, v = .slice (some ⟨g, 0, none⟩) xs.length c := by
  rcases h.2 with ⟨h1, h2⟩ | ⟨g, cap, cur, h1, _⟩
  · exact absurd (List.length_eq_zero_iff.1 h2) hne
  · exact ⟨g, cap, h1⟩
set_option maxRecDepth 20000 in
set_option maxHeartbeats 800000 in
theorem lawMacs_any (w : World) (o : Option Addr) (n c : Nat) (hs : Src w w.heap.size o n) :
    Calls Try.prog 5 #[.slice o n c] w fun e w' => e = .returned (.bool true) ∧ Below w.heap.size w w' := by
  have HS := hide hs
  clear hs
  by_cases hbig : (1048576 : Int) < (n : Int)
  · have hd : decide ((1048576 : Int) < (n : Int)) = true := by rw [decide_eq_true_iff]; exact hbig
    go_enter Try.func5, Try.ntmps5
    go_wp2_with (go_at_call 6; refine (big_any w o n c).mono ?_; rintro e w1 ⟨rfl, rfl⟩)
    go_ret
    exact ⟨rfl, Below.refl _ _⟩
  · have hd : decide ((1048576 : Int) < (n : Int)) = false := by rw [decide_eq_false_iff_not]; exact hbig
    have hn : n ≤ 1048576 := by omega
    go_enter Try.func5, Try.ntmps5
    go_wp2_with fail
    refine (big_any w o n c).mono ?_
    rintro e w0 ⟨rfl, hw0⟩
    have hw0' := hw0.symm
    subst hw0'
    clear hw0
    go_wp2_with fail
    refine (drawMac_any w o n c (unhide HS) hn).mono ?_
    rintro e w1 ⟨key, s, hkz, hsz, rfl, hT1⟩
    have HS1 := hide (((unhide HS).below hT1 (Nat.le_refl _)).up hT1.size)
    have CM := hide (fun W => implMac_any key s (by omega) (by omega) W)
    have SM := hide (fun W => specMac_any key s (by omega) (by omega) W)
    have LM := hide (fun W => implMac_any (keyB key) s (by have := keyB_size key; omega) (by omega) W)
    rw [macB_long] at LM
    have CD := hide (fun W => implDigest_any key (by omega) W)
    have CE := hide (fun (q : Nat) (hq : q ≤ 8160) W => implExpand_yes key s (by omega) (by omega) q hq W)
    have CN := hide (fun W => implExpand_no key s (-1) (by omega) W)
    have hmz := macB_size key s
    generalize macB key s = m at *
    go_wp2_with fail
    refine ((unhide CM) w1).mono ?_
    rintro e w2 ⟨rfl, g2⟩
    have hT2 := hT1.trans (g2.mono hT1.size)
    have HS2 := hide (((unhide HS1).below g2 (Nat.le_refl _)).up g2.size)
    clear g2 HS1 hT1
    by_cases hlong : 64 < key.size
    · have hl64 : (64 : Int) < (key.size : Int) := by omega
      rw [show endV (blocksW first8 key 0 (key.size / 64)) (key.extract (64 * (key.size / 64)) key.size) key.size = keyB key by unfold keyB; rw [if_pos hlong]; rfl] at CD
      generalize keyB key = lk at *
      go_wp2_with fail
      refine ((unhide CD) w2).mono ?_
      rintro e w3 ⟨rfl, g3⟩
      have hT3 := hT2.trans (g3.mono hT2.size)
      have HS3 := hide (((unhide HS2).below g3 (Nat.le_refl _)).up g3.size)
      clear g3 HS2 hT2 CD
      go_wp2_with fail
      refine (drawPlaces_any w3 o n c (unhide HS3) hn).mono ?_
      rintro e w4 ⟨v, xs, hx12, hx, rfl, hown, g4⟩
      have hT4 := hT3.trans (g4.mono hT3.size)
      obtain ⟨x0, x1, rest, rfl⟩ : ∃ a b r, xs = a :: b :: r := by
        match xs, hx12 with
        | a :: b :: r, _ => exact ⟨a, b, r, rfl⟩
      obtain ⟨gp, cp, rfl⟩ := row_some hown (by simp [ints])
      have hil : (ints (x0 :: x1 :: rest)).length = 12 := by simpa [ints] using hx12
      rw [hil] at hown ⊢
      have hx0 : x0 < 10000 := hx x0 (by simp)
      have hx1 : x1 < 10000 := hx x1 (by simp)
      have p0 : w4.cell? ⟨gp, 0, none⟩ = some (.int .i64 (x0 : Int)) := hown.cell rfl
      have p1 : w4.cell? ⟨gp, 1, none⟩ = some (.int .i64 (x1 : Int)) := hown.cell rfl
      have hO4 := hide hown
      obtain ⟨q0, hq0⟩ : ∃ q, q = x0 % 90 := ⟨_, rfl⟩
      obtain ⟨q1, hq1⟩ : ∃ q, q = x1 % 90 := ⟨_, rfl⟩
      obtain ⟨q2, hq2⟩ : ∃ q, q = q0 + q1 := ⟨_, rfl⟩
      have e0 : (x0 : Int).tmod 90 = (q0 : Int) := by rw [Int.tmod_eq_emod_of_nonneg (by omega)]; omega
      have e0' : (x0 : Int) % 90 = (q0 : Int) := by omega
      have e1 : (x1 : Int).tmod 90 = (q1 : Int) := by rw [Int.tmod_eq_emod_of_nonneg (by omega)]; omega
      have e1' : (x1 : Int) % 90 = (q1 : Int) := by omega
      have e2 : IntKind.i64.wrap ((q0 : Int) + (q1 : Int)) = (q2 : Int) := by rw [IntKind.wrap_i64]; omega
      have e2' : (q0 : Int) + (q1 : Int) = (q2 : Int) := by omega
      have e3 : IntKind.i64.wrap (q2 : Int) = (q2 : Int) := by rw [IntKind.wrap_i64]; omega
      have E1 := hide (fun W => (unhide CE) q0 (by omega) W)
      have E2 := hide (fun (z : Int) (hz : z = (q2 : Int)) W => (show Calls Try.prog 20 #[.string key, .string s, .int .i64 z] W fun e w' => e = .returned (.tuple #[.string (exB key s q2), .bool true]) ∧ Below W.heap.size W w' by rw [hz]; exact (unhide CE) q2 (by omega) W))
      have z1 := exB_size key s q0
      have z2 := exB_size key s q2
      have BG := hide (fun W => begins_any (exB key s q0) (exB key s q2) (by rw [z1, z2]; omega) (by rw [z1, hq2]; exact exB_begins key s q0 q1) W)
      generalize exB key s q0 = d1 at *
      generalize exB key s q2 = d2 at *
      have SA := hide (fun W => implSame_any m m W (by omega) (by omega))
      rw [decide_eq_true (rfl : m = m)] at SA
      have hm32 : (m.size : Int) = 32 := by omega
      have hd1 : (d1.size : Int) = (q0 : Int) := by omega
      replace hq0 := hide hq0
      replace hq1 := hide hq1
      replace hq2 := hide hq2
      replace z1 := hide z1
      replace z2 := hide z2
      replace hmz := hide hmz
      clear hown g4 hx hx12 CE HS3 hT3
      go_wp2_with fail
      refine ((unhide E1) w4).mono ?_
      rintro e w5 ⟨rfl, g5⟩
      have hT5 := hT4.trans (g5.mono hT4.size)
      have hO5 := hide ((unhide hO4).below g5)
      clear hT4 g5 p0 p1 hO4
      have p0 : w5.cell? ⟨gp, 0, none⟩ = some (.int .i64 (x0 : Int)) := (unhide hO5).cell rfl
      have p1 : w5.cell? ⟨gp, 1, none⟩ = some (.int .i64 (x1 : Int)) := (unhide hO5).cell rfl
      have hgl5 := ((unhide hO5).lt gp rfl).2
      go_wp2
      go_region_held3 (fun W => W.cell? ⟨gp, 0, none⟩ = some (.int .i64 (x0 : Int)) ∧ W.cell? ⟨gp, 1, none⟩ = some (.int .i64 (x1 : Int))) (first | exact ⟨p0, p1⟩ | exact ⟨r0, r1⟩ | fail) (first
        | (go_at_call 20; refine ((unhide E2) _ (by first | rfl | exact e3 | exact e2 | exact e2') _).mono ?_; rintro e w6 ⟨rfl, g6'⟩; have g6 : Below w5.heap.size w5 w6 := (Below.refl _ w5).drew.trans g6'; have r0 := (g6.cell (p := ⟨gp, 0, none⟩) hgl5).trans p0; have r1 := (g6.cell (p := ⟨gp, 1, none⟩) hgl5).trans p1)
        | fail)
      clear g6' r0 r1 hgl5
      have hT6 := hT5.trans (g6.mono hT5.size)
      have hO6 := hide ((unhide hO5).below g6)
      clear hT5 g6 p0 p1 hO5
      have p0 : w6.cell? ⟨gp, 0, none⟩ = some (.int .i64 (x0 : Int)) := (unhide hO6).cell rfl
      have p1 : w6.cell? ⟨gp, 1, none⟩ = some (.int .i64 (x1 : Int)) := (unhide hO6).cell rfl
      go_wp2_with fail
      refine ((unhide CN) w6).mono ?_
      rintro e w7 ⟨rfl, g7⟩
      have hT7 := hT6.trans (g7.mono hT6.size)
      have hO7 := hide ((unhide hO6).below g7)
      clear hT6 g7 p0 p1 hO6
      have p0 : w7.cell? ⟨gp, 0, none⟩ = some (.int .i64 (x0 : Int)) := (unhide hO7).cell rfl
      have p1 : w7.cell? ⟨gp, 1, none⟩ = some (.int .i64 (x1 : Int)) := (unhide hO7).cell rfl
      go_wp2_with fail
      refine ((unhide SM) w7).mono ?_
      rintro e w8 ⟨rfl, g8⟩
      have hT8 := hT7.trans (g8.mono hT7.size)
      have hO8 := hide ((unhide hO7).below g8)
      clear hT7 g8 p0 p1 hO7
      have p0 : w8.cell? ⟨gp, 0, none⟩ = some (.int .i64 (x0 : Int)) := (unhide hO8).cell rfl
      have p1 : w8.cell? ⟨gp, 1, none⟩ = some (.int .i64 (x1 : Int)) := (unhide hO8).cell rfl
      go_wp2_with fail
      refine ((unhide LM) w8).mono ?_
      rintro e w9 ⟨rfl, g9⟩
      have hT9 := hT8.trans (g9.mono hT8.size)
      have hO9 := hide ((unhide hO8).below g9)
      clear hT8 g9 p0 p1 hO8
      have p0 : w9.cell? ⟨gp, 0, none⟩ = some (.int .i64 (x0 : Int)) := (unhide hO9).cell rfl
      have p1 : w9.cell? ⟨gp, 1, none⟩ = some (.int .i64 (x1 : Int)) := (unhide hO9).cell rfl
      go_wp2_with fail
      refine ((unhide BG) w9).mono ?_
      rintro e w10 ⟨rfl, g10⟩
      have hT10 := hT9.trans (g10.mono hT9.size)
      have hO10 := hide ((unhide hO9).below g10)
      clear hT9 g10 p0 p1 hO9
      have p0 : w10.cell? ⟨gp, 0, none⟩ = some (.int .i64 (x0 : Int)) := (unhide hO10).cell rfl
      have p1 : w10.cell? ⟨gp, 1, none⟩ = some (.int .i64 (x1 : Int)) := (unhide hO10).cell rfl
      go_wp2_with fail
      refine ((unhide SA) w10).mono ?_
      rintro e w11 ⟨rfl, g11⟩
      have hT11 := hT10.trans (g11.mono hT10.size)
      have hO11 := hide ((unhide hO10).below g11)
      clear hT10 g11 p0 p1 hO10
      have p0 : w11.cell? ⟨gp, 0, none⟩ = some (.int .i64 (x0 : Int)) := (unhide hO11).cell rfl
      have p1 : w11.cell? ⟨gp, 1, none⟩ = some (.int .i64 (x1 : Int)) := (unhide hO11).cell rfl
      have TU := hide (turned_any m (unhide hmz) gp cp x0 x1 w11 p0 p1 ((unhide hO11).lt gp rfl).2 hx0 hx1)
      go_wp2_with fail
      refine (unhide TU).mono ?_
      rintro e w12 ⟨t, htm, htz, rfl, g12⟩
      have hT12 := hT11.trans (g12.mono hT11.size)
      have hO12 := hide ((unhide hO11).below g12)
      clear hT11 g12 p0 p1 hO11
      have p0 : w12.cell? ⟨gp, 0, none⟩ = some (.int .i64 (x0 : Int)) := (unhide hO12).cell rfl
      have p1 : w12.cell? ⟨gp, 1, none⟩ = some (.int .i64 (x1 : Int)) := (unhide hO12).cell rfl
      have SB := hide (fun W => implSame_any m t W (by have := unhide hmz; omega) (by omega))
      rw [decide_eq_false (fun h => htm h.symm)] at SB
      go_wp2_with fail
      refine ((unhide SB) w12).mono ?_
      rintro e w13 ⟨rfl, g13⟩
      have hT13 := hT12.trans (g13.mono hT12.size)
      have hO13 := hide ((unhide hO12).below g13)
      clear hT12 g13 p0 p1 hO12
      have p0 : w13.cell? ⟨gp, 0, none⟩ = some (.int .i64 (x0 : Int)) := (unhide hO13).cell rfl
      have p1 : w13.cell? ⟨gp, 1, none⟩ = some (.int .i64 (x1 : Int)) := (unhide hO13).cell rfl
      go_wp2
      go_ret
      exact ⟨by simp, hT13⟩
    · have hl64 : ¬ (64 : Int) < (key.size : Int) := by omega
      rw [show keyB key = key by unfold keyB; rw [if_neg hlong]] at LM
      obtain ⟨w3, hw3⟩ : ∃ W, W = w2 := ⟨_, rfl⟩
      subst hw3
      have hT3 := hT2
      have HS3 := HS2
      clear HS2 hT2 CD
      go_wp2_with fail
      refine (drawPlaces_any w3 o n c (unhide HS3) hn).mono ?_
      rintro e w4 ⟨v, xs, hx12, hx, rfl, hown, g4⟩
      have hT4 := hT3.trans (g4.mono hT3.size)
      obtain ⟨x0, x1, rest, rfl⟩ : ∃ a b r, xs = a :: b :: r := by
        match xs, hx12 with
        | a :: b :: r, _ => exact ⟨a, b, r, rfl⟩
      obtain ⟨gp, cp, rfl⟩ := row_some hown (by simp [ints])
      have hil : (ints (x0 :: x1 :: rest)).length = 12 := by simpa [ints] using hx12
      rw [hil] at hown ⊢
      have hx0 : x0 < 10000 := hx x0 (by simp)
      have hx1 : x1 < 10000 := hx x1 (by simp)
      have p0 : w4.cell? ⟨gp, 0, none⟩ = some (.int .i64 (x0 : Int)) := hown.cell rfl
      have p1 : w4.cell? ⟨gp, 1, none⟩ = some (.int .i64 (x1 : Int)) := hown.cell rfl
      have hO4 := hide hown
      obtain ⟨q0, hq0⟩ : ∃ q, q = x0 % 90 := ⟨_, rfl⟩
      obtain ⟨q1, hq1⟩ : ∃ q, q = x1 % 90 := ⟨_, rfl⟩
      obtain ⟨q2, hq2⟩ : ∃ q, q = q0 + q1 := ⟨_, rfl⟩
      have e0 : (x0 : Int).tmod 90 = (q0 : Int) := by rw [Int.tmod_eq_emod_of_nonneg (by omega)]; omega
      have e0' : (x0 : Int) % 90 = (q0 : Int) := by omega
      have e1 : (x1 : Int).tmod 90 = (q1 : Int) := by rw [Int.tmod_eq_emod_of_nonneg (by omega)]; omega
      have e1' : (x1 : Int) % 90 = (q1 : Int) := by omega
      have e2 : IntKind.i64.wrap ((q0 : Int) + (q1 : Int)) = (q2 : Int) := by rw [IntKind.wrap_i64]; omega
      have e2' : (q0 : Int) + (q1 : Int) = (q2 : Int) := by omega
      have e3 : IntKind.i64.wrap (q2 : Int) = (q2 : Int) := by rw [IntKind.wrap_i64]; omega
      have E1 := hide (fun W => (unhide CE) q0 (by omega) W)
      have E2 := hide (fun (z : Int) (hz : z = (q2 : Int)) W => (show Calls Try.prog 20 #[.string key, .string s, .int .i64 z] W fun e w' => e = .returned (.tuple #[.string (exB key s q2), .bool true]) ∧ Below W.heap.size W w' by rw [hz]; exact (unhide CE) q2 (by omega) W))
      have z1 := exB_size key s q0
      have z2 := exB_size key s q2
      have BG := hide (fun W => begins_any (exB key s q0) (exB key s q2) (by rw [z1, z2]; omega) (by rw [z1, hq2]; exact exB_begins key s q0 q1) W)
      generalize exB key s q0 = d1 at *
      generalize exB key s q2 = d2 at *
      have SA := hide (fun W => implSame_any m m W (by omega) (by omega))
      rw [decide_eq_true (rfl : m = m)] at SA
      have hm32 : (m.size : Int) = 32 := by omega
      have hd1 : (d1.size : Int) = (q0 : Int) := by omega
      replace hq0 := hide hq0
      replace hq1 := hide hq1
      replace hq2 := hide hq2
      replace z1 := hide z1
      replace z2 := hide z2
      replace hmz := hide hmz
      clear hown g4 hx hx12 CE HS3 hT3
      go_wp2_with fail
      refine ((unhide E1) w4).mono ?_
      rintro e w5 ⟨rfl, g5⟩
      have hT5 := hT4.trans (g5.mono hT4.size)
      have hO5 := hide ((unhide hO4).below g5)
      clear hT4 g5 p0 p1 hO4
      have p0 : w5.cell? ⟨gp, 0, none⟩ = some (.int .i64 (x0 : Int)) := (unhide hO5).cell rfl
      have p1 : w5.cell? ⟨gp, 1, none⟩ = some (.int .i64 (x1 : Int)) := (unhide hO5).cell rfl
      have hgl5 := ((unhide hO5).lt gp rfl).2
      go_wp2
      go_region_held3 (fun W => W.cell? ⟨gp, 0, none⟩ = some (.int .i64 (x0 : Int)) ∧ W.cell? ⟨gp, 1, none⟩ = some (.int .i64 (x1 : Int))) (first | exact ⟨p0, p1⟩ | exact ⟨r0, r1⟩ | fail) (first
        | (go_at_call 20; refine ((unhide E2) _ (by first | rfl | exact e3 | exact e2 | exact e2') _).mono ?_; rintro e w6 ⟨rfl, g6'⟩; have g6 : Below w5.heap.size w5 w6 := (Below.refl _ w5).drew.trans g6'; have r0 := (g6.cell (p := ⟨gp, 0, none⟩) hgl5).trans p0; have r1 := (g6.cell (p := ⟨gp, 1, none⟩) hgl5).trans p1)
        | fail)
      clear g6' r0 r1 hgl5
      have hT6 := hT5.trans (g6.mono hT5.size)
      have hO6 := hide ((unhide hO5).below g6)
      clear hT5 g6 p0 p1 hO5
      have p0 : w6.cell? ⟨gp, 0, none⟩ = some (.int .i64 (x0 : Int)) := (unhide hO6).cell rfl
      have p1 : w6.cell? ⟨gp, 1, none⟩ = some (.int .i64 (x1 : Int)) := (unhide hO6).cell rfl
      go_wp2_with fail
      refine ((unhide CN) w6).mono ?_
      rintro e w7 ⟨rfl, g7⟩
      have hT7 := hT6.trans (g7.mono hT6.size)
      have hO7 := hide ((unhide hO6).below g7)
      clear hT6 g7 p0 p1 hO6
      have p0 : w7.cell? ⟨gp, 0, none⟩ = some (.int .i64 (x0 : Int)) := (unhide hO7).cell rfl
      have p1 : w7.cell? ⟨gp, 1, none⟩ = some (.int .i64 (x1 : Int)) := (unhide hO7).cell rfl
      go_wp2_with fail
      refine ((unhide SM) w7).mono ?_
      rintro e w8 ⟨rfl, g8⟩
      have hT8 := hT7.trans (g8.mono hT7.size)
      have hO8 := hide ((unhide hO7).below g8)
      clear hT7 g8 p0 p1 hO7
      have p0 : w8.cell? ⟨gp, 0, none⟩ = some (.int .i64 (x0 : Int)) := (unhide hO8).cell rfl
      have p1 : w8.cell? ⟨gp, 1, none⟩ = some (.int .i64 (x1 : Int)) := (unhide hO8).cell rfl
      go_wp2_with fail
      refine ((unhide LM) w8).mono ?_
      rintro e w9 ⟨rfl, g9⟩
      have hT9 := hT8.trans (g9.mono hT8.size)
      have hO9 := hide ((unhide hO8).below g9)
      clear hT8 g9 p0 p1 hO8
      have p0 : w9.cell? ⟨gp, 0, none⟩ = some (.int .i64 (x0 : Int)) := (unhide hO9).cell rfl
      have p1 : w9.cell? ⟨gp, 1, none⟩ = some (.int .i64 (x1 : Int)) := (unhide hO9).cell rfl
      go_wp2_with fail
      refine ((unhide BG) w9).mono ?_
      rintro e w10 ⟨rfl, g10⟩
      have hT10 := hT9.trans (g10.mono hT9.size)
      have hO10 := hide ((unhide hO9).below g10)
      clear hT9 g10 p0 p1 hO9
      have p0 : w10.cell? ⟨gp, 0, none⟩ = some (.int .i64 (x0 : Int)) := (unhide hO10).cell rfl
      have p1 : w10.cell? ⟨gp, 1, none⟩ = some (.int .i64 (x1 : Int)) := (unhide hO10).cell rfl
      go_wp2_with fail
      refine ((unhide SA) w10).mono ?_
      rintro e w11 ⟨rfl, g11⟩
      have hT11 := hT10.trans (g11.mono hT10.size)
      have hO11 := hide ((unhide hO10).below g11)
      clear hT10 g11 p0 p1 hO10
      have p0 : w11.cell? ⟨gp, 0, none⟩ = some (.int .i64 (x0 : Int)) := (unhide hO11).cell rfl
      have p1 : w11.cell? ⟨gp, 1, none⟩ = some (.int .i64 (x1 : Int)) := (unhide hO11).cell rfl
      have TU := hide (turned_any m (unhide hmz) gp cp x0 x1 w11 p0 p1 ((unhide hO11).lt gp rfl).2 hx0 hx1)
      go_wp2_with fail
      refine (unhide TU).mono ?_
      rintro e w12 ⟨t, htm, htz, rfl, g12⟩
      have hT12 := hT11.trans (g12.mono hT11.size)
      have hO12 := hide ((unhide hO11).below g12)
      clear hT11 g12 p0 p1 hO11
      have p0 : w12.cell? ⟨gp, 0, none⟩ = some (.int .i64 (x0 : Int)) := (unhide hO12).cell rfl
      have p1 : w12.cell? ⟨gp, 1, none⟩ = some (.int .i64 (x1 : Int)) := (unhide hO12).cell rfl
      have SB := hide (fun W => implSame_any m t W (by have := unhide hmz; omega) (by omega))
      rw [decide_eq_false (fun h => htm h.symm)] at SB
      go_wp2_with fail
      refine ((unhide SB) w12).mono ?_
      rintro e w13 ⟨rfl, g13⟩
      have hT13 := hT12.trans (g13.mono hT12.size)
      have hO13 := hide ((unhide hO12).below g13)
      clear hT12 g13 p0 p1 hO12
      have p0 : w13.cell? ⟨gp, 0, none⟩ = some (.int .i64 (x0 : Int)) := (unhide hO13).cell rfl
      have p1 : w13.cell? ⟨gp, 1, none⟩ = some (.int .i64 (x1 : Int)) := (unhide hO13).cell rfl
      go_wp2
      go_ret
      exact ⟨by simp, hT13⟩
end Go.Proofs.Ytkidgllmhdfgaab
