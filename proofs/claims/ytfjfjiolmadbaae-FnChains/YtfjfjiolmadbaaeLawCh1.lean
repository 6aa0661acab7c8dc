/- The law FnChains, walked over the loaded program; what the project's functions answer is a premise. -/
import Derived.Test.YtfjfjiolmadbaaeChn1
import Derived.Test.YtfjfjiolmadbaaeDrawV
namespace Go.Proofs.Ytfjfjiolmadbaae
open Go.RowKit
theorem row_some14 {w : World} {base : Nat} {e : TypeId} {v : Value} {xs : List Value} (h : OwnV w base e v xs) (hn : 0 < xs.length) : ∃ g c, v = .slice (some ⟨g, 0, none⟩) xs.length c := by
  rcases h.2 with ⟨_, h2⟩ | ⟨g, cap, cur, h1, _⟩
  · omega
  · exact ⟨g, cap, h1⟩
set_option maxRecDepth 20000 in
set_option maxHeartbeats 400000 in
theorem drawChainOf_any (w : World) (o : Option Addr) (n c : Nat) (hs : Src w w.heap.size o n) (hn : n ≤ 1048576) :
    Calls Try.prog 7 #[.slice o n c] w fun e w' => ∃ (s : ByteArray) (i j k l : Int), s.size ≤ 200 ∧ e = .returned (.tuple #[.string s, .int .i64 i, .int .i64 j, .int .i64 k, .int .i64 l]) ∧ Below w.heap.size w w' := by
  have HS := hide hs
  clear hs
  go_enter Try.func7, Try.ntmps7
  go_wp2_with fail
  refine (l01New_any w o n c (unhide HS) hn).mono ?_
  rintro e w1 ⟨rfl, hb1, hc1⟩
  obtain ⟨g, hg⟩ : ∃ g, g = w.heap.size := ⟨_, rfl⟩
  rw [← hg] at hc1 ⊢
  have hgle : w.heap.size ≤ g := by omega
  clear HS hg
  go_wp2_with fail
  refine (l01Below_any hc1 hn 6 (by decide) (by decide)).mono ?_
  rintro e w2 ⟨x, hx, rfl, ho2, hc2⟩
  have hb2 := hb1.trans (ho2.below hgle)
  clear hc1 hb1 ho2
  go_wp2_with fail
  refine (l01Text_any hc2 hn x (by omega)).mono ?_
  rintro e w3 ⟨l, hl, rfl, hb3, hc3⟩
  have hb3' := hb2.trans (hb3.mono hgle)
  have hsz : (⟨l.toArray⟩ : ByteArray).size ≤ 200 := by show l.length ≤ 200; omega
  generalize (⟨l.toArray⟩ : ByteArray) = s at *
  clear hc2 hb2 hb3 hl
  go_wp2_with fail
  refine (l01Place_v hc3 hn 4 (by omega) (by omega)).mono ?_
  rintro e w4 ⟨i1, rfl, hg4, hc4⟩
  have hb4 := hb3'.grown hg4 hb3'.size (fun k hk => by cases hk; exact hgle)
  clear hc3 hb3' hg4
  go_wp2_with fail
  refine (l01Place_v hc4 hn 10 (by omega) (by omega)).mono ?_
  rintro e w5 ⟨i2, rfl, hg5, hc5⟩
  have hb5 := hb4.grown hg5 hb4.size (fun k hk => by cases hk; exact hgle)
  clear hc4 hb4 hg5
  go_wp2_with fail
  refine (l01Place_v hc5 hn 16 (by omega) (by omega)).mono ?_
  rintro e w6 ⟨i3, rfl, hg6, hc6⟩
  have hb6 := hb5.grown hg6 hb5.size (fun k hk => by cases hk; exact hgle)
  clear hc5 hb5 hg6
  go_wp2_with fail
  refine (l01Place_v hc6 hn 16 (by omega) (by omega)).mono ?_
  rintro e w7 ⟨i4, rfl, hg7, -⟩
  have hb7 := hb6.grown hg7 hb6.size (fun k hk => by cases hk; exact hgle)
  clear hc6 hb6 hg7
  go_wp2
  refine bodyPost_ret (v := .tuple #[.string s, .int .i64 i1, .int .i64 i2, .int .i64 i3, .int .i64 i4]) (by simp [results, Try.results7, go_sem]) rfl ⟨s, i1, i2, i3, i4, hsz, rfl, hb7⟩
set_option maxRecDepth 20000 in
set_option maxHeartbeats 1000000 in
theorem lawChains_any (w : World) (o : Option Addr) (n c : Nat) (hs : Src w w.heap.size o n)
    (CI : ∀ (x : ByteArray) (i j k l : Int), x.size ≤ 1048576 → ∀ W : World, Below w.heap.size w W → Calls Try.prog 9 #[.string x, .int .i64 i, .int .i64 j, .int .i64 k, .int .i64 l] W fun e w' => e = .returned (.string (chnB x i j k (stepsN l))) ∧ Below W.heap.size W w')
    (CC : ∀ x : ByteArray, x.size ≤ 1048576 → ∀ W : World, Below w.heap.size w W → Calls Try.prog 11 #[.string x] W fun e w' => e = .returned (.string (chopB x)) ∧ Below W.heap.size W w') :
    Calls Try.prog 3 #[.slice o n c] w fun e w' => e = .returned (.bool true) ∧ Below w.heap.size w w' := by
  have HS := hide (fun W (h : Below w.heap.size w W) => ((hs.below h (Nat.le_refl _)).up h.size))
  have HS0 := hide hs
  clear hs
  replace CI := hide CI; replace CC := hide CC
  by_cases hbig : (1048576 : Int) < (n : Int)
  · have hd : decide ((1048576 : Int) < (n : Int)) = true := by rw [decide_eq_true_iff]; exact hbig
    go_enter Try.func3, Try.ntmps3
    go_wp2_with (go_at_call 6; refine (big_any w o n c).mono ?_; rintro e w1 ⟨rfl, rfl⟩)
    go_ret
    exact ⟨rfl, Below.refl _ _⟩
  have hd : decide ((1048576 : Int) < (n : Int)) = false := by rw [decide_eq_false_iff_not]; exact hbig
  have hn : n ≤ 1048576 := by omega
  go_enter Try.func3, Try.ntmps3
  go_wp2_with fail
  refine (big_any w o n c).mono ?_
  rintro e w0 ⟨rfl, hw0⟩
  have hw0' := hw0.symm
  subst hw0'
  clear hw0
  go_wp2_with fail
  refine (drawChainOf_any w o n c (unhide HS0) hn).mono ?_
  rintro e w1 ⟨s, i1, i2, i3, i4, hs2, rfl, HT1⟩
  clear HS0
  go_wp2_with fail
  refine (drawPlaces_any w1 o n c (unhide HS w1 HT1) hn).mono ?_
  rintro e w5 ⟨v, xs, hx12, hx, rfl, hown, hb5⟩
  have HT5 := HT1.trans (hb5.mono HT1.size)
  obtain ⟨q0, q1, rest, rfl⟩ : ∃ a b r, xs = a :: b :: r := by
    match xs, hx12 with
    | a :: b :: r, _ => exact ⟨a, b, r, rfl⟩
  obtain ⟨gp, cp, rfl⟩ := row_some14 hown (by simp [ints])
  have hil : (ints (q0 :: q1 :: rest)).length = 12 := by simpa [ints] using hx12
  rw [hil] at hown ⊢
  have hx0 : q0 < 10000 := hx q0 (by simp)
  have hx1 : q1 < 10000 := hx q1 (by simp)
  have p0 : w5.cell? ⟨gp, 0, none⟩ = some (.int .i64 (q0 : Int)) := hown.cell rfl
  have p1 : w5.cell? ⟨gp, 1, none⟩ = some (.int .i64 (q1 : Int)) := hown.cell rfl
  obtain ⟨a, ha⟩ : ∃ a, a = q0 % 8 := ⟨_, rfl⟩
  obtain ⟨b, hb⟩ : ∃ b, b = q1 % 8 := ⟨_, rfl⟩
  have e0 : (q0 : Int).tmod 8 = (a : Int) := by rw [Int.tmod_eq_emod_of_nonneg (by omega)]; omega
  have e0' : (q0 : Int) % 8 = (a : Int) := by omega
  have e1 : (q1 : Int).tmod 8 = (b : Int) := by rw [Int.tmod_eq_emod_of_nonneg (by omega)]; omega
  have e1' : (q1 : Int) % 8 = (b : Int) := by omega
  have ha8 : a < 8 := by omega
  have hb8 : b < 8 := by omega
  obtain ⟨ab, hab⟩ : ∃ x : Nat, x = a + b := ⟨_, rfl⟩
  have e2 : IntKind.i64.wrap ((a : Int) + (b : Int)) = (ab : Int) := by rw [IntKind.wrap_i64]; omega
  have e3 : IntKind.i64.wrap (a : Int) = (a : Int) := by rw [IntKind.wrap_i64]; omega
  have e4 : IntKind.i64.wrap (b : Int) = (b : Int) := by rw [IntKind.wrap_i64]; omega
  have sa : stepsN (a : Int) = a := by unfold stepsN; rw [if_pos (by omega), Int.toNat_natCast]
  have sb : stepsN (b : Int) = b := by unfold stepsN; rw [if_pos (by omega), Int.toNat_natCast]
  have sab : stepsN (ab : Int) = a + b := by unfold stepsN; rw [if_pos (by omega), Int.toNat_natCast, hab]
  have s0 : stepsN 0 = 0 := rfl
  have c1 := hide (unhide CI s i1 i2 0 (a : Int) (by omega))
  have hys := chnB_size s i1 i2 0 a (by omega)
  have c2 := hide (unhide CI (chnB s i1 i2 0 a) i1 i2 (a : Int) (b : Int) hys)
  have c3 := hide (unhide CI s i1 i2 0 (ab : Int) (by omega))
  have c4 := hide (unhide CI s i1 i2 3 0 (by omega))
  have c5 := hide (fun W => specChain_any (chnB s i1 i2 0 a) i1 i2 (a : Int) (b : Int) hys W)
  have c6 := hide (unhide CC s (by omega))
  rw [sa] at c1
  rw [sb, chn_on s i1 i2 a b (by omega)] at c2 c5
  rw [sab] at c3
  rw [s0, show chnB s i1 i2 3 0 = s from rfl] at c4
  have hz := chopB_size s
  generalize chnB s i1 i2 0 a = Y at *
  generalize chnB s i1 i2 0 (a + b) = Z at *
  generalize chopB s = Q at *
  have hz' : (Q.size : Int) = 4 := by omega
  replace ha := hide ha; replace hb := hide hb; replace hab := hide hab; replace sa := hide sa; replace sb := hide sb; replace sab := hide sab; replace s0 := hide s0; replace hz := hide hz
  clear hown hb5 HT1 HS hx hil CI CC
  go_wp2_with fail
  refine (unhide c1 w5 HT5).mono ?_
  rintro e w6 ⟨rfl, hb6⟩
  have HT6 := HT5.trans (hb6.mono HT5.size)
  clear hb6 HT5 c1 p0 p1
  go_wp2_with fail
  refine (unhide c2 w6 HT6).mono ?_
  rintro e w7 ⟨rfl, hb7⟩
  have HT7 := HT6.trans (hb7.mono HT6.size)
  clear hb7 HT6 c2
  go_wp2_with fail
  refine (unhide c3 w7 HT7).mono ?_
  rintro e w8 ⟨rfl, hb8⟩
  have HT8 := HT7.trans (hb8.mono HT7.size)
  clear hb8 HT7 c3
  go_wp2_with fail
  refine (unhide c4 w8 HT8).mono ?_
  rintro e w9 ⟨rfl, hb9⟩
  have HT9 := HT8.trans (hb9.mono HT8.size)
  clear hb9 HT8 c4
  go_wp2_with fail
  refine (unhide c5 w9).mono ?_
  rintro e w10 ⟨rfl, hb10⟩
  have HT10 := HT9.trans (hb10.mono HT9.size)
  clear hb10 HT9 c5
  go_wp2_with fail
  refine (unhide c6 w10 HT10).mono ?_
  rintro e w11 ⟨rfl, hb11⟩
  have HT11 := HT10.trans (hb11.mono HT10.size)
  clear hb11 HT10 c6
  go_wp2
  go_ret
  exact ⟨rfl, HT11⟩
end Go.Proofs.Ytfjfjiolmadbaae
