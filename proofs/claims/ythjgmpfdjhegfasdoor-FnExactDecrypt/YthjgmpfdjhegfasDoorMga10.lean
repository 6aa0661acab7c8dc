/- Merged: KmE, LawKmE, Lvg. -/
import Derived.Test.YthjgmpfdjhegfasDoorMga1
import Derived.Test.YthjgmpfdjhegfasDoorMga2
import Derived.Test.YthjgmpfdjhegfasDoorMga3
import Derived.Test.YthjgmpfdjhegfasDoorMga4
import Derived.Test.YthjgmpfdjhegfasDoorMga5
import Derived.Test.YthjgmpfdjhegfasDoorMga6
import Derived.Test.YthjgmpfdjhegfasDoorMga7
import Derived.Test.YthjgmpfdjhegfasDoorMga8
import Derived.Test.YthjgmpfdjhegfasDoorMga9
import Derived.Conc.Holds
import Derived.Leaving
import Derived.Handed
import Derived.SevenTiedAt
/- A secret handed over, by the project: what a cipher hides; Decrypt, ErrorOf, over the loaded program. -/
namespace Go.Proofs.YthjgmpfdjhegfasDoor
open Go.RowKit
set_option maxRecDepth 20000 in
theorem secPolys_any (a0 : Option Addr) (n0 q0 : Nat) (a1 : Option Addr) (n1 q1 : Nat) (x y : ByteArray) (w : World) :
    Calls Tryd.prog 102 #[.agg #[.slice a0 n0 q0, .slice a1 n1 q1, .string x, .string y]] w fun e w' => e = .returned (.agg #[.slice a0 n0 q0, .slice a1 n1 q1]) ∧ Below w.heap.size w w' := by
  obtain ⟨W, hW, hA, hR, hb, hlt⟩ := two_cb w #[.slice a0 n0 q0, .slice a1 n1 q1, .string x, .string y] #[.slice none 0 0, .slice none 0 0] 54 33
  have c0 := hA.cell 0 rfl
  have c1 := hA.cell 1 rfl
  have r0 := hR.cell 0 rfl
  have r1 := hR.cell 1 rfl
  have z0 := hR.frozen 0
  have z1 := hR.frozen 1
  have hR2 := hide ((hR.set 0 (.slice a0 n0 q0)).set 1 (.slice a1 n1 q1))
  have hB2 := hide ((hb.setCell (p := ⟨w.heap.size + 1, 0, none⟩) (Nat.le_succ _) (.slice a0 n0 q0)).setCell (p := ⟨w.heap.size + 1, 1, none⟩) (Nat.le_succ _) (.slice a1 n1 q1))
  clear hA hR hb
  go_enter Tryd.func102, Tryd.ntmps102
  go_wp2
  exact bodyPost_ret (results_arr1 (by exact Tryd.results102) _ _ _ _ _ _ _ rfl (unhide hR2) Tryd.underlying33 (by kernel_rfl)) rfl ⟨rfl, unhide hB2⟩
theorem meth_sec (x : Value) (W : World) : (method 205 54 x "loop.example/g00186/impl.polys").run Tryd.prog W = .ok (102, x) W := by kernel_rfl
set_option maxRecDepth 20000 in
set_option maxHeartbeats 800000 in
theorem coverSec_any (A B : Nat → List Int) (hA : ∀ i, i < 2 → (A i).length ≤ 1048576) (hB : ∀ i, i < 2 → (B i).length ≤ 1048576) (a0 : Option Addr) (n0 q0 : Nat) (a1 : Option Addr) (n1 q1 : Nat) (x y : ByteArray) (b0 : Option Addr) (m0 p0 : Nat) (b1 : Option Addr) (m1 p1 : Nat) (w : World)
    (ra : Rd2 w (.slice a0 n0 q0) (.slice a1 n1 q1) A) (rb : Rd2 w (.slice b0 m0 p0) (.slice b1 m1 p1) B) (ka : n0 ≤ q0 ∧ n1 ≤ q1) (kb : m0 ≤ p0 ∧ m1 ≤ p1) :
    Calls Tryd.prog 34 #[.iface 54 (.agg #[.slice a0 n0 q0, .slice a1 n1 q1, .string x, .string y]), .agg #[.slice b0 m0 p0, .slice b1 m1 p1]] w fun e w' => (∃ v, e = .returned v ∧ OwnV w' w.heap.size 3 v ((invL (sumK A B 2)).map iv)) ∧ Below w.heap.size w w' := by
  have CP := hide (fun W => secPolys_any a0 n0 q0 a1 n1 q1 x y W)
  have CT := hide (fun W (h : Below w.heap.size w W) => times_any A B hA hB a0 n0 q0 a1 n1 q1 b0 m0 p0 b1 m1 p1 W (ra.below h) (rb.below h) ka kb)
  have CI := hide (fun u W r => implInvNtt_any (sumK A B 2) u (by have := sumK_len13 A B 2; omega) W r)
  generalize sumK A B 2 = S at *
  obtain ⟨W, hW, hC, hb, hlt⟩ := one_cb w #[.slice b0 m0 p0, .slice b1 m1 p1] 33
  have c0 := hC.cell 0 rfl
  have c1 := hC.cell 1 rfl
  have KS := hide (show ∀ W' : World, Below W.heap.size W W' → W'.cell? ⟨w.heap.size, 0, none⟩ = some (.slice b0 m0 p0) ∧ W'.cell? ⟨w.heap.size, 1, none⟩ = some (.slice b1 m1 p1) from fun W' h => ⟨(h.cell (p := ⟨w.heap.size, 0, none⟩) hlt).trans c0, (h.cell (p := ⟨w.heap.size, 1, none⟩) hlt).trans c1⟩)
  have hR := Below.refl W.heap.size W
  have hmt := meth_sec
  clear ra rb hA hB ka kb
  replace hC := hide hC
  go_enter Tryd.func34, Tryd.ntmps34
  go_wp2
  go_region_held3 (fun W' => W'.cell? ⟨w.heap.size, 0, none⟩ = some (.slice b0 m0 p0) ∧ W'.cell? ⟨w.heap.size, 1, none⟩ = some (.slice b1 m1 p1)) (first | exact ⟨c0, c1⟩ | exact unhide KS _ H3 | exact unhide KS _ H2 | exact unhide KS _ H1) (first
    | (go_at_call 102; refine (unhide CP _).mono ?_; rintro e w1 ⟨rfl, hb1⟩; have H1 := hR.drew.trans hb1)
    | (go_at_call 54; refine (unhide CT _ (hb.trans (H1.mono hb.size))).mono ?_; rintro e w2 ⟨⟨v2, rfl, o2⟩, hb2⟩; have H2 := H1.trans (hb2.mono H1.size))
    | (go_at_call 53; refine (unhide CI _ _ o2.rdv).mono ?_; rintro e w3 ⟨⟨v3, rfl, o3⟩, hb3⟩; have H3 := H2.trans (hb3.mono H2.size); have o4 := o3.low H2.size))
  all_goals
    have HT := hb.trans (H3.mono hb.size)
    have o5 := hide (o4.low hb.size)
    clear o2 o3 o4 H1 H2 H3 hb1 hb2 hb3
    go_wp2
    go_ret
    exact ⟨⟨_, rfl, unhide o5⟩, HT⟩
def ciphU (c : ByteArray) (i : Nat) : List Int := strL (pieceB c 320 i) 10
def ciphV (c : ByteArray) : List Int := strL (c.extract 640 c.size) 4
set_option maxRecDepth 20000 in
set_option maxHeartbeats 800000 in
theorem cipherIn_any (s : ByteArray) (hs : s.size = 768) (w : World) (hL : LaidB w) :
    Calls Tryd.prog 32 #[.string s] w fun e w' => (∃ v0 v1 v, e = .returned (.tuple #[.agg #[v0, v1], v]) ∧ Own2 w' w.heap.size v0 v1 (ciphU s) ∧ OwnV w' w.heap.size 3 v ((ciphV s).map iv)) ∧ Below w.heap.size w w' := by
  have CF := hide (fun (k : Nat) (hk : k < 2) W (hB : Below w.heap.size w W) => roughPoly_any (pieceB s 320 k) 10 (by unfold pieceB; rw [ByteArray.size_extract]; omega) W (hL.below hB))
  have CV := hide (fun W (hB : Below w.heap.size w W) => roughPoly_any (s.extract 640 s.size) 4 (by rw [ByteArray.size_extract]; omega) W (hL.below hB))
  have HSl := hide (fun (k : Nat) (hk : k < 2) W => cut13 s (k * 320) ((k + 1) * 320) W (by omega) (by omega))
  have HSt : ∀ W, (Instr.slice 9 (.string s) (some (.int .i64 640)) none none).run Tryd.prog W = .ok (.string (s.extract 640 s.size)) W := fun W => cut13l s 640 W (by omega)
  have ER := hide (show ∀ i, ciphU s i = strL (pieceB s 320 i) 10 from fun i => rfl)
  have EV := hide (show ciphV s = strL (s.extract 640 s.size) 4 from rfl)
  rw [← unhide EV] at CV
  generalize ciphU s = R at *
  generalize ciphV s = V at *
  generalize s.extract 640 s.size = sl at *
  obtain ⟨P, hP⟩ : ∃ P : Nat → ByteArray, P = pieceB s 320 := ⟨_, rfl⟩
  have HSl2 := hide (show ∀ k, k < 2 → ∀ W, (Instr.slice 9 (.string s) (some (.int .i64 ((k * 320 : Nat) : Int))) (some (.int .i64 (((k + 1) * 320 : Nat) : Int))) none).run Tryd.prog W = .ok (.string (P k)) W from fun k hk W => by rw [hP]; exact unhide HSl k hk W)
  rw [← hP] at CF ER
  clear HSl hP hL EV
  have hs' : (s.size : Int) = 768 := by omega
  replace hs := hide hs
  obtain ⟨W, hW, hA, hb, hlt⟩ := one_cb w #[.slice none 0 0, .slice none 0 0] 33
  go_enter Tryd.func32, Tryd.ntmps32
  go_wp2
  clear hW
  go_loopw [5] (fun ti wr => ∃ (k : Nat) (c0 c1 : Value), k ≤ 2 ∧ ti = .int .i64 (k : Int) ∧ Hid (CB wr w.heap.size 33 #[c0, c1]) ∧ Hid (0 < k → OwnV wr w.heap.size 3 c0 ((R 0).map iv)) ∧ Hid (1 < k → OwnV wr w.heap.size 3 c1 ((R 1).map iv)) ∧ Below w.heap.size w wr) (fun ti _ => 2 - (intOf ti).toNat)
  case atStart => exact ⟨0, _, _, by omega, rfl, hide hA, hide (fun h => absurd h (by omega)), hide (fun h => absurd h (by omega)), hb⟩
  case round =>
    clear hA hb
    obtain ⟨k, c0, c1, hk, rfl, HA, H0, H1, hB⟩ := hrel
    have hsz := hB.size
    by_cases hlt2 : k < 2
    · have hk' : (k : Int) < 2 := by omega
      have hci : (0 : Int) ≤ (k : Int) := by omega
      obtain ⟨m, hm⟩ : ∃ m, m = k * 320 := ⟨_, rfl⟩
      obtain ⟨m2, hm2⟩ : ∃ m, m = (k + 1) * 320 := ⟨_, rfl⟩
      have t1 : IntKind.i64.wrap ((k : Int) * 320) = (m : Int) := by rw [IntKind.wrap_i64]; omega
      obtain ⟨k1, hk1⟩ : ∃ m, m = k + 1 := ⟨_, rfl⟩
      have t2 : IntKind.i64.wrap ((k : Int) + 1) = (k1 : Int) := by rw [IntKind.wrap_i64]; omega
      have t3 : IntKind.i64.wrap ((k1 : Int) * 320) = (m2 : Int) := by rw [IntKind.wrap_i64]; omega
      have hsl := unhide HSl2 k hlt2
      rw [← hm, ← hm2] at hsl
      have C := hide (unhide CF k hlt2 wr hB)
      rw [← unhide ER k] at C
      obtain ⟨p, hp⟩ : ∃ p, p = P k := ⟨_, rfl⟩
      rw [← hp] at hsl C
      obtain ⟨pl, hpl⟩ : ∃ l, l = R k := ⟨_, rfl⟩
      rw [← hpl] at C
      replace hm := hide hm; replace hm2 := hide hm2; replace hk1 := hide hk1; replace hp := hide hp; replace hpl := hide hpl
      clear CF HSl2 CV HSt
      go_wp2_with fail
      refine (unhide C).mono ?_
      rintro e w1 ⟨⟨v, rfl, ov⟩, hb1⟩
      have hB1 := hB.trans (hb1.mono hsz)
      have ov1 := hide (ov.low hsz)
      have hA1 := (unhide HA).step hb1
      have h01 := hide (show 0 < k → OwnV w1 w.heap.size 3 c0 ((R 0).map iv) from fun h => (unhide H0 h).below hb1)
      have hsz1 := hB1.size
      clear ov hb1 HA hB C
      have hcell : ∃ c, w1.cell? ⟨w.heap.size, k, none⟩ = some c := by
        have h2 : k = 0 ∨ k = 1 := by omega
        rcases h2 with rfl | rfl
        · exact ⟨_, hA1.cell 0 rfl⟩
        · exact ⟨_, hA1.cell 1 rfl⟩
      obtain ⟨c, hc⟩ := hcell
      have hz := hA1.frozen k
      obtain ⟨av, nv, cv, rfl⟩ : ∃ a n q, v = .slice a n q := by obtain ⟨a, q, h⟩ := (unhide ov1).shape; exact ⟨a, _, q, h⟩
      have hne : ∀ u xs, OwnV w1 w.heap.size 3 u xs → u.ownBlock ≠ some w.heap.size := fun u xs h => hA1.off h (by decide)
      have hA3 := hide (show ∃ d0 d1, CB (w1.setCell ⟨w.heap.size, k, none⟩ (.slice av nv cv)) w.heap.size 33 #[d0, d1] ∧ (0 < k + 1 → OwnV (w1.setCell ⟨w.heap.size, k, none⟩ (.slice av nv cv)) w.heap.size 3 d0 ((R 0).map iv)) ∧ (1 < k + 1 → OwnV (w1.setCell ⟨w.heap.size, k, none⟩ (.slice av nv cv)) w.heap.size 3 d1 ((R 1).map iv)) from by
        have hown := (unhide ov1).setO w.heap.size k (.slice av nv cv) (hne _ _ (unhide ov1))
        have hmap : (R k).map iv = pl.map iv := by rw [unhide hpl]
        have h3 := hA1.set k (.slice av nv cv)
        have h2 : k = 0 ∨ k = 1 := by omega
        rcases h2 with rfl | rfl
        · exact ⟨_, _, h3, fun _ => (by rw [hmap]; exact hown), fun h => absurd h (by omega)⟩
        · exact ⟨_, _, h3, fun _ => (unhide h01 (by omega)).setO w.heap.size 1 _ (hne _ _ (unhide h01 (by omega))), fun _ => (by rw [hmap]; exact hown)⟩)
      have hB3 := hide (hB1.setCell (p := ⟨w.heap.size, k, none⟩) (Nat.le_refl _) (.slice av nv cv))
      clear hsl hA1 hne h01 H0 H1 hB1 ov1
      go_wp2
      obtain ⟨d0, d1, p1, p2, p3⟩ := unhide hA3
      exact ⟨⟨k + 1, d0, d1, by omega, by first | go_num | (rw [← unhide hk1]), hide p1, hide p2, hide p3, unhide hB3⟩, by have := unhide hk1; simp [intOf]; omega⟩
    · have hk' : ¬ (k : Int) < 2 := by omega
      have hke : k = 2 := by omega
      have o0 := unhide H0 (by omega)
      have o1 := unhide H1 (by omega)
      obtain ⟨b0, m0, p0, rfl⟩ : ∃ a n q, c0 = .slice a n q := by obtain ⟨a, q, h⟩ := o0.shape; exact ⟨a, _, q, h⟩
      obtain ⟨b1, m1, p1, rfl⟩ : ∃ a n q, c1 = .slice a n q := by obtain ⟨a, q, h⟩ := o1.shape; exact ⟨a, _, q, h⟩
      have hA1 := unhide HA
      have ac0 := hA1.cell 0 rfl
      have ac1 := hA1.cell 1 rfl
      have hOw := hide (show Own2 wr w.heap.size (.slice b0 m0 p0) (.slice b1 m1 p1) R from ⟨o0, o1⟩)
      have hRr := Below.refl wr.heap.size wr
      have KS := hide (show ∀ W' : World, Below wr.heap.size wr W' → W'.cell? ⟨w.heap.size, 0, none⟩ = some (.slice b0 m0 p0) ∧ W'.cell? ⟨w.heap.size, 1, none⟩ = some (.slice b1 m1 p1) from fun W' h => ⟨(h.cell (p := ⟨w.heap.size, 0, none⟩) hA1.lt).trans ac0, (h.cell (p := ⟨w.heap.size, 1, none⟩) hA1.lt).trans ac1⟩)
      replace hke := hide hke
      replace hA1 := hide hA1
      clear HA H0 H1 CF o0 o1 HSl2
      go_wp2
      go_region_held3 (fun W' => W'.cell? ⟨w.heap.size, 0, none⟩ = some (.slice b0 m0 p0) ∧ W'.cell? ⟨w.heap.size, 1, none⟩ = some (.slice b1 m1 p1)) (first | exact ⟨ac0, ac1⟩ | exact unhide KS _ H1 | exact ⟨q0, q1⟩) (first
        | (go_at_call 21; refine (unhide CV _ (by first | exact hB.drew | exact hB)).mono ?_; rintro e w1 ⟨⟨v, rfl, ov⟩, hb1⟩; have H1 := hRr.drew.trans hb1; have hA2 := (unhide hA1).step H1; have z0 := hA2.frozen 0; have z1 := hA2.frozen 1; have hA3 := (hA2.set 0 (.slice b0 m0 p0)).set 1 (.slice b1 m1 p1); have q0 := hA3.cell 0 rfl; have q1 := hA3.cell 1 rfl))
      all_goals
        have hBx := hB.trans (H1.mono hsz)
        have hne : ∀ u xs, OwnV w1 w.heap.size 3 u xs → u.ownBlock ≠ some w.heap.size := fun u xs h => hA2.off h (by decide)
        have hB3 := hide ((hBx.setCell (p := ⟨w.heap.size, 0, none⟩) (Nat.le_refl _) (.slice b0 m0 p0)).setCell (p := ⟨w.heap.size, 1, none⟩) (Nat.le_refl _) (.slice b1 m1 p1))
        have ov1 := ov.low hsz
        have oo := (unhide hOw).below H1
        have hO3 := hide (show Own2 ((w1.setCell ⟨w.heap.size, 0, none⟩ (.slice b0 m0 p0)).setCell ⟨w.heap.size, 1, none⟩ (.slice b1 m1 p1)) w.heap.size (.slice b0 m0 p0) (.slice b1 m1 p1) R from
          ⟨(oo.1.setO _ _ _ (hne _ _ oo.1)).setO _ _ _ (hne _ _ oo.1), (oo.2.setO _ _ _ (hne _ _ oo.2)).setO _ _ _ (hne _ _ oo.2)⟩)
        have hV3 := hide ((ov1.setO w.heap.size 0 (.slice b0 m0 p0) (hne _ _ ov1)).setO w.heap.size 1 (.slice b1 m1 p1) (hne _ _ ov1))
        replace hA3 := hide hA3
        clear oo ov ov1 hne hA2 hBx H1 hb1 q0 q1 z0 z1
        go_wp2
        exact bodyPost_ret (results_arr_tmp (by exact Tryd.results32) _ _ _ _ _ _ _ rfl (unhide hA3) Tryd.underlying33 (by kernel_rfl)) rfl ⟨⟨_, _, v, rfl, unhide hO3, unhide hV3⟩, unhide hB3⟩
theorem openOk_is (s c : ByteArray) : openOk s c = (secretOkB s && decide (c.size = 768)) := by
  unfold openOk secretOkB
  cases decide (s.size = 1632) <;> cases decide (c.size = 768) <;> cases plsOk s <;> rfl
theorem openL_is (s c : ByteArray) (h : openOk s c = true) : openL s c = subL (ciphV c) (invL (sumK (rowsOf s) (fun i => nttL (ciphU c i)) 2)) := by
  unfold openL
  rw [if_pos h]
  rfl
theorem rows_len13 (s : ByteArray) (i : Nat) : (rowsOf s i).length ≤ 1048576 := by
  have h := upL13 (pieceB s 384 i) 12
  unfold rowsOf pfL
  split
  · omega
  · show 0 ≤ _; omega
theorem ciph_len13 (s : ByteArray) (d : Int) : (strL s d).length ≤ 1048576 := by
  have h := upL13 s d
  unfold strL
  rw [List.length_map]
  omega
theorem cap2 {w : World} {base : Nat} {a0 : Option Addr} {n0 q0 : Nat} {a1 : Option Addr} {n1 q1 : Nat} {A : Nat → List Int} (h : Own2 w base (.slice a0 n0 q0) (.slice a1 n1 q1) A) : n0 ≤ q0 ∧ n1 ≤ q1 := ⟨h.1.capv _ _ _ rfl, h.2.capv _ _ _ rfl⟩
theorem valC_lt13 (l : List Nat) (h : ∀ x ∈ l, x < 256) : valC 256 l < 256 ^ l.length := by
  induction l with
  | nil => exact Nat.one_pos
  | cons x l ih =>
    have h1 := h x (List.mem_cons_self ..)
    have h2 := ih fun y hy => h y (List.mem_cons_of_mem _ hy)
    show x + 256 * valC 256 l < 256 ^ (l.length + 1)
    rw [Nat.pow_succ]
    omega
theorem bit13 (N q r : Nat) (hr : r < 8) : N / 2 ^ (8 * q + r) % 2 = (N / 256 ^ q % 256) / 2 ^ r % 2 := by
  have h1 : (256 : Nat) ^ q = 2 ^ (8 * q) := by rw [Nat.pow_mul]
  rw [Nat.pow_add, ← Nat.div_div_eq_div_mul, h1]
  generalize N / 2 ^ (8 * q) = M
  have h2 : 256 = 2 ^ r * (2 * 2 ^ (7 - r)) := by
    rw [← Nat.pow_succ', ← Nat.pow_add, show r + (7 - r + 1) = 8 by omega]
  have h3 : M % 256 / 2 ^ r = M / 2 ^ r % (2 * 2 ^ (7 - r)) := by
    conv => lhs; rw [h2]
    rw [Nat.mod_mul_right_div_self]
  rw [h3, Nat.mod_mul_right_mod]
theorem bitsL_str (m : ByteArray) (hm : m.size = 32) : bitsL m = strL m 1 := by
  have hlt : valC 256 (bysN m) < 256 ^ 32 := by
    have h := valC_lt13 (bysN m) (bysN_lt m)
    rw [bysN_len, hm] at h
    exact h
  have hok : upOk m 1 256 = true := by
    unfold upOk
    have e : (decide (valC 256 (bysN m) / 2 ^ ((1 : Int).toNat * (256 : Int).toNat) = 0)) = true := by
      refine decide_eq_true ?_
      show valC 256 (bysN m) / 2 ^ (1 * 256) = 0
      rw [Nat.one_mul]
      refine Nat.div_eq_of_lt ?_
      rw [show (2 : Nat) ^ 256 = 256 ^ 32 by rw [show (256 : Nat) ^ 32 = (2 ^ 8) ^ 32 from rfl, ← Nat.pow_mul]]
      exact hlt
    rw [e, hm]
    rfl
  unfold strL upL
  rw [if_pos hok, List.map_map]
  show bitsL m = (dig (2 ^ 1) 256 (valC 256 (bysN m))).map _
  unfold bitsL mk256
  apply List.ext_getElem?
  intro i
  by_cases hi : i < 256
  · rw [List.getElem?_map, List.getElem?_range hi, List.getElem?_map, dig_at _ _ _ _ hi]
    show some (strZ (bitB m i) 1) = some (strZ ((valC 256 (bysN m) / (2 ^ 1) ^ i % 2 ^ 1 : Nat) : Int) 1)
    have hb : valC 256 (bysN m) / (2 ^ 1) ^ i % 2 ^ 1 = bitB m i := by
      rw [Nat.pow_one]
      conv => lhs; rw [show i = 8 * (i / 8) + i % 8 by omega]
      rw [bit13 _ _ _ (by omega)]
      unfold bitB
      have hq : i / 8 < (bysN m).length := by rw [bysN_len]; omega
      have h2 := dig_at 256 (bysN m).length (valC 256 (bysN m)) (i / 8) hq
      rw [dig_valC 256 (bysN m) (by decide) (bysN_lt m)] at h2
      have h3 : (bysN m)[i / 8]? = some (m.data.getD (i / 8) 0).toNat := by
        unfold bysN
        rw [List.getElem?_map, Array.getElem?_toList]
        have hs : i / 8 < m.data.size := by show i / 8 < m.size; omega
        rw [Array.getElem?_eq_getElem hs]
        show some _ = some _
        rw [Array.getD_eq_getD_getElem?, Array.getElem?_eq_getElem hs]
        rfl
      rw [h3] at h2
      rw [← Option.some.inj h2]
    rw [hb]
  · rw [List.getElem?_eq_none (by rw [List.length_map, List.length_range]; omega), List.getElem?_eq_none (by rw [List.length_map, dig_len]; omega)]
set_option maxRecDepth 20000 in
set_option maxHeartbeats 1600000 in
theorem uncovered_any (s c : ByteArray) (hs : s.size ≤ 1048576) (w : World) (hL : LaidB w) :
    Calls Tryd.prog 16 #[.string s, .string c] w fun e w' => (∃ v, e = .returned (.tuple #[v, .bool (openOk s c)]) ∧ OwnV w' w.heap.size 3 v ((openL s c).map iv)) ∧ Below w.heap.size w w' := by
  have CS := hide (secretIn_any s hs w hL)
  have EN := hide (show openOk s c = false → openL s c = [] from fun h => by unfold openL; rw [h]; rfl)
  cases hso : secretOkB s with
  | false =>
    have EO := hide (show openOk s c = false by rw [openOk_is, hso]; rfl)
    rw [unhide EO, unhide EN (unhide EO)]
    rw [hso] at CS
    generalize rowsOf s = R at *
    generalize s.extract 768 1568 = x1 at *
    generalize s.extract 1600 1632 = x2 at *
    clear hso hs hL
    go_enter Tryd.func16, Tryd.ntmps16
    go_wp2_with fail
    refine (unhide CS).mono ?_
    rintro e w1 ⟨⟨a0, n0, q0, a1, n1, q1, r, r2, rfl, hq⟩, hb1⟩
    clear hq
    have hb2 := hb1.alloc hb1.size (.cells #[.slice a0 n0 q0, .slice a1 n1 q1, .string r, .string r2] 54)
    clear CS
    go_wp2
    refine bodyPost_ret (v := .tuple #[.slice none 0 0, .bool false]) (by simp [results, Tryd.results16, go_sem]) rfl ⟨⟨_, rfl, OwnV.nil _ _ _⟩, hb2⟩
  | true =>
    rw [hso] at CS
    by_cases hc : c.size = 768
    · have EO := hide (show openOk s c = true by rw [openOk_is, hso, hc]; rfl)
      have EL := hide (openL_is s c (unhide EO))
      have CC := hide (fun W (h : Below w.heap.size w W) => cipherIn_any c hc W (hL.below h))
      have CT := hide (fun a0 n0 q0 a1 n1 q1 W r => transformed_any (ciphU c) (fun i _ => ciph_len13 _ _) a0 n0 q0 a1 n1 q1 W r)
      have CV := hide (fun a0 n0 q0 a1 n1 q1 x y b0 m0 p0 b1 m1 p1 W ra rb ka kb => coverSec_any (rowsOf s) (fun i => nttL (ciphU c i)) (fun i _ => rows_len13 s i) (fun i _ => by have := nttL_len13 (ciphU c i); omega) a0 n0 q0 a1 n1 q1 x y b0 m0 p0 b1 m1 p1 W ra rb ka kb)
      have CP := hide (fun u v W r1 r2 => implPolySub_any (ciphV c) (invL (sumK (rowsOf s) (fun i => nttL (ciphU c i)) 2)) u v (ciph_len13 _ _) (by have := invL_len13 (sumK (rowsOf s) (fun i => nttL (ciphU c i)) 2); omega) W r1 r2)
      rw [← unhide EL] at CP
      have hc' : (c.size : Int) = 768 := by omega
      rw [unhide EO]
      generalize openL s c = L at *
      generalize rowsOf s = R at *
      generalize s.extract 768 1568 = x1 at *
      generalize s.extract 1600 1632 = x2 at *
      generalize (fun i => nttL (ciphU c i)) = N at *
      generalize invL (sumK R N 2) = I at *
      generalize ciphU c = U at *
      generalize ciphV c = V at *
      clear hso hs hL EL EO EN
      replace hc := hide hc
      go_enter Tryd.func16, Tryd.ntmps16
      go_wp2_with fail
      refine (unhide CS).mono ?_
      rintro e w1 ⟨⟨a0, n0, q0, a1, n1, q1, r, r2, rfl, h1⟩, hb1⟩
      obtain ⟨e1, e2, o1⟩ := h1 (by trivial)
      clear e1 e2
      have hsz1 := hb1.size
      obtain ⟨w2, hw2, hC2, hb2, hlt2⟩ := one_cb w1 #[.slice a0 n0 q0, .slice a1 n1 q1, .string r, .string r2] 54
      have B2 := hb1.trans (hb2.mono hsz1)
      have o2 := hide (o1.below hb2)
      have C := hide (unhide CC w2 B2)
      clear h1 o1 CS CC
      replace hC2 := hide hC2
      go_wp2_with fail
      refine (unhide C).mono ?_
      rintro e w3 ⟨⟨v0, v1, v, rfl, o3, ov⟩, hb3⟩
      clear C hw2
      have B3 := B2.trans (hb3.mono B2.size)
      have hC3 := hide ((unhide hC2).step hb3)
      have o2' := hide ((unhide o2).below hb3)
      obtain ⟨b0, m0, p0, b1, m1, p1, rfl, rfl⟩ := o3.shape
      have o3' := o3.low B2.size
      have ov' := ov.low B2.size
      have hsz3 := B3.size
      obtain ⟨w4, hw4, hC4, hb4, hlt4⟩ := one_cb w3 #[.slice b0 m0 p0, .slice b1 m1 p1] 33
      have B4 := B3.trans (hb4.mono hsz3)
      have rU := hide (o3'.rd.below hb4)
      have rV := hide (ov'.rdv.below hb4)
      have oR := hide ((unhide o2').below hb4)
      have hD4 := (unhide hC3).step hb4
      have d0 := hD4.cell 0 rfl
      have d1 := hD4.cell 1 rfl
      have d2 := hD4.cell 2 rfl
      have d3 := hD4.cell 3 rfl
      have e0 := hC4.cell 0 rfl
      have e1 := hC4.cell 1 rfl
      have KS := hide (show ∀ W' : World, Below w4.heap.size w4 W' → (W'.cell? ⟨w1.heap.size, 0, none⟩ = some (.slice a0 n0 q0) ∧ W'.cell? ⟨w1.heap.size, 1, none⟩ = some (.slice a1 n1 q1) ∧ W'.cell? ⟨w1.heap.size, 2, none⟩ = some (.string r) ∧ W'.cell? ⟨w1.heap.size, 3, none⟩ = some (.string r2)) ∧ W'.cell? ⟨w3.heap.size, 0, none⟩ = some (.slice b0 m0 p0) ∧ W'.cell? ⟨w3.heap.size, 1, none⟩ = some (.slice b1 m1 p1) from fun W' h =>
        ⟨⟨(h.cell (p := ⟨w1.heap.size, 0, none⟩) hD4.lt).trans d0, (h.cell (p := ⟨w1.heap.size, 1, none⟩) hD4.lt).trans d1, (h.cell (p := ⟨w1.heap.size, 2, none⟩) hD4.lt).trans d2, (h.cell (p := ⟨w1.heap.size, 3, none⟩) hD4.lt).trans d3⟩, (h.cell (p := ⟨w3.heap.size, 0, none⟩) hlt4).trans e0, (h.cell (p := ⟨w3.heap.size, 1, none⟩) hlt4).trans e1⟩)
      have hR4 := Below.refl w4.heap.size w4
      have kR := cap2 (unhide oR)
      clear o3 o3' ov ov' o2 o2' hC2 hC3 hC4 hD4 hb1 hb2 hb3 hb4 B2 B3
      go_wp2
      clear hw4
      go_region_held3 (fun W' => (W'.cell? ⟨w1.heap.size, 0, none⟩ = some (.slice a0 n0 q0) ∧ W'.cell? ⟨w1.heap.size, 1, none⟩ = some (.slice a1 n1 q1) ∧ W'.cell? ⟨w1.heap.size, 2, none⟩ = some (.string r) ∧ W'.cell? ⟨w1.heap.size, 3, none⟩ = some (.string r2)) ∧ W'.cell? ⟨w3.heap.size, 0, none⟩ = some (.slice b0 m0 p0) ∧ W'.cell? ⟨w3.heap.size, 1, none⟩ = some (.slice b1 m1 p1)) (first | exact ⟨⟨d0, d1, d2, d3⟩, e0, e1⟩ | exact unhide KS _ H3 | exact unhide KS _ H2 | exact unhide KS _ H1) (first
        | (go_at_call 35; refine (unhide CT _ _ _ _ _ _ _ (by exact unhide rU)).mono ?_; rintro e w5 ⟨⟨f0, f1, rfl, o5⟩, hb5⟩; have H1 := hR4.drew.trans hb5; obtain ⟨x0, y0, z0, x1', y1, z1, rfl, rfl⟩ := o5.shape; have k5 := cap2 o5)
        | (go_at_call 34; refine (unhide CV _ _ _ _ _ _ _ _ _ _ _ _ _ _ _ (by exact ((unhide oR).below H1).rd) (by exact o5.rd) kR k5).mono ?_; rintro e w6 ⟨⟨v6, rfl, o6⟩, hb6⟩; have H2 := H1.trans (hb6.mono H1.size))
        | (go_at_call 33; refine (unhide CP _ _ _ (by exact (unhide rV).below H2) (by exact o6.rdv)).mono ?_; rintro e w7 ⟨⟨v7, rfl, o7⟩, hb7⟩; have H3 := H2.trans (hb7.mono H2.size); have o8 := o7.low H2.size))
      all_goals
        have HT := B4.trans (H3.mono B4.size)
        have o9 := hide (o8.low B4.size)
        clear o5 o6 o7 o8 H1 H2 H3 hb5 hb6 hb7
        go_wp2
        refine bodyPost_ret (v := .tuple #[v7, .bool true]) (by simp [results, Tryd.results16, go_sem]) rfl ⟨⟨_, rfl, unhide o9⟩, HT⟩
    · have EO := hide (show openOk s c = false by rw [openOk_is, decide_eq_false hc, Bool.and_false])
      rw [unhide EO, unhide EN (unhide EO)]
      have hc' : ¬ (c.size : Int) = 768 := by omega
      have hc2 : ((c.size : Int) != 768) = true := by rw [bne_iff_ne]; exact hc'
      generalize rowsOf s = R at *
      generalize s.extract 768 1568 = x1 at *
      generalize s.extract 1600 1632 = x2 at *
      clear hso hs hL
      go_enter Tryd.func16, Tryd.ntmps16
      go_wp2_with fail
      refine (unhide CS).mono ?_
      rintro e w1 ⟨⟨a0, n0, q0, a1, n1, q1, r, r2, rfl, hq⟩, hb1⟩
      clear hq
      have hb2 := hb1.alloc hb1.size (.cells #[.slice a0 n0 q0, .slice a1 n1 q1, .string r, .string r2] 54)
      clear CS
      go_wp2
      refine bodyPost_ret (v := .tuple #[.slice none 0 0, .bool false]) (by simp [results, Tryd.results16, go_sem]) rfl ⟨⟨_, rfl, OwnV.nil _ _ _⟩, hb2⟩
set_option maxRecDepth 20000 in
theorem implDecrypt_any (s c : ByteArray) (hs : s.size ≤ 1048576) (w : World) (hL : LaidB w) :
    Calls Tryd.prog 9 #[.string s, .string c] w fun e w' => e = .returned (.tuple #[.string (decB s c), .bool (openOk s c)]) ∧ Below w.heap.size w w' := by
  have CO := hide (uncovered_any s c hs w hL)
  have CQ := hide (fun u W (h : Below w.heap.size w W) r => roughText_any (openL s c) 1 u (openL_len s c) W (hL.below h) r)
  cases ho : openOk s c with
  | false =>
    have E := hide (show decB s c = ⟨#[]⟩ by unfold decB; rw [ho]; rfl)
    rw [unhide E]
    rw [ho] at CO
    generalize openL s c = l at *
    clear ho CQ hs hL
    go_enter Tryd.func9, Tryd.ntmps9
    go_wp2_with fail
    refine (unhide CO).mono ?_
    rintro e w1 ⟨⟨v, rfl, ov⟩, hb1⟩
    clear ov CO
    go_wp2
    refine bodyPost_ret (v := .tuple #[.string ⟨#[]⟩, .bool false]) (by simp [results, Tryd.results9, go_sem]) rfl ⟨rfl, hb1⟩
  | true =>
    have E := hide (show decB s c = sqzB (openL s c) 1 by unfold decB; rw [if_pos ho])
    rw [unhide E]
    rw [ho] at CO
    generalize sqzB (openL s c) 1 = q at *
    generalize openL s c = l at *
    clear ho E hs hL
    go_enter Tryd.func9, Tryd.ntmps9
    go_wp2_with fail
    refine (unhide CO).mono ?_
    rintro e w1 ⟨⟨v, rfl, ov⟩, hb1⟩
    have rv := ov.rdv
    clear ov CO
    go_wp2_with fail
    refine (unhide CQ v w1 hb1 rv).mono ?_
    rintro e w2 ⟨rfl, hb2⟩
    have hT := hb1.trans (hb2.mono hb1.size)
    clear CQ rv
    go_wp2
    refine bodyPost_ret (v := .tuple #[.string q, .bool true]) (by simp [results, Tryd.results9, go_sem]) rfl ⟨rfl, hT⟩
set_option maxRecDepth 20000 in
theorem implErrorOf_any (s m c : ByteArray) (hs : s.size ≤ 1048576) (w : World) (hL : LaidB w) :
    Calls Tryd.prog 11 #[.string s, .string m, .string c] w fun e w' => e = .returned (.int .i64 (errZ s m c)) ∧ Below w.heap.size w w' := by
  have CO := hide (uncovered_any s c hs w hL)
  cases ho : openOk s c with
  | false =>
    have E := hide (show errZ s m c = -1 by unfold errZ; rw [if_neg (fun h => by rw [ho] at h; cases h.1)])
    rw [unhide E]
    rw [ho] at CO
    generalize openL s c = l at *
    clear ho hs hL
    go_enter Tryd.func11, Tryd.ntmps11
    go_wp2_with fail
    refine (unhide CO).mono ?_
    rintro e w1 ⟨⟨v, rfl, ov⟩, hb1⟩
    clear ov CO
    go_wp2
    go_ret
    exact ⟨rfl, hb1⟩
  | true =>
    rw [ho] at CO
    by_cases hm : m.size = 32
    · have E := hide (show errZ s m c = farL (openL s c) (strL m 1) by unfold errZ; rw [if_pos ⟨ho, hm⟩, bitsL_str m hm])
      rw [unhide E]
      have CB := hide (fun W (h : Below w.heap.size w W) => roughPoly_any m 1 (by omega) W (hL.below h))
      have CF := hide (fun u v W r1 r2 => implFar_any (openL s c) (strL m 1) u v (openL_len s c) (ciph_len13 _ _) W r1 r2)
      generalize farL (openL s c) (strL m 1) = z at *
      generalize openL s c = l at *
      generalize strL m 1 = bl at *
      have hm' : (m.size : Int) = 32 := by omega
      clear ho E hs hL
      replace hm := hide hm
      go_enter Tryd.func11, Tryd.ntmps11
      go_wp2_with fail
      refine (unhide CO).mono ?_
      rintro e w1 ⟨⟨v, rfl, ov⟩, hb1⟩
      have rv := hide ov.rdv
      clear ov CO
      go_wp2_with fail
      refine (unhide CB w1 hb1).mono ?_
      rintro e w2 ⟨⟨vb, rfl, ob⟩, hb2⟩
      have rb := hide ob.rdv
      have rv2 := hide ((unhide rv).below hb2)
      have hT2 := hb1.trans (hb2.mono hb1.size)
      clear ob CB rv hb1 hb2
      go_wp2_with fail
      refine (unhide CF v vb w2 (unhide rv2) (unhide rb)).mono ?_
      rintro e w3 ⟨rfl, hb3⟩
      have hT3 := hT2.trans (hb3.mono hT2.size)
      clear CF rv2 rb hb3 hT2
      go_wp2
      go_ret
      exact ⟨rfl, hT3⟩
    · have E := hide (show errZ s m c = -1 by unfold errZ; rw [if_neg (fun h => hm h.2)])
      rw [unhide E]
      have hm' : ¬ (m.size : Int) = 32 := by omega
      have hm2 : ((m.size : Int) != 32) = true := by rw [bne_iff_ne]; exact hm'
      generalize openL s c = l at *
      clear ho hs hL
      go_enter Tryd.func11, Tryd.ntmps11
      go_wp2_with fail
      refine (unhide CO).mono ?_
      rintro e w1 ⟨⟨v, rfl, ov⟩, hb1⟩
      clear ov CO
      go_wp2
      go_ret
      exact ⟨rfl, hb1⟩
end Go.Proofs.YthjgmpfdjhegfasDoor

/- The laws of a secret handed over that start nothing, and what the project answers there. -/

/- A call that starts nothing, where its row says 'leaving': the lone contract serves; a tied card of a program that has a go statement. -/
namespace Go.Proofs.YthjgmpfdjhegfasDoor
theorem leaving_of_handed {a : Assume} {C : Checked} {os : Os} {f : FuncId} {r : Reach} {Pre : World → Array Value → Prop} {Post : World → Array Value → Value → World → Prop} (h : ReturnsInHanded a C os f r Pre Post) : ReturnsInLeavingWide a C os f r Pre Post :=
  fun enter => ReturnsInOpen.mono (fun _ _ _ x => ⟨x.2.1, onlyLeaving_of_quiet x.1, x.2.2⟩) (fun _ x => x) (h enter)
theorem tied_goes (Lk : Looks) {p : Pinned} {s : OpenSpec} {c : OpenClaim} (kinds : List LaidKind) (tests : Bool) (har : Bool × String) (lk : Bool) (hc : c.holds p s) (hw : c.wfByText s = true) (htie : c.laidByTextAt Lk p kinds tests)
    (hst : c.start = .entering) (hnb : c.noBlocks = false ∧ c.again = false) (hm : p.checked.prog.mainIs = some (har.1, har.2.toList)) (hn : (!har.1 && har.2.isEmpty && !lk) = false)
    (hl : ∀ f fn, p.checked.prog.funcNamed c.func = some f → p.checked.prog.funcs[f]? = some fn → lk = p.checked.prog.looks [] ∧ ∀ (j : Nat) t, fn.params[j]? = some t → p.checked.prog.wantsStandIn t = false) (hg : true = c.goesBy p.checked.prog) :
    Claim7.holds p (.plain s) { stood := { row := c, standIns := [], harness := har, looks := lk }, kinds := [], alts := [], goes := true, laidByText := true, laidKinds := kinds, laidTests := tests, laidLooks := Lk } := by
  have h6 : Claim7.isSixth { stood := { row := c, standIns := [], harness := har, looks := lk }, kinds := [] } = false := by simpa [Claim7.isSixth] using hn
  exact ⟨Claim7.tied_new_at Lk kinds tests (Claim7.new_of_sixth hc har lk hst hnb hm h6 hl) hw, fun D hD => absurd hD (by simp), htie, (fun h => by cases h), hg⟩
end Go.Proofs.YthjgmpfdjhegfasDoor

