/- Drawn polynomials, by contracts, over the loaded program. -/
import Derived.Test.YtkiocjbooegajadPly1
import Derived.Test.YtkiocjbooegajadDrawT
namespace Go.Proofs.Ytkiocjbooegajad
open Go.RowKit
theorem gTB9 {w w1 w2 : World} {r : Option Nat} (h : w.grownBy w1 r) (hb : Below w.heap.size w1 w2) : w.grownBy w2 r :=
  ⟨by rw [hb.os, h.os], by rw [hb.tape, h.tape], by rw [hb.output, h.output], Nat.le_trans h.size hb.size, fun j hj hr => by rw [hb.block j hj, h.block j hj hr]⟩
theorem gO9 {g : Nat} {w w' : World} (h : Only g w w') : w.grownBy w' (some g) := ⟨h.os, h.tape, h.output, by rw [h.size]; exact Nat.le_refl _, fun k _ hk => h.block k (fun e => hk (by rw [e]))⟩
def rngL (l : List Int) : Prop := ∀ x ∈ l, 0 ≤ x ∧ x ≤ 3328
theorem rngL_add {l : List Int} (h : rngL l) {x : Int} (hx : 0 ≤ x ∧ x ≤ 3328) : rngL (l ++ [x]) := by
  intro y hy
  rw [List.mem_append] at hy
  rcases hy with h1 | h1
  · exact h y h1
  · rw [List.mem_singleton] at h1; rw [h1]; exact hx
theorem rngL_set {l : List Int} (h : rngL l) (k : Nat) {x : Int} (hx : 0 ≤ x ∧ x ≤ 3328) : rngL (l.set k x) := by
  intro y hy
  rcases List.mem_or_eq_of_mem_set hy with h1 | h1
  · exact h y h1
  · rw [h1]; exact hx
theorem okPl_rng {l : List Int} (hl : l.length = 256) (h : rngL l) : okPl l = true :=
  okPl_of hl fun i hi => by rw [cAt_lt (by omega)]; exact h _ (List.getElem_mem _)
theorem map_add_iv (l : List Int) (x : Int) : l.map iv ++ [.int .i64 x] = (l ++ [x]).map iv := by rw [List.map_append]; rfl
theorem OwnV.some9 {w : World} {base n c : Nat} {a : Option Addr} {e : TypeId} {xs : List Value} (h : OwnV w base e (.slice a n c) xs) (hn : 0 < n) : ∃ g, a = some ⟨g, 0, none⟩ ∧ base ≤ g ∧ g < w.heap.size := by
  rcases h.2 with ⟨h1, _⟩ | ⟨g, cap, cur, h1, hb, h2, _⟩
  · simp only [Value.slice.injEq] at h1; omega
  · simp only [Value.slice.injEq] at h1
    refine ⟨g, h1.1, hb, ?_⟩
    rcases Nat.lt_or_ge g w.heap.size with h3 | h3
    · exact h3
    · rw [Array.getElem?_eq_none h3] at h2; cases h2
set_option maxRecDepth 20000 in
set_option maxHeartbeats 800000 in
theorem l09Poly_any {w : World} {base g n c : Nat} {o : Option Addr} (h : Cur w base g o n c) (hn : n ≤ 1048576) :
    Calls Try.prog 16 #[.pointer (some ⟨g, 0, none⟩)] w fun e w' => (∃ l v, okPl l = true ∧ e = .returned v ∧ OwnV w' w.heap.size 3 v (l.map iv)) ∧ w.grownBy w' (some g) ∧ Cur w' base g o n c := by
  obtain ⟨i0, hi, hz0, hz1, hz2⟩ := info_parts infoInt
  have hgl := h.lt
  have HC := hide h
  clear h
  go_enter Try.func16, Try.ntmps16
  go_wp2_with fail
  have hb1 : Below w.heap.size w (w.alloc (.cells #[] 3)) := (Below.refl _ _).alloc (Nat.le_refl _) _
  have hO1 : OwnV (w.alloc (.cells #[] 3)) w.heap.size 3 (.slice (some ⟨w.heap.size, 0, none⟩) 0 0) (([] : List Int).map iv) := World.ownsRow_made w #[] 0 (Nat.le_refl _) (by decide) (by simp)
  have HC1 := (unhide HC).below hb1 hgl
  have hG1 := gB hb1 (some g)
  have hl1 : w.heap.size < (w.alloc (.cells #[] 3)).heap.size := by simp
  generalize w.alloc (.cells #[] 3) = w1 at *
  clear hb1 HC
  refine (l01Below_any HC1 hn 4 (by omega) (by omega)).mono ?_
  rintro e w2 ⟨kd, hkd, rfl, ho2, hc2⟩
  have hO2 := hO1.only ho2 hgl
  have hG2 := gT hG1 (gO9 ho2)
  clear hO1 hG1 HC1 ho2
  go_wp2_with fail
  refine (l01Below_any hc2 hn 3329 (by omega) (by omega)).mono ?_
  rintro e w3 ⟨x0, hx0, rfl, ho3, hc3⟩
  have hO3 := hO2.only ho3 hgl
  have hG3 := gT hG2 (gO9 ho3)
  clear hO2 hG2 hc2 ho3
  go_wp2_with fail
  refine (l01Below_any hc3 hn 3328 (by omega) (by omega)).mono ?_
  rintro e w4 ⟨sp, hsp, rfl, ho4, hc4⟩
  have hO4 := hO3.only ho4 hgl
  have hG4 := gT hG3 (gO9 ho4)
  clear hO3 hG3 hc3 ho4
  obtain ⟨st, hst⟩ : ∃ st : Nat, st = 1 + sp := ⟨_, rfl⟩
  have ws : IntKind.i64.wrap (1 + (sp : Int)) = (st : Int) := by rw [IntKind.wrap_i64]; omega
  have hstb : st ≤ 3328 := by omega
  replace hst := hide hst
  replace hO4 := hide hO4; replace hG4 := hide hG4; replace hc4 := hide hc4
  go_wp2
  go_loopw [3, 5, 7] (fun tv tx ti wr => ∃ (k x : Nat) (l : List Int), k ≤ 256 ∧ x ≤ 3328 ∧ ti = .int .i64 (k : Int) ∧ tx = .int .i64 (x : Int) ∧ l.length = k ∧ rngL l ∧ Hid (OwnV wr w.heap.size 3 tv (l.map iv)) ∧ Hid (w.grownBy wr (some g)) ∧ Hid (Cur wr base g o n c)) (fun _ _ ti _ => 256 - (intOf ti).toNat)
  case atStart => exact ⟨0, x0, [], by omega, by omega, rfl, rfl, rfl, (fun y hy => by cases hy), hO4, hG4, hc4⟩
  case round =>
    clear hO4 hG4 hc4
    obtain ⟨k, x, l, hk, hx, rfl, rfl, hll, hrg, HO, HG, HC⟩ := hrel
    by_cases hlt : k < 256
    · have hk' : (k : Int) < 256 := by omega
      have hsz := (unhide HG).size
      have hl1 : (l.map iv).length + 1 ≤ maxLen := by rw [List.length_map, hll]; unfold maxLen; omega
      have hl2 : ((l.map iv).length + 1) * 8 ≤ 140737488355328 := by rw [List.length_map, hll]; omega
      have hbr := Below.refl w.heap.size wr
      replace hl1 := hide hl1; replace hl2 := hide hl2; replace hll := hide hll; replace hrg := hide hrg
      by_cases k0 : kd = 0
      · have z0 : ((kd : Int) == 0) = true := by rw [k0]; rfl
        replace k0 := hide k0
        go_wp2_with (at_builtin; refine wpList_append_vals (w := wr) rfl (.tmp 33) (.tmp 34) 24 rfl w.heap.size w.heap.size 3 i0 (.int .i64 0) 8 Try.underlying24 hi hz0 hz1 hz2 rfl u3 (l.map iv) rfl (unhide HO) #[.int .i64 0] [.int .i64 0] rfl (by intro u hu; simp only [List.mem_singleton] at hu; subst hu; rfl) 1 1 rfl rfl (unhide hl1) (unhide hl2) (Nat.le_refl _) hsz hbr ?_; intro v' w5 hown5 hb5)
        rw [map_add_iv] at hown5
        have hc5 := hide ((unhide HC).below hb5 hgl)
        have hG5 := hide (gTB9 (unhide HG) hb5)
        replace hown5 := hide hown5
        clear HO HG HC hb5
        go_wp2
        exact ⟨⟨k + 1, x, l ++ [0], by omega, hx, by go_num, by first | rfl | trivial, by rw [List.length_append, unhide hll]; rfl, rngL_add (unhide hrg) (by decide), hown5, hG5, hc5⟩, by simp [intOf]; omega⟩
      · by_cases k1 : kd = 1
        · have z0 : ((kd : Int) == 0) = false := by rw [k1]; rfl
          have z1 : ((kd : Int) == 1) = true := by rw [k1]; rfl
          replace k1 := hide k1
          replace k0 := hide k0
          go_wp2_with (at_builtin; refine wpList_append_vals (w := wr) rfl (.tmp 38) (.tmp 39) 24 rfl w.heap.size w.heap.size 3 i0 (.int .i64 0) 8 Try.underlying24 hi hz0 hz1 hz2 rfl u3 (l.map iv) rfl (unhide HO) #[.int .i64 3328] [.int .i64 3328] rfl (by intro u hu; simp only [List.mem_singleton] at hu; subst hu; rfl) 1 1 rfl rfl (unhide hl1) (unhide hl2) (Nat.le_refl _) hsz hbr ?_; intro v' w5 hown5 hb5)
          rw [map_add_iv] at hown5
          have hc5 := hide ((unhide HC).below hb5 hgl)
          have hG5 := hide (gTB9 (unhide HG) hb5)
          replace hown5 := hide hown5
          clear HO HG HC hb5
          go_wp2
          exact ⟨⟨k + 1, x, l ++ [3328], by omega, hx, by go_num, by first | rfl | trivial, by rw [List.length_append, unhide hll]; rfl, rngL_add (unhide hrg) (by decide), hown5, hG5, hc5⟩, by simp [intOf]; omega⟩
        · have z0 : ¬ (kd : Int) = 0 := by omega
          have z1 : ¬ (kd : Int) = 1 := by omega
          obtain ⟨t1, ht1⟩ : ∃ t : Nat, t = x * 17 := ⟨_, rfl⟩
          obtain ⟨t2, ht2⟩ : ∃ t : Nat, t = t1 + st := ⟨_, rfl⟩
          obtain ⟨y, hy⟩ : ∃ t : Nat, t = t2 % 3329 := ⟨_, rfl⟩
          have v1 : IntKind.i64.wrap ((x : Int) * 17) = (t1 : Int) := by rw [IntKind.wrap_i64]; omega
          have v2 : IntKind.i64.wrap ((t1 : Int) + (st : Int)) = (t2 : Int) := by rw [IntKind.wrap_i64]; omega
          have v3 : (t2 : Int).tmod 3329 = (y : Int) := by rw [Int.tmod_eq_emod_of_nonneg (by omega)]; omega
          have v3' : (t2 : Int) % 3329 = (y : Int) := by omega
          have v4 : IntKind.i64.wrap (y : Int) = (y : Int) := by rw [IntKind.wrap_i64]; omega
          have hyb : y ≤ 3328 := by omega
          replace ht1 := hide ht1; replace ht2 := hide ht2; replace hy := hide hy
          go_wp2_with (at_builtin; refine wpList_append_vals (w := wr) rfl (.tmp 27) (.tmp 29) 24 rfl w.heap.size w.heap.size 3 i0 (.int .i64 0) 8 Try.underlying24 hi hz0 hz1 hz2 rfl u3 (l.map iv) rfl (unhide HO) #[.int .i64 (y : Int)] [.int .i64 (y : Int)] rfl (by intro u hu; simp only [List.mem_singleton] at hu; subst hu; rfl) 1 1 rfl rfl (unhide hl1) (unhide hl2) (Nat.le_refl _) hsz hbr ?_; intro v' w5 hown5 hb5)
          rw [map_add_iv] at hown5
          have hc5 := hide ((unhide HC).below hb5 hgl)
          have hG5 := hide (gTB9 (unhide HG) hb5)
          replace hown5 := hide hown5
          clear HO HG HC hb5
          go_wp2
          exact ⟨⟨k + 1, y, l ++ [(y : Int)], by omega, hyb, by go_num, by first | rfl | trivial, by rw [List.length_append, unhide hll]; rfl, rngL_add (unhide hrg) (by omega), hown5, hG5, hc5⟩, by simp [intOf]; omega⟩
    · have hk' : ¬ (k : Int) < 256 := by omega
      have hl256 : l.length = 256 := by omega
      obtain ⟨av, cv, hav⟩ := (unhide HO).shape
      rw [List.length_map, hl256] at hav
      subst hav
      obtain ⟨gg, rfl, hgb, hgg⟩ := (unhide HO).some9 (by omega)
      replace hrg := hide hrg
      go_wp2
      go_loopw [8] (fun ti wq => ∃ (k : Nat) (m : List Int), k ≤ 6 ∧ ti = .int .i64 (k : Int) ∧ m.length = 256 ∧ rngL m ∧ Hid (OwnV wq w.heap.size 3 (.slice (some ⟨gg, 0, none⟩) 256 cv) (m.map iv)) ∧ Hid (w.grownBy wq (some g)) ∧ Hid (Cur wq base g o n c)) (fun ti _ => 7 - (intOf ti).toNat)
      case atStart => exact ⟨0, l, by omega, rfl, hl256, unhide hrg, HO, HG, HC⟩
      case round =>
        clear HO HG HC
        obtain ⟨k2, m, hk2, rfl, hml, hrm, HO, HG, HC⟩ := hrel
        go_wp2_with fail
        refine (l01Below_any (unhide HC) hn 6 (by omega) (by omega)).mono ?_
        rintro e w5 ⟨y, hy, rfl, ho5, hc5⟩
        have hO5 := (unhide HO).only ho5 hgl
        have hG5 := gT (unhide HG) (gO9 ho5)
        clear HO HG HC ho5
        by_cases hky : k2 < y
        · have hky' : (k2 : Int) < (y : Int) := by omega
          go_wp2_with fail
          refine (l01Below_any hc5 hn 256 (by omega) (by omega)).mono ?_
          rintro e w6 ⟨p, hp, rfl, ho6, hc6⟩
          have hO6 := hO5.only ho6 hgl
          have hG6 := gT hG5 (gO9 ho6)
          clear hO5 hG5 hc5 ho6
          go_wp2_with fail
          refine (l01Below_any hc6 hn 3329 (by omega) (by omega)).mono ?_
          rintro e w7 ⟨s, hs, rfl, ho7, hc7⟩
          have hO7 := hO6.only ho7 hgl
          have hG7 := gT hG6 (gO9 ho7)
          clear hO6 hG6 hc6 ho7
          have hp' : (p : Int) < 256 := by omega
          have hp0 : (0 : Int) ≤ (p : Int) := by omega
          have cu := hO7.cell (List.getElem?_eq_getElem (show p < (m.map iv).length by rw [List.length_map, hml]; exact hp))
          have cz := hO7.frozen p
          have hO8 := hO7.set p (.int .i64 (s : Int))
          rw [show (m.map iv).set p (.int .i64 (s : Int)) = (m.set p (s : Int)).map iv by rw [List.map_set]; rfl] at hO8
          have hB8 : Below w.heap.size w7 (w7.setCell ⟨gg, p, none⟩ (.int .i64 (s : Int))) := (Below.refl w.heap.size w7).setCell (p := ⟨gg, p, none⟩) hgb (.int .i64 (s : Int))
          have hG8 := gTB9 hG7 hB8
          have hc8 := hc7.below hB8 hgl
          generalize (m.map iv)[p]'(show p < (m.map iv).length by rw [List.length_map, hml]; exact hp) = u at cu
          replace hO8 := hide hO8; replace hG8 := hide hG8; replace hc8 := hide hc8; replace hrm := hide hrm; replace hml := hide hml
          clear hO7 hG7 hc7 hB8
          go_wp2
          exact ⟨⟨k2 + 1, m.set p (s : Int), by omega, by go_num, by rw [List.length_set]; exact unhide hml, rngL_set (unhide hrm) p (by omega), hO8, hG8, hc8⟩, by simp [intOf]; omega⟩
        · have hky' : ¬ (k2 : Int) < (y : Int) := by omega
          have hok := okPl_rng hml hrm
          replace hO5 := hide hO5; replace hG5 := hide hG5; replace hc5 := hide hc5; replace hok := hide hok; replace hrm := hide hrm
          go_wp2
          go_ret
          exact ⟨⟨m, _, unhide hok, rfl, unhide hO5⟩, unhide hG5, unhide hc5⟩
end Go.Proofs.Ytkiocjbooegajad
