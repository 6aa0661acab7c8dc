/- Drawn lists of numbers to be packed, by contracts, over the loaded program. -/
import Derived.Test.YtkiocjbooegajadDoorPck3
import Derived.Test.YtkiocjbooegajadDoorSpo9
import Derived.Test.YtkiocjbooegajadDoorDrawH
import Derived.Test.YtkiocjbooegajadDoorDrawY
namespace Go.Proofs.YtkiocjbooegajadDoor
open Go.RowKit
theorem nums11 (w : World) (T : TypeId) : ∀ j, j < 11 → ∃ z, (w.alloc (.cells #[.int .i64 1, .int .i64 2, .int .i64 4, .int .i64 5, .int .i64 7, .int .i64 8, .int .i64 10, .int .i64 11, .int .i64 12, .int .i64 0, .int .i64 13] T)).cell? ⟨w.heap.size, j, none⟩ = some (.int .i64 z) ∧ (0 ≤ z ∧ z ≤ 13) := by
  intro j hj
  rw [cell_of_row _ w.heap.size j _ T (0, 0) (heap_alloc_new w _)]
  match j, hj with
  | 0, _ => exact ⟨1, rfl, by decide⟩
  | 1, _ => exact ⟨2, rfl, by decide⟩
  | 2, _ => exact ⟨4, rfl, by decide⟩
  | 3, _ => exact ⟨5, rfl, by decide⟩
  | 4, _ => exact ⟨7, rfl, by decide⟩
  | 5, _ => exact ⟨8, rfl, by decide⟩
  | 6, _ => exact ⟨10, rfl, by decide⟩
  | 7, _ => exact ⟨11, rfl, by decide⟩
  | 8, _ => exact ⟨12, rfl, by decide⟩
  | 9, _ => exact ⟨0, rfl, by decide⟩
  | 10, _ => exact ⟨13, rfl, by decide⟩
  | j + 11, hj => exact absurd hj (by omega)
theorem nums3 (w : World) (T : TypeId) (a b c : Int) (p : Int → Prop) (ha : p a) (hb : p b) (hc : p c) : ∀ j, j < 3 → ∃ z, (w.alloc (.cells #[.int .i64 a, .int .i64 b, .int .i64 c] T)).cell? ⟨w.heap.size, j, none⟩ = some (.int .i64 z) ∧ p z := by
  intro j hj
  rw [cell_of_row _ w.heap.size j _ T (0, 0) (heap_alloc_new w _)]
  match j, hj with
  | 0, _ => exact ⟨a, rfl, ha⟩
  | 1, _ => exact ⟨b, rfl, hb⟩
  | 2, _ => exact ⟨c, rfl, hc⟩
  | j + 3, hj => exact absurd hj (by omega)
set_option maxRecDepth 20000 in
set_option maxHeartbeats 800000 in
theorem drawPack_any (w : World) (o : Option Addr) (n c : Nat) (hs : Src w w.heap.size o n) (hn : n ≤ 1048576) :
    Calls Tryd.prog 5 #[.slice o n c] w fun e w' => ∃ (l : List Int) (m : Nat) (v : Value), l.length ≤ 11 ∧ m ≤ 13 ∧ e = .returned (.tuple #[v, .int .i64 (m : Int)]) ∧ RdV w' v (l.map iv) ∧ Below w.heap.size w w' := by
  obtain ⟨i0, hi, hz0, hz1, hz2⟩ := info_parts infoInt
  have HS := hide hs
  clear hs
  go_enter Tryd.func5, Tryd.ntmps5
  go_wp2_with fail
  refine (l01New_any w o n c (unhide HS) hn).mono ?_
  rintro e w1 ⟨rfl, hb1, hc1⟩
  obtain ⟨g, hg⟩ : ∃ g, g = w.heap.size := ⟨_, rfl⟩
  rw [← hg] at hc1 hb1 ⊢
  have hg1 := hc1.lt
  have hgle : w.heap.size ≤ g := by omega
  clear HS hg
  have H1 := hide (hc1.below ((Below.refl w1.heap.size w1).alloc (Nat.le_refl _) (.cells #[.int .i64 1, .int .i64 2, .int .i64 4, .int .i64 5, .int .i64 7, .int .i64 8, .int .i64 10, .int .i64 11, .int .i64 12, .int .i64 0, .int .i64 13] 3)) hg1)
  have HN := hide (nums11 w1 3)
  have hb2 : Below g w (w1.alloc (.cells #[.int .i64 1, .int .i64 2, .int .i64 4, .int .i64 5, .int .i64 7, .int .i64 8, .int .i64 10, .int .i64 11, .int .i64 12, .int .i64 0, .int .i64 13] 3)) := hb1.alloc (by omega) _
  have hne : w1.heap.size ≠ g := by omega
  clear hb1 hc1
  go_wp2_with fail
  generalize w1.alloc (.cells #[.int .i64 1, .int .i64 2, .int .i64 4, .int .i64 5, .int .i64 7, .int .i64 8, .int .i64 10, .int .i64 11, .int .i64 12, .int .i64 0, .int .i64 13] 3) = w2 at *
  refine (l01PickP_any (fun z => 0 ≤ z ∧ z ≤ 13) (unhide H1) hn w1.heap.size 11 11 (by omega) (by omega) (unhide HN) hne).mono ?_
  rintro e w3 ⟨z, ⟨hz0', hz1'⟩, rfl, ho3, hc3⟩
  obtain ⟨m, rfl⟩ : ∃ m : Nat, z = (m : Int) := ⟨z.toNat, by omega⟩
  have hm : m ≤ 13 := by omega
  have hb3 := hb2.trans (ho3.below (Nat.le_refl g))
  clear hb2 ho3 H1 HN hne hz0' hz1' hg1
  have hg3 := hc3.lt
  have hb4 : Below g w (w3.alloc (.cells #[] 3)) := hb3.alloc (by omega) _
  have hO4 : OwnV (w3.alloc (.cells #[] 3)) w3.heap.size 3 (.slice (some ⟨w3.heap.size, 0, none⟩) 0 0) (([] : List Int).map iv) := World.ownsRow_made w3 #[] 0 (Nat.le_refl _) (by decide) (by simp)
  have hc4 := hc3.below ((Below.refl w3.heap.size w3).alloc (Nat.le_refl _) (.cells #[] 3)) hg3
  have hl4 : w3.heap.size ≤ (w3.alloc (.cells #[] 3)).heap.size := by simp
  clear hc3 hb3
  replace hb4 := hide hb4; replace hO4 := hide hO4; replace hc4 := hide hc4
  obtain ⟨T, hT⟩ : ∃ T : Nat, T = 2 ^ m := ⟨_, rfl⟩
  have ht1 : 2 ^ m ≤ 8192 := two_le m 13 hm
  have ht0 : 0 < 2 ^ m := Nat.pow_pos (by omega)
  have CT := hide (fun W => two_any m (by omega) W)
  rw [← hT] at ht1 ht0 CT
  clear hT
  go_wp2
  go_loopw [6, 7] (fun tv ti wr => ∃ (k : Nat) (l : List Int), k ≤ 11 ∧ ti = .int .i64 (k : Int) ∧ l.length = k ∧ Hid (OwnV wr w3.heap.size 3 tv (l.map iv)) ∧ w3.heap.size ≤ wr.heap.size ∧ Hid (Below g w wr) ∧ Hid (Cur wr g g o n c)) (fun _ ti _ => 11 - (intOf ti).toNat)
  case atStart => exact ⟨0, [], by omega, rfl, rfl, hO4, hl4, hb4, hc4⟩
  case round =>
    clear hO4 hb4 hc4 hl4
    obtain ⟨k, l, hk, rfl, hll, HO, hsz, HB, HC⟩ := hrel
    go_wp2_with fail
    refine (l01Below_any (unhide HC) hn 12 (by omega) (by omega)).mono ?_
    rintro e w5 ⟨x, hx, rfl, ho5, hc5⟩
    have hO5 := hide ((unhide HO).only ho5 hg3)
    have hB5 := hide ((unhide HB).trans (ho5.below (Nat.le_refl g)))
    have hsz5 : w3.heap.size ≤ w5.heap.size := by rw [ho5.size]; exact hsz
    replace hc5 := hide hc5
    clear HO HB HC ho5 hsz
    by_cases hlt : k < x
    · have hlt' : (k : Int) < (x : Int) := by omega
      go_wp2_with fail
      refine (unhide CT w5).mono ?_
      rintro e w6 ⟨rfl, hw6⟩
      have hw6' := hw6.symm
      subst hw6'
      clear hw6
      go_wp2_with fail
      refine (l01Below_any (unhide hc5) hn T (by omega) (by omega)).mono ?_
      rintro e w6 ⟨y, hy, rfl, ho6, hc6⟩
      have hO6 := hide ((unhide hO5).only ho6 hg3)
      have hB6 := hide ((unhide hB5).trans (ho6.below (Nat.le_refl g)))
      have hsz6 : w3.heap.size ≤ w6.heap.size := by rw [ho6.size]; exact hsz5
      replace hc6 := hide hc6
      clear hO5 hB5 hc5 ho6 hsz5
      have hl1 : (l.map iv).length + 1 ≤ maxLen := by rw [List.length_map, hll]; unfold maxLen; omega
      have hl2 : ((l.map iv).length + 1) * 8 ≤ 140737488355328 := by rw [List.length_map, hll]; omega
      have hbr := Below.refl w3.heap.size w6
      replace hl1 := hide hl1; replace hl2 := hide hl2; replace hll := hide hll
      go_wp2_with (at_builtin; refine wpList_append_vals (w := w6) rfl (.tmp 20) (.tmp 25) 24 rfl w3.heap.size w3.heap.size 3 i0 (.int .i64 0) 8 Tryd.underlying24 hi hz0 hz1 hz2 rfl u6 (l.map iv) rfl (unhide hO6) #[.int .i64 (y : Int)] [.int .i64 (y : Int)] rfl (by intro u hu; simp only [List.mem_singleton] at hu; subst hu; rfl) 1 1 rfl rfl (unhide hl1) (unhide hl2) (Nat.le_refl _) hsz6 hbr ?_; intro v7 w7 hown7 hb7)
      rw [map_add_iv] at hown7
      have hc7 := hide ((unhide hc6).below hb7 hg3)
      have hB7 := hide ((unhide hB6).trans (hb7.mono (by omega)))
      have hsz7 : w3.heap.size ≤ w7.heap.size := Nat.le_trans hsz6 hb7.size
      replace hown7 := hide hown7
      clear hO6 hB6 hc6 hb7 hsz6 hbr
      go_wp2
      exact ⟨⟨k + 1, l ++ [(y : Int)], by omega, by go_num, by rw [List.length_append, unhide hll]; rfl, hown7, hsz7, hB7, hc7⟩, by simp [intOf]; omega⟩
    · have hlt' : ¬ (k : Int) < (x : Int) := by omega
      obtain ⟨av, cv, hav⟩ := (unhide hO5).shape
      rw [List.length_map, hll] at hav
      subst hav
      by_cases hk0 : k = 0
      · have hr := (unhide hO5).rdv
        have hb := unhide hB5
        have hlk : l.length ≤ 11 := by omega
        subst hk0
        replace hr := hide hr
        clear hO5 hB5 hc5
        go_wp2
        refine bodyPost_ret (v := .tuple #[.slice av 0 cv, .int .i64 (m : Int)]) (by simp [results, Tryd.results5, go_sem]) rfl ⟨l, m, _, hlk, hm, rfl, unhide hr, hb.mono hgle⟩
      · have hk0' : (0 : Int) < (k : Int) := by omega
        have hk0n : 0 < k := by omega
        obtain ⟨gg, rfl, hgb, hgg⟩ := (unhide hO5).some9 hk0n
        go_wp2_with fail
        refine (l01Once_any (unhide hc5) hn 10 (by omega) (by omega)).mono ?_
        rintro e w6 ⟨b, rfl, ho6, hc6⟩
        have hO6 := hide ((unhide hO5).only ho6 hg3)
        have hB6 := hide ((unhide hB5).trans (ho6.below (Nat.le_refl g)))
        have hsz6 : w3.heap.size ≤ w6.heap.size := by rw [ho6.size]; exact hsz5
        have hgg6 : gg < w6.heap.size := by rw [ho6.size]; exact hgg
        replace hc6 := hide hc6
        clear hO5 hB5 hc5 ho6 hsz5 hgg
        cases b with
        | false =>
          have hr := hide (unhide hO6).rdv
          have hb := unhide hB6
          have hlk : l.length ≤ 11 := by omega
          clear hO6 hB6 hc6
          go_wp2
          refine bodyPost_ret (v := .tuple #[.slice (some ⟨gg, 0, none⟩) k cv, .int .i64 (m : Int)]) (by simp [results, Tryd.results5, go_sem]) rfl ⟨l, m, _, hlk, hm, rfl, unhide hr, hb.mono hgle⟩
        | true =>
          go_wp2_with fail
          refine (unhide CT w6).mono ?_
          rintro e w7 ⟨rfl, hw7⟩
          have hw7' := hw7.symm
          subst hw7'
          clear hw7
          go_wp2_with fail
          refine (unhide CT w6).mono ?_
          rintro e w7 ⟨rfl, hw7⟩
          have hw7' := hw7.symm
          subst hw7'
          clear hw7
          have et : IntKind.i64.wrap ((T : Int) - 1) = (T : Int) - 1 := by rw [IntKind.wrap_i64]; omega
          have hg6 := (unhide hc6).lt
          have HN := hide (nums3 w6 3 (-1) (T : Int) ((T : Int) - 1) (fun _ => True) trivial trivial trivial)
          have hA : Below w6.heap.size w6 (w6.alloc (.cells #[.int .i64 (-1), .int .i64 (T : Int), .int .i64 ((T : Int) - 1)] 3)) := (Below.refl w6.heap.size w6).alloc (Nat.le_refl _) _
          have hc7 := hide ((unhide hc6).below hA hg6)
          have hB7 := hide ((unhide hB6).trans (hA.mono (by omega)))
          have hO7 := hide ((unhide hO6).below hA)
          have hne : w6.heap.size ≠ g := by omega
          clear hA hO6 hB6 hc6
          go_wp2_with fail
          generalize w6.alloc (.cells #[.int .i64 (-1), .int .i64 (T : Int), .int .i64 ((T : Int) - 1)] 3) = w7 at *
          refine (l01PickP_any (fun _ => True) (unhide hc7) hn w6.heap.size 3 3 (by omega) (by omega) (unhide HN) hne).mono ?_
          rintro e w8 ⟨z, _, rfl, ho8, _⟩
          have hO8 := (unhide hO7).only ho8 hg3
          have hB8 := (unhide hB7).trans (ho8.below (Nat.le_refl g))
          clear hO7 hB7 hc7 ho8 HN
          have cu := hO8.cell (List.getElem?_eq_getElem (show 0 < (l.map iv).length by rw [List.length_map, hll]; exact hk0n))
          have cz := hO8.frozen 0
          have hO9 := hO8.set 0 (.int .i64 z)
          rw [show (l.map iv).set 0 (.int .i64 z) = (l.set 0 z).map iv by rw [List.map_set]; rfl] at hO9
          have hB9 : Below g w8 (w8.setCell ⟨gg, 0, none⟩ (.int .i64 z)) := (Below.refl g w8).setCell (p := ⟨gg, 0, none⟩) (by show g ≤ gg; omega) (.int .i64 z)
          have hb := hide (hB8.trans hB9)
          have hr := hide hO9.rdv
          have hlk : (l.set 0 z).length ≤ 11 := by rw [List.length_set]; omega
          generalize (l.map iv)[0]'(show 0 < (l.map iv).length by rw [List.length_map, hll]; exact hk0n) = u at cu
          clear hO8 hB8 hO9 hB9
          go_wp2
          refine bodyPost_ret (v := .tuple #[.slice (some ⟨gg, 0, none⟩) k cv, .int .i64 (m : Int)]) (by simp [results, Tryd.results5, go_sem]) rfl ⟨l.set 0 z, m, _, hlk, hm, rfl, unhide hr, (unhide hb).mono hgle⟩
theorem pkB_size9 (l : List Int) (m : Nat) (hl : l.length ≤ 11) (hm : m ≤ 13) : (pkB l (m : Int)).size ≤ 1000 := by
  unfold pkB
  split
  · show (bysL (pkN (m : Int).toNat (natsL l))).toArray.size ≤ 1000
    unfold pkN natsL
    rw [List.size_toArray, bysL_len, List.length_map]
    unfold byN
    have := Nat.mul_le_mul hl (show (m : Int).toNat ≤ 13 by omega)
    omega
  · exact Nat.zero_le _
set_option maxRecDepth 20000 in
set_option maxHeartbeats 800000 in
theorem drawUnpack_any (w : World) (o : Option Addr) (n c : Nat) (hs : Src w w.heap.size o n) (hn : n ≤ 1048576) :
    Calls Tryd.prog 10 #[.slice o n c] w fun e w' => ∃ (s : ByteArray) (m : Nat) (k : Int), s.size ≤ 1001 ∧ e = .returned (.tuple #[.string s, .int .i64 (m : Int), .int .i64 k]) ∧ Below w.heap.size w w' := by
  have HS := hide hs
  clear hs
  go_enter Tryd.func10, Tryd.ntmps10
  go_wp2_with fail
  refine (drawPack_any w o n c (unhide HS) hn).mono ?_
  rintro e w1 ⟨l, m, v, hl, hm, rfl, hr, hb1⟩
  have HS1 := hide (((unhide HS).below hb1 (Nat.le_refl _)).up hb1.size)
  have hs1 := hb1.size
  have hps := pkB_size9 l m hl hm
  obtain ⟨av, cv, hav, _⟩ := hr.open
  rw [List.length_map] at hav
  subst hav
  clear HS
  go_wp2_with fail
  refine (l01New_any w1 o n c (unhide HS1) hn).mono ?_
  rintro e w2 ⟨rfl, hb2, hc2⟩
  obtain ⟨g, hg⟩ : ∃ g, g = w1.heap.size := ⟨_, rfl⟩
  have hr2 := hr.below hb2
  rw [← hg] at hc2 hb2 ⊢
  have hgle : w.heap.size ≤ g := by omega
  have hg2 := hc2.lt
  have hb2' := hb1.trans (hb2.mono hgle)
  clear HS1 hr hb1 hb2 hg
  go_wp2_with fail
  refine (specPack_any l (m : Int) (by omega) _ w2 hr2).mono ?_
  rintro e w3 ⟨rfl, hb3⟩
  have hc3 := hc2.below hb3 hg2
  have hb3' := hb2'.trans (hb3.mono (by omega))
  clear hc2 hr2 hb3 hb2'
  generalize pkB l (m : Int) = s at *
  generalize pkOk l (m : Int) = q at *
  go_wp2_with fail
  refine (l01Below_any hc3 hn 8 (by omega) (by omega)).mono ?_
  rintro e w4 ⟨x, hx, rfl, ho4, hc4⟩
  have hb4 := hb3'.trans (ho4.below hgle)
  clear hc3 hb3' ho4
  replace hc4 := hide hc4
  by_cases h0 : x = 0
  · have h0' : (x : Int) = 0 := by omega
    subst h0
    go_wp2_with fail
    refine (spoilt9_any (unhide hc4) hn s hps).mono ?_
    rintro e w5 ⟨t, ht, rfl, hb5⟩
    have hb := hide (hb4.trans (hb5.mono hgle))
    clear hb4 hb5 hc4
    go_wp2
    refine bodyPost_ret (v := .tuple #[.string t, .int .i64 (m : Int), .int .i64 (l.length : Int)]) (by simp [results, Tryd.results10, go_sem]) rfl ⟨t, m, _, ht, rfl, unhide hb⟩
  · have h0' : ((x : Int) == 0) = false := by simp; omega
    by_cases h1 : x = 1
    · have h1' : (x : Int) = 1 := by omega
      subst h1
      have hg4 := (unhide hc4).lt
      have HN := hide (nums3 w4 3 (-1) 1 1000 (fun _ => True) trivial trivial trivial)
      have hA : Below w4.heap.size w4 (w4.alloc (.cells #[.int .i64 (-1), .int .i64 1, .int .i64 1000] 3)) := (Below.refl w4.heap.size w4).alloc (Nat.le_refl _) _
      have hc5 := hide ((unhide hc4).below hA hg4)
      have hB5 := hide (hb4.trans (hA.mono (by omega)))
      have hne : w4.heap.size ≠ g := by omega
      clear hA hb4 hc4
      go_wp2_with fail
      generalize w4.alloc (.cells #[.int .i64 (-1), .int .i64 1, .int .i64 1000] 3) = w5 at *
      refine (l01PickP_any (fun _ => True) (unhide hc5) hn w4.heap.size 3 3 (by omega) (by omega) (unhide HN) hne).mono ?_
      rintro e w6 ⟨z, _, rfl, ho6, _⟩
      have hb := hide ((unhide hB5).trans (ho6.below hgle))
      clear ho6 hB5 hc5 HN
      go_wp2
      refine bodyPost_ret (v := .tuple #[.string s, .int .i64 (m : Int), .int .i64 (wrap64 ((l.length : Int) + z))]) (by simp [results, Tryd.results10, go_sem]) rfl ⟨s, m, _, by omega, rfl, unhide hb⟩
    · have h1' : ((x : Int) == 1) = false := by simp; omega
      replace hb4 := hide hb4
      clear hc4
      go_wp2
      refine bodyPost_ret (v := .tuple #[.string s, .int .i64 (m : Int), .int .i64 (l.length : Int)]) (by simp [results, Tryd.results10, go_sem]) rfl ⟨s, m, _, by omega, rfl, unhide hb4⟩
end Go.Proofs.YtkiocjbooegajadDoor
