/- Merged: KmC, PlyA, PlyC, PlyF, NttA, NttB. -/
import Derived.Test.YthjgmpfdjhegfasDoorMga1
import Derived.Test.YthjgmpfdjhegfasDoorMga2
import Derived.Test.YthjgmpfdjhegfasDoorMga3
import Derived.Test.YthjgmpfdjhegfasDoorMga4
import Derived.Test.YthjgmpfdjhegfasDoorMga5
import Derived.Test.YthjgmpfdjhegfasDoorMga6
import Derived.Test.YthjgmpfdjhegfasDoorMga7
import Derived.Laws.CopyOwn
/- A secret handed over, by the project: both halves out of their texts, over the loaded program. -/
namespace Go.Proofs.YthjgmpfdjhegfasDoor
open Go.RowKit
theorem ext_ext13 (s : ByteArray) (a b i j : Nat) (_ : a + i ≤ a + j) (h2 : a + j ≤ b) (_ : b ≤ s.size) : (s.extract a b).extract i j = s.extract (a + i) (a + j) := by
  rw [ByteArray.extract_extract]
  congr 1
  omega
theorem piece_head (s : ByteArray) (h : 768 ≤ s.size) (i : Nat) (hi : i < 2) : pieceB (s.extract 0 768) 384 i = pieceB s 384 i := by
  unfold pieceB
  rw [ext_ext13 s 0 768 _ _ (by omega) (by omega) h, Nat.zero_add, Nat.zero_add]
theorem pls_head (s : ByteArray) (h : 768 ≤ s.size) : plsOk (s.extract 0 768) = plsOk s := by
  unfold plsOk
  rw [piece_head s h 0 (by omega), piece_head s h 1 (by omega)]
theorem Own2.as {w : World} {base : Nat} {v0 v1 : Value} {A B : Nat → List Int} (h : Own2 w base v0 v1 A) (h0 : A 0 = B 0) (h1 : A 1 = B 1) : Own2 w base v0 v1 B := by
  unfold Own2 at *
  rw [← h0, ← h1]
  exact h
theorem rows_head (s : ByteArray) (h : 768 ≤ s.size) (i : Nat) (hi : i < 2) : rowsOf (s.extract 0 768) i = rowsOf s i := by
  unfold rowsOf
  rw [piece_head s h i hi]
def pubV (s : ByteArray) (v0 v1 : Value) : Value := .agg #[v0, v1, .string (s.extract 768 800)]
def secV (s : ByteArray) (v0 v1 : Value) : Value := .agg #[v0, v1, .string (s.extract 768 1568), .string (s.extract 1600 1632)]
theorem cut13h (T : ByteArray) (j : Nat) (w : World) (h2 : j ≤ T.size) : (Instr.slice 9 (.string T) none (some (.int .i64 (j : Int))) none).run Tryd.prog w = .ok (.string (T.extract 0 j)) w := by
  rw [run_slice_string_h w 9 T Tryd.underlying9 .i64 (j : Int) (by omega) (by omega)]
  rfl
set_option maxRecDepth 20000 in
set_option maxHeartbeats 800000 in
theorem halfIn_any (s : ByteArray) (hs : s.size ≤ 1048576) (w : World) (hL : LaidB w) :
    Calls Tryd.prog 23 #[.string s] w fun e w' => (∃ v, e = .returned v ∧
      ((s.size = 800 ∧ plsOk s = true ∧ ∃ v0 v1, v = .iface 35 (pubV s v0 v1) ∧ Own2 w' w.heap.size v0 v1 (rowsOf s)) ∨
       (s.size = 1632 ∧ plsOk s = true ∧ ∃ v0 v1, v = .iface 54 (secV s v0 v1) ∧ Own2 w' w.heap.size v0 v1 (rowsOf s)) ∨
       ((¬ (s.size = 800 ∨ s.size = 1632) ∨ plsOk s = false) ∧ v = .nilIface))) ∧ Below w.heap.size w w' := by
  by_cases h8 : s.size = 800 ∨ s.size = 1632
  · have h768 : 768 ≤ s.size := by omega
    have hsl := cut13h s 768
    have CR := hide (rowIn_any (s.extract 0 768) (by rw [ByteArray.size_extract]; omega) (by rw [ByteArray.size_extract]; omega) w hL)
    rw [pls_head s h768] at CR
    have ER := hide (rows_head s h768)
    have hst : ∀ W, (Instr.slice 9 (.string s) (some (.int .i64 768)) none none).run Tryd.prog W = .ok (.string (s.extract 768 s.size)) W := fun W => cut13l s 768 W (by omega)
    have hsh : ∀ W, (Instr.slice 9 (.string s) none (some (.int .i64 768)) none).run Tryd.prog W = .ok (.string (s.extract 0 768)) W := fun W => cut13h s 768 W (by omega)
    cases hp : plsOk s with
    | false =>
      rw [hp] at CR
      generalize s.extract 0 768 = sh at *
      generalize rowsOf sh = R at *
      generalize s.extract 768 s.size = sl at *
      clear hst ER
      rcases h8 with h8 | h8
      all_goals
        have h8' : (s.size : Int) = 800 ∨ (s.size : Int) = 1632 := by omega
        rcases h8' with h8' | h8'
        all_goals try omega
        all_goals
          replace h8 := hide h8
          clear h768 hsl hp hs hL
          go_enter Tryd.func23, Tryd.ntmps23
          go_wp2_with fail
          refine (unhide CR).mono ?_
          rintro e w1 ⟨⟨v0, v1, rfl, _, hn⟩, hb1⟩
          obtain ⟨rfl, rfl⟩ := hn (by trivial)
          have hb2 := hb1.alloc hb1.size (.cells #[.slice none 0 0, .slice none 0 0] 33)
          clear CR hn
          go_wp2
          go_ret
          exact ⟨⟨_, rfl, Or.inr (Or.inr ⟨Or.inr (by trivial), rfl⟩)⟩, hb2⟩
    | true =>
      rw [hp] at CR
      rcases h8 with h8 | h8
      · have h8' : (s.size : Int) = 800 := by omega
        have E1 := hide (show s.extract 768 s.size = s.extract 768 800 by rw [h8])
        unfold pubV secV
        rw [← unhide E1]
        generalize s.extract 0 768 = sh at *
        generalize s.extract 768 s.size = sl at *
        generalize s.extract 768 1568 = x1 at *
        generalize s.extract 1600 1632 = x2 at *
        obtain ⟨R, hR⟩ : ∃ R, R = rowsOf s := ⟨_, rfl⟩
        rw [← hR] at ER ⊢
        generalize rowsOf sh = R' at *
        replace h8 := hide h8; replace hR := hide hR
        clear h768 hsl hp hs hL
        go_enter Tryd.func23, Tryd.ntmps23
        go_wp2_with fail
        refine (unhide CR).mono ?_
        rintro e w1 ⟨⟨v0, v1, rfl, ho, _⟩, hb1⟩
        have ho1 := (ho (by trivial)).as (unhide ER 0 (by omega)) (unhide ER 1 (by omega))
        obtain ⟨a0, n0, q0, rfl⟩ : ∃ a n q, v0 = .slice a n q := by obtain ⟨a, q, h⟩ := ho1.1.shape; exact ⟨a, _, q, h⟩
        obtain ⟨a1, n1, q1, rfl⟩ : ∃ a n q, v1 = .slice a n q := by obtain ⟨a, q, h⟩ := ho1.2.shape; exact ⟨a, _, q, h⟩
        have hb2 := hb1.alloc hb1.size (.cells #[.slice a0 n0 q0, .slice a1 n1 q1] 33)
        have ho2 := hide (ho1.below ((Below.refl w1.heap.size w1).alloc (Nat.le_refl _) (.cells #[.slice a0 n0 q0, .slice a1 n1 q1] 33)))
        clear CR ho ho1
        go_wp2
        go_ret
        exact ⟨⟨_, rfl, Or.inl ⟨unhide h8, (by trivial), _, _, rfl, unhide ho2⟩⟩, hb2⟩
      · have h8' : (s.size : Int) = 1632 := by omega
        have E1 := hide (show (s.extract 768 s.size).extract 0 800 = s.extract 768 1568 from ext_ext13 s 768 s.size 0 800 (by omega) (by omega) (by omega))
        have E2 := hide (show (s.extract 768 s.size).extract 832 (s.extract 768 s.size).size = s.extract 1600 1632 by
          rw [ByteArray.size_extract, Nat.min_self, ext_ext13 s 768 s.size 832 _ (by omega) (by omega) (by omega), show 768 + (s.size - 768) = 1632 by omega])
        have hz1 : ∀ W, (Instr.slice 9 (.string (s.extract 768 s.size)) none (some (.int .i64 800)) none).run Tryd.prog W = .ok (.string (s.extract 768 1568)) W := fun W => by
          rw [← unhide E1]
          exact cut13h _ 800 W (by rw [ByteArray.size_extract]; omega)
        have hz2 : ∀ W, (Instr.slice 9 (.string (s.extract 768 s.size)) (some (.int .i64 832)) none none).run Tryd.prog W = .ok (.string (s.extract 1600 1632)) W := fun W => by
          rw [← unhide E2]
          exact cut13l _ 832 W (by rw [ByteArray.size_extract]; omega)
        unfold pubV secV
        clear E1 E2
        have hsz2 : (s.extract 768 s.size).size = 864 := by rw [ByteArray.size_extract]; omega
        generalize s.extract 0 768 = sh at *
        generalize s.extract 768 s.size = sl at *
        generalize s.extract 768 1568 = x1 at *
        generalize s.extract 768 800 = x3 at *
        generalize s.extract 1600 1632 = x2 at *
        obtain ⟨R, hR⟩ : ∃ R, R = rowsOf s := ⟨_, rfl⟩
        rw [← hR] at ER ⊢
        generalize rowsOf sh = R' at *
        replace h8 := hide h8; replace hR := hide hR
        clear h768 hsl hp hs hL
        go_enter Tryd.func23, Tryd.ntmps23
        go_wp2_with fail
        refine (unhide CR).mono ?_
        rintro e w1 ⟨⟨v0, v1, rfl, ho, _⟩, hb1⟩
        have ho1 := (ho (by trivial)).as (unhide ER 0 (by omega)) (unhide ER 1 (by omega))
        obtain ⟨a0, n0, q0, rfl⟩ : ∃ a n q, v0 = .slice a n q := by obtain ⟨a, q, h⟩ := ho1.1.shape; exact ⟨a, _, q, h⟩
        obtain ⟨a1, n1, q1, rfl⟩ : ∃ a n q, v1 = .slice a n q := by obtain ⟨a, q, h⟩ := ho1.2.shape; exact ⟨a, _, q, h⟩
        have hb2 := hb1.alloc hb1.size (.cells #[.slice a0 n0 q0, .slice a1 n1 q1] 33)
        have ho2 := hide (ho1.below ((Below.refl w1.heap.size w1).alloc (Nat.le_refl _) (.cells #[.slice a0 n0 q0, .slice a1 n1 q1] 33)))
        clear CR ho ho1
        go_wp2
        go_quiet (fail)
        all_goals go_wp2
        all_goals go_ret
        all_goals exact ⟨⟨_, rfl, Or.inr (Or.inl ⟨unhide h8, (by trivial), _, _, rfl, unhide ho2⟩)⟩, bDN hb2 _⟩
  · have h8a : ((s.size : Int) != 800) = true := by rw [bne_iff_ne]; omega
    have h8b : ((s.size : Int) != 1632) = true := by rw [bne_iff_ne]; omega
    have h1 : ¬ (s.size : Int) = 800 := by omega
    have h2 : ¬ (s.size : Int) = 1632 := by omega
    have hR := Below.refl w.heap.size w
    go_enter Tryd.func23, Tryd.ntmps23
    go_wp2
    go_ret
    exact ⟨⟨_, rfl, Or.inr (Or.inr ⟨Or.inl h8, rfl⟩)⟩, hR⟩
theorem ta_pub (x : Value) (W : World) : (Instr.typeAssert (.iface 35 x) 46 35 true).run Tryd.prog W = .ok (.tuple #[x, .bool true]) W := by kernel_rfl
theorem ta_pub_sec (x : Value) (W : World) : (Instr.typeAssert (.iface 54 x) 46 35 true).run Tryd.prog W = .ok (.tuple #[.agg #[.slice none 0 0, .slice none 0 0, .string ⟨#[]⟩], .bool false]) W := by kernel_rfl
theorem ta_pub_nil (W : World) : (Instr.typeAssert .nilIface 46 35 true).run Tryd.prog W = .ok (.tuple #[.agg #[.slice none 0 0, .slice none 0 0, .string ⟨#[]⟩], .bool false]) W := by kernel_rfl
set_option maxRecDepth 20000 in
set_option maxHeartbeats 800000 in
theorem publicIn_any (s : ByteArray) (hs : s.size ≤ 1048576) (w : World) (hL : LaidB w) :
    Calls Tryd.prog 13 #[.string s] w fun e w' => (∃ a0 n0 q0 a1 n1 q1 r, e = .returned (.tuple #[.agg #[.slice a0 n0 q0, .slice a1 n1 q1, .string r], .bool (publicOkB s)]) ∧
      (publicOkB s = true → r = s.extract 768 800 ∧ Own2 w' w.heap.size (.slice a0 n0 q0) (.slice a1 n1 q1) (rowsOf s))) ∧ Below w.heap.size w w' := by
  have T1 := ta_pub
  have T2 := ta_pub_sec
  have T3 := ta_pub_nil
  have E := hide (show publicOkB s = (decide (s.size = 800) && plsOk s) from rfl)
  generalize publicOkB s = ok at *
  obtain ⟨W, hW, hA, hb, hlt⟩ := one_cb w #[.slice none 0 0, .slice none 0 0, .string ⟨#[]⟩] 35
  have CH := hide (halfIn_any s hs W (hL.below hb))
  unfold pubV at CH
  generalize rowsOf s = R at *
  generalize s.extract 768 800 = rho at *
  clear hs hL
  replace hA := hide hA
  go_enter Tryd.func13, Tryd.ntmps13
  go_wp2_with fail
  refine (unhide CH).mono ?_
  rintro e w1 ⟨⟨v, rfl, hv⟩, hb1⟩
  have hB1 := hb.trans (hb1.mono hb.size)
  have hsz1 := hB1.size
  have hA1 := (unhide hA).step hb1
  have hg : w.heap.size < w1.heap.size := Nat.lt_of_lt_of_le hlt hb1.size
  clear hW CH hA
  rcases hv with ⟨h8, hp, v0, v1, rfl, ho⟩ | ⟨h8, hp, v0, v1, rfl, ho⟩ | ⟨h8, rfl⟩
  · obtain ⟨a0, n0, q0, rfl⟩ : ∃ a n q, v0 = .slice a n q := by obtain ⟨a, q, h⟩ := ho.1.shape; exact ⟨a, _, q, h⟩
    obtain ⟨a1, n1, q1, rfl⟩ : ∃ a n q, v1 = .slice a n q := by obtain ⟨a, q, h⟩ := ho.2.shape; exact ⟨a, _, q, h⟩
    have EO := hide (show ok = true by rw [unhide E, h8, hp]; rfl)
    obtain ⟨W2, hW2, hC2, hb2, hlt2⟩ := one_cb w1 #[.slice a0 n0 q0, .slice a1 n1 q1, .string rho] 35
    have hA2 := hA1.step hb2
    have c0 := hC2.cell 0 rfl
    have c1 := hC2.cell 1 rfl
    have c2 := hC2.cell 2 rfl
    have r0 := hA2.cell 0 rfl
    have r1 := hA2.cell 1 rfl
    have r2 := hA2.cell 2 rfl
    have z0 := hA2.frozen 0
    have z1 := hA2.frozen 1
    have z2 := hA2.frozen 2
    have hA3 := hide (((hA2.set 0 (.slice a0 n0 q0)).set 1 (.slice a1 n1 q1)).set 2 (.string rho))
    have hB2 := hB1.trans (hb2.mono hsz1)
    have hB3 := hide (((hB2.setCell (p := ⟨w.heap.size, 0, none⟩) (Nat.le_refl _) (.slice a0 n0 q0)).setCell (p := ⟨w.heap.size, 1, none⟩) (Nat.le_refl _) (.slice a1 n1 q1)).setCell (p := ⟨w.heap.size, 2, none⟩) (Nat.le_refl _) (.string rho))
    have ho2 := (ho.below hb2).low (Nat.le_of_lt hlt)
    have ho3 := hide (show Own2 (((W2.setCell ⟨w.heap.size, 0, none⟩ (.slice a0 n0 q0)).setCell ⟨w.heap.size, 1, none⟩ (.slice a1 n1 q1)).setCell ⟨w.heap.size, 2, none⟩ (.string rho)) w.heap.size (.slice a0 n0 q0) (.slice a1 n1 q1) R from
      ⟨((ho2.1.setO _ _ _ (hA2.off ho2.1 (by decide))).setO _ _ _ (hA2.off ho2.1 (by decide))).setO _ _ _ (hA2.off ho2.1 (by decide)), ((ho2.2.setO _ _ _ (hA2.off ho2.2 (by decide))).setO _ _ _ (hA2.off ho2.2 (by decide))).setO _ _ _ (hA2.off ho2.2 (by decide))⟩)
    clear hA1 hA2 hC2 hB1 hB2 ho ho2 hb hb1 hb2 hp
    replace h8 := hide h8
    go_wp2
    exact bodyPost_ret (results_cb_tmp (by exact Tryd.results13) _ _ _ _ _ _ rfl (unhide hA3) Tryd.underlying35 (by kernel_rfl)) rfl ⟨⟨_, _, _, _, _, _, _, (by rw [unhide EO]; rfl), fun _ => ⟨rfl, unhide ho3⟩⟩, unhide hB3⟩
  · clear ho
    have EO := hide (show ok = false by rw [unhide E, h8]; rfl)
    have r0 := hA1.cell 0 rfl
    have r1 := hA1.cell 1 rfl
    have r2 := hA1.cell 2 rfl
    have z0 := hA1.frozen 0
    have z1 := hA1.frozen 1
    have z2 := hA1.frozen 2
    have hA3 := hide (((hA1.set 0 (.slice none 0 0)).set 1 (.slice none 0 0)).set 2 (.string ⟨#[]⟩))
    have hB3 := hide (((hB1.setCell (p := ⟨w.heap.size, 0, none⟩) (Nat.le_refl _) (.slice none 0 0)).setCell (p := ⟨w.heap.size, 1, none⟩) (Nat.le_refl _) (.slice none 0 0)).setCell (p := ⟨w.heap.size, 2, none⟩) (Nat.le_refl _) (.string ⟨#[]⟩))
    clear hA1 hB1 hb hb1
    replace h8 := hide h8
    go_wp2
    exact bodyPost_ret (results_cb_tmp (by exact Tryd.results13) _ _ _ _ _ _ rfl (unhide hA3) Tryd.underlying35 (by kernel_rfl)) rfl ⟨⟨_, _, _, _, _, _, _, (by rw [unhide EO]; rfl), fun h => (by rw [unhide EO] at h; cases h)⟩, unhide hB3⟩
  · have EO := hide (show ok = false by rw [unhide E]; exact h8.elim (fun h9 => by rw [decide_eq_false (fun h => h9 (Or.inl h))]; rfl) (fun h9 => by rw [h9, Bool.and_false]))
    have r0 := hA1.cell 0 rfl
    have r1 := hA1.cell 1 rfl
    have r2 := hA1.cell 2 rfl
    have z0 := hA1.frozen 0
    have z1 := hA1.frozen 1
    have z2 := hA1.frozen 2
    have hA3 := hide (((hA1.set 0 (.slice none 0 0)).set 1 (.slice none 0 0)).set 2 (.string ⟨#[]⟩))
    have hB3 := hide (((hB1.setCell (p := ⟨w.heap.size, 0, none⟩) (Nat.le_refl _) (.slice none 0 0)).setCell (p := ⟨w.heap.size, 1, none⟩) (Nat.le_refl _) (.slice none 0 0)).setCell (p := ⟨w.heap.size, 2, none⟩) (Nat.le_refl _) (.string ⟨#[]⟩))
    clear hA1 hB1 hb hb1
    replace h8 := hide h8
    go_wp2
    exact bodyPost_ret (results_cb_tmp (by exact Tryd.results13) _ _ _ _ _ _ rfl (unhide hA3) Tryd.underlying35 (by kernel_rfl)) rfl ⟨⟨_, _, _, _, _, _, _, (by rw [unhide EO]; rfl), fun h => (by rw [unhide EO] at h; cases h)⟩, unhide hB3⟩
def secretOkB (s : ByteArray) : Bool := decide (s.size = 1632) && plsOk s
theorem ta_sec (x : Value) (W : World) : (Instr.typeAssert (.iface 54 x) 46 54 true).run Tryd.prog W = .ok (.tuple #[x, .bool true]) W := by kernel_rfl
theorem ta_sec_pub (x : Value) (W : World) : (Instr.typeAssert (.iface 35 x) 46 54 true).run Tryd.prog W = .ok (.tuple #[.agg #[.slice none 0 0, .slice none 0 0, .string ⟨#[]⟩, .string ⟨#[]⟩], .bool false]) W := by kernel_rfl
theorem ta_sec_nil (W : World) : (Instr.typeAssert .nilIface 46 54 true).run Tryd.prog W = .ok (.tuple #[.agg #[.slice none 0 0, .slice none 0 0, .string ⟨#[]⟩, .string ⟨#[]⟩], .bool false]) W := by kernel_rfl
set_option maxRecDepth 20000 in
set_option maxHeartbeats 800000 in
theorem secretIn_any (s : ByteArray) (hs : s.size ≤ 1048576) (w : World) (hL : LaidB w) :
    Calls Tryd.prog 31 #[.string s] w fun e w' => (∃ a0 n0 q0 a1 n1 q1 r r2, e = .returned (.tuple #[.agg #[.slice a0 n0 q0, .slice a1 n1 q1, .string r, .string r2], .bool (secretOkB s)]) ∧
      (secretOkB s = true → r = s.extract 768 1568 ∧ r2 = s.extract 1600 1632 ∧ Own2 w' w.heap.size (.slice a0 n0 q0) (.slice a1 n1 q1) (rowsOf s))) ∧ Below w.heap.size w w' := by
  have T1 := ta_sec
  have T2 := ta_sec_pub
  have T3 := ta_sec_nil
  have E := hide (show secretOkB s = (decide (s.size = 1632) && plsOk s) from rfl)
  generalize secretOkB s = ok at *
  obtain ⟨W, hW, hA, hb, hlt⟩ := one_cb w #[.slice none 0 0, .slice none 0 0, .string ⟨#[]⟩, .string ⟨#[]⟩] 54
  have CH := hide (halfIn_any s hs W (hL.below hb))
  unfold secV at CH
  generalize rowsOf s = R at *
  generalize s.extract 768 1568 = rho at *
  generalize s.extract 1600 1632 = sp at *
  clear hs hL
  replace hA := hide hA
  go_enter Tryd.func31, Tryd.ntmps31
  go_wp2_with fail
  refine (unhide CH).mono ?_
  rintro e w1 ⟨⟨v, rfl, hv⟩, hb1⟩
  have hB1 := hb.trans (hb1.mono hb.size)
  have hsz1 := hB1.size
  have hA1 := (unhide hA).step hb1
  have hg : w.heap.size < w1.heap.size := Nat.lt_of_lt_of_le hlt hb1.size
  clear hW CH hA
  rcases hv.symm.elim (fun h => h.elim Or.inl (fun h => Or.inr (Or.inr h))) (fun h => Or.inr (Or.inl h)) with ⟨h8, hp, v0, v1, rfl, ho⟩ | ⟨h8, hp, v0, v1, rfl, ho⟩ | ⟨h8, rfl⟩
  · obtain ⟨a0, n0, q0, rfl⟩ : ∃ a n q, v0 = .slice a n q := by obtain ⟨a, q, h⟩ := ho.1.shape; exact ⟨a, _, q, h⟩
    obtain ⟨a1, n1, q1, rfl⟩ : ∃ a n q, v1 = .slice a n q := by obtain ⟨a, q, h⟩ := ho.2.shape; exact ⟨a, _, q, h⟩
    have EO := hide (show ok = true by rw [unhide E, h8, hp]; rfl)
    obtain ⟨W2, hW2, hC2, hb2, hlt2⟩ := one_cb w1 #[.slice a0 n0 q0, .slice a1 n1 q1, .string rho, .string sp] 54
    have hA2 := hA1.step hb2
    have c0 := hC2.cell 0 rfl
    have c1 := hC2.cell 1 rfl
    have c2 := hC2.cell 2 rfl
    have c3 := hC2.cell 3 rfl
    have r0 := hA2.cell 0 rfl
    have r1 := hA2.cell 1 rfl
    have r2 := hA2.cell 2 rfl
    have r3 := hA2.cell 3 rfl
    have z0 := hA2.frozen 0
    have z1 := hA2.frozen 1
    have z2 := hA2.frozen 2
    have z3 := hA2.frozen 3
    have hA3 := hide ((((hA2.set 0 (.slice a0 n0 q0)).set 1 (.slice a1 n1 q1)).set 2 (.string rho)).set 3 (.string sp))
    have hB2 := hB1.trans (hb2.mono hsz1)
    have hB3 := hide ((((hB2.setCell (p := ⟨w.heap.size, 0, none⟩) (Nat.le_refl _) (.slice a0 n0 q0)).setCell (p := ⟨w.heap.size, 1, none⟩) (Nat.le_refl _) (.slice a1 n1 q1)).setCell (p := ⟨w.heap.size, 2, none⟩) (Nat.le_refl _) (.string rho)).setCell (p := ⟨w.heap.size, 3, none⟩) (Nat.le_refl _) (.string sp))
    have ho2 := (ho.below hb2).low (Nat.le_of_lt hlt)
    have ho3 := hide (show Own2 ((((W2.setCell ⟨w.heap.size, 0, none⟩ (.slice a0 n0 q0)).setCell ⟨w.heap.size, 1, none⟩ (.slice a1 n1 q1)).setCell ⟨w.heap.size, 2, none⟩ (.string rho)).setCell ⟨w.heap.size, 3, none⟩ (.string sp)) w.heap.size (.slice a0 n0 q0) (.slice a1 n1 q1) R from
      ⟨(((ho2.1.setO _ _ _ (hA2.off ho2.1 (by decide))).setO _ _ _ (hA2.off ho2.1 (by decide))).setO _ _ _ (hA2.off ho2.1 (by decide))).setO _ _ _ (hA2.off ho2.1 (by decide)), (((ho2.2.setO _ _ _ (hA2.off ho2.2 (by decide))).setO _ _ _ (hA2.off ho2.2 (by decide))).setO _ _ _ (hA2.off ho2.2 (by decide))).setO _ _ _ (hA2.off ho2.2 (by decide))⟩)
    clear hA1 hA2 hC2 hB1 hB2 ho ho2 hb hb1 hb2 hp
    replace h8 := hide h8
    go_wp2
    exact bodyPost_ret (results_cb_tmp (by exact Tryd.results31) _ _ _ _ _ _ rfl (unhide hA3) Tryd.underlying54 (by kernel_rfl)) rfl ⟨⟨_, _, _, _, _, _, _, _, (by rw [unhide EO]; rfl), fun _ => ⟨rfl, rfl, unhide ho3⟩⟩, unhide hB3⟩
  · clear ho
    have EO := hide (show ok = false by rw [unhide E, h8]; rfl)
    have r0 := hA1.cell 0 rfl
    have r1 := hA1.cell 1 rfl
    have r2 := hA1.cell 2 rfl
    have r3 := hA1.cell 3 rfl
    have z0 := hA1.frozen 0
    have z1 := hA1.frozen 1
    have z2 := hA1.frozen 2
    have z3 := hA1.frozen 3
    have hA3 := hide ((((hA1.set 0 (.slice none 0 0)).set 1 (.slice none 0 0)).set 2 (.string ⟨#[]⟩)).set 3 (.string ⟨#[]⟩))
    have hB3 := hide ((((hB1.setCell (p := ⟨w.heap.size, 0, none⟩) (Nat.le_refl _) (.slice none 0 0)).setCell (p := ⟨w.heap.size, 1, none⟩) (Nat.le_refl _) (.slice none 0 0)).setCell (p := ⟨w.heap.size, 2, none⟩) (Nat.le_refl _) (.string ⟨#[]⟩)).setCell (p := ⟨w.heap.size, 3, none⟩) (Nat.le_refl _) (.string ⟨#[]⟩))
    clear hA1 hB1 hb hb1
    replace h8 := hide h8
    go_wp2
    exact bodyPost_ret (results_cb_tmp (by exact Tryd.results31) _ _ _ _ _ _ rfl (unhide hA3) Tryd.underlying54 (by kernel_rfl)) rfl ⟨⟨_, _, _, _, _, _, _, _, (by rw [unhide EO]; rfl), fun h => (by rw [unhide EO] at h; cases h)⟩, unhide hB3⟩
  · have EO := hide (show ok = false by rw [unhide E]; exact h8.elim (fun h9 => by rw [decide_eq_false (fun h => h9 (Or.inr h))]; rfl) (fun h9 => by rw [h9, Bool.and_false]))
    have r0 := hA1.cell 0 rfl
    have r1 := hA1.cell 1 rfl
    have r2 := hA1.cell 2 rfl
    have r3 := hA1.cell 3 rfl
    have z0 := hA1.frozen 0
    have z1 := hA1.frozen 1
    have z2 := hA1.frozen 2
    have z3 := hA1.frozen 3
    have hA3 := hide ((((hA1.set 0 (.slice none 0 0)).set 1 (.slice none 0 0)).set 2 (.string ⟨#[]⟩)).set 3 (.string ⟨#[]⟩))
    have hB3 := hide ((((hB1.setCell (p := ⟨w.heap.size, 0, none⟩) (Nat.le_refl _) (.slice none 0 0)).setCell (p := ⟨w.heap.size, 1, none⟩) (Nat.le_refl _) (.slice none 0 0)).setCell (p := ⟨w.heap.size, 2, none⟩) (Nat.le_refl _) (.string ⟨#[]⟩)).setCell (p := ⟨w.heap.size, 3, none⟩) (Nat.le_refl _) (.string ⟨#[]⟩))
    clear hA1 hB1 hb hb1
    replace h8 := hide h8
    go_wp2
    exact bodyPost_ret (results_cb_tmp (by exact Tryd.results31) _ _ _ _ _ _ rfl (unhide hA3) Tryd.underlying54 (by kernel_rfl)) rfl ⟨⟨_, _, _, _, _, _, _, _, (by rw [unhide EO]; rfl), fun h => (by rw [unhide EO] at h; cases h)⟩, unhide hB3⟩
set_option maxRecDepth 20000 in
theorem implPublicOk_any (s : ByteArray) (hs : s.size ≤ 1048576) (w : World) (hL : LaidB w) :
    Calls Tryd.prog 7 #[.string s] w fun e w' => e = .returned (.bool (publicOkB s)) ∧ Below w.heap.size w w' := by
  have C := hide (publicIn_any s hs w hL)
  generalize publicOkB s = ok at *
  generalize rowsOf s = R at *
  generalize s.extract 768 800 = x at *
  clear hs hL
  go_enter Tryd.func7, Tryd.ntmps7
  go_wp2_with fail
  refine (unhide C).mono ?_
  rintro e w1 ⟨⟨a0, n0, q0, a1, n1, q1, r, rfl, _⟩, hb1⟩
  have hb2 := hb1.alloc hb1.size (.cells #[.slice a0 n0 q0, .slice a1 n1 q1, .string r] 35)
  clear C
  go_wp2
  go_ret
  exact ⟨rfl, hb2⟩
end Go.Proofs.YthjgmpfdjhegfasDoor

/- Polynomials by the project: numbers modulo 3329, powers, bits turned, over the loaded program. -/
namespace Go.Proofs.YthjgmpfdjhegfasDoor
open Go.RowKit
theorem around_parts (n : Int) : (0 ≤ n.tmod 3329 ∧ n.tmod 3329 = n % 3329) ∨ (n.tmod 3329 < 0 ∧ n.tmod 3329 + 3329 = n % 3329) := by
  have e := @Int.tmod_eq_emod n 3329
  split at e
  · left; rw [e]; omega
  · rename_i hn
    right
    have h0 : ¬ 3329 ∣ n := fun hd => hn (.inr hd)
    have e2 : n.tmod 3329 = n % 3329 - 3329 := e
    rw [e2]
    omega
theorem around_any (n : Int) (w : World) :
    Calls Tryd.prog 66 #[.int .i64 n] w fun e w' => e = .returned (.int .i64 (n % 3329)) ∧ w' = w := by
  have hp := around_parts n
  have hm : 0 ≤ n % 3329 ∧ n % 3329 ≤ 3328 := by omega
  obtain ⟨m, hmm⟩ : ∃ m, m = n % 3329 := ⟨_, rfl⟩
  obtain ⟨x, hx⟩ : ∃ x, x = n.tmod 3329 := ⟨_, rfl⟩
  rw [← hmm] at hp hm ⊢
  rw [← hx] at hp
  have hx' := hx.symm
  have ew : IntKind.i64.wrap x = x := by rw [IntKind.wrap_i64]; omega
  clear hx
  replace hmm := hide hmm
  rcases hp with ⟨h1, h2⟩ | ⟨h1, h2⟩
  · have h3 : ¬ x < 0 := by omega
    subst h2
    go_enter Tryd.func66, Tryd.ntmps66
    go_wp2
    go_ret
    exact ⟨rfl, rfl⟩
  · have e3 : IntKind.i64.wrap (x + 3329) = m := by rw [h2, IntKind.wrap_i64]; omega
    replace h2 := hide h2
    go_enter Tryd.func66, Tryd.ntmps66
    go_wp2
    go_ret
    exact ⟨rfl, rfl⟩
set_option maxRecDepth 20000 in
set_option maxHeartbeats 800000 in
theorem implPowQ_w (b e : Int) (W : World) :
    Calls Tryd.prog 77 #[.int .i64 b, .int .i64 e] W fun x w' => x = .returned (.int .i64 (powQ b e)) ∧ w' = W := by
  have CI := hide (fun n => around_any n W)
  by_cases he : 0 ≤ e ∧ e ≤ 1000000000
  · have EQ := hide (show powQ b e = powM (b % 3329) e.toNat by unfold powQ; rw [if_pos he])
    obtain ⟨n, rfl⟩ : ∃ n : Nat, e = (n : Int) := ⟨e.toNat, by omega⟩
    rw [Int.toNat_natCast] at EQ
    have hn : n ≤ 1000000000 := by omega
    have g1 : ¬ (n : Int) < 0 := by omega
    have g2 : ¬ (1000000000 : Int) < (n : Int) := by omega
    obtain ⟨m, hm⟩ : ∃ m, m = b % 3329 := ⟨_, rfl⟩
    have hm1 : 0 ≤ m ∧ m ≤ 3328 := by omega
    have CB := hide (unhide CI b)
    rw [← hm] at EQ CB
    have hstart := hide (show AlQ (1 * m ^ n) (m ^ n) by rw [Int.one_mul]; exact AlQ.refl _)
    replace hm := hide hm
    go_enter Tryd.func77, Tryd.ntmps77
    go_wp2_with (go_at_call 66; refine (unhide CB).mono ?_; rintro e w1 ⟨rfl, hw1⟩; have hw2 := hw1.symm; subst hw2; clear hw1)
    clear CB
    go_loopw [1, 5, 6] (fun te tq tb wr => ∃ (B O : Int) (E : Nat), (0 ≤ B ∧ B ≤ 3328) ∧ (0 ≤ O ∧ O ≤ 3328) ∧ E ≤ 1000000000 ∧ tb = .int .i64 B ∧ te = .int .i64 (E : Int) ∧ tq = .int .i64 O ∧ Hid (AlQ (O * B ^ E) (m ^ n)) ∧ wr = W) (fun te _ _ _ => (intOf te).toNat)
    case atStart => exact ⟨m, 1, n, hm1, by omega, hn, rfl, rfl, rfl, hstart, rfl⟩
    case round =>
      clear hstart
      obtain ⟨B, O, E, hB, hO, hE, rfl, rfl, rfl, HA, hw⟩ := hrel
      have hw' := hw.symm
      subst hw'
      clear hw
      by_cases hpos : 0 < E
      · have hpos' : (0 : Int) < (E : Int) := by omega
        have q1 : 0 ≤ B * B := Int.mul_nonneg hB.1 hB.1
        have q2 : B * B ≤ 3328 * 3328 := Int.mul_le_mul hB.2 hB.2 hB.1 (by omega)
        obtain ⟨s, hs⟩ : ∃ s, s = B * B := ⟨_, rfl⟩
        rw [← hs] at q1 q2
        obtain ⟨s2, hs2⟩ : ∃ s2, s2 = s % 3329 := ⟨_, rfl⟩
        have w1 : IntKind.i64.wrap (B * B) = s := by rw [← hs, IntKind.wrap_i64]; omega
        have CS := hide (unhide CI s)
        rw [← hs2] at CS
        obtain ⟨h, hh⟩ : ∃ h, h = E / 2 := ⟨_, rfl⟩
        have w4 : (E : Int).tdiv 2 = (h : Int) := by rw [Int.tdiv_eq_ediv_of_nonneg (by omega)]; omega
        have w4' : (E : Int) / 2 = (h : Int) := by omega
        have w5 : IntKind.i64.wrap (h : Int) = (h : Int) := by rw [IntKind.wrap_i64]; omega
        have hs2b : 0 ≤ s2 ∧ s2 ≤ 3328 := by omega
        have hhb : h ≤ 1000000000 ∧ h < E := by omega
        by_cases hodd : E % 2 = 1
        · have HA2 := alq_odd (unhide HA) hodd
          have r1 : 0 ≤ O * B := Int.mul_nonneg hO.1 hB.1
          have r2 : O * B ≤ 3328 * 3328 := Int.mul_le_mul hO.2 hB.2 hB.1 (by omega)
          obtain ⟨p, hp⟩ : ∃ p, p = O * B := ⟨_, rfl⟩
          rw [← hp] at r1 r2
          obtain ⟨p2, hp2⟩ : ∃ p2, p2 = p % 3329 := ⟨_, rfl⟩
          rw [← hp, ← hs, ← hp2, ← hs2, ← hh] at HA2
          have v1 : IntKind.i64.wrap (O * B) = p := by rw [← hp, IntKind.wrap_i64]; omega
          have CP := hide (unhide CI p)
          rw [← hp2] at CP
          have v4 : (E : Int).tmod 2 = 1 := by rw [Int.tmod_eq_emod_of_nonneg (by omega)]; omega
          have v4' : (E : Int) % 2 = 1 := by omega
          have hp2b : 0 ≤ p2 ∧ p2 ≤ 3328 := by omega
          replace HA2 := hide HA2
          replace hs := hide hs; replace hs2 := hide hs2; replace hh := hide hh; replace hp := hide hp; replace hp2 := hide hp2; replace hodd := hide hodd
          clear HA CI
          go_wp2_with fail
          refine (unhide CP).mono ?_
          rintro e w1 ⟨rfl, hw1⟩
          have hw2 := hw1.symm
          subst hw2
          clear hw1
          go_wp2_with fail
          refine (unhide CS).mono ?_
          rintro e w1 ⟨rfl, hw1⟩
          have hw2 := hw1.symm
          subst hw2
          clear hw1
          go_wp2
          exact ⟨⟨s2, p2, h, hs2b, hp2b, hhb.1, by first | rfl | trivial, by go_num, by first | rfl | trivial, HA2, by first | rfl | trivial⟩, by simp [intOf]; omega⟩
        · have HA2 := alq_even (unhide HA) hodd
          rw [← hs, ← hs2, ← hh] at HA2
          have v4 : (E : Int).tmod 2 = 0 := by rw [Int.tmod_eq_emod_of_nonneg (by omega)]; omega
          have v4' : (E : Int) % 2 = 0 := by omega
          replace HA2 := hide HA2
          replace hs := hide hs; replace hs2 := hide hs2; replace hh := hide hh; replace hodd := hide hodd
          clear HA CI
          go_wp2_with (go_at_call 66; refine (unhide CS).mono ?_; rintro e w1 ⟨rfl, hw1⟩; have hw2 := hw1.symm; subst hw2; clear hw1)
          exact ⟨⟨s2, O, h, hs2b, hO, hhb.1, by first | rfl | trivial, by go_num, by first | rfl | trivial, HA2, by first | rfl | trivial⟩, by simp [intOf]; omega⟩
      · have hpos' : ¬ (0 : Int) < (E : Int) := by omega
        obtain rfl : E = 0 := by omega
        have E2 := hide (show powQ b (n : Int) = O by rw [unhide EQ]; exact alq_end (unhide HA) hO.1 hO.2)
        clear HA
        go_wp2
        go_ret
        exact ⟨by rw [unhide E2]; rfl, rfl⟩
  · have EQ := hide (show powQ b e = 0 by unfold powQ; rw [if_neg he])
    rw [unhide EQ]
    by_cases h1 : e < 0
    · clear he CI
      go_enter Tryd.func77, Tryd.ntmps77
      go_wp2
      go_ret
      exact ⟨rfl, rfl⟩
    · have h2 : 1000000000 < e := by omega
      clear he CI
      go_enter Tryd.func77, Tryd.ntmps77
      go_wp2
      go_ret
      exact ⟨rfl, rfl⟩
theorem implPowQ_any (b e : Int) (W : World) :
    Calls Tryd.prog 77 #[.int .i64 b, .int .i64 e] W fun x w' => x = .returned (.int .i64 (powQ b e)) ∧ Below W.heap.size W w' :=
  (implPowQ_w b e W).mono fun _ _ ⟨h1, h2⟩ => ⟨h1, by rw [h2]; exact Below.refl _ _⟩
end Go.Proofs.YthjgmpfdjhegfasDoor

/- Polynomials by the project: sums and differences, over the loaded program. -/
namespace Go.Proofs.YthjgmpfdjhegfasDoor
open Go.RowKit
def filP (f : Nat → Int) (k : Nat) : List Int := mk256 fun t => if t < k then f t else 0
theorem filP_len (f : Nat → Int) (k : Nat) : (filP f k).length = 256 := mk256_len _
theorem filP_zero (f : Nat → Int) : filP f 0 = List.replicate 256 0 := by
  refine ext_pl (filP_len _ _) (by rw [List.length_replicate]) fun t ht => ?_
  unfold filP
  rw [mk256_at _ t ht, if_neg (by omega)]
  exact (zeroL_at t ht).symm
theorem filP_end (f : Nat → Int) : filP f 256 = mk256 f := by
  unfold filP
  exact mk256_congr fun _ hi => if_pos hi
theorem filP_set (f : Nat → Int) (k : Nat) (hk : k < 256) : (filP f k).set k (f k) = filP f (k + 1) := by
  refine ext_pl (by rw [List.length_set, filP_len]) (filP_len _ _) fun t ht => ?_
  rw [cAt_set _ _ _ _ (by rw [filP_len]; exact hk)]
  unfold filP
  rw [mk256_at _ t ht, mk256_at _ t ht]
  by_cases e : t = k
  · rw [if_pos e, if_pos (by omega), e]
  · rw [if_neg e]
    by_cases h : t < k
    · rw [if_pos h, if_pos (by omega)]
    · rw [if_neg h, if_neg (by omega)]
set_option maxRecDepth 20000 in
set_option maxHeartbeats 400000 in
theorem plus_any (a b : List Int) (va vb : Value) (w : World) (ha : okPl a = true) (hb : okPl b = true) (ra : RdV w va (a.map iv)) (rb : RdV w vb (b.map iv)) :
    Calls Tryd.prog 79 #[va, vb] w fun e w' => (∃ v, e = .returned v ∧ OwnV w' w.heap.size 3 v ((addL a b).map iv)) ∧ Below w.heap.size w w' := by
  obtain ⟨i0, hi, hz0, hz1, hz2⟩ := info_parts infoInt
  obtain ⟨la, va'⟩ := okPl_yes ha
  obtain ⟨lb, vb'⟩ := okPl_yes hb
  have EF := hide (show addL a b = filP (fun i => (cAt a i + cAt b i) % 3329) 256 by rw [filP_end]; exact addL_is ha hb)
  obtain ⟨f, hf⟩ : ∃ f : Nat → Int, f = fun i => (cAt a i + cAt b i) % 3329 := ⟨_, rfl⟩
  rw [← hf] at EF
  obtain ⟨a1, c1, rfl, hc1⟩ := ra.open
  obtain ⟨a2, c2, rfl, hc2⟩ := rb.open
  rw [List.length_map, la, List.length_map, lb]
  clear ra rb
  replace va' := hide va'; replace vb' := hide vb'; replace la := hide la; replace lb := hide lb; replace hf := hide hf
  go_enter Tryd.func79, Tryd.ntmps79
  go_wp2_with (at_make; refine wpList_make_full _ rfl _ _ 62 rfl w.heap.size 3 i0 (.int .i64 0) 1 Tryd.underlying62 hi hz0 hz1 _ _ _ _ 256 rfl rfl rfl rfl (by rw [hz2]; omega) (by unfold maxLen; omega) (Nat.le_refl _) ?_; intro w1 hown1 hgrow1)
  have hr0 : OwnV w1 w.heap.size 3 (.slice (some ⟨w.heap.size, 0, none⟩) 256 256) ((filP f 0).map iv) := by
    rw [filP_zero]
    rw [madeI] at hown1
    unfold OwnV
    simpa [iv] using hown1
  have hb0 : Below w.heap.size w w1 := (Below.refl w.heap.size w).grown hgrow1 (Nat.le_refl _) (fun k hk => by cases hk)
  replace hr0 := hide hr0
  clear hown1 hgrow1
  go_loopw [10] (fun ti wr => ∃ k : Nat, k ≤ 256 ∧ ti = .int .i64 (k : Int) ∧ Hid (OwnV wr w.heap.size 3 (.slice (some ⟨w.heap.size, 0, none⟩) 256 256) ((filP f k).map iv)) ∧ Below w.heap.size w wr) (fun ti _ => 256 - (intOf ti).toNat)
  case atStart => exact ⟨0, by omega, rfl, hr0, hb0⟩
  case round =>
    clear hr0 hb0
    obtain ⟨k, hk, rfl, HO, hB⟩ := hrel
    by_cases hlt : k < 256
    · have hk' : (k : Int) < 256 := by omega
      have hci : (0 : Int) ≤ (k : Int) := by omega
      obtain ⟨g1, o1, rfl, hg1, d1⟩ := hc1 k _ (get_iv a k (by rw [unhide la]; exact hlt))
      obtain ⟨g2, o2, rfl, hg2, d2⟩ := hc2 k _ (get_iv b k (by rw [unhide lb]; exact hlt))
      have b1 := unhide va' k hlt
      have b2 := unhide vb' k hlt
      obtain ⟨x, hx⟩ : ∃ x, x = cAt a k := ⟨_, rfl⟩
      obtain ⟨y, hy⟩ : ∃ y, y = cAt b k := ⟨_, rfl⟩
      obtain ⟨t1, ht1⟩ : ∃ t1, t1 = x + y := ⟨_, rfl⟩
      rw [← hx] at d1 b1
      rw [← hy] at d2 b2
      have w1 : IntKind.i64.wrap (x + y) = t1 := by rw [IntKind.wrap_i64]; omega
      obtain ⟨u, hu⟩ : ∃ u, u = f k := ⟨_, rfl⟩
      have hut : t1 % 3329 = u := by rw [hu, unhide hf]; show _ = (cAt a k + cAt b k) % 3329; rw [ht1, hx, hy]
      have CI := hide (fun W => around_any t1 W)
      rw [hut] at CI
      have KS := hide (fun (W : World) (h : Below w.heap.size w W) => (⟨(h.cell (p := ⟨g1, o1 + k, none⟩) hg1).trans d1, (h.cell (p := ⟨g2, o2 + k, none⟩) hg2).trans d2⟩ : W.cell? ⟨g1, o1 + k, none⟩ = some (.int .i64 x) ∧ W.cell? ⟨g2, o2 + k, none⟩ = some (.int .i64 y)))
      obtain ⟨ca, cb⟩ := (unhide KS) _ hB
      have cu := (unhide HO).cell (get_iv _ k (by rw [filP_len]; omega))
      have cz := (unhide HO).frozen k
      have hO2 := hide (fun (q : Nat) => (show OwnV ((wr.drewN q).setCell ⟨w.heap.size, k, none⟩ (.int .i64 u)) w.heap.size 3 (.slice (some ⟨w.heap.size, 0, none⟩) 256 256) ((filP f (k + 1)).map iv) by
        have h := OwnV.set (w := wr.drewN q) (unhide HO) k (.int .i64 u)
        rw [set_iv, hu, filP_set f k hlt] at h
        rw [hu]
        exact h))
      have hB2 := hide (fun (q : Nat) => (bDN hB q).setCell (p := ⟨w.heap.size, k, none⟩) (Nat.le_refl _) (.int .i64 u))
      replace hx := hide hx; replace hy := hide hy; replace ht1 := hide ht1; replace hu := hide hu; replace hut := hide hut
      clear hc1 hc2 d1 d2
      go_wp2
      go_region_held3 (fun W => W.cell? ⟨g1, o1 + k, none⟩ = some (.int .i64 x) ∧ W.cell? ⟨g2, o2 + k, none⟩ = some (.int .i64 y)) (first | exact ⟨ca, cb⟩ | exact (unhide KS) _ (unhide hB2 _)) (first | (go_at_call 66; refine (unhide CI _).mono ?_; rintro e w2 ⟨rfl, rfl⟩))
      go_wp2
      exact ⟨⟨k + 1, by omega, by go_num, hide (unhide hO2 _), unhide hB2 _⟩, by simp [intOf]; omega⟩
    · have hk' : ¬ (k : Int) < 256 := by omega
      have hke : k = 256 := by omega
      have hown : OwnV wr w.heap.size 3 (.slice (some ⟨w.heap.size, 0, none⟩) 256 256) ((addL a b).map iv) := by rw [show addL a b = filP f k by rw [hke]; exact unhide EF]; exact unhide HO
      replace hown := hide hown
      clear HO
      replace hke := hide hke
      go_wp2
      go_ret
      exact ⟨⟨_, rfl, unhide hown⟩, hB⟩
set_option maxRecDepth 20000 in
set_option maxHeartbeats 400000 in
theorem less_any (a b : List Int) (va vb : Value) (w : World) (ha : okPl a = true) (hb : okPl b = true) (ra : RdV w va (a.map iv)) (rb : RdV w vb (b.map iv)) :
    Calls Tryd.prog 52 #[va, vb] w fun e w' => (∃ v, e = .returned v ∧ OwnV w' w.heap.size 3 v ((subL a b).map iv)) ∧ Below w.heap.size w w' := by
  obtain ⟨i0, hi, hz0, hz1, hz2⟩ := info_parts infoInt
  obtain ⟨la, va'⟩ := okPl_yes ha
  obtain ⟨lb, vb'⟩ := okPl_yes hb
  have EF := hide (show subL a b = filP (fun i => (cAt a i - cAt b i + 3329) % 3329) 256 by rw [filP_end]; exact subL_is ha hb)
  obtain ⟨f, hf⟩ : ∃ f : Nat → Int, f = fun i => (cAt a i - cAt b i + 3329) % 3329 := ⟨_, rfl⟩
  rw [← hf] at EF
  obtain ⟨a1, c1, rfl, hc1⟩ := ra.open
  obtain ⟨a2, c2, rfl, hc2⟩ := rb.open
  rw [List.length_map, la, List.length_map, lb]
  clear ra rb
  replace va' := hide va'; replace vb' := hide vb'; replace la := hide la; replace lb := hide lb; replace hf := hide hf
  go_enter Tryd.func52, Tryd.ntmps52
  go_wp2_with (at_make; refine wpList_make_full _ rfl _ _ 62 rfl w.heap.size 3 i0 (.int .i64 0) 1 Tryd.underlying62 hi hz0 hz1 _ _ _ _ 256 rfl rfl rfl rfl (by rw [hz2]; omega) (by unfold maxLen; omega) (Nat.le_refl _) ?_; intro w1 hown1 hgrow1)
  have hr0 : OwnV w1 w.heap.size 3 (.slice (some ⟨w.heap.size, 0, none⟩) 256 256) ((filP f 0).map iv) := by
    rw [filP_zero]
    rw [madeI] at hown1
    unfold OwnV
    simpa [iv] using hown1
  have hb0 : Below w.heap.size w w1 := (Below.refl w.heap.size w).grown hgrow1 (Nat.le_refl _) (fun k hk => by cases hk)
  replace hr0 := hide hr0
  clear hown1 hgrow1
  go_loopw [10] (fun ti wr => ∃ k : Nat, k ≤ 256 ∧ ti = .int .i64 (k : Int) ∧ Hid (OwnV wr w.heap.size 3 (.slice (some ⟨w.heap.size, 0, none⟩) 256 256) ((filP f k).map iv)) ∧ Below w.heap.size w wr) (fun ti _ => 256 - (intOf ti).toNat)
  case atStart => exact ⟨0, by omega, rfl, hr0, hb0⟩
  case round =>
    clear hr0 hb0
    obtain ⟨k, hk, rfl, HO, hB⟩ := hrel
    by_cases hlt : k < 256
    · have hk' : (k : Int) < 256 := by omega
      have hci : (0 : Int) ≤ (k : Int) := by omega
      obtain ⟨g1, o1, rfl, hg1, d1⟩ := hc1 k _ (get_iv a k (by rw [unhide la]; exact hlt))
      obtain ⟨g2, o2, rfl, hg2, d2⟩ := hc2 k _ (get_iv b k (by rw [unhide lb]; exact hlt))
      have b1 := unhide va' k hlt
      have b2 := unhide vb' k hlt
      obtain ⟨x, hx⟩ : ∃ x, x = cAt a k := ⟨_, rfl⟩
      obtain ⟨y, hy⟩ : ∃ y, y = cAt b k := ⟨_, rfl⟩
      obtain ⟨t1, ht1⟩ : ∃ t1, t1 = x - y := ⟨_, rfl⟩
      rw [← hx] at d1 b1
      rw [← hy] at d2 b2
      have w1 : IntKind.i64.wrap (x - y) = t1 := by rw [IntKind.wrap_i64]; omega
      obtain ⟨u, hu⟩ : ∃ u, u = f k := ⟨_, rfl⟩
      have hut : t1 % 3329 = u := by rw [hu, unhide hf]; show _ = (cAt a k - cAt b k + 3329) % 3329; rw [ht1, hx, hy]; omega
      have CI := hide (fun W => around_any t1 W)
      rw [hut] at CI
      have KS := hide (fun (W : World) (h : Below w.heap.size w W) => (⟨(h.cell (p := ⟨g1, o1 + k, none⟩) hg1).trans d1, (h.cell (p := ⟨g2, o2 + k, none⟩) hg2).trans d2⟩ : W.cell? ⟨g1, o1 + k, none⟩ = some (.int .i64 x) ∧ W.cell? ⟨g2, o2 + k, none⟩ = some (.int .i64 y)))
      obtain ⟨ca, cb⟩ := (unhide KS) _ hB
      have cu := (unhide HO).cell (get_iv _ k (by rw [filP_len]; omega))
      have cz := (unhide HO).frozen k
      have hO2 := hide (fun (q : Nat) => (show OwnV ((wr.drewN q).setCell ⟨w.heap.size, k, none⟩ (.int .i64 u)) w.heap.size 3 (.slice (some ⟨w.heap.size, 0, none⟩) 256 256) ((filP f (k + 1)).map iv) by
        have h := OwnV.set (w := wr.drewN q) (unhide HO) k (.int .i64 u)
        rw [set_iv, hu, filP_set f k hlt] at h
        rw [hu]
        exact h))
      have hB2 := hide (fun (q : Nat) => (bDN hB q).setCell (p := ⟨w.heap.size, k, none⟩) (Nat.le_refl _) (.int .i64 u))
      replace hx := hide hx; replace hy := hide hy; replace ht1 := hide ht1; replace hu := hide hu; replace hut := hide hut
      clear hc1 hc2 d1 d2
      go_wp2
      go_region_held3 (fun W => W.cell? ⟨g1, o1 + k, none⟩ = some (.int .i64 x) ∧ W.cell? ⟨g2, o2 + k, none⟩ = some (.int .i64 y)) (first | exact ⟨ca, cb⟩ | exact (unhide KS) _ (unhide hB2 _)) (first | (go_at_call 66; refine (unhide CI _).mono ?_; rintro e w2 ⟨rfl, rfl⟩))
      go_wp2
      exact ⟨⟨k + 1, by omega, by go_num, hide (unhide hO2 _), unhide hB2 _⟩, by simp [intOf]; omega⟩
    · have hk' : ¬ (k : Int) < 256 := by omega
      have hke : k = 256 := by omega
      have hown : OwnV wr w.heap.size 3 (.slice (some ⟨w.heap.size, 0, none⟩) 256 256) ((subL a b).map iv) := by rw [show subL a b = filP f k by rw [hke]; exact unhide EF]; exact unhide HO
      replace hown := hide hown
      clear HO
      replace hke := hide hke
      go_wp2
      go_ret
      exact ⟨⟨_, rfl, unhide hown⟩, hB⟩
theorem implPolyAdd_any (a b : List Int) (ua ub : Value) (_ : a.length ≤ 1048576) (_ : b.length ≤ 1048576) (W : World) (r1 : RdV W ua (a.map iv)) (r2 : RdV W ub (b.map iv)) :
    Calls Tryd.prog 71 #[ua, ub] W fun e w' => (∃ v, e = .returned v ∧ OwnV w' W.heap.size 3 v ((addL a b).map iv)) ∧ Below W.heap.size W w' := by
  have CA := hide (implPolyOk_q a ua W r1)
  have CB := hide (fun q => implPolyOk_q b ub (W.drewN q) r2)
  have sa := r1.shape
  have sb := r2.shape
  cases ha : okPl a with
  | true =>
    rw [ha] at CA
    cases hb : okPl b with
    | true =>
      rw [hb] at CB
      have CM := hide (fun q => plus_any a b ua ub (W.drewN q) ha hb r1 r2)
      have BD := hide (fun q (V : World) (h : Below W.heap.size (W.drewN q) V) => (bDN (Below.refl W.heap.size W) q).trans h)
      obtain ⟨a1, c1, rfl⟩ := sa
      obtain ⟨a2, c2, rfl⟩ := sb
      simp only [List.length_map] at CA CB CM ⊢
      clear r1 r2 ha hb
      generalize addL a b = l at *
      go_enter Tryd.func71, Tryd.ntmps71
      go_wp2_with fail
      refine (unhide CA).mono ?_
      rintro e w1 ⟨rfl, q, rfl⟩
      go_wp2_with fail
      refine (unhide CB q).mono ?_
      rintro e w1 ⟨rfl, q2, rfl⟩
      go_wp2_with fail
      refine (unhide CM _).mono ?_
      rintro e w1 ⟨⟨v, rfl, ho⟩, hb1⟩
      replace ho := hide ho
      have hb2 := hide (unhide BD _ _ hb1)
      clear hb1
      go_wp2
      go_ret
      exact ⟨⟨_, rfl, unhide ho⟩, unhide hb2⟩
    | false =>
      rw [hb] at CB
      have E := hide (show addL a b = [] by unfold addL; rw [bothP_no2 hb]; rfl)
      rw [unhide E]
      obtain ⟨a1, c1, rfl⟩ := sa
      obtain ⟨a2, c2, rfl⟩ := sb
      simp only [List.length_map] at CA CB ⊢
      clear r1 r2 ha hb
      go_enter Tryd.func71, Tryd.ntmps71
      go_wp2_with fail
      refine (unhide CA).mono ?_
      rintro e w1 ⟨rfl, q, rfl⟩
      go_wp2_with fail
      refine (unhide CB q).mono ?_
      rintro e w1 ⟨rfl, q2, rfl⟩
      go_wp2
      go_ret
      exact ⟨⟨_, rfl, OwnV.nil _ _ _⟩, by first | exact bDN (bDN (Below.refl _ _) _) _ | exact bDN (Below.refl _ _) _⟩
  | false =>
    rw [ha] at CA
    have E := hide (show addL a b = [] by unfold addL; rw [bothP_no1 ha]; rfl)
    rw [unhide E]
    obtain ⟨a1, c1, rfl⟩ := sa
    obtain ⟨a2, c2, rfl⟩ := sb
    simp only [List.length_map] at CA ⊢
    clear r1 r2 ha CB
    go_enter Tryd.func71, Tryd.ntmps71
    go_wp2_with fail
    refine (unhide CA).mono ?_
    rintro e w1 ⟨rfl, q, rfl⟩
    go_wp2
    go_ret
    exact ⟨⟨_, rfl, OwnV.nil _ _ _⟩, bDN (Below.refl _ _) _⟩
theorem implPolySub_any (a b : List Int) (ua ub : Value) (_ : a.length ≤ 1048576) (_ : b.length ≤ 1048576) (W : World) (r1 : RdV W ua (a.map iv)) (r2 : RdV W ub (b.map iv)) :
    Calls Tryd.prog 33 #[ua, ub] W fun e w' => (∃ v, e = .returned v ∧ OwnV w' W.heap.size 3 v ((subL a b).map iv)) ∧ Below W.heap.size W w' := by
  have CA := hide (implPolyOk_q a ua W r1)
  have CB := hide (fun q => implPolyOk_q b ub (W.drewN q) r2)
  have sa := r1.shape
  have sb := r2.shape
  cases ha : okPl a with
  | true =>
    rw [ha] at CA
    cases hb : okPl b with
    | true =>
      rw [hb] at CB
      have CM := hide (fun q => less_any a b ua ub (W.drewN q) ha hb r1 r2)
      have BD := hide (fun q (V : World) (h : Below W.heap.size (W.drewN q) V) => (bDN (Below.refl W.heap.size W) q).trans h)
      obtain ⟨a1, c1, rfl⟩ := sa
      obtain ⟨a2, c2, rfl⟩ := sb
      simp only [List.length_map] at CA CB CM ⊢
      clear r1 r2 ha hb
      generalize subL a b = l at *
      go_enter Tryd.func33, Tryd.ntmps33
      go_wp2_with fail
      refine (unhide CA).mono ?_
      rintro e w1 ⟨rfl, q, rfl⟩
      go_wp2_with fail
      refine (unhide CB q).mono ?_
      rintro e w1 ⟨rfl, q2, rfl⟩
      go_wp2_with fail
      refine (unhide CM _).mono ?_
      rintro e w1 ⟨⟨v, rfl, ho⟩, hb1⟩
      replace ho := hide ho
      have hb2 := hide (unhide BD _ _ hb1)
      clear hb1
      go_wp2
      go_ret
      exact ⟨⟨_, rfl, unhide ho⟩, unhide hb2⟩
    | false =>
      rw [hb] at CB
      have E := hide (show subL a b = [] by unfold subL; rw [bothP_no2 hb]; rfl)
      rw [unhide E]
      obtain ⟨a1, c1, rfl⟩ := sa
      obtain ⟨a2, c2, rfl⟩ := sb
      simp only [List.length_map] at CA CB ⊢
      clear r1 r2 ha hb
      go_enter Tryd.func33, Tryd.ntmps33
      go_wp2_with fail
      refine (unhide CA).mono ?_
      rintro e w1 ⟨rfl, q, rfl⟩
      go_wp2_with fail
      refine (unhide CB q).mono ?_
      rintro e w1 ⟨rfl, q2, rfl⟩
      go_wp2
      go_ret
      exact ⟨⟨_, rfl, OwnV.nil _ _ _⟩, by first | exact bDN (bDN (Below.refl _ _) _) _ | exact bDN (Below.refl _ _) _⟩
  | false =>
    rw [ha] at CA
    have E := hide (show subL a b = [] by unfold subL; rw [bothP_no1 ha]; rfl)
    rw [unhide E]
    obtain ⟨a1, c1, rfl⟩ := sa
    obtain ⟨a2, c2, rfl⟩ := sb
    simp only [List.length_map] at CA ⊢
    clear r1 r2 ha CB
    go_enter Tryd.func33, Tryd.ntmps33
    go_wp2_with fail
    refine (unhide CA).mono ?_
    rintro e w1 ⟨rfl, q, rfl⟩
    go_wp2
    go_ret
    exact ⟨⟨_, rfl, OwnV.nil _ _ _⟩, bDN (Below.refl _ _) _⟩
end Go.Proofs.YthjgmpfdjhegfasDoor

/- Bits turned by the project, over the loaded program. -/
namespace Go.Proofs.YthjgmpfdjhegfasDoor
open Go.RowKit
def rev8T : ByteArray := ⟨#[0, 128, 64, 192, 32, 160, 96, 224, 16, 144, 80, 208, 48, 176, 112, 240, 8, 136, 72, 200, 40, 168, 104, 232, 24, 152, 88, 216, 56, 184, 120, 248, 4, 132, 68, 196, 36, 164, 100, 228, 20, 148, 84, 212, 52, 180, 116, 244, 12, 140, 76, 204, 44, 172, 108, 236, 28, 156, 92, 220, 60, 188, 124, 252, 2, 130, 66, 194, 34, 162, 98, 226, 18, 146, 82, 210, 50, 178, 114, 242, 10, 138, 74, 202, 42, 170, 106, 234, 26, 154, 90, 218, 58, 186, 122, 250, 6, 134, 70, 198, 38, 166, 102, 230, 22, 150, 86, 214, 54, 182, 118, 246, 14, 142, 78, 206, 46, 174, 110, 238, 30, 158, 94, 222, 62, 190, 126, 254, 1, 129, 65, 193, 33, 161, 97, 225, 17, 145, 81, 209, 49, 177, 113, 241, 9, 137, 73, 201, 41, 169, 105, 233, 25, 153, 89, 217, 57, 185, 121, 249, 5, 133, 69, 197, 37, 165, 101, 229, 21, 149, 85, 213, 53, 181, 117, 245, 13, 141, 77, 205, 45, 173, 109, 237, 29, 157, 93, 221, 61, 189, 125, 253, 3, 131, 67, 195, 35, 163, 99, 227, 19, 147, 83, 211, 51, 179, 115, 243, 11, 139, 75, 203, 43, 171, 107, 235, 27, 155, 91, 219, 59, 187, 123, 251, 7, 135, 71, 199, 39, 167, 103, 231, 23, 151, 87, 215, 55, 183, 119, 247, 15, 143, 79, 207, 47, 175, 111, 239, 31, 159, 95, 223, 63, 191, 127, 255]⟩
set_option maxRecDepth 100000 in
theorem rev8T_at (x : Nat) (hx : x < 128) (h : 2 * x < rev8T.size) : (rev8T[2 * x]'h).toNat = t7 x := by
  have H : allN (fun x => (rev8T.data.getD (2 * x) 0).toNat == t7 x) 128 = true := by decide +kernel
  have h2 := allN_at H x hx
  have h3 : (rev8T.data.getD (2 * x) 0).toNat = t7 x := by simpa using h2
  rw [← h3]
  unfold Array.getD
  rw [dif_pos (show 2 * x < rev8T.data.size from h)]
  rfl
set_option maxRecDepth 100000 in
set_option maxHeartbeats 1000000 in
theorem rev8_any (x : Nat) (hx : x < 128) (w : World) :
    Calls Tryd.prog 84 #[.int .u8 ((2 * x : Nat) : Int)] w fun e w' => e = .returned (.int .u8 (t7 x : Int)) ∧ w' = w := by
  go_enter Tryd.func84, Tryd.ntmps84
  go_wp2
  go_ret
  refine ⟨?_, rfl⟩
  exact congrArg (fun n : Nat => Ending.returned (Value.int .u8 (n : Int))) (rev8T_at x hx (by show 2 * x < 256; omega))
theorem implTurn7_w (z : Int) (W : World) :
    Calls Tryd.prog 78 #[.int .i64 z] W fun x w' => x = .returned (.int .i64 (turnZ z)) ∧ w' = W := by
  obtain ⟨m, hm⟩ : ∃ m : Nat, (z % 128).toNat = m := ⟨_, rfl⟩
  have hml : m < 128 := by omega
  have ET := hide (show turnZ z = (t7 m : Int) by unfold turnZ; rw [hm])
  have CR := hide (rev8_any m hml W)
  rw [unhide ET]
  have hr := t7_lt m
  have w64 : wrap64 (t7 m : Int) = (t7 m : Int) := by unfold wrap64; omega
  generalize t7 m = r at *
  have w1 : z % 256 * 2 % 256 = ((2 * m : Nat) : Int) := by omega
  rw [Int.natCast_mul] at CR
  go_enter Tryd.func78, Tryd.ntmps78
  go_wp2_with fail
  refine (unhide CR).mono ?_
  rintro e w1 ⟨rfl, rfl⟩
  go_wp2
  go_ret
  exact ⟨rfl, rfl⟩
theorem implTurn7_any (z : Int) (W : World) :
    Calls Tryd.prog 78 #[.int .i64 z] W fun x w' => x = .returned (.int .i64 (turnZ z)) ∧ Below W.heap.size W w' :=
  (implTurn7_w z W).mono fun _ _ ⟨h1, h2⟩ => ⟨h1, by rw [h2]; exact Below.refl _ _⟩
end Go.Proofs.YthjgmpfdjhegfasDoor

/- Transforms by the project: factors, copies, halves and pairs, over the loaded program. -/
namespace Go.Proofs.YthjgmpfdjhegfasDoor
open Go.RowKit
/-- A row of the call's own whose room ends with it: its block holds just its cells. -/
theorem OwnV.full {w : World} {base g n : Nat} {e : TypeId} {xs : List Value} (h : OwnV w base e (.slice (some ⟨g, 0, none⟩) n n) xs) : base ≤ g ∧ n ≤ maxLen ∧ xs.length = n ∧ w.heap[g]? = some (.cells xs.toArray e (0, 0)) := by
  rcases h.2 with ⟨h1, _⟩ | ⟨g', cap, cur, h1, hb, h2, h3, h4, h5, h6⟩
  · cases h1
  · simp only [Value.slice.injEq, Option.some.injEq, Addr.mk.injEq] at h1
    obtain ⟨⟨e0, _⟩, e1, e2⟩ := h1
    subst e0
    have hc : cur = xs.toArray := by
      rw [← h6, List.take_of_length_le (by rw [Array.length_toList]; omega)]
    rw [← hc]
    exact ⟨hb, by omega, e1.symm, h2⟩
theorem ownV_of_full {w : World} {base g n : Nat} {e : TypeId} {xs : List Value} (hb : base ≤ g) (hm : n ≤ maxLen) (hl : xs.length = n) (h : w.heap[g]? = some (.cells xs.toArray e (0, 0))) : OwnV w base e (.slice (some ⟨g, 0, none⟩) n n) xs := by
  refine ⟨by rw [Nat.mul_one], .inr ⟨g, n, xs.toArray, by rw [hl], hb, h, by omega, hm, by simp [hl], ?_⟩⟩
  simp
theorem splice_all {α : Type} (L cs : List α) (h : L.length = cs.length) : splice L 0 cs = cs := by
  unfold splice
  rw [List.take_zero, List.nil_append, List.drop_eq_nil_of_le (by omega), List.append_nil]
theorem blockFactor_any (k : Nat) (hk : k < 128) (w : World) :
    Calls Tryd.prog 70 #[.int .i64 (k : Int)] w fun e w' => e = .returned (.int .i64 (zt k)) ∧ w' = w := by
  obtain ⟨T1, T2⟩ := zt_turn k hk
  have C1 := hide (implTurn7_w (k : Int) w)
  have C2 := hide (implPowQ_w 17 (t7 k : Int) w)
  rw [T1] at C1
  rw [T2] at C2
  generalize zt k = Z at *
  generalize (t7 k : Int) = tz at *
  clear T1 T2
  go_enter Tryd.func70, Tryd.ntmps70
  go_wp2_with fail
  refine (unhide C1).mono ?_
  rintro e w2 ⟨rfl, rfl⟩
  go_wp2_with fail
  refine (unhide C2).mono ?_
  rintro e w2 ⟨rfl, rfl⟩
  go_wp2
  go_ret
  exact ⟨rfl, rfl⟩
set_option maxRecDepth 20000 in
theorem copied_any (l : List Int) (va : Value) (w : World) (la : l.length = 256) (ra : RdV w va (l.map iv)) :
    Calls Tryd.prog 67 #[va] w fun e w' => e = .returned (.slice (some ⟨w.heap.size, 0, none⟩) 256 256) ∧ OwnV w' w.heap.size 3 (.slice (some ⟨w.heap.size, 0, none⟩) 256 256) (l.map iv) ∧ Below w.heap.size w w' := by
  obtain ⟨i0, hi, hz0, hz1, hz2⟩ := info_parts infoInt
  obtain ⟨a1, c1, rfl, hc1⟩ := ra.open
  rw [List.length_map, la]
  obtain ⟨g1, o1, rfl, hg1, _⟩ := hc1 0 _ (get_iv l 0 (by omega))
  have hcc := hide (show ∀ W, Below w.heap.size w W → ∀ j u, (l.map iv)[j]? = some u → W.cell? ((⟨g1, o1, none⟩ : Addr).add j) = some u from fun W hW j u hu => by
    obtain ⟨g', o', he, _, hd⟩ := hc1 j u hu
    cases he
    have hadd : (⟨g1, o1, none⟩ : Addr).add j = ⟨g1, o1 + j, none⟩ := by unfold Addr.add; split <;> simp_all
    rw [hadd, hW.cell (p := ⟨g1, o1 + j, none⟩) hg1]
    exact hd)
  have hsz : (Tryd.prog.info? 3).map (·.size) = some 1 := by rw [hi]; exact congrArg some hz1
  obtain ⟨cs, hcs⟩ : ∃ cs, cs = l.map iv := ⟨_, rfl⟩
  have hcl : cs.length = 256 := by rw [hcs, List.length_map]; exact la
  have ho := hide (show ∀ v ∈ cs, v.oneCell' = true by rw [hcs]; exact one_iv l)
  rw [← hcs] at hcc ⊢
  clear ra hc1 hcs
  go_enter Tryd.func67, Tryd.ntmps67
  go_wp2_with (first
    | (at_make; refine wpList_make_full _ rfl _ _ 31 rfl w.heap.size 3 i0 (.int .i64 0) 1 Tryd.underlying31 hi hz0 hz1 _ _ _ _ 256 rfl rfl rfl rfl (by rw [hz2]; omega) (by unfold maxLen; omega) (Nat.le_refl _) ?_; intro w1 hown1 hgrow1
       have hb0 : Below w.heap.size w w1 := (Below.refl w.heap.size w).grown hgrow1 (Nat.le_refl _) (fun k hk => by cases hk)
       have hr0 : OwnV w1 w.heap.size 3 (.slice (some ⟨w.heap.size, 0, none⟩) 256 256) ((List.replicate 256 0).map iv) := by
         rw [madeI] at hown1
         unfold OwnV
         simpa [iv] using hown1
       obtain ⟨f1, f2, f3, f4⟩ := hr0.full
       generalize (List.replicate 256 0).map iv = zs at *
       clear hown1 hgrow1 hr0)
    | (refine wpList_copy_splice rfl (.tmp 7) (.tmp 8) 31 31 rfl 3 Tryd.underlying31 hsz _ _ 256 256 256 c1 rfl rfl w.heap.size 0 zs _ f4 cs (hcl.trans (by decide)) (fun _ => ⟨rfl, _, rfl, unhide hcc _ hb0⟩) (by omega) (unhide ho) w.heap.size w hb0 (Nat.le_refl _) ?_; intro w2 hO2 hb2))
  rw [splice_all _ _ (by rw [f3, hcl])] at hO2
  have hO3 := hide (ownV_of_full (base := w.heap.size) (Nat.le_refl _) f2 hcl (unhide hO2))
  clear hO2 f4
  go_ret
  exact ⟨rfl, unhide hO3, hb2⟩
set_option maxRecDepth 20000 in
theorem halves_any (g st s md en : Nat) (w : World) (h1 : md = st + s) (h2 : en = md + s) (h3 : en ≤ 256) (h4 : 1 ≤ s) :
    Calls Tryd.prog 68 #[.slice (some ⟨g, 0, none⟩) 256 256, .int .i64 (st : Int), .int .i64 (s : Int)] w fun e w' => e = .returned (.tuple #[.slice (some ⟨g, st, none⟩) s s, .slice (some ⟨g, md, none⟩) s s]) ∧ ∃ q, w' = w.drewN q := by
  obtain ⟨s2, hs2⟩ : ∃ s2, s2 = 2 * s := ⟨_, rfl⟩
  have w1 : IntKind.i64.wrap ((st : Int) + (s : Int)) = (md : Int) := by rw [IntKind.wrap_i64]; omega
  have w2 : IntKind.i64.wrap (2 * (s : Int)) = (s2 : Int) := by rw [IntKind.wrap_i64]; omega
  have w3 : IntKind.i64.wrap ((st : Int) + (s2 : Int)) = (en : Int) := by rw [IntKind.wrap_i64]; omega
  have a1 : (0 : Int) ≤ (st : Int) := by omega
  have a2 : (st : Int) ≤ (md : Int) := by omega
  have a3 : (md : Int) ≤ (en : Int) := by omega
  have a4 : (en : Int) ≤ 256 := by omega
  have a5 : (md : Int) ≤ 256 := by omega
  have a6 : (0 : Int) ≤ (md : Int) := by omega
  have a7 : (0 : Int) ≤ (en : Int) := by omega
  have b1 : md - st = s := by omega
  have b2 : en - md = s := by omega
  have b3 : ¬ md = st := by omega
  have b4 : ¬ en = md := by omega
  have b5 : ¬ s = 0 := by omega
  have b6 : st < md := by omega
  have b7 : md < en := by omega
  replace h1 := hide h1; replace h2 := hide h2; replace hs2 := hide hs2
  go_enter Tryd.func68, Tryd.ntmps68
  go_wp2
  go_quiet (fail)
  go_wp2
  go_ret2
  exact ⟨rfl, _, rfl⟩
end Go.Proofs.YthjgmpfdjhegfasDoor

/- Transforms by the project: halves split and joined, over the loaded program. -/
namespace Go.Proofs.YthjgmpfdjhegfasDoor
open Go.RowKit
set_option maxRecDepth 20000 in
set_option maxHeartbeats 400000 in
theorem split_any (s b st md g base : Nat) (Z : Int) (zf F : Nat → Int) (w : World) (hS : Sz s) (hb : b < 128 / s) (hst : st = 2 * b * s) (hmd : md = st + s) (hz : zf b = Z) (hZ : 0 ≤ Z ∧ Z ≤ 3328) (hF : ∀ t, t < 256 → 0 ≤ F t ∧ F t ≤ 3328) (hgb : base ≤ g)
    (HO : OwnV w base 3 (.slice (some ⟨g, 0, none⟩) 256 256) ((mdG s (lay s zf F) F b 0).map iv)) :
    Calls Tryd.prog 73 #[.slice (some ⟨g, st, none⟩) s s, .slice (some ⟨g, md, none⟩) s s, .int .i64 Z] w fun e w' => e = .returned (.tuple #[]) ∧ OwnV w' base 3 (.slice (some ⟨g, 0, none⟩) 256 256) ((mdG s (lay s zf F) F (b + 1) 0).map iv) ∧ Below base w w' := by
  have hen : md + s ≤ 256 := by have := (blk_facts hS b).2.2.1 hb; omega
  have hb0 := Below.refl base w
  have hs0 : 1 ≤ s := by rcases hS with rfl | rfl | rfl | rfl | rfl | rfl | rfl <;> omega
  have n1 : ¬ st = md := by omega
  have n2 : ¬ md = st := by omega
  replace HO := hide HO; replace hS := hide hS; replace hb := hide hb; replace hst := hide hst; replace hmd := hide hmd; replace hz := hide hz; replace hF := hide hF
  go_enter Tryd.func73, Tryd.ntmps73
  go_wp2
  go_loopw [11] (fun tj wr => ∃ r : Nat, r ≤ s ∧ tj = .int .i64 (r : Int) ∧ Hid (OwnV wr base 3 (.slice (some ⟨g, 0, none⟩) 256 256) ((mdG s (lay s zf F) F b r).map iv)) ∧ Below base w wr) (fun tj _ => 256 - (intOf tj).toNat)
  case atStart => exact ⟨0, by omega, rfl, HO, hb0⟩
  case round =>
    clear HO hb0
    obtain ⟨r, hrs, rfl, HO, hB⟩ := hrel
    by_cases hr : r < s
    · have hr' : (r : Int) < (s : Int) := by omega
      have hr0 : (0 : Int) ≤ (r : Int) := by omega
      obtain ⟨old1, old2⟩ := mdG_old (unhide hS) (lay s zf F) F b r (unhide hb) hr
      have stp := mdG_step (unhide hS) (lay s zf F) F b r (unhide hb) hr
      rw [lay_lo (unhide hS) _ _ b r hr, lay_hi (unhide hS) _ _ b r hr, unhide hz] at stp
      have ej : 2 * b * s + r = st + r := by rw [unhide hst]
      have ejs : 2 * b * s + r + s = md + r := by rw [ej, unhide hmd]; omega
      rw [ejs, ej] at stp
      rw [ej] at old1
      rw [ejs] at old2
      have x1 := unhide hF (st + r) (by omega)
      have y1 := unhide hF (md + r) (by omega)
      have cj := (unhide HO).cell (get_iv _ (st + r) (by rw [mdG_len]; omega))
      have cjs := (unhide HO).cell (get_iv _ (md + r) (by rw [mdG_len]; omega))
      have zj := (unhide HO).frozen (st + r)
      have zjs := (unhide HO).frozen (md + r)
      rw [old1] at cj
      rw [old2] at cjs
      obtain ⟨x, hx⟩ : ∃ x, x = F (st + r) := ⟨_, rfl⟩
      obtain ⟨y, hy⟩ : ∃ y, y = F (md + r) := ⟨_, rfl⟩
      rw [← hx] at cj x1 stp
      rw [← hy] at cjs y1 stp
      have p1 : 0 ≤ Z * y := Int.mul_nonneg hZ.1 y1.1
      have p2 : Z * y ≤ 3328 * 3328 := Int.mul_le_mul hZ.2 y1.2 y1.1 (by omega)
      obtain ⟨p, hp⟩ : ∃ p, p = Z * y := ⟨_, rfl⟩
      rw [← hp] at p1 p2 stp
      obtain ⟨d1, hd1⟩ : ∃ d, d = x - p := ⟨_, rfl⟩
      obtain ⟨e1, he1⟩ : ∃ d, d = x + p := ⟨_, rfl⟩
      rw [← hd1, ← he1] at stp
      have C1 := hide (fun W => around_any d1 W)
      have C2 := hide (fun W => around_any e1 W)
      obtain ⟨v1, hv1⟩ : ∃ v, v = d1 % 3329 := ⟨_, rfl⟩
      obtain ⟨v2, hv2⟩ : ∃ v, v = e1 % 3329 := ⟨_, rfl⟩
      rw [← hv1] at stp C1
      rw [← hv2] at stp C2
      have q1 : IntKind.i64.wrap (Z * y) = p := by rw [← hp, IntKind.wrap_i64]; omega
      have q2 : IntKind.i64.wrap (x - p) = d1 := by rw [IntKind.wrap_i64]; omega
      have q3 : IntKind.i64.wrap (x + p) = e1 := by rw [IntKind.wrap_i64]; omega
      have hO2 := ((unhide HO).set (md + r) (.int .i64 v1)).set (st + r) (.int .i64 v2)
      rw [set_iv, set_iv, stp] at hO2
      have hB2 := (hB.setCell (p := ⟨g, md + r, none⟩) hgb (.int .i64 v1)).setCell (p := ⟨g, st + r, none⟩) hgb (.int .i64 v2)
      replace hO2 := hide hO2; replace hB2 := hide hB2
      replace hx := hide hx; replace hy := hide hy; replace hp := hide hp; replace hd1 := hide hd1; replace hv1 := hide hv1; replace he1 := hide he1; replace hv2 := hide hv2
      clear HO old1 old2 stp ej ejs hB
      go_wp2_with fail
      refine (unhide C1 _).mono ?_
      rintro e w2 ⟨rfl, hw2⟩
      have hw3 := hw2.symm
      subst hw3
      clear hw2
      go_wp2_with fail
      refine (unhide C2 _).mono ?_
      rintro e w2 ⟨rfl, hw2⟩
      have hw3 := hw2.symm
      subst hw3
      clear hw2
      go_wp2
      exact ⟨⟨r + 1, by omega, by go_num, hO2, unhide hB2⟩, by simp [intOf]; omega⟩
    · have hre : r = s := by omega
      have hr' : ¬ (r : Int) < (s : Int) := by omega
      have HO2 : Hid (OwnV wr base 3 (.slice (some ⟨g, 0, none⟩) 256 256) ((mdG s (lay s zf F) F (b + 1) 0).map iv)) := hide (by rw [← mdG_next (unhide hS)]; have h := unhide HO; rw [hre] at h; exact h)
      replace hre := hide hre
      clear HO
      go_wp2
      go_end0
      exact ⟨rfl, unhide HO2, hB⟩
set_option maxRecDepth 20000 in
set_option maxHeartbeats 400000 in
theorem join_any (s b st md g base : Nat) (Z : Int) (zf F : Nat → Int) (w : World) (hS : Sz s) (hb : b < 128 / s) (hst : st = 2 * b * s) (hmd : md = st + s) (hz : zf b = Z) (hZ : 0 ≤ Z ∧ Z ≤ 3328) (hF : ∀ t, t < 256 → 0 ≤ F t ∧ F t ≤ 3328) (hgb : base ≤ g)
    (HO : OwnV w base 3 (.slice (some ⟨g, 0, none⟩) 256 256) ((mdG s (ily s zf F) F b 0).map iv)) :
    Calls Tryd.prog 69 #[.slice (some ⟨g, st, none⟩) s s, .slice (some ⟨g, md, none⟩) s s, .int .i64 Z] w fun e w' => e = .returned (.tuple #[]) ∧ OwnV w' base 3 (.slice (some ⟨g, 0, none⟩) 256 256) ((mdG s (ily s zf F) F (b + 1) 0).map iv) ∧ Below base w w' := by
  have hen : md + s ≤ 256 := by have := (blk_facts hS b).2.2.1 hb; omega
  have hb0 := Below.refl base w
  have hs0 : 1 ≤ s := by rcases hS with rfl | rfl | rfl | rfl | rfl | rfl | rfl <;> omega
  have n1 : ¬ st = md := by omega
  have n2 : ¬ md = st := by omega
  replace HO := hide HO; replace hS := hide hS; replace hb := hide hb; replace hst := hide hst; replace hmd := hide hmd; replace hz := hide hz; replace hF := hide hF
  go_enter Tryd.func69, Tryd.ntmps69
  go_wp2
  go_loopw [10] (fun tj wr => ∃ r : Nat, r ≤ s ∧ tj = .int .i64 (r : Int) ∧ Hid (OwnV wr base 3 (.slice (some ⟨g, 0, none⟩) 256 256) ((mdG s (ily s zf F) F b r).map iv)) ∧ Below base w wr) (fun tj _ => 256 - (intOf tj).toNat)
  case atStart => exact ⟨0, by omega, rfl, HO, hb0⟩
  case round =>
    clear HO hb0
    obtain ⟨r, hrs, rfl, HO, hB⟩ := hrel
    by_cases hr : r < s
    · have hr' : (r : Int) < (s : Int) := by omega
      have hr0 : (0 : Int) ≤ (r : Int) := by omega
      obtain ⟨old1, old2⟩ := mdG_old (unhide hS) (ily s zf F) F b r (unhide hb) hr
      have stp := mdG_step' (unhide hS) (ily s zf F) F b r (unhide hb) hr
      rw [ily_lo (unhide hS) _ _ b r hr, ily_hi (unhide hS) _ _ b r hr, unhide hz] at stp
      have ej : 2 * b * s + r = st + r := by rw [unhide hst]
      have ejs : 2 * b * s + r + s = md + r := by rw [ej, unhide hmd]; omega
      rw [ejs, ej] at stp
      rw [ej] at old1
      rw [ejs] at old2
      have x1 := unhide hF (st + r) (by omega)
      have y1 := unhide hF (md + r) (by omega)
      have cj := (unhide HO).cell (get_iv _ (st + r) (by rw [mdG_len]; omega))
      have cjs := (unhide HO).cell (get_iv _ (md + r) (by rw [mdG_len]; omega))
      have zj := (unhide HO).frozen (st + r)
      have zjs := (unhide HO).frozen (md + r)
      rw [old1] at cj
      rw [old2] at cjs
      obtain ⟨x, hx⟩ : ∃ x, x = F (st + r) := ⟨_, rfl⟩
      obtain ⟨y, hy⟩ : ∃ y, y = F (md + r) := ⟨_, rfl⟩
      rw [← hx] at cj x1 stp
      rw [← hy] at cjs y1 stp
      obtain ⟨d1, hd1⟩ : ∃ d, d = y - x := ⟨_, rfl⟩
      obtain ⟨e1, he1⟩ : ∃ d, d = x + y := ⟨_, rfl⟩
      rw [← hd1, ← he1] at stp
      have p1 : Z * d1 ≤ Z * 3328 := Int.mul_le_mul_of_nonneg_left (by omega) hZ.1
      have p2 : Z * (-3328) ≤ Z * d1 := Int.mul_le_mul_of_nonneg_left (by omega) hZ.1
      obtain ⟨p, hp⟩ : ∃ p, p = Z * d1 := ⟨_, rfl⟩
      rw [← hp] at p1 p2 stp
      have C1 := hide (fun W => around_any p W)
      have C2 := hide (fun W => around_any e1 W)
      obtain ⟨v1, hv1⟩ : ∃ v, v = p % 3329 := ⟨_, rfl⟩
      obtain ⟨v2, hv2⟩ : ∃ v, v = e1 % 3329 := ⟨_, rfl⟩
      rw [← hv1] at stp C1
      rw [← hv2] at stp C2
      have q1 : IntKind.i64.wrap (Z * d1) = p := by rw [← hp, IntKind.wrap_i64]; omega
      have q2 : IntKind.i64.wrap (y - x) = d1 := by rw [IntKind.wrap_i64]; omega
      have q3 : IntKind.i64.wrap (x + y) = e1 := by rw [IntKind.wrap_i64]; omega
      have hO2 := ((unhide HO).set (st + r) (.int .i64 v2)).set (md + r) (.int .i64 v1)
      rw [set_iv, set_iv, stp] at hO2
      have hB2 := (hB.setCell (p := ⟨g, st + r, none⟩) hgb (.int .i64 v2)).setCell (p := ⟨g, md + r, none⟩) hgb (.int .i64 v1)
      replace hO2 := hide hO2; replace hB2 := hide hB2
      replace hx := hide hx; replace hy := hide hy; replace hp := hide hp; replace hd1 := hide hd1; replace hv1 := hide hv1; replace he1 := hide he1; replace hv2 := hide hv2
      clear HO old1 old2 stp ej ejs hB p1 p2
      go_wp2_with fail
      refine (unhide C2 _).mono ?_
      rintro e w2 ⟨rfl, hw2⟩
      have hw3 := hw2.symm
      subst hw3
      clear hw2
      go_wp2_with fail
      refine (unhide C1 _).mono ?_
      rintro e w2 ⟨rfl, hw2⟩
      have hw3 := hw2.symm
      subst hw3
      clear hw2
      go_wp2
      exact ⟨⟨r + 1, by omega, by go_num, hO2, unhide hB2⟩, by simp [intOf]; omega⟩
    · have hre : r = s := by omega
      have hr' : ¬ (r : Int) < (s : Int) := by omega
      have HO2 : Hid (OwnV wr base 3 (.slice (some ⟨g, 0, none⟩) 256 256) ((mdG s (ily s zf F) F (b + 1) 0).map iv)) := hide (by rw [← mdG_next (unhide hS)]; have h := unhide HO; rw [hre] at h; exact h)
      replace hre := hide hre
      clear HO
      go_wp2
      go_end0
      exact ⟨rfl, unhide HO2, hB⟩
end Go.Proofs.YthjgmpfdjhegfasDoor

