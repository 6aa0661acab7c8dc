/- Things that are read, by the given model, over the loaded program. -/
import Derived.Test.YtjhjoaihdpahhaaThg3
import Derived.Laws.CopyOwn
namespace Go.Proofs.Ytjhjoaihdpahhaa
open Go.RowKit
theorem neStr9 {a b : ByteArray} (h : ¬ a = b) : (a.toList == b.toList) = false := by
  rw [← beq_toListBytes]
  show (a.data == b.data) = false
  rw [beq_eq_false_iff_ne]
  intro e
  apply h
  cases a
  cases b
  simp_all
theorem bit_eq (n : Nat) : (((n : Int) % 2 == 1) = decide (n % 2 = 1)) := by
  by_cases h : n % 2 = 1
  · rw [decide_eq_true h]; simp; omega
  · rw [decide_eq_false h, beq_eq_false_iff_ne]; omega
theorem rdX_eq {t : ByteArray} {n1 a1 n2 a2 n3 a3 a4 n5 a5 : Nat} {b1 b2 b3 b4 b5 : Bool} {s4 : ByteArray} (h1 : vrS t 0 false = (n1, a1, b1)) (h2 : onS t a1 b1 = (n2, a2, b2)) (h3 : onS t a2 b2 = (n3, a3, b3)) (h4 : shS t a3 b3 = (s4, a4, b4)) (h5 : vrS t a4 b4 = (n5, a5, b5)) :
    rdX t = (⟨(n1 : Int), (n2 : Int), decide (n3 % 2 = 1), decide (n3 / 2 % 2 = 1), decide (n3 / 4 % 2 = 1), decide (n3 / 8 % 2 = 1), s4, (n5 : Int)⟩, b5) := by
  unfold rdX
  simp only [h1, h2, h3, h4, h5]
theorem th_one (x : Th) : (thC x).all (·.oneCell') = true := by unfold thC; simp [Value.oneCell']
theorem th_size (x : Th) : (Try.prog.info? 26).map (·.size) = some (thC x).size := by
  have h : (Try.prog.info? 26).map (·.size) = some 8 := by kernel_rfl
  rw [h]; rfl
set_option maxRecDepth 20000 in
set_option maxHeartbeats 4000000 in
theorem specReadThing_any (t : ByteArray) (ht : t.size ≤ 1048576) (w : World) :
    Calls Try.prog 12 #[.string t] w fun e w' => e = .returned (.tuple #[.agg (thC (rdTh t)), .bool (rdOk t)]) ∧ Below w.heap.size w w' := by
  have C1 := hide (fun g W h => l19Var_any t ht 0 false (Nat.zero_le _) g W h)
  have L1 := vrS_le t 0 false (Nat.zero_le _)
  rcases hv1 : vrS t 0 false with ⟨n1, a1, b1⟩
  rw [hv1] at C1 L1
  have C2 := hide (fun g W h => l19One_any t ht a1 b1 L1 g W h)
  have L2 := onS_le t a1 b1 L1
  rcases hv2 : onS t a1 b1 with ⟨n2, a2, b2⟩
  rw [hv2] at C2 L2
  have C3 := hide (fun g W h => l19One_any t ht a2 b2 L2 g W h)
  have L3 := onS_le t a2 b2 L2
  have M3 := onS_lt t a2 b2
  rcases hv3 : onS t a2 b2 with ⟨n3, a3, b3⟩
  rw [hv3] at C3 L3 M3
  have C4 := hide (fun g W h => l19ReadShort_any t ht a3 b3 L3 g W h)
  have L4 := shS_le t a3 b3 L3
  rcases hv4 : shS t a3 b3 with ⟨s4, a4, b4⟩
  rw [hv4] at C4 L4
  have C5 := hide (fun g W h => l19Var_any t ht a4 b4 L4 g W h)
  rcases hv5 : vrS t a4 b4 with ⟨n5, a5, b5⟩
  rw [hv5] at C5
  have EX := rdX_eq hv1 hv2 hv3 hv4 hv5
  simp only at C1 C2 C3 C4 C5 M3
  have CT := hide (fun W => specThingText_any (rdX t).1 W)
  have hOk := rdOk_iff t
  have hTh : rdTh t = if rdOk t = true then (rdX t).1 else thZ := rfl
  have hTT : ttB (rdX t).1 = if thOk (rdX t).1 = true then thT (rdX t).1 else ⟨#[]⟩ := rfl
  have hOk2 := thOk_iff (rdX t).1
  rw [hTh]
  rw [EX] at CT hOk hTT hOk2 ⊢
  simp only at CT hOk hTT hOk2 ⊢
  have e1 := bit_eq n3
  have e2 := bit_eq (n3 / 2)
  have e4 := bit_eq (n3 / 4)
  have e8 := bit_eq (n3 / 8)
  obtain ⟨m2, hm2⟩ : ∃ m, m = n3 / 2 := ⟨_, rfl⟩
  obtain ⟨m4, hm4⟩ : ∃ m, m = n3 / 4 := ⟨_, rfl⟩
  obtain ⟨m8, hm8⟩ : ∃ m, m = n3 / 8 := ⟨_, rfl⟩
  have q2 : (n3 : Int) / 2 = (m2 : Int) := by omega
  have q4 : (n3 : Int) / 4 = (m4 : Int) := by omega
  have q8 : (n3 : Int) / 8 = (m8 : Int) := by omega
  rw [← hm2] at e2 CT hOk hTT hOk2 ⊢
  rw [← hm4] at e4 CT hOk hTT hOk2 ⊢
  rw [← hm8] at e8 CT hOk hTT hOk2 ⊢
  have hn3 : n3 < 256 := M3
  have hl2 : m2 < 256 := by omega
  have hl4 : m4 < 256 := by omega
  have hl8 : m8 < 256 := by omega
  generalize decide (n3 % 2 = 1) = f1 at *
  generalize decide (m2 % 2 = 1) = f2 at *
  generalize decide (m4 % 2 = 1) = f4 at *
  generalize decide (m8 % 2 = 1) = f8 at *
  generalize hx : (⟨(n1 : Int), (n2 : Int), f1, f2, f4, f8, s4, (n5 : Int)⟩ : Th) = x at *
  have hxc : thC x = #[.int .i64 (n1 : Int), .int .i64 (n2 : Int), .bool f1, .bool f2, .bool f4, .bool f8, .string s4, .int .i64 (n5 : Int)] := by rw [← hx]; rfl
  generalize rdOk t = fin at *
  generalize thOk x = ok at *
  generalize ttB x = tb at *
  replace hm2 := hide hm2; replace hm4 := hide hm4; replace hm8 := hide hm8; replace hx := hide hx; replace EX := hide EX; replace hTh := hide hTh
  clear hv1 hv2 hv3 hv4 hv5 L1 L2 L3 L4
  obtain ⟨W, hW, hR, hCu, hb, hlt⟩ := two_cb w (thC thZ) (cuC t 0 false) 26 46
  unfold thC thZ at hW
  rw [show cuC t 0 false = #[.string t, .int .i64 0, .bool false] from rfl] at hW
  simp only at hW
  replace hR := hide hR
  go_enter Try.func12, Try.ntmps12
  go_wp2_with fail
  refine (unhide C1 _ W hCu).mono ?_
  rintro e w1 ⟨rfl, hC1, hG1⟩
  have hR1 := (unhide hR).grown hG1 (by simp)
  have hB1 : Below w.heap.size w w1 := below_gr hb hG1 (by omega)
  have hz1 : w.heap.size + 1 < w1.heap.size := Nat.lt_of_lt_of_le hlt hG1.size
  go_wp2_with fail
  obtain ⟨W2, hW2, hX2, hb2, hl2'⟩ := one_cb w1 #[.int .i64 (n1 : Int), .int .i64 0, .bool false, .bool false, .bool false, .bool false, .string ⟨#[]⟩, .int .i64 0] 26
  rw [hW2]
  have hCu2 := hC1.below hb2 hC1.lt
  have hR2 := hR1.below hb2 hR1.lt
  have hB2 := hB1.trans (hb2.mono hB1.size)
  clear hb hG1 hC1 hR1 hb2 hCu hR hlt hB1 C1
  replace hX2 := hide hX2; replace hR2 := hide hR2
  refine (unhide C2 _ W2 hCu2).mono ?_
  rintro e w3 ⟨rfl, hC3, hG3⟩
  have hX3 := (unhide hX2).grown hG3 (by simp; omega)
  have hR3 := (unhide hR2).grown hG3 (by simp)
  have hB3 := below_gr hB2 hG3 (by omega)
  clear hX2 hR2 hB2 hG3 hCu2 C2 hW2
  have p1 := hX3.cell 1 rfl
  have z1 := hX3.frozen 1
  have hX4 := hide (hX3.set 1 (.int .i64 (n2 : Int)))
  have hC4 := hC3.set_other (h := w1.heap.size) (k := 1) (by omega) (.int .i64 (n2 : Int))
  have hR4 := hide (hR3.set_other (h := w1.heap.size) (k := 1) (by omega) (.int .i64 (n2 : Int)))
  have hB4 := hB3.setCell (p := ⟨w1.heap.size, 1, none⟩) (show w.heap.size ≤ w1.heap.size by omega) (.int .i64 (n2 : Int))
  replace hX3 := hide hX3; replace hC3 := hide hC3; replace hR3 := hide hR3; replace hB3 := hide hB3
  go_wp2_with fail
  refine (unhide C3 _ _ hC4).mono ?_
  rintro e w5 ⟨rfl, hC5, hG5⟩
  have hX5 := (unhide hX4).grown hG5 (by simp; omega)
  have hR5 := (unhide hR4).grown hG5 (by simp)
  have hB5 := below_gr hB4 hG5 (by omega)
  clear hX4 hR4 hB4 hG5 hC4 hX3 hC3 hR3 hB3 p1 z1 C3
  have p2 := hX5.cell 2 rfl
  have z2 := hX5.frozen 2
  have hX6 := hX5.set 2 (.bool f1)
  have hC6 := hC5.set_other (h := w1.heap.size) (k := 2) (by omega) (.bool f1)
  have hR6 := hR5.set_other (h := w1.heap.size) (k := 2) (by omega) (.bool f1)
  have hB6 := hB5.setCell (p := ⟨w1.heap.size, 2, none⟩) (show w.heap.size ≤ w1.heap.size by omega) (.bool f1)
  have p3 := hX6.cell 3 rfl
  have z3 := hX6.frozen 3
  have hX7 := hX6.set 3 (.bool f2)
  have hC7 := hC6.set_other (h := w1.heap.size) (k := 3) (by omega) (.bool f2)
  have hR7 := hR6.set_other (h := w1.heap.size) (k := 3) (by omega) (.bool f2)
  have hB7 := hB6.setCell (p := ⟨w1.heap.size, 3, none⟩) (show w.heap.size ≤ w1.heap.size by omega) (.bool f2)
  have p4 := hX7.cell 4 rfl
  have z4 := hX7.frozen 4
  have hX8 := hX7.set 4 (.bool f4)
  have hC8 := hC7.set_other (h := w1.heap.size) (k := 4) (by omega) (.bool f4)
  have hR8 := hR7.set_other (h := w1.heap.size) (k := 4) (by omega) (.bool f4)
  have hB8 := hB7.setCell (p := ⟨w1.heap.size, 4, none⟩) (show w.heap.size ≤ w1.heap.size by omega) (.bool f4)
  have p5 := hX8.cell 5 rfl
  have z5 := hX8.frozen 5
  have hX9 := hide (hX8.set 5 (.bool f8))
  have hC9 := hC8.set_other (h := w1.heap.size) (k := 5) (by omega) (.bool f8)
  have hR9 := hide (hR8.set_other (h := w1.heap.size) (k := 5) (by omega) (.bool f8))
  have hB9 := hB8.setCell (p := ⟨w1.heap.size, 5, none⟩) (show w.heap.size ≤ w1.heap.size by omega) (.bool f8)
  clear hX5 hC5 hR5 hB5 hX6 hC6 hR6 hB6 hX7 hC7 hR7 hB7 hX8 hC8 hR8 hB8
  go_wp2_with fail
  refine (unhide C4 _ _ hC9).mono ?_
  rintro e w10 ⟨rfl, hC10, hG10⟩
  have hX10 := (unhide hX9).grown hG10 (by simp; omega)
  have hR10 := (unhide hR9).grown hG10 (by simp)
  have hB10 := below_gr hB9 hG10 (by omega)
  clear hX9 hR9 hB9 hG10 hC9 p2 p3 p4 p5 z2 z3 z4 z5 C4
  have p6 := hX10.cell 6 rfl
  have z6 := hX10.frozen 6
  have hX11 := hide (hX10.set 6 (.string s4))
  have hC11 := hC10.set_other (h := w1.heap.size) (k := 6) (by omega) (.string s4)
  have hR11 := hide (hR10.set_other (h := w1.heap.size) (k := 6) (by omega) (.string s4))
  have hB11 := hB10.setCell (p := ⟨w1.heap.size, 6, none⟩) (show w.heap.size ≤ w1.heap.size by omega) (.string s4)
  clear hX10 hC10 hR10 hB10
  go_wp2_with fail
  refine (unhide C5 _ _ hC11).mono ?_
  rintro e w12 ⟨rfl, hC12, hG12⟩
  have hX12 := (unhide hX11).grown hG12 (by simp; omega)
  have hR12 := (unhide hR11).grown hG12 (by simp)
  have hB12 := below_gr hB11 hG12 (by omega)
  clear hX11 hR11 hB11 hG12 hC11 p6 z6 C5
  have p7 := hX12.cell 7 rfl
  have z7 := hX12.frozen 7
  have hX13 := hX12.set 7 (.int .i64 (n5 : Int))
  have hC13 := hC12.set_other (h := w1.heap.size) (k := 7) (by omega) (.int .i64 (n5 : Int))
  have hR13 := hR12.set_other (h := w1.heap.size) (k := 7) (by omega) (.int .i64 (n5 : Int))
  have hB13 := hB12.setCell (p := ⟨w1.heap.size, 7, none⟩) (show w.heap.size ≤ w1.heap.size by omega) (.int .i64 (n5 : Int))
  have hX13' : CB (w12.setCell ⟨w1.heap.size, 7, none⟩ (.int .i64 (n5 : Int))) w1.heap.size 26 #[.int .i64 (n1 : Int), .int .i64 (n2 : Int), .bool f1, .bool f2, .bool f4, .bool f8, .string s4, .int .i64 (n5 : Int)] := hX13
  clear hX12 hC12 hR12 hB12 hX13
  have r0 := hX13'.cell 0 rfl
  have r1 := hX13'.cell 1 rfl
  have r2 := hX13'.cell 2 rfl
  have r3 := hX13'.cell 3 rfl
  have r4 := hX13'.cell 4 rfl
  have r5 := hX13'.cell 5 rfl
  have r6 := hX13'.cell 6 rfl
  have r7 := hX13'.cell 7 rfl
  rw [hxc] at CT
  replace hX13' := hide hX13'; replace hC13 := hide hC13; replace hR13 := hide hR13; replace hB13 := hide hB13
  go_wp2_with fail
  refine (unhide CT _).mono ?_
  rintro e w14 ⟨rfl, hb14⟩
  have hC14 := (unhide hC13).step hb14
  have hX14 := hide ((unhide hX13').step hb14)
  have hR14 := hide ((unhide hR13).step hb14)
  have hB14 := hide ((unhide hB13).trans (hb14.mono (unhide hB13).size))
  have k2 := hC14.cell 2 rfl
  obtain ⟨y, hy⟩ : ∃ y : Th, y = ⟨(n1 : Int), (n2 : Int), f1, f2, f4, f8, s4, (n5 : Int)⟩ := ⟨_, rfl⟩
  have hX15 : Hid (CB w14 w1.heap.size 26 (thC y)) := by rw [hy]; exact hX14
  have hyc := hide (show thC y = thC x by rw [hxc, hy]; rfl)
  clear hxc
  replace hy := hide hy
  clear hX14
  clear r0 r1 r2 r3 r4 r5 r6 r7 p7 z7 hX13' hC13 hR13 hB13 hb14 CT hC14
  clear M3 q2 q4 q8 hn3 hl2 hl4 hl8 e1 e2 e4 e8 hm2 hm4 hm8 EX hTh
  cases b5 with
  | true =>
    obtain rfl : fin = false := by cases fin with | false => rfl | true => exact absurd (hOk.1 rfl).1 (by simp)
    clear hOk hOk2 hTT hX15
    go_wp2_with (refine wpList_store_row rfl 26 (.tmp 2) (.tmp 63) rfl w.heap.size (thC thZ) rfl rfl 26 (thC thZ) (unhide hR14) (th_size thZ) rfl (th_one thZ) ?_)
    have hR15 := setRow_heap _ w.heap.size _ (thC thZ) 26 (0, 0) (unhide hR14)
    have hB15 := Go.below_setRow (unhide hB14) (Nat.le_refl _) (thC thZ)
    exact bodyPost_ret (results_cb_tmp (by exact Try.results12) _ _ w.heap.size 26 (thC thZ) _ rfl hR15 Try.underlying26 (th_size thZ)) rfl ⟨rfl, hB15⟩
  | false =>
    cases ok with
    | false =>
      obtain rfl : fin = false := by cases fin with | false => rfl | true => exact absurd (hOk2.2 (hOk.1 rfl).2.1) (by simp)
      clear hOk hOk2 hTT hX15
      go_wp2_with (refine wpList_store_row rfl 26 (.tmp 2) (.tmp 63) rfl w.heap.size (thC thZ) rfl rfl 26 (thC thZ) (unhide hR14) (th_size thZ) rfl (th_one thZ) ?_)
      have hR15 := setRow_heap _ w.heap.size _ (thC thZ) 26 (0, 0) (unhide hR14)
      have hB15 := Go.below_setRow (unhide hB14) (Nat.le_refl _) (thC thZ)
      exact bodyPost_ret (results_cb_tmp (by exact Try.results12) _ _ w.heap.size 26 (thC thZ) _ rfl hR15 Try.underlying26 (th_size thZ)) rfl ⟨rfl, hB15⟩
    | true =>
      rw [if_pos rfl] at hTT
      by_cases he : tb = t
      · obtain rfl : fin = true := hOk.2 ⟨rfl, hOk2.1 rfl, by rw [← hTT]; exact he⟩
        have he' : (tb.toList == t.toList) = true := by rw [he]; exact beq_self_eq_true _
        replace he := hide he
        replace hTT := hide hTT
        clear hOk hOk2
        go_wp2_with (first
          | (refine wpList_load_row rfl 26 (.tmp 5) rfl w1.heap.size rfl 26 (thC y) (0, 0) _ (unhide hX15) Try.underlying26 rfl (th_size y) ?_)
          | (refine wpList_store_row rfl 26 (.tmp 2) (.tmp 64) rfl w.heap.size (thC y) rfl rfl 26 (thC thZ) (unhide hR14) (th_size y) rfl (th_one y) ?_))
        have hR15 := setRow_heap _ w.heap.size _ (thC y) 26 (0, 0) (unhide hR14)
        have hB15 := Go.below_setRow (unhide hB14) (Nat.le_refl _) (thC y)
        exact bodyPost_ret (results_cb_tmp (by exact Try.results12) _ _ w.heap.size 26 (thC y) _ rfl hR15 Try.underlying26 (th_size y)) rfl ⟨by show _ = Ending.returned (.tuple #[.agg (thC x), .bool true]); rw [← unhide hyc]; exact rfl, hB15⟩
      · obtain rfl : fin = false := by cases fin with | false => rfl | true => exact absurd (hTT.trans (hOk.1 rfl).2.2) he
        have he' : (tb.toList == t.toList) = false := neStr9 he
        replace he := hide he
        replace hTT := hide hTT
        clear hOk hOk2 hX15
        go_wp2_with (refine wpList_store_row rfl 26 (.tmp 2) (.tmp 63) rfl w.heap.size (thC thZ) rfl rfl 26 (thC thZ) (unhide hR14) (th_size thZ) rfl (th_one thZ) ?_)
        have hR15 := setRow_heap _ w.heap.size _ (thC thZ) 26 (0, 0) (unhide hR14)
        have hB15 := Go.below_setRow (unhide hB14) (Nat.le_refl _) (thC thZ)
        exact bodyPost_ret (results_cb_tmp (by exact Try.results12) _ _ w.heap.size 26 (thC thZ) _ rfl hR15 Try.underlying26 (th_size thZ)) rfl ⟨rfl, hB15⟩
end Go.Proofs.Ytjhjoaihdpahhaa
