/- More text comes, by spec, over the loaded program. -/
import Derived.Test.YtecbpplocokedaaShaR
import Derived.Test.YtecbpplocokedaaShaM
import Derived.Laws.DeepStrings4
namespace Go.Proofs.Ytecbpplocokedaa
open Go.RowKit
theorem slice_lh (T : ByteArray) (i j : Nat) (w : World) (h1 : i ≤ j) (h2 : j ≤ T.size) : (Instr.slice 9 (.string T) (some (.int .i64 (i : Int))) (some (.int .i64 (j : Int))) none).run Try.prog w = .ok (.string (T.extract i j)) w := by
  rw [run_slice_string_if w 9 T .i64 .i64 (i : Int) (j : Int) Try.underlying9, if_pos (by omega), if_pos (by omega)]
  rfl
theorem slice_l (T : ByteArray) (i : Nat) (w : World) (h2 : i ≤ T.size) : (Instr.slice 9 (.string T) (some (.int .i64 (i : Int))) none none).run Try.prog w = .ok (.string (T.extract i T.size)) w := by
  rw [run_slice_string_l w 9 T Try.underlying9 .i64 (i : Int) (by omega) (by omega)]
  rfl
theorem toL_small {v : V8} (h : v.ok) : ∀ x ∈ v.toL, x < 4294967296 := by
  obtain ⟨h1, h2, h3, h4, h5, h6, h7, h8⟩ := h
  intro x hx
  simp only [V8.toL, List.mem_cons, List.not_mem_nil, or_false] at hx
  rcases hx with rfl | rfl | rfl | rfl | rfl | rfl | rfl | rfl <;> assumption
set_option maxRecDepth 20000 in
set_option maxHeartbeats 400000 in
theorem specMore_yes (a : Hs) (s : ByteArray) (w : World) (h1 : a.st.size ≤ maxLen) (h2 : a.rs.size ≤ 1048576) (hs : s.size ≤ 4000000) (hok : okH a = true) (hc : a.ct + (s.size : Int) ≤ 1000000000) :
    Calls Try.prog 54 #[hsv a, .string s] w fun e w' => e = .returned (hsv (moreH a s)) ∧ Below w.heap.size w w' := by
  have CO := hide (fun W => specOk_any a W h1 (by unfold maxLen; omega))
  rw [hok] at CO
  obtain ⟨q1, q2, q3, q4⟩ := okH_yes hok
  obtain ⟨st, rs, ct⟩ := a
  dsimp only at *
  obtain ⟨m, rfl⟩ : ∃ m : Nat, ct = (m : Int) := ⟨ct.toNat, by omega⟩
  have hts : (moreT ⟨st, rs, (m : Int)⟩ s).size ≤ 10000000 := by unfold moreT; rw [ByteArray.size_append]; dsimp only; omega
  have C1 := hide (fun W => specWords_any st 8 q1 (by decide) W)
  have hlt1 : ¬ 1000000000 < (m : Int) + (s.size : Int) := by omega
  have ew : IntKind.i64.wrap ((m : Int) + (s.size : Int)) = (m : Int) + (s.size : Int) := by rw [IntKind.wrap_i64]; omega
  have hm : m ≤ 1000000000 := by omega
  unfold hsv at CO ⊢
  dsimp only at CO ⊢
  clear q1 q2 q3 q4 h1 hok
  go_enter Try.func54, Try.ntmps54
  go_wp2_with fail
  obtain ⟨W, hW, hB, hR, hb, hlt⟩ := two_hash w ⟨st, rs, (m : Int)⟩ h0 74 74
  unfold h0 at hW
  dsimp only at hW
  rw [hW]
  clear hW
  refine ((unhide CO) W).mono ?_
  rintro e w1 ⟨rfl, hb1⟩
  have hB1 := hB.step hb1
  have hR1 := hide (hR.step hb1)
  have k0 := hB1.c0
  have k1 := hB1.c1
  have k2 := hB1.c2
  dsimp only at k0 k1 k2
  have hl1 := (unhide hR1).lt
  have hl1' := hB1.lt
  have HT1 := hide (hb.trans (hb1.mono (by omega)))
  replace hB1 := hide hB1
  clear hB hb hb1 hR hlt
  have hx : (moreT ⟨st, rs, (m : Int)⟩ s) = rs ++ s := rfl
  obtain ⟨T, hT⟩ : ∃ T, T = moreT ⟨st, rs, (m : Int)⟩ s := ⟨_, rfl⟩
  rw [← hT] at hts hx
  have HM : Hid (moreH ⟨st, rs, (m : Int)⟩ s = ⟨(blocksW (stOf st) T 0 (T.size / 64)).text, T.extract (64 * (T.size / 64)) T.size, (m : Int) + (s.size : Int)⟩) := hide (by rw [hT]; rfl)
  replace hT := hide hT
  replace hx := hide hx
  go_wp2_with fail
  refine ((unhide C1) w1).mono ?_
  rintro e w2 ⟨⟨a8, c8, rfl, hown2⟩, hb2⟩
  obtain ⟨g8, rfl, hg81, hg82⟩ := hown2.some_at (by omega)
  replace hown2 := hide hown2
  have hs12 := hb2.size
  have j1 := hb2.cell (p := ⟨w.heap.size, 1, none⟩) hl1'
  rw [k1] at j1
  go_wp2_with fail
  refine (specK_any w2).mono ?_
  rintro e w3 ⟨⟨a9, c9, rfl, hown3⟩, hb3⟩
  obtain ⟨g9, rfl, hg91, hg92⟩ := hown3.some_at (by omega)
  have HK := hide (hown3.low hs12)
  have HS := hide ((unhide hown2).below hb3)
  clear hown3 hown2
  have hB3 := ((unhide hB1).step hb2).step hb3
  have hR3 := hide (((unhide hR1).step hb2).step hb3)
  have i1 := hB3.c1
  have i2 := hB3.c2
  dsimp only at i1 i2
  have hl3 := (unhide hR3).lt
  have hl3' := hB3.lt
  have HT3 := hide (((unhide HT1).trans (hb2.mono (by omega))).trans (hb3.mono (by omega)))
  have hs13 : w1.heap.size ≤ w3.heap.size := by have := hb3.size; omega
  replace hB3 := hide hB3
  clear hB1 hR1 HT1 hl1 hl1' k0 k1 k2 hb2 hb3 j1
  go_wp2_with fail
  rw [← unhide hx]
  go_loopw [5, 8] (fun tv ti wq => ∃ q : Nat, 64 * q ≤ T.size ∧ ti = .int .i64 ((64 * q : Nat) : Int) ∧ (∃ g c, tv = .slice (some ⟨g, 0, none⟩) 8 c ∧ Hid (OwnV wq w1.heap.size 65 (.slice (some ⟨g, 0, none⟩) 8 c) ((blocksW (stOf st) T 0 q).toL.map u32v))) ∧ Below w3.heap.size w3 wq) (fun _ ti _ => T.size - (intOf ti).toNat)
  case atStart => exact ⟨0, by omega, rfl, ⟨g8, c8, rfl, HS⟩, Below.refl _ _⟩
  case round =>
    clear HS
    obtain ⟨q, hq, rfl, ⟨g, c, rfl, HS⟩, hb⟩ := hrel
    obtain ⟨i, hi⟩ : ∃ i, i = 64 * q := ⟨_, rfl⟩
    rw [← hi] at hq ⊢
    have hib : i ≤ 10000000 := by omega
    obtain ⟨j, hj⟩ : ∃ j, j = i + 64 := ⟨_, rfl⟩
    have ei : IntKind.i64.wrap ((i : Int) + 64) = (j : Int) := by rw [IntKind.wrap_i64]; omega
    by_cases hlt : j ≤ T.size
    · have hl4 : (j : Int) ≤ (T.size : Int) := by omega
      have hsl := slice_lh T i j wr (by omega) hlt
      have hxs : (T.extract i j).size = 64 := by rw [ByteArray.size_extract]; omega
      have HSt := hide (show blocksW (stOf st) T 0 (q + 1) = roundW (blocksW (stOf st) T 0 q) (T.extract i j) by rw [hj, hi]; simp only [blocksW, Nat.zero_add])
      have hOk := blocksW_ok (stOf_ok st) T 0 q
      have hKq := hide ((unhide HK).below hb)
      generalize T.extract i j = blk at *
      have C5 := hide (specRound_any (blocksW (stOf st) T 0 q) hOk blk hxs g c g9 c9 w1.heap.size wr (unhide HS) (unhide hKq))
      have hsz := hb.size
      replace hi := hide hi
      replace hj := hide hj
      clear hOk HS hKq hxs
      go_wp2_with fail
      refine (unhide C5).mono ?_
      rintro e w4 ⟨⟨g4, c4, rfl, hown4⟩, hb4⟩
      have hown5 := hide (hown4.low (base' := w1.heap.size) (by omega))
      rw [← unhide HSt] at hown5
      have hb5 := hb.trans (hb4.mono hsz)
      clear hown4 hb4 C5
      go_wp2
      go_roundw
      case rel => exact ⟨q + 1, by have := unhide hi; have := unhide hj; omega, by have := unhide hi; have := unhide hj; go_num, ⟨_, _, rfl, hown5⟩, hb5⟩
      case measure => have := unhide hi; have := unhide hj; simp [intOf]; omega
    · have hl4 : ¬ (j : Int) ≤ (T.size : Int) := by omega
      have hqe : q = T.size / 64 := by omega
      have hsl := slice_l T i wr (by omega)
      rw [hi, hqe] at hsl
      rw [← hqe, ← hi] at hsl
      have HM2 : Hid (moreH ⟨st, rs, (m : Int)⟩ s = ⟨(blocksW (stOf st) T 0 q).text, T.extract i T.size, (m : Int) + (s.size : Int)⟩) := hide (by rw [unhide HM, hi, hqe])
      have hOk := blocksW_ok (stOf_ok st) T 0 q
      have C6 := hide (fun (W : World) (hW : OwnV W w1.heap.size 65 (.slice (some ⟨g, 0, none⟩) 8 c) ((blocksW (stOf st) T 0 q).toL.map u32v)) => specBytes_any (blocksW (stOf st) T 0 q).toL (toL_small hOk) (by show 8 ≤ 1000; omega) _ w1.heap.size W hW)
      generalize blocksW (stOf st) T 0 q = v2 at *
      have hB5 := (unhide hB3).below hb hl3'
      have hR5 := hide ((unhide hR3).below hb hl3)
      have n2 := hB5.c2
      dsimp only at n2
      have hb5 := (unhide HT3).trans (hb.mono (by have := (unhide HT3).size; omega))
      have hs5 := hb.size
      replace hi := hide hi
      replace hj := hide hj
      replace hqe := hide hqe
      clear HM HK hB5
      go_wp2_with fail
      go_region_held3 (fun W => W.cell? ⟨w.heap.size, 2, none⟩ = some (.int .i64 (m : Int))) (first | exact n2 | exact n5 | exact keep3 n5 (by omega) | fail) (first
        | (go_at_call 68; refine ((unhide C6) _ (by exact unhide HS)).mono ?_; rintro e w5 ⟨rfl, hb6⟩; have hb7 := hb.drew.trans (hb6.mono hs5); have n5 := ((unhide hB3).below hb7 hl3').c2; have hR6 := (unhide hR3).below hb7 hl3; have r0 := hR6.c0; have r1 := hR6.c1; have r2 := hR6.c2; have f0 := hR6.frozen 0; have f1 := hR6.frozen 1; have f2 := hR6.frozen 2)
        | fail)
      have HT6 := hide ((unhide HT3).trans (hb7.mono (by have := (unhide HT3).size; omega)))
      have e2 : (⟨(bytesL v2.toL).toArray⟩ : ByteArray) = v2.text := rfl
      rw [e2]
      replace hR6 := hide hR6
      clear hb6 hb7 hb5 hb n2 n5 r0 r1 r2 f0 f1 f2 e2 C6
      go_wp2
      refine bodyPost_ret (v := hsv ⟨v2.text, T.extract i T.size, (m : Int) + (s.size : Int)⟩) (results_hash Try.results54 _ _ (w.heap.size + 1) 74 _ _ rfl (HB.set3 (unhide hR6) ⟨v2.text, T.extract i T.size, (m : Int) + (s.size : Int)⟩) Try.underlying74 (by kernel_rfl)) rfl ⟨by rw [unhide HM2]; rfl, ?_⟩
      exact (((unhide HT6).setCell (p := ⟨w.heap.size + 1, 0, none⟩) (Nat.le_succ _) _).setCell (p := ⟨w.heap.size + 1, 1, none⟩) (Nat.le_succ _) _).setCell (p := ⟨w.heap.size + 1, 2, none⟩) (Nat.le_succ _) _
set_option maxRecDepth 20000 in
set_option maxHeartbeats 400000 in
theorem specMore_no (a : Hs) (s : ByteArray) (w : World) (h1 : a.st.size ≤ maxLen) (h2 : a.rs.size ≤ maxLen) (hs : s.size ≤ 4000000) (hok : okH a = false ∨ (okH a = true ∧ 1000000000 < a.ct + (s.size : Int))) :
    Calls Try.prog 54 #[hsv a, .string s] w fun e w' => e = .returned (hsv a) ∧ Below w.heap.size w w' := by
  have CO := hide (fun W => specOk_any a W h1 h2)
  have hbd : okH a = true → 0 ≤ a.ct ∧ a.ct ≤ 1000000000 := fun h => ⟨(okH_yes h).2.1, (okH_yes h).2.2.1⟩
  obtain ⟨st, rs, ct⟩ := a
  dsimp only at *
  clear h1 h2
  unfold hsv
  dsimp only
  unfold hsv at CO
  dsimp only at CO
  generalize okH ⟨st, rs, ct⟩ = ok at *
  go_enter Try.func54, Try.ntmps54
  go_wp2_with fail
  obtain ⟨W, hW, hB, hR, hb, hlt⟩ := two_hash w ⟨st, rs, ct⟩ h0 74 74
  unfold h0 at hW
  dsimp only at hW
  rw [hW]
  clear hW
  refine ((unhide CO) W).mono ?_
  rintro e w1 ⟨rfl, hb1⟩
  have hB1 := hB.step hb1
  have hR1 := hide (hR.step hb1)
  have k0 := hB1.c0
  have k1 := hB1.c1
  have k2 := hB1.c2
  dsimp only at k0 k1 k2
  have r0 := (unhide hR1).c0
  have r1 := (unhide hR1).c1
  have r2 := (unhide hR1).c2
  have f0 := (unhide hR1).frozen 0
  have f1 := (unhide hR1).frozen 1
  have f2 := (unhide hR1).frozen 2
  have hl1 := (unhide hR1).lt
  have hl1' := hB1.lt
  have HT1 := hide (hb.trans (hb1.mono (by omega)))
  replace hB1 := hide hB1
  clear hB hb hb1 hR hlt CO
  rcases hok with rfl | ⟨rfl, hbig⟩
  · clear hbd
    go_wp2
    refine bodyPost_ret (v := hsv ⟨st, rs, ct⟩) (results_hash Try.results54 _ _ (w.heap.size + 1) 74 _ _ rfl (HB.set3 (unhide hR1) ⟨st, rs, ct⟩) Try.underlying74 (by kernel_rfl)) rfl ⟨rfl, ?_⟩
    exact (((unhide HT1).setCell (p := ⟨w.heap.size + 1, 0, none⟩) (Nat.le_succ _) _).setCell (p := ⟨w.heap.size + 1, 1, none⟩) (Nat.le_succ _) _).setCell (p := ⟨w.heap.size + 1, 2, none⟩) (Nat.le_succ _) _
  · obtain ⟨hb0, hb9⟩ := hbd rfl
    have hlt1 : 1000000000 < ct + (s.size : Int) := by omega
    have ew : IntKind.i64.wrap (ct + (s.size : Int)) = ct + (s.size : Int) := by rw [IntKind.wrap_i64]; omega
    clear hbd
    go_wp2
    refine bodyPost_ret (v := hsv ⟨st, rs, ct⟩) (results_hash Try.results54 _ _ (w.heap.size + 1) 74 _ _ rfl (HB.set3 (unhide hR1) ⟨st, rs, ct⟩) Try.underlying74 (by kernel_rfl)) rfl ⟨rfl, ?_⟩
    exact (((unhide HT1).setCell (p := ⟨w.heap.size + 1, 0, none⟩) (Nat.le_succ _) _).setCell (p := ⟨w.heap.size + 1, 1, none⟩) (Nat.le_succ _) _).setCell (p := ⟨w.heap.size + 1, 2, none⟩) (Nat.le_succ _) _
end Go.Proofs.Ytecbpplocokedaa
