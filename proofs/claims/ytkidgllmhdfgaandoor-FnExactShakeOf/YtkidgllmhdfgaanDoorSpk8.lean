/- Streams taken from, by the given model, over the loaded program. -/
import Derived.Test.YtkidgllmhdfgaanDoorSpk7
namespace Go.Proofs.YtkidgllmhdfgaanDoor
open Go.RowKit
set_option maxRecDepth 20000 in
set_option maxHeartbeats 2000000 in
theorem specTake_yes (st : ByteArray) (p0 n : Nat) (h2 : st.size = 200) (hp0 : p0 ≤ 168) (hn : n ≤ 4000) (w : World) :
    Calls Tryd.prog 20 #[smv ⟨st, (p0 : Int)⟩, .int .i64 (n : Int)] w fun e w' => e = .returned (.tuple #[smv ⟨textN (endS st p0 n).a, ((endS st p0 n).p : Int)⟩, .string ⟨(endS st p0 n).out.toArray⟩]) ∧ Below w.heap.size w w' := by
  obtain ⟨i0, hi, hz0, hz1, hz2⟩ := info_parts Tryd.infoByte
  have C1 := hide (fun W => in_any (n : Int) 0 4000 W)
  have C2 := hide (fun W => in_any (p0 : Int) 0 168 W)
  rw [show (decide (0 ≤ (n : Int)) && decide ((n : Int) ≤ 4000)) = true by simp; omega] at C1
  rw [show (decide (0 ≤ (p0 : Int)) && decide ((p0 : Int) ≤ 168)) = true by simp; omega] at C2
  have h2' : (st.size : Int) = 200 := by omega
  have hok0 : Hid (Gv.ok n ⟨lanesS st, p0, []⟩) := hide ⟨lanesS_ok st, hp0, Nat.zero_le _⟩
  have hst := text_lanes st h2
  unfold endS
  generalize lanesS st = a0 at *
  unfold smv
  dsimp only
  go_enter Tryd.func20, Tryd.ntmps20
  go_wp2_with fail
  obtain ⟨W, hW, hB, hR, hb, hlt⟩ := two_sm w ⟨st, (p0 : Int)⟩ s0 39 39
  unfold s0 at hW
  dsimp only at hW
  rw [hW]
  clear hW
  have k0 := hB.c0
  have k1 := hB.c1
  dsimp only at k0 k1
  have HB0 := hide (hB.alloc (.cells #[] 5))
  have HR0 := hide (hR.alloc (.cells #[] 5))
  have HT0 := hide (hb.alloc (by omega) (.cells #[] 5))
  have HO0 : Hid (OwnB (W.alloc (.cells #[] 5)) W.heap.size 5 (.slice (some ⟨W.heap.size, 0, none⟩) 0 0) []) := hide (World.ownsRow_made W #[] 0 (Nat.le_refl _) (by decide) (by simp))
  rw [← hst] at HB0
  replace hst := hide hst
  clear hB hR hb
  refine ((unhide C1) W).mono ?_
  rintro e w1 ⟨rfl, hw1⟩
  have hw1' := hw1.symm
  subst hw1'
  go_wp2_with (go_at_call 19; refine ((unhide C2) _).mono ?_; rintro e w2 ⟨rfl, hw2⟩; have hw2' := hw2.symm; subst hw2')
  go_loopw [6] (fun tv wr => ∃ k : Nat, Hid (k ≤ (gvRun n ⟨a0, p0, []⟩ k).out.length) ∧ Hid (OwnB wr W.heap.size 5 tv (gvRun n ⟨a0, p0, []⟩ k).out) ∧ Hid (SB wr w.heap.size 39 ⟨textN (gvRun n ⟨a0, p0, []⟩ k).a, ((gvRun n ⟨a0, p0, []⟩ k).p : Int)⟩) ∧ Hid (SB wr (w.heap.size + 1) 39 s0) ∧ Hid (Below w.heap.size w wr) ∧ W.heap.size ≤ wr.heap.size) (fun tv _ => n - lenV tv)
  case atStart => exact ⟨0, hide (Nat.le_refl _), HO0, HB0, HR0, HT0, by simp⟩
  case round =>
    clear HO0 HB0 HR0 HT0 k0 k1
    obtain ⟨k, HK, HO, HS, HR, HT, hsw⟩ := hrel
    have hok := gvRun_ok (unhide hok0) k
    have HN1 : Hid (gvRun n ⟨a0, p0, []⟩ (k + 1) = if (gvRun n ⟨a0, p0, []⟩ k).out.length < n then gvStep n (gvRun n ⟨a0, p0, []⟩ k) else gvRun n ⟨a0, p0, []⟩ k) := hide rfl
    have HE : Hid (¬ (gvRun n ⟨a0, p0, []⟩ k).out.length < n → k ≤ n → gvEnd n ⟨a0, p0, []⟩ = gvRun n ⟨a0, p0, []⟩ k) := hide (fun h1 h2 => gvEnd_is h1 h2)
    generalize gvRun n ⟨a0, p0, []⟩ k = cur at *
    obtain ⟨a, p, out⟩ := cur
    obtain ⟨hoa, hop, hol⟩ := hok
    dsimp only at *
    obtain ⟨m, hm⟩ : ∃ m, m = out.length := ⟨_, rfl⟩
    rw [← hm] at hol HK HN1 HE
    have h9 : wr.ownsRow W.heap.size 5 1 u6 m (out.map bv) := by
      have := unhide HO
      unfold OwnB at this
      rw [← hm] at this
      exact this
    obtain ⟨a9, c9, hv9⟩ : ∃ a c, u6 = .slice a m c := by
      rcases h9.2 with ⟨h, h'⟩ | ⟨g, cap, cur, h, _⟩
      · exact ⟨none, 0, by rw [h, h']⟩
      · exact ⟨_, cap, h⟩
    subst hv9
    have c0 := (unhide HS).c0
    have c1 := (unhide HS).c1
    dsimp only at c0 c1
    by_cases hlt : m < n
    · have hlt' : (m : Int) < (n : Int) := by omega
      by_cases h168 : p = 168
      · have h168' : (p : Int) = 168 := by omega
        by_cases hcs : n - m < 168
        · have HA2 : gvA ⟨a, p, out⟩ = keccak a := by unfold gvA; rw [if_pos h168]
          have HP2 : gvP ⟨a, p, out⟩ = 0 := by unfold gvP; rw [if_pos h168]
          obtain ⟨kk, hkk⟩ : ∃ k, k = n - m := ⟨_, rfl⟩
          have ek : (n : Int) - (m : Int) = (kk : Int) := by omega
          have hcc : (kk : Int) < 168 := by omega
          have heN : gvE n ⟨a, p, out⟩ = kk := by unfold gvE; rw [HP2]; dsimp only; rw [← hm]; omega
          have hokA := gvA_ok (g := ⟨a, p, out⟩) hoa
          rw [HA2] at hokA
          have hTs := textN_size hokA.1
          have hsl : ∀ V, (Instr.slice 9 (.string (textN (keccak a))) (some (.int .i64 0)) (some (.int .i64 (kk : Int))) none).run Tryd.prog V = .ok (.string ((textN (keccak a)).extract 0 kk)) V := fun V => cut_lh (textN (keccak a)) 0 kk V (by omega) (by omega)
          have hxs : ((textN (keccak a)).extract 0 kk).size = kk - 0 := by rw [ByteArray.size_extract]; omega
          have hstep : Hid (gvRun n ⟨a0, p0, []⟩ (k + 1) = ⟨keccak a, kk, out ++ ((textN (keccak a)).extract 0 kk).data.toList⟩) := hide (by rw [unhide HN1, if_pos hlt]; unfold gvStep; rw [HA2, HP2, heN])
          have hadv : 0 < kk ∧ m + (kk - 0) ≤ n := by omega
          replace h9 := hide h9
          replace hkk := hide hkk
          have C3 := hide (fun V => specPermute_any (textN a) V)
          rw [perm_text hoa] at C3
          clear HA2 HP2 heN HE HO hokA
          obtain ⟨x, hx⟩ : ∃ x, x = (textN (keccak a)).extract 0 kk := ⟨_, rfl⟩
          rw [← hx] at hsl hxs hstep
          have hxe := hx.symm
          clear hx
          obtain ⟨T, hT⟩ : ∃ T, T = textN (keccak a) := ⟨_, rfl⟩
          rw [← hT] at hxe
          rw [← hT] at hsl C3 hTs
          have HTT := hide hT
          clear hT
          replace hm := hide hm
          have C4 := unhide C3
          clear C3
          replace C4 := hide C4
          go_wp2_with fail
          refine ((unhide C4) wr).mono ?_
          rintro e w2 ⟨rfl, hb2⟩
          have hS2 := (unhide HS).step hb2
          have z0 := hS2.c0; have z1 := hS2.c1; have f0 := hS2.frozen 0; have f1 := hS2.frozen 1
          have hSc := hS2.set2 ⟨T, 0⟩
          dsimp only at hSc z0 z1
          have hRc := ((unhide HR).step hb2).set_other (h := w.heap.size) (k := 0) (by omega) (.string T)
          have hRc2 := hide (hRc.set_other (h := w.heap.size) (k := 1) (by omega) (.int .i64 0))
          have h9b := World.ownsRow.kept (row := none) (unhide h9) ⟨hb2.os, hb2.tape, hb2.output, hb2.size, fun k hk _ => hb2.block k hk⟩ (by cases hv : (Value.slice a9 m c9).ownBlock <;> simp)
          have h9c := hide (ownsRow_off (k := 1) (ownsRow_off (k := 0) h9b (.string T) (show w.heap.size < W.heap.size by omega)) (.int .i64 0) (show w.heap.size < W.heap.size by omega))
          have hsT := (unhide HT).size
          have hTc := hide ((((unhide HT).trans (hb2.mono hsT)).setCell (p := ⟨w.heap.size, 0, none⟩) (Nat.le_refl _) (.string T)).setCell (p := ⟨w.heap.size, 1, none⟩) (Nat.le_refl _) (.int .i64 0))
          have hsc : W.heap.size ≤ ((w2.setCell ⟨w.heap.size, 0, none⟩ (.string T)).setCell ⟨w.heap.size, 1, none⟩ (.int .i64 0)).heap.size := by have := hb2.size; simp; omega
          clear hb2 hS2 hRc h9b h9 HR HT HS c0 c1
          have hcv := Lib.run_convert_string_bytes (P := Tryd.prog) ((w2.setCell ⟨w.heap.size, 0, none⟩ (.string T)).setCell ⟨w.heap.size, 1, none⟩ (.int .i64 0)) 9 48 5 x Tryd.underlying9 Tryd.underlying48 Tryd.underlying5
          have hmb := bytes_mb ((w2.setCell ⟨w.heap.size, 0, none⟩ (.string T)).setCell ⟨w.heap.size, 1, none⟩ (.int .i64 0)) 5 x
          have hb4 := bytes_below2 ((w2.setCell ⟨w.heap.size, 0, none⟩ (.string T)).setCell ⟨w.heap.size, 1, none⟩ (.int .i64 0)) 5 x
          have hszc : (((w2.setCell ⟨w.heap.size, 0, none⟩ (.string T)).setCell ⟨w.heap.size, 1, none⟩ (.int .i64 0))).heap.size ≤ (Lib.bytesWorld ((w2.setCell ⟨w.heap.size, 0, none⟩ (.string T)).setCell ⟨w.heap.size, 1, none⟩ (.int .i64 0)) 5 x).heap.size := hb4.size
          have y0 := hSc.c0; have y1 := hSc.c1
          dsimp only at y0 y1
          have hS4 := hSc.step hb4
          have hR4 := hide ((unhide hRc2).step hb4)
          have hown4 := World.ownsRow.kept (row := none) (unhide h9c) ⟨hb4.os, hb4.tape, hb4.output, hb4.size, fun k hk _ => hb4.block k hk⟩ (by cases hv : (Value.slice a9 m c9).ownBlock <;> simp)
          have hsT4 := (unhide hTc).size
          have hT4 := hide ((unhide hTc).trans (hb4.mono hsT4))
          have hnb : ∀ q v, (x.data.toList.map bv)[q]? = some v → (Lib.bytesWorld ((w2.setCell ⟨w.heap.size, 0, none⟩ (.string T)).setCell ⟨w.heap.size, 1, none⟩ (.int .i64 0)) 5 x).cell? ((⟨(((w2.setCell ⟨w.heap.size, 0, none⟩ (.string T)).setCell ⟨w.heap.size, 1, none⟩ (.int .i64 0))).heap.size, 0, none⟩ : Addr).add q) = some v := by
            intro q v hq
            rw [addr_add, Nat.zero_add]
            rw [List.getElem?_map] at hq
            cases hb' : x.data.toList[q]? with
            | none => rw [hb'] at hq; cases hq
            | some b' => rw [hb'] at hq; cases hq; exact hmb.cell hb'
          generalize grownCap ((w2.setCell ⟨w.heap.size, 0, none⟩ (.string T)).setCell ⟨w.heap.size, 1, none⟩ (.int .i64 0)) x.size 0 5 = cp at *
          generalize Lib.bytesWorld ((w2.setCell ⟨w.heap.size, 0, none⟩ (.string T)).setCell ⟨w.heap.size, 1, none⟩ (.int .i64 0)) 5 x = w4 at *
          have hone : ∀ v ∈ x.data.toList.map bv, v.oneCell' = true := by
            intro v hv
            obtain ⟨y, _, rfl⟩ := List.mem_map.1 hv
            rfl
          have hnl2 : Hid ((x.data.toList.map bv).length = x.size * 1) := hide (by rw [List.length_map, Nat.mul_one]; rfl)
          have h63 : m + x.size ≤ maxLen := by unfold maxLen; omega
          have hbyt : (m + x.size) * 1 ≤ 140737488355328 := by omega
          have hsz4 : W.heap.size ≤ w4.heap.size := by omega
          obtain ⟨bx, hbx⟩ : ∃ b, b = (((w2.setCell ⟨w.heap.size, 0, none⟩ (.string T)).setCell ⟨w.heap.size, 1, none⟩ (.int .i64 0))).heap.size := ⟨_, rfl⟩
          rw [← hbx] at hnb hcv hszc
          have HBX := hide hbx.symm
          clear hbx
          replace hnb := hide hnb; replace hown4 := hide hown4; replace hSc := hide hSc; replace hxs := hide hxs
          clear hmb hb4
          go_wp2_with (at_builtin; refine wpList_append_own w4 rfl (.tmp 50) (.tmp 60) 48 rfl W.heap.size 5 i0 (.int .u8 0) 1 1 Tryd.underlying48 hi hz0 hz1 hz2 rfl (by decide) _ m _ rfl (unhide hown4) ⟨bx, 0, none⟩ x.size cp (x.data.toList.map bv) rfl (unhide hnl2) (unhide hnb) hone h63 hbyt hsz4 ?_; intro v5 w5 hown5 hg5 _; have hS5 := hS4.own (unhide hown4) hg5 (show w.heap.size < W.heap.size by omega); have v1 := hS5.c1; have fv1 := hS5.frozen 1; dsimp only at v1; replace hS5 := hide hS5)
          have hR5 := (unhide hR4).own (unhide hown4) hg5 (show w.heap.size + 1 < W.heap.size by omega)
          have hT5 := (unhide hT4).grown hg5 (unhide hT4).size (fun k hk => by have := ((unhide hown4).lt k hk).1; omega)
          have hS6 := hide ((unhide hS5).set1 (kk : Int))
          have hR6 := hide (hR5.set_other (h := w.heap.size) (k := 1) (by omega) (.int .i64 (kk : Int)))
          have hT6 := hide (hT5.setCell (p := ⟨w.heap.size, 1, none⟩) (Nat.le_refl _) (.int .i64 (kk : Int)))
          have hx4 : x.data.toList.length = x.size := rfl
          have hO6 : Hid (OwnB (w5.setCell ⟨w.heap.size, 1, none⟩ (.int .i64 (kk : Int))) W.heap.size 5 v5 (out ++ x.data.toList)) := hide (by
            unfold OwnB
            rw [List.length_append, ← unhide hm, List.map_append]
            exact ownsRow_off hown5 _ (show w.heap.size < W.heap.size by omega))
          have hlv := lenV_own hown5
          have hs6 : W.heap.size ≤ (w5.setCell ⟨w.heap.size, 1, none⟩ (.int .i64 (kk : Int))).heap.size := by have := hg5.size; simp; omega
          have q1 := unhide HK
          have q2 := unhide hxs
          have hlk : Hid (k + 1 ≤ (out ++ x.data.toList).length) := hide (by rw [List.length_append, hx4, ← unhide hm]; omega)
          clear hown5 hg5 hR5 hT5
          go_wp2
          refine ⟨⟨k + 1, by rw [unhide hstep]; exact hlk, by rw [unhide hstep]; exact hO6, by rw [unhide hstep, ← unhide HTT]; exact hS6, hR6, hT6, hs6⟩, ?_⟩
          show n - lenV v5 < n - m
          rw [hlv]; omega
        · have HA2 : gvA ⟨a, p, out⟩ = keccak a := by unfold gvA; rw [if_pos h168]
          have HP2 : gvP ⟨a, p, out⟩ = 0 := by unfold gvP; rw [if_pos h168]
          have hcc : ¬ (n : Int) - (m : Int) < 168 := by omega
          have heN : gvE n ⟨a, p, out⟩ = 168 := by unfold gvE; rw [HP2]; dsimp only; rw [← hm]; omega
          have hokA := gvA_ok (g := ⟨a, p, out⟩) hoa
          rw [HA2] at hokA
          have hTs := textN_size hokA.1
          have hsl : ∀ V, (Instr.slice 9 (.string (textN (keccak a))) (some (.int .i64 0)) (some (.int .i64 168)) none).run Tryd.prog V = .ok (.string ((textN (keccak a)).extract 0 168)) V := fun V => cut_lh (textN (keccak a)) 0 168 V (by omega) (by omega)
          have hxs : ((textN (keccak a)).extract 0 168).size = 168 - 0 := by rw [ByteArray.size_extract]; omega
          have hstep : Hid (gvRun n ⟨a0, p0, []⟩ (k + 1) = ⟨keccak a, 168, out ++ ((textN (keccak a)).extract 0 168).data.toList⟩) := hide (by rw [unhide HN1, if_pos hlt]; unfold gvStep; rw [HA2, HP2, heN])
          have hadv : 0 < 168 ∧ m + (168 - 0) ≤ n := by omega
          replace h9 := hide h9
          have C3 := hide (fun V => specPermute_any (textN a) V)
          rw [perm_text hoa] at C3
          clear HA2 HP2 heN HE HO hokA
          obtain ⟨x, hx⟩ : ∃ x, x = (textN (keccak a)).extract 0 168 := ⟨_, rfl⟩
          rw [← hx] at hsl hxs hstep
          have hxe := hx.symm
          clear hx
          obtain ⟨T, hT⟩ : ∃ T, T = textN (keccak a) := ⟨_, rfl⟩
          rw [← hT] at hxe
          rw [← hT] at hsl C3 hTs
          have HTT := hide hT
          clear hT
          replace hm := hide hm
          have C4 := unhide C3
          clear C3
          replace C4 := hide C4
          go_wp2_with fail
          refine ((unhide C4) wr).mono ?_
          rintro e w2 ⟨rfl, hb2⟩
          have hS2 := (unhide HS).step hb2
          have z0 := hS2.c0; have z1 := hS2.c1; have f0 := hS2.frozen 0; have f1 := hS2.frozen 1
          have hSc := hS2.set2 ⟨T, 0⟩
          dsimp only at hSc z0 z1
          have hRc := ((unhide HR).step hb2).set_other (h := w.heap.size) (k := 0) (by omega) (.string T)
          have hRc2 := hide (hRc.set_other (h := w.heap.size) (k := 1) (by omega) (.int .i64 0))
          have h9b := World.ownsRow.kept (row := none) (unhide h9) ⟨hb2.os, hb2.tape, hb2.output, hb2.size, fun k hk _ => hb2.block k hk⟩ (by cases hv : (Value.slice a9 m c9).ownBlock <;> simp)
          have h9c := hide (ownsRow_off (k := 1) (ownsRow_off (k := 0) h9b (.string T) (show w.heap.size < W.heap.size by omega)) (.int .i64 0) (show w.heap.size < W.heap.size by omega))
          have hsT := (unhide HT).size
          have hTc := hide ((((unhide HT).trans (hb2.mono hsT)).setCell (p := ⟨w.heap.size, 0, none⟩) (Nat.le_refl _) (.string T)).setCell (p := ⟨w.heap.size, 1, none⟩) (Nat.le_refl _) (.int .i64 0))
          have hsc : W.heap.size ≤ ((w2.setCell ⟨w.heap.size, 0, none⟩ (.string T)).setCell ⟨w.heap.size, 1, none⟩ (.int .i64 0)).heap.size := by have := hb2.size; simp; omega
          clear hb2 hS2 hRc h9b h9 HR HT HS c0 c1
          have hcv := Lib.run_convert_string_bytes (P := Tryd.prog) ((w2.setCell ⟨w.heap.size, 0, none⟩ (.string T)).setCell ⟨w.heap.size, 1, none⟩ (.int .i64 0)) 9 48 5 x Tryd.underlying9 Tryd.underlying48 Tryd.underlying5
          have hmb := bytes_mb ((w2.setCell ⟨w.heap.size, 0, none⟩ (.string T)).setCell ⟨w.heap.size, 1, none⟩ (.int .i64 0)) 5 x
          have hb4 := bytes_below2 ((w2.setCell ⟨w.heap.size, 0, none⟩ (.string T)).setCell ⟨w.heap.size, 1, none⟩ (.int .i64 0)) 5 x
          have hszc : (((w2.setCell ⟨w.heap.size, 0, none⟩ (.string T)).setCell ⟨w.heap.size, 1, none⟩ (.int .i64 0))).heap.size ≤ (Lib.bytesWorld ((w2.setCell ⟨w.heap.size, 0, none⟩ (.string T)).setCell ⟨w.heap.size, 1, none⟩ (.int .i64 0)) 5 x).heap.size := hb4.size
          have y0 := hSc.c0; have y1 := hSc.c1
          dsimp only at y0 y1
          have hS4 := hSc.step hb4
          have hR4 := hide ((unhide hRc2).step hb4)
          have hown4 := World.ownsRow.kept (row := none) (unhide h9c) ⟨hb4.os, hb4.tape, hb4.output, hb4.size, fun k hk _ => hb4.block k hk⟩ (by cases hv : (Value.slice a9 m c9).ownBlock <;> simp)
          have hsT4 := (unhide hTc).size
          have hT4 := hide ((unhide hTc).trans (hb4.mono hsT4))
          have hnb : ∀ q v, (x.data.toList.map bv)[q]? = some v → (Lib.bytesWorld ((w2.setCell ⟨w.heap.size, 0, none⟩ (.string T)).setCell ⟨w.heap.size, 1, none⟩ (.int .i64 0)) 5 x).cell? ((⟨(((w2.setCell ⟨w.heap.size, 0, none⟩ (.string T)).setCell ⟨w.heap.size, 1, none⟩ (.int .i64 0))).heap.size, 0, none⟩ : Addr).add q) = some v := by
            intro q v hq
            rw [addr_add, Nat.zero_add]
            rw [List.getElem?_map] at hq
            cases hb' : x.data.toList[q]? with
            | none => rw [hb'] at hq; cases hq
            | some b' => rw [hb'] at hq; cases hq; exact hmb.cell hb'
          generalize grownCap ((w2.setCell ⟨w.heap.size, 0, none⟩ (.string T)).setCell ⟨w.heap.size, 1, none⟩ (.int .i64 0)) x.size 0 5 = cp at *
          generalize Lib.bytesWorld ((w2.setCell ⟨w.heap.size, 0, none⟩ (.string T)).setCell ⟨w.heap.size, 1, none⟩ (.int .i64 0)) 5 x = w4 at *
          have hone : ∀ v ∈ x.data.toList.map bv, v.oneCell' = true := by
            intro v hv
            obtain ⟨y, _, rfl⟩ := List.mem_map.1 hv
            rfl
          have hnl2 : Hid ((x.data.toList.map bv).length = x.size * 1) := hide (by rw [List.length_map, Nat.mul_one]; rfl)
          have h63 : m + x.size ≤ maxLen := by unfold maxLen; omega
          have hbyt : (m + x.size) * 1 ≤ 140737488355328 := by omega
          have hsz4 : W.heap.size ≤ w4.heap.size := by omega
          obtain ⟨bx, hbx⟩ : ∃ b, b = (((w2.setCell ⟨w.heap.size, 0, none⟩ (.string T)).setCell ⟨w.heap.size, 1, none⟩ (.int .i64 0))).heap.size := ⟨_, rfl⟩
          rw [← hbx] at hnb hcv hszc
          have HBX := hide hbx.symm
          clear hbx
          replace hnb := hide hnb; replace hown4 := hide hown4; replace hSc := hide hSc; replace hxs := hide hxs
          clear hmb hb4
          go_wp2_with (at_builtin; refine wpList_append_own w4 rfl (.tmp 50) (.tmp 60) 48 rfl W.heap.size 5 i0 (.int .u8 0) 1 1 Tryd.underlying48 hi hz0 hz1 hz2 rfl (by decide) _ m _ rfl (unhide hown4) ⟨bx, 0, none⟩ x.size cp (x.data.toList.map bv) rfl (unhide hnl2) (unhide hnb) hone h63 hbyt hsz4 ?_; intro v5 w5 hown5 hg5 _; have hS5 := hS4.own (unhide hown4) hg5 (show w.heap.size < W.heap.size by omega); have v1 := hS5.c1; have fv1 := hS5.frozen 1; dsimp only at v1; replace hS5 := hide hS5)
          have hR5 := (unhide hR4).own (unhide hown4) hg5 (show w.heap.size + 1 < W.heap.size by omega)
          have hT5 := (unhide hT4).grown hg5 (unhide hT4).size (fun k hk => by have := ((unhide hown4).lt k hk).1; omega)
          have hS6 := hide ((unhide hS5).set1 168)
          have hR6 := hide (hR5.set_other (h := w.heap.size) (k := 1) (by omega) (.int .i64 168))
          have hT6 := hide (hT5.setCell (p := ⟨w.heap.size, 1, none⟩) (Nat.le_refl _) (.int .i64 168))
          have hx4 : x.data.toList.length = x.size := rfl
          have hO6 : Hid (OwnB (w5.setCell ⟨w.heap.size, 1, none⟩ (.int .i64 168)) W.heap.size 5 v5 (out ++ x.data.toList)) := hide (by
            unfold OwnB
            rw [List.length_append, ← unhide hm, List.map_append]
            exact ownsRow_off hown5 _ (show w.heap.size < W.heap.size by omega))
          have hlv := lenV_own hown5
          have hs6 : W.heap.size ≤ (w5.setCell ⟨w.heap.size, 1, none⟩ (.int .i64 168)).heap.size := by have := hg5.size; simp; omega
          have q1 := unhide HK
          have q2 := unhide hxs
          have hlk : Hid (k + 1 ≤ (out ++ x.data.toList).length) := hide (by rw [List.length_append, hx4, ← unhide hm]; omega)
          clear hown5 hg5 hR5 hT5
          go_wp2
          refine ⟨⟨k + 1, by rw [unhide hstep]; exact hlk, by rw [unhide hstep]; exact hO6, by rw [unhide hstep, ← unhide HTT]; exact hS6, hR6, hT6, hs6⟩, ?_⟩
          show n - lenV v5 < n - m
          rw [hlv]; omega
      · have h168' : ¬ (p : Int) = 168 := by omega
        by_cases hcs : n - m < 168 - p
        · have HA2 : gvA ⟨a, p, out⟩ = a := by unfold gvA; rw [if_neg h168]
          have HP2 : gvP ⟨a, p, out⟩ = p := by unfold gvP; rw [if_neg h168]
          obtain ⟨kk, hkk⟩ : ∃ k, k = n - m := ⟨_, rfl⟩
          obtain ⟨e9, he9⟩ : ∃ e, e = p + kk := ⟨_, rfl⟩
          have ek : (n : Int) - (m : Int) = (kk : Int) := by omega
          have hcc : (kk : Int) < 168 - (p : Int) := by omega
          have es : IntKind.i64.wrap ((p : Int) + (kk : Int)) = (e9 : Int) := by rw [IntKind.wrap_i64]; omega
          have wkk : IntKind.i64.wrap (kk : Int) = (kk : Int) := by rw [IntKind.wrap_i64]; omega
          have heN : gvE n ⟨a, p, out⟩ = e9 := by unfold gvE; rw [HP2]; dsimp only; rw [← hm]; omega
          have hokA := gvA_ok (g := ⟨a, p, out⟩) hoa
          rw [HA2] at hokA
          have hTs := textN_size hokA.1
          have hsl : ∀ V, (Instr.slice 9 (.string (textN (a))) (some (.int .i64 (p : Int))) (some (.int .i64 (e9 : Int))) none).run Tryd.prog V = .ok (.string ((textN (a)).extract p e9)) V := fun V => cut_lh (textN (a)) p e9 V (by omega) (by omega)
          have hxs : ((textN (a)).extract p e9).size = e9 - p := by rw [ByteArray.size_extract]; omega
          have hstep : Hid (gvRun n ⟨a0, p0, []⟩ (k + 1) = ⟨a, e9, out ++ ((textN (a)).extract p e9).data.toList⟩) := hide (by rw [unhide HN1, if_pos hlt]; unfold gvStep; rw [HA2, HP2, heN])
          have hadv : p < e9 ∧ m + (e9 - p) ≤ n := by omega
          replace h9 := hide h9
          replace hkk := hide hkk; replace he9 := hide he9
          clear HA2 HP2 heN HE HO hokA
          obtain ⟨x, hx⟩ : ∃ x, x = (textN (a)).extract p e9 := ⟨_, rfl⟩
          rw [← hx] at hsl hxs hstep
          have hxe := hx.symm
          clear hx
          obtain ⟨T, hT⟩ : ∃ T, T = textN (a) := ⟨_, rfl⟩
          rw [← hT] at hxe
          rw [← hT] at hsl hTs HS c0
          have HTT := hide hT
          clear hT
          replace hm := hide hm
          have hSc := unhide HS
          have hRc2 := HR; have h9c := h9; have hTc := HT; have hsc := hsw
          clear HS HR h9 HT c0 c1
          have hcv := Lib.run_convert_string_bytes (P := Tryd.prog) wr 9 48 5 x Tryd.underlying9 Tryd.underlying48 Tryd.underlying5
          have hmb := bytes_mb wr 5 x
          have hb4 := bytes_below2 wr 5 x
          have hszc : (wr).heap.size ≤ (Lib.bytesWorld wr 5 x).heap.size := hb4.size
          have y0 := hSc.c0; have y1 := hSc.c1
          dsimp only at y0 y1
          have hS4 := hSc.step hb4
          have hR4 := hide ((unhide hRc2).step hb4)
          have hown4 := World.ownsRow.kept (row := none) (unhide h9c) ⟨hb4.os, hb4.tape, hb4.output, hb4.size, fun k hk _ => hb4.block k hk⟩ (by cases hv : (Value.slice a9 m c9).ownBlock <;> simp)
          have hsT4 := (unhide hTc).size
          have hT4 := hide ((unhide hTc).trans (hb4.mono hsT4))
          have hnb : ∀ q v, (x.data.toList.map bv)[q]? = some v → (Lib.bytesWorld wr 5 x).cell? ((⟨(wr).heap.size, 0, none⟩ : Addr).add q) = some v := by
            intro q v hq
            rw [addr_add, Nat.zero_add]
            rw [List.getElem?_map] at hq
            cases hb' : x.data.toList[q]? with
            | none => rw [hb'] at hq; cases hq
            | some b' => rw [hb'] at hq; cases hq; exact hmb.cell hb'
          generalize grownCap wr x.size 0 5 = cp at *
          generalize Lib.bytesWorld wr 5 x = w4 at *
          have hone : ∀ v ∈ x.data.toList.map bv, v.oneCell' = true := by
            intro v hv
            obtain ⟨y, _, rfl⟩ := List.mem_map.1 hv
            rfl
          have hnl2 : Hid ((x.data.toList.map bv).length = x.size * 1) := hide (by rw [List.length_map, Nat.mul_one]; rfl)
          have h63 : m + x.size ≤ maxLen := by unfold maxLen; omega
          have hbyt : (m + x.size) * 1 ≤ 140737488355328 := by omega
          have hsz4 : W.heap.size ≤ w4.heap.size := by omega
          obtain ⟨bx, hbx⟩ : ∃ b, b = (wr).heap.size := ⟨_, rfl⟩
          rw [← hbx] at hnb hcv hszc
          have HBX := hide hbx.symm
          clear hbx
          replace hnb := hide hnb; replace hown4 := hide hown4; replace hSc := hide hSc; replace hxs := hide hxs
          clear hmb hb4
          go_wp2_with (at_builtin; refine wpList_append_own w4 rfl (.tmp 50) (.tmp 60) 48 rfl W.heap.size 5 i0 (.int .u8 0) 1 1 Tryd.underlying48 hi hz0 hz1 hz2 rfl (by decide) _ m _ rfl (unhide hown4) ⟨bx, 0, none⟩ x.size cp (x.data.toList.map bv) rfl (unhide hnl2) (unhide hnb) hone h63 hbyt hsz4 ?_; intro v5 w5 hown5 hg5 _; have hS5 := hS4.own (unhide hown4) hg5 (show w.heap.size < W.heap.size by omega); have v1 := hS5.c1; have fv1 := hS5.frozen 1; dsimp only at v1; replace hS5 := hide hS5)
          have hR5 := (unhide hR4).own (unhide hown4) hg5 (show w.heap.size + 1 < W.heap.size by omega)
          have hT5 := (unhide hT4).grown hg5 (unhide hT4).size (fun k hk => by have := ((unhide hown4).lt k hk).1; omega)
          have hS6 := hide ((unhide hS5).set1 (e9 : Int))
          have hR6 := hide (hR5.set_other (h := w.heap.size) (k := 1) (by omega) (.int .i64 (e9 : Int)))
          have hT6 := hide (hT5.setCell (p := ⟨w.heap.size, 1, none⟩) (Nat.le_refl _) (.int .i64 (e9 : Int)))
          have hx4 : x.data.toList.length = x.size := rfl
          have hO6 : Hid (OwnB (w5.setCell ⟨w.heap.size, 1, none⟩ (.int .i64 (e9 : Int))) W.heap.size 5 v5 (out ++ x.data.toList)) := hide (by
            unfold OwnB
            rw [List.length_append, ← unhide hm, List.map_append]
            exact ownsRow_off hown5 _ (show w.heap.size < W.heap.size by omega))
          have hlv := lenV_own hown5
          have hs6 : W.heap.size ≤ (w5.setCell ⟨w.heap.size, 1, none⟩ (.int .i64 (e9 : Int))).heap.size := by have := hg5.size; simp; omega
          have q1 := unhide HK
          have q2 := unhide hxs
          have hlk : Hid (k + 1 ≤ (out ++ x.data.toList).length) := hide (by rw [List.length_append, hx4, ← unhide hm]; omega)
          clear hown5 hg5 hR5 hT5
          go_wp2
          refine ⟨⟨k + 1, by rw [unhide hstep]; exact hlk, by rw [unhide hstep]; exact hO6, by rw [unhide hstep, ← unhide HTT]; exact hS6, hR6, hT6, hs6⟩, ?_⟩
          show n - lenV v5 < n - m
          rw [hlv]; omega
        · have HA2 : gvA ⟨a, p, out⟩ = a := by unfold gvA; rw [if_neg h168]
          have HP2 : gvP ⟨a, p, out⟩ = p := by unfold gvP; rw [if_neg h168]
          obtain ⟨kk, hkk⟩ : ∃ k, k = 168 - p := ⟨_, rfl⟩
          obtain ⟨e9, he9⟩ : ∃ e, e = p + kk := ⟨_, rfl⟩
          have ek : 168 - (p : Int) = (kk : Int) := by omega
          have hcc : ¬ (n : Int) - (m : Int) < (kk : Int) := by omega
          have es : IntKind.i64.wrap ((p : Int) + (kk : Int)) = (e9 : Int) := by rw [IntKind.wrap_i64]; omega
          have wkk : IntKind.i64.wrap (kk : Int) = (kk : Int) := by rw [IntKind.wrap_i64]; omega
          have heN : gvE n ⟨a, p, out⟩ = e9 := by unfold gvE; rw [HP2]; dsimp only; rw [← hm]; omega
          have hokA := gvA_ok (g := ⟨a, p, out⟩) hoa
          rw [HA2] at hokA
          have hTs := textN_size hokA.1
          have hsl : ∀ V, (Instr.slice 9 (.string (textN (a))) (some (.int .i64 (p : Int))) (some (.int .i64 (e9 : Int))) none).run Tryd.prog V = .ok (.string ((textN (a)).extract p e9)) V := fun V => cut_lh (textN (a)) p e9 V (by omega) (by omega)
          have hxs : ((textN (a)).extract p e9).size = e9 - p := by rw [ByteArray.size_extract]; omega
          have hstep : Hid (gvRun n ⟨a0, p0, []⟩ (k + 1) = ⟨a, e9, out ++ ((textN (a)).extract p e9).data.toList⟩) := hide (by rw [unhide HN1, if_pos hlt]; unfold gvStep; rw [HA2, HP2, heN])
          have hadv : p < e9 ∧ m + (e9 - p) ≤ n := by omega
          replace h9 := hide h9
          replace hkk := hide hkk; replace he9 := hide he9
          clear HA2 HP2 heN HE HO hokA
          obtain ⟨x, hx⟩ : ∃ x, x = (textN (a)).extract p e9 := ⟨_, rfl⟩
          rw [← hx] at hsl hxs hstep
          have hxe := hx.symm
          clear hx
          obtain ⟨T, hT⟩ : ∃ T, T = textN (a) := ⟨_, rfl⟩
          rw [← hT] at hxe
          rw [← hT] at hsl hTs HS c0
          have HTT := hide hT
          clear hT
          replace hm := hide hm
          have hSc := unhide HS
          have hRc2 := HR; have h9c := h9; have hTc := HT; have hsc := hsw
          clear HS HR h9 HT c0 c1
          have hcv := Lib.run_convert_string_bytes (P := Tryd.prog) wr 9 48 5 x Tryd.underlying9 Tryd.underlying48 Tryd.underlying5
          have hmb := bytes_mb wr 5 x
          have hb4 := bytes_below2 wr 5 x
          have hszc : (wr).heap.size ≤ (Lib.bytesWorld wr 5 x).heap.size := hb4.size
          have y0 := hSc.c0; have y1 := hSc.c1
          dsimp only at y0 y1
          have hS4 := hSc.step hb4
          have hR4 := hide ((unhide hRc2).step hb4)
          have hown4 := World.ownsRow.kept (row := none) (unhide h9c) ⟨hb4.os, hb4.tape, hb4.output, hb4.size, fun k hk _ => hb4.block k hk⟩ (by cases hv : (Value.slice a9 m c9).ownBlock <;> simp)
          have hsT4 := (unhide hTc).size
          have hT4 := hide ((unhide hTc).trans (hb4.mono hsT4))
          have hnb : ∀ q v, (x.data.toList.map bv)[q]? = some v → (Lib.bytesWorld wr 5 x).cell? ((⟨(wr).heap.size, 0, none⟩ : Addr).add q) = some v := by
            intro q v hq
            rw [addr_add, Nat.zero_add]
            rw [List.getElem?_map] at hq
            cases hb' : x.data.toList[q]? with
            | none => rw [hb'] at hq; cases hq
            | some b' => rw [hb'] at hq; cases hq; exact hmb.cell hb'
          generalize grownCap wr x.size 0 5 = cp at *
          generalize Lib.bytesWorld wr 5 x = w4 at *
          have hone : ∀ v ∈ x.data.toList.map bv, v.oneCell' = true := by
            intro v hv
            obtain ⟨y, _, rfl⟩ := List.mem_map.1 hv
            rfl
          have hnl2 : Hid ((x.data.toList.map bv).length = x.size * 1) := hide (by rw [List.length_map, Nat.mul_one]; rfl)
          have h63 : m + x.size ≤ maxLen := by unfold maxLen; omega
          have hbyt : (m + x.size) * 1 ≤ 140737488355328 := by omega
          have hsz4 : W.heap.size ≤ w4.heap.size := by omega
          obtain ⟨bx, hbx⟩ : ∃ b, b = (wr).heap.size := ⟨_, rfl⟩
          rw [← hbx] at hnb hcv hszc
          have HBX := hide hbx.symm
          clear hbx
          replace hnb := hide hnb; replace hown4 := hide hown4; replace hSc := hide hSc; replace hxs := hide hxs
          clear hmb hb4
          go_wp2_with (at_builtin; refine wpList_append_own w4 rfl (.tmp 50) (.tmp 60) 48 rfl W.heap.size 5 i0 (.int .u8 0) 1 1 Tryd.underlying48 hi hz0 hz1 hz2 rfl (by decide) _ m _ rfl (unhide hown4) ⟨bx, 0, none⟩ x.size cp (x.data.toList.map bv) rfl (unhide hnl2) (unhide hnb) hone h63 hbyt hsz4 ?_; intro v5 w5 hown5 hg5 _; have hS5 := hS4.own (unhide hown4) hg5 (show w.heap.size < W.heap.size by omega); have v1 := hS5.c1; have fv1 := hS5.frozen 1; dsimp only at v1; replace hS5 := hide hS5)
          have hR5 := (unhide hR4).own (unhide hown4) hg5 (show w.heap.size + 1 < W.heap.size by omega)
          have hT5 := (unhide hT4).grown hg5 (unhide hT4).size (fun k hk => by have := ((unhide hown4).lt k hk).1; omega)
          have hS6 := hide ((unhide hS5).set1 (e9 : Int))
          have hR6 := hide (hR5.set_other (h := w.heap.size) (k := 1) (by omega) (.int .i64 (e9 : Int)))
          have hT6 := hide (hT5.setCell (p := ⟨w.heap.size, 1, none⟩) (Nat.le_refl _) (.int .i64 (e9 : Int)))
          have hx4 : x.data.toList.length = x.size := rfl
          have hO6 : Hid (OwnB (w5.setCell ⟨w.heap.size, 1, none⟩ (.int .i64 (e9 : Int))) W.heap.size 5 v5 (out ++ x.data.toList)) := hide (by
            unfold OwnB
            rw [List.length_append, ← unhide hm, List.map_append]
            exact ownsRow_off hown5 _ (show w.heap.size < W.heap.size by omega))
          have hlv := lenV_own hown5
          have hs6 : W.heap.size ≤ (w5.setCell ⟨w.heap.size, 1, none⟩ (.int .i64 (e9 : Int))).heap.size := by have := hg5.size; simp; omega
          have q1 := unhide HK
          have q2 := unhide hxs
          have hlk : Hid (k + 1 ≤ (out ++ x.data.toList).length) := hide (by rw [List.length_append, hx4, ← unhide hm]; omega)
          clear hown5 hg5 hR5 hT5
          go_wp2
          refine ⟨⟨k + 1, by rw [unhide hstep]; exact hlk, by rw [unhide hstep]; exact hO6, by rw [unhide hstep, ← unhide HTT]; exact hS6, hR6, hT6, hs6⟩, ?_⟩
          show n - lenV v5 < n - m
          rw [hlv]; omega
    · have hlt' : ¬ (m : Int) < (n : Int) := by omega
      have HE2 := (unhide HE) hlt (by have := unhide HK; omega)
      have hown2 : OwnB wr W.heap.size 5 (.slice a9 m c9) out := unhide HO
      have hc := run_string_owned (P := Tryd.prog) wr 48 9 5 W.heap.size (.slice a9 m c9) out Tryd.underlying48 Tryd.underlying5 Tryd.underlying9 hown2
      replace HE2 := hide HE2
      replace hm := hide hm
      replace h9 := hide h9
      replace hown2 := hide hown2
      have r0 := (unhide HR).c0
      have r1 := (unhide HR).c1
      have q0 := (unhide HR).frozen 0
      have q1 := (unhide HR).frozen 1
      have hF : SB ((wr.setCell ⟨w.heap.size + 1, 0, none⟩ (.string (textN a))).setCell ⟨w.heap.size + 1, 1, none⟩ (.int .i64 (p : Int))) (w.heap.size + 1) 39 ⟨textN a, (p : Int)⟩ := (unhide HR).set2 ⟨textN a, (p : Int)⟩
      have g0 := hF.c0
      have g1 := hF.c1
      dsimp only at g0 g1
      have hc2 := run_string_owned (P := Tryd.prog) wr.drew 48 9 5 W.heap.size (.slice a9 m c9) out Tryd.underlying48 Tryd.underlying5 Tryd.underlying9 (by exact unhide hown2)
      have hown3 : OwnB ((wr.setCell ⟨w.heap.size + 1, 0, none⟩ (.string (textN a))).setCell ⟨w.heap.size + 1, 1, none⟩ (.int .i64 (p : Int))) W.heap.size 5 (.slice a9 m c9) out := ownsRow_off (ownsRow_off (unhide hown2) _ (by omega)) _ (by omega)
      have hc3 := run_string_owned (P := Tryd.prog) (((wr.setCell ⟨w.heap.size + 1, 0, none⟩ (.string (textN a))).setCell ⟨w.heap.size + 1, 1, none⟩ (.int .i64 (p : Int)))).drew 48 9 5 W.heap.size (.slice a9 m c9) out Tryd.underlying48 Tryd.underlying5 Tryd.underlying9 (by exact hown3)
      have HTF := hide (((unhide HT).setCell (p := ⟨w.heap.size + 1, 0, none⟩) (by show w.heap.size ≤ w.heap.size + 1; omega) (.string (textN a))).setCell (p := ⟨w.heap.size + 1, 1, none⟩) (by show w.heap.size ≤ w.heap.size + 1; omega) (.int .i64 (p : Int)))
      replace hown3 := hide hown3
      replace hF := hide hF
      clear HE
      go_wp2
      go_region
      all_goals go_wp2
      all_goals (
        refine bodyPost_ret (v := .tuple #[.agg #[.string (textN a), .int .i64 (p : Int)], .string ⟨out.toArray⟩]) ?_ rfl ⟨by rw [unhide HE2], (unhide HTF).drew⟩
        simp [results, Tryd.results20, go_sem, g0, g1])
end Go.Proofs.YtkidgllmhdfgaanDoor
