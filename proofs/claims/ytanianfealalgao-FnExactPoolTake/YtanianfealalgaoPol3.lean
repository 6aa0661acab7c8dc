/- A pool made and fed, by the given model, over the loaded program. -/
import Derived.Test.YtanianfealalgaoPol0
import Derived.Test.YtanianfealalgaoPol1
import Derived.Test.YtanianfealalgaoBase
import Derived.Test.YtanianfealalgaoStrs
namespace Go.Proofs.Ytanianfealalgao
open Go.RowKit
def repL (m k : Nat) (b : UInt8) : List UInt8 := List.replicate k b ++ List.replicate (m - k) 0
theorem repL_len (m k : Nat) (b : UInt8) (h : k ≤ m) : (repL m k b).length = m := by
  unfold repL
  rw [List.length_append, List.length_replicate, List.length_replicate]
  omega
theorem repL_set (m k : Nat) (b : UInt8) (h : k < m) : (repL m k b).set k b = repL m (k + 1) b := by
  unfold repL
  rw [List.set_append_right _ _ (by simp), List.length_replicate, Nat.sub_self, show m - k = (m - (k + 1)) + 1 by omega, List.replicate_succ, List.set_cons_zero, List.replicate_succ', List.append_assoc]
  rfl
def repB (x : Nat) : ByteArray := ⟨(List.replicate 32 (byteOf x)).toArray⟩
theorem repB_size (x : Nat) : (repB x).size = 32 := by
  show (List.replicate 32 (byteOf x)).length = 32
  exact List.length_replicate
theorem map_set8 (l : List UInt8) (k x : Nat) (hx : x < 256) : (l.map bv).set k (.int .u8 (x : Int)) = (l.set k (byteOf x)).map bv := by
  rw [List.map_set]
  congr 1
  simp only [bv, byteOf_toNat hx]
theorem rep_bv8 (n : Nat) : List.replicate n (Value.int .u8 0) = (List.replicate n (0 : UInt8)).map bv := by
  rw [List.map_replicate]; rfl
theorem Try.infoB8 : (Try.prog.info? 5).map (fun i => (i.zero, i.size, i.bytes)) = some (some (.int .u8 0), 1, 1) := by kernel_rfl
set_option maxRecDepth 20000 in
set_option maxHeartbeats 400000 in
theorem l01Long_is (x : Nat) (w : World) (hx : x < 256) :
    Calls Try.prog 19 #[.int .i64 32, .int .u8 (x : Int)] w fun e w' => e = .returned (.string (repB x)) ∧ Below w.heap.size w w' := by
  obtain ⟨m, hm⟩ : ∃ m : Nat, m = 32 := ⟨_, rfl⟩
  have E := hide (show repB x = ⟨(repL m m (byteOf x)).toArray⟩ by rw [hm]; unfold repB repL; rw [Nat.sub_self, List.replicate_zero, List.append_nil])
  rw [show (32 : Int) = (m : Int) by omega]
  obtain ⟨i0, hi, hz0, hz1, hz2⟩ := info_parts Try.infoB8
  have hm1 : 0 < m := by omega
  have hm2 : m ≤ 1000 := by omega
  clear hm
  go_enter Try.func19, Try.ntmps19
  go_wp2_with (at_make; refine wpList_make_full _ rfl _ _ 49 rfl w.heap.size 5 i0 (.int .u8 0) 1 Try.underlying49 hi hz0 hz1 _ _ _ _ m rfl rfl rfl rfl (by rw [hz2]; omega) (by unfold maxLen; omega) (Nat.le_refl _) ?_; intro w1 hown1 hgrow1)
  have hb1 : Below w.heap.size w w1 := (Below.refl _ _).grown hgrow1 (Nat.le_refl _) (fun k hk => by cases hk)
  have hown0 : OwnB w1 w.heap.size 5 (.slice (some ⟨w.heap.size, 0, none⟩) m m) (repL m 0 (byteOf x)) := by
    have e1 : (madeCells (Value.int .u8 0).cells (m * 1)).toList = (repL m 0 (byteOf x)).map bv := by
      show (madeCells #[Value.int .u8 0] (m * 1)).toList = _
      rw [Nat.mul_one, toList_madeCells_one]
      unfold repL
      rw [List.replicate_zero, List.nil_append, Nat.sub_zero, rep_bv8]
    rw [e1] at hown1
    unfold OwnB
    rw [repL_len _ _ _ (Nat.zero_le _)]
    exact hown1
  clear hown1 hgrow1
  go_loopw [6] (fun ti wr => ∃ k : Nat, k ≤ m ∧ ti = .int .i64 (k : Int) ∧ OwnB wr w.heap.size 5 (.slice (some ⟨w.heap.size, 0, none⟩) m m) (repL m k (byteOf x)) ∧ Below w.heap.size w wr)
    (fun ti _ => m - (intOf ti).toNat)
  case atStart => exact ⟨0, Nat.zero_le _, rfl, hown0, hb1⟩
  case round =>
    obtain ⟨k, hk, rfl, hown, hb⟩ := hrel
    clear hown0 hb1
    have hl := repL_len m k (byteOf x) hk
    by_cases hlt : k < m
    · have hstep := hide (repL_set m k (byteOf x) hlt)
      generalize repL m k (byteOf x) = l at *
      have hownV : OwnV wr w.heap.size 5 (.slice (some ⟨w.heap.size, 0, none⟩) m m) (l.map bv) := by unfold OwnV; rw [List.length_map]; exact hown
      have hset := hownV.set k (.int .u8 (x : Int))
      rw [map_set8 l k x hx] at hset
      have hown2 : OwnB (wr.setCell ⟨w.heap.size, k, none⟩ (.int .u8 (x : Int))) w.heap.size 5 (.slice (some ⟨w.heap.size, 0, none⟩) m m) (l.set k (byteOf x)) := by
        unfold OwnV at hset; rw [List.length_map] at hset; exact hset
      rw [unhide hstep] at hown2
      have hcell : wr.cell? ⟨w.heap.size, k, none⟩ = some (bv (l[k]'(by omega))) := hownV.cell (by rw [List.getElem?_map, List.getElem?_eq_getElem (by omega)]; rfl)
      have hfr := hownV.frozen k
      have hb2 := hb.setCell (p := ⟨w.heap.size, k, none⟩) (Nat.le_refl _) (.int .u8 (x : Int))
      replace hset := hide hset
      replace hownV := hide hownV
      replace hown2 := hide hown2
      replace hb2 := hide hb2
      replace hown := hide hown
      clear hb
      go_wp2
      go_roundw
      case rel => exact ⟨k + 1, by omega, by go_num, unhide hown2, unhide hb2⟩
      case measure => simp [intOf]; omega
    · have hkm : k = m := by omega
      subst hkm
      have hc := run_string_owned (P := Try.prog) wr 49 9 5 w.heap.size _ _ Try.underlying49 Try.underlying5 Try.underlying9 hown
      replace hown := hide hown
      go_wp2
      go_ret
      exact ⟨by rw [unhide E]; rfl, hb⟩
def newP (s : ByteArray) : Hs := mixH ⟨repB 0, repB 1, 0⟩ s
def feedP (a : Hs) (s : ByteArray) : Hs := if okP a = true then ⟨(mixH a s).st, (mixH a s).rs, 0⟩ else a
set_option maxRecDepth 20000 in
set_option maxHeartbeats 400000 in
theorem specPoolNew_any (s : ByteArray) (hs : s.size ≤ 1048576) (w : World) :
    Calls Try.prog 7 #[.string s] w fun e w' => e = .returned (hsv (newP s)) ∧ Below w.heap.size w w' := by
  have L0 := hide (fun W => l01Long_is 0 W (by decide))
  have L1 := hide (fun W => l01Long_is 1 W (by decide))
  have CX := hide (fun W => specMix_any ⟨repB 0, repB 1, 0⟩ s (by show (repB 0).size ≤ _; rw [repB_size]; decide) (by show (repB 1).size ≤ _; rw [repB_size]; decide) hs W)
  obtain ⟨b, hbm⟩ : ∃ b, b = mixH ⟨repB 0, repB 1, 0⟩ s := ⟨_, rfl⟩
  have EN := hide (show newP s = b from hbm.symm)
  rw [← hbm] at CX
  rw [unhide EN]
  replace hbm := hide hbm
  generalize repB 0 = z0 at *
  generalize repB 1 = z1 at *
  obtain ⟨bs, br, bc⟩ := b
  unfold hsv at CX ⊢
  dsimp only at CX ⊢
  go_enter Try.func7, Try.ntmps7
  go_wp2_with fail
  obtain ⟨W, hW, hB, hb, hlt⟩ := one_hash w hz 23
  unfold hz at hW
  rw [hW]
  clear hW
  refine (unhide L0 _).mono ?_
  rintro e w1 ⟨rfl, hb1⟩
  have hB1 := hB.step hb1
  have HT1 := hb.trans (hb1.mono (by omega))
  clear hB hb hb1
  replace hB1 := hide hB1
  go_wp2_with fail
  refine (unhide L1 _).mono ?_
  rintro e w2 ⟨rfl, hb2⟩
  have hB2 := (unhide hB1).step hb2
  have HT2 := HT1.trans (hb2.mono HT1.size)
  clear hB1 HT1 hb2
  replace hB2 := hide hB2
  go_wp2_with fail
  refine (unhide CX _).mono ?_
  rintro e w3 ⟨rfl, hb3⟩
  have hB3 := (unhide hB2).step hb3
  have HT3 := HT2.trans (hb3.mono HT2.size)
  clear hB2 HT2 hb3
  have r0 := hB3.frozen 0; have r1 := hB3.frozen 1; have r2 := hB3.frozen 2
  have u0 := hB3.c0; have u1 := hB3.c1; have u2 := hB3.c2
  unfold hz at u0 u1 u2
  replace hB3 := hide hB3
  go_wp2_with fail
  refine bodyPost_ret (v := hsv ⟨bs, br, bc⟩) (results_hash Try.results7 _ _ w.heap.size 23 _ _ rfl (HB.set3 (unhide hB3) ⟨bs, br, bc⟩) Try.underlying23 (by kernel_rfl)) rfl ⟨rfl, ?_⟩
  exact ((HT3.setCell (p := ⟨w.heap.size, 0, none⟩) (Nat.le_refl _) _).setCell (p := ⟨w.heap.size, 1, none⟩) (Nat.le_refl _) _).setCell (p := ⟨w.heap.size, 2, none⟩) (Nat.le_refl _) _
set_option maxRecDepth 20000 in
set_option maxHeartbeats 1000000 in
theorem specPoolFeed_any (a : Hs) (s : ByteArray) (h1 : a.st.size ≤ maxLen) (h2 : a.rs.size ≤ maxLen) (hs : s.size ≤ 1048576) (w : World) :
    Calls Try.prog 16 #[hsv a, .string s] w fun e w' => e = .returned (hsv (feedP a s)) ∧ Below w.heap.size w w' := by
  have CO := hide (fun W => specPoolOk_any a W h1 h2)
  by_cases c : okP a = true
  · have EF := hide (show feedP a s = ⟨(mixH a s).st, (mixH a s).rs, 0⟩ by unfold feedP; rw [if_pos c])
    obtain ⟨g1, g2, _, _⟩ := okP_yes c
    have CX := hide (fun W => specMix_any a s (by omega) (by omega) hs W)
    obtain ⟨b, hbm⟩ : ∃ b, b = mixH a s := ⟨_, rfl⟩
    rw [← hbm] at CX EF
    rw [unhide EF]
    rw [c] at CO
    replace hbm := hide hbm
    clear EF
    obtain ⟨bs, br, bc⟩ := b
    obtain ⟨st, rs, ct⟩ := a
    dsimp only at g1 g2
    unfold hsv at CX CO ⊢
    dsimp only at CX CO ⊢
    go_enter Try.func16, Try.ntmps16
    go_wp2_with fail
    obtain ⟨W, hW, hA, hR, hb, hlt⟩ := two_hs w ⟨st, rs, ct⟩ hz 23
    unfold hz at hW
    rw [hW]
    clear hW
    refine (unhide CO _).mono ?_
    rintro e w1 ⟨rfl, hb1⟩
    have hA1 := hA.step hb1
    have hR1 := hR.step hb1
    have HT1 := hb.trans (hb1.mono (by omega))
    clear hA hR hb hlt hb1
    have q0 := hA1.c0; have q1 := hA1.c1; have q2 := hA1.c2
    dsimp only at q0 q1 q2
    replace hA1 := hide hA1; replace hR1 := hide hR1; replace HT1 := hide HT1
    go_wp2_with fail
    refine (unhide CX _).mono ?_
    rintro e w3 ⟨rfl, hb3⟩
    have hA3 := (unhide hA1).step hb3
    have hR3 := (unhide hR1).step hb3
    have HT3 := (unhide HT1).trans (hb3.mono (unhide HT1).size)
    clear hA1 hR1 HT1 q0 q1 q2 hb3
    have q0 := hA3.c0; have q1 := hA3.c1; have q2 := hA3.c2
    have p0 := hA3.frozen 0; have p1 := hA3.frozen 1; have p2 := hA3.frozen 2
    have r0 := hR3.frozen 0; have r1 := hR3.frozen 1; have r2 := hR3.frozen 2
    have u0 := hR3.c0; have u1 := hR3.c1; have u2 := hR3.c2
    dsimp only at q0 q1 q2
    unfold hz at u0 u1 u2
    have hR4 := ((((hR3).set_off (h := w.heap.size) (k := 0) (by omega) (.string bs)).set_off (h := w.heap.size) (k := 1) (by omega) (.string br)).set_off (h := w.heap.size) (k := 2) (by omega) (.int .i64 bc)).set_off (h := w.heap.size) (k := 2) (by omega) (.int .i64 0)
    have HT4 := (((HT3.setCell (p := ⟨w.heap.size, 0, none⟩) (Nat.le_refl _) (.string bs)).setCell (p := ⟨w.heap.size, 1, none⟩) (Nat.le_refl _) (.string br)).setCell (p := ⟨w.heap.size, 2, none⟩) (Nat.le_refl _) (.int .i64 bc)).setCell (p := ⟨w.heap.size, 2, none⟩) (Nat.le_refl _) (.int .i64 0)
    have hA4 := (((hA3.set0 bs).set1 br).set2 bc).set2 0
    have y0 := hA4.c0; have y1 := hA4.c1; have y2 := hA4.c2
    dsimp only at y0 y1 y2
    replace hR4 := hide hR4; replace HT4 := hide HT4
    clear hA3 hR3 HT3 hA4
    go_wp2_with fail
    refine bodyPost_ret (v := hsv ⟨bs, br, 0⟩) (results_hash Try.results16 _ _ (w.heap.size + 1) 23 _ _ rfl (HB.set3 (unhide hR4) ⟨bs, br, 0⟩) Try.underlying23 (by kernel_rfl)) rfl ⟨rfl, ?_⟩
    exact (((unhide HT4).setCell (p := ⟨w.heap.size + 1, 0, none⟩) (Nat.le_succ _) _).setCell (p := ⟨w.heap.size + 1, 1, none⟩) (Nat.le_succ _) _).setCell (p := ⟨w.heap.size + 1, 2, none⟩) (Nat.le_succ _) _
  · have c' : okP a = false := by simpa using c
    have EF := hide (show feedP a s = a by unfold feedP; rw [if_neg c])
    rw [unhide EF]
    rw [c'] at CO
    clear EF c
    obtain ⟨st, rs, ct⟩ := a
    unfold hsv at CO ⊢
    dsimp only at CO ⊢
    go_enter Try.func16, Try.ntmps16
    go_wp2_with fail
    obtain ⟨W, hW, hA, hR, hb, hlt⟩ := two_hs w ⟨st, rs, ct⟩ hz 23
    unfold hz at hW
    rw [hW]
    clear hW
    refine (unhide CO _).mono ?_
    rintro e w1 ⟨rfl, hb1⟩
    have hA1 := hA.step hb1
    have hR1 := hR.step hb1
    have HT1 := hb.trans (hb1.mono (by omega))
    clear hA hR hb hlt hb1
    have q0 := hA1.c0; have q1 := hA1.c1; have q2 := hA1.c2
    dsimp only at q0 q1 q2
    have r0 := hR1.frozen 0; have r1 := hR1.frozen 1; have r2 := hR1.frozen 2
    have u0 := hR1.c0; have u1 := hR1.c1; have u2 := hR1.c2
    unfold hz at u0 u1 u2
    replace hA1 := hide hA1; replace hR1 := hide hR1; replace HT1 := hide HT1
    go_wp2_with fail
    refine bodyPost_ret (v := hsv ⟨st, rs, ct⟩) (results_hash Try.results16 _ _ (w.heap.size + 1) 23 _ _ rfl (HB.set3 (unhide hR1) ⟨st, rs, ct⟩) Try.underlying23 (by kernel_rfl)) rfl ⟨rfl, ?_⟩
    exact (((unhide HT1).setCell (p := ⟨w.heap.size + 1, 0, none⟩) (Nat.le_succ _) _).setCell (p := ⟨w.heap.size + 1, 1, none⟩) (Nat.le_succ _) _).setCell (p := ⟨w.heap.size + 1, 2, none⟩) (Nat.le_succ _) _
end Go.Proofs.Ytanianfealalgao
