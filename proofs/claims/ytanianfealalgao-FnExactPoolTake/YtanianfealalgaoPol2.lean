/- What a pool gives, by the given model, over the loaded program. -/
import Derived.Test.YtanianfealalgaoPol0
import Derived.Test.YtanianfealalgaoPol1
import Derived.Lib.AppendStr
namespace Go.Proofs.Ytanianfealalgao
open Go.RowKit
def valN (k v : ByteArray) : Nat → ByteArray
  | 0 => v
  | i + 1 => macB k (valN k v i)
def outN (k v : ByteArray) : Nat → List UInt8
  | 0 => []
  | i + 1 => outN k v i ++ (valN k v (i + 1)).data.toList
theorem valN_size (k v : ByteArray) (hv : v.size = 32) (i : Nat) : (valN k v i).size = 32 := by
  cases i with
  | zero => exact hv
  | succ i => exact macB_size _ _
theorem outN_len (k v : ByteArray) (i : Nat) : (outN k v i).length = 32 * i := by
  induction i with
  | zero => rfl
  | succ i ih =>
    show (outN k v i ++ (valN k v (i + 1)).data.toList).length = _
    rw [List.length_append, ih, show (valN k v (i + 1)).data.toList.length = 32 from macB_size _ _]
    omega
def takeB (a : Hs) (n : Nat) : ByteArray := ⟨((outN a.st a.rs ((n + 31) / 32)).take n).toArray⟩
def takeM (a : Hs) (n : Nat) : Hs := mixH ⟨a.st, valN a.st a.rs ((n + 31) / 32), a.ct⟩ ⟨#[]⟩
def takeH (a : Hs) (n : Nat) : Hs := ⟨(takeM a n).st, (takeM a n).rs, a.ct + 1⟩
def lenP : Value → Nat
  | .slice _ n _ => n
  | _ => 0
theorem OwnB.off8 {w : World} {base h k : Nat} {e : TypeId} {v : Value} {l : List UInt8} (ho : OwnB w base e v l) (hh : h < base) (x : Value) : OwnB (w.setCell ⟨h, k, none⟩ x) base e v l := by
  refine ⟨ho.1, ?_⟩
  rcases ho.2 with hn | ⟨g, cap, cur, hv, hb, hgg, rest⟩
  · exact .inl hn
  · refine .inr ⟨g, cap, cur, hv, hb, ?_, rest⟩
    rw [Below.heap_setCell _ _ _ g (show g ≠ h by omega)]
    exact hgg
theorem OwnB.kept8 {w w' : World} {base : Nat} {e : TypeId} {v : Value} {l : List UInt8} (ho : OwnB w base e v l) (hb : Below w.heap.size w w') : OwnB w' base e v l :=
  World.ownsRow.kept (row := none) ho ⟨hb.os, hb.tape, hb.output, hb.size, fun k hk _ => hb.block k hk⟩ (by cases hv : v.ownBlock <;> simp)
set_option maxRecDepth 20000 in
set_option maxHeartbeats 1000000 in
theorem specTake_yes (a : Hs) (hok : okP a = true) (hc : a.ct < 20) (n : Nat) (hn : n ≤ 200) (w : World) :
    Calls Try.prog 14 #[hsv a, .int .i64 (n : Int)] w fun e w' => e = .returned (.tuple #[hsv (takeH a n), .string (takeB a n), .bool true]) ∧ Below w.heap.size w w' := by
  obtain ⟨g1, g2, g3, g4⟩ := okP_yes hok
  obtain ⟨i0, hi, hz0, hz1, hz2⟩ := info_parts Try.infoByte
  have CO := hide (fun W => specPoolOk_any a W (by unfold maxLen; omega) (by unfold maxLen; omega))
  rw [hok] at CO
  have CI := hide (fun W => inb8 (n : Int) 0 200 W)
  rw [show decide ((0 : Int) ≤ (n : Int) ∧ (n : Int) ≤ 200) = true by rw [decide_eq_true_iff]; omega] at CI
  obtain ⟨st, rs, ct⟩ := a
  dsimp only at g1 g2 g3 g4 hc
  have hce : (ct == 20) = false := by rw [beq_eq_false_iff_ne]; omega
  unfold hsv at CO ⊢
  dsimp only at CO ⊢
  replace hok := hide hok
  go_enter Try.func14, Try.ntmps14
  go_wp2_with fail
  obtain ⟨W, hW, hA, hR, hb, hlt⟩ := two_hs w ⟨st, rs, ct⟩ hz 23
  unfold hz at hW
  rw [hW]
  clear hW
  refine (unhide CO _).mono ?_
  rintro e w1 ⟨rfl, hb1⟩
  have hA1 := hA.step hb1
  have hR1 := hR.step hb1
  have HT1 := hb.trans (hb1.mono (by omega))
  have hlt1 := hR1.lt
  have q2 := hA1.c2
  dsimp only at q2
  clear hA hR hb hlt hb1
  replace hA1 := hide hA1; replace hR1 := hide hR1; replace HT1 := hide HT1
  go_wp2_with (go_at_call 22; refine (unhide CI _).mono ?_; rintro e w2 ⟨rfl, hw2⟩; have hw2' := hw2.symm; subst hw2'; clear hw2)
  go_loopw [7] (fun tv wq => ∃ j : Nat, j ≤ (n + 31) / 32 ∧ Hid (OwnB wq w1.heap.size 5 tv (outN st rs j)) ∧ Hid (HB wq w.heap.size 23 ⟨st, valN st rs j, ct⟩) ∧ Hid (HB wq (w.heap.size + 1) 23 hz) ∧ Hid (Below w.heap.size w wq) ∧ w1.heap.size ≤ wq.heap.size) (fun tv _ => 1000 - lenP tv)
  case atStart =>
    have hs : Below w1.heap.size w1 (w1.alloc (.cells #[] 5)) := (Below.refl _ _).alloc (Nat.le_refl _) _
    exact ⟨0, by omega, hide (World.ownsRow_made w1 #[] 0 (Nat.le_refl _) (by decide) (by simp)), hide ((unhide hA1).step hs), hide ((unhide hR1).step hs), hide ((unhide HT1).trans (hs.mono (unhide HT1).size)), hs.size⟩
  case round =>
    obtain ⟨j, hj, HO, HA, HR, HT, hsz⟩ := hrel
    have hjl := outN_len st rs j
    have hjb : j ≤ 7 := by omega
    obtain ⟨m, hm⟩ : ∃ m, m = 32 * j := ⟨_, rfl⟩
    rw [← hm] at hjl
    have hvs := valN_size st rs g2 j
    obtain ⟨v, hv⟩ : ∃ v, v = valN st rs j := ⟨_, rfl⟩
    obtain ⟨a9, c9, hv9⟩ : ∃ a c, u7 = .slice a m c := by
      have h9 : wr.ownsRow w1.heap.size 5 1 u7 (outN st rs j).length ((outN st rs j).map bv) := unhide HO
      rw [hjl] at h9
      rcases h9.2 with ⟨h, h'⟩ | ⟨g, cap, cur, h, _⟩
      · exact ⟨none, 0, by rw [h, h']⟩
      · exact ⟨_, cap, h⟩
    subst hv9
    have q0 := (unhide HA).c0; have q1 := (unhide HA).c1; have q2' := (unhide HA).c2; have p1 := (unhide HA).frozen 1
    dsimp only at q0 q1 q2'
    rw [← hv] at q1 hvs
    by_cases hlt : m < n
    · have hlt' : (m : Int) < (n : Int) := by omega
      have CM := hide (fun W => specMac_any st v (by omega) (by omega) W)
      obtain ⟨tn, htn⟩ : ∃ t, t = macB st v := ⟨_, rfl⟩
      rw [← htn] at CM
      have htn' : tn = valN st rs (j + 1) := by rw [htn, hv]; rfl
      have hTs : tn.size = 32 := by rw [htn]; exact macB_size _ _
      have HLs := hide (show outN st rs (j + 1) = outN st rs j ++ tn.data.toList by rw [htn']; rfl)
      replace htn := hide htn; replace htn' := hide htn'; replace hm := hide hm; replace hv := hide hv
      go_wp2_with fail
      refine ((unhide CM) wr).mono ?_
      rintro e w3 ⟨rfl, hb3⟩
      have hA3 := (unhide HA).step hb3
      have hR3 := (unhide HR).step hb3
      have hlA := (unhide HA).lt
      have hT3 := (unhide HT).trans (hb3.mono (unhide HT).size)
      have hO3 := (unhide HO).kept8 hb3
      have hsz3 := Nat.le_trans hsz hb3.size
      clear q0 q1 q2' p1
      have hA4 := hA3.set1 tn
      have hR4 := hR3.set_off (h := w.heap.size) (k := 1) (by omega) (.string tn)
      have HT4 := hT3.setCell (p := ⟨w.heap.size, 1, none⟩) (Nat.le_refl _) (.string tn)
      have hO4 := hO3.off8 (h := w.heap.size) (k := 1) (by omega) (.string tn)
      have hsz4 : w1.heap.size ≤ (w3.setCell ⟨w.heap.size, 1, none⟩ (.string tn)).heap.size := by simpa using hsz3
      have q0 := hA3.c0; have q1 := hA3.c1; have q2' := hA3.c2; have p1 := hA3.frozen 1
      dsimp only at q0 q1 q2'
      have hcv := Lib.run_convert_string_bytes (P := Try.prog) (w3.setCell ⟨w.heap.size, 1, none⟩ (.string tn)) 9 49 5 tn Try.underlying9 Try.underlying49 Try.underlying5
      have hmb := bytes_mb (w3.setCell ⟨w.heap.size, 1, none⟩ (.string tn)) 5 tn
      have hb5 := bytes_below2 (w3.setCell ⟨w.heap.size, 1, none⟩ (.string tn)) 5 tn
      generalize grownCap (w3.setCell ⟨w.heap.size, 1, none⟩ (.string tn)) tn.size 0 5 = cp at *
      generalize Lib.bytesWorld (w3.setCell ⟨w.heap.size, 1, none⟩ (.string tn)) 5 tn = w5 at *
      have hA5 := hA4.step hb5
      have hR5 := hR4.step hb5
      have hT5 := HT4.trans (hb5.mono HT4.size)
      have hO5 := hO4.kept8 hb5
      have hsz5 := Nat.le_trans hsz4 hb5.size
      have hnews : ∀ q v, (tn.data.toList.map bv)[q]? = some v → w5.cell? ((⟨w3.heap.size, 0, none⟩ : Addr).add q) = some v := by
        have ez : (w3.setCell ⟨w.heap.size, 1, none⟩ (.string tn)).heap.size = w3.heap.size := by simp
        rw [ez] at hmb
        intro q v hq
        have hadd : (⟨w3.heap.size, 0, none⟩ : Addr).add q = ⟨w3.heap.size, q, none⟩ := by unfold Addr.add; split <;> simp_all
        rw [hadd]
        rw [List.getElem?_map] at hq
        cases hb' : tn.data.toList[q]? with
        | none => rw [hb'] at hq; cases hq
        | some b' => rw [hb'] at hq; cases hq; exact hmb.cell hb'
      have hone : ∀ v ∈ tn.data.toList.map bv, v.oneCell' = true := by
        intro v hv
        obtain ⟨x, _, rfl⟩ := List.mem_map.1 hv
        rfl
      have hnl2 : (tn.data.toList.map bv).length = tn.size * 1 := by rw [List.length_map, Nat.mul_one]; rfl
      have h63 : m + tn.size ≤ maxLen := by unfold maxLen; omega
      have hbyt : (m + tn.size) * 1 ≤ 140737488355328 := by omega
      have hown5 : w5.ownsRow w1.heap.size 5 1 (.slice a9 m c9) m ((outN st rs j).map bv) := by
        have := hO5
        unfold OwnB at this
        rw [hjl] at this
        exact this
      clear hmb hb5 hb3 hA4 hR4 HT4 hO4 hA3 hR3 hT3 hO3 HO CM HA HR HT hO5 hsz4 hsz3
      replace hown5 := hide hown5
      replace hnews := hide hnews
      replace hnl2 := hide hnl2
      replace hTs := hide hTs
      replace hA5 := hide hA5; replace hR5 := hide hR5; replace hT5 := hide hT5
      go_wp2_with (at_builtin; refine wpList_append_own w5 rfl (.tmp 34) (.tmp 37) 49 rfl w1.heap.size 5 i0 (.int .u8 0) 1 1 Try.underlying49 hi hz0 hz1 hz2 rfl (by decide) _ m _ rfl (unhide hown5) ⟨w3.heap.size, 0, none⟩ tn.size cp (tn.data.toList.map bv) rfl (unhide hnl2) (unhide hnews) hone h63 hbyt hsz5 ?_; intro v6 w6 hown6 hg6 _)
      have hgs := hg6.size
      have hne8 : ∀ k, k < w1.heap.size → (Value.slice a9 m c9).ownBlock ≠ some k := fun k hk h => by
        have := ((unhide hown5).lt k h).1
        omega
      have hA6 : HB w6 w.heap.size 23 ⟨st, tn, ct⟩ := by
        have h := unhide hA5
        unfold HB at h ⊢
        rw [hg6.block w.heap.size (unhide hA5).lt (fun hh => hne8 w.heap.size (by omega) hh.symm)]
        exact h
      have hR6 : HB w6 (w.heap.size + 1) 23 hz := by
        have h := unhide hR5
        unfold HB at h ⊢
        rw [hg6.block (w.heap.size + 1) (unhide hR5).lt (fun hh => hne8 (w.heap.size + 1) (by omega) hh.symm)]
        exact h
      have hT6 := (unhide hT5).grown hg6 (unhide hT5).size (fun k hk => Nat.le_trans (by omega) ((unhide hown5).lt k hk).1)
      rw [unhide htn'] at hA6
      have hown7 : OwnB w6 w1.heap.size 5 v6 (outN st rs (j + 1)) := by
        unfold OwnB
        rw [unhide HLs, List.length_append, hjl, List.map_append]
        exact hown6
      obtain ⟨a6, c6, hv6⟩ : ∃ a c, v6 = .slice a (m + tn.size) c := by
        rcases hown6.2 with ⟨h, h'⟩ | ⟨g, cap, cur, h, _⟩
        · exact ⟨none, 0, by rw [h, h']⟩
        · exact ⟨_, cap, h⟩
      subst hv6
      replace hown7 := hide hown7; replace hA6 := hide hA6; replace hR6 := hide hR6; replace hT6 := hide hT6
      clear hown6 hg6 hown5 HLs hcv hnews hA5 hR5 hT5 hne8
      go_wp2
      have q1 := unhide hm
      have q2 := unhide hTs
      exact ⟨⟨j + 1, by omega, hown7, hA6, hR6, hT6, by omega⟩, by simp [lenP]; omega⟩
    · have hlt' : ¬ (m : Int) < (n : Int) := by omega
      have hje : j = (n + 31) / 32 := by omega
      have EB := hide (show takeB ⟨st, rs, ct⟩ n = ⟨((outN st rs j).take n).toArray⟩ by unfold takeB; rw [hje])
      obtain ⟨b, hbm⟩ : ∃ b, b = mixH ⟨st, v, ct⟩ ⟨#[]⟩ := ⟨_, rfl⟩
      have EH := hide (show takeH ⟨st, rs, ct⟩ n = ⟨b.st, b.rs, ct + 1⟩ by unfold takeH takeM; dsimp only; rw [← hje, ← hv, ← hbm])
      have CX := hide (fun W => specMix_any ⟨st, v, ct⟩ ⟨#[]⟩ (by show st.size ≤ _; omega) (by show v.size ≤ _; omega) (by decide) W)
      rw [← hbm] at CX
      obtain ⟨m1, m2, m3⟩ := mixH_st ⟨st, v, ct⟩ ⟨#[]⟩
      rw [← hbm] at m1 m2 m3
      dsimp only at m3
      obtain ⟨bs, br, bc⟩ := b
      dsimp only at m1 m2 m3 EH
      subst m3
      unfold hsv at CX
      dsimp only at CX
      have h9 : wr.ownsRow w1.heap.size 5 1 (.slice a9 m c9) m ((outN st rs j).map bv) := by
        have := unhide HO
        unfold OwnB at this
        rw [hjl] at this
        exact this
      have hnl : ((outN st rs j).take n).length = n := by rw [List.length_take, hjl]; omega
      have ew : IntKind.i64.wrap (bc + 1) = bc + 1 := by rw [IntKind.wrap_i64]; omega
      replace hje := hide hje; replace hm := hide hm; replace hv := hide hv; replace hbm := hide hbm
      go_wp2_with fail
      refine ((unhide CX) wr).mono ?_
      rintro e w3 ⟨rfl, hb3⟩
      have hA3 := (unhide HA).step hb3
      have hR3 := (unhide HR).step hb3
      have hT3 := (unhide HT).trans (hb3.mono (unhide HT).size)
      have hO3 := (unhide HO).kept8 hb3
      have hlA := hA3.lt
      clear q0 q1 q2' p1 HO h9 HA HR HT CX
      have q0 := hA3.c0; have q1 := hA3.c1; have q2' := hA3.c2
      have p0 := hA3.frozen 0; have p1 := hA3.frozen 1; have p2 := hA3.frozen 2
      have r0 := hR3.frozen 0; have r1 := hR3.frozen 1; have r2 := hR3.frozen 2
      have u0 := hR3.c0; have u1 := hR3.c1; have u2 := hR3.c2
      dsimp only at q0 q1 q2'
      unfold hz at u0 u1 u2
      replace hA3 := hide hA3; replace hR3 := hide hR3; replace hT3 := hide hT3; replace hO3 := hide hO3
      have hA4 := (((((unhide hA3).set0 bs).set1 br).set2 bc).set2 (bc + 1))
      have hR4 := ((((unhide hR3).set_off (h := w.heap.size) (k := 0) (by omega) (.string bs)).set_off (h := w.heap.size) (k := 1) (by omega) (.string br)).set_off (h := w.heap.size) (k := 2) (by omega) (.int .i64 bc)).set_off (h := w.heap.size) (k := 2) (by omega) (.int .i64 (bc + 1))
      have hO4 := ((((unhide hO3).off8 (h := w.heap.size) (k := 0) (by omega) (.string bs)).off8 (h := w.heap.size) (k := 1) (by omega) (.string br)).off8 (h := w.heap.size) (k := 2) (by omega) (.int .i64 bc)).off8 (h := w.heap.size) (k := 2) (by omega) (.int .i64 (bc + 1))
      have HT4 := ((((unhide hT3).setCell (p := ⟨w.heap.size, 0, none⟩) (Nat.le_refl _) (.string bs)).setCell (p := ⟨w.heap.size, 1, none⟩) (Nat.le_refl _) (.string br)).setCell (p := ⟨w.heap.size, 2, none⟩) (Nat.le_refl _) (.int .i64 bc)).setCell (p := ⟨w.heap.size, 2, none⟩) (Nat.le_refl _) (.int .i64 (bc + 1))
      obtain ⟨wq, hwq⟩ : ∃ wq, wq = (((w3.setCell ⟨w.heap.size, 0, none⟩ (.string bs)).setCell ⟨w.heap.size, 1, none⟩ (.string br)).setCell ⟨w.heap.size, 2, none⟩ (.int .i64 bc)).setCell ⟨w.heap.size, 2, none⟩ (.int .i64 (bc + 1)) := ⟨_, rfl⟩
      rw [← hwq] at hA4 hR4 hO4 HT4
      replace hA4 := hide hA4; replace hR4 := hide hR4; replace hO4 := hide hO4; replace HT4 := hide HT4; replace hwq := hide hwq
      go_wp2_with fail
      rw [← unhide hwq]
      clear hwq q0 q1 q2' p0 p1 p2 r0 r1 r2 u0 u1 u2 hA3 hR3 hT3 hO3 hb3
      have q0 := (unhide hA4).c0; have q1 := (unhide hA4).c1; have q2' := (unhide hA4).c2
      have r0 := (unhide hR4).frozen 0; have r1 := (unhide hR4).frozen 1; have r2 := (unhide hR4).frozen 2
      have u0 := (unhide hR4).c0; have u1 := (unhide hR4).c1; have u2 := (unhide hR4).c2
      dsimp only at q0 q1 q2'
      unfold hz at u0 u1 u2
      have hF := (unhide hR4).set3 ⟨bs, br, bc + 1⟩
      have f0 := hF.c0; have f1 := hF.c1; have f2 := hF.c2
      dsimp only at f0 f1 f2
      have hO5 := (((unhide hO4).off8 (h := w.heap.size + 1) (k := 0) (by omega) (.string bs)).off8 (h := w.heap.size + 1) (k := 1) (by omega) (.string br)).off8 (h := w.heap.size + 1) (k := 2) (by omega) (.int .i64 (bc + 1))
      have HTF := hide ((((unhide HT4).setCell (p := ⟨w.heap.size + 1, 0, none⟩) (by show w.heap.size ≤ w.heap.size + 1; omega) (.string bs)).setCell (p := ⟨w.heap.size + 1, 1, none⟩) (by show w.heap.size ≤ w.heap.size + 1; omega) (.string br)).setCell (p := ⟨w.heap.size + 1, 2, none⟩) (by show w.heap.size ≤ w.heap.size + 1; omega) (.int .i64 (bc + 1)))
      have h4 : wq.ownsRow w1.heap.size 5 1 (.slice a9 m c9) m ((outN st rs j).map bv) := by
        have := unhide hO4
        unfold OwnB at this
        rw [hjl] at this
        exact this
      have h5 : (((wq.setCell ⟨w.heap.size + 1, 0, none⟩ (.string bs)).setCell ⟨w.heap.size + 1, 1, none⟩ (.string br)).setCell ⟨w.heap.size + 1, 2, none⟩ (.int .i64 (bc + 1))).ownsRow w1.heap.size 5 1 (.slice a9 m c9) m ((outN st rs j).map bv) := by
        have := hO5
        unfold OwnB at this
        rw [hjl] at this
        exact this
      have hnl : ((outN st rs j).take n).length = n := by rw [List.length_take, hjl]; have := unhide hm; omega
      clear hF hO5
      rcases h4.2 with ⟨hv', hm0⟩ | ⟨g, cap, cur, hv', _, _, hmc, _⟩
      · cases hv'
        have hn0 : n = 0 := by omega
        subst hn0
        have hc1 := run_convert_bytes_nil (P := Try.prog) wq.drew 49 5 Try.underlying49 Try.underlying5 0 0 9 Try.underlying9
        have hc2 := run_convert_bytes_nil (P := Try.prog) (((wq.setCell ⟨w.heap.size + 1, 0, none⟩ (.string bs)).setCell ⟨w.heap.size + 1, 1, none⟩ (.string br)).setCell ⟨w.heap.size + 1, 2, none⟩ (.int .i64 (bc + 1))).drew 49 5 Try.underlying49 Try.underlying5 0 0 9 Try.underlying9
        clear h4 h5
        go_region
        all_goals go_wp2
        all_goals (
          refine bodyPost_ret (v := .tuple #[.agg #[.string bs, .string br, .int .i64 (bc + 1)], .string ByteArray.empty, .bool true]) ?_ rfl ⟨by rw [unhide EB, unhide EH]; rfl, (unhide HTF).drew⟩
          simp [results, Try.results14, go_sem, f0, f1, f2])
      · cases hv'
        have hcl4 := h4.cells (g := g) rfl
        have hcl5 := h5.cells (g := g) rfl
        have hc1 := run_convert_bytes_back (P := Try.prog) wq.drew 49 9 5 ⟨g, 0, none⟩ c9 ((outN st rs j).take n) Try.underlying49 Try.underlying5 Try.underlying9 (fun q hq => by
          apply hcl4 q
          rw [hnl] at hq
          rw [List.getElem?_map, List.getElem_take, List.getElem?_eq_getElem (by have := unhide hm; omega)]
          rfl)
        have hc2 := run_convert_bytes_back (P := Try.prog) (((wq.setCell ⟨w.heap.size + 1, 0, none⟩ (.string bs)).setCell ⟨w.heap.size + 1, 1, none⟩ (.string br)).setCell ⟨w.heap.size + 1, 2, none⟩ (.int .i64 (bc + 1))).drew 49 9 5 ⟨g, 0, none⟩ c9 ((outN st rs j).take n) Try.underlying49 Try.underlying5 Try.underlying9 (fun q hq => by
          apply hcl5 q
          rw [hnl] at hq
          rw [List.getElem?_map, List.getElem_take, List.getElem?_eq_getElem (by have := unhide hm; omega)]
          rfl)
        rw [hnl] at hc1 hc2
        have hnc : (n : Int) ≤ (c9 : Int) := by omega
        clear h4 h5 hcl4 hcl5
        go_region
        all_goals go_wp2
        all_goals (
          refine bodyPost_ret (v := .tuple #[.agg #[.string bs, .string br, .int .i64 (bc + 1)], .string ⟨((outN st rs j).take n).toArray⟩, .bool true]) ?_ rfl ⟨by rw [unhide EB, unhide EH], (unhide HTF).drew⟩
          simp [results, Try.results14, go_sem, f0, f1, f2])
set_option maxRecDepth 20000 in
set_option maxHeartbeats 1000000 in
theorem specTake_no (a : Hs) (z : Int) (hno : okP a = false ∨ z < 0 ∨ 200 < z ∨ a.ct = 20) (h1 : a.st.size ≤ maxLen) (h2 : a.rs.size ≤ maxLen) (w : World) :
    Calls Try.prog 14 #[hsv a, .int .i64 z] w fun e w' => e = .returned (.tuple #[hsv hz, .string ⟨#[]⟩, .bool false]) ∧ Below w.heap.size w w' := by
  have CO := hide (fun W => specPoolOk_any a W h1 h2)
  have CI := hide (fun W => inb8 z 0 200 W)
  obtain ⟨st, rs, ct⟩ := a
  by_cases c1 : okP ⟨st, rs, ct⟩ = false
  · rw [c1] at CO
    clear hno
    unfold hsv at CO ⊢
    unfold hz
    dsimp only at CO ⊢
    go_enter Try.func14, Try.ntmps14
    go_wp2_with fail
    obtain ⟨W, hW, hA, hR, hb, hlt⟩ := two_hs w ⟨st, rs, ct⟩ hz 23
    unfold hz at hW
    rw [hW]
    clear hW
    refine (unhide CO _).mono ?_
    rintro e w1 ⟨rfl, hb1⟩
    have hA1 := hA.step hb1
    have hR1 := hR.step hb1
    have HT1 := hb.trans (hb1.mono (by omega))
    have q2 := hA1.c2
    have r0 := hR1.frozen 0; have r1 := hR1.frozen 1; have r2 := hR1.frozen 2
    have u0 := hR1.c0; have u1 := hR1.c1; have u2 := hR1.c2
    dsimp only at q2
    unfold hz at u0 u1 u2
    clear hA hR hb hlt hb1
    replace hA1 := hide hA1; replace hR1 := hide hR1; replace HT1 := hide HT1
    have HTF := hide ((((unhide HT1).setCell (p := ⟨w.heap.size + 1, 0, none⟩) (by show w.heap.size ≤ w.heap.size + 1; omega) (.string ⟨#[]⟩)).setCell (p := ⟨w.heap.size + 1, 1, none⟩) (by show w.heap.size ≤ w.heap.size + 1; omega) (.string ⟨#[]⟩)).setCell (p := ⟨w.heap.size + 1, 2, none⟩) (by show w.heap.size ≤ w.heap.size + 1; omega) (.int .i64 0))
    have hF := (unhide hR1).set3 ⟨⟨#[]⟩, ⟨#[]⟩, 0⟩
    have f0 := hF.c0; have f1 := hF.c1; have f2 := hF.c2
    dsimp only at f0 f1 f2
    clear hF
    go_wp2_with fail
    refine bodyPost_ret (v := .tuple #[.agg #[.string ⟨#[]⟩, .string ⟨#[]⟩, .int .i64 0], .string ⟨#[]⟩, .bool false]) ?_ rfl ⟨rfl, unhide HTF⟩
    simp [results, Try.results14, go_sem, f0, f1, f2]
  · have c2 : okP ⟨st, rs, ct⟩ = true := by simpa using c1
    rw [c2] at CO
    by_cases c3 : z < 0 ∨ 200 < z
    · rw [show decide ((0 : Int) ≤ z ∧ z ≤ 200) = false by rw [decide_eq_false_iff_not]; omega] at CI
      clear hno c3
      unfold hsv at CO ⊢
      unfold hz
      dsimp only at CO ⊢
      go_enter Try.func14, Try.ntmps14
      go_wp2_with fail
      obtain ⟨W, hW, hA, hR, hb, hlt⟩ := two_hs w ⟨st, rs, ct⟩ hz 23
      unfold hz at hW
      rw [hW]
      clear hW
      refine (unhide CO _).mono ?_
      rintro e w1 ⟨rfl, hb1⟩
      have hA1 := hA.step hb1
      have hR1 := hR.step hb1
      have HT1 := hb.trans (hb1.mono (by omega))
      have q2 := hA1.c2
      have r0 := hR1.frozen 0; have r1 := hR1.frozen 1; have r2 := hR1.frozen 2
      have u0 := hR1.c0; have u1 := hR1.c1; have u2 := hR1.c2
      dsimp only at q2
      unfold hz at u0 u1 u2
      clear hA hR hb hlt hb1
      replace hA1 := hide hA1; replace hR1 := hide hR1; replace HT1 := hide HT1
      have HTF := hide ((((unhide HT1).setCell (p := ⟨w.heap.size + 1, 0, none⟩) (by show w.heap.size ≤ w.heap.size + 1; omega) (.string ⟨#[]⟩)).setCell (p := ⟨w.heap.size + 1, 1, none⟩) (by show w.heap.size ≤ w.heap.size + 1; omega) (.string ⟨#[]⟩)).setCell (p := ⟨w.heap.size + 1, 2, none⟩) (by show w.heap.size ≤ w.heap.size + 1; omega) (.int .i64 0))
      have hF := (unhide hR1).set3 ⟨⟨#[]⟩, ⟨#[]⟩, 0⟩
      have f0 := hF.c0; have f1 := hF.c1; have f2 := hF.c2
      dsimp only at f0 f1 f2
      clear hF
      go_wp2_with (go_at_call 22; refine (unhide CI _).mono ?_; rintro e w2 ⟨rfl, hw2⟩; have hw2' := hw2.symm; subst hw2'; clear hw2)
      refine bodyPost_ret (v := .tuple #[.agg #[.string ⟨#[]⟩, .string ⟨#[]⟩, .int .i64 0], .string ⟨#[]⟩, .bool false]) ?_ rfl ⟨rfl, unhide HTF⟩
      simp [results, Try.results14, go_sem, f0, f1, f2]
    · rw [show decide ((0 : Int) ≤ z ∧ z ≤ 200) = true by rw [decide_eq_true_iff]; omega] at CI
      have c4 : ct = 20 := by
        rcases hno with h | h | h | h
        · exact absurd h c1
        · omega
        · omega
        · exact h
      subst c4
      clear hno c3
      unfold hsv at CO ⊢
      unfold hz
      dsimp only at CO ⊢
      go_enter Try.func14, Try.ntmps14
      go_wp2_with fail
      obtain ⟨W, hW, hA, hR, hb, hlt⟩ := two_hs w ⟨st, rs, 20⟩ hz 23
      unfold hz at hW
      rw [hW]
      clear hW
      refine (unhide CO _).mono ?_
      rintro e w1 ⟨rfl, hb1⟩
      have hA1 := hA.step hb1
      have hR1 := hR.step hb1
      have HT1 := hb.trans (hb1.mono (by omega))
      have q2 := hA1.c2
      have r0 := hR1.frozen 0; have r1 := hR1.frozen 1; have r2 := hR1.frozen 2
      have u0 := hR1.c0; have u1 := hR1.c1; have u2 := hR1.c2
      dsimp only at q2
      unfold hz at u0 u1 u2
      clear hA hR hb hlt hb1
      replace hA1 := hide hA1; replace hR1 := hide hR1; replace HT1 := hide HT1
      have HTF := hide ((((unhide HT1).setCell (p := ⟨w.heap.size + 1, 0, none⟩) (by show w.heap.size ≤ w.heap.size + 1; omega) (.string ⟨#[]⟩)).setCell (p := ⟨w.heap.size + 1, 1, none⟩) (by show w.heap.size ≤ w.heap.size + 1; omega) (.string ⟨#[]⟩)).setCell (p := ⟨w.heap.size + 1, 2, none⟩) (by show w.heap.size ≤ w.heap.size + 1; omega) (.int .i64 0))
      have hF := (unhide hR1).set3 ⟨⟨#[]⟩, ⟨#[]⟩, 0⟩
      have f0 := hF.c0; have f1 := hF.c1; have f2 := hF.c2
      dsimp only at f0 f1 f2
      clear hF
      go_wp2_with (go_at_call 22; refine (unhide CI _).mono ?_; rintro e w2 ⟨rfl, hw2⟩; have hw2' := hw2.symm; subst hw2'; clear hw2)
      refine bodyPost_ret (v := .tuple #[.agg #[.string ⟨#[]⟩, .string ⟨#[]⟩, .int .i64 0], .string ⟨#[]⟩, .bool false]) ?_ rfl ⟨rfl, unhide HTF⟩
      simp [results, Try.results14, go_sem, f0, f1, f2]
end Go.Proofs.Ytanianfealalgao
