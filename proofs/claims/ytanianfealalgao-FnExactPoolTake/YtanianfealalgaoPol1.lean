/- A pool by the given model: mixed, right, over the loaded program. -/
import Derived.Test.YtanianfealalgaoMac1
import Derived.Test.YtanianfealalgaoMrk
namespace Go.Proofs.Ytanianfealalgao
open Go.RowKit
theorem HB.set0 {w : World} {g : Nat} {T : TypeId} {a : Hs} (h : HB w g T a) (s : ByteArray) : HB (w.setCell ⟨g, 0, none⟩ (.string s)) g T ⟨s, a.rs, a.ct⟩ := by
  unfold HB
  rw [heap_setCell_same w g 0 _ T (.string s) h]
  rfl
theorem HB.set1 {w : World} {g : Nat} {T : TypeId} {a : Hs} (h : HB w g T a) (s : ByteArray) : HB (w.setCell ⟨g, 1, none⟩ (.string s)) g T ⟨a.st, s, a.ct⟩ := by
  unfold HB
  rw [heap_setCell_same w g 1 _ T (.string s) h]
  rfl
theorem HB.set2 {w : World} {g : Nat} {T : TypeId} {a : Hs} (h : HB w g T a) (z : Int) : HB (w.setCell ⟨g, 2, none⟩ (.int .i64 z)) g T ⟨a.st, a.rs, z⟩ := by
  unfold HB
  rw [heap_setCell_same w g 2 _ T (.int .i64 z) h]
  rfl
theorem HB.set_off {w : World} {g h k : Nat} {T : TypeId} {a : Hs} (hA : HB w g T a) (hne : g ≠ h) (v : Value) : HB (w.setCell ⟨h, k, none⟩ v) g T a := by
  unfold HB at hA ⊢
  rw [Below.heap_setCell _ _ _ g hne]
  exact hA
def z0B : ByteArray := ⟨#[0]⟩
def z1B : ByteArray := ⟨#[1]⟩
def mixK (a : Hs) (z s : ByteArray) : ByteArray := macB a.st (a.rs ++ z ++ s)
def mixO (a : Hs) (z s : ByteArray) : Hs := ⟨mixK a z s, macB (mixK a z s) a.rs, a.ct⟩
def mixH (a : Hs) (s : ByteArray) : Hs := if s.size = 0 then mixO a z0B s else mixO (mixO a z0B s) z1B s
theorem mixH_st (a : Hs) (s : ByteArray) : (mixH a s).st.size = 32 ∧ (mixH a s).rs.size = 32 ∧ (mixH a s).ct = a.ct := by
  unfold mixH
  split <;> exact ⟨macB_size _ _, macB_size _ _, rfl⟩
theorem two_hs (w : World) (a b : Hs) (T : TypeId) : ∃ W, (w.alloc (.cells #[.string a.st, .string a.rs, .int .i64 a.ct] T)).alloc (.cells #[.string b.st, .string b.rs, .int .i64 b.ct] T) = W ∧ HB W w.heap.size T a ∧ HB W (w.heap.size + 1) T b ∧ Below w.heap.size w W ∧ w.heap.size + 1 < W.heap.size := by
  obtain ⟨W, hW, hA, hb, hlt⟩ := one_hash w a T
  rw [hW]
  have e : w.heap.size + 1 = W.heap.size := by rw [← hW]; simp
  refine ⟨_, rfl, hA.step ((Below.refl _ _).alloc (Nat.le_refl _) _), ?_, hb.alloc (Nat.le_of_lt hlt) _, ?_⟩
  · unfold HB
    rw [e]
    exact heap_alloc_new W _
  · rw [← hW]; simp
def hz : Hs := ⟨⟨#[]⟩, ⟨#[]⟩, 0⟩
set_option maxRecDepth 20000 in
set_option maxHeartbeats 1000000 in
theorem specMix_any (a : Hs) (s : ByteArray) (h1 : a.st.size ≤ 1048576) (h2 : a.rs.size ≤ 1000) (hs : s.size ≤ 1048576) (w : World) :
    Calls Try.prog 18 #[hsv a, .string s] w fun e w' => e = .returned (hsv (mixH a s)) ∧ Below w.heap.size w w' := by
  obtain ⟨st, rs, ct⟩ := a
  dsimp only at h1 h2
  have hz0 : (⟨#[0]⟩ : ByteArray).size = 1 := rfl
  have hz1 : (⟨#[1]⟩ : ByteArray).size = 1 := rfl
  obtain ⟨t1, ht1⟩ : ∃ t, t = rs ++ z0B ++ s := ⟨_, rfl⟩
  have ht1s : t1.size ≤ 2000000 := by rw [ht1, ByteArray.size_append, ByteArray.size_append]; show rs.size + 1 + s.size ≤ _; omega
  obtain ⟨k1, hk1⟩ : ∃ k, k = macB st t1 := ⟨_, rfl⟩
  obtain ⟨v1, hv1⟩ : ∃ k, k = macB k1 rs := ⟨_, rfl⟩
  have hk1s : k1.size = 32 := by rw [hk1]; exact macB_size _ _
  have hv1s : v1.size = 32 := by rw [hv1]; exact macB_size _ _
  have C1 := hide (fun W => specMac_any st t1 h1 ht1s W)
  rw [← hk1] at C1
  have C2 := hide (fun W => specMac_any k1 rs (by omega) (by omega) W)
  rw [← hv1] at C2
  have e1 : rs ++ (⟨#[0]⟩ : ByteArray) ++ s = t1 := ht1.symm
  have hO1 : mixO ⟨st, rs, ct⟩ z0B s = ⟨k1, v1, ct⟩ := by unfold mixO mixK; dsimp only; rw [← ht1, ← hk1, ← hv1]
  by_cases h0 : s.size = 0
  · have hse : s = ⟨#[]⟩ := by
      obtain ⟨d⟩ := s
      congr 1
      exact Array.eq_empty_of_size_eq_zero h0
    have HR : Hid (mixH ⟨st, rs, ct⟩ s = ⟨k1, v1, ct⟩) := hide (by unfold mixH; rw [if_pos h0]; exact hO1)
    replace ht1 := hide ht1; replace hk1 := hide hk1; replace hv1 := hide hv1; replace hO1 := hide hO1
    rw [unhide HR]
    clear HR
    subst hse
    replace e1 := hide e1
    unfold hsv
    dsimp only
    go_enter Try.func18, Try.ntmps18
    go_wp2_with fail
    obtain ⟨W, hW, hA, hR, hb, hlt⟩ := two_hs w ⟨st, rs, ct⟩ hz 23
    unfold hz at hW
    rw [hW, unhide e1]
    clear hW
    refine (unhide C1 _).mono ?_
    rintro e w1 ⟨rfl, hb1⟩
    have hA1 := hA.step hb1
    have hR1 := hR.step hb1
    have HT1 := hb.trans (hb1.mono (by omega))
    have hA2 := hA1.set0 k1
    have hR2 := hR1.set_off (h := w.heap.size) (k := 0) (by omega) (.string k1)
    have HT2 := HT1.setCell (p := ⟨w.heap.size, 0, none⟩) (Nat.le_refl _) (.string k1)
    have q0 := hA1.c0; have q1 := hA1.c1; have q2 := hA1.c2; have p0 := hA1.frozen 0
    dsimp only at q0 q1 q2
    replace hA2 := hide hA2; replace hR2 := hide hR2; replace HT2 := hide HT2
    clear hA hR hb hlt hb1 hA1 hR1 HT1
    go_wp2_with fail
    refine (unhide C2 _).mono ?_
    rintro e w2 ⟨rfl, hb2⟩
    have hA3 := (unhide hA2).step hb2
    have hR3 := (unhide hR2).step hb2
    have HT3 := (unhide HT2).trans (hb2.mono (unhide HT2).size)
    clear hA2 hR2 HT2 q0 q1 q2 p0 hb2
    have hA4 := hA3.set1 v1
    have hR4 := hR3.set_off (h := w.heap.size) (k := 1) (by omega) (.string v1)
    have HT4 := HT3.setCell (p := ⟨w.heap.size, 1, none⟩) (Nat.le_refl _) (.string v1)
    have q0 := hA3.c0; have q1 := hA3.c1; have q2 := hA3.c2; have p1 := hA3.frozen 1
    have r0 := hR3.frozen 0; have r1 := hR3.frozen 1; have r2 := hR3.frozen 2
    have u0 := hR3.c0; have u1 := hR3.c1; have u2 := hR3.c2
    dsimp only at q0 q1 q2
    unfold hz at u0 u1 u2
    replace hA4 := hide hA4; replace hR4 := hide hR4; replace HT4 := hide HT4
    clear hA3 hR3 HT3
    go_wp2_with fail
    refine bodyPost_ret (v := hsv ⟨k1, v1, ct⟩) (results_hash Try.results18 _ _ (w.heap.size + 1) 23 _ _ rfl (HB.set3 (unhide hR4) ⟨k1, v1, ct⟩) Try.underlying23 (by kernel_rfl)) rfl ⟨rfl, ?_⟩
    exact (((unhide HT4).setCell (p := ⟨w.heap.size + 1, 0, none⟩) (Nat.le_succ _) _).setCell (p := ⟨w.heap.size + 1, 1, none⟩) (Nat.le_succ _) _).setCell (p := ⟨w.heap.size + 1, 2, none⟩) (Nat.le_succ _) _
  · have hne : s ≠ ⟨#[]⟩ := by
      intro h
      rw [h] at h0
      exact h0 rfl
    replace hne : s.toList.isEmpty = false := by
      rw [List.isEmpty_eq_false_iff]
      intro hh
      have : s.data.toList.length = 0 := by rw [← ByteArray.toList_eq, hh]; rfl
      exact h0 this
    obtain ⟨t2, ht2⟩ : ∃ t, t = v1 ++ z1B ++ s := ⟨_, rfl⟩
    have ht2s : t2.size ≤ 2000000 := by rw [ht2, ByteArray.size_append, ByteArray.size_append]; show v1.size + 1 + s.size ≤ _; omega
    obtain ⟨k2, hk2⟩ : ∃ k, k = macB k1 t2 := ⟨_, rfl⟩
    obtain ⟨v2, hv2⟩ : ∃ k, k = macB k2 v1 := ⟨_, rfl⟩
    have hk2s : k2.size = 32 := by rw [hk2]; exact macB_size _ _
    have C3 := hide (fun W => specMac_any k1 t2 (by omega) ht2s W)
    rw [← hk2] at C3
    have C4 := hide (fun W => specMac_any k2 v1 (by omega) (by omega) W)
    rw [← hv2] at C4
    have e2 : v1 ++ (⟨#[1]⟩ : ByteArray) ++ s = t2 := ht2.symm
    have HR : Hid (mixH ⟨st, rs, ct⟩ s = ⟨k2, v2, ct⟩) := hide (by unfold mixH; rw [if_neg h0, hO1]; unfold mixO mixK; dsimp only; rw [← ht2, ← hk2, ← hv2])
    replace ht1 := hide ht1; replace hk1 := hide hk1; replace hv1 := hide hv1; replace hO1 := hide hO1
    replace ht2 := hide ht2; replace hk2 := hide hk2; replace hv2 := hide hv2
    rw [unhide HR]
    clear HR
    replace e1 := hide e1
    replace e2 := hide e2
    unfold hsv
    dsimp only
    go_enter Try.func18, Try.ntmps18
    go_wp2_with fail
    obtain ⟨W, hW, hA, hR, hb, hlt⟩ := two_hs w ⟨st, rs, ct⟩ hz 23
    unfold hz at hW
    rw [hW, unhide e1]
    clear hW
    refine (unhide C1 _).mono ?_
    rintro e w1 ⟨rfl, hb1⟩
    have hA1 := hA.step hb1
    have hR1 := hR.step hb1
    have HT1 := hb.trans (hb1.mono (by omega))
    have hA2 := hA1.set0 k1
    have hR2 := hR1.set_off (h := w.heap.size) (k := 0) (by omega) (.string k1)
    have HT2 := HT1.setCell (p := ⟨w.heap.size, 0, none⟩) (Nat.le_refl _) (.string k1)
    have q0 := hA1.c0; have q1 := hA1.c1; have q2 := hA1.c2; have p0 := hA1.frozen 0
    dsimp only at q0 q1 q2
    replace hA2 := hide hA2; replace hR2 := hide hR2; replace HT2 := hide HT2
    clear hA hR hb hlt hb1 hA1 hR1 HT1
    go_wp2_with fail
    refine (unhide C2 _).mono ?_
    rintro e w2 ⟨rfl, hb2⟩
    have hA3 := (unhide hA2).step hb2
    have hR3 := (unhide hR2).step hb2
    have HT3 := (unhide HT2).trans (hb2.mono (unhide HT2).size)
    clear hA2 hR2 HT2 q0 q1 q2 p0 hb2
    have hA4 := hA3.set1 v1
    have hR4 := hR3.set_off (h := w.heap.size) (k := 1) (by omega) (.string v1)
    have HT4 := HT3.setCell (p := ⟨w.heap.size, 1, none⟩) (Nat.le_refl _) (.string v1)
    have q0 := hA3.c0; have q1 := hA3.c1; have q2 := hA3.c2; have p1 := hA3.frozen 1
    dsimp only at q0 q1 q2
    replace hA4 := hide hA4; replace hR4 := hide hR4; replace HT4 := hide HT4
    clear hA3 hR3 HT3
    go_wp2_with fail
    rw [unhide e2]
    refine (unhide C3 _).mono ?_
    rintro e w3 ⟨rfl, hb3⟩
    have hA5 := (unhide hA4).step hb3
    have hR5 := (unhide hR4).step hb3
    have HT5 := (unhide HT4).trans (hb3.mono (unhide HT4).size)
    clear hA4 hR4 HT4 q0 q1 q2 p1 hb3
    have hA6 := hA5.set0 k2
    have hR6 := hR5.set_off (h := w.heap.size) (k := 0) (by omega) (.string k2)
    have HT6 := HT5.setCell (p := ⟨w.heap.size, 0, none⟩) (Nat.le_refl _) (.string k2)
    have q0 := hA5.c0; have q1 := hA5.c1; have q2 := hA5.c2; have p0 := hA5.frozen 0
    dsimp only at q0 q1 q2
    replace hA6 := hide hA6; replace hR6 := hide hR6; replace HT6 := hide HT6
    clear hA5 hR5 HT5
    go_wp2_with fail
    refine (unhide C4 _).mono ?_
    rintro e w4 ⟨rfl, hb4⟩
    have hA7 := (unhide hA6).step hb4
    have hR7 := (unhide hR6).step hb4
    have HT7 := (unhide HT6).trans (hb4.mono (unhide HT6).size)
    clear hA6 hR6 HT6 q0 q1 q2 p0 hb4
    have hR4 := hR7.set_off (h := w.heap.size) (k := 1) (by omega) (.string v2)
    have HT4 := HT7.setCell (p := ⟨w.heap.size, 1, none⟩) (Nat.le_refl _) (.string v2)
    have q0 := hA7.c0; have q1 := hA7.c1; have q2 := hA7.c2; have p1 := hA7.frozen 1
    have r0 := hR7.frozen 0; have r1 := hR7.frozen 1; have r2 := hR7.frozen 2
    have u0 := hR7.c0; have u1 := hR7.c1; have u2 := hR7.c2
    dsimp only at q0 q1 q2
    unfold hz at u0 u1 u2
    replace hR4 := hide hR4; replace HT4 := hide HT4
    clear hA7 hR7 HT7
    go_wp2_with fail
    refine bodyPost_ret (v := hsv ⟨k2, v2, ct⟩) (results_hash Try.results18 _ _ (w.heap.size + 1) 23 _ _ rfl (HB.set3 (unhide hR4) ⟨k2, v2, ct⟩) Try.underlying23 (by kernel_rfl)) rfl ⟨rfl, ?_⟩
    exact (((unhide HT4).setCell (p := ⟨w.heap.size + 1, 0, none⟩) (Nat.le_succ _) _).setCell (p := ⟨w.heap.size + 1, 1, none⟩) (Nat.le_succ _) _).setCell (p := ⟨w.heap.size + 1, 2, none⟩) (Nat.le_succ _) _
end Go.Proofs.Ytanianfealalgao
