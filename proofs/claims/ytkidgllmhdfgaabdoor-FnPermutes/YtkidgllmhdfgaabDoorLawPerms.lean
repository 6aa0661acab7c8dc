/- The law FnPermutes, walked over the loaded program. -/
import Derived.Test.YtkidgllmhdfgaabDoorDrawM
import Derived.Test.YtkidgllmhdfgaabDoorLawSpg
namespace Go.Proofs.YtkidgllmhdfgaabDoor
open Go.RowKit
theorem xor_moves {a d : Nat} (hd : 0 < d) : a ^^^ d ≠ a := by
  intro h
  have := congrArg (a ^^^ ·) h
  simp only [← Nat.xor_assoc, Nat.xor_self, Nat.zero_xor] at this
  omega
set_option maxRecDepth 20000 in
set_option maxHeartbeats 400000 in
theorem turned200_any (s : ByteArray) (hs : s.size = 200) (gp cp x0 x1 : Nat) (w : World) (p0 : w.cell? ⟨gp, 0, none⟩ = some (.int .i64 (x0 : Int))) (p1 : w.cell? ⟨gp, 1, none⟩ = some (.int .i64 (x1 : Int))) (hgp : gp < w.heap.size) (h0 : x0 < 10000) (h1 : x1 < 10000) :
    Calls Tryd.prog 16 #[.string s, .slice (some ⟨gp, 0, none⟩) 12 cp] w fun e w' => ∃ t : ByteArray, t ≠ s ∧ t.size = 200 ∧ e = .returned (.string t) ∧ Below w.heap.size w w' := by
  have hconv := Lib.run_convert_string_bytes (P := Tryd.prog) w 9 22 5 s Tryd.underlying9 Tryd.underlying22 Tryd.underlying5
  have hmb := bytes_mb w 5 s
  have hb1 := bytes_below2 w 5 s
  rw [hs] at hconv hmb
  generalize grownCap w 200 0 5 = cap at *
  generalize Lib.bytesWorld w 5 s = w1 at *
  have q0 := (hb1.cell (p := ⟨gp, 0, none⟩) hgp).trans p0
  have q1 := (hb1.cell (p := ⟨gp, 1, none⟩) hgp).trans p1
  obtain ⟨q, hq⟩ : ∃ q, q = x0 % 200 := ⟨_, rfl⟩
  have hq32 : q < 200 := by omega
  have e1 : (x0 : Int).tmod 200 = (q : Int) := by rw [Int.tmod_eq_emod_of_nonneg (by omega)]; omega
  have e1' : (x0 : Int) % 200 = (q : Int) := by omega
  obtain ⟨r, hr⟩ : ∃ r, r = x1 % 255 := ⟨_, rfl⟩
  have e2 : (x1 : Int).tmod 255 = (r : Int) := by rw [Int.tmod_eq_emod_of_nonneg (by omega)]; omega
  have e2' : (x1 : Int) % 255 = (r : Int) := by omega
  obtain ⟨d, hd⟩ : ∃ d, d = 1 + r := ⟨_, rfl⟩
  have hd256 : d < 256 := by omega
  have hd0 : 0 < d := by omega
  have e3 : IntKind.i64.wrap (1 + (r : Int)) = (d : Int) := by rw [IntKind.wrap_i64]; omega
  have e4 : IntKind.u8.wrap (d : Int) = (d : Int) := by rw [IntKind.wrap_u8]; omega
  have e3' : (1 : Int) + (r : Int) = (d : Int) := by omega
  have hql : q < s.data.toList.length := by show q < s.size; omega
  obtain ⟨b, hb⟩ : ∃ b, b = s.data.toList[q].toNat := ⟨_, rfl⟩
  have hb256 : b < 256 := by rw [hb]; exact s.data.toList[q].toNat_lt
  have c1 := hmb.cell (List.getElem?_eq_getElem hql)
  change w1.cell? ⟨w.heap.size, q, none⟩ = some (.int .u8 (s.data.toList[q].toNat : Int)) at c1
  rw [← hb] at c1
  have f1 := hmb.frz q hql
  have ex := u8_xor_nat b d hb256 hd256
  have hy : b ^^^ d < 256 := Nat.xor_lt_two_pow (n := 8) hb256 hd256
  have hne := xor_moves (a := b) hd0
  have hm2 := hmb.put q (b ^^^ d) hy
  have hT : (⟨(s.data.toList.set q (byteOf (b ^^^ d))).toArray⟩ : ByteArray) ≠ s := by
    intro h
    have h2 := congrArg (fun t : ByteArray => t.data.toList[q]?) h
    simp only [List.getElem?_set_self hql, List.getElem?_eq_getElem hql, Option.some.injEq] at h2
    apply hne
    have h3 : (byteOf (b ^^^ d)).toNat = s.data.toList[q].toNat := by rw [h2]
    rw [byteOf_toNat hy, ← hb] at h3
    exact h3
  have hTz : (⟨(s.data.toList.set q (byteOf (b ^^^ d))).toArray⟩ : ByteArray).size = 200 := by
    show (s.data.toList.set q (byteOf (b ^^^ d))).length = 200
    rw [List.length_set]; exact hs
  have hb2 := hb1.setCell (p := ⟨w.heap.size, q, none⟩) (Nat.le_refl _) (.int .u8 ((b ^^^ d : Nat) : Int))
  have hcv : ∀ W : World, (∀ k, W.cell? ⟨w.heap.size, k, none⟩ = (w1.setCell ⟨w.heap.size, q, none⟩ (.int .u8 ((b ^^^ d : Nat) : Int))).cell? ⟨w.heap.size, k, none⟩) → (convert 22 9 (.slice (some ⟨w.heap.size, 0, none⟩) 200 cap)).run Tryd.prog W = .ok (.string ⟨(s.data.toList.set q (byteOf (b ^^^ d))).toArray⟩) W := by
    intro W hW
    have := run_convert_bytes_back (P := Tryd.prog) W 22 9 5 ⟨w.heap.size, 0, none⟩ cap (s.data.toList.set q (byteOf (b ^^^ d))) Tryd.underlying22 Tryd.underlying5 Tryd.underlying9 (fun j hj => by
      rw [addr_add, Nat.zero_add, hW]
      exact hm2.cell (List.getElem?_eq_getElem hj))
    rw [show (s.data.toList.set q (byteOf (b ^^^ d))).length = 200 from hTz] at this
    exact this
  generalize (⟨(s.data.toList.set q (byteOf (b ^^^ d))).toArray⟩ : ByteArray) = T at *
  clear hm2
  generalize b ^^^ d = y at *
  replace hb := hide hb
  replace hd := hide hd
  replace hr := hide hr
  replace hq := hide hq
  replace hmb := hide hmb
  replace hT := hide hT
  replace hTz := hide hTz
  replace hb2 := hide hb2
  replace hcv := hide hcv
  replace hne := hide hne
  clear hb1
  have l1 : (q : Int) < 200 := by omega
  go_enter Tryd.func16, Tryd.ntmps16
  go_wp2_with fail
  go_region
  have hcv2 := (unhide hcv) ((w1.setCell ⟨w.heap.size, q, none⟩ (.int .u8 (y : Int))).drew) (fun _ => rfl)
  have hb3 := (unhide hb2).drew
  generalize (w1.setCell ⟨w.heap.size, q, none⟩ (.int .u8 (y : Int))).drew = w6 at *
  clear hcv hb2 c1 f1 q0 q1
  go_wp2
  go_ret
  exact ⟨T, unhide hT, unhide hTz, rfl, hb3⟩
theorem one_row {w : World} {base : Nat} {e : TypeId} {v : Value} {xs : List Value} (h : OwnV w base e v xs) (hne : xs ≠ []) : ∃ g c, v = .slice (some ⟨g, 0, none⟩) xs.length c := by
  rcases h.2 with ⟨h1, h2⟩ | ⟨g, cap, cur, h1, _⟩
  · exact absurd (List.length_eq_zero_iff.1 h2) hne
  · exact ⟨g, cap, h1⟩
theorem permT_size (s : ByteArray) : (permT s).size = s.size := by
  unfold permT
  split
  · next h => rw [textN_size (keccak_ok (lanesS_ok s)).1, h]
  · rfl
theorem permT_not {s t : ByteArray} (hs : s.size = 200) (ht : t.size = 200) (h : t ≠ s) : permT t ≠ permT s := by
  unfold permT
  rw [if_pos hs, if_pos ht]
  intro e
  exact h (perm_inj ht hs e)
set_option maxRecDepth 20000 in
set_option maxHeartbeats 1000000 in
theorem lawPermutes_any (w : World) (o : Option Addr) (n c : Nat) (hs : Src w w.heap.size o n) (hL : Laid w) :
    Calls Tryd.prog 4 #[.slice o n c] w fun e w' => e = .returned (.bool true) ∧ Below w.heap.size w w' := by
  have HS := hide hs
  have HL := hide hL
  clear hs hL
  by_cases hbig : (1048576 : Int) < (n : Int)
  · have hd : decide ((1048576 : Int) < (n : Int)) = true := by rw [decide_eq_true_iff]; exact hbig
    go_enter Tryd.func4, Tryd.ntmps4
    go_wp2_with (go_at_call 6; refine (big_any w o n c).mono ?_; rintro e w1 ⟨rfl, rfl⟩)
    go_ret
    exact ⟨rfl, Below.refl _ _⟩
  · have hd : decide ((1048576 : Int) < (n : Int)) = false := by rw [decide_eq_false_iff_not]; exact hbig
    have hn : n ≤ 1048576 := by omega
    go_enter Tryd.func4, Tryd.ntmps4
    go_wp2_with fail
    refine (big_any w o n c).mono ?_
    rintro e w0 ⟨rfl, hw0⟩
    have hw0' := hw0.symm
    subst hw0'
    clear hw0
    go_wp2_with fail
    refine (drawPermute_any w o n c (unhide HS) hn).mono ?_
    rintro e w1 ⟨s, hsz, rfl, hb1⟩
    have hs1 := hb1.size
    have hL1 := hide ((unhide HL).below hb1)
    have HS1 := hide (((unhide HS).below hb1 (Nat.le_refl _)).up hb1.size)
    have C1 := hide (fun W hL => implPermute_any s (by omega) W hL)
    have C2 := hide (fun W => specPermute_any s W)
    have hps := permT_size s
    have HNE : Hid (s.size = 200 → ∀ t : ByteArray, t.size = 200 → t ≠ s → permT t ≠ permT s) := hide (fun h t ht hne => permT_not h ht hne)
    have HID : Hid (¬ s.size = 200 → permT s = s) := hide (fun h => by unfold permT; rw [if_neg h])
    generalize permT s = ps at *
    replace hb1 := hide hb1
    go_wp2_with fail
    refine ((unhide C1) w1 (unhide hL1)).mono ?_
    rintro e w2 ⟨rfl, hb2⟩
    have HB2 := hide ((unhide hb1).trans (hb2.mono hs1))
    have hL2 := hide ((unhide hL1).below hb2)
    have hs12 := hb2.size
    have HS2 := hide (((unhide HS1).below hb2 (Nat.le_refl _)).up hb2.size)
    clear hb1 hb2 hL1 HS1
    go_wp2_with fail
    refine ((unhide C2) w2).mono ?_
    rintro e w3 ⟨rfl, hb3⟩
    have hs2 := (unhide HB2).size
    have HB3 := hide ((unhide HB2).trans (hb3.mono hs2))
    have hL3 := hide ((unhide hL2).below hb3)
    have HS3 := hide (((unhide HS2).below hb3 (Nat.le_refl _)).up hb3.size)
    clear HB2 hb3 hL2 HS2
    by_cases h2 : s.size = 200
    · have h2' : (s.size : Int) = 200 := by omega
      go_wp2_with fail
      refine (drawPlaces_any w3 o n c (unhide HS3) hn).mono ?_
      rintro e w4 ⟨v, xs, hx12, hx, rfl, hown, hb4⟩
      have hs3 := (unhide HB3).size
      have HB4 := hide ((unhide HB3).trans (hb4.mono hs3))
      have hL4 := hide ((unhide hL3).below hb4)
      obtain ⟨x0, x1, rest, rfl⟩ : ∃ a b r, xs = a :: b :: r := by
        match xs, hx12 with
        | a :: b :: r, _ => exact ⟨a, b, r, rfl⟩
      obtain ⟨gp, cp, rfl⟩ := one_row hown (by simp [ints])
      have hil : (ints (x0 :: x1 :: rest)).length = 12 := by simpa [ints] using hx12
      rw [hil] at hown ⊢
      have hp0 : w4.cell? ⟨gp, 0, none⟩ = some (.int .i64 (x0 : Int)) := hown.cell rfl
      have hp1 : w4.cell? ⟨gp, 1, none⟩ = some (.int .i64 (x1 : Int)) := hown.cell rfl
      have hgp := (hown.lt gp rfl).2
      have C3 := hide (turned200_any s h2 gp cp x0 x1 w4 hp0 hp1 hgp (hx x0 (by simp)) (hx x1 (by simp)))
      clear hown hb4 HB3 hL3 HS3 hp0 hp1 hx hx12 hil
      go_wp2_with fail
      refine (unhide C3).mono ?_
      rintro e w5 ⟨t, htne, htz, rfl, hb5⟩
      have hL5 := hide ((unhide hL4).below hb5)
      have hs4 := (unhide HB4).size
      have HB5 := hide ((unhide HB4).trans (hb5.mono hs4))
      have C4 := hide (fun W hL => implPermute_any t (by omega) W hL)
      have hne := (unhide HNE) h2 t htz htne
      generalize permT t = pt at *
      have hne3 : ¬ pt.toList = ps.toList := fun h => hne (bytes_ext (by rw [← ByteArray.toList_eq, ← ByteArray.toList_eq]; exact h))
      replace hne := hide hne
      clear hb5 HB4 hL4 htne
      go_wp2_with fail
      refine ((unhide C4) w5 (unhide hL5)).mono ?_
      rintro e w6 ⟨rfl, hb6⟩
      have hs5 := (unhide HB5).size
      have HB6 := hide ((unhide HB5).trans (hb6.mono hs5))
      clear hb6
      go_wp2
      go_ret
      exact ⟨by first | rfl | simp [hne3], unhide HB6⟩
    · have h2' : ¬ (s.size : Int) = 200 := by omega
      have hid := (unhide HID) h2
      subst hid
      go_wp2
      go_ret
      exact ⟨rfl, unhide HB3⟩
end Go.Proofs.YtkidgllmhdfgaabDoor
