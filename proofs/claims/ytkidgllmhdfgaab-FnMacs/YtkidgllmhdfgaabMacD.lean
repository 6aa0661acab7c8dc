/- The draws of chapter 6 and the laws' own helpers, by contracts, over the loaded program. -/
import Derived.Test.YtkidgllmhdfgaabExp
import Derived.Test.YtkidgllmhdfgaabDrawG
namespace Go.Proofs.Ytkidgllmhdfgaab
open Go.RowKit
theorem MB.frozen {w : World} {base g n c : Nat} {e : TypeId} {l : List UInt8} (h : MB w base e (.slice (some ⟨g, 0, none⟩) n c) l) {q : Nat} (hq : q < l.length) : w.frozen? ⟨g, q, none⟩ = false := by
  obtain ⟨g', cap, cur, lo, hi, h1, h2, h3, h4, h5, h6, h7⟩ := h
  simp only [Value.slice.injEq, Option.some.injEq, Addr.mk.injEq] at h1
  obtain ⟨⟨rfl, _⟩, rfl, rfl⟩ := h1
  have := h4 q (by omega)
  simp only [World.frozen?, h3]
  simp
  omega
theorem MB.setb {w : World} {base g n c : Nat} {e : TypeId} {l : List UInt8} (h : MB w base e (.slice (some ⟨g, 0, none⟩) n c) l) (q x : Nat) (hx : x < 256) : MB (w.setCell ⟨g, q, none⟩ (.int .u8 (x : Int))) base e (.slice (some ⟨g, 0, none⟩) n c) (l.set q (byteOf x)) := by
  obtain ⟨g', cap, cur, lo, hi, h1, h2, h3, h4, h5, h6, h7⟩ := h
  simp only [Value.slice.injEq, Option.some.injEq, Addr.mk.injEq] at h1
  obtain ⟨⟨rfl, _⟩, rfl, rfl⟩ := h1
  refine ⟨g, c, cur.setIfInBounds q (.int .u8 (x : Int)), lo, hi, by rw [List.length_set], h2, heap_setCell_at w g q cur e _ _ h3, by rw [Array.size_setIfInBounds]; exact h4, by rw [List.length_set]; exact h5, by rw [Array.size_setIfInBounds]; exact h6, ?_⟩
  rw [List.length_set, Array.toList_setIfInBounds, List.take_set, h7, List.map_set]
  simp [bv, byteOf_toNat hx]
theorem addr_add (g j : Nat) : (⟨g, 0, none⟩ : Addr).add j = ⟨g, j, none⟩ := by unfold Addr.add; split <;> simp_all
theorem keyB_twice (key : ByteArray) : keyB (keyB key) = keyB key := by
  have h := keyB_size key
  generalize keyB key = k at *
  unfold keyB
  rw [if_neg (by omega)]
theorem macB_long (key s : ByteArray) : macB (keyB key) s = macB key s := by
  have e : ∀ x, maskB (keyB key) x = maskB key x := fun x => by unfold maskB; rw [keyB_twice]
  unfold macB
  rw [e, e]
theorem exL_take (key info : ByteArray) (i n : Nat) (h : n ≤ 32 * i) : ∀ k, (exL key info (i + k)).take n = (exL key info i).take n
  | 0 => rfl
  | k + 1 => by
    show (exL key info (i + k) ++ (exT key info (i + k + 1)).data.toList).take n = _
    rw [List.take_append_of_le_length (by rw [exL_len]; omega)]
    exact exL_take key info i n h k
theorem exB_size (key info : ByteArray) (n : Nat) : (exB key info n).size = n := by
  show ((exL key info ((n + 31) / 32)).take n).length = n
  rw [List.length_take, exL_len]
  omega
theorem exB_begins (key info : ByteArray) (n m : Nat) : (exB key info (n + m)).extract 0 n = exB key info n := by
  apply barr_eq
  rw [ByteArray.data_extract, Array.toList_extract]
  show (((exL key info ((n + m + 31) / 32)).take (n + m)).drop 0).take (n - 0) = (exL key info ((n + 31) / 32)).take n
  rw [List.drop_zero, Nat.sub_zero, List.take_take, Nat.min_eq_left (by omega)]
  obtain ⟨k, hk⟩ : ∃ k, (n + m + 31) / 32 = (n + 31) / 32 + k := ⟨(n + m + 31) / 32 - (n + 31) / 32, by omega⟩
  rw [hk]
  exact exL_take key info _ n (by omega) k
theorem xor_moves {a d : Nat} (hd : 0 < d) : a ^^^ d ≠ a := by
  intro h
  have := congrArg (a ^^^ ·) h
  simp only [← Nat.xor_assoc, Nat.xor_self, Nat.zero_xor] at this
  omega
set_option maxRecDepth 20000 in
set_option maxHeartbeats 400000 in
theorem begins_any (a b : ByteArray) (h : a.size ≤ b.size) (hx : b.extract 0 a.size = a) (w : World) :
    Calls Try.prog 22 #[.string a, .string b] w fun e w' => e = .returned (.bool true) ∧ Below w.heap.size w w' := by
  have h1 : (a.size : Int) ≤ (b.size : Int) := by omega
  have hX := hide hx
  clear hx
  go_enter Try.func22, Try.ntmps22
  go_wp2
  go_ret
  refine ⟨?_, Below.refl _ _⟩
  simp [unhide hX]
set_option maxRecDepth 20000 in
set_option maxHeartbeats 400000 in
theorem turned_any (s : ByteArray) (hs : s.size = 32) (gp cp x0 x1 : Nat) (w : World) (p0 : w.cell? ⟨gp, 0, none⟩ = some (.int .i64 (x0 : Int))) (p1 : w.cell? ⟨gp, 1, none⟩ = some (.int .i64 (x1 : Int))) (hgp : gp < w.heap.size) (h0 : x0 < 10000) (h1 : x1 < 10000) :
    Calls Try.prog 24 #[.string s, .slice (some ⟨gp, 0, none⟩) 12 cp] w fun e w' => ∃ t : ByteArray, t ≠ s ∧ t.size = 32 ∧ e = .returned (.string t) ∧ Below w.heap.size w w' := by
  have hconv := Lib.run_convert_string_bytes (P := Try.prog) w 9 22 5 s Try.underlying9 Try.underlying22 Try.underlying5
  have hmb := bytes_mb w 5 s
  have hb1 := bytes_below2 w 5 s
  rw [hs] at hconv hmb
  generalize grownCap w 32 0 5 = cap at *
  generalize Lib.bytesWorld w 5 s = w1 at *
  have q0 := (hb1.cell (p := ⟨gp, 0, none⟩) hgp).trans p0
  have q1 := (hb1.cell (p := ⟨gp, 1, none⟩) hgp).trans p1
  obtain ⟨q, hq⟩ : ∃ q, q = x0 % 32 := ⟨_, rfl⟩
  have hq32 : q < 32 := by omega
  have e1 : (x0 : Int).tmod 32 = (q : Int) := by rw [Int.tmod_eq_emod_of_nonneg (by omega)]; omega
  have e1' : (x0 : Int) % 32 = (q : Int) := by omega
  obtain ⟨r, hr⟩ : ∃ r, r = x1 % 255 := ⟨_, rfl⟩
  have e2 : (x1 : Int).tmod 255 = (r : Int) := by rw [Int.tmod_eq_emod_of_nonneg (by omega)]; omega
  have e2' : (x1 : Int) % 255 = (r : Int) := by omega
  obtain ⟨d, hd⟩ : ∃ d, d = 1 + r := ⟨_, rfl⟩
  have hd256 : d < 256 := by omega
  have hd0 : 0 < d := by omega
  have e3 : IntKind.i64.wrap (1 + (r : Int)) = (d : Int) := by rw [IntKind.wrap_i64]; omega
  have e4 : IntKind.u8.wrap (d : Int) = (d : Int) := by rw [IntKind.wrap_u8]; omega
  have e3' : (1 : Int) + (r : Int) = (d : Int) := by omega
  have hql : q < s.data.toList.length := by show q < s.size; omega
  obtain ⟨b, hb⟩ : ∃ b, b = s.data.toList[q].toNat := ⟨_, rfl⟩
  have hb256 : b < 256 := by rw [hb]; exact s.data.toList[q].toNat_lt
  have c1 := hmb.cell (List.getElem?_eq_getElem hql)
  change w1.cell? ⟨w.heap.size, q, none⟩ = some (.int .u8 (s.data.toList[q].toNat : Int)) at c1
  rw [← hb] at c1
  have f1 := hmb.frozen hql
  have ex := u8_xor b d hb256 hd256
  have hy : b ^^^ d < 256 := Nat.xor_lt_two_pow (n := 8) hb256 hd256
  have hne := xor_moves (a := b) hd0
  have hm2 := hmb.setb q (b ^^^ d) hy
  have hT : (⟨(s.data.toList.set q (byteOf (b ^^^ d))).toArray⟩ : ByteArray) ≠ s := by
    intro h
    have h2 := congrArg (fun t : ByteArray => t.data.toList[q]?) h
    simp only [List.getElem?_set_self hql, List.getElem?_eq_getElem hql, Option.some.injEq] at h2
    apply hne
    have h3 : (byteOf (b ^^^ d)).toNat = s.data.toList[q].toNat := by rw [h2]
    rw [byteOf_toNat hy, ← hb] at h3
    exact h3
  have hTz : (⟨(s.data.toList.set q (byteOf (b ^^^ d))).toArray⟩ : ByteArray).size = 32 := by
    show (s.data.toList.set q (byteOf (b ^^^ d))).length = 32
    rw [List.length_set]; exact hs
  have hb2 := hb1.setCell (p := ⟨w.heap.size, q, none⟩) (Nat.le_refl _) (.int .u8 ((b ^^^ d : Nat) : Int))
  have hcv : ∀ W : World, (∀ k, W.cell? ⟨w.heap.size, k, none⟩ = (w1.setCell ⟨w.heap.size, q, none⟩ (.int .u8 ((b ^^^ d : Nat) : Int))).cell? ⟨w.heap.size, k, none⟩) → (convert 22 9 (.slice (some ⟨w.heap.size, 0, none⟩) 32 cap)).run Try.prog W = .ok (.string ⟨(s.data.toList.set q (byteOf (b ^^^ d))).toArray⟩) W := by
    intro W hW
    have := run_convert_bytes_back (P := Try.prog) W 22 9 5 ⟨w.heap.size, 0, none⟩ cap (s.data.toList.set q (byteOf (b ^^^ d))) Try.underlying22 Try.underlying5 Try.underlying9 (fun j hj => by
      rw [addr_add, hW]
      exact hm2.cell (List.getElem?_eq_getElem hj))
    rw [show (s.data.toList.set q (byteOf (b ^^^ d))).length = 32 from hTz] at this
    exact this
  generalize (⟨(s.data.toList.set q (byteOf (b ^^^ d))).toArray⟩ : ByteArray) = T at *
  clear hm2
  generalize b ^^^ d = y at *
  replace hb := hide hb
  replace hd := hide hd
  replace hr := hide hr
  replace hq := hide hq
  replace hmb := hide hmb
  replace hT := hide hT
  replace hTz := hide hTz
  replace hb2 := hide hb2
  replace hcv := hide hcv
  replace hne := hide hne
  clear hb1
  have l1 : (q : Int) < 32 := by omega
  go_enter Try.func24, Try.ntmps24
  go_wp2_with fail
  go_region
  have hcv2 := (unhide hcv) ((w1.setCell ⟨w.heap.size, q, none⟩ (.int .u8 (y : Int))).drew) (fun _ => rfl)
  have hb3 := (unhide hb2).drew
  generalize (w1.setCell ⟨w.heap.size, q, none⟩ (.int .u8 (y : Int))).drew = w6 at *
  clear hcv hb2 c1 f1 q0 q1
  go_wp2
  go_ret
  exact ⟨T, unhide hT, unhide hTz, rfl, hb3⟩
theorem nums8 (w : World) (T : TypeId) : ∀ j, j < 8 → ∃ z, (w.alloc (.cells #[.int .i64 0, .int .i64 0, .int .i64 26, .int .i64 58, .int .i64 63, .int .i64 64, .int .i64 65, .int .i64 80] T)).cell? ⟨w.heap.size, j, none⟩ = some (.int .i64 z) ∧ (0 ≤ z ∧ z ≤ 80) := by
  intro j hj
  rw [cell_of_row _ w.heap.size j _ T (0, 0) (heap_alloc_new w _)]
  match j, hj with
  | 0, _ => exact ⟨0, rfl, by decide⟩
  | 1, _ => exact ⟨0, rfl, by decide⟩
  | 2, _ => exact ⟨26, rfl, by decide⟩
  | 3, _ => exact ⟨58, rfl, by decide⟩
  | 4, _ => exact ⟨63, rfl, by decide⟩
  | 5, _ => exact ⟨64, rfl, by decide⟩
  | 6, _ => exact ⟨65, rfl, by decide⟩
  | 7, _ => exact ⟨80, rfl, by decide⟩
  | j + 8, hj => exact absurd hj (by omega)
set_option maxRecDepth 20000 in
set_option maxHeartbeats 400000 in
theorem l06Key_any {w : World} {base g n c : Nat} {o : Option Addr} (h : Cur w base g o n c) (hn : n ≤ 1048576) :
    Calls Try.prog 46 #[.pointer (some ⟨g, 0, none⟩)] w fun e w' => ∃ s : ByteArray, s.size ≤ 200 ∧ e = .returned (.string s) ∧ Below base w w' ∧ Cur w' base g o n c := by
  have hlo := h.lo
  have H := hide h
  clear h
  go_enter Try.func46, Try.ntmps46
  go_wp2_with fail
  refine (l01Below_any (unhide H) hn 6 (by omega) (by omega)).mono ?_
  rintro e w3 ⟨x, hx, rfl, ho3, hc3⟩
  have hb3 := ho3.below hlo
  replace hc3 := hide hc3
  clear ho3 H
  go_wp2_with fail
  refine (l01Text_any (unhide hc3) hn x (by omega)).mono ?_
  rintro e w4 ⟨l, hl, rfl, hb34, hc4⟩
  have hb4 := hb3.trans hb34
  have hgl := hc4.lt
  have H1 := hide (hc4.below ((Below.refl w4.heap.size w4).alloc (Nat.le_refl _) (.cells #[.int .i64 0, .int .i64 0, .int .i64 26, .int .i64 58, .int .i64 63, .int .i64 64, .int .i64 65, .int .i64 80] 3)) hgl)
  have HN := hide (nums8 w4 3)
  have hb5 : Below base w (w4.alloc (.cells #[.int .i64 0, .int .i64 0, .int .i64 26, .int .i64 58, .int .i64 63, .int .i64 64, .int .i64 65, .int .i64 80] 3)) := hb4.alloc (by omega) _
  have hne : w4.heap.size ≠ g := by omega
  have hls : (⟨l.toArray⟩ : ByteArray).size ≤ 10 := by show l.length ≤ 10; omega
  generalize (⟨l.toArray⟩ : ByteArray) = tl at *
  clear hb3 hb34 hc3 hc4
  go_wp2_with fail
  generalize w4.alloc (.cells #[.int .i64 0, .int .i64 0, .int .i64 26, .int .i64 58, .int .i64 63, .int .i64 64, .int .i64 65, .int .i64 80] 3) = w5 at *
  refine (l01PickP_any (fun z => 0 ≤ z ∧ z ≤ 80) (unhide H1) hn w4.heap.size 8 8 (by omega) (by omega) (unhide HN) hne).mono ?_
  rintro e w6 ⟨z, ⟨hz0, hz1⟩, rfl, ho6, hc6⟩
  obtain ⟨m, rfl⟩ : ∃ m : Nat, z = (m : Int) := ⟨z.toNat, by omega⟩
  have hb6 := hb5.trans (ho6.below hlo)
  have hgl6 := hc6.lt
  replace hc6 := hide hc6
  clear hb5 ho6 H1 HN
  go_wp2_with fail
  refine (l01Long0_any m 7 w6 (by omega) (by omega)).mono ?_
  rintro e w7 ⟨l2, hl2, rfl, hb67⟩
  have hc7 := (unhide hc6).below hb67 hgl6
  have hb7 := hb6.trans (hb67.mono (by omega))
  have hls2 : (⟨l2.toArray⟩ : ByteArray).size ≤ 80 := by show l2.length ≤ 80; omega
  generalize (⟨l2.toArray⟩ : ByteArray) = tl2 at *
  clear hb6 hb67 hc6
  go_wp2
  go_ret
  refine ⟨_, ?_, rfl, hb7, hc7⟩
  rw [ByteArray.size_append]
  omega
set_option maxRecDepth 20000 in
set_option maxHeartbeats 400000 in
theorem drawMac_any (w : World) (o : Option Addr) (n c : Nat) (hs : Src w w.heap.size o n) (hn : n ≤ 1048576) :
    Calls Try.prog 18 #[.slice o n c] w fun e w' => ∃ k s : ByteArray, k.size ≤ 200 ∧ s.size ≤ 200 ∧ e = .returned (.tuple #[.string k, .string s]) ∧ Below w.heap.size w w' := by
  have HS := hide hs
  clear hs
  go_enter Try.func18, Try.ntmps18
  go_wp2_with fail
  refine (l01New_any w o n c (unhide HS) hn).mono ?_
  rintro e w1 ⟨rfl, hb1, hc1⟩
  replace hc1 := hide hc1
  go_wp2_with fail
  refine (l06Key_any (unhide hc1) hn).mono ?_
  rintro e w2 ⟨k, hk, rfl, hb2, hc2⟩
  have hb12 := hb1.trans hb2
  replace hc2 := hide hc2
  clear hb1 hb2 hc1
  go_wp2_with fail
  refine (l05Text_any (unhide hc2) hn).mono ?_
  rintro e w3 ⟨s, hs, rfl, hb3, _⟩
  have hb13 := hb12.trans hb3
  clear hb12 hb3 hc2
  go_wp2
  refine bodyPost_ret (v := .tuple #[.string k, .string s]) (by simp [results, Try.results18, go_sem]) rfl ⟨k, s, hk, hs, rfl, hb13⟩
end Go.Proofs.Ytkidgllmhdfgaab
