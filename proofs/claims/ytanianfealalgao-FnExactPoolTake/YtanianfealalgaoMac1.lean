/- Sums under a key: what they are, and spec's side, over the loaded program. -/
import Derived.Test.YtanianfealalgaoShaQ
import Derived.Test.YtanianfealalgaoSameM
import Derived.Test.YtanianfealalgaoShelf
namespace Go.Proofs.Ytanianfealalgao
open Go.RowKit
def keyB (key : ByteArray) : ByteArray := if 64 < key.size then digB key else key
def kL (k : ByteArray) : List UInt8 := (List.range 64).map fun i => k.data.toList.getD i 0
def xorL (l : List UInt8) (x : Nat) : List UInt8 := l.map fun b => byteOf (b.toNat ^^^ x)
def maskB (key : ByteArray) (x : Nat) : ByteArray := ⟨(xorL (kL (keyB key)) x).toArray⟩
def macB (key s : ByteArray) : ByteArray := digB (maskB key 92 ++ digB (maskB key 54 ++ s))
theorem kL_len (k : ByteArray) : (kL k).length = 64 := by simp [kL]
theorem maskB_size (key : ByteArray) (x : Nat) : (maskB key x).size = 64 := by
  show (xorL (kL (keyB key)) x).length = 64
  simp [xorL, kL_len]
theorem digB_len (s : ByteArray) : (digB s).size = 32 := V8.text_size _
theorem keyB_size (key : ByteArray) : (keyB key).size ≤ 64 := by
  unfold keyB
  split
  · rw [digB_len]; omega
  · omega
theorem macB_size (key s : ByteArray) : (macB key s).size = 32 := digB_len _
/- the first n are masked, the others are still 0 -/
def mskP (k : ByteArray) (x n : Nat) : List UInt8 := (xorL (kL k) x).take n ++ List.replicate (64 - n) 0
theorem mskP_len (k : ByteArray) (x n : Nat) (h : n ≤ 64) : (mskP k x n).length = 64 := by
  simp [mskP, xorL, kL_len]; omega
theorem mskP_at (k : ByteArray) (x n : Nat) (h : n < 64) : (mskP k x n)[n]? = some 0 := by
  unfold mskP
  rw [List.getElem?_append_right (by simp [xorL, kL_len]; omega), show (List.take n (xorL (kL k) x)).length = n by simp [xorL, kL_len]; omega, Nat.sub_self, List.getElem?_replicate, if_pos (by omega)]
theorem mskP_set (k : ByteArray) (x n : Nat) (h : n < 64) : (mskP k x n).set n (byteOf ((k.data.toList.getD n 0).toNat ^^^ x)) = mskP k x (n + 1) := by
  have hl : n < (xorL (kL k) x).length := by simp [xorL, kL_len]; omega
  have hv : (xorL (kL k) x)[n] = byteOf ((k.data.toList.getD n 0).toNat ^^^ x) := by simp [xorL, kL]
  unfold mskP
  rw [show 64 - n = (64 - (n + 1)) + 1 by omega, List.replicate_succ, List.set_append_right _ _ (by simp [xorL, kL_len]; omega)]
  rw [show n - (List.take n (xorL (kL k) x)).length = 0 by simp [xorL, kL_len]; omega]
  rw [List.set_cons_zero, ← hv, ← List.take_append_getElem hl, List.append_assoc]
  rfl
theorem mskP_all (k : ByteArray) (x : Nat) : mskP k x 64 = xorL (kL k) x := by
  unfold mskP
  rw [List.take_of_length_le (by simp [xorL, kL_len]), Nat.sub_self, List.replicate_zero, List.append_nil]
theorem OwnB.setb {w : World} {base g n c : Nat} {e : TypeId} {l : List UInt8} (h : OwnB w base e (.slice (some ⟨g, 0, none⟩) n c) l) (k x : Nat) (hx : x < 256) : OwnB (w.setCell ⟨g, k, none⟩ (.int .u8 (x : Int))) base e (.slice (some ⟨g, 0, none⟩) n c) (l.set k (byteOf x)) := by
  have hV : OwnV w base e (.slice (some ⟨g, 0, none⟩) n c) (l.map bv) := by unfold OwnV; rw [List.length_map]; exact h
  have := hV.set k (.int .u8 (x : Int))
  have e1 : (l.map bv).set k (.int .u8 (x : Int)) = (l.set k (byteOf x)).map bv := by
    rw [List.map_set]; congr 1; simp [bv, byteOf_toNat hx]
  rw [e1] at this
  unfold OwnV at this
  rw [List.length_map] at this
  exact this
theorem OwnB.cellb {w : World} {base g n c : Nat} {e : TypeId} {l : List UInt8} (h : OwnB w base e (.slice (some ⟨g, 0, none⟩) n c) l) {k : Nat} {b : UInt8} (hk : l[k]? = some b) : w.cell? ⟨g, k, none⟩ = some (.int .u8 (b.toNat : Int)) := by
  have hV : OwnV w base e (.slice (some ⟨g, 0, none⟩) n c) (l.map bv) := by unfold OwnV; rw [List.length_map]; exact h
  exact hV.cell (by rw [List.getElem?_map, hk]; rfl)
theorem OwnB.frozenb {w : World} {base g n c : Nat} {e : TypeId} {l : List UInt8} (h : OwnB w base e (.slice (some ⟨g, 0, none⟩) n c) l) (k : Nat) : w.frozen? ⟨g, k, none⟩ = false := by
  have hV : OwnV w base e (.slice (some ⟨g, 0, none⟩) n c) (l.map bv) := by unfold OwnV; rw [List.length_map]; exact h
  exact hV.frozen k
set_option maxRecDepth 20000 in
set_option maxHeartbeats 400000 in
theorem specMask_any (key : ByteArray) (hkz : key.size ≤ 1048576) (x : Nat) (hx : x < 256) (w : World) :
    Calls Try.prog 36 #[.string key, .int .u8 (x : Int)] w fun e w' => e = .returned (.string (maskB key x)) ∧ Below w.heap.size w w' := by
  obtain ⟨i0, hi, hz0, hz1, hz2⟩ := info_parts Try.infoByte
  unfold maskB
  by_cases hlong : 64 < key.size
  · have h64 : (64 : Int) < (key.size : Int) := by omega
    have CD := hide (fun W => specDigest_any key (by omega) W)
    have hk : (keyB key).size ≤ 64 := keyB_size key
    rw [show digB key = keyB key by unfold keyB; rw [if_pos hlong]] at CD
    generalize keyB key = k at *
    go_enter Try.func36, Try.ntmps36
    go_wp2_with fail
    refine ((unhide CD) w).mono ?_
    rintro e w0 ⟨rfl, hb0⟩
    clear CD
    go_wp2_with (at_make; refine wpList_make_full _ rfl _ _ 49 rfl w0.heap.size 5 i0 (.int .u8 0) 1 Try.underlying49 hi hz0 hz1 _ _ _ _ 64 rfl rfl rfl rfl (by rw [hz2]; omega) (by unfold maxLen; omega) (Nat.le_refl _) ?_; intro w1 hown1 hgrow1)
    have hb1 : Below w0.heap.size w0 w1 := (Below.refl _ _).grown hgrow1 (Nat.le_refl _) (fun k hk => by cases hk)
    have hown0 : OwnB w1 w0.heap.size 5 (.slice (some ⟨w0.heap.size, 0, none⟩) 64 64) (mskP k x 0) := by
      have e1 : (madeCells (Value.int .u8 0).cells (64 * 1)).toList = (List.replicate 64 (0 : UInt8)).map bv := by
        show (madeCells #[Value.int .u8 0] (64 * 1)).toList = _
        rw [Nat.mul_one, toList_madeCells_one, List.map_replicate]; rfl
      rw [e1] at hown1
      exact hown1
    replace hown0 := hide hown0
    clear hown1 hgrow1
    go_loopw [6] (fun ti wq => ∃ n : Nat, n ≤ 64 ∧ ti = .int .i64 (n : Int) ∧ Hid (OwnB wq w0.heap.size 5 (.slice (some ⟨w0.heap.size, 0, none⟩) 64 64) (mskP k x n)) ∧ Below w0.heap.size w0 wq) (fun ti _ => 64 - (intOf ti).toNat)
    case atStart => exact ⟨0, by omega, rfl, hown0, hb1⟩
    case round =>
      clear hown0 hb1
      obtain ⟨n, hn, rfl, HO, hb⟩ := hrel
      by_cases hlt : n < 64
      · have hn64 : (n : Int) < 64 := by omega
        have hset := hide (mskP_set k x n hlt)
        have c0 := (unhide HO).cellb (mskP_at k x n hlt)
        have f0 := (unhide HO).frozenb n
        change wr.cell? ⟨w0.heap.size, n, none⟩ = some (.int .u8 0) at c0
        by_cases hnk : n < k.size
        · have hnk' : (n : Int) < (k.size : Int) := by omega
          have hkn : k.data.toList.getD n 0 = k[n] := by
            rw [List.getD_eq_getElem?_getD, List.getElem?_eq_getElem (show n < k.data.toList.length from hnk)]; rfl
          rw [hkn] at hset
          obtain ⟨y, hy⟩ : ∃ y, y = k[n].toNat := ⟨_, rfl⟩
          have hyl : y < 256 := by rw [hy]; exact k[n].toNat_lt
          rw [← hy] at hset
          have O1 := (unhide HO).setb n y hyl
          have c1 := O1.cellb (k := n) (b := byteOf y) (by rw [List.getElem?_set_self (by rw [mskP_len k x n hn]; exact hlt)])
          rw [byteOf_toNat hyl] at c1
          have f1 := O1.frozenb n
          have hxl : y ^^^ x < 256 := Nat.xor_lt_two_pow (n := 8) hyl hx
          have ex := hide (u8_xor y x hyl hx)
          have O2 := O1.setb n (y ^^^ x) hxl
          rw [List.set_set, unhide hset] at O2
          replace O2 := hide O2
          replace O1 := hide O1
          have hb2 := hide ((hb.setCell (p := ⟨w0.heap.size, n, none⟩) (Nat.le_refl _) (.int .u8 (y : Int))).setCell (p := ⟨w0.heap.size, n, none⟩) (Nat.le_refl _) (.int .u8 ((y ^^^ x : Nat) : Int)))
          clear HO hset O1 hb hkn
          replace hy := hide hy
          go_wp2
          rw [← unhide hy, unhide ex]
          exact ⟨⟨n + 1, by omega, by go_num, O2, unhide hb2⟩, by simp [intOf]; omega⟩
        · have hnk' : ¬ (n : Int) < (k.size : Int) := by omega
          have hkn : k.data.toList.getD n 0 = 0 := by
            rw [List.getD_eq_getElem?_getD, List.getElem?_eq_none (show k.data.toList.length ≤ n by show k.size ≤ n; omega)]; rfl
          rw [hkn, show (0 : UInt8).toNat = 0 from rfl, Nat.zero_xor] at hset
          have ex : bits .xor .u8 0 (x : Int) = (x : Int) := by
            have := u8_xor 0 x (by omega) hx
            rw [Nat.zero_xor] at this
            exact this
          replace ex := hide ex
          have O2 := (unhide HO).setb n x hx
          rw [unhide hset] at O2
          replace O2 := hide O2
          have hb2 := hide (hb.setCell (p := ⟨w0.heap.size, n, none⟩) (Nat.le_refl _) (.int .u8 (x : Int)))
          clear HO hset hb hkn
          go_wp2
          rw [unhide ex]
          exact ⟨⟨n + 1, by omega, by go_num, O2, unhide hb2⟩, by simp [intOf]; omega⟩
      · obtain rfl : n = 64 := by omega
        have hn64 : ¬ (((64 : Nat) : Int) < 64) := by omega
        rw [mskP_all] at HO
        have hc := run_string_owned (P := Try.prog) wr 49 9 5 w0.heap.size _ _ Try.underlying49 Try.underlying5 Try.underlying9 (unhide HO)
        replace HO := hide HO
        go_wp2
        go_ret
        exact ⟨rfl, hb0.trans (hb.mono hb0.size)⟩
  · have h64 : ¬ (64 : Int) < (key.size : Int) := by omega
    have hk : key.size ≤ 64 := by omega
    rw [show keyB key = key by unfold keyB; rw [if_neg hlong]]
    generalize key = k at *
    go_enter Try.func36, Try.ntmps36
    go_wp2_with (at_make; refine wpList_make_full _ rfl _ _ 49 rfl w.heap.size 5 i0 (.int .u8 0) 1 Try.underlying49 hi hz0 hz1 _ _ _ _ 64 rfl rfl rfl rfl (by rw [hz2]; omega) (by unfold maxLen; omega) (Nat.le_refl _) ?_; intro w1 hown1 hgrow1)
    have hb1 : Below w.heap.size w w1 := (Below.refl _ _).grown hgrow1 (Nat.le_refl _) (fun k hk => by cases hk)
    have hown0 : OwnB w1 w.heap.size 5 (.slice (some ⟨w.heap.size, 0, none⟩) 64 64) (mskP k x 0) := by
      have e1 : (madeCells (Value.int .u8 0).cells (64 * 1)).toList = (List.replicate 64 (0 : UInt8)).map bv := by
        show (madeCells #[Value.int .u8 0] (64 * 1)).toList = _
        rw [Nat.mul_one, toList_madeCells_one, List.map_replicate]; rfl
      rw [e1] at hown1
      exact hown1
    replace hown0 := hide hown0
    clear hown1 hgrow1
    go_loopw [6] (fun ti wq => ∃ n : Nat, n ≤ 64 ∧ ti = .int .i64 (n : Int) ∧ Hid (OwnB wq w.heap.size 5 (.slice (some ⟨w.heap.size, 0, none⟩) 64 64) (mskP k x n)) ∧ Below w.heap.size w wq) (fun ti _ => 64 - (intOf ti).toNat)
    case atStart => exact ⟨0, by omega, rfl, hown0, hb1⟩
    case round =>
      clear hown0 hb1
      obtain ⟨n, hn, rfl, HO, hb⟩ := hrel
      by_cases hlt : n < 64
      · have hn64 : (n : Int) < 64 := by omega
        have hset := hide (mskP_set k x n hlt)
        have c0 := (unhide HO).cellb (mskP_at k x n hlt)
        have f0 := (unhide HO).frozenb n
        change wr.cell? ⟨w.heap.size, n, none⟩ = some (.int .u8 0) at c0
        by_cases hnk : n < k.size
        · have hnk' : (n : Int) < (k.size : Int) := by omega
          have hkn : k.data.toList.getD n 0 = k[n] := by
            rw [List.getD_eq_getElem?_getD, List.getElem?_eq_getElem (show n < k.data.toList.length from hnk)]; rfl
          rw [hkn] at hset
          obtain ⟨y, hy⟩ : ∃ y, y = k[n].toNat := ⟨_, rfl⟩
          have hyl : y < 256 := by rw [hy]; exact k[n].toNat_lt
          rw [← hy] at hset
          have O1 := (unhide HO).setb n y hyl
          have c1 := O1.cellb (k := n) (b := byteOf y) (by rw [List.getElem?_set_self (by rw [mskP_len k x n hn]; exact hlt)])
          rw [byteOf_toNat hyl] at c1
          have f1 := O1.frozenb n
          have hxl : y ^^^ x < 256 := Nat.xor_lt_two_pow (n := 8) hyl hx
          have ex := hide (u8_xor y x hyl hx)
          have O2 := O1.setb n (y ^^^ x) hxl
          rw [List.set_set, unhide hset] at O2
          replace O2 := hide O2
          replace O1 := hide O1
          have hb2 := hide ((hb.setCell (p := ⟨w.heap.size, n, none⟩) (Nat.le_refl _) (.int .u8 (y : Int))).setCell (p := ⟨w.heap.size, n, none⟩) (Nat.le_refl _) (.int .u8 ((y ^^^ x : Nat) : Int)))
          clear HO hset O1 hb hkn
          replace hy := hide hy
          go_wp2
          rw [← unhide hy, unhide ex]
          exact ⟨⟨n + 1, by omega, by go_num, O2, unhide hb2⟩, by simp [intOf]; omega⟩
        · have hnk' : ¬ (n : Int) < (k.size : Int) := by omega
          have hkn : k.data.toList.getD n 0 = 0 := by
            rw [List.getD_eq_getElem?_getD, List.getElem?_eq_none (show k.data.toList.length ≤ n by show k.size ≤ n; omega)]; rfl
          rw [hkn, show (0 : UInt8).toNat = 0 from rfl, Nat.zero_xor] at hset
          have ex : bits .xor .u8 0 (x : Int) = (x : Int) := by
            have := u8_xor 0 x (by omega) hx
            rw [Nat.zero_xor] at this
            exact this
          replace ex := hide ex
          have O2 := (unhide HO).setb n x hx
          rw [unhide hset] at O2
          replace O2 := hide O2
          have hb2 := hide (hb.setCell (p := ⟨w.heap.size, n, none⟩) (Nat.le_refl _) (.int .u8 (x : Int)))
          clear HO hset hb hkn
          go_wp2
          rw [unhide ex]
          exact ⟨⟨n + 1, by omega, by go_num, O2, unhide hb2⟩, by simp [intOf]; omega⟩
      · obtain rfl : n = 64 := by omega
        have hn64 : ¬ (((64 : Nat) : Int) < 64) := by omega
        rw [mskP_all] at HO
        have hc := run_string_owned (P := Try.prog) wr 49 9 5 w.heap.size _ _ Try.underlying49 Try.underlying5 Try.underlying9 (unhide HO)
        replace HO := hide HO
        go_wp2
        go_ret
        exact ⟨rfl, hb⟩
set_option maxRecDepth 20000 in
set_option maxHeartbeats 400000 in
theorem specMac_any (key t : ByteArray) (hk : key.size ≤ 1048576) (ht : t.size ≤ 2000000) (w : World) :
    Calls Try.prog 23 #[.string key, .string t] w fun e w' => e = .returned (.string (macB key t)) ∧ Below w.heap.size w w' := by
  have M1 := hide (fun W => specMask_any key hk 92 (by omega) W)
  have M2 := hide (fun W => specMask_any key hk 54 (by omega) W)
  have s1 := maskB_size key 92
  have s2 := maskB_size key 54
  have D1 := hide (fun W => specDigest_any (maskB key 54 ++ t) (by rw [ByteArray.size_append]; omega) W)
  have D2 := hide (fun W => specDigest_any (maskB key 92 ++ digB (maskB key 54 ++ t)) (by rw [ByteArray.size_append, digB_len]; omega) W)
  rw [show digB (maskB key 92 ++ digB (maskB key 54 ++ t)) = macB key t from rfl] at D2
  have s3 : (digB (maskB key 54 ++ t)).size ≤ 32 := Nat.le_of_eq (digB_len _)
  replace s1 := Nat.le_of_eq s1
  replace s2 := Nat.le_of_eq s2
  generalize digB (maskB key 54 ++ t) = d1 at *
  generalize macB key t = d2 at *
  generalize maskB key 92 = m1 at *
  generalize maskB key 54 = m2 at *
  go_enter Try.func23, Try.ntmps23
  go_wp2_with fail
  refine ((unhide M1) w).mono ?_
  rintro e w1 ⟨rfl, hb1⟩
  go_wp2_with fail
  refine ((unhide M2) w1).mono ?_
  rintro e w2 ⟨rfl, hb2⟩
  have hb12 := hb1.trans (hb2.mono hb1.size)
  clear hb1 hb2
  go_wp2_with fail
  refine ((unhide D1) w2).mono ?_
  rintro e w3 ⟨rfl, hb3⟩
  have hb13 := hb12.trans (hb3.mono hb12.size)
  clear hb12 hb3
  go_wp2_with fail
  refine ((unhide D2) w3).mono ?_
  rintro e w4 ⟨rfl, hb4⟩
  have hb14 := hb13.trans (hb4.mono hb13.size)
  clear hb13 hb4
  go_wp2
  go_ret
  exact ⟨rfl, hb14⟩
end Go.Proofs.Ytanianfealalgao
