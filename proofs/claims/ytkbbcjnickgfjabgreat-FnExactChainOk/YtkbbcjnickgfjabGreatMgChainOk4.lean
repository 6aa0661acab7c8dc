/- Merged: ShaQ, Rul0, Files, Rows1, Cbx, ReadVarS, Thg1, Thg2. -/
import Derived.Test.YtkbbcjnickgfjabGreatMgChainOk1
import Derived.Test.YtkbbcjnickgfjabGreatMgChainOk2
import Derived.Test.YtkbbcjnickgfjabGreatMgChainOk3
import Derived.Deep.RegionHeld3
import Derived.Deep.QuietTactic
import Derived.BigQuiet
import Derived.Laws.Rows
import Derived.Laws.ResultCell
import Derived.Deep.RegionWith
/- A text ends, by spec, over the loaded program. -/
namespace Go.Proofs.YtkbbcjnickgfjabGreat
open Go.RowKit
def bigL (x m : Nat) : List UInt8 := (List.range m).map fun j => byteOf (x / 256 ^ (7 - j) % 256)
theorem bigL_succ (x m : Nat) : bigL x (m + 1) = bigL x m ++ [byteOf (x / 256 ^ (7 - m) % 256)] := by
  unfold bigL; rw [List.range_succ, List.map_append]; rfl
theorem bigL_len (x m : Nat) : (bigL x m).length = m := by simp [bigL]
theorem bigL_all (x : Nat) : bigL x 8 = bytesW (x / 4294967296) ++ bytesW (x % 4294967296) := by
  show [byteOf (x / 72057594037927936 % 256), byteOf (x / 281474976710656 % 256), byteOf (x / 1099511627776 % 256), byteOf (x / 4294967296 % 256), byteOf (x / 16777216 % 256), byteOf (x / 65536 % 256), byteOf (x / 256 % 256), byteOf (x / 1 % 256)] = [byteOf (x / 4294967296 / 16777216 % 256), byteOf (x / 4294967296 / 65536 % 256), byteOf (x / 4294967296 / 256 % 256), byteOf (x / 4294967296 % 256), byteOf (x % 4294967296 / 16777216 % 256), byteOf (x % 4294967296 / 65536 % 256), byteOf (x % 4294967296 / 256 % 256), byteOf (x % 4294967296 % 256)]
  rw [show x / 72057594037927936 % 256 = x / 4294967296 / 16777216 % 256 by omega, show x / 281474976710656 % 256 = x / 4294967296 / 65536 % 256 by omega, show x / 1099511627776 % 256 = x / 4294967296 / 256 % 256 by omega, show x / 16777216 % 256 = x % 4294967296 / 16777216 % 256 by omega, show x / 65536 % 256 = x % 4294967296 / 65536 % 256 by omega, show x / 256 % 256 = x % 4294967296 / 256 % 256 by omega, show x / 1 % 256 = x % 4294967296 % 256 by omega]
theorem endL_big (n : Nat) : endL n = ([byteOf 128] ++ List.replicate (zerosB n) 0) ++ bigL (8 * n) 8 := by
  rw [bigL_all]; unfold endL; rw [List.append_assoc]
theorem slice_text (T : ByteArray) (g n c i j : Nat) {base : Nat} (w : World) (h : MB w base 5 (.slice (some ⟨g, 0, none⟩) n c) T.data.toList) (h1 : i ≤ j) (h2 : j ≤ T.size) : (convert 73 9 (.slice (some ⟨g, i, none⟩) (j - i) (c - i))).run Tryz.prog w = .ok (.string (T.extract i j)) w := by
  have hl : (T.extract i j).data.toList.length = j - i := by
    show (T.extract i j).size = _
    rw [ByteArray.size_extract]; omega
  have := run_convert_bytes_back (P := Tryz.prog) w 73 9 5 ⟨g, i, none⟩ (c - i) (T.extract i j).data.toList Tryz.underlying73 Tryz.underlying5 Tryz.underlying9 (fun k hk => by
    have hadd : (⟨g, i, none⟩ : Addr).add k = ⟨g, i + k, none⟩ := by unfold Addr.add; split <;> simp_all
    rw [hadd]
    have e1 : (T.extract i j).data.toList[k]? = T.data.toList[i + k]? := by
      rw [ByteArray.data_extract, Array.toList_extract]
      simp only [List.extract]
      rw [List.getElem?_take_of_lt (by rw [hl] at hk; exact hk), List.getElem?_drop]
    exact h.cell (by rw [← e1, List.getElem?_eq_getElem hk]))
  rw [hl] at this
  exact this
set_option maxRecDepth 20000 in
set_option maxHeartbeats 400000 in
theorem specEnd_yes (a : Hs) (w : World) (h1 : a.st.size ≤ maxLen) (h2 : a.rs.size ≤ 4000000) (hok : okH a = true) :
    Calls Tryz.prog 38 #[hsv a] w fun e w' => e = .returned (.string (endV (stOf a.st) a.rs a.ct.toNat)) ∧ Below w.heap.size w w' := by
  have CO := hide (fun W => specOk_any a W h1 (by unfold maxLen; omega))
  obtain ⟨i0, hi, hz0, hz1, hz2⟩ := info_parts Tryz.infoByte
  obtain ⟨q1, q2, q3, q4⟩ := okH_yes hok
  rw [hok] at CO
  obtain ⟨st, rs, ct⟩ := a
  dsimp only at *
  obtain ⟨m, rfl⟩ : ∃ m : Nat, ct = (m : Int) := ⟨ct.toNat, by omega⟩
  rw [show ((m : Int)).toNat = m from rfl]
  have C1 := hide (fun W => specWords_any st 8 q1 (by decide) W)
  have hm : m ≤ 1000000000 := by omega
  have hrm : m % 64 = rs.size := by omega
  unfold hsv at CO ⊢
  dsimp only at CO ⊢
  clear q1 q2 q3 q4 h1 h2 hok
  go_enter Tryz.func38, Tryz.ntmps38
  go_wp2_with fail
  obtain ⟨W, hW, hB, hb, hlt⟩ := one_hash w ⟨st, rs, (m : Int)⟩ 70
  dsimp only at hW
  rw [hW]
  clear hW
  refine ((unhide CO) W).mono ?_
  rintro e w1 ⟨rfl, hb1⟩
  have hB1 := hB.step hb1
  have k0 := hB1.c0
  have k1 := hB1.c1
  have k2 := hB1.c2
  dsimp only at k0 k1 k2
  have hl1 := hB1.lt
  have HT1 := hide (hb.trans (hb1.mono (Nat.le_of_lt hlt)))
  replace hB1 := hide hB1
  clear hB hb hb1
  have hconv := Lib.run_convert_string_bytes (P := Tryz.prog) w1 9 73 5 rs Tryz.underlying9 Tryz.underlying73 Tryz.underlying5
  have hmb := hide (bytes_mb w1 5 rs)
  have hb2 := bytes_below2 w1 5 rs
  have hsz2 : w1.heap.size ≤ (Lib.bytesWorld w1 5 rs).heap.size := hb2.size
  generalize grownCap w1 rs.size 0 5 = cp at *
  generalize Lib.bytesWorld w1 5 rs = w2 at *
  have hln : rs.data.toList.length + 1 ≤ 140737488355328 := by have : rs.data.toList.length = rs.size := rfl; omega
  go_wp2_with (at_builtin; refine wpList_append_mark (w := w2) rfl (.tmp 17) (.tmp 18) 73 rfl w1.heap.size w1.heap.size i0 (.int .u8 0) Tryz.underlying73 hi hz0 hz1 hz2 rfl _ rs.data.toList rfl (unhide hmb) (byteOf 128) (by decide) rfl hln (Nat.le_refl _) hsz2 hb2 ?_; intro v3 w3 hmb3 hb3)
  replace hmb3 := hide hmb3
  clear hmb hb2 hsz2 hconv hln k1
  have hzl : zerosB m ≤ 63 := by unfold zerosB; omega
  have hze : (rs.size + 1 + zerosB m) % 64 = 56 := by unfold zerosB; omega
  have hzn : ∀ z, z < zerosB m → (rs.size + 1 + z) % 64 ≠ 56 := by intro z hz; unfold zerosB at hz; omega
  have hr64 : rs.size < 64 := by omega
  replace hrm := hide hrm
  have hrl : rs.data.toList.length = rs.size := rfl
  obtain ⟨zz, hzz⟩ : ∃ z, z = zerosB m := ⟨_, rfl⟩
  rw [← hzz] at hzl hze hzn
  go_loopw [3] (fun tv wq => ∃ z : Nat, z ≤ zz ∧ Hid (MB wq w1.heap.size 5 tv ((rs.data.toList ++ [byteOf 128]) ++ List.replicate z 0)) ∧ Below w1.heap.size w1 wq) (fun tv _ => match tv with | .slice _ n _ => rs.size + 1 + zz - n | _ => 0)
  case atStart => exact ⟨0, by omega, by rw [List.replicate_zero, List.append_nil]; exact hmb3, hb3⟩
  case round =>
    clear hmb3 hb3
    obtain ⟨z, hz, HM, hb⟩ := hrel
    have hll : ((rs.data.toList ++ [byteOf 128]) ++ List.replicate z 0).length = rs.size + 1 + z := by simp only [List.length_append, List.length_replicate, List.length_singleton, hrl]
    obtain ⟨g, c, hsh, hg1, hg2, hgc⟩ := (unhide HM).shape
    rw [hll] at hsh
    obtain ⟨n, hn⟩ : ∃ n, n = rs.size + 1 + z := ⟨_, rfl⟩
    rw [← hn] at hsh hll
    subst hsh
    have hnb : n ≤ 200 := by omega
    have et : ((n : Int)).tmod 64 = ((n % 64 : Nat) : Int) := by rw [Int.tmod_eq_emod_of_nonneg (by omega)]; omega
    have et2 : ((n : Int)) % 64 = ((n % 64 : Nat) : Int) := by omega
    have hsz := hb.size
    by_cases hlt : z < zz
    · have hne : ¬ (((n % 64 : Nat) : Int) = 56) := by have := hzn z hlt; rw [← hn] at this; omega
      have hlen : (rs.data.toList ++ [byteOf 128] ++ List.replicate z 0).length + 1 ≤ 140737488355328 := by rw [hll]; omega
      replace hn := hide hn
      generalize n % 64 = r at *
      clear hze hzn hg1 hg2 hgc
      go_wp2_with (at_builtin; refine wpList_append_mark (w := wr) rfl (.tmp 24) (.tmp 25) 73 rfl w1.heap.size w1.heap.size i0 (.int .u8 0) Tryz.underlying73 hi hz0 hz1 hz2 rfl _ _ rfl (unhide HM) 0 (by decide) rfl hlen (Nat.le_refl _) hsz hb ?_; intro v4 w4 hmb4 hb4)
      rw [List.append_assoc, ← List.replicate_succ'] at hmb4
      obtain ⟨g4, c4, hsh4, _⟩ := hmb4.shape
      have hl5 : (rs.data.toList ++ [byteOf 128] ++ List.replicate (z + 1) (0 : UInt8)).length = rs.size + 1 + (z + 1) := by simp only [List.length_append, List.length_replicate, List.length_singleton, hrl]
      rw [hl5] at hsh4
      subst hsh4
      replace hmb4 := hide hmb4
      clear HM
      go_roundw
      case rel => exact ⟨z + 1, by omega, hmb4, hb4⟩
      case measure => have := unhide hn; simp; omega
    · obtain rfl : z = zz := by omega
      have h56 : n % 64 = 56 := by rw [hn]; exact hze
      rw [h56] at et et2
      have hz56 := hide hze
      clear hze hzn hg1 hg2 hgc h56
      have ek2 := hb.cell (p := ⟨w.heap.size, 2, none⟩) hl1
      rw [k2] at ek2
      obtain ⟨N8, hN8⟩ : ∃ x, x = 8 * m := ⟨_, rfl⟩
      have e8 : IntKind.i64.wrap (8 * (m : Int)) = (N8 : Int) := by rw [IntKind.wrap_i64]; omega
      have hNb : N8 ≤ 8000000000 := by omega
      have HE := hide (show rs.data.toList ++ [byteOf 128] ++ List.replicate z 0 ++ bigL N8 8 = rs.data.toList ++ endL m by rw [endL_big, hN8, hzz, List.append_assoc, List.append_assoc, List.append_assoc])
      have hpl : (rs.data.toList ++ [byteOf 128] ++ List.replicate z (0 : UInt8)).length ≤ 200 := by rw [hll]; exact hnb
      replace HM := hide (show MB wr w1.heap.size 5 (.slice (some ⟨g, 0, none⟩) n c) ((rs.data.toList ++ [byteOf 128] ++ List.replicate z 0) ++ bigL N8 0) by rw [show bigL N8 0 = [] from rfl, List.append_nil]; exact unhide HM)
      generalize rs.data.toList ++ [byteOf 128] ++ List.replicate z (0 : UInt8) = pre at *
      replace hn := hide hn
      replace hN8 := hide hN8
      replace hzz := hide hzz
      go_wp2
      go_loopw [3, 5] (fun tv ti wq => ∃ p : Nat, p ≤ 8 ∧ ti = .int .i64 ((7 : Int) - (p : Int)) ∧ Hid (MB wq w1.heap.size 5 tv (pre ++ bigL N8 p)) ∧ Below w1.heap.size w1 wq) (fun _ ti _ => (intOf ti + 1).toNat)
      case atStart => exact ⟨0, by omega, rfl, HM, hb⟩
      case round =>
        clear HM hb hsz
        obtain ⟨p, hp, rfl, HM, hb⟩ := hrel
        have hsz := hb.size
        by_cases hlt : p < 8
        · obtain ⟨j, hj⟩ : ∃ j, j + p = 7 := ⟨7 - p, by omega⟩
          rw [show (7 : Int) - (p : Int) = (j : Int) by omega]
          have hj0 : (0 : Int) ≤ (j : Int) := by omega
          have hjb : j ≤ 7 := by omega
          have hlen : (pre ++ bigL N8 p).length + 1 ≤ 140737488355328 := by rw [List.length_append, bigL_len]; omega
          have HS := hide (bigL_succ N8 p)
          rw [show 7 - p = j by omega] at HS
          replace hlen := hide hlen
          replace hj := hide hj
          obtain ⟨W7, hW7⟩ : ∃ W, W = wr := ⟨_, rfl⟩
          subst hW7
          go_wp2
          go_loopw [6, 7] (fun tx tk wq => wq = W7 ∧ ∃ q : Nat, q ≤ j ∧ tk = .int .i64 (q : Int) ∧ tx = .int .i64 ((N8 / 256 ^ q : Nat) : Int)) (fun _ tk _ => j - (intOf tk).toNat)
          case atStart => exact ⟨rfl, 0, by omega, rfl, by rw [Nat.pow_zero, Nat.div_one]⟩
          case round =>
            obtain ⟨rfl, q, hq, rfl, rfl⟩ := hrel
            by_cases hqj : q < j
            · have hq1 : (q : Int) < (j : Int) := by omega
              have ep := hide (show N8 / 256 ^ (q + 1) = N8 / 256 ^ q / 256 by rw [Nat.pow_succ, Nat.div_div_eq_div_mul])
              have hyb : N8 / 256 ^ q ≤ 8000000000 := Nat.le_trans (Nat.div_le_self _ _) hNb
              generalize N8 / 256 ^ q = y at *
              have ed : ((y : Int)).tdiv 256 = ((y / 256 : Nat) : Int) := by rw [Int.tdiv_eq_ediv_of_nonneg (by omega)]; omega
              have ed2 : ((y : Int)) / 256 = ((y / 256 : Nat) : Int) := by omega
              generalize y / 256 = y2 at *
              have ew : IntKind.i64.wrap (y2 : Int) = (y2 : Int) := by rw [IntKind.wrap_i64]; omega
              go_wp2
              go_roundw
              case rel => exact ⟨by first | rfl | trivial, q + 1, by omega, by go_num, by rw [unhide ep]⟩
              case measure => simp [intOf]; omega
            · obtain rfl : q = j := by omega
              have hq1 : ¬ (q : Int) < (q : Int) := by omega
              have hyb : N8 / 256 ^ q ≤ 8000000000 := Nat.le_trans (Nat.div_le_self _ _) hNb
              generalize N8 / 256 ^ q = y at *
              have ed : ((y : Int)).tmod 256 = ((y % 256 : Nat) : Int) := by rw [Int.tmod_eq_emod_of_nonneg (by omega)]; omega
              have ed2 : ((y : Int)) % 256 = ((y % 256 : Nat) : Int) := by omega
              have ey : y % 256 < 256 := by omega
              generalize y % 256 = y2 at *
              have ew : IntKind.i64.wrap (y2 : Int) = (y2 : Int) := by rw [IntKind.wrap_i64]; omega
              have ew2 : IntKind.u8.wrap (y2 : Int) = (y2 : Int) := by rw [IntKind.wrap_u8]; omega
              have eb : (y2 : Int) = ((byteOf y2).toNat : Int) := by rw [byteOf_toNat ey]
              replace eb := hide eb
              go_wp2_with (at_builtin; refine wpList_append_mark (w := wr) rfl (.tmp 42) (.tmp 46) 73 rfl w1.heap.size w1.heap.size i0 (.int .u8 0) Tryz.underlying73 hi hz0 hz1 hz2 rfl _ _ rfl (unhide HM) (byteOf y2) (unhide eb) rfl (unhide hlen) (Nat.le_refl _) hsz hb ?_; intro v4 w4 hmb4 hb4)
              rw [List.append_assoc, ← unhide HS] at hmb4
              replace hmb4 := hide hmb4
              clear HM ed ed2 ew ew2
              go_roundw
              case rel => exact ⟨p + 1, by omega, by have := unhide hj; go_num, hmb4, hb4⟩
              case measure => have := unhide hj; simp [intOf] <;> omega
        · obtain rfl : p = 8 := by omega
          have h70 : ¬ (0 : Int) ≤ 7 - ((8 : Nat) : Int) := by omega
          rw [unhide HE] at HM
          obtain ⟨T, hT⟩ : ∃ T, T = endT rs m := ⟨_, rfl⟩
          have hTl : T.data.toList = rs.data.toList ++ endL m := by rw [hT]; unfold endT; rw [ByteArray.data_append, Array.toList_append]
          rw [← hTl] at HM
          obtain ⟨gt, ct, hsh, _, hgt, hct⟩ := (unhide HM).shape
          rw [show T.data.toList.length = T.size from rfl] at hsh hct
          subst hsh
          have hTs : T.size = n + 8 := by
            have e1 : T.data.toList.length = pre.length + 8 := by rw [hTl, ← unhide HE, List.length_append, bigL_len]
            rw [hll] at e1
            exact e1
          have hT64 : T.size % 64 = 0 := by
            have e1 := unhide hn
            have e2 := unhide hz56
            omega
          have hTb : T.size ≤ 1000 := by omega
          replace hTs := hide hTs
          have ek0 := hb.cell (p := ⟨w.heap.size, 0, none⟩) hl1
          rw [k0] at ek0
          replace hT := hide hT
          clear hTl HE hll
          go_wp2_with fail
          refine ((unhide C1) wr).mono ?_
          rintro e w4 ⟨⟨a8, c8, rfl, hown4⟩, hb4⟩
          obtain ⟨g8, rfl, hg81, hg82⟩ := hown4.some_at (by omega)
          replace hown4 := hide hown4
          have hs4 := hb4.size
          go_wp2_with fail
          refine (specK_any w4).mono ?_
          rintro e w5 ⟨⟨a9, c9, rfl, hown5⟩, hb5⟩
          obtain ⟨g9, rfl, hg91, hg92⟩ := hown5.some_at (by omega)
          have HK := hide (hown5.low (base' := w1.heap.size) (by omega))
          have HS5 := hide (((unhide hown4).low (base' := w1.heap.size) (by omega)).below hb5)
          have HM5 := hide (((unhide HM).below hb4).below hb5)
          have hb6 := (hb.trans (hb4.mono hsz)).trans (hb5.mono (by omega))
          have hs5 := hb6.size
          clear hown5 hown4 HM hb hb4 hb5 ek0
          go_wp2_with fail
          go_loopw [8, 10] (fun tv ti wq => ∃ q : Nat, 64 * q ≤ T.size ∧ ti = .int .i64 ((64 * q : Nat) : Int) ∧ (∃ g c, tv = .slice (some ⟨g, 0, none⟩) 8 c ∧ Hid (OwnV wq w1.heap.size 76 (.slice (some ⟨g, 0, none⟩) 8 c) ((blocksW (stOf st) T 0 q).toL.map u32v))) ∧ Below w5.heap.size w5 wq) (fun _ ti _ => T.size - (intOf ti).toNat)
          case atStart => exact ⟨0, by omega, rfl, ⟨g8, c8, rfl, HS5⟩, Below.refl _ _⟩
          case round =>
            clear HS5
            obtain ⟨q, hq, rfl, ⟨g', c', rfl, HS⟩, hb⟩ := hrel
            obtain ⟨i, hi6⟩ : ∃ i, i = 64 * q := ⟨_, rfl⟩
            rw [← hi6] at hq ⊢
            have hib : i ≤ 1000 := by omega
            obtain ⟨j, hj⟩ : ∃ j, j = i + 64 := ⟨_, rfl⟩
            have ei : IntKind.i64.wrap ((i : Int) + 64) = (j : Int) := by rw [IntKind.wrap_i64]; omega
            have hsz6 := hb.size
            by_cases hlt : i < T.size
            · have hlt' : (i : Int) < (T.size : Int) := by omega
              have hjT : j ≤ T.size := by omega
              have hjc : (j : Int) ≤ (ct : Int) := by omega
              have hij : (i : Int) ≤ (j : Int) := by omega
              have hxs : (T.extract i j).size = 64 := by rw [ByteArray.size_extract]; omega
              have HSt := hide (show blocksW (stOf st) T 0 (q + 1) = roundW (blocksW (stOf st) T 0 q) (T.extract i j) by rw [hj, hi6]; simp only [blocksW, Nat.zero_add])
              have hOk := blocksW_ok (stOf_ok st) T 0 q
              have hKq := hide ((unhide HK).below hb)
              have hcv := slice_text T gt T.size ct i j wr ((unhide HM5).below hb) (by omega) hjT
              rw [show j - i = 64 by omega] at hcv
              generalize T.extract i j = blk at *
              have C5 := hide (specRound_any (blocksW (stOf st) T 0 q) hOk blk hxs g' c' g9 c9 w1.heap.size wr (unhide HS) (unhide hKq))
              replace hi6 := hide hi6
              clear hOk HS hKq hxs hq
              go_wp2_with fail
              refine (unhide C5).mono ?_
              rintro e w7 ⟨⟨g4, c4, rfl, hown7⟩, hb7⟩
              have hown8 := hide (hown7.low (base' := w1.heap.size) (by omega))
              rw [← unhide HSt] at hown8
              have hb8 := hb.trans (hb7.mono hsz6)
              clear hown7 hb7 C5 hcv
              go_wp2
              go_roundw
              case rel => exact ⟨q + 1, by have := unhide hi6; omega, by have := unhide hi6; go_num, ⟨_, _, rfl, hown8⟩, hb8⟩
              case measure => have := unhide hi6; simp [intOf]; omega
            · have hlt' : ¬ (i : Int) < (T.size : Int) := by omega
              have hqe : q = T.size / 64 := by omega
              have HF : Hid (endV (stOf st) rs m = (blocksW (stOf st) T 0 q).text) := hide (by unfold endV; rw [← unhide hT, hqe])
              have hOk := blocksW_ok (stOf_ok st) T 0 q
              have C6 := hide (specBytes_any (blocksW (stOf st) T 0 q).toL (toL_small hOk) (by show 8 ≤ 1000; omega) _ w1.heap.size wr (unhide HS))
              have hbf := (unhide HT1).trans ((hb6.trans (hb.mono hs5)).mono (Nat.le_of_lt hl1))
              replace hi6 := hide hi6
              replace hqe := hide hqe
              clear hb HS hOk
              go_wp2_with fail
              refine (unhide C6).mono ?_
              rintro e w7 ⟨rfl, hb7⟩
              have hbg := hbf.trans (hb7.mono hbf.size)
              clear hb7 hbf
              go_wp2
              go_ret
              exact ⟨by rw [unhide HF]; rfl, hbg⟩
set_option maxRecDepth 20000 in
set_option maxHeartbeats 400000 in
theorem specEnd_any (a : Hs) (w : World) (h1 : a.st.size ≤ maxLen) (h2 : a.rs.size ≤ 4000000) :
    Calls Tryz.prog 38 #[hsv a] w fun e w' => e = .returned (.string (if okH a = true then endV (stOf a.st) a.rs a.ct.toNat else ⟨#[]⟩)) ∧ Below w.heap.size w w' := by
  by_cases hok : okH a = true
  · rw [if_pos hok]
    exact specEnd_yes a w h1 h2 hok
  · have CO := hide (fun W => specOk_any a W h1 (by unfold maxLen; omega))
    have hok' : okH a = false := by cases h : okH a with | true => exact absurd h hok | false => rfl
    rw [hok'] at CO
    rw [if_neg hok]
    obtain ⟨st, rs, ct⟩ := a
    unfold hsv at CO ⊢
    dsimp only at CO ⊢
    clear h1 h2 hok hok'
    go_enter Tryz.func38, Tryz.ntmps38
    go_wp2_with fail
    obtain ⟨W, hW, hB, hb, hlt⟩ := one_hash w ⟨st, rs, ct⟩ 70
    dsimp only at hW
    rw [hW]
    clear hW
    refine ((unhide CO) W).mono ?_
    rintro e w1 ⟨rfl, hb1⟩
    have HT1 := hide (hb.trans (hb1.mono (Nat.le_of_lt hlt)))
    clear hB hb hb1
    go_wp2
    go_ret
    exact ⟨rfl, unhide HT1⟩
theorem word_back (x : Nat) (h : x < 4294967296) : wordN (byteOf (x / 16777216 % 256)).toNat (byteOf (x / 65536 % 256)).toNat (byteOf (x / 256 % 256)).toNat (byteOf (x % 256)).toNat = x := by
  rw [byteOf_toNat (by omega), byteOf_toNat (by omega), byteOf_toNat (by omega), byteOf_toNat (by omega)]
  unfold wordN
  omega
theorem stOf_text {v : V8} (h : v.ok) : stOf v.text = v := by
  obtain ⟨a, b, c, d, e, f, g, k⟩ := v
  obtain ⟨h1, h2, h3, h4, h5, h6, h7, h8⟩ := h
  dsimp only at h1 h2 h3 h4 h5 h6 h7 h8
  have e1 := word_back a h1
  have e2 := word_back b h2
  have e3 := word_back c h3
  have e4 := word_back d h4
  have e5 := word_back e h5
  have e6 := word_back f h6
  have e7 := word_back g h7
  have e8 := word_back k h8
  have t : stOf (V8.mk a b c d e f g k).text = ⟨wordN (byteOf (a / 16777216 % 256)).toNat (byteOf (a / 65536 % 256)).toNat (byteOf (a / 256 % 256)).toNat (byteOf (a % 256)).toNat, wordN (byteOf (b / 16777216 % 256)).toNat (byteOf (b / 65536 % 256)).toNat (byteOf (b / 256 % 256)).toNat (byteOf (b % 256)).toNat, wordN (byteOf (c / 16777216 % 256)).toNat (byteOf (c / 65536 % 256)).toNat (byteOf (c / 256 % 256)).toNat (byteOf (c % 256)).toNat, wordN (byteOf (d / 16777216 % 256)).toNat (byteOf (d / 65536 % 256)).toNat (byteOf (d / 256 % 256)).toNat (byteOf (d % 256)).toNat, wordN (byteOf (e / 16777216 % 256)).toNat (byteOf (e / 65536 % 256)).toNat (byteOf (e / 256 % 256)).toNat (byteOf (e % 256)).toNat, wordN (byteOf (f / 16777216 % 256)).toNat (byteOf (f / 65536 % 256)).toNat (byteOf (f / 256 % 256)).toNat (byteOf (f % 256)).toNat, wordN (byteOf (g / 16777216 % 256)).toNat (byteOf (g / 65536 % 256)).toNat (byteOf (g / 256 % 256)).toNat (byteOf (g % 256)).toNat, wordN (byteOf (k / 16777216 % 256)).toNat (byteOf (k / 65536 % 256)).toNat (byteOf (k / 256 % 256)).toNat (byteOf (k % 256)).toNat⟩ := rfl
  rw [t, e1, e2, e3, e4, e5, e6, e7, e8]
def hNew : Hs := ⟨first8.text, ⟨#[]⟩, 0⟩
def digB (s : ByteArray) : ByteArray := endV (blocksW first8 s 0 (s.size / 64)) (s.extract (64 * (s.size / 64)) s.size) s.size
theorem hNew_ok : okH hNew = true := by
  unfold okH hNew
  rw [V8.text_size]
  decide
theorem moreT_new (s : ByteArray) : moreT hNew s = s := by
  unfold moreT hNew
  apply ByteArray.ext
  rw [ByteArray.data_append]
  show #[] ++ s.data = s.data
  simp
theorem moreH_new (s : ByteArray) : moreH hNew s = ⟨(blocksW first8 s 0 (s.size / 64)).text, s.extract (64 * (s.size / 64)) s.size, (s.size : Int)⟩ := by
  unfold moreH
  rw [moreT_new, show stOf hNew.st = first8 from stOf_text first8_ok, show hNew.ct = 0 from rfl, Int.zero_add]
theorem okH_more {a : Hs} {s : ByteArray} (h : okH a = true) (hc : a.ct + (s.size : Int) ≤ 1000000000) : okH (moreH a s) = true := by
  obtain ⟨q1, q2, q3, q4⟩ := okH_yes h
  unfold okH moreH
  dsimp only
  have hz : ((moreT a s).extract (64 * ((moreT a s).size / 64)) (moreT a s).size).size = (moreT a s).size % 64 := by rw [ByteArray.size_extract]; omega
  have hs : (moreT a s).size = a.rs.size + s.size := by unfold moreT; rw [ByteArray.size_append]
  rw [V8.text_size, hz, hs, decide_eq_true (by omega), decide_eq_true (by omega), decide_eq_true (by omega), decide_eq_true (by omega)]
  rfl
theorem digB_end (s : ByteArray) : endV (stOf (moreH hNew s).st) (moreH hNew s).rs (moreH hNew s).ct.toNat = digB s := by
  rw [moreH_new]
  dsimp only
  rw [stOf_text (blocksW_ok first8_ok s 0 _)]
  rfl
set_option maxRecDepth 20000 in
set_option maxHeartbeats 400000 in
theorem specDigest_any (s : ByteArray) (hs : s.size ≤ 4000000) (w : World) :
    Calls Tryz.prog 25 #[.string s] w fun e w' => e = .returned (.string (digB s)) ∧ Below w.heap.size w w' := by
  have hc : hNew.ct + (s.size : Int) ≤ 1000000000 := by show (0 : Int) + _ ≤ _; omega
  have C2 := hide (fun W => specMore_yes hNew s W (by rw [show hNew.st.size = 32 from V8.text_size _]; decide) (by decide) hs hNew_ok hc)
  have hz : (moreH hNew s).rs.size ≤ 4000000 := by rw [moreH_new]; dsimp only; rw [ByteArray.size_extract]; omega
  have C3 := hide (fun W => specEnd_yes (moreH hNew s) W (by rw [moreH_new]; dsimp only; rw [V8.text_size]; decide) hz (okH_more hNew_ok hc))
  rw [digB_end] at C3
  clear hc hz
  go_enter Tryz.func25, Tryz.ntmps25
  go_wp2_with fail
  refine (specNew_any w).mono ?_
  rintro e w1 ⟨rfl, hb1⟩
  go_wp2_with fail
  refine ((unhide C2) w1).mono ?_
  rintro e w2 ⟨rfl, hb2⟩
  have hb12 := hb1.trans (hb2.mono hb1.size)
  clear hb1 hb2
  go_wp2_with fail
  refine ((unhide C3) w2).mono ?_
  rintro e w3 ⟨rfl, hb3⟩
  have hb13 := hb12.trans (hb3.mono hb12.size)
  clear hb12 hb3
  go_wp2
  go_ret
  exact ⟨rfl, hb13⟩
end Go.Proofs.YtkbbcjnickgfjabGreat

/- Rules, reckoned: what may be done with a thing, what it is changed to, new ones, and those that come in again. -/
namespace Go.Proofs.YtkbbcjnickgfjabGreat
def mayB (x : Th) (d : Int) : Bool := if thOk x = true then (if d = 1 then !x.hid else if d = 2 then (!x.fix && decide (x.kind ≠ 2)) else if d = 3 then x.sgn else if d = 4 then x.wrp else decide (d = 5)) else false
def chgOk (x : Th) (h f : Bool) : Bool := decide (thOk x = true ∧ (x.hid = true → h = true) ∧ (x.fix = true → f = true))
def chgT (x : Th) (h f : Bool) : Th := if chgOk x h f = true then { x with hid := h, fix := f } else thZ
def rstT (x : Th) : Th := { x with sgn := false, nxt := 0, id := 0 }
def defOk (k : Int) (s : ByteArray) : Bool := decide (k = 1 ∨ k = 2 ∨ (k = 3 ∧ s.size ≤ 100))
def defT (k : Int) (s : ByteArray) : Th := if k = 1 then ⟨0, k, true, false, false, true, digB s, 0⟩ else if k = 2 then ⟨0, k, true, false, true, false, digB s, 0⟩ else if k = 3 ∧ s.size ≤ 100 then ⟨0, k, false, false, false, false, s, 0⟩ else thZ
end Go.Proofs.YtkbbcjnickgfjabGreat

/- Laws of no program: a file as three cells, a row of files that can be read, a row of files of the call's own. -/
namespace Go.Proofs.YtkbbcjnickgfjabGreat
open Go.RowKit

theorem bcell {W w1 : World} (hb : Below W.heap.size W w1) : (∀ b o, b < W.heap.size → w1.cell? ⟨b, o, none⟩ = W.cell? ⟨b, o, none⟩) ∧ (∀ b o, b < W.heap.size → w1.frozen? ⟨b, o, none⟩ = W.frozen? ⟨b, o, none⟩) :=
  ⟨fun b o h => hb.cell (p := ⟨b, o, none⟩) h, fun b o h => hb.frozen (p := ⟨b, o, none⟩) h⟩

theorem bDN {B : Nat} {w w' : World} (h : Below B w w') (n : Nat) : Below B w (w'.drewN n) := ⟨h.os, h.tape, h.output, h.size, h.block⟩
theorem bAD (w : World) (o : Obj) (n : Nat) : Below w.heap.size w ((w.alloc o).drewN n) := bDN ((Below.refl _ w).alloc (Nat.le_refl _) _) n
theorem bADT {w w1 : World} {o : Obj} {n : Nat} (h : Below ((w.alloc o).drewN n).heap.size ((w.alloc o).drewN n) w1) : Below w.heap.size w w1 := (bAD w o n).trans (h.mono (by show _ ≤ (w.alloc o).heap.size; simp))
theorem retB {a b : Bool} (h : b = a) : Ending.returned (.bool a) = .returned (.bool b) := by rw [h]

structure Fl where
  nm : ByteArray
  tx : ByteArray
  kp : Int

def flc (f : Fl) : List Value := [.string f.nm, .string f.tx, .int .i64 f.kp]
abbrev flv (f : Fl) : Value := .agg #[.string f.nm, .string f.tx, .int .i64 f.kp]

theorem gB {w w' : World} (hb : Below w.heap.size w w') (r : Option Nat) : w.grownBy w' r := ⟨hb.os, hb.tape, hb.output, hb.size, fun k hk _ => hb.block k hk⟩
theorem gS (w : World) (g o : Nat) (u : Value) : w.grownBy (w.setCell ⟨g, o, none⟩ u) (some g) := ⟨rfl, rfl, rfl, by simp, fun k _ hk => RowKit.Below.heap_setCell _ _ _ _ (fun e => hk (by rw [e]))⟩
theorem gT {a b c : World} {r : Option Nat} (h : a.grownBy b r) (k : b.grownBy c r) : a.grownBy c r :=
  ⟨k.os.trans h.os, k.tape.trans h.tape, k.output.trans h.output, Nat.le_trans h.size k.size, fun i hi hr => (k.block i (Nat.lt_of_lt_of_le hi h.size) hr).trans (h.block i hi hr)⟩
theorem gR (w : World) (r : Option Nat) : w.grownBy w r := ⟨rfl, rfl, rfl, Nat.le_refl _, fun _ _ _ => rfl⟩
theorem gBelow {w w' : World} {r : Option Nat} (h : w.grownBy w' r) {B : Nat} (hB : B ≤ w.heap.size) (hr : ∀ k, r = some k → B ≤ k) : Below B w w' := (Below.refl B w).grown h hB hr

/-- The three cells of a file stand at p. -/
def FlAt (w : World) (g o : Nat) (f : Fl) : Prop :=
  w.cell? ⟨g, o, none⟩ = some (.string f.nm) ∧ w.cell? ⟨g, o + 1, none⟩ = some (.string f.tx) ∧ w.cell? ⟨g, o + 2, none⟩ = some (.int .i64 f.kp)

/-- The slice value v is a row in which the files fs can be read. -/
def RdF (w : World) (v : Value) (fs : List Fl) : Prop :=
  (∃ a c, v = .slice a 0 c ∧ fs = []) ∨ ∃ g o c, v = .slice (some ⟨g, o, none⟩) fs.length c ∧ 0 < fs.length ∧ g < w.heap.size ∧ ∀ j f, fs[j]? = some f → FlAt w g (o + j * 3) f

theorem FlAt.below {w w' : World} {g o : Nat} {f : Fl} (h : FlAt w g o f) {B : Nat} (hb : Below B w w') (hg : g < B) : FlAt w' g o f :=
  ⟨(hb.cell (p := ⟨g, o, none⟩) hg).trans h.1, (hb.cell (p := ⟨g, o + 1, none⟩) hg).trans h.2.1, (hb.cell (p := ⟨g, o + 2, none⟩) hg).trans h.2.2⟩

theorem RdF.below_at {w w' : World} {v : Value} {fs : List Fl} (h : RdF w v fs) {B : Nat} (hb : Below B w w') (hB : ∀ g, v.ownBlock = some g → g < B) : RdF w' v fs := by
  rcases h with h | ⟨g, o, c, rfl, hn, hg, hc⟩
  · exact .inl h
  · exact .inr ⟨g, o, c, rfl, hn, Nat.lt_of_lt_of_le hg hb.size, fun j f hj => (hc j f hj).below hb (hB g rfl)⟩
theorem RdF.below {w w' : World} {v : Value} {fs : List Fl} (h : RdF w v fs) (hb : Below w.heap.size w w') : RdF w' v fs := by
  rcases h with h | ⟨g, o, c, rfl, hn, hg, hc⟩
  · exact .inl h
  · exact .inr ⟨g, o, c, rfl, hn, Nat.lt_of_lt_of_le hg hb.size, fun j f hj => (hc j f hj).below hb hg⟩
theorem RdF.alloc {w : World} {v : Value} {fs : List Fl} (h : RdF w v fs) (o : Obj) : RdF (w.alloc o) v fs := h.below ((Below.refl _ _).alloc (Nat.le_refl _) _)
theorem RdF.drew {w : World} {v : Value} {fs : List Fl} (h : RdF w v fs) : RdF w.drew v fs := h.below (Below.refl _ _).drew
theorem RdF.shape {w : World} {v : Value} {fs : List Fl} (h : RdF w v fs) : ∃ a c, v = .slice a fs.length c := by
  rcases h with ⟨a, c, rfl, rfl⟩ | ⟨g, o, c, rfl, _⟩
  · exact ⟨_, _, rfl⟩
  · exact ⟨_, _, rfl⟩

theorem RdF.open {w : World} {v : Value} {fs : List Fl} (h : RdF w v fs) : ∃ a c, v = .slice a fs.length c ∧ ∀ j f, fs[j]? = some f → ∃ g o, a = some ⟨g, o, none⟩ ∧ g < w.heap.size ∧ FlAt w g (o + j * 3) f := by
  rcases h with ⟨a, c, rfl, rfl⟩ | ⟨g, o, c, rfl, _, hg, hc⟩
  · exact ⟨a, c, rfl, fun j f hj => by simp at hj⟩
  · exact ⟨_, c, rfl, fun j f hj => ⟨g, o, rfl, hg, hc j f hj⟩⟩

/-- The slice value v is a row of files of the call's own (blocks from base on). -/
def OwnF (w : World) (base : Nat) (e : TypeId) (v : Value) (fs : List Fl) : Prop := w.ownsRow base e 3 v fs.length (fs.flatMap flc)

theorem flc_len (fs : List Fl) : (fs.flatMap flc).length = fs.length * 3 := by
  induction fs with
  | nil => rfl
  | cons f r ih => rw [List.flatMap_cons, List.length_append, ih]; simp only [flc, List.length_cons, List.length_nil]; omega
theorem flc_get (fs : List Fl) : ∀ (j : Nat) (f : Fl), fs[j]? = some f → (fs.flatMap flc)[j * 3]? = some (.string f.nm) ∧ (fs.flatMap flc)[j * 3 + 1]? = some (.string f.tx) ∧ (fs.flatMap flc)[j * 3 + 2]? = some (.int .i64 f.kp) := by
  induction fs with
  | nil => intro j f h; simp at h
  | cons x r ih =>
    intro j f h
    cases j with
    | zero =>
      simp only [List.getElem?_cons_zero, Option.some.injEq] at h
      subst h
      simp [flc]
    | succ j =>
      simp only [List.getElem?_cons_succ] at h
      obtain ⟨h1, h2, h3⟩ := ih j f h
      have e : (x :: r).flatMap flc = flc x ++ r.flatMap flc := rfl
      rw [e]
      have hl : (flc x).length = 3 := rfl
      refine ⟨?_, ?_, ?_⟩
      · rw [List.getElem?_append_right (by omega), hl, show (j + 1) * 3 - 3 = j * 3 by omega]; exact h1
      · rw [List.getElem?_append_right (by omega), hl, show (j + 1) * 3 + 1 - 3 = j * 3 + 1 by omega]; exact h2
      · rw [List.getElem?_append_right (by omega), hl, show (j + 1) * 3 + 2 - 3 = j * 3 + 2 by omega]; exact h3

theorem OwnF.below {w w' : World} {base : Nat} {e : TypeId} {v : Value} {fs : List Fl} (h : OwnF w base e v fs) (hb : Below w.heap.size w w') : OwnF w' base e v fs :=
  World.ownsRow.kept (row := none) h ⟨hb.os, hb.tape, hb.output, hb.size, fun k hk _ => hb.block k hk⟩ (by cases hv : v.ownBlock <;> simp)
theorem OwnF.below_at {w w' : World} {base B : Nat} {e : TypeId} {v : Value} {fs : List Fl} (h : OwnF w base e v fs) (hb : Below B w w') (hB : ∀ g, v.ownBlock = some g → g < B) : OwnF w' base e v fs := by
  refine ⟨h.1, ?_⟩
  rcases h.2 with hn | ⟨g, cap, cur, rfl, hbg, hgg, rest⟩
  · exact .inl hn
  · refine .inr ⟨g, cap, cur, rfl, hbg, ?_, rest⟩
    rw [hb.block g (hB g rfl)]
    exact hgg
theorem OwnF.grown {w w' : World} {base : Nat} {e : TypeId} {v : Value} {fs : List Fl} {r : Option Nat} (h : OwnF w base e v fs) (hg : w.grownBy w' r) (hne : ∀ k, v.ownBlock = some k → r ≠ some k) : OwnF w' base e v fs :=
  World.ownsRow.kept h hg (by cases hv : v.ownBlock with
    | none => exact .inl rfl
    | some k => exact .inr (fun e => hne k hv e.symm))
theorem OwnF.alloc {w : World} {base : Nat} {e : TypeId} {v : Value} {fs : List Fl} (h : OwnF w base e v fs) (o : Obj) : OwnF (w.alloc o) base e v fs := World.ownsRow.alloc h o
theorem OwnF.drew {w : World} {base : Nat} {e : TypeId} {v : Value} {fs : List Fl} (h : OwnF w base e v fs) : OwnF w.drew base e v fs := h
theorem OwnF.low {w : World} {base base' : Nat} {e : TypeId} {v : Value} {fs : List Fl} (h : OwnF w base e v fs) (hb : base' ≤ base) : OwnF w base' e v fs := by
  refine ⟨h.1, ?_⟩
  rcases h.2 with hn | ⟨g, cap, cur, rfl, hbg, rest⟩
  · exact .inl hn
  · exact .inr ⟨g, cap, cur, rfl, by omega, rest⟩
theorem OwnF.lt {w : World} {base : Nat} {e : TypeId} {v : Value} {fs : List Fl} (h : OwnF w base e v fs) : ∀ g, v.ownBlock = some g → base ≤ g ∧ g < w.heap.size := World.ownsRow.lt h
theorem OwnF.nil (w : World) (base : Nat) (e : TypeId) : OwnF w base e (.slice none 0 0) [] := World.ownsRow_nil w base e 3

theorem OwnF.rd {w : World} {base : Nat} {e : TypeId} {v : Value} {fs : List Fl} (h : OwnF w base e v fs) : RdF w v fs := by
  rcases h.2 with ⟨h1, h2⟩ | ⟨g, cap, cur, h1, hb, hg, _⟩
  · exact .inl ⟨none, 0, h1, List.eq_nil_of_length_eq_zero h2⟩
  · by_cases hz : fs.length = 0
    · exact .inl ⟨_, cap, by rw [h1, hz], List.eq_nil_of_length_eq_zero hz⟩
    · refine .inr ⟨g, 0, cap, h1, by omega, (Array.getElem?_eq_some_iff.1 hg).1, ?_⟩
      intro j f hj
      have hc := World.ownsRow.cells h (g := g) (by rw [h1]; rfl)
      have hadd : ∀ k, (⟨g, 0, none⟩ : Addr).add k = ⟨g, k, none⟩ := fun k => by unfold Addr.add; split <;> simp_all
      obtain ⟨e1, e2, e3⟩ := flc_get fs j f hj
      have c1 := hc _ _ e1
      have c2 := hc _ _ e2
      have c3 := hc _ _ e3
      rw [hadd] at c1 c2 c3
      exact ⟨by rw [Nat.zero_add]; exact c1, by rw [Nat.zero_add]; exact c2, by rw [Nat.zero_add]; exact c3⟩

theorem OwnF.other {w : World} {base : Nat} {e : TypeId} {v : Value} {fs : List Fl} (h : OwnF w base e v fs) {a : Addr} (ha : a.block < base) (u : Value) : OwnF (w.setCell a u) base e v fs := by
  refine ⟨h.1, ?_⟩
  rcases h.2 with hn | ⟨g, cap, cur, rfl, hbg, hgg, rest⟩
  · exact .inl hn
  · refine .inr ⟨g, cap, cur, rfl, hbg, ?_, rest⟩
    rw [RowKit.Below.heap_setCell _ _ _ _ (by omega)]
    exact hgg

/-- 'out = append(out, f)' on a row of files of the call's own. -/
theorem wp_append_file {P : Program} {W : World} {o : Oper} {a : Act} {K : Act → World → Prop} {Q : Exit → Act → World → Prop} (s x : Operand) (t : TypeId)
    (ho : o.op = .call { callee := .builtin .append, args := #[s, x], argTypes := #[t, t] })
    (base B : Nat) (e : TypeId) (i : TypeInfo) (z : Value) (nb : Nat) (ht : P.underlying t = some (.slice e)) (hi : P.info? e = some i) (hz : i.zero = some z) (hsize : i.size = 3) (hby : i.bytes = nb) (hzs : z.cells.size = 3)
    (v : Value) (fs : List Fl) (hs : a.eval s = v) (hown : OwnF W base e v fs)
    (blk : Nat) (cs : Array Value) (hblk : W.heap[blk]? = some (.cells cs e (0, 0))) (f : Fl) (hcs : cs.toList = flc f) (c : Nat) (hx : a.eval x = .slice (some ⟨blk, 0, none⟩) 1 c)
    (hlen : fs.length ≤ 2000000) (hnb : nb ≤ 1000) (hB : B ≤ base) (hbase : base ≤ W.heap.size) {w00 : World} (hbel : Below B w00 W)
    (h : ∀ v' w', OwnF w' base e v' (fs ++ [f]) → Below B w00 w' → K (a.put o.dst v') w') : o.wp P a W K Q := by
  have hcell : ∀ j u, (flc f)[j]? = some u → W.cell? ((⟨blk, 0, none⟩ : Addr).add j) = some u := by
    intro j u hu
    have hadd : (⟨blk, 0, none⟩ : Addr).add j = ⟨blk, j, none⟩ := by unfold Addr.add; split <;> simp_all
    rw [hadd, cell_of_row W blk j cs e (0, 0) hblk]
    rw [← hcs] at hu
    simpa using hu
  have hmul : (fs.length + 1) * nb ≤ 140737488355328 := Nat.le_trans (Nat.mul_le_mul (show fs.length + 1 ≤ 2000001 by omega) hnb) (by decide)
  refine wp_append_own W s x t ho base e i z 3 nb ht hi hz hsize hby hzs (by decide) v fs.length (fs.flatMap flc) hs hown
    ⟨blk, 0, none⟩ 1 c (flc f) hx rfl hcell (by intro u hu; simp only [flc, List.mem_cons, List.mem_nil_iff, or_false] at hu; rcases hu with rfl | rfl | rfl <;> rfl) (by unfold maxLen; omega) hmul hbase ?_
  intro v' w' h2 h3 _
  refine h v' w' (by unfold OwnF; rw [List.length_append, List.flatMap_append]; simpa using h2) ?_
  refine hbel.grown h3 (by omega) ?_
  intro k hk
  have := (World.ownsRow.lt hown k hk).1
  omega

theorem wpList_append_file {P : Program} {w : World} {ops : Array Oper} {rest : List Oper} {o : Oper} {a : Act} {Q : Exit → Act → World → Prop} (hgd : o.guard = none) (s x : Operand) (t : TypeId)
    (ho : o.op = .call { callee := .builtin .append, args := #[s, x], argTypes := #[t, t] })
    (base B : Nat) (e : TypeId) (i : TypeInfo) (z : Value) (nb : Nat) (ht : P.underlying t = some (.slice e)) (hi : P.info? e = some i) (hz : i.zero = some z) (hsize : i.size = 3) (hby : i.bytes = nb) (hzs : z.cells.size = 3)
    (v : Value) (fs : List Fl) (hs : a.eval s = v) (hown : OwnF w base e v fs)
    (cs : Array Value) (f : Fl) (hcs : cs.toList = flc f) (c : Nat) (hx : a.eval x = .slice (some ⟨w.heap.size, 0, none⟩) 1 c)
    (hlen : fs.length ≤ 2000000) (hnb : nb ≤ 1000) (hB : B ≤ base) (hbase : base ≤ w.heap.size) {w00 : World} (hbel : Below B w00 w)
    (h : ∀ v' w', OwnF w' base e v' (fs ++ [f]) → Below B w00 w' → wpList P ops Q rest (a.put o.dst v') w') :
    wpList P ops Q (o :: rest) a (w.alloc (.cells cs e)) :=
  wpList_plain hgd fun _ hK => wp_append_file s x t ho base B e i z nb ht hi hz hsize hby hzs v fs hs (hown.alloc _) w.heap.size cs (heap_alloc_new w _) f hcs c hx hlen hnb hB (by simp; omega) (hbel.alloc (by omega) _) fun v' w' h2 h3 => hK _ _ (h v' w' h2 h3)

theorem flc_set0 (s : ByteArray) : ∀ (fs : List Fl) (k : Nat) (f : Fl), fs[k]? = some f → (fs.flatMap flc).set (k * 3) (.string s) = (fs.set k { f with nm := s }).flatMap flc
  | [], k, f, h => by simp at h
  | x :: r, 0, f, h => by
    simp only [List.getElem?_cons_zero, Option.some.injEq] at h
    subst h; rfl
  | x :: r, k + 1, f, h => by
    have ih := flc_set0 s r k f (by simpa using h)
    rw [show (k + 1) * 3 = k * 3 + 1 + 1 + 1 by omega]
    show Value.string x.nm :: Value.string x.tx :: Value.int .i64 x.kp :: (r.flatMap flc).set (k * 3) (.string s) = _
    rw [ih]; rfl
theorem flc_set1 (s : ByteArray) : ∀ (fs : List Fl) (k : Nat) (f : Fl), fs[k]? = some f → (fs.flatMap flc).set (k * 3 + 1) (.string s) = (fs.set k { f with tx := s }).flatMap flc
  | [], k, f, h => by simp at h
  | x :: r, 0, f, h => by
    simp only [List.getElem?_cons_zero, Option.some.injEq] at h
    subst h; rfl
  | x :: r, k + 1, f, h => by
    have ih := flc_set1 s r k f (by simpa using h)
    rw [show (k + 1) * 3 + 1 = k * 3 + 1 + 1 + 1 + 1 by omega]
    show Value.string x.nm :: Value.string x.tx :: Value.int .i64 x.kp :: (r.flatMap flc).set (k * 3 + 1) (.string s) = _
    rw [ih]; rfl
theorem flc_set2 (s : Int) : ∀ (fs : List Fl) (k : Nat) (f : Fl), fs[k]? = some f → (fs.flatMap flc).set (k * 3 + 2) (.int .i64 s) = (fs.set k { f with kp := s }).flatMap flc
  | [], k, f, h => by simp at h
  | x :: r, 0, f, h => by
    simp only [List.getElem?_cons_zero, Option.some.injEq] at h
    subst h; rfl
  | x :: r, k + 1, f, h => by
    have ih := flc_set2 s r k f (by simpa using h)
    rw [show (k + 1) * 3 + 2 = k * 3 + 2 + 1 + 1 + 1 by omega]
    show Value.string x.nm :: Value.string x.tx :: Value.int .i64 x.kp :: (r.flatMap flc).set (k * 3 + 2) (.int .i64 s) = _
    rw [ih]; rfl

theorem ownsRow_set {w : World} {base g n c sz : Nat} {e : TypeId} {xs : List Value} (h : w.ownsRow base e sz (.slice (some ⟨g, 0, none⟩) n c) n xs) (k : Nat) (u : Value) :
    (w.setCell ⟨g, k, none⟩ u).ownsRow base e sz (.slice (some ⟨g, 0, none⟩) n c) n (xs.set k u) := by
  refine ⟨by rw [List.length_set]; exact h.1, ?_⟩
  rcases h.2 with ⟨h1, _⟩ | ⟨g', cap, cur, h1, hb, h2, h3, h4, h5, h6⟩
  · cases h1
  · simp only [Value.slice.injEq, Option.some.injEq, Addr.mk.injEq] at h1
    obtain ⟨⟨rfl, _⟩, _, rfl⟩ := h1
    refine .inr ⟨g, c, cur.setIfInBounds k u, rfl, hb, heap_setCell_same w g k cur e u h2, h3, h4, by rw [Array.size_setIfInBounds]; exact h5, ?_⟩
    rw [Array.toList_setIfInBounds, List.take_set, h6]
theorem OwnF.len {w : World} {base n : Nat} {a : Option Addr} {c : Nat} {e : TypeId} {fs : List Fl} (h : OwnF w base e (.slice a n c) fs) : fs.length = n := by
  rcases h.2 with ⟨h1, h2⟩ | ⟨g', cap, cur, h1, _⟩
  · simp only [Value.slice.injEq] at h1; omega
  · simp only [Value.slice.injEq] at h1; exact h1.2.1.symm
theorem OwnF.set0 {w : World} {base g n c : Nat} {e : TypeId} {fs : List Fl} (h : OwnF w base e (.slice (some ⟨g, 0, none⟩) n c) fs) {k : Nat} {f : Fl} (hk : fs[k]? = some f) (s : ByteArray) :
    OwnF (w.setCell ⟨g, k * 3, none⟩ (.string s)) base e (.slice (some ⟨g, 0, none⟩) n c) (fs.set k { f with nm := s }) := by
  have hl := h.len
  unfold OwnF at h ⊢
  rw [List.length_set, ← flc_set0 s fs k f hk]
  rw [hl] at h ⊢
  exact ownsRow_set h _ _
theorem OwnF.set1 {w : World} {base g n c : Nat} {e : TypeId} {fs : List Fl} (h : OwnF w base e (.slice (some ⟨g, 0, none⟩) n c) fs) {k : Nat} {f : Fl} (hk : fs[k]? = some f) (s : ByteArray) :
    OwnF (w.setCell ⟨g, k * 3 + 1, none⟩ (.string s)) base e (.slice (some ⟨g, 0, none⟩) n c) (fs.set k { f with tx := s }) := by
  have hl := h.len
  unfold OwnF at h ⊢
  rw [List.length_set, ← flc_set1 s fs k f hk]
  rw [hl] at h ⊢
  exact ownsRow_set h _ _
theorem OwnF.set2 {w : World} {base g n c : Nat} {e : TypeId} {fs : List Fl} (h : OwnF w base e (.slice (some ⟨g, 0, none⟩) n c) fs) {k : Nat} {f : Fl} (hk : fs[k]? = some f) (s : Int) :
    OwnF (w.setCell ⟨g, k * 3 + 2, none⟩ (.int .i64 s)) base e (.slice (some ⟨g, 0, none⟩) n c) (fs.set k { f with kp := s }) := by
  have hl := h.len
  unfold OwnF at h ⊢
  rw [List.length_set, ← flc_set2 s fs k f hk]
  rw [hl] at h ⊢
  exact ownsRow_set h _ _
theorem set_get {fs : List Fl} {k : Nat} {f : Fl} (h : fs[k]? = some f) (x : Fl) : (fs.set k x)[k]? = some x := by
  rw [List.getElem?_set]
  simp [(List.getElem?_eq_some_iff.1 h).1]
/-- The three cells of one file written. -/
theorem OwnF.set3 {w : World} {base g n c : Nat} {e : TypeId} {fs : List Fl} (h : OwnF w base e (.slice (some ⟨g, 0, none⟩) n c) fs) {k : Nat} (hk : k < n) (x : Fl) :
    OwnF (((w.setCell ⟨g, k * 3, none⟩ (.string x.nm)).setCell ⟨g, k * 3 + 1, none⟩ (.string x.tx)).setCell ⟨g, k * 3 + 2, none⟩ (.int .i64 x.kp)) base e (.slice (some ⟨g, 0, none⟩) n c) (fs.set k x) := by
  have hl := h.len
  have hf := List.getElem?_eq_getElem (show k < fs.length by omega)
  have h1 := h.set0 hf x.nm
  have h2 := h1.set1 (set_get hf _) x.tx
  have h3 := h2.set2 (set_get (set_get hf _) _) x.kp
  rw [List.set_set, List.set_set] at h3
  exact h3
theorem OwnF.rowf {w : World} {base g n c : Nat} {e : TypeId} {fs : List Fl} (h : OwnF w base e (.slice (some ⟨g, 0, none⟩) n c) fs) : ∃ cur, w.heap[g]? = some (.cells cur e (0, 0)) := by
  rcases h.2 with ⟨h1, _⟩ | ⟨g', cap, cur, h1, _, h2, _⟩
  · cases h1
  · simp only [Value.slice.injEq, Option.some.injEq, Addr.mk.injEq] at h1
    obtain ⟨⟨rfl, _⟩, _⟩ := h1
    exact ⟨cur, h2⟩
theorem OwnF.frozen {w : World} {base g n c : Nat} {e : TypeId} {fs : List Fl} (h : OwnF w base e (.slice (some ⟨g, 0, none⟩) n c) fs) (k : Nat) : w.frozen? ⟨g, k, none⟩ = false := by
  obtain ⟨cur, hc⟩ := h.rowf
  exact frozen_of_row w g k cur e hc
theorem OwnF.at {w : World} {base g n c : Nat} {e : TypeId} {fs : List Fl} (h : OwnF w base e (.slice (some ⟨g, 0, none⟩) n c) fs) {k : Nat} {f : Fl} (hf : fs[k]? = some f) : FlAt w g (k * 3) f := by
  have hc := World.ownsRow.cells h (g := g) rfl
  have hadd : ∀ k, (⟨g, 0, none⟩ : Addr).add k = ⟨g, k, none⟩ := fun k => by unfold Addr.add; split <;> simp_all
  obtain ⟨e1, e2, e3⟩ := flc_get fs k _ hf
  have c1 := hc _ _ e1
  have c2 := hc _ _ e2
  have c3 := hc _ _ e3
  rw [hadd] at c1 c2 c3
  exact ⟨c1, c2, c3⟩
theorem OwnF.cells3 {w : World} {base g n c : Nat} {e : TypeId} {fs : List Fl} (h : OwnF w base e (.slice (some ⟨g, 0, none⟩) n c) fs) {k : Nat} (hk : k < n) :
    ∃ f : Fl, fs[k]? = some f ∧ FlAt w g (k * 3) f := by
  have hl := h.len
  have hf := List.getElem?_eq_getElem (show k < fs.length by omega)
  exact ⟨_, hf, h.at hf⟩

def flz : Fl := ⟨ByteArray.empty, ByteArray.empty, 0⟩
theorem madeF (n : Nat) : (madeCells (flv flz).cells (n * 3)).toList = (List.replicate n flz).flatMap flc := by
  have hc : (flv flz).cells = #[.string ByteArray.empty, .string ByteArray.empty, .int .i64 0] := rfl
  rw [hc]
  unfold madeCells
  apply List.ext_getElem?
  intro j
  rw [Array.toList_map, Array.toList_range, List.getElem?_map]
  by_cases hj : j < n * 3
  · rw [List.getElem?_range hj]
    obtain ⟨q, r, rfl, hr⟩ : ∃ q r, j = q * 3 + r ∧ r < 3 := ⟨j / 3, j % 3, by omega, by omega⟩
    have hq : (List.replicate n flz)[q]? = some flz := by rw [List.getElem?_replicate, if_pos (by omega)]
    obtain ⟨e0, e1, e2⟩ := flc_get _ _ _ hq
    have hm : (q * 3 + r) % 3 = r := by omega
    show some (#[Value.string ByteArray.empty, .string ByteArray.empty, .int .i64 0][(q * 3 + r) % 3]!) = _
    rw [hm]
    have hr3 : r = 0 ∨ r = 1 ∨ r = 2 := by omega
    rcases hr3 with rfl | rfl | rfl
    · exact e0.symm
    · exact e1.symm
    · exact e2.symm
  · rw [List.getElem?_eq_none (by simp; omega), List.getElem?_eq_none (by rw [flc_len, List.length_replicate]; omega)]
    rfl
theorem OwnF.made {w : World} {base n : Nat} {e : TypeId} {g : Nat} (h : w.ownsRow base e 3 (.slice (some ⟨g, 0, none⟩) n n) n (madeCells (flv flz).cells (n * 3)).toList) :
    OwnF w base e (.slice (some ⟨g, 0, none⟩) n n) (List.replicate n flz) := by
  rw [madeF] at h
  unfold OwnF
  rw [List.length_replicate]
  exact h
theorem take_fill {fs : List Fl} {k n : Nat} {f : Fl} (hf : fs[k]? = some f) (hn : fs.length = n) :
    (fs.take k ++ List.replicate (n - k) flz).set k f = fs.take (k + 1) ++ List.replicate (n - (k + 1)) flz := by
  have hk : k < fs.length := (List.getElem?_eq_some_iff.1 hf).1
  have hl : (fs.take k).length = k := by rw [List.length_take]; omega
  rw [List.set_append_right _ _ (by omega), hl, Nat.sub_self, show n - k = (n - (k + 1)) + 1 by omega, List.replicate_succ, List.set_cons_zero, List.take_add_one, hf, List.append_assoc]
  rfl
end Go.Proofs.YtkbbcjnickgfjabGreat

/- Laws of no program: rows of one-cell values that can be read; one more file appended inside a region that draws. -/
namespace Go.Proofs.YtkbbcjnickgfjabGreat
open Go.RowKit

/-- The slice value v is a row in which the one-cell values xs can be read. -/
def RdV (w : World) (v : Value) (xs : List Value) : Prop :=
  (∃ a c, v = .slice a 0 c ∧ xs = []) ∨ ∃ g o c, v = .slice (some ⟨g, o, none⟩) xs.length c ∧ 0 < xs.length ∧ g < w.heap.size ∧ ∀ (j : Nat) (x : Value), xs[j]? = some x → w.cell? ⟨g, o + j, none⟩ = some x
theorem RdV.below {w w' : World} {v : Value} {xs : List Value} (h : RdV w v xs) (hb : Below w.heap.size w w') : RdV w' v xs := by
  rcases h with h | ⟨g, o, c, rfl, hn, hg, hc⟩
  · exact .inl h
  · exact .inr ⟨g, o, c, rfl, hn, Nat.lt_of_lt_of_le hg hb.size, fun j f hj => (hb.cell (p := ⟨g, o + j, none⟩) hg).trans (hc j f hj)⟩
theorem RdV.below_at {w w' : World} {v : Value} {xs : List Value} (h : RdV w v xs) {B : Nat} (hb : Below B w w') (hB : ∀ g, v.ownBlock = some g → g < B) : RdV w' v xs := by
  rcases h with h | ⟨g, o, c, rfl, hn, hg, hc⟩
  · exact .inl h
  · exact .inr ⟨g, o, c, rfl, hn, Nat.lt_of_lt_of_le hg hb.size, fun j f hj => (hb.cell (p := ⟨g, o + j, none⟩) (hB g rfl)).trans (hc j f hj)⟩
theorem RdV.alloc {w : World} {v : Value} {xs : List Value} (h : RdV w v xs) (o : Obj) : RdV (w.alloc o) v xs := h.below ((Below.refl _ _).alloc (Nat.le_refl _) _)
theorem RdV.drew {w : World} {v : Value} {xs : List Value} (h : RdV w v xs) : RdV w.drew v xs := h.below (Below.refl _ _).drew
theorem RdV.open {w : World} {v : Value} {xs : List Value} (h : RdV w v xs) : ∃ a c, v = .slice a xs.length c ∧ ∀ (j : Nat) (x : Value), xs[j]? = some x → ∃ g o, a = some ⟨g, o, none⟩ ∧ g < w.heap.size ∧ w.cell? ⟨g, o + j, none⟩ = some x := by
  rcases h with ⟨a, c, rfl, rfl⟩ | ⟨g, o, c, rfl, _, hg, hc⟩
  · exact ⟨a, c, rfl, fun j f hj => by simp at hj⟩
  · exact ⟨_, c, rfl, fun j f hj => ⟨g, o, rfl, hg, hc j f hj⟩⟩
theorem RdV.shape {w : World} {v : Value} {xs : List Value} (h : RdV w v xs) : ∃ a c, v = .slice a xs.length c := by
  obtain ⟨a, c, h, _⟩ := h.open
  exact ⟨a, c, h⟩
theorem OwnV.rdv {w : World} {base : Nat} {e : TypeId} {v : Value} {xs : List Value} (h : OwnV w base e v xs) : RdV w v xs := by
  rcases h.2 with ⟨h1, h2⟩ | ⟨g, cap, cur, h1, hb, hg, _⟩
  · exact .inl ⟨none, 0, h1, List.eq_nil_of_length_eq_zero h2⟩
  · by_cases hz : xs.length = 0
    · exact .inl ⟨_, cap, by rw [h1, hz], List.eq_nil_of_length_eq_zero hz⟩
    · subst h1
      exact .inr ⟨g, 0, cap, rfl, by omega, (Array.getElem?_eq_some_iff.1 hg).1, fun j x hj => by rw [Nat.zero_add]; exact h.cell hj⟩

theorem RdV.grown {w w' : World} {v : Value} {xs : List Value} {r : Option Nat} (h : RdV w v xs) (hg : w.grownBy w' r) (hne : ∀ k, v.ownBlock = some k → r ≠ some k) : RdV w' v xs := by
  rcases h with h | ⟨g, o, c, rfl, hn, hgl, hc⟩
  · exact .inl h
  · refine .inr ⟨g, o, c, rfl, hn, Nat.lt_of_lt_of_le hgl hg.size, fun j f hj => ?_⟩
    rw [← hc j f hj]
    unfold World.cell?
    rw [hg.block g hgl (fun e => hne g rfl e.symm)]
theorem RdF.grown {w w' : World} {v : Value} {fs : List Fl} {r : Option Nat} (h : RdF w v fs) (hg : w.grownBy w' r) (hne : ∀ k, v.ownBlock = some k → r ≠ some k) : RdF w' v fs := by
  rcases h with h | ⟨g, o, c, rfl, hn, hgl, hc⟩
  · exact .inl h
  · refine .inr ⟨g, o, c, rfl, hn, Nat.lt_of_lt_of_le hgl hg.size, fun j f hj => ?_⟩
    obtain ⟨e1, e2, e3⟩ := hc j f hj
    refine ⟨?_, ?_, ?_⟩
    · rw [← e1]; unfold World.cell?; rw [hg.block g hgl (fun e => hne g rfl e.symm)]
    · rw [← e2]; unfold World.cell?; rw [hg.block g hgl (fun e => hne g rfl e.symm)]
    · rw [← e3]; unfold World.cell?; rw [hg.block g hgl (fun e => hne g rfl e.symm)]
theorem OwnV.grown {w w' : World} {base : Nat} {e : TypeId} {v : Value} {xs : List Value} {r : Option Nat} (h : OwnV w base e v xs) (hg : w.grownBy w' r) (hne : ∀ k, v.ownBlock = some k → r ≠ some k) : OwnV w' base e v xs :=
  World.ownsRow.kept h hg (by cases hv : v.ownBlock with
    | none => exact .inl rfl
    | some k => exact .inr (fun e => hne k hv e.symm))

/-- A number as a cell. -/
def iv (z : Int) : Value := .int .i64 z

theorem OwnF.shaped {w : World} {base : Nat} {e : TypeId} {v : Value} {fs : List Fl} (h : OwnF w base e v fs) : ∃ a c, v = .slice a fs.length c := h.rd.shape

/-- 'out = append(out, f)' inside a region that draws its order, or outside one. -/
theorem wp_append_file' {P : Program} {W : World} {o : Oper} {a : Act} {K : Act → World → Prop} {Q : Exit → Act → World → Prop} (s x : Operand) (t : TypeId)
    (ho : o.op = .call { callee := .builtin .append, args := #[s, x], argTypes := #[t, t] })
    (base B : Nat) (e : TypeId) (i : TypeInfo) (z : Value) (nb : Nat) (ht : P.underlying t = some (.slice e)) (hi : P.info? e = some i) (hz : i.zero = some z) (hsize : i.size = 3) (hby : i.bytes = nb) (hzs : z.cells.size = 3)
    (v : Value) (fs : List Fl) (hs : a.eval s = v) (hown : OwnF W base e v fs)
    (blk : Nat) (cs : Array Value) (hblk : W.heap[blk]? = some (.cells cs e (0, 0))) (f : Fl) (hcs : cs.toList = flc f) (c : Nat) (hx : a.eval x = .slice (some ⟨blk, 0, none⟩) 1 c)
    (n : Nat) (hfn : fs.length = n) (hlen : n ≤ 2000000) (hnb : nb ≤ 1000) (hB : B ≤ base) (hbase : base ≤ W.heap.size) {w00 : World} (hbel : Below B w00 W)
    (h : ∀ a' c' w', OwnF w' base e (.slice a' (n + 1) c') (fs ++ [f]) → Below B w00 w' → (∀ k, k < W.heap.size → v.ownBlock ≠ some k → w'.heap[k]? = W.heap[k]?) → W.heap.size ≤ w'.heap.size → K (a.put o.dst (.slice a' (n + 1) c')) w') : o.wp P a W K Q := by
  subst hfn
  have hcell : ∀ j u, (flc f)[j]? = some u → W.cell? ((⟨blk, 0, none⟩ : Addr).add j) = some u := by
    intro j u hu
    have hadd : (⟨blk, 0, none⟩ : Addr).add j = ⟨blk, j, none⟩ := by unfold Addr.add; split <;> simp_all
    rw [hadd, cell_of_row W blk j cs e (0, 0) hblk]
    rw [← hcs] at hu
    simpa using hu
  have hmul : (fs.length + 1) * nb ≤ 140737488355328 := Nat.le_trans (Nat.mul_le_mul (show fs.length + 1 ≤ 2000001 by omega) hnb) (by decide)
  refine wp_append_own W s x t ho base e i z 3 nb ht hi hz hsize hby hzs (by decide) v fs.length (fs.flatMap flc) hs hown
    ⟨blk, 0, none⟩ 1 c (flc f) hx rfl hcell (by intro u hu; simp only [flc, List.mem_cons, List.mem_nil_iff, or_false] at hu; rcases hu with rfl | rfl | rfl <;> rfl) (by unfold maxLen; omega) hmul hbase ?_
  intro v' w' h2 h3 _
  have h2' : OwnF w' base e v' (fs ++ [f]) := by unfold OwnF; rw [List.length_append, List.flatMap_append]; simpa using h2
  obtain ⟨a', c', rfl⟩ := h2'.shaped
  rw [List.length_append] at h2' ⊢
  refine h a' c' w' h2' (hbel.grown h3 (by omega) ?_) (fun k hk hne => h3.block k hk (fun e => hne e.symm)) h3.size
  intro k hk
  have := (World.ownsRow.lt hown k hk).1
  omega

theorem wpList_append_file' {P : Program} {W : World} {ops : Array Oper} {rest : List Oper} {o : Oper} {a : Act} {Q : Exit → Act → World → Prop} (hgd : o.guard = none) (s x : Operand) (t : TypeId)
    (ho : o.op = .call { callee := .builtin .append, args := #[s, x], argTypes := #[t, t] })
    (base B : Nat) (e : TypeId) (i : TypeInfo) (z : Value) (nb : Nat) (ht : P.underlying t = some (.slice e)) (hi : P.info? e = some i) (hz : i.zero = some z) (hsize : i.size = 3) (hby : i.bytes = nb) (hzs : z.cells.size = 3)
    (v : Value) (fs : List Fl) (hs : a.eval s = v) (hown : OwnF W base e v fs)
    (blk : Nat) (cs : Array Value) (hblk : W.heap[blk]? = some (.cells cs e (0, 0))) (f : Fl) (hcs : cs.toList = flc f) (c : Nat) (hx : a.eval x = .slice (some ⟨blk, 0, none⟩) 1 c)
    (n : Nat) (hfn : fs.length = n) (hlen : n ≤ 2000000) (hnb : nb ≤ 1000) (hB : B ≤ base) (hbase : base ≤ W.heap.size) {w00 : World} (hbel : Below B w00 W)
    (h : ∀ a' c' w', OwnF w' base e (.slice a' (n + 1) c') (fs ++ [f]) → Below B w00 w' → (∀ k, k < W.heap.size → v.ownBlock ≠ some k → w'.heap[k]? = W.heap[k]?) → W.heap.size ≤ w'.heap.size → wpList P ops Q rest (a.put o.dst (.slice a' (n + 1) c')) w') :
    wpList P ops Q (o :: rest) a W :=
  wpList_plain hgd fun _ hK => wp_append_file' s x t ho base B e i z nb ht hi hz hsize hby hzs v fs hs hown blk cs hblk f hcs c hx n hfn hlen hnb hB hbase hbel fun a' c' w' h2 h3 h4 h5 => hK _ _ (h a' c' w' h2 h3 h4 h5)

theorem step_append_file {P : Program} {W : World} {ops : Array Oper} {o : Oper} {a : Act} {K : Act → World → Prop} {Q : Exit → Act → World → Prop} {E : Prop} (hg : o.guard = none) (s x : Operand) (t : TypeId)
    (ho : o.op = .call { callee := .builtin .append, args := #[s, x], argTypes := #[t, t] })
    (base B : Nat) (e : TypeId) (i : TypeInfo) (z : Value) (nb : Nat) (ht : P.underlying t = some (.slice e)) (hi : P.info? e = some i) (hz : i.zero = some z) (hsize : i.size = 3) (hby : i.bytes = nb) (hzs : z.cells.size = 3)
    (v : Value) (fs : List Fl) (hs : a.eval s = v) (hown : OwnF W base e v fs)
    (blk : Nat) (cs : Array Value) (hblk : W.heap[blk]? = some (.cells cs e (0, 0))) (f : Fl) (hcs : cs.toList = flc f) (c : Nat) (hx : a.eval x = .slice (some ⟨blk, 0, none⟩) 1 c)
    (n : Nat) (hfn : fs.length = n) (hlen : n ≤ 2000000) (hnb : nb ≤ 1000) (hB : B ≤ base) (hbase : base ≤ W.heap.size) {w00 : World} (hbel : Below B w00 W)
    (h : ∀ a' c' w', OwnF w' base e (.slice a' (n + 1) c') (fs ++ [f]) → Below B w00 w' → (∀ k, k < W.heap.size → v.ownBlock ≠ some k → w'.heap[k]? = W.heap[k]?) → W.heap.size ≤ w'.heap.size → K (a.put o.dst (.slice a' (n + 1) c')) w') :
    if Region.wanted o (yielded ops a.tmps) = true then Oper.wp P o a W K Q else E := by
  have hw : Region.wanted o (yielded ops a.tmps) = true := by simp [Region.wanted, hg]
  rw [if_pos hw]
  exact wp_append_file' s x t ho base B e i z nb ht hi hz hsize hby hzs v fs hs hown blk cs hblk f hcs c hx n hfn hlen hnb hB hbase hbel h

/-- A call of a Go function by its contract, inside a region that draws its order. -/
theorem step_call {P : Program} {W : World} {ops : Array Oper} {o : Oper} {a : Act} {K : Act → World → Prop} {Q : Exit → Act → World → Prop} {E : Prop} (hg : o.guard = none) {F : FuncId} {args : Array Value} {R : Ending → World → Prop}
    (C : Calls P F args W R) (hrun : (execOp a.eval o).run P W = .ok (.enter F args) W)
    (h : ∀ e w', R e w' → ∃ v, e = .returned v ∧ K (a.put o.dst v) w') :
    if Region.wanted o (yielded ops a.tmps) = true then Oper.wp P o a W K Q else E := by
  have hw : Region.wanted o (yielded ops a.tmps) = true := by simp [Region.wanted, hg]
  rw [if_pos hw]
  unfold Oper.wp
  rw [hrun, Oper.upon_enter]
  refine C.mono fun e w' hR => ?_
  obtain ⟨v, rfl, hK⟩ := h e w' hR
  exact hK
end Go.Proofs.YtkbbcjnickgfjabGreat

/- Laws of no program: a block that holds a variable of several cells. -/
namespace Go.Proofs.YtkbbcjnickgfjabGreat
open Go.RowKit
/-- Block g is a variable that holds these cells. -/
def CB (w : World) (g : Nat) (T : TypeId) (cs : Array Value) : Prop := w.heap[g]? = some (.cells cs T (0, 0))
theorem CB.lt {w : World} {g : Nat} {T : TypeId} {cs : Array Value} (h : CB w g T cs) : g < w.heap.size := by
  rcases Nat.lt_or_ge g w.heap.size with h1 | h1
  · exact h1
  · unfold CB at h
    rw [Array.getElem?_eq_none h1] at h; cases h
theorem CB.below {w w' : World} {g B : Nat} {T : TypeId} {cs : Array Value} (h : CB w g T cs) (hb : Below B w w') (hg : g < B) : CB w' g T cs := by
  unfold CB at h ⊢
  rw [hb.block g hg]; exact h
theorem CB.step {w w' : World} {g : Nat} {T : TypeId} {cs : Array Value} (h : CB w g T cs) (hb : Below w.heap.size w w') : CB w' g T cs := h.below hb h.lt
theorem CB.grown {w w' : World} {g : Nat} {r : Option Nat} {T : TypeId} {cs : Array Value} (hA : CB w g T cs) (hG : w.grownBy w' r) (hne : r ≠ some g) : CB w' g T cs := by
  have h := hG.block g hA.lt (fun e => hne e.symm)
  unfold CB at hA ⊢
  rw [h]
  exact hA
theorem CB.cell {w : World} {g : Nat} {T : TypeId} {cs : Array Value} (h : CB w g T cs) (k : Nat) {v : Value} (hv : cs[k]? = some v) : w.cell? ⟨g, k, none⟩ = some v := by
  rw [cell_of_row w g k _ T (0, 0) h]
  exact hv
theorem CB.frozen {w : World} {g : Nat} {T : TypeId} {cs : Array Value} (h : CB w g T cs) (k : Nat) : w.frozen? ⟨g, k, none⟩ = false := frozen_of_row w g k _ T h
theorem CB.set {w : World} {g : Nat} {T : TypeId} {cs : Array Value} (h : CB w g T cs) (k : Nat) (v : Value) : CB (w.setCell ⟨g, k, none⟩ v) g T (cs.setIfInBounds k v) := by
  unfold CB
  rw [heap_setCell_same w g k _ T v h]
theorem CB.set_other {w : World} {g h k : Nat} {T : TypeId} {cs : Array Value} (hA : CB w g T cs) (hne : g ≠ h) (v : Value) : CB (w.setCell ⟨h, k, none⟩ v) g T cs := by
  unfold CB at hA ⊢
  rw [Below.heap_setCell _ _ _ g hne]
  exact hA
theorem CB.alloc {w : World} {g : Nat} {T : TypeId} {cs : Array Value} (h : CB w g T cs) (o : Obj) : CB (w.alloc o) g T cs := by
  have hl := h.lt
  unfold CB at h ⊢
  rw [heap_alloc_old w o hl]
  exact h
theorem CB.new (w : World) (cs : Array Value) (T : TypeId) : CB (w.alloc (.cells cs T)) w.heap.size T cs := by
  unfold CB
  exact heap_alloc_new w _
theorem CB.off {w : World} {g base : Nat} {T e : TypeId} {cs : Array Value} {v : Value} {xs : List Value} (hA : CB w g T cs) (ho : OwnV w base e v xs) (hT : T ≠ e) : v.ownBlock ≠ some g := by
  intro hv
  rcases ho.2 with ⟨h1, _⟩ | ⟨g', cap, cur, h1, _, h3, _⟩
  · rw [h1] at hv; cases hv
  · rw [h1] at hv
    have hv' : (some g' : Option Nat) = some g := hv
    have hg : g' = g := Option.some.inj hv'
    subst hg
    unfold CB at hA
    rw [hA] at h3
    have h4 := Option.some.inj h3
    injection h4 with h5 h6
    exact hT h6
theorem tS0 (w : World) (g o : Nat) (u : Value) : w.grownBy (w.setCell ⟨g, o, none⟩ u) (some g) := ⟨rfl, rfl, rfl, by simp, fun k _ hk => RowKit.Below.heap_setCell _ _ _ _ (fun e => hk (by rw [e]))⟩
theorem OwnV.setO {w : World} {base : Nat} {e : TypeId} {v : Value} {xs : List Value} (h : OwnV w base e v xs) (g k : Nat) (u : Value) (hne : v.ownBlock ≠ some g) : OwnV (w.setCell ⟨g, k, none⟩ u) base e v xs := h.grown (tS0 w g k u) fun j hj e => hne (by rw [hj, e])
theorem results_cb {P : Program} {fn : Func} {p : Tmp} {ty : TypeId} (h : fn.results = #[.cell p ty]) (tmps : Array Value) (w : World) (g : Nat) (T : TypeId) (cs : Array Value) (fs : Array Field)
    (hp : tmps.getD p undef = .pointer (some ⟨g, 0, none⟩)) (hA : CB w g T cs) (hu : P.underlying ty = some (.struct fs)) (hi : (P.info? ty).map (·.size) = some cs.size) :
    (results fn tmps).run P w = .ok (.agg cs) w :=
  results_cell_row h tmps w g T _ (0, 0) _ hp hA hu rfl hi
theorem results_cb_tmp {P : Program} {fn : Func} {p u : Tmp} {ty : TypeId} (h : fn.results = #[.cell p ty, .tmp u]) (tmps : Array Value) (w : World) (g : Nat) (T : TypeId) (cs : Array Value) (fs : Array Field)
    (hp : tmps.getD p undef = .pointer (some ⟨g, 0, none⟩)) (hA : CB w g T cs) (hu : P.underlying ty = some (.struct fs)) (hi : (P.info? ty).map (·.size) = some cs.size) :
    (results fn tmps).run P w = .ok (.tuple #[.agg cs, tmps.getD u undef]) w := by
  rw [results_cell_tmp h, hp]
  simp [asAddr, Result.andThen, run_loadVar_row w g T ty cs (0, 0) (.struct fs) hA hu rfl hi]
theorem one_cb (w : World) (c1 : Array Value) (T1 : TypeId) : ∃ W, w.alloc (.cells c1 T1) = W ∧ CB W w.heap.size T1 c1 ∧ Below w.heap.size w W ∧ w.heap.size < W.heap.size := by
  refine ⟨_, rfl, CB.new w c1 T1, (Below.refl _ w).alloc (Nat.le_refl _) _, by simp⟩
theorem two_cb (w : World) (c1 c2 : Array Value) (T1 T2 : TypeId) : ∃ W, (w.alloc (.cells c1 T1)).alloc (.cells c2 T2) = W ∧ CB W w.heap.size T1 c1 ∧ CB W (w.heap.size + 1) T2 c2 ∧ Below w.heap.size w W ∧ w.heap.size + 1 < W.heap.size := by
  obtain ⟨W, hW, hA, hb, hlt⟩ := one_cb w c1 T1
  rw [hW]
  have hs : W.heap.size = w.heap.size + 1 := by rw [← hW]; simp
  refine ⟨_, rfl, hA.alloc _, ?_, hb.alloc (by omega) _, by simp; omega⟩
  have h := CB.new W c2 T2
  rw [hs] at h
  exact h
theorem three_cb (w : World) (c1 c2 c3 : Array Value) (T1 T2 T3 : TypeId) : ∃ W, ((w.alloc (.cells c1 T1)).alloc (.cells c2 T2)).alloc (.cells c3 T3) = W ∧ CB W w.heap.size T1 c1 ∧ CB W (w.heap.size + 1) T2 c2 ∧ CB W (w.heap.size + 1 + 1) T3 c3 ∧ Below w.heap.size w W ∧ w.heap.size + 1 + 1 < W.heap.size := by
  obtain ⟨W, hW, hA, hA2, hb, hlt⟩ := two_cb w c1 c2 T1 T2
  rw [hW]
  have hs : W.heap.size = w.heap.size + 1 + 1 := by rw [← hW]; simp
  refine ⟨_, rfl, hA.alloc _, hA2.alloc _, ?_, hb.alloc (by omega) _, by simp; omega⟩
  have h := CB.new W c3 T3
  rw [hs] at h
  exact h
end Go.Proofs.YtkbbcjnickgfjabGreat

/- What spec.ReadVar comes to, over the loaded program. -/
namespace Go.Proofs.YtkbbcjnickgfjabGreat
open Go.RowKit


theorem l01Var_at (x : Int) (m : Nat) (hx : x = (m : Int)) (w : World) (hm : m ≤ 1000000000) :
    Calls Tryz.prog 57 #[.int .i64 x] w fun e w' => e = .returned (.string ⟨(varB m).toArray⟩) ∧ Below w.heap.size w w' := by
  subst hx; exact l01Var_any m w hm


end Go.Proofs.YtkbbcjnickgfjabGreat

/- Things by the given model: what is right, their texts, over the loaded program. -/
namespace Go.Proofs.YtkbbcjnickgfjabGreat
open Go.RowKit
set_option maxRecDepth 20000 in
set_option maxHeartbeats 4000000 in
theorem specThingOk_any (x : Th) (w : World) :
    Calls Tryz.prog 59 #[.agg (thC x)] w fun e w' => e = .returned (.bool (thOk x)) ∧ Below w.heap.size w w' := by
  have HY := hide ((thOk_iff x).2)
  have HN := hide ((thOk_not x).2)
  generalize thOk x = r at *
  obtain ⟨id, kind, hid, fix, sgn, wrp, val, nxt⟩ := x
  unfold thC
  obtain ⟨W, hW, hC, hb, hlt⟩ := one_cb w #[.int .i64 id, .int .i64 kind, .bool hid, .bool fix, .bool sgn, .bool wrp, .string val, .int .i64 nxt] 48
  have c0 := hC.cell 0 rfl
  have c1 := hC.cell 1 rfl
  have c4 := hC.cell 4 rfl
  have c5 := hC.cell 5 rfl
  have c6 := hC.cell 6 rfl
  have c7 := hC.cell 7 rfl
  clear hC
  have CY := hide (fun (a b c : Int) (h1 : b ≤ a) (h2 : a ≤ c) W => l01In_yes a b c W h1 h2)
  have CN := hide (fun (a b c : Int) (h : a < b ∨ c < a) W => l01In_no a b c W h)
  by_cases A1 : 1 ≤ id ∧ id ≤ 1000
  · have C1 := hide (unhide CY id 1 1000 A1.1 A1.2)
    by_cases A2 : 1 ≤ kind ∧ kind ≤ 3
    · have C2 := hide (unhide CY kind 1 3 A2.1 A2.2)
      by_cases A3 : 0 ≤ nxt ∧ nxt ≤ 16
      · have C3 := hide (unhide CY nxt 0 16 A3.1 A3.2)
        clear CY CN
        have hk3 : kind = 1 ∨ kind = 2 ∨ kind = 3 := by omega
        rcases hk3 with rfl | rfl | rfl
        · by_cases hn : nxt = 0
          · subst hn
            cases sgn with
            | true =>
              obtain rfl := unhide HN (fun h => by have := (h.2.2.2.2.2.2.1 (by simp)).2; cases this)
              clear HY HN A1 A2 A3
              go_enter Tryz.func59, Tryz.ntmps59
              go_wp2_with fail
              refine (unhide C1 W).mono ?_
              rintro e w1 ⟨rfl, hw1⟩
              subst hw1
              go_wp2_with fail
              refine (unhide C2 w1).mono ?_
              rintro e w2 ⟨rfl, hw2⟩
              subst hw2
              go_wp2_with fail
              refine (unhide C3 w2).mono ?_
              rintro e w3 ⟨rfl, hw3⟩
              subst hw3
              go_wp2
              go_ret
              exact ⟨rfl, hb⟩
            | false =>
              by_cases hs : val.size = 32
              · obtain rfl := unhide HY ⟨A1.1, A1.2, A2.1, A2.2, A3.1, A3.2, fun _ => ⟨rfl, rfl⟩, fun h => absurd rfl h, fun h => by simp at h, fun _ => hs⟩
                have hs' : (val.size : Int) = 32 := by omega
                clear HY HN A1 A2 A3
                go_enter Tryz.func59, Tryz.ntmps59
                go_wp2_with fail
                refine (unhide C1 W).mono ?_
                rintro e w1 ⟨rfl, hw1⟩
                subst hw1
                go_wp2_with fail
                refine (unhide C2 w1).mono ?_
                rintro e w2 ⟨rfl, hw2⟩
                subst hw2
                go_wp2_with fail
                refine (unhide C3 w2).mono ?_
                rintro e w3 ⟨rfl, hw3⟩
                subst hw3
                go_wp2
                go_ret
                exact ⟨rfl, hb⟩
              · obtain rfl := unhide HN (fun h => hs (h.2.2.2.2.2.2.2.2.2 (by simp)))
                have hs' : ((val.size : Int) == 32) = false := by rw [beq_eq_false_iff_ne]; omega
                clear HY HN A1 A2 A3
                go_enter Tryz.func59, Tryz.ntmps59
                go_wp2_with fail
                refine (unhide C1 W).mono ?_
                rintro e w1 ⟨rfl, hw1⟩
                subst hw1
                go_wp2_with fail
                refine (unhide C2 w1).mono ?_
                rintro e w2 ⟨rfl, hw2⟩
                subst hw2
                go_wp2_with fail
                refine (unhide C3 w2).mono ?_
                rintro e w3 ⟨rfl, hw3⟩
                subst hw3
                go_wp2
                go_ret
                exact ⟨rfl, hb⟩
          · obtain rfl := unhide HN (fun h => hn (h.2.2.2.2.2.2.1 (by simp)).1)
            clear HY HN A1 A2 A3
            go_enter Tryz.func59, Tryz.ntmps59
            go_wp2_with fail
            refine (unhide C1 W).mono ?_
            rintro e w1 ⟨rfl, hw1⟩
            subst hw1
            go_wp2_with fail
            refine (unhide C2 w1).mono ?_
            rintro e w2 ⟨rfl, hw2⟩
            subst hw2
            go_wp2_with fail
            refine (unhide C3 w2).mono ?_
            rintro e w3 ⟨rfl, hw3⟩
            subst hw3
            go_wp2
            go_ret
            exact ⟨rfl, hb⟩
        · cases wrp with
          | true =>
            obtain rfl := unhide HN (fun h => by have := h.2.2.2.2.2.2.2.1 (by simp); cases this)
            clear HY HN A1 A2 A3
            go_enter Tryz.func59, Tryz.ntmps59
            go_wp2_with fail
            refine (unhide C1 W).mono ?_
            rintro e w1 ⟨rfl, hw1⟩
            subst hw1
            go_wp2_with fail
            refine (unhide C2 w1).mono ?_
            rintro e w2 ⟨rfl, hw2⟩
            subst hw2
            go_wp2_with fail
            refine (unhide C3 w2).mono ?_
            rintro e w3 ⟨rfl, hw3⟩
            subst hw3
            go_wp2
            go_ret
            exact ⟨rfl, hb⟩
          | false =>
            by_cases hs : val.size = 32
            · obtain rfl := unhide HY ⟨A1.1, A1.2, A2.1, A2.2, A3.1, A3.2, fun h => absurd rfl h, fun _ => rfl, fun h => by simp at h, fun _ => hs⟩
              have hs' : (val.size : Int) = 32 := by omega
              clear HY HN A1 A2 A3
              go_enter Tryz.func59, Tryz.ntmps59
              go_wp2_with fail
              refine (unhide C1 W).mono ?_
              rintro e w1 ⟨rfl, hw1⟩
              subst hw1
              go_wp2_with fail
              refine (unhide C2 w1).mono ?_
              rintro e w2 ⟨rfl, hw2⟩
              subst hw2
              go_wp2_with fail
              refine (unhide C3 w2).mono ?_
              rintro e w3 ⟨rfl, hw3⟩
              subst hw3
              go_wp2
              go_ret
              exact ⟨rfl, hb⟩
            · obtain rfl := unhide HN (fun h => hs (h.2.2.2.2.2.2.2.2.2 (by simp)))
              have hs' : ((val.size : Int) == 32) = false := by rw [beq_eq_false_iff_ne]; omega
              clear HY HN A1 A2 A3
              go_enter Tryz.func59, Tryz.ntmps59
              go_wp2_with fail
              refine (unhide C1 W).mono ?_
              rintro e w1 ⟨rfl, hw1⟩
              subst hw1
              go_wp2_with fail
              refine (unhide C2 w1).mono ?_
              rintro e w2 ⟨rfl, hw2⟩
              subst hw2
              go_wp2_with fail
              refine (unhide C3 w2).mono ?_
              rintro e w3 ⟨rfl, hw3⟩
              subst hw3
              go_wp2
              go_ret
              exact ⟨rfl, hb⟩
        · by_cases hn : nxt = 0
          · subst hn
            cases sgn with
            | true =>
              obtain rfl := unhide HN (fun h => by have := (h.2.2.2.2.2.2.1 (by simp)).2; cases this)
              clear HY HN A1 A2 A3
              go_enter Tryz.func59, Tryz.ntmps59
              go_wp2_with fail
              refine (unhide C1 W).mono ?_
              rintro e w1 ⟨rfl, hw1⟩
              subst hw1
              go_wp2_with fail
              refine (unhide C2 w1).mono ?_
              rintro e w2 ⟨rfl, hw2⟩
              subst hw2
              go_wp2_with fail
              refine (unhide C3 w2).mono ?_
              rintro e w3 ⟨rfl, hw3⟩
              subst hw3
              go_wp2
              go_ret
              exact ⟨rfl, hb⟩
            | false =>
              cases wrp with
              | true =>
                obtain rfl := unhide HN (fun h => by have := h.2.2.2.2.2.2.2.1 (by simp); cases this)
                clear HY HN A1 A2 A3
                go_enter Tryz.func59, Tryz.ntmps59
                go_wp2_with fail
                refine (unhide C1 W).mono ?_
                rintro e w1 ⟨rfl, hw1⟩
                subst hw1
                go_wp2_with fail
                refine (unhide C2 w1).mono ?_
                rintro e w2 ⟨rfl, hw2⟩
                subst hw2
                go_wp2_with fail
                refine (unhide C3 w2).mono ?_
                rintro e w3 ⟨rfl, hw3⟩
                subst hw3
                go_wp2
                go_ret
                exact ⟨rfl, hb⟩
              | false =>
                by_cases hs : val.size ≤ 100
                · obtain rfl := unhide HY ⟨A1.1, A1.2, A2.1, A2.2, A3.1, A3.2, fun _ => ⟨rfl, rfl⟩, fun _ => rfl, fun _ => hs, fun h => absurd rfl h⟩
                  have hs' : (val.size : Int) ≤ 100 := by omega
                  clear HY HN A1 A2 A3
                  go_enter Tryz.func59, Tryz.ntmps59
                  go_wp2_with fail
                  refine (unhide C1 W).mono ?_
                  rintro e w1 ⟨rfl, hw1⟩
                  subst hw1
                  go_wp2_with fail
                  refine (unhide C2 w1).mono ?_
                  rintro e w2 ⟨rfl, hw2⟩
                  subst hw2
                  go_wp2_with fail
                  refine (unhide C3 w2).mono ?_
                  rintro e w3 ⟨rfl, hw3⟩
                  subst hw3
                  go_wp2
                  go_ret
                  exact ⟨rfl, hb⟩
                · obtain rfl := unhide HN (fun h => hs (h.2.2.2.2.2.2.2.2.1 rfl))
                  have hs' : ¬ (val.size : Int) ≤ 100 := by omega
                  have hs2 : decide ((val.size : Int) ≤ 100) = false := by rw [decide_eq_false_iff_not]; omega
                  clear HY HN A1 A2 A3
                  go_enter Tryz.func59, Tryz.ntmps59
                  go_wp2_with fail
                  refine (unhide C1 W).mono ?_
                  rintro e w1 ⟨rfl, hw1⟩
                  subst hw1
                  go_wp2_with fail
                  refine (unhide C2 w1).mono ?_
                  rintro e w2 ⟨rfl, hw2⟩
                  subst hw2
                  go_wp2_with fail
                  refine (unhide C3 w2).mono ?_
                  rintro e w3 ⟨rfl, hw3⟩
                  subst hw3
                  go_wp2
                  go_ret
                  exact ⟨rfl, hb⟩
          · obtain rfl := unhide HN (fun h => hn (h.2.2.2.2.2.2.1 (by simp)).1)
            clear HY HN A1 A2 A3
            go_enter Tryz.func59, Tryz.ntmps59
            go_wp2_with fail
            refine (unhide C1 W).mono ?_
            rintro e w1 ⟨rfl, hw1⟩
            subst hw1
            go_wp2_with fail
            refine (unhide C2 w1).mono ?_
            rintro e w2 ⟨rfl, hw2⟩
            subst hw2
            go_wp2_with fail
            refine (unhide C3 w2).mono ?_
            rintro e w3 ⟨rfl, hw3⟩
            subst hw3
            go_wp2
            go_ret
            exact ⟨rfl, hb⟩
      · have C3 := hide (unhide CN nxt 0 16 (by omega))
        clear CY CN
        obtain rfl := unhide HN (fun h => A3 ⟨h.2.2.2.2.1, h.2.2.2.2.2.1⟩)
        clear HY HN A1 A2 A3
        go_enter Tryz.func59, Tryz.ntmps59
        go_wp2_with fail
        refine (unhide C1 W).mono ?_
        rintro e w1 ⟨rfl, hw1⟩
        subst hw1
        go_wp2_with fail
        refine (unhide C2 w1).mono ?_
        rintro e w2 ⟨rfl, hw2⟩
        subst hw2
        go_wp2_with fail
        refine (unhide C3 w2).mono ?_
        rintro e w3 ⟨rfl, hw3⟩
        subst hw3
        go_wp2
        go_ret
        exact ⟨rfl, hb⟩
    · have C2 := hide (unhide CN kind 1 3 (by omega))
      clear CY CN
      obtain rfl := unhide HN (fun h => A2 ⟨h.2.2.1, h.2.2.2.1⟩)
      clear HY HN A1 A2
      go_enter Tryz.func59, Tryz.ntmps59
      go_wp2_with fail
      refine (unhide C1 W).mono ?_
      rintro e w1 ⟨rfl, hw1⟩
      subst hw1
      go_wp2_with fail
      refine (unhide C2 w1).mono ?_
      rintro e w2 ⟨rfl, hw2⟩
      subst hw2
      go_wp2
      go_ret
      exact ⟨rfl, hb⟩
  · have C1 := hide (unhide CN id 1 1000 (by omega))
    clear CY CN
    obtain rfl := unhide HN (fun h => A1 ⟨h.1, h.2.1⟩)
    clear HY HN A1
    go_enter Tryz.func59, Tryz.ntmps59
    go_wp2_with fail
    refine (unhide C1 W).mono ?_
    rintro e w1 ⟨rfl, hw1⟩
    subst hw1
    go_wp2
    go_ret
    exact ⟨rfl, hb⟩
end Go.Proofs.YtkbbcjnickgfjabGreat

/- Things by the given model: flags, texts, over the loaded program. -/
namespace Go.Proofs.YtkbbcjnickgfjabGreat
open Go.RowKit
def flI (b : Bool) (n : Int) : Int := if b then n else 0
theorem flI_cast (b : Bool) (n : Nat) : flI b (n : Int) = ((flB b n : Nat) : Int) := by cases b <;> rfl
theorem varB_len9 {n : Nat} (h : n ≤ 1048576) : (varB n).length ≤ 3 := by
  by_cases h1 : n ≤ 127
  · rw [varB_small h1]; simp
  · rw [varB_big h1, List.length_cons]
    have := varB_two9 (n := n / 128) (by omega)
    omega
theorem l19Flag_any (b : Bool) (n : Int) (w : World) :
    Calls Tryz.prog 86 #[.bool b, .int .i64 n] w fun e w' => e = .returned (.int .i64 (flI b n)) ∧ w' = w := by
  cases b with
  | true =>
    go_enter Tryz.func86, Tryz.ntmps86
    go_wp2
    go_ret
    exact ⟨rfl, rfl⟩
  | false =>
    go_enter Tryz.func86, Tryz.ntmps86
    go_wp2
    go_ret
    exact ⟨rfl, rfl⟩
def shB (s : ByteArray) : ByteArray := ⟨(varB s.size).toArray⟩ ++ s
set_option maxRecDepth 20000 in
theorem l19Short_any (s : ByteArray) (hs : s.size ≤ 1048576) (w : World) :
    Calls Tryz.prog 88 #[.string s] w fun e w' => e = .returned (.string (shB s)) ∧ Below w.heap.size w w' := by
  have C := hide (fun W => l01Var_any s.size W (by omega))
  have hv : (⟨(varB s.size).toArray⟩ : ByteArray).size ≤ 10 := by
    show (varB s.size).toArray.size ≤ 10
    rw [List.size_toArray]
    have := varB_len9 (n := s.size) (by omega)
    omega
  have E := hide (show shB s = ⟨(varB s.size).toArray⟩ ++ s from rfl)
  rw [unhide E]
  generalize (⟨(varB s.size).toArray⟩ : ByteArray) = v at *
  go_enter Tryz.func88, Tryz.ntmps88
  go_wp2_with fail
  refine (unhide C w).mono ?_
  rintro e w1 ⟨rfl, hb1⟩
  go_wp2
  go_ret
  exact ⟨rfl, hb1⟩
theorem oneY_size9 (z : Int) : (oneY z).size = 1 := rfl
theorem arr_app (a b : List UInt8) : (⟨a.toArray⟩ ++ ⟨b.toArray⟩ : ByteArray) = ⟨(a ++ b).toArray⟩ := by
  apply ByteArray.ext
  rw [ByteArray.data_append]
  simp
theorem oneY_by (n : Nat) (h : n < 256) : oneY (n : Int) = ⟨[byteOf n].toArray⟩ := by
  unfold oneY
  rw [show b256 (n : Int) = n by unfold b256; omega]
  rfl
theorem thT_is {x : Th} (h : ThOk x) : thT x = ⟨(varB x.id.toNat).toArray⟩ ++ oneY x.kind ++ oneY ((fl x : Nat) : Int) ++ shB x.val ++ ⟨(varB x.nxt.toNat).toArray⟩ := by
  have hk : x.kind = ((x.kind.toNat : Nat) : Int) := by omega
  have hf := fl_lt x
  rw [oneY_by (fl x) (by omega), hk, oneY_by x.kind.toNat (by omega)]
  unfold shB thT thL
  rw [show x.val = ⟨x.val.data.toList.toArray⟩ by simp]
  simp only [arr_app]
  simp
def ttB (x : Th) : ByteArray := if thOk x = true then thT x else ⟨#[]⟩
set_option maxRecDepth 20000 in
set_option maxHeartbeats 4000000 in
theorem specThingText_any (x : Th) (w : World) :
    Calls Tryz.prog 58 #[.agg (thC x)] w fun e w' => e = .returned (.tuple #[.string (ttB x), .bool (thOk x)]) ∧ Below w.heap.size w w' := by
  have CO := hide (fun W => specThingOk_any x W)
  cases hok : thOk x with
  | false =>
    have E : ttB x = ⟨#[]⟩ := by unfold ttB; rw [if_neg (by rw [hok]; simp)]
    rw [E]
    rw [hok] at CO
    clear hok E
    obtain ⟨id, kind, hid, fix, sgn, wrp, val, nxt⟩ := x
    unfold thC at CO ⊢
    obtain ⟨W, hW, hC, hb, hlt⟩ := one_cb w #[.int .i64 id, .int .i64 kind, .bool hid, .bool fix, .bool sgn, .bool wrp, .string val, .int .i64 nxt] 48
    have c0 := hC.cell 0 rfl
    have c1 := hC.cell 1 rfl
    have c2 := hC.cell 2 rfl
    have c3 := hC.cell 3 rfl
    have c4 := hC.cell 4 rfl
    have c5 := hC.cell 5 rfl
    have c6 := hC.cell 6 rfl
    have c7 := hC.cell 7 rfl
    clear hC
    go_enter Tryz.func58, Tryz.ntmps58
    go_wp2_with fail
    refine (unhide CO W).mono ?_
    rintro e w1 ⟨rfl, hb1⟩
    have hT := hb.trans (hb1.mono hb.size)
    clear c0 c1 c2 c3 c4 c5 c6 c7
    go_wp2
    go_ret2
    exact ⟨rfl, hT⟩
  | true =>
    have E : ttB x = thT x := by unfold ttB; rw [if_pos hok]
    have hO := (thOk_iff x).1 hok
    rw [E, thT_is hO]
    rw [hok] at CO
    have hfl : ((fl x : Nat) : Int) = flI x.hid 1 + flI x.fix 2 + flI x.sgn 4 + flI x.wrp 8 := by
      obtain ⟨_, _, h, f, s, ww, _, _⟩ := x
      cases h <;> cases f <;> cases s <;> cases ww <;> rfl
    have hvz : x.val.size ≤ 100 := by
      obtain ⟨i1, i2, k1, k2, n1, n2, _, _, hv3, hv2⟩ := hO
      by_cases e : x.kind = 3
      · exact hv3 e
      · have := hv2 e; omega
    have hi0 : x.id = ((x.id.toNat : Nat) : Int) := by omega
    have hn0 : x.nxt = ((x.nxt.toNat : Nat) : Int) := by omega
    have V1 := hide (fun W => l01Var_any x.id.toNat W (by omega))
    have V2 := hide (fun W => l01Var_any x.nxt.toNat W (by omega))
    have CS := hide (fun W => l19Short_any x.val (by omega) W)
    have CY := hide (fun z W => specByteY_any z W)
    have CF := hide (fun b n W => l19Flag_any b n W)
    have z1 : (⟨(varB x.id.toNat).toArray⟩ : ByteArray).size ≤ 3 := by
      show (varB x.id.toNat).toArray.size ≤ 3
      rw [List.size_toArray]; exact varB_len9 (by omega)
    have z2 : (⟨(varB x.nxt.toNat).toArray⟩ : ByteArray).size ≤ 3 := by
      show (varB x.nxt.toNat).toArray.size ≤ 3
      rw [List.size_toArray]; exact varB_len9 (by omega)
    have z3 : (shB x.val).size ≤ 200 := by
      have : (⟨(varB x.val.size).toArray⟩ : ByteArray).size ≤ 3 := by
        show (varB x.val.size).toArray.size ≤ 3
        rw [List.size_toArray]; exact varB_len9 (by omega)
      unfold shB
      rw [ByteArray.size_append]; omega
    have z4 := oneY_size9
    rw [← hi0] at V1
    rw [← hn0] at V2
    rw [hfl]
    have fb : ∀ b n, (0 : Int) ≤ n → 0 ≤ flI b n ∧ flI b n ≤ n := fun b n h => by cases b <;> simp [flI, h]
    have fb1 := fb x.hid 1 (by omega)
    have fb2 := fb x.fix 2 (by omega)
    have fb4 := fb x.sgn 4 (by omega)
    have fb8 := fb x.wrp 8 (by omega)
    clear hok E hO hfl hvz hi0 hn0 fb
    obtain ⟨id, kind, hid, fix, sgn, wrp, val, nxt⟩ := x
    unfold thC at CO ⊢
    simp only at V1 V2 CS z1 z2 z3 fb1 fb2 fb4 fb8 ⊢
    generalize (⟨(varB id.toNat).toArray⟩ : ByteArray) = t1 at *
    generalize (⟨(varB nxt.toNat).toArray⟩ : ByteArray) = t2 at *
    generalize shB val = t3 at *
    generalize hf1 : flI hid 1 = f1 at *
    generalize hf2 : flI fix 2 = f2 at *
    generalize hf4 : flI sgn 4 = f4 at *
    generalize hf8 : flI wrp 8 = f8 at *
    obtain ⟨g1, hg⟩ : ∃ g, g = f1 + f2 := ⟨_, rfl⟩
    obtain ⟨g2, hg2⟩ : ∃ g, g = g1 + f4 := ⟨_, rfl⟩
    obtain ⟨g3, hg3⟩ : ∃ g, g = g2 + f8 := ⟨_, rfl⟩
    have u1 : IntKind.i64.wrap (f1 + f2) = g1 := by rw [IntKind.wrap_i64]; omega
    have u2 : IntKind.i64.wrap (g1 + f4) = g2 := by rw [IntKind.wrap_i64]; omega
    have u3 : IntKind.i64.wrap (g2 + f8) = g3 := by rw [IntKind.wrap_i64]; omega
    rw [show f1 + f2 + f4 + f8 = g3 by omega]
    have zk := oneY_size9 kind
    have zg := oneY_size9 g3
    have y1 := hide (fun W => unhide CY kind W)
    have y2 := hide (fun W => unhide CY g3 W)
    obtain ⟨R, hR⟩ : ∃ R, R = t1 ++ oneY kind ++ oneY g3 ++ t3 ++ t2 := ⟨_, rfl⟩
    rw [← hR]
    generalize oneY kind = yk at *
    generalize oneY g3 = yg at *
    have zk' : yk.size ≤ 1 := by omega
    have zg' : yg.size ≤ 1 := by omega
    have s1 : ∀ W : World, (Op.stringOp .add t1 yk).run Tryz.prog W = .ok (.string (t1 ++ yk)) W := fun W => run_string_add_sum W _ _ (by omega)
    have s2 : ∀ W : World, (Op.stringOp .add (t1 ++ yk) yg).run Tryz.prog W = .ok (.string (t1 ++ yk ++ yg)) W := fun W => run_string_add_sum W _ _ (by rw [ByteArray.size_append]; omega)
    have s3 : ∀ W : World, (Op.stringOp .add (t1 ++ yk ++ yg) t3).run Tryz.prog W = .ok (.string (t1 ++ yk ++ yg ++ t3)) W := fun W => run_string_add_sum W _ _ (by rw [ByteArray.size_append, ByteArray.size_append]; omega)
    have s4 : ∀ W : World, (Op.stringOp .add (t1 ++ yk ++ yg ++ t3) t2).run Tryz.prog W = .ok (.string (t1 ++ yk ++ yg ++ t3 ++ t2)) W := fun W => run_string_add_sum W _ _ (by rw [ByteArray.size_append, ByteArray.size_append, ByteArray.size_append]; omega)
    replace zk := hide zk; replace zg := hide zg; replace hR := hide hR; replace CY := hide CY; clear z4 CY
    have q1 := hide (fun W => unhide CF hid 1 W)
    have q2 := hide (fun W => unhide CF fix 2 W)
    have q4 := hide (fun W => unhide CF sgn 4 W)
    have q8 := hide (fun W => unhide CF wrp 8 W)
    rw [hf1] at q1
    rw [hf2] at q2
    rw [hf4] at q4
    rw [hf8] at q8
    replace hf1 := hide hf1; replace hf2 := hide hf2; replace hf4 := hide hf4; replace hf8 := hide hf8
    replace hg := hide hg; replace hg2 := hide hg2; replace hg3 := hide hg3
    obtain ⟨W, hW, hC, hb, hlt⟩ := one_cb w #[.int .i64 id, .int .i64 kind, .bool hid, .bool fix, .bool sgn, .bool wrp, .string val, .int .i64 nxt] 48
    have c0 := hC.cell 0 rfl
    have c1 := hC.cell 1 rfl
    have c2 := hC.cell 2 rfl
    have c3 := hC.cell 3 rfl
    have c4 := hC.cell 4 rfl
    have c5 := hC.cell 5 rfl
    have c6 := hC.cell 6 rfl
    have c7 := hC.cell 7 rfl
    go_enter Tryz.func58, Tryz.ntmps58
    go_wp2_with fail
    refine (unhide CO W).mono ?_
    rintro e w1 ⟨rfl, hb1⟩
    have hT := hb.trans (hb1.mono hb.size)
    have hC1 := hC.below hb1 hlt
    have d0 := hC1.cell 0 rfl
    have d1 := hC1.cell 1 rfl
    have d2 := hC1.cell 2 rfl
    have d3 := hC1.cell 3 rfl
    have d4 := hC1.cell 4 rfl
    have d5 := hC1.cell 5 rfl
    have d6 := hC1.cell 6 rfl
    have d7 := hC1.cell 7 rfl
    have hg1 : w.heap.size < w1.heap.size := Nat.lt_of_lt_of_le hlt hb1.size
    clear c0 c1 c2 c3 c4 c5 c6 c7 hC hC1 hb1 hb CO
    go_wp2
    go_quiet ((first | (go_at_call 86; exact Calls.quiet_of_same (unhide q1 _)) | (go_at_call 86; exact Calls.quiet_of_same (unhide q2 _)) | (go_at_call 86; exact Calls.quiet_of_same (unhide q4 _)) | (go_at_call 86; exact Calls.quiet_of_same (unhide q8 _))))
    have KS := hide (fun (W' : World) (h : Below w1.heap.size w1 W') => (⟨(h.cell (p := ⟨w.heap.size, 0, none⟩) hg1).trans d0, (h.cell (p := ⟨w.heap.size, 1, none⟩) hg1).trans d1, (h.cell (p := ⟨w.heap.size, 6, none⟩) hg1).trans d6, (h.cell (p := ⟨w.heap.size, 7, none⟩) hg1).trans d7⟩ : W'.cell? ⟨w.heap.size, 0, none⟩ = some (.int .i64 id) ∧ W'.cell? ⟨w.heap.size, 1, none⟩ = some (.int .i64 kind) ∧ W'.cell? ⟨w.heap.size, 6, none⟩ = some (.string val) ∧ W'.cell? ⟨w.heap.size, 7, none⟩ = some (.int .i64 nxt)))
    have hB0 := Below.refl w1.heap.size w1
    go_wp2
    go_region_held3 (fun W' => W'.cell? ⟨w.heap.size, 0, none⟩ = some (.int .i64 id) ∧ W'.cell? ⟨w.heap.size, 1, none⟩ = some (.int .i64 kind) ∧ W'.cell? ⟨w.heap.size, 6, none⟩ = some (.string val) ∧ W'.cell? ⟨w.heap.size, 7, none⟩ = some (.int .i64 nxt)) (first | exact ⟨d0, d1, d6, d7⟩ | exact (unhide KS) _ hB5 | exact (unhide KS) _ hB4 | exact (unhide KS) _ hB3 | exact (unhide KS) _ hB2 | exact (unhide KS) _ hB1 | fail) (first
      | (go_at_call 57; have hB4' := hB4; refine ((unhide V2) _).mono ?_; rintro e w6 ⟨rfl, hb5⟩; have hB5 : Below w1.heap.size w1 w6 := hB4.trans (hb5.mono hB4.size))
      | (go_at_call 57; refine ((unhide V1) _).mono ?_; rintro e w2 ⟨rfl, hb1⟩; have hB1 : Below w1.heap.size w1 w2 := (bDN hB0 _).drew.trans (hb1.mono (by exact Nat.le_refl _)))
      | (go_at_call 87; have hB2' := hB2; refine ((unhide y2) _).mono ?_; rintro e w4 ⟨rfl, hb3⟩; have hB3 : Below w1.heap.size w1 w4 := hB2.trans (hb3.mono hB2.size))
      | (go_at_call 87; refine ((unhide y1) _).mono ?_; rintro e w3 ⟨rfl, hb2⟩; have hB2 : Below w1.heap.size w1 w3 := hB1.trans (hb2.mono hB1.size))
      | (go_at_call 88; refine ((unhide CS) _).mono ?_; rintro e w5 ⟨rfl, hb4⟩; have hB4 : Below w1.heap.size w1 w5 := hB3.trans (hb4.mono hB3.size))
      | fail)
    all_goals
      have hF := hT.trans (hB5.mono hT.size)
      clear hb1 hb2 hb3 hb4 hb5 hB1 hB2 hB3 hB4 hB5 KS d0 d1 d2 d3 d4 d5 d6 d7
      go_wp2
      go_ret2
      exact ⟨by rw [unhide hR]; rfl, hF⟩
end Go.Proofs.YtkbbcjnickgfjabGreat

