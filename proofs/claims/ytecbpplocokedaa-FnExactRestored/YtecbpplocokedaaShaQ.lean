/- A text ends, by spec, over the loaded program. -/
import Derived.Test.YtecbpplocokedaaShaP
import Derived.Test.YtecbpplocokedaaMrk
namespace Go.Proofs.Ytecbpplocokedaa
open Go.RowKit
def bigL (x m : Nat) : List UInt8 := (List.range m).map fun j => byteOf (x / 256 ^ (7 - j) % 256)
theorem bigL_succ (x m : Nat) : bigL x (m + 1) = bigL x m ++ [byteOf (x / 256 ^ (7 - m) % 256)] := by
  unfold bigL; rw [List.range_succ, List.map_append]; rfl
theorem bigL_len (x m : Nat) : (bigL x m).length = m := by simp [bigL]
theorem bigL_all (x : Nat) : bigL x 8 = bytesW (x / 4294967296) ++ bytesW (x % 4294967296) := by
  show [byteOf (x / 72057594037927936 % 256), byteOf (x / 281474976710656 % 256), byteOf (x / 1099511627776 % 256), byteOf (x / 4294967296 % 256), byteOf (x / 16777216 % 256), byteOf (x / 65536 % 256), byteOf (x / 256 % 256), byteOf (x / 1 % 256)] = [byteOf (x / 4294967296 / 16777216 % 256), byteOf (x / 4294967296 / 65536 % 256), byteOf (x / 4294967296 / 256 % 256), byteOf (x / 4294967296 % 256), byteOf (x % 4294967296 / 16777216 % 256), byteOf (x % 4294967296 / 65536 % 256), byteOf (x % 4294967296 / 256 % 256), byteOf (x % 4294967296 % 256)]
  rw [show x / 72057594037927936 % 256 = x / 4294967296 / 16777216 % 256 by omega, show x / 281474976710656 % 256 = x / 4294967296 / 65536 % 256 by omega, show x / 1099511627776 % 256 = x / 4294967296 / 256 % 256 by omega, show x / 16777216 % 256 = x % 4294967296 / 16777216 % 256 by omega, show x / 65536 % 256 = x % 4294967296 / 65536 % 256 by omega, show x / 256 % 256 = x % 4294967296 / 256 % 256 by omega, show x / 1 % 256 = x % 4294967296 % 256 by omega]
theorem endL_big (n : Nat) : endL n = ([byteOf 128] ++ List.replicate (zerosB n) 0) ++ bigL (8 * n) 8 := by
  rw [bigL_all]; unfold endL; rw [List.append_assoc]
theorem slice_text (T : ByteArray) (g n c i j : Nat) {base : Nat} (w : World) (h : MB w base 5 (.slice (some ⟨g, 0, none⟩) n c) T.data.toList) (h1 : i ≤ j) (h2 : j ≤ T.size) : (convert 22 9 (.slice (some ⟨g, i, none⟩) (j - i) (c - i))).run Try.prog w = .ok (.string (T.extract i j)) w := by
  have hl : (T.extract i j).data.toList.length = j - i := by
    show (T.extract i j).size = _
    rw [ByteArray.size_extract]; omega
  have := run_convert_bytes_back (P := Try.prog) w 22 9 5 ⟨g, i, none⟩ (c - i) (T.extract i j).data.toList Try.underlying22 Try.underlying5 Try.underlying9 (fun k hk => by
    have hadd : (⟨g, i, none⟩ : Addr).add k = ⟨g, i + k, none⟩ := by unfold Addr.add; split <;> simp_all
    rw [hadd]
    have e1 : (T.extract i j).data.toList[k]? = T.data.toList[i + k]? := by
      rw [ByteArray.data_extract, Array.toList_extract]
      simp only [List.extract]
      rw [List.getElem?_take_of_lt (by rw [hl] at hk; exact hk), List.getElem?_drop]
    exact h.cell (by rw [← e1, List.getElem?_eq_getElem hk]))
  rw [hl] at this
  exact this
set_option maxRecDepth 20000 in
set_option maxHeartbeats 400000 in
theorem specEnd_yes (a : Hs) (w : World) (h1 : a.st.size ≤ maxLen) (h2 : a.rs.size ≤ 4000000) (hok : okH a = true) :
    Calls Try.prog 53 #[hsv a] w fun e w' => e = .returned (.string (endV (stOf a.st) a.rs a.ct.toNat)) ∧ Below w.heap.size w w' := by
  have CO := hide (fun W => specOk_any a W h1 (by unfold maxLen; omega))
  obtain ⟨i0, hi, hz0, hz1, hz2⟩ := info_parts Try.infoByte
  obtain ⟨q1, q2, q3, q4⟩ := okH_yes hok
  rw [hok] at CO
  obtain ⟨st, rs, ct⟩ := a
  dsimp only at *
  obtain ⟨m, rfl⟩ : ∃ m : Nat, ct = (m : Int) := ⟨ct.toNat, by omega⟩
  rw [show ((m : Int)).toNat = m from rfl]
  have C1 := hide (fun W => specWords_any st 8 q1 (by decide) W)
  have hm : m ≤ 1000000000 := by omega
  have hrm : m % 64 = rs.size := by omega
  unfold hsv at CO ⊢
  dsimp only at CO ⊢
  clear q1 q2 q3 q4 h1 h2 hok
  go_enter Try.func53, Try.ntmps53
  go_wp2_with fail
  obtain ⟨W, hW, hB, hb, hlt⟩ := one_hash w ⟨st, rs, (m : Int)⟩ 74
  dsimp only at hW
  rw [hW]
  clear hW
  refine ((unhide CO) W).mono ?_
  rintro e w1 ⟨rfl, hb1⟩
  have hB1 := hB.step hb1
  have k0 := hB1.c0
  have k1 := hB1.c1
  have k2 := hB1.c2
  dsimp only at k0 k1 k2
  have hl1 := hB1.lt
  have HT1 := hide (hb.trans (hb1.mono (Nat.le_of_lt hlt)))
  replace hB1 := hide hB1
  clear hB hb hb1
  have hconv := Lib.run_convert_string_bytes (P := Try.prog) w1 9 22 5 rs Try.underlying9 Try.underlying22 Try.underlying5
  have hmb := hide (bytes_mb w1 5 rs)
  have hb2 := bytes_below2 w1 5 rs
  have hsz2 : w1.heap.size ≤ (Lib.bytesWorld w1 5 rs).heap.size := hb2.size
  generalize grownCap w1 rs.size 0 5 = cp at *
  generalize Lib.bytesWorld w1 5 rs = w2 at *
  have hln : rs.data.toList.length + 1 ≤ 140737488355328 := by have : rs.data.toList.length = rs.size := rfl; omega
  go_wp2_with (at_builtin; refine wpList_append_mark (w := w2) rfl (.tmp 17) (.tmp 18) 22 rfl w1.heap.size w1.heap.size i0 (.int .u8 0) Try.underlying22 hi hz0 hz1 hz2 rfl _ rs.data.toList rfl (unhide hmb) (byteOf 128) (by decide) rfl hln (Nat.le_refl _) hsz2 hb2 ?_; intro v3 w3 hmb3 hb3)
  replace hmb3 := hide hmb3
  clear hmb hb2 hsz2 hconv hln k1
  have hzl : zerosB m ≤ 63 := by unfold zerosB; omega
  have hze : (rs.size + 1 + zerosB m) % 64 = 56 := by unfold zerosB; omega
  have hzn : ∀ z, z < zerosB m → (rs.size + 1 + z) % 64 ≠ 56 := by intro z hz; unfold zerosB at hz; omega
  have hr64 : rs.size < 64 := by omega
  replace hrm := hide hrm
  have hrl : rs.data.toList.length = rs.size := rfl
  obtain ⟨zz, hzz⟩ : ∃ z, z = zerosB m := ⟨_, rfl⟩
  rw [← hzz] at hzl hze hzn
  go_loopw [3] (fun tv wq => ∃ z : Nat, z ≤ zz ∧ Hid (MB wq w1.heap.size 5 tv ((rs.data.toList ++ [byteOf 128]) ++ List.replicate z 0)) ∧ Below w1.heap.size w1 wq) (fun tv _ => match tv with | .slice _ n _ => rs.size + 1 + zz - n | _ => 0)
  case atStart => exact ⟨0, by omega, by rw [List.replicate_zero, List.append_nil]; exact hmb3, hb3⟩
  case round =>
    clear hmb3 hb3
    obtain ⟨z, hz, HM, hb⟩ := hrel
    have hll : ((rs.data.toList ++ [byteOf 128]) ++ List.replicate z 0).length = rs.size + 1 + z := by simp only [List.length_append, List.length_replicate, List.length_singleton, hrl]
    obtain ⟨g, c, hsh, hg1, hg2, hgc⟩ := (unhide HM).shape
    rw [hll] at hsh
    obtain ⟨n, hn⟩ : ∃ n, n = rs.size + 1 + z := ⟨_, rfl⟩
    rw [← hn] at hsh hll
    subst hsh
    have hnb : n ≤ 200 := by omega
    have et : ((n : Int)).tmod 64 = ((n % 64 : Nat) : Int) := by rw [Int.tmod_eq_emod_of_nonneg (by omega)]; omega
    have et2 : ((n : Int)) % 64 = ((n % 64 : Nat) : Int) := by omega
    have hsz := hb.size
    by_cases hlt : z < zz
    · have hne : ¬ (((n % 64 : Nat) : Int) = 56) := by have := hzn z hlt; rw [← hn] at this; omega
      have hlen : (rs.data.toList ++ [byteOf 128] ++ List.replicate z 0).length + 1 ≤ 140737488355328 := by rw [hll]; omega
      replace hn := hide hn
      generalize n % 64 = r at *
      clear hze hzn hg1 hg2 hgc
      go_wp2_with (at_builtin; refine wpList_append_mark (w := wr) rfl (.tmp 24) (.tmp 25) 22 rfl w1.heap.size w1.heap.size i0 (.int .u8 0) Try.underlying22 hi hz0 hz1 hz2 rfl _ _ rfl (unhide HM) 0 (by decide) rfl hlen (Nat.le_refl _) hsz hb ?_; intro v4 w4 hmb4 hb4)
      rw [List.append_assoc, ← List.replicate_succ'] at hmb4
      obtain ⟨g4, c4, hsh4, _⟩ := hmb4.shape
      have hl5 : (rs.data.toList ++ [byteOf 128] ++ List.replicate (z + 1) (0 : UInt8)).length = rs.size + 1 + (z + 1) := by simp only [List.length_append, List.length_replicate, List.length_singleton, hrl]
      rw [hl5] at hsh4
      subst hsh4
      replace hmb4 := hide hmb4
      clear HM
      go_roundw
      case rel => exact ⟨z + 1, by omega, hmb4, hb4⟩
      case measure => have := unhide hn; simp; omega
    · obtain rfl : z = zz := by omega
      have h56 : n % 64 = 56 := by rw [hn]; exact hze
      rw [h56] at et et2
      have hz56 := hide hze
      clear hze hzn hg1 hg2 hgc h56
      have ek2 := hb.cell (p := ⟨w.heap.size, 2, none⟩) hl1
      rw [k2] at ek2
      obtain ⟨N8, hN8⟩ : ∃ x, x = 8 * m := ⟨_, rfl⟩
      have e8 : IntKind.i64.wrap (8 * (m : Int)) = (N8 : Int) := by rw [IntKind.wrap_i64]; omega
      have hNb : N8 ≤ 8000000000 := by omega
      have HE := hide (show rs.data.toList ++ [byteOf 128] ++ List.replicate z 0 ++ bigL N8 8 = rs.data.toList ++ endL m by rw [endL_big, hN8, hzz, List.append_assoc, List.append_assoc, List.append_assoc])
      have hpl : (rs.data.toList ++ [byteOf 128] ++ List.replicate z (0 : UInt8)).length ≤ 200 := by rw [hll]; exact hnb
      replace HM := hide (show MB wr w1.heap.size 5 (.slice (some ⟨g, 0, none⟩) n c) ((rs.data.toList ++ [byteOf 128] ++ List.replicate z 0) ++ bigL N8 0) by rw [show bigL N8 0 = [] from rfl, List.append_nil]; exact unhide HM)
      generalize rs.data.toList ++ [byteOf 128] ++ List.replicate z (0 : UInt8) = pre at *
      replace hn := hide hn
      replace hN8 := hide hN8
      replace hzz := hide hzz
      go_wp2
      go_loopw [3, 5] (fun tv ti wq => ∃ p : Nat, p ≤ 8 ∧ ti = .int .i64 ((7 : Int) - (p : Int)) ∧ Hid (MB wq w1.heap.size 5 tv (pre ++ bigL N8 p)) ∧ Below w1.heap.size w1 wq) (fun _ ti _ => (intOf ti + 1).toNat)
      case atStart => exact ⟨0, by omega, rfl, HM, hb⟩
      case round =>
        clear HM hb hsz
        obtain ⟨p, hp, rfl, HM, hb⟩ := hrel
        have hsz := hb.size
        by_cases hlt : p < 8
        · obtain ⟨j, hj⟩ : ∃ j, j + p = 7 := ⟨7 - p, by omega⟩
          rw [show (7 : Int) - (p : Int) = (j : Int) by omega]
          have hj0 : (0 : Int) ≤ (j : Int) := by omega
          have hjb : j ≤ 7 := by omega
          have hlen : (pre ++ bigL N8 p).length + 1 ≤ 140737488355328 := by rw [List.length_append, bigL_len]; omega
          have HS := hide (bigL_succ N8 p)
          rw [show 7 - p = j by omega] at HS
          replace hlen := hide hlen
          replace hj := hide hj
          obtain ⟨W7, hW7⟩ : ∃ W, W = wr := ⟨_, rfl⟩
          subst hW7
          go_wp2
          go_loopw [6, 7] (fun tx tk wq => wq = W7 ∧ ∃ q : Nat, q ≤ j ∧ tk = .int .i64 (q : Int) ∧ tx = .int .i64 ((N8 / 256 ^ q : Nat) : Int)) (fun _ tk _ => j - (intOf tk).toNat)
          case atStart => exact ⟨rfl, 0, by omega, rfl, by rw [Nat.pow_zero, Nat.div_one]⟩
          case round =>
            obtain ⟨rfl, q, hq, rfl, rfl⟩ := hrel
            by_cases hqj : q < j
            · have hq1 : (q : Int) < (j : Int) := by omega
              have ep := hide (show N8 / 256 ^ (q + 1) = N8 / 256 ^ q / 256 by rw [Nat.pow_succ, Nat.div_div_eq_div_mul])
              have hyb : N8 / 256 ^ q ≤ 8000000000 := Nat.le_trans (Nat.div_le_self _ _) hNb
              generalize N8 / 256 ^ q = y at *
              have ed : ((y : Int)).tdiv 256 = ((y / 256 : Nat) : Int) := by rw [Int.tdiv_eq_ediv_of_nonneg (by omega)]; omega
              have ed2 : ((y : Int)) / 256 = ((y / 256 : Nat) : Int) := by omega
              generalize y / 256 = y2 at *
              have ew : IntKind.i64.wrap (y2 : Int) = (y2 : Int) := by rw [IntKind.wrap_i64]; omega
              go_wp2
              go_roundw
              case rel => exact ⟨by first | rfl | trivial, q + 1, by omega, by go_num, by rw [unhide ep]⟩
              case measure => simp [intOf]; omega
            · obtain rfl : q = j := by omega
              have hq1 : ¬ (q : Int) < (q : Int) := by omega
              have hyb : N8 / 256 ^ q ≤ 8000000000 := Nat.le_trans (Nat.div_le_self _ _) hNb
              generalize N8 / 256 ^ q = y at *
              have ed : ((y : Int)).tmod 256 = ((y % 256 : Nat) : Int) := by rw [Int.tmod_eq_emod_of_nonneg (by omega)]; omega
              have ed2 : ((y : Int)) % 256 = ((y % 256 : Nat) : Int) := by omega
              have ey : y % 256 < 256 := by omega
              generalize y % 256 = y2 at *
              have ew : IntKind.i64.wrap (y2 : Int) = (y2 : Int) := by rw [IntKind.wrap_i64]; omega
              have ew2 : IntKind.u8.wrap (y2 : Int) = (y2 : Int) := by rw [IntKind.wrap_u8]; omega
              have eb : (y2 : Int) = ((byteOf y2).toNat : Int) := by rw [byteOf_toNat ey]
              replace eb := hide eb
              go_wp2_with (at_builtin; refine wpList_append_mark (w := wr) rfl (.tmp 42) (.tmp 46) 22 rfl w1.heap.size w1.heap.size i0 (.int .u8 0) Try.underlying22 hi hz0 hz1 hz2 rfl _ _ rfl (unhide HM) (byteOf y2) (unhide eb) rfl (unhide hlen) (Nat.le_refl _) hsz hb ?_; intro v4 w4 hmb4 hb4)
              rw [List.append_assoc, ← unhide HS] at hmb4
              replace hmb4 := hide hmb4
              clear HM ed ed2 ew ew2
              go_roundw
              case rel => exact ⟨p + 1, by omega, by have := unhide hj; go_num, hmb4, hb4⟩
              case measure => have := unhide hj; simp [intOf] <;> omega
        · obtain rfl : p = 8 := by omega
          have h70 : ¬ (0 : Int) ≤ 7 - ((8 : Nat) : Int) := by omega
          rw [unhide HE] at HM
          obtain ⟨T, hT⟩ : ∃ T, T = endT rs m := ⟨_, rfl⟩
          have hTl : T.data.toList = rs.data.toList ++ endL m := by rw [hT]; unfold endT; rw [ByteArray.data_append, Array.toList_append]
          rw [← hTl] at HM
          obtain ⟨gt, ct, hsh, _, hgt, hct⟩ := (unhide HM).shape
          rw [show T.data.toList.length = T.size from rfl] at hsh hct
          subst hsh
          have hTs : T.size = n + 8 := by
            have e1 : T.data.toList.length = pre.length + 8 := by rw [hTl, ← unhide HE, List.length_append, bigL_len]
            rw [hll] at e1
            exact e1
          have hT64 : T.size % 64 = 0 := by
            have e1 := unhide hn
            have e2 := unhide hz56
            omega
          have hTb : T.size ≤ 1000 := by omega
          replace hTs := hide hTs
          have ek0 := hb.cell (p := ⟨w.heap.size, 0, none⟩) hl1
          rw [k0] at ek0
          replace hT := hide hT
          clear hTl HE hll
          go_wp2_with fail
          refine ((unhide C1) wr).mono ?_
          rintro e w4 ⟨⟨a8, c8, rfl, hown4⟩, hb4⟩
          obtain ⟨g8, rfl, hg81, hg82⟩ := hown4.some_at (by omega)
          replace hown4 := hide hown4
          have hs4 := hb4.size
          go_wp2_with fail
          refine (specK_any w4).mono ?_
          rintro e w5 ⟨⟨a9, c9, rfl, hown5⟩, hb5⟩
          obtain ⟨g9, rfl, hg91, hg92⟩ := hown5.some_at (by omega)
          have HK := hide (hown5.low (base' := w1.heap.size) (by omega))
          have HS5 := hide (((unhide hown4).low (base' := w1.heap.size) (by omega)).below hb5)
          have HM5 := hide (((unhide HM).below hb4).below hb5)
          have hb6 := (hb.trans (hb4.mono hsz)).trans (hb5.mono (by omega))
          have hs5 := hb6.size
          clear hown5 hown4 HM hb hb4 hb5 ek0
          go_wp2_with fail
          go_loopw [8, 10] (fun tv ti wq => ∃ q : Nat, 64 * q ≤ T.size ∧ ti = .int .i64 ((64 * q : Nat) : Int) ∧ (∃ g c, tv = .slice (some ⟨g, 0, none⟩) 8 c ∧ Hid (OwnV wq w1.heap.size 65 (.slice (some ⟨g, 0, none⟩) 8 c) ((blocksW (stOf st) T 0 q).toL.map u32v))) ∧ Below w5.heap.size w5 wq) (fun _ ti _ => T.size - (intOf ti).toNat)
          case atStart => exact ⟨0, by omega, rfl, ⟨g8, c8, rfl, HS5⟩, Below.refl _ _⟩
          case round =>
            clear HS5
            obtain ⟨q, hq, rfl, ⟨g', c', rfl, HS⟩, hb⟩ := hrel
            obtain ⟨i, hi6⟩ : ∃ i, i = 64 * q := ⟨_, rfl⟩
            rw [← hi6] at hq ⊢
            have hib : i ≤ 1000 := by omega
            obtain ⟨j, hj⟩ : ∃ j, j = i + 64 := ⟨_, rfl⟩
            have ei : IntKind.i64.wrap ((i : Int) + 64) = (j : Int) := by rw [IntKind.wrap_i64]; omega
            have hsz6 := hb.size
            by_cases hlt : i < T.size
            · have hlt' : (i : Int) < (T.size : Int) := by omega
              have hjT : j ≤ T.size := by omega
              have hjc : (j : Int) ≤ (ct : Int) := by omega
              have hij : (i : Int) ≤ (j : Int) := by omega
              have hxs : (T.extract i j).size = 64 := by rw [ByteArray.size_extract]; omega
              have HSt := hide (show blocksW (stOf st) T 0 (q + 1) = roundW (blocksW (stOf st) T 0 q) (T.extract i j) by rw [hj, hi6]; simp only [blocksW, Nat.zero_add])
              have hOk := blocksW_ok (stOf_ok st) T 0 q
              have hKq := hide ((unhide HK).below hb)
              have hcv := slice_text T gt T.size ct i j wr ((unhide HM5).below hb) (by omega) hjT
              rw [show j - i = 64 by omega] at hcv
              generalize T.extract i j = blk at *
              have C5 := hide (specRound_any (blocksW (stOf st) T 0 q) hOk blk hxs g' c' g9 c9 w1.heap.size wr (unhide HS) (unhide hKq))
              replace hi6 := hide hi6
              clear hOk HS hKq hxs hq
              go_wp2_with fail
              refine (unhide C5).mono ?_
              rintro e w7 ⟨⟨g4, c4, rfl, hown7⟩, hb7⟩
              have hown8 := hide (hown7.low (base' := w1.heap.size) (by omega))
              rw [← unhide HSt] at hown8
              have hb8 := hb.trans (hb7.mono hsz6)
              clear hown7 hb7 C5 hcv
              go_wp2
              go_roundw
              case rel => exact ⟨q + 1, by have := unhide hi6; omega, by have := unhide hi6; go_num, ⟨_, _, rfl, hown8⟩, hb8⟩
              case measure => have := unhide hi6; simp [intOf]; omega
            · have hlt' : ¬ (i : Int) < (T.size : Int) := by omega
              have hqe : q = T.size / 64 := by omega
              have HF : Hid (endV (stOf st) rs m = (blocksW (stOf st) T 0 q).text) := hide (by unfold endV; rw [← unhide hT, hqe])
              have hOk := blocksW_ok (stOf_ok st) T 0 q
              have C6 := hide (specBytes_any (blocksW (stOf st) T 0 q).toL (toL_small hOk) (by show 8 ≤ 1000; omega) _ w1.heap.size wr (unhide HS))
              have hbf := (unhide HT1).trans ((hb6.trans (hb.mono hs5)).mono (Nat.le_of_lt hl1))
              replace hi6 := hide hi6
              replace hqe := hide hqe
              clear hb HS hOk
              go_wp2_with fail
              refine (unhide C6).mono ?_
              rintro e w7 ⟨rfl, hb7⟩
              have hbg := hbf.trans (hb7.mono hbf.size)
              clear hb7 hbf
              go_wp2
              go_ret
              exact ⟨by rw [unhide HF]; rfl, hbg⟩
set_option maxRecDepth 20000 in
set_option maxHeartbeats 400000 in
theorem specEnd_any (a : Hs) (w : World) (h1 : a.st.size ≤ maxLen) (h2 : a.rs.size ≤ 4000000) :
    Calls Try.prog 53 #[hsv a] w fun e w' => e = .returned (.string (if okH a = true then endV (stOf a.st) a.rs a.ct.toNat else ⟨#[]⟩)) ∧ Below w.heap.size w w' := by
  by_cases hok : okH a = true
  · rw [if_pos hok]
    exact specEnd_yes a w h1 h2 hok
  · have CO := hide (fun W => specOk_any a W h1 (by unfold maxLen; omega))
    have hok' : okH a = false := by cases h : okH a with | true => exact absurd h hok | false => rfl
    rw [hok'] at CO
    rw [if_neg hok]
    obtain ⟨st, rs, ct⟩ := a
    unfold hsv at CO ⊢
    dsimp only at CO ⊢
    clear h1 h2 hok hok'
    go_enter Try.func53, Try.ntmps53
    go_wp2_with fail
    obtain ⟨W, hW, hB, hb, hlt⟩ := one_hash w ⟨st, rs, ct⟩ 74
    dsimp only at hW
    rw [hW]
    clear hW
    refine ((unhide CO) W).mono ?_
    rintro e w1 ⟨rfl, hb1⟩
    have HT1 := hide (hb.trans (hb1.mono (Nat.le_of_lt hlt)))
    clear hB hb hb1
    go_wp2
    go_ret
    exact ⟨rfl, unhide HT1⟩
theorem word_back (x : Nat) (h : x < 4294967296) : wordN (byteOf (x / 16777216 % 256)).toNat (byteOf (x / 65536 % 256)).toNat (byteOf (x / 256 % 256)).toNat (byteOf (x % 256)).toNat = x := by
  rw [byteOf_toNat (by omega), byteOf_toNat (by omega), byteOf_toNat (by omega), byteOf_toNat (by omega)]
  unfold wordN
  omega
theorem stOf_text {v : V8} (h : v.ok) : stOf v.text = v := by
  obtain ⟨a, b, c, d, e, f, g, k⟩ := v
  obtain ⟨h1, h2, h3, h4, h5, h6, h7, h8⟩ := h
  dsimp only at h1 h2 h3 h4 h5 h6 h7 h8
  have e1 := word_back a h1
  have e2 := word_back b h2
  have e3 := word_back c h3
  have e4 := word_back d h4
  have e5 := word_back e h5
  have e6 := word_back f h6
  have e7 := word_back g h7
  have e8 := word_back k h8
  have t : stOf (V8.mk a b c d e f g k).text = ⟨wordN (byteOf (a / 16777216 % 256)).toNat (byteOf (a / 65536 % 256)).toNat (byteOf (a / 256 % 256)).toNat (byteOf (a % 256)).toNat, wordN (byteOf (b / 16777216 % 256)).toNat (byteOf (b / 65536 % 256)).toNat (byteOf (b / 256 % 256)).toNat (byteOf (b % 256)).toNat, wordN (byteOf (c / 16777216 % 256)).toNat (byteOf (c / 65536 % 256)).toNat (byteOf (c / 256 % 256)).toNat (byteOf (c % 256)).toNat, wordN (byteOf (d / 16777216 % 256)).toNat (byteOf (d / 65536 % 256)).toNat (byteOf (d / 256 % 256)).toNat (byteOf (d % 256)).toNat, wordN (byteOf (e / 16777216 % 256)).toNat (byteOf (e / 65536 % 256)).toNat (byteOf (e / 256 % 256)).toNat (byteOf (e % 256)).toNat, wordN (byteOf (f / 16777216 % 256)).toNat (byteOf (f / 65536 % 256)).toNat (byteOf (f / 256 % 256)).toNat (byteOf (f % 256)).toNat, wordN (byteOf (g / 16777216 % 256)).toNat (byteOf (g / 65536 % 256)).toNat (byteOf (g / 256 % 256)).toNat (byteOf (g % 256)).toNat, wordN (byteOf (k / 16777216 % 256)).toNat (byteOf (k / 65536 % 256)).toNat (byteOf (k / 256 % 256)).toNat (byteOf (k % 256)).toNat⟩ := rfl
  rw [t, e1, e2, e3, e4, e5, e6, e7, e8]
def hNew : Hs := ⟨first8.text, ⟨#[]⟩, 0⟩
def digB (s : ByteArray) : ByteArray := endV (blocksW first8 s 0 (s.size / 64)) (s.extract (64 * (s.size / 64)) s.size) s.size
theorem hNew_ok : okH hNew = true := by
  unfold okH hNew
  rw [V8.text_size]
  decide
theorem moreT_new (s : ByteArray) : moreT hNew s = s := by
  unfold moreT hNew
  apply ByteArray.ext
  rw [ByteArray.data_append]
  show #[] ++ s.data = s.data
  simp
theorem moreH_new (s : ByteArray) : moreH hNew s = ⟨(blocksW first8 s 0 (s.size / 64)).text, s.extract (64 * (s.size / 64)) s.size, (s.size : Int)⟩ := by
  unfold moreH
  rw [moreT_new, show stOf hNew.st = first8 from stOf_text first8_ok, show hNew.ct = 0 from rfl, Int.zero_add]
theorem okH_more {a : Hs} {s : ByteArray} (h : okH a = true) (hc : a.ct + (s.size : Int) ≤ 1000000000) : okH (moreH a s) = true := by
  obtain ⟨q1, q2, q3, q4⟩ := okH_yes h
  unfold okH moreH
  dsimp only
  have hz : ((moreT a s).extract (64 * ((moreT a s).size / 64)) (moreT a s).size).size = (moreT a s).size % 64 := by rw [ByteArray.size_extract]; omega
  have hs : (moreT a s).size = a.rs.size + s.size := by unfold moreT; rw [ByteArray.size_append]
  rw [V8.text_size, hz, hs, decide_eq_true (by omega), decide_eq_true (by omega), decide_eq_true (by omega), decide_eq_true (by omega)]
  rfl
theorem digB_end (s : ByteArray) : endV (stOf (moreH hNew s).st) (moreH hNew s).rs (moreH hNew s).ct.toNat = digB s := by
  rw [moreH_new]
  dsimp only
  rw [stOf_text (blocksW_ok first8_ok s 0 _)]
  rfl
set_option maxRecDepth 20000 in
set_option maxHeartbeats 400000 in
theorem specDigest_any (s : ByteArray) (hs : s.size ≤ 4000000) (w : World) :
    Calls Try.prog 39 #[.string s] w fun e w' => e = .returned (.string (digB s)) ∧ Below w.heap.size w w' := by
  have hc : hNew.ct + (s.size : Int) ≤ 1000000000 := by show (0 : Int) + _ ≤ _; omega
  have C2 := hide (fun W => specMore_yes hNew s W (by rw [show hNew.st.size = 32 from V8.text_size _]; decide) (by decide) hs hNew_ok hc)
  have hz : (moreH hNew s).rs.size ≤ 4000000 := by rw [moreH_new]; dsimp only; rw [ByteArray.size_extract]; omega
  have C3 := hide (fun W => specEnd_yes (moreH hNew s) W (by rw [moreH_new]; dsimp only; rw [V8.text_size]; decide) hz (okH_more hNew_ok hc))
  rw [digB_end] at C3
  clear hc hz
  go_enter Try.func39, Try.ntmps39
  go_wp2_with fail
  refine (specNew_any w).mono ?_
  rintro e w1 ⟨rfl, hb1⟩
  go_wp2_with fail
  refine ((unhide C2) w1).mono ?_
  rintro e w2 ⟨rfl, hb2⟩
  have hb12 := hb1.trans (hb2.mono hb1.size)
  clear hb1 hb2
  go_wp2_with fail
  refine ((unhide C3) w2).mono ?_
  rintro e w3 ⟨rfl, hb3⟩
  have hb13 := hb12.trans (hb3.mono hb12.size)
  clear hb12 hb3
  go_wp2
  go_ret
  exact ⟨rfl, hb13⟩
end Go.Proofs.Ytecbpplocokedaa
