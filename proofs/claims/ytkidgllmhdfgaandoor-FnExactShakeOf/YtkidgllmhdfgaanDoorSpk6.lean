/- A text taken block by block, by the given model, over the loaded program. -/
import Derived.Test.YtkidgllmhdfgaanDoorSpk5
import Derived.Test.YtkidgllmhdfgaanDoorPad
import Derived.Test.YtkidgllmhdfgaanDoorMrk
namespace Go.Proofs.YtkidgllmhdfgaanDoor
open Go.RowKit
theorem MB.frz {w : World} {base g n c : Nat} {e : TypeId} {l : List UInt8} (h : MB w base e (.slice (some ⟨g, 0, none⟩) n c) l) (q : Nat) (hq : q < l.length) : w.frozen? ⟨g, q, none⟩ = false := by
  obtain ⟨g', cap, cur, lo, hi, h1, h2, h3, h4, h5, h6, h7⟩ := h
  simp only [Value.slice.injEq, Option.some.injEq, Addr.mk.injEq] at h1
  obtain ⟨⟨rfl, _⟩, rfl, rfl⟩ := h1
  have := h4 q (by omega)
  simp only [World.frozen?, h3]
  simp
  omega
theorem MB.put {w : World} {base g n c : Nat} {e : TypeId} {l : List UInt8} (h : MB w base e (.slice (some ⟨g, 0, none⟩) n c) l) (q x : Nat) (hx : x < 256) : MB (w.setCell ⟨g, q, none⟩ (.int .u8 (x : Int))) base e (.slice (some ⟨g, 0, none⟩) n c) (l.set q (byteOf x)) := by
  obtain ⟨g', cap, cur, lo, hi, h1, h2, h3, h4, h5, h6, h7⟩ := h
  simp only [Value.slice.injEq, Option.some.injEq, Addr.mk.injEq] at h1
  obtain ⟨⟨rfl, _⟩, rfl, rfl⟩ := h1
  refine ⟨g, c, cur.setIfInBounds q (.int .u8 (x : Int)), lo, hi, by rw [List.length_set], h2, heap_setCell_at w g q cur e _ _ h3, by rw [Array.size_setIfInBounds]; exact h4, by rw [List.length_set]; exact h5, by rw [Array.size_setIfInBounds]; exact h6, ?_⟩
  rw [List.length_set, Array.toList_setIfInBounds, List.take_set, h7, List.map_set]
  simp [bv, byteOf_toNat hx]
theorem MB.drewN {w : World} {base : Nat} {e : TypeId} {v : Value} {l : List UInt8} (h : MB w base e v l) (n : Nat) : MB (w.drewN n) base e v l := h
theorem MB.off {w : World} {base g n c h k : Nat} {e : TypeId} {l : List UInt8} (hM : MB w base e (.slice (some ⟨g, 0, none⟩) n c) l) (v : Value) (hne : g ≠ h) : MB (w.setCell ⟨h, k, none⟩ v) base e (.slice (some ⟨g, 0, none⟩) n c) l :=
  hM.keep (fun q hq => by simp only [Value.ownBlock, Option.some.injEq] at hq; subst hq; exact Below.heap_setCell _ _ _ g hne)
theorem slice_txt (T : ByteArray) (g n c i j : Nat) {base : Nat} (w : World) (h : MB w base 5 (.slice (some ⟨g, 0, none⟩) n c) T.data.toList) (_ : i ≤ j) (_ : j ≤ T.size) : (convert 48 9 (.slice (some ⟨g, i, none⟩) (j - i) (c - i))).run Tryd.prog w = .ok (.string (T.extract i j)) w := by
  have hl : (T.extract i j).data.toList.length = j - i := by
    show (T.extract i j).size = _
    rw [ByteArray.size_extract]; omega
  have := run_convert_bytes_back (P := Tryd.prog) w 48 9 5 ⟨g, i, none⟩ (c - i) (T.extract i j).data.toList Tryd.underlying48 Tryd.underlying5 Tryd.underlying9 (fun k hk => by
    rw [addr_add]
    have e1 : (T.extract i j).data.toList[k]? = T.data.toList[i + k]? := by
      rw [ByteArray.data_extract, Array.toList_extract]
      simp only [List.extract]
      rw [List.getElem?_take_of_lt (by rw [hl] at hk; exact hk), List.getElem?_drop]
    exact h.cell (by rw [← e1, List.getElem?_eq_getElem hk]))
  rw [hl] at this
  exact this
set_option maxRecDepth 20000 in
set_option maxHeartbeats 1000000 in
theorem specAbsorb_any (s : ByteArray) (hs : s.size ≤ 10000000) (m f : Nat) (hm0 : 0 < m) (hm : m ≤ 200) (h8 : m % 8 = 0) (hf : f < 256) (w : World) :
    Calls Tryd.prog 25 #[.string s, .int .i64 (m : Int), .int .u8 (f : Int)] w fun e w' => e = .returned (.string (textN (absorbL s m f))) ∧ Below w.heap.size w w' := by
  obtain ⟨i0, hi, hz0, hz1, hz2⟩ := info_parts Tryd.infoByte
  have hmk25 : ∀ w : World, (Instr.makeSlice 28 (.int .i64 25) (.int .i64 25)).run Tryd.prog w = .ok (.slice (some ⟨w.heap.size, 0, none⟩) 25 25) (w.alloc (.cells (madeCells #[.int .u64 0] 25) 31)) := fun w => run_make_row' (P := Tryd.prog) 28 31 (.int .u64 0) 8 Tryd.underlying28 Tryd.infoLane rfl .i64 .i64 25 (by omega) (by omega) w
  have HO0 : Hid (OwnV (w.alloc (.cells (madeCells #[.int .u64 0] 25) 31)) 0 31 (.slice (some ⟨w.heap.size, 0, none⟩) 25 25) (zeros25.map u64v)) := hide (by
    have := made_own w (.int .u64 0) 25 31 (by unfold maxLen; omega) (fun i => by rw [Nat.mod_one]; rfl)
    rw [zero_lan] at this
    exact this.low (Nat.zero_le _))
  have hbA := (Below.refl w.heap.size w).alloc (Nat.le_refl _) (.cells (madeCells #[.int .u64 0] 25) 31)
  have hsA : (w.alloc (.cells (madeCells #[.int .u64 0] 25) 31)).heap.size = w.heap.size + 1 := by simp
  have hconv := Lib.run_convert_string_bytes (P := Tryd.prog) (w.alloc (.cells (madeCells #[.int .u64 0] 25) 31)) 9 48 5 s Tryd.underlying9 Tryd.underlying48 Tryd.underlying5
  have hmb := bytes_mb (w.alloc (.cells (madeCells #[.int .u64 0] 25) 31)) 5 s
  have hbB := bytes_below2 (w.alloc (.cells (madeCells #[.int .u64 0] 25) 31)) 5 s
  rw [hsA] at hmb hbB hconv
  have HO1 := hide ((unhide HO0).below (by rw [hsA]; exact hbB))
  have hb2 := hbA.trans (hbB.mono (Nat.le_succ _))
  have hsz2 : w.heap.size + 1 ≤ (Lib.bytesWorld (w.alloc (.cells (madeCells #[.int .u64 0] 25) 31)) 5 s).heap.size := by have := hbB.size; omega
  generalize grownCap (w.alloc (.cells (madeCells #[.int .u64 0] 25) 31)) s.size 0 5 = cp at *
  generalize Lib.bytesWorld (w.alloc (.cells (madeCells #[.int .u64 0] 25) 31)) 5 s = w2 at *
  have hln : s.data.toList.length + 1 ≤ 140737488355328 := by have : s.data.toList.length = s.size := rfl; omega
  replace hmb := hide hmb
  have hff : Hid ((f : Int) = ((byteOf f).toNat : Int)) := hide (by rw [byteOf_toNat hf])
  clear hbA hbB HO0
  go_enter Tryd.func25, Tryd.ntmps25
  go_wp2_with (at_builtin; refine wpList_append_mark (w := w2) rfl (.tmp 14) (.tmp 16) 48 rfl (w.heap.size + 1) (w.heap.size + 1) i0 (.int .u8 0) Tryd.underlying48 hi hz0 hz1 hz2 rfl _ s.data.toList rfl (unhide hmb) (byteOf f) (unhide hff) rfl hln (Nat.le_refl _) hsz2 (Below.refl _ w2) ?_; intro v3 w3 hmb3 hb3)
  replace hmb3 := hide hmb3
  clear hmb hconv hln
  have hrl : s.data.toList.length = s.size := rfl
  obtain ⟨zz, hzz⟩ : ∃ z, z = m - 1 - s.size % m := ⟨_, rfl⟩
  have hmod := Nat.div_add_mod s.size m
  have hlm := Nat.mod_lt s.size hm0
  have hzl : zz ≤ 200 := by omega
  have hze : (s.size + 1 + zz) % m = 0 := by
    rw [show s.size + 1 + zz = m * (s.size / m + 1) by rw [Nat.mul_add, Nat.mul_one]; omega]
    exact Nat.mul_mod_right _ _
  have hzn : ∀ z, z < zz → (s.size + 1 + z) % m ≠ 0 := by
    intro z hz
    rw [show s.size + 1 + z = m * (s.size / m) + (s.size % m + 1 + z) by omega, Nat.mul_add_mod, Nat.mod_eq_of_lt (by omega)]
    omega
  have hm1 : ¬ (m : Int) = 0 := by omega
  have HPL : Hid (padL s m f = (s.data.toList ++ [byteOf f]) ++ List.replicate zz (0 : UInt8)) := hide (by unfold padL; rw [hzz])
  replace hzz := hide hzz
  replace hmod := hide hmod
  go_loopw [8] (fun tv wq => ∃ z : Nat, z ≤ zz ∧ Hid (MB wq (w.heap.size + 1) 5 tv ((s.data.toList ++ [byteOf f]) ++ List.replicate z 0)) ∧ Below (w.heap.size + 1) w2 wq) (fun tv _ => match tv with | .slice _ n _ => s.size + 1 + zz - n | _ => 0)
  case atStart => exact ⟨0, by omega, by rw [List.replicate_zero, List.append_nil]; exact hmb3, hb3⟩
  case round =>
    clear hmb3 hb3
    obtain ⟨z, hz, HM, hb⟩ := hrel
    have hll : ((s.data.toList ++ [byteOf f]) ++ List.replicate z 0).length = s.size + 1 + z := by simp only [List.length_append, List.length_replicate, List.length_singleton, hrl]
    obtain ⟨g, c, hsh, hg1, hg2, hgc⟩ := (unhide HM).shape
    rw [hll] at hsh hgc
    obtain ⟨n, hn⟩ : ∃ n, n = s.size + 1 + z := ⟨_, rfl⟩
    rw [← hn] at hsh hll hgc
    subst hsh
    have hnb : n ≤ 10001000 := by omega
    have et : ((n : Int)).tmod (m : Int) = ((n % m : Nat) : Int) := by rw [Int.tmod_eq_emod_of_nonneg (by omega)]; rfl
    have et2 : ((n : Int)) % (m : Int) = ((n % m : Nat) : Int) := rfl
    have hsz := hb.size
    by_cases hlt : z < zz
    · have hne : ¬ (((n % m : Nat) : Int) = 0) := by have := hzn z hlt; rw [← hn] at this; omega
      have hlen : (s.data.toList ++ [byteOf f] ++ List.replicate z 0).length + 1 ≤ 140737488355328 := by rw [hll]; omega
      replace hn := hide hn
      have hwr : w.heap.size + 1 ≤ wr.heap.size := by omega
      generalize n % m = r at *
      clear hze hzn hg1 hg2 hgc et2
      go_wp2_with (at_builtin; refine wpList_append_mark (w := wr) rfl (.tmp 23) (.tmp 24) 48 rfl (w.heap.size + 1) (w.heap.size + 1) i0 (.int .u8 0) Tryd.underlying48 hi hz0 hz1 hz2 rfl _ _ rfl (unhide HM) 0 (by decide) rfl hlen (Nat.le_refl _) hwr hb ?_; intro v4 w4 hmb4 hb4)
      rw [List.append_assoc, ← List.replicate_succ'] at hmb4
      obtain ⟨g4, c4, hsh4, _⟩ := hmb4.shape
      have hl5 : (s.data.toList ++ [byteOf f] ++ List.replicate (z + 1) (0 : UInt8)).length = s.size + 1 + (z + 1) := by simp only [List.length_append, List.length_replicate, List.length_singleton, hrl]
      rw [hl5] at hsh4
      subst hsh4
      replace hmb4 := hide hmb4
      clear HM
      go_roundw
      case rel => exact ⟨z + 1, by omega, hmb4, hb4⟩
      case measure => have := unhide hn; simp; omega
    · obtain rfl : z = zz := by omega
      have h0m : n % m = 0 := by rw [hn]; exact hze
      rw [h0m] at et et2
      rw [← unhide HPL] at HM hll
      have hpl := padL_len s m f hm0
      rw [hll] at hpl
      obtain ⟨q, hq⟩ : ∃ q, q = n - 1 := ⟨_, rfl⟩
      have eq1 : IntKind.i64.wrap ((n : Int) - 1) = (q : Int) := by rw [IntKind.wrap_i64]; omega
      have hqn : (q : Int) < (n : Int) := by omega
      obtain ⟨b, hbq⟩ : ∃ b, (padL s m f)[q]? = some b := ⟨_, List.getElem?_eq_getElem (by omega)⟩
      have cq := (unhide HM).cell hbq
      unfold bv at cq
      have fq := (unhide HM).frz q (by omega)
      have hxb : b.toNat < 256 := b.toNat_lt
      have hxl : b.toNat ^^^ 128 < 256 := Nat.xor_lt_two_pow (n := 8) hxb (by decide)
      have hxo : bits .xor .u8 (b.toNat : Int) 128 = ((b.toNat ^^^ 128 : Nat) : Int) := u8_xor_nat b.toNat 128 hxb (by decide)
      have hM2 := (unhide HM).put q (b.toNat ^^^ 128) hxl
      have hpf : (padL s m f).set q (byteOf (b.toNat ^^^ 128)) = (padT s m f).data.toList := by
        show _ = (padF s m f).toArray.toList
        rw [List.toList_toArray]
        unfold padF
        rw [← hpl, ← hq, List.getD_eq_getElem?_getD, hbq]
        rfl
      rw [hpf] at hM2
      have hTs := padT_size s m f hm0
      rw [← hpl] at hTs
      have HAB := hide (absorb_pad s m f hm0)
      have hOKb := hide (fun k => blocksK_ok zeros25_ok (padT s m f) m k)
      generalize padT s m f = T at *
      obtain ⟨x, hx⟩ : ∃ x, x = b.toNat ^^^ 128 := ⟨_, rfl⟩
      rw [← hx] at hxo hM2
      have HOw := hide ((unhide HO1).below_at hb (fun g hg => by simp only [Value.ownBlock, Option.some.injEq] at hg; omega))
      have HO3 := hide ((unhide HOw).set_off (h := g) (k := q) (.int .u8 (x : Int)) (by omega))
      have HB3 := hide ((hb2.trans (hb.mono (Nat.le_succ _))).setCell (p := ⟨g, q, none⟩) (show w.heap.size ≤ g by omega) (.int .u8 (x : Int)))
      replace hM2 := hide hM2
      replace hx := hide hx; replace hq := hide hq; replace hn := hide hn
      replace hze := hide hze; replace hpl := hide hpl
      have hgl := hide hg2
      clear HM hll HOw hpf hbq hzn hb h0m
      go_wp2
      have hcT : n ≤ c := hgc
      have hTs' := hide hTs
      generalize wr.setCell ⟨g, q, none⟩ (.int .u8 (x : Int)) = w5 at *
      clear cq fq hxo et et2 hqn eq1 hg2 hgc HO1 hb2 hsA hsz2
      obtain ⟨n8, hn8⟩ : ∃ k, k = m / 8 := ⟨_, rfl⟩
      have hn8b : n8 ≤ 25 := by omega
      have hn80 : 0 < n8 := by omega
      have h8n : m = 8 * n8 := by omega
      replace hn8 := hide hn8
      replace h8n := hide h8n
      go_loopw [7, 9] (fun tv ti wq => ∃ k : Nat, m * k ≤ n ∧ ti = .int .i64 ((m * k : Nat) : Int) ∧ (∃ g7, tv = .slice (some ⟨g7, 0, none⟩) 25 25 ∧ Hid (OwnV wq 0 31 (.slice (some ⟨g7, 0, none⟩) 25 25) ((blocksK zeros25 T m k).map u64v)) ∧ Hid (g ≠ g7 ∧ w.heap.size ≤ g7)) ∧ Hid (MB wq (w.heap.size + 1) 5 (.slice (some ⟨g, 0, none⟩) n c) T.data.toList) ∧ Hid (Below w.heap.size w wq)) (fun _ ti _ => n - (intOf ti).toNat)
      case atStart => exact ⟨0, by omega, rfl, ⟨w.heap.size, rfl, HO3, hide ⟨by omega, Nat.le_refl _⟩⟩, hM2, HB3⟩
      case round =>
        clear HO3 hM2 HB3
        obtain ⟨k, hk, rfl, ⟨g7, rfl, HO, HG⟩, HM, HB⟩ := hrel
        obtain ⟨i, hik⟩ : ∃ i, i = m * k := ⟨_, rfl⟩
        rw [← hik] at hk ⊢
        obtain ⟨j, hj⟩ : ∃ j, j = i + m := ⟨_, rfl⟩
        have ei : IntKind.i64.wrap ((i : Int) + (m : Int)) = (j : Int) := by rw [IntKind.wrap_i64]; omega
        have hjk : j = m * (k + 1) := by rw [hj, hik, Nat.mul_succ]
        by_cases hlt : i < n
        · have hlt' : (i : Int) < (n : Int) := by omega
          have hjn : j ≤ n := by
            have hd : m ∣ n := Nat.dvd_of_mod_eq_zero (by rw [unhide hn]; exact unhide hze)
            obtain ⟨d, hd⟩ := hd
            rw [hd, hjk]
            rw [hd, hik] at hlt
            exact Nat.mul_le_mul_left m (Nat.lt_of_mul_lt_mul_left hlt)
          have hjc : (j : Int) ≤ (c : Int) := by omega
          have hij : (i : Int) ≤ (j : Int) := by omega
          have hjT : j ≤ T.size := by rw [unhide hTs']; exact hjn
          have hxs : (T.extract i j).size = 8 * n8 := by rw [ByteArray.size_extract]; have := unhide h8n; omega
          have HST : Hid (blocksK zeros25 T m (k + 1) = keccak (mixP (blocksK zeros25 T m k) (T.extract i j) n8)) := hide (by
            show takeL (blocksK zeros25 T m k) (T.extract (m * k) (m * k + m)) = _
            rw [← hik, ← hj]
            unfold takeL
            rw [hxs, Nat.mul_div_cancel_left _ (by decide)])
          have hcv := slice_txt T g n c i j wr (unhide HM) (by omega) hjT
          have hok := (unhide hOKb) k
          generalize blocksK zeros25 T m k = st at *
          obtain ⟨st', hst'⟩ : ∃ x, x = blocksK zeros25 T m (k + 1) := ⟨_, rfl⟩
          rw [← hst'] at HST
          generalize T.extract i j = blk at *
          have C5 := hide (fun W => specLanes_any blk n8 hxs hn8b W)
          have hHG := unhide HG
          have hs0 := ((unhide HO).lt g7 rfl).2
          replace hik := hide hik; replace hj := hide hj; replace hst' := hide hst'; replace hjk := hide hjk
          clear HAB
          go_wp2_with fail
          refine ((unhide C5) wr).mono ?_
          rintro e w7 ⟨⟨al, cl, rfl, hOl⟩, hb7⟩
          obtain ⟨gl, rfl⟩ : ∃ g, al = some ⟨g, 0, none⟩ := by
            rcases hOl.2 with ⟨h, _⟩ | ⟨g, cap, cur, h, _⟩
            · simp only [Value.slice.injEq] at h; omega
            · simp only [Value.slice.injEq] at h; exact ⟨_, h.1⟩
          have hgl7 := (hOl.lt gl rfl).1
          have HO7 := hide ((unhide HO).below hb7)
          have HM7 := hide ((unhide HM).below hb7)
          have hsw := (unhide HB).size
          have HB7 := hide ((unhide HB).trans (hb7.mono hsw))
          have HL7 := hide (hOl.low (Nat.zero_le _))
          rw [← mixP_zero hok.1 blk] at HO7
          have hneL : Hid (gl ≠ g7) := hide (by omega)
          clear hb7 hOl HO HM HB hcv
          go_wp2
          go_loopw [11] (fun ti wq => ∃ p : Nat, p ≤ n8 ∧ ti = .int .i64 (p : Int) ∧ Hid (OwnV wq 0 31 (.slice (some ⟨g7, 0, none⟩) 25 25) ((mixP st blk p).map u64v)) ∧ Hid (OwnV wq 0 31 (.slice (some ⟨gl, 0, none⟩) n8 cl) ((lanesR blk n8).map u64v)) ∧ Hid (MB wq (w.heap.size + 1) 5 (.slice (some ⟨g, 0, none⟩) n c) T.data.toList) ∧ Hid (Below w.heap.size w wq)) (fun ti _ => n8 - (intOf ti).toNat)
          case atStart => exact ⟨0, by omega, rfl, HO7, HL7, HM7, HB7⟩
          case round =>
            clear HO7 HL7 HM7 HB7
            obtain ⟨p, hp, rfl, HO, HLn, HM, HB⟩ := hrel
            by_cases hlp : p < n8
            · have hlp' : (p : Int) < (n8 : Int) := by omega
              have lp25 : (p : Int) < 25 := by omega
              have c0 := (unhide HO).cell (lan_get (mixP st blk p) p (by rw [mixP_len]; omega))
              rw [mixP_at st blk p (by omega)] at c0
              have f0 := (unhide HO).frozen p
              have c1 := (unhide HLn).cell (lan_get (lanesR blk n8) p (by rw [lanesR_len]; exact hlp))
              rw [lanesR_ln blk n8 p hlp] at c1
              have l0 := hok.ln p
              have l1 := lAt_lt blk (8 * p)
              have HS := mixP_set st blk p (by omega)
              generalize ln st p = u at *
              generalize lAt blk (8 * p) = v at *
              have xo : bits .xor .u64 (u : Int) (v : Int) = ((u ^^^ v : Nat) : Int) := u64_xor_nat u v l0 l1
              generalize u ^^^ v = z at *
              have HO9 : Hid (∀ n, OwnV ((wr.drewN n).setCell ⟨g7, p, none⟩ (.int .u64 (z : Int))) 0 31 (.slice (some ⟨g7, 0, none⟩) 25 25) ((mixP st blk (p + 1)).map u64v)) := hide (fun n => by
                have := ((unhide HO).drewN n).set p (.int .u64 (z : Int))
                rw [lan_set, HS] at this
                exact this)
              have HL9 : Hid (∀ n, OwnV ((wr.drewN n).setCell ⟨g7, p, none⟩ (.int .u64 (z : Int))) 0 31 (.slice (some ⟨gl, 0, none⟩) n8 cl) ((lanesR blk n8).map u64v)) := hide (fun n => ((unhide HLn).drewN n).set_off _ (unhide hneL))
              have HM9 : Hid (∀ q, MB ((wr.drewN q).setCell ⟨g7, p, none⟩ (.int .u64 (z : Int))) (w.heap.size + 1) 5 (.slice (some ⟨g, 0, none⟩) n c) T.data.toList) := hide (fun q => ((unhide HM).drewN q).off _ hHG.1)
              have HB9 : Hid (∀ q, Below w.heap.size w ((wr.drewN q).setCell ⟨g7, p, none⟩ (.int .u64 (z : Int)))) := hide (fun q => (bel_drew (unhide HB) q).setCell (p := ⟨g7, p, none⟩) hHG.2 _)
              replace hHG := hide hHG
              clear HO HLn HM HB HS l0 l1
              go_wp2
              go_region
              all_goals go_wp2
              all_goals go_roundw
              all_goals first | exact ⟨p + 1, by omega, by go_num, hide ((unhide HO9) 1), hide ((unhide HL9) 1), hide ((unhide HM9) 1), hide ((unhide HB9) 1)⟩ | (simp [intOf]; omega)
            · have hpn : p = n8 := by omega
              have nlp : ¬ (p : Int) < (n8 : Int) := by omega
              have hOf : OwnV wr 0 31 (.slice (some ⟨g7, 0, none⟩) 25 25) ((mixP st blk n8).map u64v) := by rw [← hpn]; exact unhide HO
              have C9 := hide (specPerm_any (mixP st blk n8) (mixP_ok hok blk n8) g7 25 0 wr hOf)
              rw [← unhide HST] at C9
              have hs9 := (unhide HB).size
              have hgw : g < wr.heap.size := by
                obtain ⟨gx, cx, hvx, _, hgx, _⟩ := (unhide HM).shape
                simp only [Value.slice.injEq, Option.some.injEq, Addr.mk.injEq] at hvx
                omega
              replace hpn := hide hpn
              clear HO HLn hOf
              go_wp2_with fail
              refine (unhide C9).mono ?_
              rintro e w9 ⟨⟨g9, rfl, hO9⟩, hb9⟩
              have hg9 := (hO9.lt g9 rfl).1
              have HO9 := hide (hO9.low (Nat.zero_le _))
              have HM9 := hide ((unhide HM).below hb9)
              have HB9 := hide ((unhide HB).trans (hb9.mono hs9))
              clear hO9 hb9 HM HB
              go_wp2
              go_roundw
              all_goals first | exact ⟨k + 1, by have := unhide hjk; omega, by have := unhide hjk; go_num, ⟨g9, rfl, by rw [← unhide hst']; exact HO9, hide ⟨by omega, by omega⟩⟩, HM9, HB9⟩ | (have := unhide hj; simp [intOf]; omega)
        · have hlt' : ¬ (i : Int) < (n : Int) := by omega
          have hin : i = n := by omega
          have hkq : k = s.size / m + 1 := by
            have e1 := unhide hpl
            rw [← hin, hik] at e1
            exact Nat.eq_of_mul_eq_mul_left hm0 e1
          have HF : Hid (blocksK zeros25 T m k = absorbL s m f) := hide (by rw [hkq]; exact unhide HAB)
          rw [unhide HF] at HO
          have hokF := absorbL_ok s m f
          have C9 := hide (fun W (hW : OwnV W 0 31 (.slice (some ⟨g7, 0, none⟩) (absorbL s m f).length 25) ((absorbL s m f).map u64v)) => specBytes_any (absorbL s m f) hokF.2 (by rw [hokF.1]; decide) g7 25 0 W hW)
          rw [hokF.1] at C9
          have hs9 := (unhide HB).size
          replace hik := hide hik; replace hj := hide hj; replace hkq := hide hkq; replace hin := hide hin; replace hjk := hide hjk
          clear HM hokF HAB
          go_wp2_with fail
          refine ((unhide C9) wr (unhide HO)).mono ?_
          rintro e w9 ⟨rfl, hb9⟩
          have HB9 := hide ((unhide HB).trans (hb9.mono hs9))
          clear hb9
          go_wp2
          go_ret
          exact ⟨rfl, unhide HB9⟩
end Go.Proofs.YtkidgllmhdfgaanDoor
