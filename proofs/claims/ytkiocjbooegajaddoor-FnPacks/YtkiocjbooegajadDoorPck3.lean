/- Pack by the given model, over the loaded program. -/
import Derived.Test.YtkiocjbooegajadDoorPck2
import Derived.Deep.RegionWith
import Derived.Deep.RegionHeld3
namespace Go.Proofs.YtkiocjbooegajadDoor
open Go.RowKit
theorem Tryd.infoB11 : (Tryd.prog.info? 5).map (fun i => (i.zero, i.size, i.bytes)) = some (some (.int .u8 0), 1, 1) := by kernel_rfl
set_option maxRecDepth 20000 in
set_option maxHeartbeats 1000000 in
theorem specPack_any (l : List Int) (bits : Int) (hl : l.length ≤ 2000000) (va : Value) (w : World) (ra : RdV w va (l.map iv)) :
    Calls Tryd.prog 8 #[va, .int .i64 bits] w fun e w' => e = .returned (.tuple #[.string (pkB l bits), .bool (pkOk l bits)]) ∧ Below w.heap.size w w' := by
  obtain ⟨i0, hi, hz0, hz1, hz2⟩ := info_parts Tryd.infoB11
  have C1 := hide (inb9 bits 1 12 w)
  obtain ⟨a1, c1, rfl, hc1⟩ := ra.open
  clear ra
  rw [List.length_map]
  by_cases hb : 1 ≤ bits ∧ bits ≤ 12
  · rw [show decide ((1 : Int) ≤ bits ∧ bits ≤ 12) = true by rw [decide_eq_true_iff]; exact hb] at C1
    obtain ⟨b, rfl⟩ : ∃ b : Nat, bits = (b : Int) := ⟨bits.toNat, by omega⟩
    have hb1 : 1 ≤ b ∧ b ≤ 12 := by omega
    obtain ⟨n, hnn⟩ : ∃ n, l.length = n := ⟨_, rfl⟩
    rw [hnn] at hl ⊢
    obtain ⟨p, hp⟩ : ∃ p : Nat, p = 2 ^ b := ⟨_, rfl⟩
    have hpb : 2 ≤ p ∧ p ≤ 4096 := by rw [hp]; exact ⟨two_le 1 b (by omega), two_le b 12 (by omega)⟩
    have CT := hide (fun W => two_any b (by omega) W)
    rw [← hp] at CT
    obtain ⟨p1, hp1⟩ : ∃ p1 : Int, p1 = (p : Int) - 1 := ⟨_, rfl⟩
    have wp : IntKind.i64.wrap ((p : Int) - 1) = p1 := by rw [IntKind.wrap_i64]; omega
    have HE := hide (show ∀ x : Int, (0 ≤ x ∧ x ≤ p1) ↔ (0 ≤ x ∧ x ≤ ((2 ^ (b : Int).toNat : Nat) : Int) - 1) from fun x => by rw [Int.toNat_natCast, ← hp, hp1])
    replace hnn := hide hnn; replace hp := hide hp; replace hp1 := hide hp1
    go_enter Tryd.func8, Tryd.ntmps8
    go_wp2_with fail
    refine (unhide C1).mono ?_
    rintro e w1 ⟨rfl, hw1⟩
    have hw2 := hw1.symm
    subst hw2
    clear hw1 C1
    go_wp2
    go_loopw [6] (fun ti wr => ∃ k q : Nat, k ≤ n ∧ ti = .int .i64 (k : Int) ∧ wr = w.drewN q ∧ Hid (∀ j, j < k → 0 ≤ cAt l j ∧ cAt l j ≤ p1)) (fun ti _ => n - (intOf ti).toNat)
    case atStart => exact ⟨0, 0, by omega, rfl, rfl, hide (fun j hj => absurd hj (by omega))⟩
    case round =>
      obtain ⟨k, q, hk, rfl, rfl, HK⟩ := hrel
      by_cases hlt : k < n
      · have hkl : k < l.length := by rw [unhide hnn]; exact hlt
        obtain ⟨g1, o1, rfl, hg1, d1⟩ := hc1 k _ (get_iv l k hkl)
        have hk' : (k : Int) < (n : Int) := by omega
        have hk0 : (0 : Int) ≤ (k : Int) := by omega
        have d2 : (w.drewN q).cell? ⟨g1, o1 + k, none⟩ = some (.int .i64 (cAt l k)) := d1
        by_cases hx : 0 ≤ cAt l k ∧ cAt l k ≤ p1
        · have CI := hide (fun W => inb9 (cAt l k) 0 p1 W)
          rw [show decide ((0 : Int) ≤ cAt l k ∧ cAt l k ≤ p1) = true by rw [decide_eq_true_iff]; exact hx] at CI
          have HK2 := hide (show ∀ j, j < k + 1 → 0 ≤ cAt l j ∧ cAt l j ≤ p1 from fun j hj => by
            by_cases e : j = k
            · rw [e]; exact hx
            · exact unhide HK j (by omega))
          generalize cAt l k = x at d1 d2 CI
          clear hc1 HK hx
          go_wp2
          go_region_held3 (fun W => W.cell? ⟨g1, o1 + k, none⟩ = some (.int .i64 x)) (first | exact d2 | fail) (first
            | (go_at_call 18; refine ((unhide CT) _).mono ?_; rintro e w2 ⟨rfl, rfl⟩)
            | (go_at_call 26; refine ((unhide CI) _).mono ?_; rintro e w3 ⟨rfl, rfl⟩)
            | fail)
          go_wp2
          go_roundw
          case rel => exact ⟨k + 1, _, by omega, by go_num, by first | rfl | rw [World.drewN_drewN], HK2⟩
          case measure => simp [intOf]; omega
        · have CI := hide (fun W => inb9 (cAt l k) 0 p1 W)
          rw [show decide ((0 : Int) ≤ cAt l k ∧ cAt l k ≤ p1) = false by rw [decide_eq_false_iff_not]; exact hx] at CI
          have E1 := hide (pkOk_no (bits := (b : Int)) k hkl (fun h => hx ((unhide HE _).2 h)))
          have E2 := hide (show pkB l (b : Int) = ⟨#[]⟩ by unfold pkB; rw [unhide E1]; rfl)
          generalize cAt l k = x at d1 d2 CI
          clear hc1 HK hx
          go_wp2
          go_region_held3 (fun W => W.cell? ⟨g1, o1 + k, none⟩ = some (.int .i64 x)) (first | exact d2 | fail) (first
            | (go_at_call 18; refine ((unhide CT) _).mono ?_; rintro e w2 ⟨rfl, rfl⟩)
            | (go_at_call 26; refine ((unhide CI) _).mono ?_; rintro e w3 ⟨rfl, rfl⟩)
            | fail)
          go_wp2
          refine bodyPost_ret (v := .tuple #[.string ⟨#[]⟩, .bool false]) (by simp [results, Tryd.results8, go_sem]) rfl ⟨by rw [unhide E1, unhide E2], ?_⟩
          exact (bDN (Below.refl _ w) _).drew
      · have hke : k = n := by omega
        have hk' : ¬ (k : Int) < (n : Int) := by omega
        have hall : ∀ x ∈ l, 0 ≤ x ∧ x ≤ ((2 ^ (b : Int).toNat : Nat) : Int) - 1 := by
          intro x hx
          obtain ⟨j, hj, rfl⟩ := List.getElem_of_mem hx
          rw [← cAt_lt hj]
          exact (unhide HE _).1 (unhide HK j (by rw [hke, ← unhide hnn]; exact hj))
        have E1 := hide (pkOk_of (l := l) (by omega) hall)
        have hnl := nats_lt (b := b) (by rw [Int.toNat_natCast] at hall; exact hall)
        have E2 := hide (show pkB l (b : Int) = ⟨(bysL (dig 256 (byN n b) (pN b (natsL l) n))).toArray⟩ by
          unfold pkB pkN
          rw [unhide E1, if_pos rfl, Int.toNat_natCast, show (natsL l).length = n by unfold natsL; rw [List.length_map]; exact unhide hnn, show pN b (natsL l) n = valC (2 ^ b) (natsL l) by rw [← pN_all, show (natsL l).length = n by unfold natsL; rw [List.length_map]; exact unhide hnn]])
        have HL := hide (fun i => pN_lt b (natsL l) i hnl)
        have HX := hide (show ∀ i, (hi : i < n) → pN b (natsL l) (i + 1) = pN b (natsL l) i + 2 ^ (b * i) * (cAt l i).toNat from fun i hi => by
          have hl1 : i < l.length := by rw [unhide hnn]; exact hi
          rw [pN_add b (natsL l) i (by unfold natsL; rw [List.length_map]; exact hl1), nats_at l i hl1])
        have HR := hide (show ∀ i, i < n → 0 ≤ cAt l i ∧ cAt l i ≤ p1 from fun i hi => unhide HK i (by omega))
        replace hke := hide hke
        clear HK HE hall hnl
        have hb0 := bDN (Below.refl w.heap.size w) q
        have hz0' := hb0.size
        have hcN : ∀ W : World, Below w.heap.size w W → ∀ i, i < n → ∃ g o, a1 = some ⟨g, o, none⟩ ∧ W.cell? ⟨g, o + i, none⟩ = some (.int .i64 (cAt l i)) := fun W hW i hi => by
          obtain ⟨g, o, h1, h2, h3⟩ := hc1 i _ (get_iv l i (by rw [unhide hnn]; exact hi))
          exact ⟨g, o, h1, (hW.cell (p := ⟨g, o + i, none⟩) h2).trans h3⟩
        replace hcN := hide hcN
        clear hc1
        generalize w.drewN q = w1 at *
        go_wp2
        go_loopw [7, 8, 9, 10] (fun tv th tc ti wr => ∃ i m hv ct T : Nat, i ≤ n ∧ Hid (T = b * i) ∧ Hid (ct + 8 * m = T) ∧ ct < 8 ∧ Hid (hv = pN b (natsL l) i / 256 ^ m) ∧ ti = .int .i64 (i : Int) ∧ th = .int .i64 (hv : Int) ∧ tc = .int .i64 (ct : Int) ∧ Hid (OwnB wr w.heap.size 5 tv (bysL (dig 256 m (pN b (natsL l) i)))) ∧ Below w.heap.size w wr) (fun _ _ _ ti _ => n - (intOf ti).toNat)
        case atStart => exact ⟨0, 0, 0, 0, 0, by omega, hide (by omega), hide (by omega), by omega, hide (by unfold pN; rw [List.take_zero]; show 0 = 0 / 256 ^ 0; rw [Nat.zero_div]), rfl, rfl, rfl, hide (World.ownsRow_made w1 #[] 0 hz0' (by decide) (by simp)), hb0.alloc hz0' _⟩
        case round =>
          clear hb0
          obtain ⟨i, m, hv, ct, T, hin, hT, hct, hc8, hhv, rfl, rfl, rfl, HO, hB⟩ := hrel
          have hvb : hv < 256 := by
            have h1 := have_lt (unhide HL i) (by rw [unhide hct]; exact unhide hT)
            rw [← unhide hhv] at h1
            exact Nat.lt_of_lt_of_le h1 (two_le ct 8 (by omega))
          by_cases hlti : i < n
          · have hi' : (i : Int) < (n : Int) := by omega
            obtain ⟨g1, o1, ha1, d1⟩ := unhide hcN wr hB i hlti
            subst ha1
            have xb := unhide HR i hlti
            have hN1 := unhide HX i hlti
            have hT2 := unhide hT
            rw [← hT2] at hN1
            obtain ⟨N1, hNN⟩ : ∃ N1, N1 = pN b (natsL l) (i + 1) := ⟨_, rfl⟩
            rw [← hNN] at hN1
            obtain ⟨x, hx⟩ : ∃ x : Nat, cAt l i = (x : Int) := ⟨(cAt l i).toNat, by omega⟩
            rw [hx] at d1 xb hN1
            rw [Int.toNat_natCast] at hN1
            have hxp : x ≤ 4095 := by have := unhide hp1; omega
            obtain ⟨c2, hc2⟩ : ∃ c2 : Nat, c2 = 2 ^ ct := ⟨_, rfl⟩
            have hc2b : 1 ≤ c2 ∧ c2 ≤ 128 := by rw [hc2]; exact ⟨Nat.pow_pos (by omega), two_le ct 7 (by omega)⟩
            have CU := hide (fun W => two_any ct (by omega) W)
            rw [← hc2] at CU
            have hm2 : x * c2 ≤ 4095 * 128 := Nat.mul_le_mul hxp hc2b.2
            obtain ⟨y, hy⟩ : ∃ y : Nat, y = x * c2 := ⟨_, rfl⟩
            rw [← hy] at hm2
            obtain ⟨h2, hh2⟩ : ∃ h2 : Nat, h2 = hv + y := ⟨_, rfl⟩
            obtain ⟨ct2, hct2⟩ : ∃ ct2 : Nat, ct2 = ct + b := ⟨_, rfl⟩
            have HV := hide (show h2 = N1 / 256 ^ m by rw [hN1, have_add (unhide hct), ← unhide hhv, hh2, hy, hc2])
            have HD := hide (show dig 256 m (pN b (natsL l) i) = dig 256 m N1 by rw [hN1, dig_same (unhide hct)])
            have HO2 : Hid (OwnB wr w.heap.size 5 u7 (bysL (dig 256 m N1))) := hide (by rw [← unhide HD]; exact unhide HO)
            have hNl : N1 < 2 ^ (b * (i + 1)) := by rw [hNN]; exact unhide HL (i + 1)
            have hTn : ct2 + 8 * m = b * (i + 1) := by rw [Nat.mul_add, Nat.mul_one, ← hT2]; have := unhide hct; omega
            have w1 : IntKind.i64.wrap ((x : Int) * (c2 : Int)) = (y : Int) := by rw [show (x : Int) * (c2 : Int) = (y : Int) by rw [hy]; exact (Int.natCast_mul x c2).symm, IntKind.wrap_i64]; omega
            have w2 : IntKind.i64.wrap ((hv : Int) + (y : Int)) = (h2 : Int) := by rw [IntKind.wrap_i64]; omega
            have w3 : IntKind.i64.wrap ((ct : Int) + (b : Int)) = (ct2 : Int) := by rw [IntKind.wrap_i64]; omega
            have i1 : (0 : Int) ≤ (i : Int) := by omega
            have hct20 : ct2 ≤ 20 := by omega
            replace hx := hide hx; replace hc2 := hide hc2; replace hy := hide hy; replace hh2 := hide hh2; replace hct2 := hide hct2; replace hN1 := hide hN1; replace hNN := hide hNN; replace hT2 := hide hT2; replace hNl := hide hNl; replace hTn := hide hTn
            clear HO HD
            go_wp2
            go_region_held3 (fun W => W.cell? ⟨g1, o1 + i, none⟩ = some (.int .i64 (x : Int))) (first | exact d1 | fail) (first
              | (go_at_call 18; refine ((unhide CU) _).mono ?_; rintro e w2 ⟨rfl, rfl⟩)
              | fail)
            have HO3 : Hid (OwnB wr.drew w.heap.size 5 u7 (bysL (dig 256 m N1))) := hide (unhide HO2)
            have hB3 := hB.drew
            clear HO2 hB d1
            generalize wr.drew = w3 at *
            go_wp2
            go_loopw [7, 8, 9] (fun tv th tc wq => ∃ m hv ct : Nat, ct ≤ 20 ∧ Hid (ct + 8 * m = b * (i + 1)) ∧ Hid (hv = N1 / 256 ^ m) ∧ th = .int .i64 (hv : Int) ∧ tc = .int .i64 (ct : Int) ∧ Hid (OwnB wq w.heap.size 5 tv (bysL (dig 256 m N1))) ∧ Below w.heap.size w wq) (fun _ _ tc _ => (intOf tc).toNat)
            case atStart => exact ⟨m, h2, ct2, hct20, hTn, HV, rfl, rfl, HO3, hB3⟩
            case round =>
              clear HO3 hB3 HV hTn
              obtain ⟨m, hv, ct, hc20, hTn, hhv, rfl, rfl, HO, hB⟩ := hrel
              have hvb : hv < 1048576 := by
                have h1 := have_lt (unhide hNl) (unhide hTn)
                rw [← unhide hhv] at h1
                exact Nat.lt_of_lt_of_le h1 (two_le ct 20 (by omega))
              by_cases h8 : 8 ≤ ct
              · have h8' : (8 : Int) ≤ (ct : Int) := by omega
                obtain ⟨r, hr⟩ : ∃ r : Nat, r = hv % 256 := ⟨_, rfl⟩
                obtain ⟨q2, hq2⟩ : ∃ q : Nat, q = hv / 256 := ⟨_, rfl⟩
                obtain ⟨ct3, hct3⟩ : ∃ c : Nat, c = ct - 8 := ⟨_, rfl⟩
                have v1 : (hv : Int).tmod 256 = (r : Int) := by rw [Int.tmod_eq_emod_of_nonneg (by omega)]; omega
                have v1' : (hv : Int) % 256 = (r : Int) := by omega
                have v2 : IntKind.i64.wrap (r : Int) = (r : Int) := by rw [IntKind.wrap_i64]; omega
                have v3 : IntKind.u8.wrap (r : Int) = (r : Int) := by rw [IntKind.wrap_u8]; omega
                have v4 : (hv : Int).tdiv 256 = (q2 : Int) := by rw [Int.tdiv_eq_ediv_of_nonneg (by omega)]; omega
                have v4' : (hv : Int) / 256 = (q2 : Int) := by omega
                have v5 : IntKind.i64.wrap (q2 : Int) = (q2 : Int) := by rw [IntKind.wrap_i64]; omega
                have v6 : IntKind.i64.wrap ((ct : Int) - 8) = (ct3 : Int) := by rw [IntKind.wrap_i64]; omega
                have HB1 := hide (show bysL (dig 256 (m + 1) N1) = bysL (dig 256 m N1) ++ [byteOf r] by rw [bysL_add, ← unhide hhv, hr])
                have HQ := hide (show q2 = N1 / 256 ^ (m + 1) by rw [← have_next, ← unhide hhv, hq2])
                have HT3 := hide (show ct3 + 8 * (m + 1) = b * (i + 1) by have := unhide hTn; omega)
                have hrb : r < 256 := by omega
                have hcs : (#[Value.int .u8 (r : Int)] : Array Value).toList = [byteOf r].map bv := by show [Value.int .u8 (r : Int)] = [bv (byteOf r)]; unfold bv; rw [byteOf_toNat hrb]
                have hlen : (bysL (dig 256 m N1)).length + 1 ≤ 140737488355328 := by
                  rw [bysL_len]
                  have h1 := unhide hTn
                  have h2 : b * (i + 1) ≤ 12 * 2000001 := Nat.mul_le_mul hb1.2 (by omega)
                  omega
                have hdec : ct3 < ct ∧ ct3 ≤ 20 := by omega
                have hszB := hB.size
                replace hr := hide hr; replace hq2 := hide hq2; replace hct3 := hide hct3
                go_wp2_with (at_builtin; refine wpList_append_bytes rfl (.tmp 50) (.tmp 54) 22 rfl w.heap.size w.heap.size 5 i0 Tryd.underlying22 hi hz0 hz1 hz2 u7 (bysL (dig 256 m N1)) rfl (unhide HO) _ [byteOf r] hcs 1 1 rfl rfl hlen (Nat.le_refl _) hszB hB ?_; intro v' w4 hown4 hb4)
                rw [← unhide HB1] at hown4
                replace hown4 := hide hown4
                clear HO
                go_wp2
                exact ⟨⟨m + 1, q2, ct3, hdec.2, HT3, HQ, by first | rfl | trivial, by first | rfl | trivial, hown4, hb4⟩, by simp [intOf]; omega⟩
              · have h8' : ¬ (8 : Int) ≤ (ct : Int) := by omega
                have hfin := hide (show hv = pN b (natsL l) (i + 1) / 256 ^ m by rw [unhide hhv, unhide hNN])
                have HO4 : Hid (OwnB wr w.heap.size 5 u7 (bysL (dig 256 m (pN b (natsL l) (i + 1))))) := hide (by rw [← unhide hNN]; exact unhide HO)
                clear HO
                go_wp2
                exact ⟨⟨i + 1, m, hv, ct, b * (i + 1), by omega, hide rfl, hTn, by omega, hfin, by go_num, by first | rfl | trivial, by first | rfl | trivial, HO4, hB⟩, by simp [intOf]; omega⟩
          · have hi' : ¬ (i : Int) < (n : Int) := by omega
            have hie : i = n := by omega
            have hTT : ct + 8 * m = b * n := by rw [unhide hct, unhide hT, hie]
            have hhv2 : hv = pN b (natsL l) n / 256 ^ m := by rw [← hie]; exact unhide hhv
            have HO2 : Hid (OwnB wr w.heap.size 5 u7 (bysL (dig 256 m (pN b (natsL l) n)))) := hide (by rw [← hie]; exact unhide HO)
            have hszB := hB.size
            replace hie := hide hie
            clear HO
            by_cases hpos : 0 < ct
            · have hpos' : (0 : Int) < (ct : Int) := by omega
              have hby : byN n b = m + 1 := by unfold byN; rw [Nat.mul_comm]; omega
              have HB1 := hide (show bysL (dig 256 (byN n b) (pN b (natsL l) n)) = bysL (dig 256 m (pN b (natsL l) n)) ++ [byteOf hv] by rw [hby, bysL_add, ← hhv2, Nat.mod_eq_of_lt hvb])
              have v3 : IntKind.u8.wrap (hv : Int) = (hv : Int) := by rw [IntKind.wrap_u8]; omega
              have hcs : (#[Value.int .u8 (hv : Int)] : Array Value).toList = [byteOf hv].map bv := by show [Value.int .u8 (hv : Int)] = [bv (byteOf hv)]; unfold bv; rw [byteOf_toNat hvb]
              have hlen : (bysL (dig 256 m (pN b (natsL l) n))).length + 1 ≤ 140737488355328 := by
                rw [bysL_len]
                have h2 : b * n ≤ 12 * 2000000 := Nat.mul_le_mul hb1.2 hl
                omega
              replace hTT := hide hTT; replace hhv2 := hide hhv2; replace hby := hide hby
              go_wp2_with (at_builtin; refine wpList_append_bytes rfl (.tmp 62) (.tmp 65) 22 rfl w.heap.size w.heap.size 5 i0 Tryd.underlying22 hi hz0 hz1 hz2 u7 (bysL (dig 256 m (pN b (natsL l) n))) rfl (unhide HO2) _ [byteOf hv] hcs 1 1 rfl rfl hlen (Nat.le_refl _) hszB hB ?_; intro v' w4 hown4 hb4; have hcv := run_string_owned (P := Tryd.prog) w4 22 9 5 w.heap.size _ _ Tryd.underlying22 Tryd.underlying5 Tryd.underlying9 hown4)
              refine bodyPost_ret (v := .tuple #[.string ⟨(bysL (dig 256 m (pN b (natsL l) n)) ++ [byteOf hv]).toArray⟩, .bool true]) (by simp [results, Tryd.results8, go_sem]) rfl ⟨by rw [unhide E1, unhide E2, unhide HB1], hb4⟩
            · have hpos' : ¬ (0 : Int) < (ct : Int) := by omega
              have hby : byN n b = m := by unfold byN; rw [Nat.mul_comm]; omega
              have hcv := run_string_owned (P := Tryd.prog) wr 22 9 5 w.heap.size _ _ Tryd.underlying22 Tryd.underlying5 Tryd.underlying9 (unhide HO2)
              replace hTT := hide hTT; replace hhv2 := hide hhv2
              have HB1 := hide (show bysL (dig 256 (byN n b) (pN b (natsL l) n)) = bysL (dig 256 m (pN b (natsL l) n)) by rw [hby])
              replace hby := hide hby
              generalize bysL (dig 256 m (pN b (natsL l) n)) = out at *
              go_wp2
              refine bodyPost_ret (v := .tuple #[.string ⟨out.toArray⟩, .bool true]) (by simp [results, Tryd.results8, go_sem]) rfl ⟨by rw [unhide E1, unhide E2, unhide HB1], hB⟩
  · have E1 := hide (show pkOk l bits = false by unfold pkOk; rw [show decide ((1 : Int) ≤ bits ∧ bits ≤ 12) = false by rw [decide_eq_false_iff_not]; exact hb]; rfl)
    have E2 := hide (show pkB l bits = ⟨#[]⟩ by unfold pkB; rw [unhide E1]; rfl)
    rw [show decide ((1 : Int) ≤ bits ∧ bits ≤ 12) = false by rw [decide_eq_false_iff_not]; exact hb] at C1
    go_enter Tryd.func8, Tryd.ntmps8
    go_wp2_with fail
    refine (unhide C1).mono ?_
    rintro e w1 ⟨rfl, hw1⟩
    have hw2 := hw1.symm
    subst hw2
    clear hw1 C1
    go_wp2
    exact bodyPost_ret (v := .tuple #[.string ⟨#[]⟩, .bool false]) (by simp [results, Tryd.results8, go_sem]) rfl ⟨by rw [unhide E1, unhide E2], Below.refl _ _⟩
end Go.Proofs.YtkiocjbooegajadDoor
