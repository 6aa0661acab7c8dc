/- Packing by the project: Pack, over the loaded program. -/
import Derived.Test.YtkiocjbooegajarDoorPckB
import Derived.Test.YtkiocjbooegajarDoorPckT
import Derived.Deep.RegionHeld3
import Derived.Deep.OwnRows
namespace Go.Proofs.YtkiocjbooegajarDoor
open Go.RowKit
theorem pkOk_fit (a : List Int) (b : Nat) (hb : 1 ≤ b ∧ b ≤ 12) : pkOk a (b : Int) = fitL b a := by
  unfold pkOk fitL fitN
  rw [decide_eq_true (show (1 : Int) ≤ (b : Int) ∧ (b : Int) ≤ 12 by omega), Bool.true_and, Int.toNat_natCast]
set_option maxRecDepth 20000 in
set_option maxHeartbeats 1000000 in
theorem implPack_any (a : List Int) (bits : Int) (ua : Value) (hl : a.length ≤ 1048576) (w : World) (hL : LaidB w) (r : RdV w ua (a.map iv)) :
    Calls Tryd.prog 16 #[ua, .int .i64 bits] w fun e w' => e = .returned (.tuple #[.string (pkB a bits), .bool (pkOk a bits)]) ∧ Below w.heap.size w w' := by
  have C1 := hide (fun W => packBitsOk_any bits W)
  have hB0 : Below w.heap.size w (w.alloc (.cells #[.int .i64 bits] 3)) := (Below.refl _ _).alloc (Nat.le_refl _) _
  by_cases hb : 1 ≤ bits ∧ bits ≤ 12
  · rw [decide_eq_true hb] at C1
    obtain ⟨b, rfl⟩ : ∃ b : Nat, bits = (b : Int) := ⟨bits.toNat, by omega⟩
    have hb1 : 1 ≤ b ∧ b ≤ 12 := by omega
    have HC : (w.alloc (.cells #[.int .i64 (b : Int)] 3)).cell? ⟨w.heap.size, 0, none⟩ = some (.int .i64 (b : Int)) := by
      rw [cell_of_row _ w.heap.size 0 _ 3 (0, 0) (heap_alloc_new w _)]; rfl
    have HF := hide (fun (W : World) (va : Value) (h : Below w.heap.size w W) (hc : W.cell? ⟨w.heap.size, 0, none⟩ = some (.int .i64 (b : Int))) (hr : RdV W va (a.map iv)) => anyFit_any a b hb1.2 w.heap.size va W hl hc hr)
    have HK := pkOk_fit a b hb1
    obtain ⟨s0, c0, rfl, hc⟩ := r.open
    rw [List.length_map]
    cases hf : fitL b a with
    | false =>
      rw [hf] at HK HF
      have E1 := hide (show pkB a (b : Int) = ⟨#[]⟩ by unfold pkB; rw [if_neg (by rw [HK]; decide)])
      rw [HK, unhide E1]
      have r1 := r.below hB0
      rw [List.length_map] at r1
      have hF1 := hide (unhide HF _ _ hB0 HC r1)
      clear r r1 HF
      replace hf := hide hf
      go_enter Tryd.func16, Tryd.ntmps16
      go_wp2_with fail
      generalize w.alloc (.cells #[.int .i64 (b : Int)] 3) = w1 at *
      refine (unhide C1 _).mono ?_
      rintro e w2 ⟨rfl, rfl⟩
      go_wp2_with fail
      refine (unhide hF1).mono ?_
      rintro e w2 ⟨rfl, q, rfl⟩
      have hB2 := bDN hB0 q
      go_wp2
      refine bodyPost_ret (v := .tuple #[.string ⟨#[]⟩, .bool false]) (by simp [results, Tryd.results16, go_sem]) rfl ⟨rfl, hB2⟩
    | true =>
      rw [hf] at HK HF
      obtain ⟨n, hn⟩ : ∃ n, n = a.length := ⟨_, rfl⟩
      obtain ⟨m, hm⟩ : ∃ m, m = byN a.length b := ⟨_, rfl⟩
      have hmb : m ≤ 1572865 := by
        rw [hm]; unfold byN
        have : a.length * b ≤ 1048576 * 12 := Nat.mul_le_mul hl hb1.2
        omega
      have hxs := hide (nats_lt (b := b) (by have := (pkOk_yes HK).2; rw [Int.toNat_natCast] at this; exact this))
      have E1 := hide (show pkB a (b : Int) = ⟨(bysL (dig 256 m (pN b (natsL a) n))).toArray⟩ by
        unfold pkB pkN
        rw [if_pos HK, Int.toNat_natCast, hm, hn, show (natsL a).length = a.length by unfold natsL; rw [List.length_map], show a.length = (natsL a).length by unfold natsL; rw [List.length_map], pN_all])
      rw [HK, unhide E1]
      have r1 := r.below hB0
      rw [List.length_map] at r1
      have hF1 := hide (unhide HF _ _ hB0 HC r1)
      have C2 := hide (fun W => packedSize_any a.length b hl hb1.2 W)
      rw [← hm, ← hn] at C2
      have hc' := hide hc
      rw [← hn] at hF1 hl ⊢
      clear r r1 HF hc
      replace hf := hide hf; replace hm := hide hm; replace hn := hide hn
      replace HK := hide HK
      have hsz : (w.alloc (.cells #[.int .i64 (b : Int)] 3)).heap.size = w.heap.size + 1 := by simp
      go_enter Tryd.func16, Tryd.ntmps16
      go_wp2_with fail
      generalize w.alloc (.cells #[.int .i64 (b : Int)] 3) = w1 at *
      refine (unhide C1 _).mono ?_
      rintro e w2 ⟨rfl, rfl⟩
      go_wp2_with fail
      refine (unhide hF1).mono ?_
      rintro e w2 ⟨rfl, q, rfl⟩
      have hB2 := bDN hB0 q
      have HC2 : (w2.drewN q).cell? ⟨w.heap.size, 0, none⟩ = some (.int .i64 (b : Int)) := HC
      have hsz2 : (w2.drewN q).heap.size = w.heap.size + 1 := hsz
      clear hF1 HC hsz hB0
      generalize w2.drewN q = w3 at *
      go_wp2_with fail
      refine (unhide C2 _).mono ?_
      rintro e w4 ⟨rfl, rfl⟩
      have hmk := run_make_row' (P := Tryd.prog) 36 5 (.int .u8 0) 1 Tryd.underlying36 Tryd.infoByteP rfl .i64 .i64 m (by omega) (by omega)
      rw [made_zero] at hmk
      have HR := RB.new w4 5 (List.replicate m (0 : UInt8))
      have HB4 := hB2.alloc (show w.heap.size ≤ w4.heap.size by omega) (.cells ((List.replicate m (0 : UInt8)).map bv).toArray 5)
      have HC4 : (w4.alloc (.cells ((List.replicate m (0 : UInt8)).map bv).toArray 5)).cell? ⟨w.heap.size, 0, none⟩ = some (.int .i64 (b : Int)) := by
        rw [((Below.refl w4.heap.size w4).alloc (Nat.le_refl _) _).cell (p := ⟨w.heap.size, 0, none⟩) (show w.heap.size < w4.heap.size by omega)]; exact HC2
      have hmk4 := hmk w4
      obtain ⟨G, hG⟩ : ∃ G, G = w4.heap.size := ⟨_, rfl⟩
      have hGw : w.heap.size < G := by omega
      rw [← hG] at hmk4 HR
      rw [← bys_zero] at HR hmk4 HB4 HC4
      generalize w4.alloc (.cells ((bysL (dig 256 m 0)).map bv).toArray 5) = W5 at *
      clear hmk hsz2 hB2 HC2 C1 C2
      replace hG := hide hG
      replace HR := hide HR
      go_wp2
      go_loopw [8, 25] (fun tp ti wr => ∃ i P : Nat, i ≤ n ∧ ti = .int .i64 (i : Int) ∧ tp = .int .i64 (P : Int) ∧ Hid (P = b * i) ∧ Hid (RB wr G 5 (bysL (dig 256 m (pN b (natsL a) i)))) ∧ wr.cell? ⟨w.heap.size, 0, none⟩ = some (.int .i64 (b : Int)) ∧ Below w.heap.size w wr) (fun _ ti _ => n - (intOf ti).toNat)
      case atStart => exact ⟨0, 0, by omega, rfl, rfl, hide (by omega), hide (by have := unhide HR; unfold pN; rw [List.take_zero]; exact this), HC4, HB4⟩
      case round =>
        clear HR HC4 HB4 hmk4
        obtain ⟨i, P, hin, rfl, rfl, hP, HR, HC, hB⟩ := hrel
        by_cases hlt : i < n
        · have hi' : (i : Int) < (n : Int) := by omega
          have hci : (0 : Int) ≤ (i : Int) := by omega
          have hil : i < a.length := by rw [← unhide hn]; exact hlt
          obtain ⟨g, o, rfl, hg, d1⟩ := unhide hc' i _ (get_iv a i hil)
          obtain ⟨x, hx⟩ : ∃ x : Nat, cAt a i = (x : Int) ∧ (natsL a).getD i 0 = x := by
            have h0 := ((pkOk_yes (unhide HK)).2 a[i] (List.getElem_mem _)).1
            rw [← cAt_lt hil] at h0
            refine ⟨(cAt a i).toNat, by omega, ?_⟩
            rw [List.getD_eq_getElem?_getD, List.getElem?_eq_getElem (by unfold natsL; rw [List.length_map]; exact hil), Option.getD_some, nats_at a i hil]
          have hxp : x < 2 ^ b := by
            have h1 : (natsL a).getD i 0 ∈ natsL a := by
              rw [List.getD_eq_getElem?_getD, List.getElem?_eq_getElem (by unfold natsL; rw [List.length_map]; exact hil), Option.getD_some]
              exact List.getElem_mem _
            have h2 := unhide hxs _ h1
            rw [hx.2] at h2
            exact h2
          have hxb : x < 4096 := Nat.lt_of_lt_of_le hxp (Nat.pow_le_pow_right (n := 2) (by omega) hb1.2)
          have d2 : wr.cell? ⟨g, o + i, none⟩ = some (.int .i64 (x : Int)) := by
            rw [hB.cell (p := ⟨g, o + i, none⟩) hg, d1, hx.1]
          have HV := hide (show pV b (natsL a) i 0 = pN b (natsL a) i from pV_zero b (natsL a) i)
          have hPb : b * i + b ≤ b * n := by have := Nat.mul_le_mul_left b hlt; rw [Nat.succ_eq_add_one, Nat.mul_add, Nat.mul_one] at this; exact this
          have hbn : b * n ≤ 8 * m := by
            rw [unhide hm, ← unhide hn]; unfold byN; rw [Nat.mul_comm n b]; omega
          replace d1 := hide d1; replace hx := hide hx; replace hxp := hide hxp
          have hPn := hide (show P + b ≤ 8 * m by have := unhide hP; omega)
          clear hPb hbn
          have hP8 : P ≤ 12582920 := by have := unhide hPn; omega
          go_wp2
          go_loopw [8, 10, 30] (fun tp tn tj wq => ∃ j Q y : Nat, j ≤ b ∧ tj = .int .i64 (j : Int) ∧ tp = .int .i64 (Q : Int) ∧ Hid (Q = P + j) ∧ tn = .int .i64 (y : Int) ∧ Hid (y = x / 2 ^ j) ∧ y < 4096 ∧ Hid (RB wq G 5 (bysL (dig 256 m (pV b (natsL a) i j)))) ∧ wq.cell? ⟨w.heap.size, 0, none⟩ = some (.int .i64 (b : Int)) ∧ Below w.heap.size w wq) (fun _ _ tj _ => b - (intOf tj).toNat)
          case atStart => exact ⟨0, P, x, by omega, rfl, rfl, hide (by omega), rfl, hide (by rw [Nat.pow_zero, Nat.div_one]), hxb, hide (by rw [unhide HV]; exact unhide HR), HC, hB⟩
          case round =>
            clear HR HC hB hP8 d2 HV
            obtain ⟨j, Q, y, hjb, rfl, rfl, hQ, rfl, hy, hyb, HR, HC, hB⟩ := hrel
            have hQ8 : Q ≤ 12582932 := by have := unhide hPn; have := unhide hQ; omega
            by_cases hltj : j < b
            · have hj' : (j : Int) < (b : Int) := by omega
              have hQm : Q < 8 * m := by have := unhide hPn; have := unhide hQ; omega
              obtain ⟨y2, hy2⟩ : ∃ y2 : Nat, y2 = y / 2 := ⟨_, rfl⟩
              have v1' : (y : Int) / 2 = (y2 : Int) := by omega
              have v1 : (y : Int).tdiv 2 = (y2 : Int) := by rw [Int.tdiv_eq_ediv_of_nonneg (by omega)]; omega
              have hY := hide (show y2 = x / 2 ^ (j + 1) by rw [hy2, unhide hy, Nat.div_div_eq_div_mul, Nat.pow_succ])
              have hy2b : y2 < 4096 := by omega
              have hQ2 := hide (show Q + 1 = P + (j + 1) by have := unhide hQ; omega)
              have v2 : IntKind.i64.wrap ((Q : Int) + 1) = ((Q + 1 : Nat) : Int) := by rw [IntKind.wrap_i64]; omega
              have HX := pV_bit b (natsL a) i j
              rw [(unhide hx).2, ← unhide hy] at HX
              have HW := pV_lt b (natsL a) i j (unhide hxs)
              have eQ : b * i + j = Q := by have := unhide hQ; have := unhide hP; omega
              rw [eQ] at HX HW
              generalize pV b (natsL a) i j = V at *
              obtain ⟨V2, hV2⟩ : ∃ V2, V2 = pV b (natsL a) i (j + 1) := ⟨_, rfl⟩
              rw [← hV2] at HX
              replace hV2 := hide hV2
              replace hy := hide hy; replace eQ := hide eQ
              by_cases hbit : y % 2 = 1
              · rw [if_pos hbit] at HX
                have v3' : (y : Int) % 2 = 1 := by omega
                have v3 : (y : Int).tmod 2 = 1 := by rw [Int.tmod_eq_emod_of_nonneg (by omega)]; omega
                obtain ⟨k, hk⟩ : ∃ k : Nat, k = Q / 8 := ⟨_, rfl⟩
                obtain ⟨u, hu⟩ : ∃ u : Nat, u = Q % 8 := ⟨_, rfl⟩
                have hQe : Q = 8 * k + u := by omega
                have hu8 : u < 8 := by omega
                have hkm : k < m := by omega
                have v4' : (Q : Int) / 8 = (k : Int) := by omega
                have v4 : (Q : Int).tdiv 8 = (k : Int) := by rw [Int.tdiv_eq_ediv_of_nonneg (by omega)]; omega
                have v5' : (Q : Int) % 8 = (u : Int) := by omega
                have v5 : (Q : Int).tmod 8 = (u : Int) := by rw [Int.tmod_eq_emod_of_nonneg (by omega)]; omega
                rw [hQe] at HX HW
                obtain ⟨A1, A2⟩ := bys_at m k u V hkm hu8 HW
                have HS := bys_bit m k u V hu8 HW
                rw [← HX] at HS
                have hlu : 2 ^ u ≤ 128 := Nat.pow_le_pow_right (n := 2) (by omega) (show u ≤ 7 by omega)
                have hor := u8_or9 (V / 2 ^ (8 * k)) (2 ^ u) (by omega) (by omega)
                rw [or_bit _ _ A2] at hor
                have hT := hide (fun (W : World) (h : LaidB W) => h.cell u hu8)
                obtain ⟨p, hp⟩ : ∃ p : Nat, p = 2 ^ u := ⟨_, rfl⟩
                rw [← hp] at hor hT A2 HS hlu
                generalize V / 2 ^ (8 * k) = x0 at *
                have hx0 : x0 + p < 256 := by omega
                obtain ⟨z9, hz9⟩ : ∃ z9 : Nat, z9 = x0 + p := ⟨_, rfl⟩
                rw [← hz9] at hor HS hx0
                replace hz9 := hide hz9
                have ct := unhide hT wr (hL.below hB)
                have cg := (unhide HR).cell A1
                rw [byteOf_toNat (show x0 < 256 by omega)] at cg
                have fg := (unhide HR).frozen k
                have hki : (k : Int) < (m : Int) := by omega
                have hk0 : (0 : Int) ≤ (k : Int) := by omega
                have hu8' : (u : Int) < 8 := by omega
                have I1 := idxB9 u hu8'
                have HR2 := hide (show RB (wr.setCell ⟨G, k, none⟩ (.int .u8 (z9 : Int))).drew G 5 (bysL (dig 256 m V2)) by
                  have h := (unhide HR).set k z9 hx0
                  rw [← HS] at h
                  exact h)
                have HC2 : (wr.setCell ⟨G, k, none⟩ (.int .u8 (z9 : Int))).drew.cell? ⟨w.heap.size, 0, none⟩ = some (.int .i64 (b : Int)) := by
                  rw [((Below.refl G wr).setCell (p := ⟨G, k, none⟩) (Nat.le_refl _) (.int .u8 (z9 : Int))).drew.cell (p := ⟨w.heap.size, 0, none⟩) hGw]
                  exact HC
                have hB2 := (hB.setCell (p := ⟨G, k, none⟩) (Nat.le_of_lt hGw) (.int .u8 (z9 : Int))).drew
                clear HR A1 A2 HS hT hx0
                replace HX := hide HX; replace HW := hide HW; replace hQe := hide hQe; replace hk := hide hk; replace hu := hide hu; replace hp := hide hp; replace hy2 := hide hy2
                go_wp2
                go_region
                go_wp2
                exact ⟨⟨j + 1, Q + 1, y2, by omega, by go_num, by go_num, hQ2, by first | rfl | trivial, hY, hy2b, by rw [← unhide hV2]; exact HR2, HC2, hB2⟩, by simp [intOf]; omega⟩
              · rw [if_neg hbit] at HX
                have v3' : (y : Int) % 2 = 0 := by omega
                have v3 : (y : Int).tmod 2 = 0 := by rw [Int.tmod_eq_emod_of_nonneg (by omega)]; omega
                rw [← HX] at HR
                replace HX := hide HX; replace HW := hide HW; replace hy2 := hide hy2; replace hbit := hide hbit
                go_wp2
                exact ⟨⟨j + 1, Q + 1, y2, by omega, by go_num, by go_num, hQ2, by first | rfl | trivial, hY, hy2b, by rw [← unhide hV2]; exact HR, HC, hB⟩, by simp [intOf]; omega⟩
            · have hj' : ¬ (j : Int) < (b : Int) := by omega
              have hje : j = b := by omega
              have HV := pV_full b (natsL a) i (by unfold natsL; rw [List.length_map]; exact hil) (unhide hxs)
              rw [hje, HV] at HR
              have hQ2 := hide (show Q = b * (i + 1) by have := unhide hQ; have := unhide hP; rw [Nat.mul_add, Nat.mul_one]; omega)
              replace HV := hide HV; replace hje := hide hje
              go_wp2
              exact ⟨⟨i + 1, Q, by omega, by go_num, rfl, hQ2, HR, HC, hB⟩, by simp [intOf]; omega⟩
        · have hi' : ¬ (i : Int) < (n : Int) := by omega
          have hie : i = n := by omega
          rw [hie] at HR
          have hown := (unhide HR).own (base := w.heap.size) (n := m) (bysL_len _ _) (Nat.le_of_lt hGw) (by unfold maxLen; omega)
          have hcv := run_string_owned (P := Tryd.prog) wr 36 9 5 w.heap.size _ _ Tryd.underlying36 Tryd.underlying5 Tryd.underlying9 hown
          replace hie := hide hie; replace hown := hide hown
          go_wp2
          refine bodyPost_ret (v := .tuple #[.string ⟨(bysL (dig 256 m (pN b (natsL a) n))).toArray⟩, .bool true]) (by simp [results, Tryd.results16, go_sem]) rfl ⟨rfl, hB⟩
  · rw [decide_eq_false hb] at C1
    have E0 := hide (show pkOk a bits = false by unfold pkOk; rw [decide_eq_false hb, Bool.false_and])
    have E1 := hide (show pkB a bits = ⟨#[]⟩ by unfold pkB; rw [if_neg (by rw [unhide E0]; decide)])
    rw [unhide E0, unhide E1]
    obtain ⟨s0, c0, rfl, hc⟩ := r.open
    rw [List.length_map]
    clear r hc
    go_enter Tryd.func16, Tryd.ntmps16
    go_wp2_with fail
    refine (unhide C1 _).mono ?_
    rintro e w1 ⟨rfl, rfl⟩
    go_wp2
    refine bodyPost_ret (v := .tuple #[.string ⟨#[]⟩, .bool false]) (by simp [results, Tryd.results16, go_sem]) rfl ⟨rfl, hB0⟩
end Go.Proofs.YtkiocjbooegajarDoor
