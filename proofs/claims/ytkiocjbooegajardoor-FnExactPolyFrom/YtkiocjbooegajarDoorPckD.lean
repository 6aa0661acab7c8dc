/- Packing by the project: Unpack, over the loaded program. -/
import Derived.Test.YtkiocjbooegajarDoorPckC
import Derived.WalkMore
import Derived.ScopeJumps
namespace Go.Proofs.YtkiocjbooegajarDoor
open Go.RowKit
theorem low_bit (y r : Nat) (h : r < 8) : y % 256 / 2 ^ r % 2 = y / 2 ^ r % 2 := by
  rcases show r = 0 ∨ r = 1 ∨ r = 2 ∨ r = 3 ∨ r = 4 ∨ r = 5 ∨ r = 6 ∨ r = 7 by omega with rfl | rfl | rfl | rfl | rfl | rfl | rfl | rfl <;> simp only [Nat.reducePow] <;> omega
theorem bit_at (s : ByteArray) (i r : Nat) (hr : r < 8) (hi : i < s.size) : valC 256 (bysN s) / 2 ^ (8 * i + r) % 2 = s[i].toNat / 2 ^ r % 2 := by
  have h1 := dig_valC 256 (bysN s) (by omega) (bysN_lt s)
  have h2 := dig_at 256 (bysN s).length (valC 256 (bysN s)) i (by rw [bysN_len]; exact hi)
  rw [h1, pow_256] at h2
  have h3 : (bysN s)[i]? = some s[i].toNat := by
    unfold bysN
    rw [List.getElem?_map, List.getElem?_eq_getElem (show i < s.data.toList.length from hi)]
    rfl
  rw [h3] at h2
  rw [Option.some.inj h2, low_bit _ _ hr, Nat.div_div_eq_div_mul, ← Nat.pow_add]
theorem valS_lt (s : ByteArray) : valC 256 (bysN s) < 2 ^ (8 * s.size) := by
  have h := valC_lt 256 (bysN s) (bysN_lt s)
  rw [bysN_len, pow_256] at h
  exact h
theorem set_iv9 (l : List Int) (k : Nat) (z : Int) : (l.map iv).set k (.int .i64 z) = (l.set k z).map iv := by rw [List.map_set]; rfl
theorem own_new (w : World) (T : TypeId) (n : Nat) (l : List Value) (hl : l.length = n) (hn : n ≤ maxLen) : OwnV (w.alloc (.cells l.toArray T)) w.heap.size T (.slice (some ⟨w.heap.size, 0, none⟩) n n) l := by
  subst hl
  exact ⟨by simp, .inr ⟨w.heap.size, l.length, _, rfl, Nat.le_refl _, heap_alloc_new w _, Nat.le_refl _, hn, by simp, by simp [List.take_of_length_le]⟩⟩
theorem made_int (n : Nat) : madeCells #[Value.int .i64 0] n = ((List.replicate n (0 : Int)).map iv).toArray := by
  have h := madeI n
  rw [Nat.mul_one] at h
  apply Array.toList_inj.1
  rw [show (#[Value.int .i64 0] : Array Value) = (Value.int .i64 0).cells from rfl, h, List.map_replicate]
  rfl
theorem wpList_load_bits {ops : Array Oper} {rest : List Oper} {o : Oper} {a : Act} {w : World} {Q : Exit → Act → World → Prop} (hgd : o.guard = none) (ho : o.op = .load 43 (.global 0)) (hL : LaidB w)
    (h : wpList Tryd.prog ops Q rest (a.put o.dst bitsV) w) : wpList Tryd.prog ops Q (o :: rest) a w := by
  obtain ⟨T, fr, hrow⟩ := hL.row
  exact wpList_load_row hgd 43 (.global 0) ho 0 rfl T _ fr _ hrow Tryd.underlying43 rfl (by kernel_rfl) h
set_option maxRecDepth 20000 in
set_option maxHeartbeats 1000000 in
theorem numbersIn_any (s : ByteArray) (b n : Nat) (hb : 1 ≤ b ∧ b ≤ 12) (hn : n ≤ 1000) (hs : s.size = byN n b) (w : World) (hL : LaidB w) :
    Calls Tryd.prog 27 #[.string s, .int .i64 (b : Int), .int .i64 (n : Int)] w fun e w' => (∃ v, e = .returned (.tuple #[v, .bool (upOk s (b : Int) (n : Int))]) ∧ OwnV w' w.heap.size 3 v ((upL s (b : Int) (n : Int)).map iv)) ∧ Below w.heap.size w w' := by
  obtain ⟨i0, hi, hz0, hz1, hz2⟩ := info_parts infoInt
  obtain ⟨S, hS⟩ : ∃ S, S = valC 256 (bysN s) := ⟨_, rfl⟩
  obtain ⟨L, hLs⟩ : ∃ L, L = s.size := ⟨_, rfl⟩
  have HBit := hide (fun (i r : Nat) (hr : r < 8) (hi : i < s.size) => bit_at s i r hr hi)
  have HSl := hide (valS_lt s)
  have EO := hide (show upOk s (b : Int) (n : Int) = decide (S / 2 ^ (b * n) = 0) by
    unfold upOk
    rw [decide_eq_true (show (1 : Int) ≤ (b : Int) ∧ (b : Int) ≤ 12 by omega), decide_eq_true (show (0 : Int) ≤ (n : Int) ∧ (n : Int) ≤ 1000 by omega), Int.toNat_natCast, Int.toNat_natCast, decide_eq_true hs, ← hS]; rfl)
  have EL := hide (show upL s (b : Int) (n : Int) = if S / 2 ^ (b * n) = 0 then digI b n S else [] by
    unfold upL
    rw [unhide EO]
    unfold upN digI
    rw [Int.toNat_natCast, Int.toNat_natCast, ← hS]
    by_cases h : S / 2 ^ (b * n) = 0
    · rw [if_pos (decide_eq_true h), if_pos h]
    · rw [if_neg (by rw [decide_eq_false h]; decide), if_neg h])
  rw [← hS, ← hLs] at HSl
  have hLb : L ≤ 1501 := by
    rw [hLs, hs]; unfold byN
    have : n * b ≤ 1000 * 12 := Nat.mul_le_mul hn hb.2
    omega
  rw [← hS] at HBit
  obtain ⟨p2, hp2⟩ : ∃ p : Nat, p = 2 ^ b := ⟨_, rfl⟩
  have hw2 := wrap_two b p2 (by omega) hp2
  have hb0 : (0 : Int) ≤ (b : Int) := by omega
  have hb6 : (b : Int) ≤ 64 := by omega
  have hsz : (s.size : Int) = (L : Int) := by omega
  replace hS := hide hS; replace hs := hide hs; replace hp2 := hide hp2
  go_enter Tryd.func27, Tryd.ntmps27
  have hmk := run_make_row' (P := Tryd.prog) 22 3 (.int .i64 0) 8 Tryd.underlying22 infoInt rfl .i64 .i64 n (by omega) (by omega) w
  rw [made_int n, ← digI_zero b n] at hmk
  have hB1 : Below w.heap.size w (w.alloc (.cells ((digI b n 0).map iv).toArray 3)) := (Below.refl _ _).alloc (Nat.le_refl _) _
  have hO1 := own_new w 3 n ((digI b n 0).map iv) (by rw [List.length_map, digI_len]) (by unfold maxLen; omega)
  generalize w.alloc (.cells ((digI b n 0).map iv).toArray 3) = w1 at *
  replace hO1 := hide hO1
  go_wp2
  refine wp_scope_jumps 0 (fun a' w' => (∃ (u0 u1 u2 u3 u4 u5 u6 u7 u8 u9 u10 u11 u12 u13 u14 u15 u16 u17 u18 u19 u20 u21 u22 u23 u24 u25 u26 u27 u28 u29 u30 u31 u32 u33 u34 u35 u36 u37 u38 u39 u40 u41 u42 u43 u44 u45 u46 u47 u48 u49 u50 u51 : Value), a' = { tmps := #[u0, u1, u2, u3, u4, u5, u6, u7, u8, u9, u10, u11, u12, u13, u14, u15, u16, u17, u18, u19, u20, u21, u22, u23, u24, u25, u26, u27, u28, u29, u30, u31, u32, u33, u34, u35, u36, u37, u38, u39, u40, u41, u42, u43, u44, u45, u46, u47, u48, u49, u50, u51], defers := [] }) ∧ Hid (¬ S / 2 ^ (b * n) = 0) ∧ Below w.heap.size w w') (fun _ _ => 0) rfl ?_ ?_
  rotate_left
  · rintro a' w' ⟨⟨u0, u1, u2, u3, u4, u5, u6, u7, u8, u9, u10, u11, u12, u13, u14, u15, u16, u17, u18, u19, u20, u21, u22, u23, u24, u25, u26, u27, u28, u29, u30, u31, u32, u33, u34, u35, u36, u37, u38, u39, u40, u41, u42, u43, u44, u45, u46, u47, u48, u49, u50, u51, rfl⟩, hne, hB⟩
    go_wp2
    simp only [Exit.jump]
    refine bodyPost_ret (v := .tuple #[.slice none 0 0, .bool false]) (by simp [results, Tryd.results27, go_sem]) rfl ⟨⟨_, by rw [unhide EO, decide_eq_false (unhide hne)], by rw [unhide EL, if_neg (unhide hne)]; exact OwnV.nil _ _ _⟩, hB⟩
  go_wp2
  go_loopw [9, 10, 18] (fun ta tu ti wr => ∃ i k u p : Nat, i ≤ L ∧ u < b ∧ k ≤ 8 * i ∧ ti = .int .i64 (i : Int) ∧ ta = .int .i64 (k : Int) ∧ tu = .int .i64 (p : Int) ∧ Hid (p = 2 ^ u) ∧ Hid (8 * i = b * k + u) ∧ Hid (S % 2 ^ (8 * i) < 2 ^ (b * n)) ∧ Hid (OwnV wr w.heap.size 3 (.slice (some ⟨w.heap.size, 0, none⟩) n n) ((digI b n (S % 2 ^ (8 * i))).map iv)) ∧ Below w.heap.size w wr) (fun _ _ ti _ => L - (intOf ti).toNat)
  case atStart => exact ⟨0, 0, 0, 1, by omega, by omega, by omega, rfl, rfl, rfl, hide rfl, hide (by omega), hide (by rw [Nat.mul_zero, Nat.pow_zero, Nat.mod_one]; exact Nat.pow_pos (by omega)), hide (by rw [Nat.mul_zero, Nat.pow_zero, Nat.mod_one]; exact unhide hO1), hB1⟩
  case round =>
    clear hO1 hB1 hmk
    obtain ⟨i, k, u, p, hiL, hub, hk8, rfl, rfl, rfl, hp, hPk, hSV, HO, hB⟩ := hrel
    by_cases hlt : i < L
    · have hi' : (i : Int) < (L : Int) := by omega
      have hci : (0 : Int) ≤ (i : Int) := by omega
      have his : i < s.size := by omega
      have hidx : (i : Int) < (s.size : Int) := by omega
      obtain ⟨x, hx⟩ : ∃ x : Nat, s[i].toNat = x := ⟨_, rfl⟩
      have hx256 : x < 256 := by rw [← hx]; exact UInt8.toNat_lt _
      have HBi := hide (fun (r : Nat) (hr : r < 8) => (unhide HBit) i r hr his)
      rw [hx] at HBi
      have hLr := hL.below hB
      go_wp2_with (refine wpList_load_bits rfl rfl hLr ?_)
      go_loopw [9, 10, 22] (fun ta tu tr wq => ∃ r k u p : Nat, r ≤ 8 ∧ u < b ∧ k ≤ 8 * i + r ∧ tr = .int .i64 (r : Int) ∧ ta = .int .i64 (k : Int) ∧ tu = .int .i64 (p : Int) ∧ Hid (p = 2 ^ u) ∧ Hid (8 * i + r = b * k + u) ∧ Hid (S % 2 ^ (8 * i + r) < 2 ^ (b * n)) ∧ Hid (OwnV wq w.heap.size 3 (.slice (some ⟨w.heap.size, 0, none⟩) n n) ((digI b n (S % 2 ^ (8 * i + r))).map iv)) ∧ Below w.heap.size w wq) (fun _ _ tr _ => 8 - (intOf tr).toNat)
      case atStart => exact ⟨0, k, u, p, by omega, hub, by omega, rfl, rfl, rfl, hp, hPk, hSV, HO, hB⟩
      case round =>
        clear HO hB hSV hPk hp hub hk8 hLr
        obtain ⟨r, k, u, p, hr8, hub, hk8, rfl, rfl, rfl, hp, hPk, hSV, HO, hB⟩ := hrel
        by_cases hltr : r < 8
        · have hr' : (r : Int) < 8 := by omega
          have hr0 : (0 : Int) ≤ (r : Int) := by omega
          have I1 := idx8v r hr'
          have HBr := unhide HBi r hltr
          have hM := mod_bit S (8 * i + r)
          have hVP : S % 2 ^ (8 * i + r) < 2 ^ (8 * i + r) := Nat.mod_lt _ (Nat.pow_pos (by omega))
          have hpr : 2 ^ r ≤ 128 := Nat.pow_le_pow_right (n := 2) (by omega) (show r ≤ 7 by omega)
          have hpr0 : 0 < 2 ^ r := Nat.pow_pos (by omega)
          have hand := u8_and9 x (2 ^ r) hx256 (by omega)
          rw [and_bit] at hand
          have hP : 8 * i + r + 1 = 8 * i + (r + 1) := by omega
          rw [hP] at hM
          obtain ⟨q, hq⟩ : ∃ q : Nat, q = 2 ^ r := ⟨_, rfl⟩
          rw [← hq] at I1 hand hpr hpr0 HBr
          obtain ⟨p3, hp3⟩ : ∃ p3 : Nat, p3 = 2 * p := ⟨_, rfl⟩
          have hpb : p ≤ 2048 := by rw [unhide hp]; exact Nat.pow_le_pow_right (n := 2) (by omega) (show u ≤ 11 by omega)
          have w1 : IntKind.i64.wrap ((p : Int) * 2) = (p3 : Int) := by rw [IntKind.wrap_i64]; omega
          have hp3e := hide (show p3 = 2 ^ (u + 1) by rw [hp3, unhide hp, Nat.pow_succ, Nat.mul_comm])
          obtain ⟨V2, hV2⟩ : ∃ V2, V2 = S % 2 ^ (8 * i + (r + 1)) := ⟨_, rfl⟩
          rw [← hV2] at hM
          rw [HBr] at hM
          have hPk' := unhide hPk
          rw [hPk'] at hM hVP
          have hPke := hide hPk'
          have HO' : Hid (OwnV wr w.heap.size 3 (.slice (some ⟨w.heap.size, 0, none⟩) n n) ((digI b n (S % 2 ^ (b * k + u))).map iv)) := by rw [← hPk']; exact HO
          have hSV' : Hid (S % 2 ^ (b * k + u) < 2 ^ (b * n)) := by rw [← hPk']; exact hSV
          clear HO hSV hPk hPk'
          have hq0 : ¬ (q : Int) = 0 := by omega
          have hk1 : k ≤ 12016 := by omega
          replace hq := hide hq; replace hp3 := hide hp3; replace hP := hide hP
          -- the end of the round, for every world
          have FIN := hide (show ∀ wz : World, Hid (V2 < 2 ^ (b * n)) → Hid (OwnV wz w.heap.size 3 (.slice (some ⟨w.heap.size, 0, none⟩) n n) ((digI b n V2).map iv)) → (Hid (S % 2 ^ (8 * i + (r + 1)) < 2 ^ (b * n)) ∧ Hid (OwnV wz w.heap.size 3 (.slice (some ⟨w.heap.size, 0, none⟩) n n) ((digI b n (S % 2 ^ (8 * i + (r + 1)))).map iv))) from fun wz h1 h2 => by rw [← hV2]; exact ⟨h1, h2⟩)
          replace hV2 := hide hV2
          by_cases hbit : x / q % 2 = 1
          · rw [if_pos hbit] at hand
            rw [hbit, Nat.mul_one] at hM
            by_cases hkn : k < n
            · have hkn' : ¬ (n : Int) ≤ (k : Int) := by omega
              have hkn2 : (k : Int) < (n : Int) := by omega
              have hk0 : (0 : Int) ≤ (k : Int) := by omega
              obtain ⟨A1, A2⟩ := digI_at b n (S % 2 ^ (b * k + u)) k u hkn hub hVP
              have HS := digI_bit b n k u (S % 2 ^ (b * k + u)) hub hVP
              rw [← hM] at HS
              have hbk : b * k + b ≤ b * n := by have := Nat.mul_le_mul_left b hkn; rw [Nat.succ_eq_add_one, Nat.mul_add, Nat.mul_one] at this; exact this
              have hV2b := hide (show V2 < 2 ^ (b * n) by
                have h3 : 2 ^ (b * k + u + 1) ≤ 2 ^ (b * n) := Nat.pow_le_pow_right (by omega) (by omega)
                rw [Nat.pow_succ] at h3
                omega)
              rw [← unhide hp] at A2 HS
              generalize S % 2 ^ (b * k + u) = V at *
              generalize V / 2 ^ (b * k) = x0 at *
              obtain ⟨z9, hz9⟩ : ∃ z9 : Nat, z9 = x0 + p := ⟨_, rfl⟩
              rw [← hz9] at HS
              have hz9b : z9 ≤ 4096 := by omega
              have w2 : IntKind.i64.wrap ((x0 : Int) + (p : Int)) = (z9 : Int) := by rw [IntKind.wrap_i64]; omega
              have w3 : (x0 : Int) + (p : Int) = (z9 : Int) := by omega
              have cu := (unhide HO').cell (get_iv _ k (by rw [digI_len]; exact hkn))
              rw [A1] at cu
              have cz := (unhide HO').frozen k
              have HO2 := hide (show OwnV (wr.setCell ⟨w.heap.size, k, none⟩ (.int .i64 (z9 : Int))) w.heap.size 3 (.slice (some ⟨w.heap.size, 0, none⟩) n n) ((digI b n V2).map iv) by
                have h := OwnV.set (w := wr) (unhide HO') k (.int .i64 (z9 : Int))
                rw [set_iv9, ← HS] at h
                exact h)
              have hB2 := hB.setCell (p := ⟨w.heap.size, k, none⟩) (Nat.le_refl _) (.int .i64 (z9 : Int))
              obtain ⟨F1, F2⟩ := unhide FIN _ hV2b HO2
              clear HO' A1 A2 HS hVP
              replace hM := hide hM; replace HBr := hide HBr; replace hz9 := hide hz9; replace hbit := hide hbit; replace hbk := hide hbk
              by_cases hend : p3 = p2
              · have hend' : (p3 : Int) = (p2 : Int) := by omega
                have hub2 : u + 1 = b := by
                  have h1 := unhide hp3e; have h2 := unhide hp2
                  rw [h1, h2] at hend
                  exact (Nat.pow_right_inj (by omega)).1 hend
                have hPn := hide (show 8 * i + (r + 1) = b * (k + 1) + 0 by have := unhide hPke; rw [Nat.mul_add, Nat.mul_one]; omega)
                replace hub2 := hide hub2; replace hend := hide hend
                go_wp2
                exact ⟨⟨r + 1, k + 1, 0, 1, by omega, by omega, by omega, by go_num, by go_num, rfl, hide rfl, hPn, F1, F2, hB2⟩, by simp [intOf]; omega⟩
              · have hend' : ¬ (p3 : Int) = (p2 : Int) := by omega
                have hub2 : u + 1 < b := by
                  rcases Nat.lt_or_ge (u + 1) b with h | h
                  · exact h
                  · exfalso
                    have h3 : u + 1 = b := by omega
                    exact hend (by rw [unhide hp3e, unhide hp2, h3])
                have hPn := hide (show 8 * i + (r + 1) = b * k + (u + 1) by have := unhide hPke; omega)
                replace hend := hide hend
                go_wp2
                exact ⟨⟨r + 1, k, u + 1, p3, by omega, hub2, by omega, by go_num, by first | rfl | trivial, by first | rfl | trivial, hp3e, hPn, F1, F2, hB2⟩, by simp [intOf]; omega⟩
            · have hkn' : (n : Int) ≤ (k : Int) := by omega
              have hne := hide (show ¬ S / 2 ^ (b * n) = 0 by
                intro h0
                have h1 : S < 2 ^ (b * n) := (Nat.div_eq_zero_iff_lt (Nat.pow_pos (by omega))).1 h0
                have h2 : 2 ^ (b * n) ≤ 2 ^ (b * k + u) := Nat.pow_le_pow_right (by omega) (by have := Nat.mul_le_mul_left b (show n ≤ k by omega); omega)
                rw [unhide hPke, Nat.div_eq_of_lt (by omega), Nat.zero_mod] at HBr
                omega)
              clear HO' hVP
              replace hM := hide hM; replace HBr := hide HBr; replace hbit := hide hbit
              go_wp2
              go_step3
              exact ⟨rfl, ⟨_, _, _, _, _, _, _, _, _, _, _, _, _, _, _, _, _, _, _, _, _, _, _, _, _, _, _, _, _, _, _, _, _, _, _, _, _, _, _, _, _, _, _, _, _, _, _, _, _, _, _, _, rfl⟩, hne, hB⟩
          · rw [if_neg hbit] at hand
            have hx2 : x / q % 2 = 0 := by omega
            rw [hx2, Nat.mul_zero, Nat.add_zero] at hM
            obtain ⟨F1, F2⟩ := unhide FIN wr (by rw [hM]; exact hSV') (by rw [hM]; exact HO')
            clear HO' hSV' hVP
            replace hM := hide hM; replace HBr := hide HBr; replace hbit := hide hbit; replace hx2 := hide hx2
            by_cases hend : p3 = p2
            · have hend' : (p3 : Int) = (p2 : Int) := by omega
              have hub2 : u + 1 = b := by
                have h1 := unhide hp3e; have h2 := unhide hp2
                rw [h1, h2] at hend
                exact (Nat.pow_right_inj (by omega)).1 hend
              have hPn := hide (show 8 * i + (r + 1) = b * (k + 1) + 0 by have := unhide hPke; rw [Nat.mul_add, Nat.mul_one]; omega)
              replace hub2 := hide hub2; replace hend := hide hend
              go_wp2
              exact ⟨⟨r + 1, k + 1, 0, 1, by omega, by omega, by omega, by go_num, by go_num, rfl, hide rfl, hPn, F1, F2, hB⟩, by simp [intOf]; omega⟩
            · have hend' : ¬ (p3 : Int) = (p2 : Int) := by omega
              have hub2 : u + 1 < b := by
                rcases Nat.lt_or_ge (u + 1) b with h | h
                · exact h
                · exfalso
                  have h3 : u + 1 = b := by omega
                  exact hend (by rw [unhide hp3e, unhide hp2, h3])
              have hPn := hide (show 8 * i + (r + 1) = b * k + (u + 1) by have := unhide hPke; omega)
              replace hend := hide hend
              go_wp2
              exact ⟨⟨r + 1, k, u + 1, p3, by omega, hub2, by omega, by go_num, by first | rfl | trivial, by first | rfl | trivial, hp3e, hPn, F1, F2, hB⟩, by simp [intOf]; omega⟩
        · have hr' : ¬ (r : Int) < 8 := by omega
          have hre : r = 8 := by omega
          subst hre
          have hPn := hide (show 8 * (i + 1) = b * k + u by have := unhide hPk; omega)
          go_wp2
          exact ⟨⟨i + 1, k, u, p, by omega, hub, by omega, by go_num, rfl, rfl, hp, hPn, hSV, HO, hB⟩, by simp [intOf]; omega⟩
    · have hi' : ¬ (i : Int) < (L : Int) := by omega
      have hie : i = L := by omega
      have hSS : S % 2 ^ (8 * i) = S := by rw [hie]; exact Nat.mod_eq_of_lt (unhide HSl)
      rw [hSS] at HO hSV
      have h0 : S / 2 ^ (b * n) = 0 := Nat.div_eq_of_lt (unhide hSV)
      have E1 := hide (show upOk s (b : Int) (n : Int) = true by rw [unhide EO]; exact decide_eq_true h0)
      have E2 := hide (show upL s (b : Int) (n : Int) = digI b n S by rw [unhide EL, if_pos h0])
      replace hie := hide hie; replace hSS := hide hSS; replace h0 := hide h0
      go_wp2
      simp only [Exit.jump]
      refine bodyPost_ret (v := .tuple #[.slice (some ⟨w.heap.size, 0, none⟩) n n, .bool true]) (by simp [results, Tryd.results27, go_sem]) rfl ⟨⟨_, by rw [unhide E1], by rw [unhide E2]; exact unhide HO⟩, hB⟩
end Go.Proofs.YtkiocjbooegajarDoor
