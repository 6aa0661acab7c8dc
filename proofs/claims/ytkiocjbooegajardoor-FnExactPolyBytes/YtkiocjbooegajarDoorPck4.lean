/- Unpack by the given model, over the loaded program. -/
import Derived.Test.YtkiocjbooegajarDoorPck2
import Derived.Test.YtkiocjbooegajarDoorPly3
import Derived.Deep.RegionHeld3
namespace Go.Proofs.YtkiocjbooegajarDoor
open Go.RowKit
theorem valC_app (c : Nat) (l m : List Nat) : valC c (l ++ m) = valC c l + c ^ l.length * valC c m := by
  induction l with
  | nil => show valC c m = 0 + c ^ 0 * valC c m; rw [Nat.pow_zero]; omega
  | cons y ys ih =>
    show y + c * valC c (ys ++ m) = y + c * valC c ys + c ^ (ys.length + 1) * valC c m
    rw [ih, Nat.pow_succ, Nat.mul_add, ← Nat.mul_assoc, Nat.mul_comm c (c ^ ys.length)]
    omega
def bysN (s : ByteArray) : List Nat := s.data.toList.map (·.toNat)
theorem bysN_len (s : ByteArray) : (bysN s).length = s.size := by unfold bysN; rw [List.length_map]; rfl
theorem bysN_lt (s : ByteArray) : ∀ x ∈ bysN s, x < 256 := by
  intro x hx
  obtain ⟨y, _, rfl⟩ := List.mem_map.1 hx
  exact y.toNat_lt
theorem uN_rest (xs : List Nat) (at' : Nat) (h : at' ≤ xs.length) : ∃ r, valC 256 xs = pN 8 xs at' + 2 ^ (8 * at') * r := by
  refine ⟨valC 256 (xs.drop at'), ?_⟩
  have e : xs = xs.take at' ++ xs.drop at' := (List.take_append_drop _ _).symm
  have h1 := valC_app 256 (xs.take at') (xs.drop at')
  rw [← e, List.length_take, Nat.min_eq_left h, pow_256] at h1
  exact h1
theorem div_add2 {N ct B T x : Nat} (h : ct + B = T) : (N + 2 ^ T * x) / 2 ^ B = N / 2 ^ B + x * 2 ^ ct := by
  rw [← h, Nat.pow_add, Nat.mul_comm (2 ^ ct) (2 ^ B), Nat.mul_assoc, Nat.add_mul_div_left _ _ (Nat.pow_pos (by omega)), Nat.mul_comm x]
theorem mod_same {A x b ct : Nat} (h : b ≤ ct) : (A + x * 2 ^ ct) % 2 ^ b = A % 2 ^ b := by
  obtain ⟨d, rfl⟩ : ∃ d, ct = b + d := ⟨ct - b, by omega⟩
  rw [Nat.pow_add, ← Nat.mul_assoc, Nat.mul_comm x, Nat.mul_assoc, Nat.add_mul_mod_self_left]
theorem div_next (N b i : Nat) : N / 2 ^ (b * i) / 2 ^ b = N / 2 ^ (b * (i + 1)) := by rw [Nat.div_div_eq_div_mul, ← Nat.pow_add, Nat.mul_add, Nat.mul_one]
/-- Whether s is a packing of n numbers of so many bits. -/
def upOk (s : ByteArray) (bits n : Int) : Bool := decide (1 ≤ bits ∧ bits ≤ 12) && (decide (0 ≤ n ∧ n ≤ 1000) && (decide (s.size = byN n.toNat bits.toNat) && decide (valC 256 (bysN s) / 2 ^ (bits.toNat * n.toNat) = 0)))
def upL (s : ByteArray) (bits n : Int) : List Int := if upOk s bits n = true then (upN bits.toNat n.toNat (bysN s)).map (fun (x : Nat) => (x : Int)) else []
def digI (b i S : Nat) : List Int := (dig (2 ^ b) i S).map fun (x : Nat) => (x : Int)
theorem digI_add (b i S : Nat) : digI b (i + 1) S = digI b i S ++ [((S / 2 ^ (b * i) % 2 ^ b : Nat) : Int)] := by
  unfold digI
  rw [dig_add, List.map_append, ← Nat.pow_mul]
  rfl
theorem digI_len (b i S : Nat) : (digI b i S).length = i := by unfold digI; rw [List.length_map, dig_len]
set_option maxRecDepth 20000 in
set_option maxHeartbeats 1000000 in
theorem specUnpack_any (s : ByteArray) (bits n : Int) (hs : s.size ≤ 1048576) (w : World) :
    Calls Tryd.prog 17 #[.string s, .int .i64 bits, .int .i64 n] w fun e w' => (∃ v, e = .returned (.tuple #[v, .bool (upOk s bits n)]) ∧ OwnV w' w.heap.size 3 v ((upL s bits n).map iv)) ∧ Below w.heap.size w w' := by
  obtain ⟨i0, hi, hz0, hz1, hz2⟩ := info_parts infoInt
  have hB0 : Below w.heap.size w (w.alloc (.cells #[] 3)) := (Below.refl _ _).alloc (Nat.le_refl _) _
  have hO0 : OwnV (w.alloc (.cells #[] 3)) w.heap.size 3 (.slice (some ⟨w.heap.size, 0, none⟩) 0 0) (([] : List Int).map iv) := World.ownsRow_made w #[] 0 (Nat.le_refl _) (by decide) (by simp)
  have hl0 : w.heap.size < (w.alloc (.cells #[] 3)).heap.size := by simp
  have C1 := hide (fun W => inb9 bits 1 12 W)
  have C2 := hide (fun W => inb9 n 0 1000 W)
  by_cases hb : 1 ≤ bits ∧ bits ≤ 12
  · rw [show decide ((1 : Int) ≤ bits ∧ bits ≤ 12) = true by rw [decide_eq_true_iff]; exact hb] at C1
    by_cases hn : 0 ≤ n ∧ n ≤ 1000
    · rw [show decide ((0 : Int) ≤ n ∧ n ≤ 1000) = true by rw [decide_eq_true_iff]; exact hn] at C2
      obtain ⟨b, rfl⟩ : ∃ b : Nat, bits = (b : Int) := ⟨bits.toNat, by omega⟩
      obtain ⟨k, rfl⟩ : ∃ k : Nat, n = (k : Int) := ⟨n.toNat, by omega⟩
      have hkb : k * b ≤ 1000 * 12 := Nat.mul_le_mul (by omega) (by omega)
      obtain ⟨m, hm⟩ : ∃ m : Nat, m = k * b := ⟨_, rfl⟩
      rw [← hm] at hkb
      obtain ⟨m7, hm7⟩ : ∃ m7 : Nat, m7 = m + 7 := ⟨_, rfl⟩
      obtain ⟨q, hq⟩ : ∃ q : Nat, q = m7 / 8 := ⟨_, rfl⟩
      have hby : byN k b = q := by unfold byN; rw [hq, hm7, hm]
      have u1 : IntKind.i64.wrap ((k : Int) * (b : Int)) = (m : Int) := by rw [show (k : Int) * (b : Int) = (m : Int) by rw [hm]; exact (Int.natCast_mul k b).symm, IntKind.wrap_i64]; omega
      have u2 : IntKind.i64.wrap ((m : Int) + 7) = (m7 : Int) := by rw [IntKind.wrap_i64]; omega
      have u3 : (m7 : Int).tdiv 8 = (q : Int) := by rw [Int.tdiv_eq_ediv_of_nonneg (by omega)]; omega
      have u3' : (m7 : Int) / 8 = (q : Int) := by omega
      have u4 : IntKind.i64.wrap (q : Int) = (q : Int) := by rw [IntKind.wrap_i64]; omega
      have hb1 : 1 ≤ b ∧ b ≤ 12 := by omega
      have hk1 : k ≤ 1000 := by omega
      by_cases hl : s.size = q
      · have hl' : (s.size : Int) = (q : Int) := by omega
        have hqm := hide (show 8 * q ≤ m + 7 ∧ m ≤ 8 * q by omega)
        replace hm7 := hide hm7; replace hq := hide hq
        obtain ⟨S, hS⟩ : ∃ S, S = valC 256 (bysN s) := ⟨_, rfl⟩
        obtain ⟨p, hp⟩ : ∃ p : Nat, p = 2 ^ b := ⟨_, rfl⟩
        have hpb : 2 ≤ p ∧ p ≤ 4096 := by rw [hp]; exact ⟨two_le 1 b (by omega), two_le b 12 (by omega)⟩
        have CT := hide (fun W => two_any b (by omega) W)
        rw [← hp] at CT
        have HT := hide (show ∀ a, a < q → pN 8 (bysN s) (a + 1) = pN 8 (bysN s) a + 2 ^ (8 * a) * (bysN s)[a]! from fun a ha => by
          rw [pN_add 8 (bysN s) a (by rw [bysN_len]; omega), getElem!_pos (bysN s) a (by rw [bysN_len]; omega)])
        have HR := hide (show ∀ a, a ≤ q → ∃ r, S = pN 8 (bysN s) a + 2 ^ (8 * a) * r from fun a ha => by
          rw [hS]; exact uN_rest (bysN s) a (by rw [bysN_len]; omega))
        have HSq := hide (show pN 8 (bysN s) q = S by rw [hS, ← hl, ← bysN_len]; exact pN_all 8 (bysN s))
        have EO := hide (show upOk s (b : Int) (k : Int) = decide (S / 2 ^ (b * k) = 0) by
          unfold upOk
          rw [decide_eq_true hb, decide_eq_true hn, Int.toNat_natCast, Int.toNat_natCast, hby, decide_eq_true hl, ← hS]; rfl)
        have EL := hide (show upL s (b : Int) (k : Int) = if S / 2 ^ (b * k) = 0 then digI b k S else [] by
          unfold upL
          rw [unhide EO]
          unfold upN digI
          rw [Int.toNat_natCast, Int.toNat_natCast, ← hS]
          by_cases h : S / 2 ^ (b * k) = 0
          · rw [if_pos (decide_eq_true h), if_pos h]
          · rw [if_neg (by rw [decide_eq_false h]; decide), if_neg h])
        have HLt := hide (fun a => pN_lt 8 (bysN s) a (bysN_lt s))
        have HBy := hide (show ∀ a, a < q → ∃ x : Nat, x < 256 ∧ (bysN s)[a]! = x ∧ ∀ h : a < s.size, (s[a]'h).toNat = x from fun a ha => by
          have h1 : a < s.data.toList.length := by show a < s.size; omega
          have h2 : a < (bysN s).length := by rw [bysN_len]; omega
          refine ⟨(s.data.toList[a]).toNat, UInt8.toNat_lt _, ?_, ?_⟩
          · rw [getElem!_pos (bysN s) a h2]; exact List.getElem_map _
          · intro h; rfl)
        replace hS := hide hS; replace hp := hide hp; replace hm := hide hm
        go_enter Tryd.func17, Tryd.ntmps17
        go_wp2_with fail
        refine ((unhide C1) _).mono ?_
        rintro e w1 ⟨rfl, rfl⟩
        go_wp2_with fail
        refine ((unhide C2) _).mono ?_
        rintro e w1 ⟨rfl, rfl⟩
        generalize w.alloc (.cells #[] 3) = w1 at *
        go_wp2
        go_loopw [8, 9, 10, 11, 12] (fun tv th tc ta ti wr => ∃ i a hv ct : Nat, i ≤ k ∧ ct < 8 ∧ Hid (ct + b * i = 8 * a) ∧ a ≤ q ∧ Hid (hv = pN 8 (bysN s) a / 2 ^ (b * i)) ∧ ti = .int .i64 (i : Int) ∧ th = .int .i64 (hv : Int) ∧ tc = .int .i64 (ct : Int) ∧ ta = .int .i64 (a : Int) ∧ Hid (OwnV wr w.heap.size 3 tv ((digI b i S).map iv)) ∧ Below w.heap.size w wr) (fun _ _ _ _ ti _ => k - (intOf ti).toNat)
        case atStart => exact ⟨0, 0, 0, 0, by omega, by omega, hide (by omega), by omega, hide (by unfold pN; rw [List.take_zero]; show 0 = 0 / 2 ^ (b * 0); rw [Nat.zero_div]), rfl, rfl, rfl, rfl, hide hO0, hB0⟩
        case round =>
          clear hO0 hB0 hl0
          obtain ⟨i, a, hv, ct, hik, hc8, hct, haq, hhv, rfl, rfl, rfl, rfl, HO, hB⟩ := hrel
          by_cases hlt : i < k
          · have hi' : (i : Int) < (k : Int) := by omega
            have hbi := hide (show b * (i + 1) ≤ m by rw [unhide hm, Nat.mul_comm k b]; exact Nat.mul_le_mul_left b hlt)
            have hbe := hide (show b * (i + 1) = b * i + b by rw [Nat.mul_add, Nat.mul_one])
            go_wp2
            go_loopw [9, 10, 11] (fun th tc ta wq => ∃ a hv ct : Nat, ct < b + 8 ∧ Hid (ct + b * i = 8 * a) ∧ a ≤ q ∧ Hid (hv = pN 8 (bysN s) a / 2 ^ (b * i)) ∧ th = .int .i64 (hv : Int) ∧ tc = .int .i64 (ct : Int) ∧ ta = .int .i64 (a : Int) ∧ Hid (OwnV wq w.heap.size 3 u8 ((digI b i S).map iv)) ∧ Below w.heap.size w wq) (fun _ tc _ _ => 100 - (intOf tc).toNat)
            case atStart => exact ⟨a, hv, ct, by omega, hct, haq, hhv, rfl, rfl, rfl, HO, hB⟩
            case round =>
              clear HO hB hct hhv haq hc8
              obtain ⟨a, hv, ct, hcb, hct, haq, hhv, rfl, rfl, rfl, HO, hB⟩ := hrel
              have hvb : hv < 2 ^ ct := by
                have h1 := unhide HLt a
                rw [unhide hhv, Nat.div_lt_iff_lt_mul (Nat.pow_pos (by omega)), ← Nat.pow_add, unhide hct]
                exact h1
              have hvb2 : hv < 1048576 := Nat.lt_of_lt_of_le hvb (two_le ct 20 (by omega))
              by_cases hltc : ct < b
              · have hc' : (ct : Int) < (b : Int) := by omega
                have haq2 : a < q := by
                  have h1 := unhide hct
                  have h2 := unhide hbi
                  have h3 := unhide hbe
                  have h4 := (unhide hqm).2
                  omega
                obtain ⟨x, hx, hxs, hxd0⟩ := unhide HBy a haq2
                have haS : a < s.size := by omega
                have hxd := hxd0 haS
                clear hxd0
                have hT1 := unhide HT a haq2
                rw [hxs] at hT1
                obtain ⟨c2, hc2⟩ : ∃ c2 : Nat, c2 = 2 ^ ct := ⟨_, rfl⟩
                have hc2b : 1 ≤ c2 ∧ c2 ≤ 4096 := by rw [hc2]; exact ⟨Nat.pow_pos (by omega), two_le ct 12 (by omega)⟩
                have CU := hide (fun W => two_any ct (by omega) W)
                rw [← hc2] at CU
                have hm2 : x * c2 ≤ 255 * 4096 := Nat.mul_le_mul (by omega) hc2b.2
                obtain ⟨y, hy⟩ : ∃ y : Nat, y = x * c2 := ⟨_, rfl⟩
                rw [← hy] at hm2
                obtain ⟨h2, hh2⟩ : ∃ h2 : Nat, h2 = hv + y := ⟨_, rfl⟩
                have HV := hide (show h2 = pN 8 (bysN s) (a + 1) / 2 ^ (b * i) by rw [hT1, div_add2 (unhide hct), ← unhide hhv, hh2, hy, hc2])
                have w1 : IntKind.i64.wrap ((x : Int) * (c2 : Int)) = (y : Int) := by rw [show (x : Int) * (c2 : Int) = (y : Int) by rw [hy]; exact (Int.natCast_mul x c2).symm, IntKind.wrap_i64]; omega
                have w2 : IntKind.i64.wrap ((hv : Int) + (y : Int)) = (h2 : Int) := by rw [IntKind.wrap_i64]; omega
                have w3 : IntKind.i64.wrap (x : Int) = (x : Int) := by rw [IntKind.wrap_i64]; omega
                have hcn := hide (show ct + 8 + b * i = 8 * (a + 1) by have := unhide hct; omega)
                have hidx : (a : Int) < (s.size : Int) := by omega
                have hi0' : (0 : Int) ≤ (a : Int) := by omega
                replace hc2 := hide hc2; replace hy := hide hy; replace hh2 := hide hh2; replace hT1 := hide hT1; replace hxs := hide hxs; replace hvb := hide hvb
                have HO5 : Hid (OwnV wr.drew w.heap.size 3 u8 ((digI b i S).map iv)) := hide (unhide HO)
                have hB5 := hB.drew
                have w4 : IntKind.i64.wrap ((ct : Int) + 8) = ((ct + 8 : Nat) : Int) := by rw [IntKind.wrap_i64]; omega
                have w5 : IntKind.i64.wrap ((a : Int) + 1) = ((a + 1 : Nat) : Int) := by rw [IntKind.wrap_i64]; omega
                clear HO hB
                go_wp2
                go_region_held3 (fun _ => True) (trivial) (first
                  | (go_at_call 20; refine ((unhide CU) _).mono ?_; rintro e w2 ⟨rfl, rfl⟩)
                  | fail)
                all_goals first | go_wp2 | skip
                all_goals exact ⟨⟨a + 1, h2, ct + 8, by omega, hcn, by omega, HV, by first | rfl | trivial, by go_num, by go_num, HO5, hB5⟩, by simp [intOf]; omega⟩
              · have hc' : ¬ (ct : Int) < (b : Int) := by omega
                obtain ⟨r, hr⟩ : ∃ r : Nat, r = hv % p := ⟨_, rfl⟩
                obtain ⟨h3, hh3⟩ : ∃ h : Nat, h = hv / p := ⟨_, rfl⟩
                obtain ⟨ct2, hct2⟩ : ∃ c : Nat, c = ct - b := ⟨_, rfl⟩
                have hrp : r < p := by rw [hr]; exact Nat.mod_lt _ (by omega)
                have hh3b : h3 ≤ hv := by rw [hh3]; exact Nat.div_le_self _ _
                obtain ⟨rest, hrest⟩ := unhide HR a haq
                have HD := hide (show digI b (i + 1) S = digI b i S ++ [(r : Int)] by
                  rw [digI_add, hr, unhide hp, unhide hhv, hrest, div_add2 (unhide hct), mod_same (by omega)])
                have HV := hide (show h3 = pN 8 (bysN s) a / 2 ^ (b * (i + 1)) by rw [← div_next, ← unhide hhv, ← unhide hp, hh3])
                have hcn := hide (show ct2 + b * (i + 1) = 8 * a by have h1 := unhide hct; have h2 := unhide hbe; omega)
                have v1' : (hv : Int) % (p : Int) = (r : Int) := by rw [hr]; exact (Int.natCast_emod hv p).symm
                have v1 : (hv : Int).tmod (p : Int) = (r : Int) := by rw [Int.tmod_eq_emod_of_nonneg (by omega)]; exact v1'
                have v2 : IntKind.i64.wrap (r : Int) = (r : Int) := by rw [IntKind.wrap_i64]; omega
                have v3' : (hv : Int) / (p : Int) = (h3 : Int) := by rw [hh3]; exact (Int.natCast_ediv hv p).symm
                have v3 : (hv : Int).tdiv (p : Int) = (h3 : Int) := by rw [Int.tdiv_eq_ediv_of_nonneg (by omega)]; exact v3'
                have v4 : IntKind.i64.wrap (h3 : Int) = (h3 : Int) := by rw [IntKind.wrap_i64]; omega
                have v5 : IntKind.i64.wrap ((ct : Int) - (b : Int)) = (ct2 : Int) := by rw [IntKind.wrap_i64]; omega
                have v6 : ¬ (p : Int) = 0 := by omega
                have hszB := hB.size
                have hl1 : ((digI b i S).map iv).length + 1 ≤ maxLen := by rw [List.length_map, digI_len]; unfold maxLen; omega
                have hl2 : (((digI b i S).map iv).length + 1) * 8 ≤ 140737488355328 := by rw [List.length_map, digI_len]; omega
                replace hl1 := hide hl1; replace hl2 := hide hl2
                have hc28 : ct2 < 8 := by omega
                replace hr := hide hr; replace hh3 := hide hh3; replace hct2 := hide hct2; replace hrest := hide hrest; replace hvb := hide hvb
                go_wp2_with fail
                refine ((unhide CT) wr).mono ?_
                rintro e w2 ⟨rfl, hw2⟩
                have hw3 := hw2.symm
                subst hw3
                clear hw2
                go_wp2_with (at_builtin; refine wpList_append_vals (w := wr) rfl (.tmp 54) (.tmp 59) 22 rfl w.heap.size w.heap.size 3 i0 (.int .i64 0) 8 Tryd.underlying22 hi hz0 hz1 hz2 rfl u8 ((digI b i S).map iv) rfl (unhide HO) #[.int .i64 (r : Int)] [.int .i64 (r : Int)] rfl (by intro u hu; simp only [List.mem_singleton] at hu; subst hu; rfl) 1 1 rfl rfl (unhide hl1) (unhide hl2) (Nat.le_refl _) hszB hB ?_; intro v' w5 hown5 hb5)
                rw [show (digI b i S).map iv ++ [.int .i64 (r : Int)] = (digI b (i + 1) S).map iv by rw [unhide HD, List.map_append]; rfl] at hown5
                replace hown5 := hide hown5
                clear HO
                refine ((unhide CT) w5).mono ?_
                rintro e w2 ⟨rfl, hw2⟩
                have hw3 := hw2.symm
                subst hw3
                clear hw2
                go_wp2
                exact ⟨⟨i + 1, a, h3, ct2, by omega, hc28, hcn, haq, HV, by go_num, by first | rfl | trivial, by first | rfl | trivial, by first | rfl | trivial, hown5, hb5⟩, by simp [intOf]; omega⟩
          · have hi' : ¬ (i : Int) < (k : Int) := by omega
            have hie : i = k := by omega
            have hae : a = q := by
              have h1 := unhide hct
              have h2 := unhide hqm
              have h3 : b * i = m := by rw [hie, unhide hm, Nat.mul_comm]
              omega
            have hhv2 : hv = S / 2 ^ (b * k) := by rw [unhide hhv, hae, unhide HSq, hie]
            have HO2 : Hid (OwnV wr w.heap.size 3 u8 ((digI b k S).map iv)) := hide (by rw [← hie]; exact unhide HO)
            replace hie := hide hie; replace hae := hide hae
            clear HO
            by_cases hz : hv = 0
            · have E1 := hide (show upOk s (b : Int) (k : Int) = true by rw [unhide EO, ← hhv2]; exact decide_eq_true hz)
              have E2 := hide (show upL s (b : Int) (k : Int) = digI b k S by rw [unhide EL, ← hhv2, if_pos hz])
              have hz' : ((hv : Int) == 0) = true := by rw [hz]; rfl
              replace hhv2 := hide hhv2; replace hz := hide hz
              go_wp2
              refine bodyPost_ret (v := .tuple #[u8, .bool true]) (by simp [results, Tryd.results17, go_sem]) rfl ⟨⟨u8, by rw [unhide E1], by rw [unhide E2]; exact unhide HO2⟩, hB⟩
            · have E1 := hide (show upOk s (b : Int) (k : Int) = false by rw [unhide EO, ← hhv2]; exact decide_eq_false hz)
              have E2 := hide (show upL s (b : Int) (k : Int) = [] by rw [unhide EL, ← hhv2, if_neg hz])
              have hz' : ((hv : Int) == 0) = false := by rw [beq_eq_false_iff_ne]; omega
              have hszB := hB.size
              replace hhv2 := hide hhv2; replace hz := hide hz
              go_wp2
              refine bodyPost_ret (v := .tuple #[.slice (some ⟨wr.heap.size, 0, none⟩) 0 0, .bool false]) (by simp [results, Tryd.results17, go_sem]) rfl ⟨⟨_, by rw [unhide E1], by rw [unhide E2]; exact World.ownsRow_made wr #[] 0 hszB (by decide) (by simp)⟩, hB.alloc hszB _⟩
      · have E1 := hide (show upOk s (b : Int) (k : Int) = false by unfold upOk; rw [Int.toNat_natCast, Int.toNat_natCast, hby, decide_eq_false hl, Bool.false_and, Bool.and_false, Bool.and_false])
        have E2 := hide (show upL s (b : Int) (k : Int) = [] by unfold upL; rw [unhide E1]; rfl)
        have hl' : ¬ (s.size : Int) = (q : Int) := by omega
        replace hm := hide hm; replace hm7 := hide hm7; replace hq := hide hq; replace hby := hide hby
        go_enter Tryd.func17, Tryd.ntmps17
        go_wp2_with fail
        refine ((unhide C1) _).mono ?_
        rintro e w1 ⟨rfl, rfl⟩
        go_wp2_with fail
        refine ((unhide C2) _).mono ?_
        rintro e w1 ⟨rfl, rfl⟩
        generalize w.alloc (.cells #[] 3) = w1 at *
        go_wp2
        refine bodyPost_ret (v := .tuple #[.slice (some ⟨w.heap.size, 0, none⟩) 0 0, .bool false]) (by simp [results, Tryd.results17, go_sem]) rfl ⟨⟨_, by rw [unhide E1], by rw [unhide E2]; exact hO0⟩, hB0⟩
    · rw [show decide ((0 : Int) ≤ n ∧ n ≤ 1000) = false by rw [decide_eq_false_iff_not]; exact hn] at C2
      have E1 := hide (show upOk s bits n = false by unfold upOk; rw [decide_eq_false hn, Bool.false_and, Bool.and_false])
      have E2 := hide (show upL s bits n = [] by unfold upL; rw [unhide E1]; rfl)
      go_enter Tryd.func17, Tryd.ntmps17
      go_wp2_with fail
      refine ((unhide C1) _).mono ?_
      rintro e w1 ⟨rfl, rfl⟩
      go_wp2_with fail
      refine ((unhide C2) _).mono ?_
      rintro e w1 ⟨rfl, rfl⟩
      generalize w.alloc (.cells #[] 3) = w1 at *
      go_wp2
      refine bodyPost_ret (v := .tuple #[.slice (some ⟨w.heap.size, 0, none⟩) 0 0, .bool false]) (by simp [results, Tryd.results17, go_sem]) rfl ⟨⟨_, by rw [unhide E1], by rw [unhide E2]; exact hO0⟩, hB0⟩
  · rw [show decide ((1 : Int) ≤ bits ∧ bits ≤ 12) = false by rw [decide_eq_false_iff_not]; exact hb] at C1
    have E1 := hide (show upOk s bits n = false by unfold upOk; rw [decide_eq_false hb, Bool.false_and])
    have E2 := hide (show upL s bits n = [] by unfold upL; rw [unhide E1]; rfl)
    go_enter Tryd.func17, Tryd.ntmps17
    go_wp2_with fail
    refine ((unhide C1) _).mono ?_
    rintro e w1 ⟨rfl, rfl⟩
    generalize w.alloc (.cells #[] 3) = w1 at *
    go_wp2
    refine bodyPost_ret (v := .tuple #[.slice (some ⟨w.heap.size, 0, none⟩) 0 0, .bool false]) (by simp [results, Tryd.results17, go_sem]) rfl ⟨⟨_, by rw [unhide E1], by rw [unhide E2]; exact hO0⟩, hB0⟩
end Go.Proofs.YtkiocjbooegajarDoor
