/- Polynomials by the project: products, over the loaded program. -/
import Derived.Test.YtdannnkdapbefacPlyC
namespace Go.Proofs.Ytdannnkdapbefac
open Go.RowKit
/-- The numbers, not yet taken modulo, when k columns of row i are in. -/
def stU (A B : Nat → Int) (i k : Nat) : List Int := mk256 fun t => sumN (fun j => tmC A B j t) i + if colT i t < k then tmC A B i t else 0
theorem stU_len (A B : Nat → Int) (i k : Nat) : (stU A B i k).length = 256 := mk256_len _
theorem stU_at (A B : Nat → Int) (i k t : Nat) (ht : t < 256) : cAt (stU A B i k) t = sumN (fun j => tmC A B j t) i + if colT i t < k then tmC A B i t else 0 := mk256_at _ t ht
theorem stU_zero (A B : Nat → Int) : stU A B 0 0 = List.replicate 256 0 := by
  refine ext_pl (stU_len _ _ _ _) (by rw [List.length_replicate]) fun t ht => ?_
  rw [stU_at _ _ _ _ t ht, if_neg (by omega)]
  show 0 + 0 = cAt zeroL t
  rw [zeroL_at t ht]
  rfl
theorem stU_next (A B : Nat → Int) (i : Nat) : stU A B i 256 = stU A B (i + 1) 0 := by
  refine ext_pl (stU_len _ _ _ _) (stU_len _ _ _ _) fun t ht => ?_
  rw [stU_at _ _ _ _ t ht, stU_at _ _ _ _ t ht, if_pos (by unfold colT; omega), if_neg (by omega)]
  show _ = sumN (fun j => tmC A B j t) i + tmC A B i t + 0
  omega
theorem stU_low (A B : Nat → Int) (i k : Nat) (hi : i < 256) (hk : k < 256) (h : i + k < 256) : (stU A B i k).set (i + k) (cAt (stU A B i k) (i + k) + A i * B k) = stU A B i (k + 1) := by
  refine ext_pl (by rw [List.length_set, stU_len]) (stU_len _ _ _ _) fun t ht => ?_
  rw [cAt_set _ _ _ _ (by rw [stU_len]; omega), stU_at _ _ _ _ t ht, stU_at _ _ _ _ t ht, stU_at _ _ _ _ (i + k) h]
  by_cases e : t = i + k
  · subst e
    rw [if_pos rfl, if_neg (by unfold colT; omega), if_pos (by unfold colT; omega)]
    unfold tmC
    rw [if_pos (by omega), show i + k - i = k by omega]
    generalize A i * B k = p
    generalize sumN _ i = s
    omega
  · rw [if_neg e]
    have hc : colT i t ≠ k := by unfold colT; omega
    by_cases h2 : colT i t < k
    · rw [if_pos h2, if_pos (by omega)]
    · rw [if_neg h2, if_neg (by omega)]
theorem stU_high (A B : Nat → Int) (i k t0 : Nat) (hi : i < 256) (hk : k < 256) (h : i + k = 256 + t0) : (stU A B i k).set t0 (cAt (stU A B i k) t0 - A i * B k) = stU A B i (k + 1) := by
  refine ext_pl (by rw [List.length_set, stU_len]) (stU_len _ _ _ _) fun t ht => ?_
  rw [cAt_set _ _ _ _ (by rw [stU_len]; omega), stU_at _ _ _ _ t ht, stU_at _ _ _ _ t ht, stU_at _ _ _ _ t0 (by omega)]
  by_cases e : t = t0
  · rw [if_pos e, ← e, if_neg (by unfold colT; omega), if_pos (by unfold colT; omega)]
    unfold tmC
    rw [if_neg (by omega), show t + 256 - i = k by omega]
    generalize A i * B k = p
    generalize sumN _ i = s
    omega
  · rw [if_neg e]
    have hc : colT i t ≠ k := by unfold colT; omega
    by_cases h2 : colT i t < k
    · rw [if_pos h2, if_pos (by omega)]
    · rw [if_neg h2, if_neg (by omega)]
theorem sumN_bound (f : Nat → Int) (M : Int) (n : Nat) (h : ∀ i, i < n → -M ≤ f i ∧ f i ≤ M) : -(n * M) ≤ sumN f n ∧ sumN f n ≤ n * M := by
  induction n with
  | zero => simp [sumN]
  | succ n ih =>
    have h1 := ih fun i hi => h i (by omega)
    have h2 := h n (by omega)
    have e : ((n + 1 : Nat) : Int) * M = n * M + M := by rw [Int.natCast_add, Int.add_mul, Int.natCast_one, Int.one_mul]
    rw [e]
    show -(n * M + M) ≤ sumN f n + f n ∧ sumN f n + f n ≤ n * M + M
    generalize (n : Int) * M = z at *
    omega
theorem tm_bound {A B : Nat → Int} (hA : ∀ i, i < 256 → 0 ≤ A i ∧ A i ≤ 3328) (hB : ∀ i, i < 256 → 0 ≤ B i ∧ B i ≤ 3328) (i t : Nat) (hi : i < 256) (ht : t < 256) : -11075584 ≤ tmC A B i t ∧ tmC A B i t ≤ 11075584 := by
  unfold tmC
  split
  · have h1 := hA i hi
    have h2 := hB (t - i) (by omega)
    have p1 : 0 ≤ A i * B (t - i) := Int.mul_nonneg h1.1 h2.1
    have p2 : A i * B (t - i) ≤ 3328 * 3328 := Int.mul_le_mul h1.2 h2.2 h2.1 (by omega)
    omega
  · have h1 := hA i hi
    have h2 := hB (t + 256 - i) (by omega)
    have p1 : 0 ≤ A i * B (t + 256 - i) := Int.mul_nonneg h1.1 h2.1
    have p2 : A i * B (t + 256 - i) ≤ 3328 * 3328 := Int.mul_le_mul h1.2 h2.2 h2.1 (by omega)
    omega
theorem stU_bound {A B : Nat → Int} (hA : ∀ i, i < 256 → 0 ≤ A i ∧ A i ≤ 3328) (hB : ∀ i, i < 256 → 0 ≤ B i ∧ B i ≤ 3328) (i k t : Nat) (hi : i < 256) (ht : t < 256) : -3000000000 ≤ cAt (stU A B i k) t ∧ cAt (stU A B i k) t ≤ 3000000000 := by
  rw [stU_at _ _ _ _ t ht]
  have h1 := sumN_bound (fun j => tmC A B j t) 11075584 i (fun j hj => tm_bound hA hB j t (by omega) ht)
  have h2 := tm_bound hA hB i t hi ht
  generalize sumN (fun j => tmC A B j t) i = s at *
  generalize tmC A B i t = u at *
  split <;> omega
/-- The numbers when the first k of them are taken modulo. -/
def finU (h : Nat → Int) (k : Nat) : List Int := mk256 fun t => if t < k then h t % 3329 else h t
theorem finU_len (h : Nat → Int) (k : Nat) : (finU h k).length = 256 := mk256_len _
theorem finU_at (h : Nat → Int) (k : Nat) (hk : k < 256) : cAt (finU h k) k = h k := by unfold finU; rw [mk256_at _ k hk, if_neg (by omega)]
theorem finU_zero (A B : Nat → Int) : stU A B 256 0 = finU (cfP A B) 0 := by
  refine ext_pl (stU_len _ _ _ _) (finU_len _ _) fun t ht => ?_
  unfold finU
  rw [stU_at _ _ _ _ t ht, mk256_at _ t ht, if_neg (by omega), if_neg (by omega)]
  show sumN (fun j => tmC A B j t) 256 + 0 = sumN (fun j => tmC A B j t) 256
  omega
theorem finU_end (h : Nat → Int) : finU h 256 = mk256 fun t => h t % 3329 := mk256_congr fun _ hi => if_pos hi
theorem finU_set (h : Nat → Int) (k : Nat) (hk : k < 256) : (finU h k).set k (h k % 3329) = finU h (k + 1) := by
  refine ext_pl (by rw [List.length_set, finU_len]) (finU_len _ _) fun t ht => ?_
  rw [cAt_set _ _ _ _ (by rw [finU_len]; exact hk)]
  unfold finU
  rw [mk256_at _ t ht, mk256_at _ t ht]
  by_cases e : t = k
  · rw [if_pos e, if_pos (by omega), e]
  · rw [if_neg e]
    by_cases h : t < k
    · rw [if_pos h, if_pos (by omega)]
    · rw [if_neg h, if_neg (by omega)]
set_option maxRecDepth 20000 in
set_option maxHeartbeats 800000 in
theorem times_room (a b : List Int) (va : Value) (g2 o2 c2 : Nat) (w : World) (ha : okPl a = true) (hb : okPl b = true) (ra : RdV w va (a.map iv)) (hg2 : g2 < w.heap.size) (D2 : ∀ k, k < 256 → w.cell? ⟨g2, o2 + k, none⟩ = some (.int .i64 (cAt b k))) (hgt : 256 < c2) :
    Calls Try.prog 45 #[va, .slice (some ⟨g2, o2, none⟩) 256 c2] w fun e w' => (∃ v, e = .returned v ∧ OwnV w' w.heap.size 3 v ((mulL a b).map iv)) ∧ Below w.heap.size w w' := by
  obtain ⟨i0, hi, hz0, hz1, hz2⟩ := info_parts infoInt
  obtain ⟨la, va'⟩ := okPl_yes ha
  obtain ⟨lb, vb'⟩ := okPl_yes hb
  have EF := hide (show mulL a b = finU (cfP (cAt a) (cAt b)) 256 by rw [finU_end]; exact mulL_is ha hb)
  have EZ := hide (finU_zero (cAt a) (cAt b))
  have UB := hide (fun i k t (h1 : i < 256) (h2 : t < 256) => stU_bound va' vb' i k t h1 h2)
  obtain ⟨a1, c1, rfl, hc1⟩ := ra.open
  rw [List.length_map, la]
  clear ra
  replace D2 := hide D2
  replace va' := hide va'; replace vb' := hide vb'; replace la := hide la; replace lb := hide lb
  go_enter Try.func45, Try.ntmps45
  go_wp2_with (at_make; refine wpList_make_full _ rfl _ _ 64 rfl w.heap.size 3 i0 (.int .i64 0) 1 Try.underlying64 hi hz0 hz1 _ _ _ _ 256 rfl rfl rfl rfl (by rw [hz2]; omega) (by unfold maxLen; omega) (Nat.le_refl _) ?_; intro w1 hown1 hgrow1)
  have hr0 : OwnV w1 w.heap.size 3 (.slice (some ⟨w.heap.size, 0, none⟩) 256 256) ((stU (cAt a) (cAt b) 0 0).map iv) := by
    rw [stU_zero]
    rw [madeI] at hown1
    unfold OwnV
    simpa [iv] using hown1
  have hb0 : Below w.heap.size w w1 := (Below.refl w.heap.size w).grown hgrow1 (Nat.le_refl _) (fun k hk => by cases hk)
  replace hr0 := hide hr0
  clear hown1 hgrow1
  go_loopw [17] (fun ti wr => ∃ i : Nat, i ≤ 256 ∧ ti = .int .i64 (i : Int) ∧ Hid (OwnV wr w.heap.size 3 (.slice (some ⟨w.heap.size, 0, none⟩) 256 256) ((stU (cAt a) (cAt b) i 0).map iv)) ∧ Below w.heap.size w wr) (fun ti _ => 256 - (intOf ti).toNat)
  case atStart => exact ⟨0, by omega, rfl, hr0, hb0⟩
  case round =>
    clear hr0 hb0
    obtain ⟨i, hii, rfl, HO, hB⟩ := hrel
    by_cases hlt : i < 256
    · have hi' : (i : Int) < 256 := by omega
      have hci : (0 : Int) ≤ (i : Int) := by omega
      obtain ⟨g1, o1, rfl, hg1, d1⟩ := hc1 i _ (get_iv a i (by rw [unhide la]; exact hlt))
      have dA := (hB.cell (p := ⟨g1, o1 + i, none⟩) hg1).trans d1
      have b1 := unhide va' i hlt
      have NX := hide (stU_next (cAt a) (cAt b) i)
      obtain ⟨m, hm⟩ : ∃ m, m = 256 - i := ⟨_, rfl⟩
      have wm : IntKind.i64.wrap (256 - (i : Int)) = (m : Int) := by rw [IntKind.wrap_i64]; omega
      have hm1 : m ≤ 256 ∧ 1 ≤ m := by omega
      have hmi : m + i = 256 := by omega
      obtain ⟨x, hx⟩ : ∃ x, x = cAt a i := ⟨_, rfl⟩
      rw [← hx] at dA b1
      clear d1 hc1 hm
      replace hx := hide hx
      go_wp2
      go_loopw [27] (fun tk wq => ∃ k : Nat, k ≤ m ∧ tk = .int .i64 (k : Int) ∧ Hid (OwnV wq w.heap.size 3 (.slice (some ⟨w.heap.size, 0, none⟩) 256 256) ((stU (cAt a) (cAt b) i k).map iv)) ∧ Below w.heap.size w wq) (fun tk _ => 256 - (intOf tk).toNat)
      case atStart => exact ⟨0, by omega, rfl, HO, hB⟩
      case round =>
        clear HO hB dA
        obtain ⟨k, hk, rfl, HO, hB⟩ := hrel
        by_cases hltk : k < m
        · have hk' : (k : Int) < (m : Int) := by omega
          have hck : (0 : Int) ≤ (k : Int) := by omega
          have dB := (hB.cell (p := ⟨g2, o2 + k, none⟩) hg2).trans (unhide D2 k (by omega))
          have b2 := unhide vb' k (by omega)
          have hst := stU_low (cAt a) (cAt b) i k hlt (by omega) (by omega)
          have ob := unhide UB i k (i + k) hlt (by omega)
          obtain ⟨y, hy⟩ : ∃ y, y = cAt b k := ⟨_, rfl⟩
          obtain ⟨pl, hpl⟩ : ∃ pl, pl = i + k := ⟨_, rfl⟩
          rw [← unhide hx, ← hy, ← hpl] at hst
          rw [← hy] at dB b2
          rw [← hpl] at ob
          have wp : IntKind.i64.wrap ((i : Int) + (k : Int)) = (pl : Int) := by rw [IntKind.wrap_i64]; omega
          have hp0 : (0 : Int) ≤ (pl : Int) := by omega
          have hp1 : (pl : Int) < 256 := by omega
          have cu := (unhide HO).cell (get_iv _ pl (by rw [stU_len]; omega))
          have cz := (unhide HO).frozen pl
          obtain ⟨o, ho⟩ : ∃ o, o = cAt (stU (cAt a) (cAt b) i k) pl := ⟨_, rfl⟩
          rw [← ho] at ob cu hst
          have p1 : 0 ≤ x * y := Int.mul_nonneg b1.1 b2.1
          have p2 : x * y ≤ 3328 * 3328 := Int.mul_le_mul b1.2 b2.2 b2.1 (by omega)
          obtain ⟨p, hp⟩ : ∃ p, p = x * y := ⟨_, rfl⟩
          rw [← hp] at p1 p2 hst
          have w2 : IntKind.i64.wrap (x * y) = p := by rw [← hp, IntKind.wrap_i64]; omega
          obtain ⟨s, hs⟩ : ∃ s, s = o + p := ⟨_, rfl⟩
          rw [← hs] at hst
          have w3 : IntKind.i64.wrap (o + p) = s := by rw [IntKind.wrap_i64]; omega
          have hO2 := hide (show OwnV (wr.setCell ⟨w.heap.size, pl, none⟩ (.int .i64 s)) w.heap.size 3 (.slice (some ⟨w.heap.size, 0, none⟩) 256 256) ((stU (cAt a) (cAt b) i (k + 1)).map iv) by
            have h := OwnV.set (unhide HO) pl (.int .i64 s)
            rw [set_iv, hst] at h
            exact h)
          have hB2 := hide (hB.setCell (p := ⟨w.heap.size, pl, none⟩) (Nat.le_refl _) (.int .i64 s))
          replace hy := hide hy; replace hpl := hide hpl; replace ho := hide ho; replace hp := hide hp; replace hs := hide hs; replace hst := hide hst
          clear HO hB
          go_wp2
          exact ⟨⟨k + 1, by omega, by go_num, hide (unhide hO2), unhide hB2⟩, by simp [intOf]; omega⟩
        · have hk' : ¬ (k : Int) < (m : Int) := by omega
          have hke : k = m := by omega
          have hO3 : OwnV wr w.heap.size 3 (.slice (some ⟨w.heap.size, 0, none⟩) 256 256) ((stU (cAt a) (cAt b) i (m + 0)).map iv) := by
            have h := unhide HO
            rw [hke] at h
            exact h
          replace hO3 := hide hO3
          replace hke := hide hke
          clear HO
          by_cases hi0 : i = 0
          · have hO4 : OwnV wr w.heap.size 3 (.slice (some ⟨w.heap.size, 0, none⟩) 256 256) ((stU (cAt a) (cAt b) (i + 1) 0).map iv) := by
              have h := unhide hO3
              rw [show m + 0 = 256 by omega, unhide NX] at h
              exact h
            replace hO4 := hide hO4
            have e256 : 256 - m = 0 := by omega
            have n1 : ¬ c2 = m := by omega
            have n2 : ¬ m = c2 := by omega
            have n3 : m < c2 := by omega
            have n4 : ¬ c2 - m = 0 := by omega
            clear hO3
            go_wp2
            all_goals
              go_loopw [49] (fun tk wq => tk = .int .i64 0 ∧ Hid (OwnV wq w.heap.size 3 (.slice (some ⟨w.heap.size, 0, none⟩) 256 256) ((stU (cAt a) (cAt b) (i + 1) 0).map iv)) ∧ Below w.heap.size w wq) (fun _ _ => 0)
              case atStart => exact ⟨rfl, hO4, hB⟩
              case round =>
                clear hO4 hB
                obtain ⟨rfl, hO4, hB⟩ := hrel
                go_wp2
                exact ⟨⟨i + 1, by omega, by go_num, hO4, hB⟩, by simp [intOf]; omega⟩
          · have e256 : 256 - m = i := by omega
            have n1 : ¬ c2 = m := by omega
            have n2 : ¬ m = c2 := by omega
            have n3 : m < c2 := by omega
            have n4 : ¬ c2 - m = 0 := by omega
            go_wp2
            go_loopw [49] (fun tk wq => ∃ k : Nat, k ≤ i ∧ tk = .int .i64 (k : Int) ∧ Hid (OwnV wq w.heap.size 3 (.slice (some ⟨w.heap.size, 0, none⟩) 256 256) ((stU (cAt a) (cAt b) i (m + k)).map iv)) ∧ Below w.heap.size w wq) (fun tk _ => 256 - (intOf tk).toNat)
            case atStart => exact ⟨0, by omega, rfl, hO3, hB⟩
            case round =>
              clear hO3 hB hk hk' hke
              obtain ⟨k, hk, rfl, HO, hB⟩ := hrel
              by_cases hltk : k < i
              · have hk' : (k : Int) < (i : Int) := by omega
                have hck : (0 : Int) ≤ (k : Int) := by omega
                have dB := (hB.cell (p := ⟨g2, o2 + (m + k), none⟩) hg2).trans (unhide D2 (m + k) (by omega))
                have b2 := unhide vb' (m + k) (by omega)
                have hst := stU_high (cAt a) (cAt b) i (m + k) k hlt (by omega) (by omega)
                have ob := unhide UB i (m + k) k hlt (by omega)
                rw [← Nat.add_assoc] at dB
                obtain ⟨y, hy⟩ : ∃ y, y = cAt b (m + k) := ⟨_, rfl⟩
                rw [← unhide hx, ← hy] at hst
                rw [← hy] at dB b2
                have hp1 : (k : Int) < 256 := by omega
                have cu := (unhide HO).cell (get_iv _ k (by rw [stU_len]; omega))
                have cz := (unhide HO).frozen k
                obtain ⟨o, ho⟩ : ∃ o, o = cAt (stU (cAt a) (cAt b) i (m + k)) k := ⟨_, rfl⟩
                rw [← ho] at ob cu hst
                have p1 : 0 ≤ x * y := Int.mul_nonneg b1.1 b2.1
                have p2 : x * y ≤ 3328 * 3328 := Int.mul_le_mul b1.2 b2.2 b2.1 (by omega)
                obtain ⟨p, hp⟩ : ∃ p, p = x * y := ⟨_, rfl⟩
                rw [← hp] at p1 p2 hst
                have w2 : IntKind.i64.wrap (x * y) = p := by rw [← hp, IntKind.wrap_i64]; omega
                obtain ⟨s, hs⟩ : ∃ s, s = o - p := ⟨_, rfl⟩
                rw [← hs] at hst
                have w3 : IntKind.i64.wrap (o - p) = s := by rw [IntKind.wrap_i64]; omega
                have hO2 := hide (show OwnV (wr.setCell ⟨w.heap.size, k, none⟩ (.int .i64 s)) w.heap.size 3 (.slice (some ⟨w.heap.size, 0, none⟩) 256 256) ((stU (cAt a) (cAt b) i (m + (k + 1))).map iv) by
                  have h := OwnV.set (unhide HO) k (.int .i64 s)
                  rw [set_iv, hst] at h
                  exact h)
                have hB2 := hide (hB.setCell (p := ⟨w.heap.size, k, none⟩) (Nat.le_refl _) (.int .i64 s))
                replace hy := hide hy; replace ho := hide ho; replace hp := hide hp; replace hs := hide hs; replace hst := hide hst
                clear HO hB
                go_wp2
                exact ⟨⟨k + 1, by omega, by go_num, hide (unhide hO2), unhide hB2⟩, by simp [intOf]; omega⟩
              · have hk' : ¬ (k : Int) < (i : Int) := by omega
                have hke : m + k = 256 := by omega
                have hO3 : OwnV wr w.heap.size 3 (.slice (some ⟨w.heap.size, 0, none⟩) 256 256) ((stU (cAt a) (cAt b) (i + 1) 0).map iv) := by
                  have h := unhide HO
                  rw [hke, unhide NX] at h
                  exact h
                replace hO3 := hide hO3
                replace hke := hide hke
                clear HO
                go_wp2
                exact ⟨⟨i + 1, by omega, by go_num, hO3, hB⟩, by simp [intOf]; omega⟩
    · have hi' : ¬ (i : Int) < 256 := by omega
      have hie : i = 256 := by omega
      obtain ⟨hh, hhe⟩ : ∃ h, h = cfP (cAt a) (cAt b) := ⟨_, rfl⟩
      rw [← hhe] at EF EZ
      have hO3 : OwnV wr w.heap.size 3 (.slice (some ⟨w.heap.size, 0, none⟩) 256 256) ((finU hh 0).map iv) := by
        have h := unhide HO
        rw [hie, unhide EZ] at h
        exact h
      replace hO3 := hide hO3
      replace hie := hide hie
      replace hhe := hide hhe
      clear HO hc1
      go_wp2
      go_loopw [67] (fun tk wq => ∃ k : Nat, k ≤ 256 ∧ tk = .int .i64 (k : Int) ∧ Hid (OwnV wq w.heap.size 3 (.slice (some ⟨w.heap.size, 0, none⟩) 256 256) ((finU hh k).map iv)) ∧ Below w.heap.size w wq) (fun tk _ => 256 - (intOf tk).toNat)
      case atStart => exact ⟨0, by omega, rfl, hO3, hB⟩
      case round =>
        clear hO3 hB
        obtain ⟨k, hk, rfl, HO, hB⟩ := hrel
        by_cases hltk : k < 256
        · have hk' : (k : Int) < 256 := by omega
          have hck : (0 : Int) ≤ (k : Int) := by omega
          have cu := (unhide HO).cell (get_iv _ k (by rw [finU_len]; omega))
          rw [finU_at hh k hltk] at cu
          have cz := (unhide HO).frozen k
          have hst := finU_set hh k hltk
          have CI := hide (fun W => around_any (hh k) W)
          obtain ⟨s, hs⟩ : ∃ s, s = hh k % 3329 := ⟨_, rfl⟩
          obtain ⟨o, ho⟩ : ∃ o, o = hh k := ⟨_, rfl⟩
          rw [← hs] at hst CI
          rw [← ho] at cu CI
          have hO2 := hide (show OwnV (wr.setCell ⟨w.heap.size, k, none⟩ (.int .i64 s)) w.heap.size 3 (.slice (some ⟨w.heap.size, 0, none⟩) 256 256) ((finU hh (k + 1)).map iv) by
            have h := OwnV.set (unhide HO) k (.int .i64 s)
            rw [set_iv, hst] at h
            exact h)
          have hB2 := hide (hB.setCell (p := ⟨w.heap.size, k, none⟩) (Nat.le_refl _) (.int .i64 s))
          replace ho := hide ho; replace hs := hide hs; replace hst := hide hst
          clear HO hB
          go_wp2_with (go_at_call 50; refine (unhide CI _).mono ?_; rintro e w2 ⟨rfl, hw2⟩; have hw3 := hw2.symm; subst hw3; clear hw2)
          exact ⟨⟨k + 1, by omega, by go_num, hide (unhide hO2), unhide hB2⟩, by simp [intOf]; omega⟩
        · have hk' : ¬ (k : Int) < 256 := by omega
          have hke : k = 256 := by omega
          have hown : OwnV wr w.heap.size 3 (.slice (some ⟨w.heap.size, 0, none⟩) 256 256) ((mulL a b).map iv) := by
            rw [show mulL a b = finU hh k by rw [hke]; exact unhide EF]
            exact unhide HO
          replace hown := hide hown
          replace hke := hide hke
          clear HO
          go_wp2
          go_ret
          exact ⟨⟨_, rfl, unhide hown⟩, hB⟩
set_option maxRecDepth 20000 in
set_option maxHeartbeats 800000 in
theorem times_full (a b : List Int) (va : Value) (g2 o2 : Nat) (w : World) (ha : okPl a = true) (hb : okPl b = true) (ra : RdV w va (a.map iv)) (hg2 : g2 < w.heap.size) (D2 : ∀ k, k < 256 → w.cell? ⟨g2, o2 + k, none⟩ = some (.int .i64 (cAt b k))) :
    Calls Try.prog 45 #[va, .slice (some ⟨g2, o2, none⟩) 256 256] w fun e w' => (∃ v, e = .returned v ∧ OwnV w' w.heap.size 3 v ((mulL a b).map iv)) ∧ Below w.heap.size w w' := by
  obtain ⟨i0, hi, hz0, hz1, hz2⟩ := info_parts infoInt
  obtain ⟨la, va'⟩ := okPl_yes ha
  obtain ⟨lb, vb'⟩ := okPl_yes hb
  have EF := hide (show mulL a b = finU (cfP (cAt a) (cAt b)) 256 by rw [finU_end]; exact mulL_is ha hb)
  have EZ := hide (finU_zero (cAt a) (cAt b))
  have UB := hide (fun i k t (h1 : i < 256) (h2 : t < 256) => stU_bound va' vb' i k t h1 h2)
  obtain ⟨a1, c1, rfl, hc1⟩ := ra.open
  rw [List.length_map, la]
  clear ra
  replace D2 := hide D2
  replace va' := hide va'; replace vb' := hide vb'; replace la := hide la; replace lb := hide lb
  go_enter Try.func45, Try.ntmps45
  go_wp2_with (at_make; refine wpList_make_full _ rfl _ _ 64 rfl w.heap.size 3 i0 (.int .i64 0) 1 Try.underlying64 hi hz0 hz1 _ _ _ _ 256 rfl rfl rfl rfl (by rw [hz2]; omega) (by unfold maxLen; omega) (Nat.le_refl _) ?_; intro w1 hown1 hgrow1)
  have hr0 : OwnV w1 w.heap.size 3 (.slice (some ⟨w.heap.size, 0, none⟩) 256 256) ((stU (cAt a) (cAt b) 0 0).map iv) := by
    rw [stU_zero]
    rw [madeI] at hown1
    unfold OwnV
    simpa [iv] using hown1
  have hb0 : Below w.heap.size w w1 := (Below.refl w.heap.size w).grown hgrow1 (Nat.le_refl _) (fun k hk => by cases hk)
  replace hr0 := hide hr0
  clear hown1 hgrow1
  go_loopw [17] (fun ti wr => ∃ i : Nat, i ≤ 256 ∧ ti = .int .i64 (i : Int) ∧ Hid (OwnV wr w.heap.size 3 (.slice (some ⟨w.heap.size, 0, none⟩) 256 256) ((stU (cAt a) (cAt b) i 0).map iv)) ∧ Below w.heap.size w wr) (fun ti _ => 256 - (intOf ti).toNat)
  case atStart => exact ⟨0, by omega, rfl, hr0, hb0⟩
  case round =>
    clear hr0 hb0
    obtain ⟨i, hii, rfl, HO, hB⟩ := hrel
    by_cases hlt : i < 256
    · have hi' : (i : Int) < 256 := by omega
      have hci : (0 : Int) ≤ (i : Int) := by omega
      obtain ⟨g1, o1, rfl, hg1, d1⟩ := hc1 i _ (get_iv a i (by rw [unhide la]; exact hlt))
      have dA := (hB.cell (p := ⟨g1, o1 + i, none⟩) hg1).trans d1
      have b1 := unhide va' i hlt
      have NX := hide (stU_next (cAt a) (cAt b) i)
      obtain ⟨m, hm⟩ : ∃ m, m = 256 - i := ⟨_, rfl⟩
      have wm : IntKind.i64.wrap (256 - (i : Int)) = (m : Int) := by rw [IntKind.wrap_i64]; omega
      have hm1 : m ≤ 256 ∧ 1 ≤ m := by omega
      have hmi : m + i = 256 := by omega
      obtain ⟨x, hx⟩ : ∃ x, x = cAt a i := ⟨_, rfl⟩
      rw [← hx] at dA b1
      clear d1 hc1 hm
      replace hx := hide hx
      go_wp2
      go_loopw [27] (fun tk wq => ∃ k : Nat, k ≤ m ∧ tk = .int .i64 (k : Int) ∧ Hid (OwnV wq w.heap.size 3 (.slice (some ⟨w.heap.size, 0, none⟩) 256 256) ((stU (cAt a) (cAt b) i k).map iv)) ∧ Below w.heap.size w wq) (fun tk _ => 256 - (intOf tk).toNat)
      case atStart => exact ⟨0, by omega, rfl, HO, hB⟩
      case round =>
        clear HO hB dA
        obtain ⟨k, hk, rfl, HO, hB⟩ := hrel
        by_cases hltk : k < m
        · have hk' : (k : Int) < (m : Int) := by omega
          have hck : (0 : Int) ≤ (k : Int) := by omega
          have dB := (hB.cell (p := ⟨g2, o2 + k, none⟩) hg2).trans (unhide D2 k (by omega))
          have b2 := unhide vb' k (by omega)
          have hst := stU_low (cAt a) (cAt b) i k hlt (by omega) (by omega)
          have ob := unhide UB i k (i + k) hlt (by omega)
          obtain ⟨y, hy⟩ : ∃ y, y = cAt b k := ⟨_, rfl⟩
          obtain ⟨pl, hpl⟩ : ∃ pl, pl = i + k := ⟨_, rfl⟩
          rw [← unhide hx, ← hy, ← hpl] at hst
          rw [← hy] at dB b2
          rw [← hpl] at ob
          have wp : IntKind.i64.wrap ((i : Int) + (k : Int)) = (pl : Int) := by rw [IntKind.wrap_i64]; omega
          have hp0 : (0 : Int) ≤ (pl : Int) := by omega
          have hp1 : (pl : Int) < 256 := by omega
          have cu := (unhide HO).cell (get_iv _ pl (by rw [stU_len]; omega))
          have cz := (unhide HO).frozen pl
          obtain ⟨o, ho⟩ : ∃ o, o = cAt (stU (cAt a) (cAt b) i k) pl := ⟨_, rfl⟩
          rw [← ho] at ob cu hst
          have p1 : 0 ≤ x * y := Int.mul_nonneg b1.1 b2.1
          have p2 : x * y ≤ 3328 * 3328 := Int.mul_le_mul b1.2 b2.2 b2.1 (by omega)
          obtain ⟨p, hp⟩ : ∃ p, p = x * y := ⟨_, rfl⟩
          rw [← hp] at p1 p2 hst
          have w2 : IntKind.i64.wrap (x * y) = p := by rw [← hp, IntKind.wrap_i64]; omega
          obtain ⟨s, hs⟩ : ∃ s, s = o + p := ⟨_, rfl⟩
          rw [← hs] at hst
          have w3 : IntKind.i64.wrap (o + p) = s := by rw [IntKind.wrap_i64]; omega
          have hO2 := hide (show OwnV (wr.setCell ⟨w.heap.size, pl, none⟩ (.int .i64 s)) w.heap.size 3 (.slice (some ⟨w.heap.size, 0, none⟩) 256 256) ((stU (cAt a) (cAt b) i (k + 1)).map iv) by
            have h := OwnV.set (unhide HO) pl (.int .i64 s)
            rw [set_iv, hst] at h
            exact h)
          have hB2 := hide (hB.setCell (p := ⟨w.heap.size, pl, none⟩) (Nat.le_refl _) (.int .i64 s))
          replace hy := hide hy; replace hpl := hide hpl; replace ho := hide ho; replace hp := hide hp; replace hs := hide hs; replace hst := hide hst
          clear HO hB
          go_wp2
          exact ⟨⟨k + 1, by omega, by go_num, hide (unhide hO2), unhide hB2⟩, by simp [intOf]; omega⟩
        · have hk' : ¬ (k : Int) < (m : Int) := by omega
          have hke : k = m := by omega
          have hO3 : OwnV wr w.heap.size 3 (.slice (some ⟨w.heap.size, 0, none⟩) 256 256) ((stU (cAt a) (cAt b) i (m + 0)).map iv) := by
            have h := unhide HO
            rw [hke] at h
            exact h
          replace hO3 := hide hO3
          replace hke := hide hke
          clear HO
          by_cases hi0 : i = 0
          · have hO4 : OwnV wr w.heap.size 3 (.slice (some ⟨w.heap.size, 0, none⟩) 256 256) ((stU (cAt a) (cAt b) (i + 1) 0).map iv) := by
              have h := unhide hO3
              rw [show m + 0 = 256 by omega, unhide NX] at h
              exact h
            replace hO4 := hide hO4
            have e256 : 256 - m = 0 := by omega
            clear hO3
            go_wp2
            all_goals
              go_loopw [49] (fun tk wq => tk = .int .i64 0 ∧ Hid (OwnV wq w.heap.size 3 (.slice (some ⟨w.heap.size, 0, none⟩) 256 256) ((stU (cAt a) (cAt b) (i + 1) 0).map iv)) ∧ Below w.heap.size w wq) (fun _ _ => 0)
              case atStart => exact ⟨rfl, hO4, hB⟩
              case round =>
                clear hO4 hB
                obtain ⟨rfl, hO4, hB⟩ := hrel
                go_wp2
                exact ⟨⟨i + 1, by omega, by go_num, hO4, hB⟩, by simp [intOf]; omega⟩
          · have e256 : 256 - m = i := by omega
            have n1 : ¬ 256 = m := by omega
            have n2 : ¬ m = 256 := by omega
            have n3 : m < 256 := by omega
            have n4 : ¬ 256 - m = 0 := by omega
            go_wp2
            go_loopw [49] (fun tk wq => ∃ k : Nat, k ≤ i ∧ tk = .int .i64 (k : Int) ∧ Hid (OwnV wq w.heap.size 3 (.slice (some ⟨w.heap.size, 0, none⟩) 256 256) ((stU (cAt a) (cAt b) i (m + k)).map iv)) ∧ Below w.heap.size w wq) (fun tk _ => 256 - (intOf tk).toNat)
            case atStart => exact ⟨0, by omega, rfl, hO3, hB⟩
            case round =>
              clear hO3 hB hk hk' hke
              obtain ⟨k, hk, rfl, HO, hB⟩ := hrel
              by_cases hltk : k < i
              · have hk' : (k : Int) < (i : Int) := by omega
                have hck : (0 : Int) ≤ (k : Int) := by omega
                have dB := (hB.cell (p := ⟨g2, o2 + (m + k), none⟩) hg2).trans (unhide D2 (m + k) (by omega))
                have b2 := unhide vb' (m + k) (by omega)
                have hst := stU_high (cAt a) (cAt b) i (m + k) k hlt (by omega) (by omega)
                have ob := unhide UB i (m + k) k hlt (by omega)
                rw [← Nat.add_assoc] at dB
                obtain ⟨y, hy⟩ : ∃ y, y = cAt b (m + k) := ⟨_, rfl⟩
                rw [← unhide hx, ← hy] at hst
                rw [← hy] at dB b2
                have hp1 : (k : Int) < 256 := by omega
                have cu := (unhide HO).cell (get_iv _ k (by rw [stU_len]; omega))
                have cz := (unhide HO).frozen k
                obtain ⟨o, ho⟩ : ∃ o, o = cAt (stU (cAt a) (cAt b) i (m + k)) k := ⟨_, rfl⟩
                rw [← ho] at ob cu hst
                have p1 : 0 ≤ x * y := Int.mul_nonneg b1.1 b2.1
                have p2 : x * y ≤ 3328 * 3328 := Int.mul_le_mul b1.2 b2.2 b2.1 (by omega)
                obtain ⟨p, hp⟩ : ∃ p, p = x * y := ⟨_, rfl⟩
                rw [← hp] at p1 p2 hst
                have w2 : IntKind.i64.wrap (x * y) = p := by rw [← hp, IntKind.wrap_i64]; omega
                obtain ⟨s, hs⟩ : ∃ s, s = o - p := ⟨_, rfl⟩
                rw [← hs] at hst
                have w3 : IntKind.i64.wrap (o - p) = s := by rw [IntKind.wrap_i64]; omega
                have hO2 := hide (show OwnV (wr.setCell ⟨w.heap.size, k, none⟩ (.int .i64 s)) w.heap.size 3 (.slice (some ⟨w.heap.size, 0, none⟩) 256 256) ((stU (cAt a) (cAt b) i (m + (k + 1))).map iv) by
                  have h := OwnV.set (unhide HO) k (.int .i64 s)
                  rw [set_iv, hst] at h
                  exact h)
                have hB2 := hide (hB.setCell (p := ⟨w.heap.size, k, none⟩) (Nat.le_refl _) (.int .i64 s))
                replace hy := hide hy; replace ho := hide ho; replace hp := hide hp; replace hs := hide hs; replace hst := hide hst
                clear HO hB
                go_wp2
                exact ⟨⟨k + 1, by omega, by go_num, hide (unhide hO2), unhide hB2⟩, by simp [intOf]; omega⟩
              · have hk' : ¬ (k : Int) < (i : Int) := by omega
                have hke : m + k = 256 := by omega
                have hO3 : OwnV wr w.heap.size 3 (.slice (some ⟨w.heap.size, 0, none⟩) 256 256) ((stU (cAt a) (cAt b) (i + 1) 0).map iv) := by
                  have h := unhide HO
                  rw [hke, unhide NX] at h
                  exact h
                replace hO3 := hide hO3
                replace hke := hide hke
                clear HO
                go_wp2
                exact ⟨⟨i + 1, by omega, by go_num, hO3, hB⟩, by simp [intOf]; omega⟩
    · have hi' : ¬ (i : Int) < 256 := by omega
      have hie : i = 256 := by omega
      obtain ⟨hh, hhe⟩ : ∃ h, h = cfP (cAt a) (cAt b) := ⟨_, rfl⟩
      rw [← hhe] at EF EZ
      have hO3 : OwnV wr w.heap.size 3 (.slice (some ⟨w.heap.size, 0, none⟩) 256 256) ((finU hh 0).map iv) := by
        have h := unhide HO
        rw [hie, unhide EZ] at h
        exact h
      replace hO3 := hide hO3
      replace hie := hide hie
      replace hhe := hide hhe
      clear HO hc1
      go_wp2
      go_loopw [67] (fun tk wq => ∃ k : Nat, k ≤ 256 ∧ tk = .int .i64 (k : Int) ∧ Hid (OwnV wq w.heap.size 3 (.slice (some ⟨w.heap.size, 0, none⟩) 256 256) ((finU hh k).map iv)) ∧ Below w.heap.size w wq) (fun tk _ => 256 - (intOf tk).toNat)
      case atStart => exact ⟨0, by omega, rfl, hO3, hB⟩
      case round =>
        clear hO3 hB
        obtain ⟨k, hk, rfl, HO, hB⟩ := hrel
        by_cases hltk : k < 256
        · have hk' : (k : Int) < 256 := by omega
          have hck : (0 : Int) ≤ (k : Int) := by omega
          have cu := (unhide HO).cell (get_iv _ k (by rw [finU_len]; omega))
          rw [finU_at hh k hltk] at cu
          have cz := (unhide HO).frozen k
          have hst := finU_set hh k hltk
          have CI := hide (fun W => around_any (hh k) W)
          obtain ⟨s, hs⟩ : ∃ s, s = hh k % 3329 := ⟨_, rfl⟩
          obtain ⟨o, ho⟩ : ∃ o, o = hh k := ⟨_, rfl⟩
          rw [← hs] at hst CI
          rw [← ho] at cu CI
          have hO2 := hide (show OwnV (wr.setCell ⟨w.heap.size, k, none⟩ (.int .i64 s)) w.heap.size 3 (.slice (some ⟨w.heap.size, 0, none⟩) 256 256) ((finU hh (k + 1)).map iv) by
            have h := OwnV.set (unhide HO) k (.int .i64 s)
            rw [set_iv, hst] at h
            exact h)
          have hB2 := hide (hB.setCell (p := ⟨w.heap.size, k, none⟩) (Nat.le_refl _) (.int .i64 s))
          replace ho := hide ho; replace hs := hide hs; replace hst := hide hst
          clear HO hB
          go_wp2_with (go_at_call 50; refine (unhide CI _).mono ?_; rintro e w2 ⟨rfl, hw2⟩; have hw3 := hw2.symm; subst hw3; clear hw2)
          exact ⟨⟨k + 1, by omega, by go_num, hide (unhide hO2), unhide hB2⟩, by simp [intOf]; omega⟩
        · have hk' : ¬ (k : Int) < 256 := by omega
          have hke : k = 256 := by omega
          have hown : OwnV wr w.heap.size 3 (.slice (some ⟨w.heap.size, 0, none⟩) 256 256) ((mulL a b).map iv) := by
            rw [show mulL a b = finU hh k by rw [hke]; exact unhide EF]
            exact unhide HO
          replace hown := hide hown
          replace hke := hide hke
          clear HO
          go_wp2
          go_ret
          exact ⟨⟨_, rfl, unhide hown⟩, hB⟩
theorem times_any (a b : List Int) (va vb : Value) (w : World) (ha : okPl a = true) (hb : okPl b = true) (ra : RdV w va (a.map iv)) (rb : RdV w vb (b.map iv)) (kb : CapV vb) :
    Calls Try.prog 45 #[va, vb] w fun e w' => (∃ v, e = .returned v ∧ OwnV w' w.heap.size 3 v ((mulL a b).map iv)) ∧ Below w.heap.size w w' := by
  have lb := (okPl_yes hb).1
  obtain ⟨a2, c2, rfl, hc2⟩ := rb.open
  have hc256 : 256 ≤ c2 := by have := kb _ _ _ rfl; rw [List.length_map, lb] at this; exact this
  rw [List.length_map, lb]
  obtain ⟨g2, o2, rfl, hg2, hd0⟩ := hc2 0 _ (get_iv b 0 (by rw [lb]; omega))
  have D2 : ∀ k, k < 256 → w.cell? ⟨g2, o2 + k, none⟩ = some (.int .i64 (cAt b k)) := fun k hk => by
    obtain ⟨g', o', he, _, hd⟩ := hc2 k _ (get_iv b k (by omega))
    cases he
    exact hd
  rcases Nat.lt_or_ge 256 c2 with h | h
  · exact times_room a b va g2 o2 c2 w ha hb ra hg2 D2 h
  · obtain rfl : c2 = 256 := by omega
    exact times_full a b va g2 o2 w ha hb ra hg2 D2
theorem implPolyMul_any (a b : List Int) (ua ub : Value) (_ : a.length ≤ 1048576) (_ : b.length ≤ 1048576) (W : World) (r1 : RdV W ua (a.map iv)) (r2 : RdV W ub (b.map iv)) (k2 : CapV ub) :
    Calls Try.prog 20 #[ua, ub] W fun e w' => (∃ v, e = .returned v ∧ OwnV w' W.heap.size 3 v ((mulL a b).map iv)) ∧ Below W.heap.size W w' := by
  have CA := hide (implPolyOk_q a ua W r1)
  have CB := hide (fun q => implPolyOk_q b ub (W.drewN q) r2)
  have sa := r1.shape
  have sb := r2.shape
  cases ha : okPl a with
  | true =>
    rw [ha] at CA
    cases hb : okPl b with
    | true =>
      rw [hb] at CB
      have CM := hide (fun q => times_any a b ua ub (W.drewN q) ha hb r1 r2 k2)
      have BD := hide (fun q (V : World) (h : Below W.heap.size (W.drewN q) V) => (bDN (Below.refl W.heap.size W) q).trans h)
      obtain ⟨a1, c1, rfl⟩ := sa
      obtain ⟨a2, c2, rfl⟩ := sb
      simp only [List.length_map] at CA CB CM ⊢
      clear r1 r2 k2 ha hb
      generalize mulL a b = l at *
      go_enter Try.func20, Try.ntmps20
      go_wp2_with fail
      refine (unhide CA).mono ?_
      rintro e w1 ⟨rfl, q, rfl⟩
      go_wp2_with fail
      refine (unhide CB q).mono ?_
      rintro e w1 ⟨rfl, q2, rfl⟩
      go_wp2_with fail
      refine (unhide CM _).mono ?_
      rintro e w1 ⟨⟨v, rfl, ho⟩, hb1⟩
      replace ho := hide ho
      have hb2 := hide (unhide BD _ _ hb1)
      clear hb1
      go_wp2
      go_ret
      exact ⟨⟨_, rfl, unhide ho⟩, unhide hb2⟩
    | false =>
      rw [hb] at CB
      have E := hide (show mulL a b = [] by unfold mulL; rw [bothP_no2 hb]; rfl)
      rw [unhide E]
      obtain ⟨a1, c1, rfl⟩ := sa
      obtain ⟨a2, c2, rfl⟩ := sb
      simp only [List.length_map] at CA CB ⊢
      clear r1 r2 k2 ha hb
      go_enter Try.func20, Try.ntmps20
      go_wp2_with fail
      refine (unhide CA).mono ?_
      rintro e w1 ⟨rfl, q, rfl⟩
      go_wp2_with fail
      refine (unhide CB q).mono ?_
      rintro e w1 ⟨rfl, q2, rfl⟩
      go_wp2
      go_ret
      exact ⟨⟨_, rfl, OwnV.nil _ _ _⟩, by first | exact bDN (bDN (Below.refl _ _) _) _ | exact bDN (Below.refl _ _) _⟩
  | false =>
    rw [ha] at CA
    have E := hide (show mulL a b = [] by unfold mulL; rw [bothP_no1 ha]; rfl)
    rw [unhide E]
    obtain ⟨a1, c1, rfl⟩ := sa
    obtain ⟨a2, c2, rfl⟩ := sb
    simp only [List.length_map] at CA ⊢
    clear r1 r2 k2 ha CB
    go_enter Try.func20, Try.ntmps20
    go_wp2_with fail
    refine (unhide CA).mono ?_
    rintro e w1 ⟨rfl, q, rfl⟩
    go_wp2
    go_ret
    exact ⟨⟨_, rfl, OwnV.nil _ _ _⟩, bDN (Below.refl _ _) _⟩
end Go.Proofs.Ytdannnkdapbefac
