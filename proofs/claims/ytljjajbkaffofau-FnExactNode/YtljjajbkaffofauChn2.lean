/- Chains by the given model: digits, over the loaded program. -/
import Derived.Test.YtljjajbkaffofauChn1
import Derived.Test.YtljjajbkaffofauApw
import Derived.Deep.RegionHeld3
import Derived.BigQuiet
namespace Go.Proofs.Ytljjajbkaffofau
open Go.RowKit
theorem byA_at (s : ByteArray) (i : Nat) (h : i < s.size) : (s[i]'h).toNat = byA s i := by
  unfold byA
  have hd : i < s.data.size := h
  unfold Array.getD
  rw [dif_pos hd]
  rfl
theorem dgN_pair (s : ByteArray) (k : Nat) : dgN s (2 * k) = byA s k / 16 ∧ dgN s (2 * k + 1) = byA s k % 16 := by
  unfold dgN
  constructor
  · rw [if_pos (by omega), show 2 * k / 2 = k by omega]
  · rw [if_neg (by omega), show (2 * k + 1) / 2 = k by omega]
theorem wpList_append_two14 {P : Program} {w : World} {ops : Array Oper} {rest : List Oper} {o : Oper} {a : Act} {Q : Exit → Act → World → Prop} (hgd : o.guard = none) (s x : Operand) (t : TypeId)
    (ho : o.op = .call { callee := .builtin .append, args := #[s, x], argTypes := #[t, t] })
    (base : Nat) (e : TypeId) (i : TypeInfo) (z : Value) (nb : Nat) (ht : P.underlying t = some (.slice e)) (hi : P.info? e = some i) (hz : i.zero = some z) (hsize : i.size = 1) (hby : i.bytes = nb) (hzs : z.cells.size = 1)
    (v : Value) (xs : List Value) (hs : a.eval s = v) (hown : OwnV w base e v xs) (x1 x2 : Int) (hx : a.eval x = .slice (some ⟨w.heap.size, 0, none⟩) 2 2)
    (h63 : xs.length + 2 ≤ maxLen) (hbytes : (xs.length + 2) * nb ≤ 140737488355328) (hbase : base ≤ w.heap.size) {w0 : World} (hB : Below base w0 w)
    (h : ∀ v' w', OwnV w' base e v' (xs ++ [.int .i64 x1, .int .i64 x2]) → Below base w0 w' → wpList P ops Q rest (a.put o.dst v') w') :
    wpList P ops Q (o :: rest) a (w.alloc (.cells #[.int .i64 x1, .int .i64 x2] e)) :=
  wpList_plain hgd fun K hK =>
    wp_append_vals s x t ho base base e i z nb ht hi hz hsize hby hzs v xs hs (hown.alloc _) w.heap.size #[.int .i64 x1, .int .i64 x2] (heap_alloc_new w _) [.int .i64 x1, .int .i64 x2] rfl (by intro u hu; simp only [List.mem_cons, List.not_mem_nil, or_false] at hu; rcases hu with rfl | rfl <;> rfl) 2 2 rfl hx h63 hbytes (Nat.le_refl _) (by simp; omega) (hB.alloc hbase _) (fun v' w' h1 h2 => hK _ _ (h v' w' h1 h2))
set_option maxRecDepth 20000 in
set_option maxHeartbeats 1000000 in
theorem specDigits_any (m : ByteArray) (hm : m.size ≤ 4000000) (w : World) :
    Calls Try.prog 30 #[.string m] w fun e w' => (∃ v, e = .returned v ∧ OwnV w' w.heap.size 3 v ((digL m).map iv)) ∧ Below w.heap.size w w' := by
  obtain ⟨i0, hi, hz0, hz1, hz2⟩ := info_parts infoInt
  have C := hide (specChop_any m hm w)
  have hs4 := chopB_size m
  have ED := hide (show digL m = preL (fun i => (dgN (chopB m) i : Int)) 8 ++ [((lfN (chopB m) 4 / 16 : Nat) : Int), ((lfN (chopB m) 4 % 16 : Nat) : Int)] from rfl)
  generalize chopB m = s at *
  obtain ⟨f, hf⟩ : ∃ f : Nat → Int, f = fun i => (dgN s i : Int) := ⟨_, rfl⟩
  rw [← hf] at ED
  have hs4' : (s.size : Int) = 4 := by omega
  replace hf := hide hf
  go_enter Try.func30, Try.ntmps30
  go_wp2_with fail
  refine (unhide C).mono ?_
  rintro e w1 ⟨rfl, hb1⟩
  have hsz1 := hb1.size
  have hb2 := hb1.alloc hsz1 (.cells #[] 3)
  have ho0 : OwnV (w1.alloc (.cells #[] 3)) w.heap.size 3 (.slice (some ⟨w1.heap.size, 0, none⟩) 0 0) ((preL f (2 * 0)).map iv) := World.ownsRow_made w1 #[] 0 hsz1 (by decide) (by simp)
  replace ho0 := hide ho0
  clear C hb1
  go_wp2
  go_loopw [4, 5, 6] (fun tv ts ti wr => ∃ (k : Nat) (q : Nat), k ≤ 4 ∧ ti = .int .i64 (k : Int) ∧ ts = .int .i64 (q : Int) ∧ Hid (q = lfN s k) ∧ Hid (OwnV wr w.heap.size 3 tv ((preL f (2 * k)).map iv)) ∧ Below w.heap.size w wr) (fun _ _ ti _ => 4 - (intOf ti).toNat)
  case atStart => exact ⟨0, 0, by omega, rfl, rfl, hide rfl, ho0, hb2⟩
  case round =>
    clear ho0 hb2
    obtain ⟨k, q, hk, rfl, rfl, hq, HO, hB⟩ := hrel
    have hsz := hB.size
    by_cases hlt : k < 4
    · have hk' : (k : Int) < 4 := by omega
      have hk0 : (0 : Int) ≤ (k : Int) := by omega
      have hks : k < s.size := by omega
      have hby := byA_at s k hks
      have hbl := byA_lt s k
      have hdp := dgN_pair s k
      have HL := hide (show lfN s (k + 1) = lfN s k + 30 - byA s k / 16 - byA s k % 16 from rfl)
      have hql := lfN_le s k
      rw [← unhide hq] at HL hql
      have HP := hide (pre_two f k)
      have HF : f (2 * k) = ((byA s k / 16 : Nat) : Int) ∧ f (2 * k + 1) = ((byA s k % 16 : Nat) : Int) := by
        rw [unhide hf]
        exact ⟨congrArg (fun n : Nat => (n : Int)) hdp.1, congrArg (fun n : Nat => (n : Int)) hdp.2⟩
      rw [HF.1, HF.2] at HP
      obtain ⟨b, hb⟩ : ∃ b, b = byA s k := ⟨_, rfl⟩
      rw [← hb] at hby hbl HL HP
      obtain ⟨x1, hx1⟩ : ∃ x : Nat, x = b / 16 := ⟨_, rfl⟩
      obtain ⟨x2, hx2⟩ : ∃ x : Nat, x = b % 16 := ⟨_, rfl⟩
      rw [← hx1, ← hx2] at HL HP
      have q1 : (b : Int).tdiv 16 = (x1 : Int) := by rw [Int.tdiv_eq_ediv_of_nonneg (by omega)]; omega
      have q1' : (b : Int) / 16 = (x1 : Int) := by omega
      have q2 : (b : Int).tmod 16 = (x2 : Int) := by rw [Int.tmod_eq_emod_of_nonneg (by omega)]; omega
      have q2' : (b : Int) % 16 = (x2 : Int) := by omega
      have q3 : IntKind.i64.wrap (x1 : Int) = (x1 : Int) := by rw [IntKind.wrap_i64]; omega
      have q4 : IntKind.i64.wrap (x2 : Int) = (x2 : Int) := by rw [IntKind.wrap_i64]; omega
      have q5 : IntKind.i64.wrap (b : Int) = (b : Int) := by rw [IntKind.wrap_i64]; omega
      obtain ⟨y1, hy1⟩ : ∃ y : Nat, y = q + 30 := ⟨_, rfl⟩
      obtain ⟨y2, hy2⟩ : ∃ y : Nat, y + x1 = y1 := ⟨y1 - x1, by omega⟩
      obtain ⟨y3, hy3⟩ : ∃ y : Nat, y + x2 = y2 := ⟨y2 - x2, by omega⟩
      have q6 : IntKind.i64.wrap ((q : Int) + 30) = (y1 : Int) := by rw [IntKind.wrap_i64]; omega
      have q7 : IntKind.i64.wrap ((y1 : Int) - (x1 : Int)) = (y2 : Int) := by rw [IntKind.wrap_i64]; omega
      have q8 : IntKind.i64.wrap ((y2 : Int) - (x2 : Int)) = (y3 : Int) := by rw [IntKind.wrap_i64]; omega
      have HQ := hide (show y3 = lfN s (k + 1) by have := unhide HL; omega)
      have hl1 : ((preL f (2 * k)).map iv).length + 2 ≤ maxLen := by rw [List.length_map, preL_len]; unfold maxLen; omega
      have hl2 : (((preL f (2 * k)).map iv).length + 2) * 8 ≤ 140737488355328 := by rw [List.length_map, preL_len]; omega
      have hix : ∀ h : k < s.size, (s[k]'h).toNat = b := fun h => hby
      replace hl1 := hide hl1; replace hl2 := hide hl2; replace hb := hide hb; replace hx1 := hide hx1; replace hx2 := hide hx2; replace hy1 := hide hy1; replace hy2 := hide hy2; replace hy3 := hide hy3; replace HF := hide HF; replace hdp := hide hdp; replace hby := hide hby
      clear HL hql
      go_wp2
      go_region_held3 (fun _ => True) (trivial) (first
        | (refine step_append_w9 (w := wr.drew) (x1 := (x1 : Int)) (x2 := (x2 : Int)) (e := 3) rfl rfl (.tmp 14) (.tmp 25) 43 rfl w.heap.size w.heap.size i0 (.int .i64 0) 8 Try.underlying43 hi hz0 hz1 hz2 rfl _ _ rfl (by exact unhide HO) rfl (unhide hl1) (unhide hl2) (Nat.le_refl _) (by exact hsz) (by exact hB.drew) ?_; intro v' w2 hown2 hb2))
      all_goals
        have hown3 := hide (show OwnV w2 w.heap.size 3 v' ((preL f (2 * (k + 1))).map iv) by rw [unhide HP, List.map_append]; exact hown2)
        clear hown2 HP HO hB hsz
        go_wp2
        go_quiet (fail)
        go_wp2
        exact ⟨⟨k + 1, y3, by omega, by go_num, by first | rfl | trivial, HQ, hide (unhide hown3), bDN hb2 _⟩, by simp [intOf]; omega⟩
    · have hk' : ¬ (k : Int) < 4 := by omega
      obtain rfl : k = 4 := by omega
      have hql := lfN_le s 4
      rw [← unhide hq] at hql ED
      obtain ⟨x1, hx1⟩ : ∃ x : Nat, x = q / 16 := ⟨_, rfl⟩
      obtain ⟨x2, hx2⟩ : ∃ x : Nat, x = q % 16 := ⟨_, rfl⟩
      rw [← hx1, ← hx2] at ED
      have q1 : (q : Int).tdiv 16 = (x1 : Int) := by rw [Int.tdiv_eq_ediv_of_nonneg (by omega)]; omega
      have q1' : (q : Int) / 16 = (x1 : Int) := by omega
      have q2 : (q : Int).tmod 16 = (x2 : Int) := by rw [Int.tmod_eq_emod_of_nonneg (by omega)]; omega
      have q2' : (q : Int) % 16 = (x2 : Int) := by omega
      have q3 : IntKind.i64.wrap (x1 : Int) = (x1 : Int) := by rw [IntKind.wrap_i64]; omega
      have q4 : IntKind.i64.wrap (x2 : Int) = (x2 : Int) := by rw [IntKind.wrap_i64]; omega
      have hl1 : ((preL f (2 * 4)).map iv).length + 2 ≤ maxLen := by rw [List.length_map, preL_len]; unfold maxLen; omega
      have hl2 : (((preL f (2 * 4)).map iv).length + 2) * 8 ≤ 140737488355328 := by rw [List.length_map, preL_len]; omega
      replace hl1 := hide hl1; replace hl2 := hide hl2; replace hx1 := hide hx1; replace hx2 := hide hx2
      clear hql
      go_wp2_with (at_builtin; refine wpList_append_two14 (w := wr) rfl (.tmp 41) (.tmp 46) 43 rfl w.heap.size 3 i0 (.int .i64 0) 8 Try.underlying43 hi hz0 hz1 hz2 rfl u4 _ (by rfl) (unhide HO) (x1 : Int) (x2 : Int) rfl (unhide hl1) (unhide hl2) hsz hB ?_; intro v' w2 hown2 hb2)
      have hown3 := hide (show OwnV w2 w.heap.size 3 v' ((digL m).map iv) by rw [unhide ED, List.map_append]; exact hown2)
      clear hown2 HO
      go_ret
      exact ⟨⟨_, rfl, unhide hown3⟩, hb2⟩
end Go.Proofs.Ytljjajbkaffofau
