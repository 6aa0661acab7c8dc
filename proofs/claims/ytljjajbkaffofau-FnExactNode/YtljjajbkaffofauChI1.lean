/- Chains by the project's own functions: bytes, what is chopped, a step, chains, over the loaded program. -/
import Derived.Test.YtljjajbkaffofauChn0
import Derived.Test.YtljjajbkaffofauDpt
import Derived.Test.YtljjajbkaffofauCbx
namespace Go.Proofs.Ytljjajbkaffofau
open Go.RowKit
theorem below_grown14 {w w' : World} (hb : Below w.heap.size w w') (g : Nat) : w.grownBy w' (some g) := ⟨hb.os, hb.tape, hb.output, hb.size, fun k hk _ => hb.block k hk⟩
set_option maxRecDepth 20000 in
set_option maxHeartbeats 400000 in
theorem implByteY_any (z : Int) (w : World) :
    Calls Try.prog 37 #[.int .i64 z] w fun e w' => e = .returned (.string (oneY z)) ∧ Below w.heap.size w w' := by
  have hx := b256_lt z
  have E := hide (show oneY z = ⟨#[UInt8.ofNat (b256 z)]⟩ from rfl)
  rw [unhide E]
  have ew : IntKind.u8.wrap z = (b256 z : Int) := by rw [IntKind.wrap_u8]; unfold b256; omega
  have ew8 : z % 256 = (b256 z : Int) := by unfold b256; omega
  generalize b256 z = x at *
  have hcv := conv_oneY w x hx
  have hb : Below w.heap.size w (w.alloc (.cells #[.int .u8 (x : Int)] 5)) := (Below.refl w.heap.size w).alloc (Nat.le_refl _) _
  go_enter Try.func37, Try.ntmps37
  go_wp2
  go_ret
  exact ⟨rfl, hb⟩
set_option maxRecDepth 20000 in
set_option maxHeartbeats 400000 in
theorem chopParts_any (bk o c n : Nat) (xs : List ByteArray) (hn : xs.length = n) (T : ByteArray) (hT : T.data.toList = (xs.map (·.data.toList)).flatten) (hTs : T.size ≤ 4000000) (w : World) (hcells : ∀ (j : Nat) x, xs[j]? = some x → w.cell? ⟨bk, o + j, none⟩ = some (.string x)) (hbk : bk < w.heap.size) (hcap : n ≤ c) (hN : n ≤ 1000) :
    Calls Try.prog 36 #[.slice (some ⟨bk, o, none⟩) n c] w fun e w' => e = .returned (.string (chopB T)) ∧ Below w.heap.size w w' := by
  have C := hide (digParts_any bk o c n xs hn T hT hTs w hcells hbk hcap hN)
  have hz : (digB T).size = 32 := digB_size0 _
  have E := hide (show chopB T = (digB T).extract 0 4 from rfl)
  rw [unhide E]
  have hz' : (4 : Int) ≤ ((digB T).size : Int) := by omega
  generalize digB T = d at *
  replace hz := hide hz
  clear hcells hT
  go_enter Try.func36, Try.ntmps36
  go_wp2_with fail
  refine (unhide C).mono ?_
  rintro e w1 ⟨rfl, hb1⟩
  go_wp2
  go_ret
  exact ⟨rfl, hb1⟩
theorem row_texts (w : World) (xs : List ByteArray) (T : TypeId) : ∀ (j : Nat) x, xs[j]? = some x → (w.alloc (.cells (xs.map Value.string).toArray T)).cell? ⟨w.heap.size, 0 + j, none⟩ = some (.string x) := by
  intro j x hx
  rw [Nat.zero_add, cell_of_row _ w.heap.size j _ T (0, 0) (heap_alloc_new w _)]
  simp [hx]
theorem chop4_any (a b c d : ByteArray) (ha : a.size ≤ 2000000) (hb : b.size ≤ 1) (hc : c.size ≤ 1) (hd : d.size ≤ 1100000) (w : World) :
    Calls Try.prog 36 #[.slice (some ⟨w.heap.size, 0, none⟩) 4 4] (w.alloc (.cells #[.string a, .string b, .string c, .string d] 9)) fun e w' => e = .returned (.string (chopB (a ++ b ++ c ++ d))) ∧ Below w.heap.size w w' := by
  have h := chopParts_any w.heap.size 0 4 4 [a, b, c, d] rfl (a ++ b ++ c ++ d) (by simp [ByteArray.data_append, Array.toList_append]) (by rw [ByteArray.size_append, ByteArray.size_append, ByteArray.size_append]; omega) (w.alloc (.cells #[.string a, .string b, .string c, .string d] 9)) (row_texts w [a, b, c, d] 9) (by simp) (Nat.le_refl _) (by omega)
  refine h.mono ?_
  rintro e w1 ⟨rfl, hb1⟩
  exact ⟨rfl, ((Below.refl w.heap.size w).alloc (Nat.le_refl _) _).trans (hb1.mono (by simp))⟩
set_option maxRecDepth 20000 in
set_option maxHeartbeats 400000 in
theorem implChop_any (s : ByteArray) (hs : s.size ≤ 4000000) (w : World) :
    Calls Try.prog 43 #[.string s] w fun e w' => e = .returned (.string (chopB s)) ∧ Below w.heap.size w w' := by
  have C := hide (chopParts_any w.heap.size 0 1 1 [s] rfl s (by simp) hs (w.alloc (.cells #[.string s] 9)) (row_texts w [s] 9) (by simp) (Nat.le_refl _) (by omega))
  have hb0 : Below w.heap.size w (w.alloc (.cells #[.string s] 9)) := (Below.refl w.heap.size w).alloc (Nat.le_refl _) _
  generalize chopB s = d at *
  go_enter Try.func43, Try.ntmps43
  go_wp2_with fail
  refine (unhide C).mono ?_
  rintro e w1 ⟨rfl, hb1⟩
  have hb01 := hb0.trans (hb1.mono hb0.size)
  clear hb0 hb1 C
  go_wp2
  go_ret
  exact ⟨rfl, hb01⟩
abbrev plC (a b c : Int) : Array Value := #[.int .i64 a, .int .i64 b, .int .i64 c]
set_option maxRecDepth 20000 in
set_option maxHeartbeats 1000000 in
theorem chainStep_any (g : Nat) (a b c : Int) (x : ByteArray) (hx : x.size ≤ 1048576) (w : World) (hC : CB w g 65 (plC a b c)) :
    Calls Try.prog 51 #[.pointer (some ⟨g, 0, none⟩), .string x] w fun e w' => e = .returned (.string (chopB (oneY a ++ oneY b ++ oneY c ++ x))) ∧ CB w' g 65 (plC a b (IntKind.i64.wrap (c + 1))) ∧ w.grownBy w' (some g) := by
  obtain ⟨c', hc'⟩ : ∃ c', IntKind.i64.wrap (c + 1) = c' := ⟨_, rfl⟩
  have hc2 : wrap64 (c + 1) = c' := (IntWalk.i64_left (c + 1)).symm.trans hc'
  rw [hc']
  have hg := hC.lt
  have c0 := hC.cell 0 rfl
  have c1 := hC.cell 1 rfl
  have c2 := hC.cell 2 rfl
  have KS := hide (fun (W : World) (h : Below w.heap.size w W) => (⟨(h.cell (p := ⟨g, 0, none⟩) hg).trans c0, (h.cell (p := ⟨g, 1, none⟩) hg).trans c1, (h.cell (p := ⟨g, 2, none⟩) hg).trans c2⟩ : W.cell? ⟨g, 0, none⟩ = some (.int .i64 a) ∧ W.cell? ⟨g, 1, none⟩ = some (.int .i64 b) ∧ W.cell? ⟨g, 2, none⟩ = some (.int .i64 c)))
  have CY := hide (fun z W => implByteY_any z W)
  have CC := hide (fun W => chop4_any (oneY a) (oneY b) (oneY c) x (by rw [oneY_size]; omega) (by rw [oneY_size]; omega) (by rw [oneY_size]; omega) (by omega) W)
  generalize chopB (oneY a ++ oneY b ++ oneY c ++ x) = q at *
  obtain ⟨Y, hY⟩ : ∃ Y : Int → ByteArray, Y = oneY := ⟨_, rfl⟩
  rw [← hY] at CY CC
  clear hY
  have HC := hide hC
  clear hC
  go_enter Try.func51, Try.ntmps51
  go_wp2
  go_region_held3 (fun W => W.cell? ⟨g, 0, none⟩ = some (.int .i64 a) ∧ W.cell? ⟨g, 1, none⟩ = some (.int .i64 b) ∧ W.cell? ⟨g, 2, none⟩ = some (.int .i64 c)) (first | exact ⟨c0, c1, c2⟩ | exact (unhide KS) _ hB4 | exact (unhide KS) _ hB3 | exact (unhide KS) _ hB2 | exact (unhide KS) _ hB1 | exact (unhide KS) _ (hB3.alloc (by have := hB3.size; omega) _) | fail) (first
    | (go_at_call 37; have hB2' := hB2; refine ((unhide CY) _ _).mono ?_; rintro e w3 ⟨rfl, hb3⟩; have hB3 : Below w.heap.size w w3 := hB2.trans (hb3.mono hB2.size))
    | (go_at_call 37; have hB1' := hB1; refine ((unhide CY) _ _).mono ?_; rintro e w2 ⟨rfl, hb2⟩; have hB2 : Below w.heap.size w w2 := hB1.trans (hb2.mono hB1.size))
    | (go_at_call 37; refine ((unhide CY) _ _).mono ?_; rintro e w1 ⟨rfl, hb1⟩; have hB1 : Below w.heap.size w w1 := (Below.refl _ w).drew.trans hb1)
    | (go_at_call 36; refine ((unhide CC) _).mono ?_; rintro e w4 ⟨rfl, hb4⟩; have hB4 : Below w.heap.size w w4 := hB3.trans (hb4.mono hB3.size))
    | fail)
  all_goals
    obtain ⟨d0, d1, d2⟩ := (unhide KS) _ hB4
    have HC4 := (unhide HC).below hB4 hg
    have f2 := HC4.frozen 2
    have HC5 := hide (HC4.set 2 (.int .i64 c'))
    have G5 := hide (grownBy_trans (below_grown14 hB4 g) (tS0 w4 g 2 (.int .i64 c')))
    clear hb1 hb2 hb3 hb4 hB1 hB2 hB3 hB4 KS c0 c1 c2 HC HC4 CY CC
    go_wp2
    go_ret
    exact ⟨rfl, unhide HC5, unhide G5⟩
/-- Where a chain stands behind k steps. -/
def frK (c : Int) : Nat → Int
  | 0 => c
  | k + 1 => IntKind.i64.wrap (frK c k + 1)
theorem frK_mod (c : Int) (k : Nat) : (frK c k) % 256 = (c.tmod 256 + (k : Int)) % 256 := by
  induction k with
  | zero =>
    show c % 256 = _
    have e := @Int.tmod_eq_emod c 256
    split at e
    · rw [e]; omega
    · have e2 : c.tmod 256 = c % 256 - 256 := e
      rw [e2]; omega
  | succ k ih =>
    show (IntKind.i64.wrap (frK c k + 1)) % 256 = _
    rw [IntKind.wrap_i64]
    generalize c.tmod 256 = r at *
    generalize frK c k = f at *
    omega
theorem frK_one (c : Int) (k : Nat) : oneY (frK c k) = oneY (c.tmod 256 + (k : Int)) := by
  unfold oneY b256
  rw [frK_mod]
set_option maxRecDepth 20000 in
set_option maxHeartbeats 1000000 in
theorem repeated_any (g : Nat) (a b c d : Int) (x : ByteArray) (hx : x.size ≤ 1048576) (hd : d ≤ 15) (w : World) (hC : CB w g 65 (plC a b c)) :
    Calls Try.prog 50 #[.func (Fn.func 51) #[.pointer (some ⟨g, 0, none⟩)] #[], .string x, .int .i64 d] w fun e w' => e = .returned (.string (chnB x a b c d.toNat)) ∧ w.grownBy w' (some g) := by
  have HN := hide (show ∀ k, chopB (oneY a ++ oneY b ++ oneY (frK c k) ++ chnB x a b c k) = chnB x a b c (k + 1) from fun k => by rw [frK_one]; rfl)
  have HS := hide (fun k => chnB_size x a b c k hx)
  have H0 := hide (show chnB x a b c 0 = x from rfl)
  have HF0 := hide (show frK c 0 = c from rfl)
  have HFn := hide (show ∀ k, IntKind.i64.wrap (frK c k + 1) = frK c (k + 1) from fun k => rfl)
  have CSt := hide (fun (k : Nat) (W : World) (h : CB W g 65 (plC a b (frK c k))) => chainStep_any g a b (frK c k) (chnB x a b c k) (unhide HS k) W h)
  simp only [unhide HN, unhide HFn] at CSt
  have HC := hide hC
  clear hC HN HFn HS
  generalize chnB x a b c = F at *
  generalize frK c = R at *
  go_enter Try.func50, Try.ntmps50
  go_wp2
  go_loopw [1, 8] (fun tx ti wr => ∃ k : Nat, k ≤ d.toNat ∧ ti = .int .i64 (k : Int) ∧ tx = .string (F k) ∧ Hid (CB wr g 65 (plC a b (R k))) ∧ Hid (w.grownBy wr (some g))) (fun _ ti _ => 20 - (intOf ti).toNat)
  case atStart => exact ⟨0, Nat.zero_le _, rfl, by rw [unhide H0], by rw [unhide HF0]; exact HC, hide (World.grownBy.refl w _)⟩
  case round =>
    clear HC
    obtain ⟨k, hk, rfl, rfl, HM, HG⟩ := hrel
    by_cases hlt : (k : Int) < d
    · have C := hide (unhide CSt k wr (unhide HM))
      have hk15 : k < 15 := by omega
      obtain ⟨f2, hf2⟩ : ∃ f2, f2 = F (k + 1) := ⟨_, rfl⟩
      rw [← hf2] at C
      replace hf2 := hide hf2
      generalize F k = fk at *
      clear CSt
      go_wp2_with (go_at_call 51; refine (unhide C).mono ?_; rintro e w1 ⟨rfl, hA1, hg1⟩)
      go_roundw
      case rel => exact ⟨k + 1, by omega, by go_num, by rw [unhide hf2], hide hA1, hide (grownBy_trans (unhide HG) hg1)⟩
      case measure => simp [intOf]; omega
    · have hkk := hide (show d.toNat = k by omega)
      go_wp2
      go_ret
      rw [unhide hkk]
      exact ⟨rfl, unhide HG⟩
set_option maxRecDepth 20000 in
theorem stringsClone14_any (s : ByteArray) (w : World) (hs : s.size ≤ 4000000) :
    Calls Try.prog 52 #[.string s] w fun e w' => e = .returned (.string s) ∧ Below w.heap.size w w' := by
  have hlim : s.size ≤ 281474976710656 := by omega
  have C := hide (Try.stringslite_Clone s w hlim)
  go_enter Try.func52, Try.ntmps52
  go_wp2_with fail
  refine (unhide C).mono ?_
  rintro e w2 ⟨rfl, hb2⟩
  go_wp2
  go_ret
  exact ⟨rfl, hb2⟩
theorem grown_below14 {a b c : World} {g : Nat} (h : Below a.heap.size a b) (k : b.grownBy c (some g)) (hg : a.heap.size ≤ g) : Below a.heap.size a c :=
  ⟨k.os.trans h.os, k.tape.trans h.tape, k.output.trans h.output, Nat.le_trans h.size k.size, fun q hq => (k.block q (Nat.lt_of_lt_of_le hq h.size) (fun e => by have := Option.some.inj e; omega)).trans (h.block q hq)⟩
set_option maxRecDepth 20000 in
set_option maxHeartbeats 1000000 in
theorem implChain_any (x : ByteArray) (a b c d : Int) (hx : x.size ≤ 1048576) (w : World) :
    Calls Try.prog 42 #[.string x, .int .i64 a, .int .i64 b, .int .i64 c, .int .i64 d] w fun e w' => e = .returned (.string (chnB x a b c (stepsN d))) ∧ Below w.heap.size w w' := by
  have CCl := hide (fun W => stringsClone14_any x W (by omega))
  have hst : stepsN d = (if d ≤ 15 then d else 15).toNat := by unfold stepsN; split <;> rfl
  obtain ⟨m, hm⟩ : ∃ m : Int, m = if d ≤ 15 then d else 15 := ⟨_, rfl⟩
  have hm15 : m ≤ 15 := by rw [hm]; split <;> omega
  rw [← hm] at hst
  have hmin : min d 15 = m := by rw [hm]; split <;> omega
  have hmin2 : (if d ≤ 15 then d else 15) = m := hm.symm
  have CR := hide (fun (g : Nat) (W : World) (h : CB W g 65 (plC a b c)) => repeated_any g a b c m x hx hm15 W h)
  rw [hst]
  generalize chnB x a b c m.toNat = q at *
  obtain ⟨W, hW, hC, hb, hlt⟩ := one_cb w (plC a b c) 65
  replace hst := hide hst
  replace hm := hide hm
  go_enter Try.func42, Try.ntmps42
  go_wp2_with fail
  refine (unhide CCl W).mono ?_
  rintro e w1 ⟨rfl, hb1⟩
  have hC1 := hC.below hb1 hlt
  have hB1 := hb.trans (hb1.mono hb.size)
  clear hb hb1 hC hW
  go_wp2_with fail
  refine (unhide CR _ w1 hC1).mono ?_
  rintro e w2 ⟨rfl, hg2⟩
  have hB2 := grown_below14 hB1 hg2 (Nat.le_refl _)
  clear hg2 hB1 hC1
  go_wp2
  go_ret
  exact ⟨rfl, hB2⟩
end Go.Proofs.Ytljjajbkaffofau
