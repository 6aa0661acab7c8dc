/- Merged: ChI1, Chn1, Apw, Chn2, Apg, Rws, Chn3, Chn4. -/
import Derived.Test.YtjgnjjphankhnabMga1
import Derived.Test.YtjgnjjphankhnabMga2
import Derived.Test.YtjgnjjphankhnabMga3
import Derived.Test.YtjgnjjphankhnabMga4
import Derived.Test.YtjgnjjphankhnabMga5
import Derived.Test.YtjgnjjphankhnabMga6
import Derived.Laws.DeepStrings4
import Derived.Deep.RegionHeld3
import Derived.BigQuiet
import Derived.Deep.QuietTactic
/- Chains by the project's own functions: bytes, what is chopped, a step, chains, over the loaded program. -/
namespace Go.Proofs.Ytjgnjjphankhnab
open Go.RowKit
theorem below_grown14 {w w' : World} (hb : Below w.heap.size w w') (g : Nat) : w.grownBy w' (some g) := ⟨hb.os, hb.tape, hb.output, hb.size, fun k hk _ => hb.block k hk⟩
set_option maxRecDepth 20000 in
set_option maxHeartbeats 400000 in
theorem implByteY_any (z : Int) (w : World) :
    Calls Try.prog 34 #[.int .i64 z] w fun e w' => e = .returned (.string (oneY z)) ∧ Below w.heap.size w w' := by
  have hx := b256_lt z
  have E := hide (show oneY z = ⟨#[UInt8.ofNat (b256 z)]⟩ from rfl)
  rw [unhide E]
  have ew : IntKind.u8.wrap z = (b256 z : Int) := by rw [IntKind.wrap_u8]; unfold b256; omega
  have ew8 : z % 256 = (b256 z : Int) := by unfold b256; omega
  generalize b256 z = x at *
  have hcv := conv_oneY w x hx
  have hb : Below w.heap.size w (w.alloc (.cells #[.int .u8 (x : Int)] 5)) := (Below.refl w.heap.size w).alloc (Nat.le_refl _) _
  go_enter Try.func34, Try.ntmps34
  go_wp2
  go_ret
  exact ⟨rfl, hb⟩
set_option maxRecDepth 20000 in
set_option maxHeartbeats 400000 in
theorem chopParts_any (bk o c n : Nat) (xs : List ByteArray) (hn : xs.length = n) (T : ByteArray) (hT : T.data.toList = (xs.map (·.data.toList)).flatten) (hTs : T.size ≤ 4000000) (w : World) (hcells : ∀ (j : Nat) x, xs[j]? = some x → w.cell? ⟨bk, o + j, none⟩ = some (.string x)) (hbk : bk < w.heap.size) (hcap : n ≤ c) (hN : n ≤ 1000) :
    Calls Try.prog 63 #[.slice (some ⟨bk, o, none⟩) n c] w fun e w' => e = .returned (.string (chopB T)) ∧ Below w.heap.size w w' := by
  have C := hide (digParts_any bk o c n xs hn T hT hTs w hcells hbk hcap hN)
  have hz : (digB T).size = 32 := digB_size0 _
  have E := hide (show chopB T = (digB T).extract 0 4 from rfl)
  rw [unhide E]
  have hz' : (4 : Int) ≤ ((digB T).size : Int) := by omega
  generalize digB T = d at *
  replace hz := hide hz
  clear hcells hT
  go_enter Try.func63, Try.ntmps63
  go_wp2_with fail
  refine (unhide C).mono ?_
  rintro e w1 ⟨rfl, hb1⟩
  go_wp2
  go_ret
  exact ⟨rfl, hb1⟩
theorem row_texts (w : World) (xs : List ByteArray) (T : TypeId) : ∀ (j : Nat) x, xs[j]? = some x → (w.alloc (.cells (xs.map Value.string).toArray T)).cell? ⟨w.heap.size, 0 + j, none⟩ = some (.string x) := by
  intro j x hx
  rw [Nat.zero_add, cell_of_row _ w.heap.size j _ T (0, 0) (heap_alloc_new w _)]
  simp [hx]
theorem chop4_any (a b c d : ByteArray) (ha : a.size ≤ 2000000) (hb : b.size ≤ 1) (hc : c.size ≤ 1) (hd : d.size ≤ 1100000) (w : World) :
    Calls Try.prog 63 #[.slice (some ⟨w.heap.size, 0, none⟩) 4 4] (w.alloc (.cells #[.string a, .string b, .string c, .string d] 9)) fun e w' => e = .returned (.string (chopB (a ++ b ++ c ++ d))) ∧ Below w.heap.size w w' := by
  have h := chopParts_any w.heap.size 0 4 4 [a, b, c, d] rfl (a ++ b ++ c ++ d) (by simp [ByteArray.data_append, Array.toList_append]) (by rw [ByteArray.size_append, ByteArray.size_append, ByteArray.size_append]; omega) (w.alloc (.cells #[.string a, .string b, .string c, .string d] 9)) (row_texts w [a, b, c, d] 9) (by simp) (Nat.le_refl _) (by omega)
  refine h.mono ?_
  rintro e w1 ⟨rfl, hb1⟩
  exact ⟨rfl, ((Below.refl w.heap.size w).alloc (Nat.le_refl _) _).trans (hb1.mono (by simp))⟩
set_option maxRecDepth 20000 in
set_option maxHeartbeats 400000 in
theorem implChop_any (s : ByteArray) (hs : s.size ≤ 4000000) (w : World) :
    Calls Try.prog 65 #[.string s] w fun e w' => e = .returned (.string (chopB s)) ∧ Below w.heap.size w w' := by
  have C := hide (chopParts_any w.heap.size 0 1 1 [s] rfl s (by simp) hs (w.alloc (.cells #[.string s] 9)) (row_texts w [s] 9) (by simp) (Nat.le_refl _) (by omega))
  have hb0 : Below w.heap.size w (w.alloc (.cells #[.string s] 9)) := (Below.refl w.heap.size w).alloc (Nat.le_refl _) _
  generalize chopB s = d at *
  go_enter Try.func65, Try.ntmps65
  go_wp2_with fail
  refine (unhide C).mono ?_
  rintro e w1 ⟨rfl, hb1⟩
  have hb01 := hb0.trans (hb1.mono hb0.size)
  clear hb0 hb1 C
  go_wp2
  go_ret
  exact ⟨rfl, hb01⟩
abbrev plC (a b c : Int) : Array Value := #[.int .i64 a, .int .i64 b, .int .i64 c]
set_option maxRecDepth 20000 in
set_option maxHeartbeats 1000000 in
theorem chainStep_any (g : Nat) (a b c : Int) (x : ByteArray) (hx : x.size ≤ 1048576) (w : World) (hC : CB w g 113 (plC a b c)) :
    Calls Try.prog 94 #[.pointer (some ⟨g, 0, none⟩), .string x] w fun e w' => e = .returned (.string (chopB (oneY a ++ oneY b ++ oneY c ++ x))) ∧ CB w' g 113 (plC a b (IntKind.i64.wrap (c + 1))) ∧ w.grownBy w' (some g) := by
  obtain ⟨c', hc'⟩ : ∃ c', IntKind.i64.wrap (c + 1) = c' := ⟨_, rfl⟩
  have hc2 : wrap64 (c + 1) = c' := (IntWalk.i64_left (c + 1)).symm.trans hc'
  rw [hc']
  have hg := hC.lt
  have c0 := hC.cell 0 rfl
  have c1 := hC.cell 1 rfl
  have c2 := hC.cell 2 rfl
  have KS := hide (fun (W : World) (h : Below w.heap.size w W) => (⟨(h.cell (p := ⟨g, 0, none⟩) hg).trans c0, (h.cell (p := ⟨g, 1, none⟩) hg).trans c1, (h.cell (p := ⟨g, 2, none⟩) hg).trans c2⟩ : W.cell? ⟨g, 0, none⟩ = some (.int .i64 a) ∧ W.cell? ⟨g, 1, none⟩ = some (.int .i64 b) ∧ W.cell? ⟨g, 2, none⟩ = some (.int .i64 c)))
  have CY := hide (fun z W => implByteY_any z W)
  have CC := hide (fun W => chop4_any (oneY a) (oneY b) (oneY c) x (by rw [oneY_size]; omega) (by rw [oneY_size]; omega) (by rw [oneY_size]; omega) (by omega) W)
  generalize chopB (oneY a ++ oneY b ++ oneY c ++ x) = q at *
  obtain ⟨Y, hY⟩ : ∃ Y : Int → ByteArray, Y = oneY := ⟨_, rfl⟩
  rw [← hY] at CY CC
  clear hY
  have HC := hide hC
  clear hC
  go_enter Try.func94, Try.ntmps94
  go_wp2
  go_region_held3 (fun W => W.cell? ⟨g, 0, none⟩ = some (.int .i64 a) ∧ W.cell? ⟨g, 1, none⟩ = some (.int .i64 b) ∧ W.cell? ⟨g, 2, none⟩ = some (.int .i64 c)) (first | exact ⟨c0, c1, c2⟩ | exact (unhide KS) _ hB4 | exact (unhide KS) _ hB3 | exact (unhide KS) _ hB2 | exact (unhide KS) _ hB1 | exact (unhide KS) _ (hB3.alloc (by have := hB3.size; omega) _) | fail) (first
    | (go_at_call 34; have hB2' := hB2; refine ((unhide CY) _ _).mono ?_; rintro e w3 ⟨rfl, hb3⟩; have hB3 : Below w.heap.size w w3 := hB2.trans (hb3.mono hB2.size))
    | (go_at_call 34; have hB1' := hB1; refine ((unhide CY) _ _).mono ?_; rintro e w2 ⟨rfl, hb2⟩; have hB2 : Below w.heap.size w w2 := hB1.trans (hb2.mono hB1.size))
    | (go_at_call 34; refine ((unhide CY) _ _).mono ?_; rintro e w1 ⟨rfl, hb1⟩; have hB1 : Below w.heap.size w w1 := (Below.refl _ w).drew.trans hb1)
    | (go_at_call 63; refine ((unhide CC) _).mono ?_; rintro e w4 ⟨rfl, hb4⟩; have hB4 : Below w.heap.size w w4 := hB3.trans (hb4.mono hB3.size))
    | fail)
  all_goals
    obtain ⟨d0, d1, d2⟩ := (unhide KS) _ hB4
    have HC4 := (unhide HC).below hB4 hg
    have f2 := HC4.frozen 2
    have HC5 := hide (HC4.set 2 (.int .i64 c'))
    have G5 := hide (grownBy_trans (below_grown14 hB4 g) (tS0 w4 g 2 (.int .i64 c')))
    clear hb1 hb2 hb3 hb4 hB1 hB2 hB3 hB4 KS c0 c1 c2 HC HC4 CY CC
    go_wp2
    go_ret
    exact ⟨rfl, unhide HC5, unhide G5⟩
/-- Where a chain stands behind k steps. -/
def frK (c : Int) : Nat → Int
  | 0 => c
  | k + 1 => IntKind.i64.wrap (frK c k + 1)
theorem frK_mod (c : Int) (k : Nat) : (frK c k) % 256 = (c.tmod 256 + (k : Int)) % 256 := by
  induction k with
  | zero =>
    show c % 256 = _
    have e := @Int.tmod_eq_emod c 256
    split at e
    · rw [e]; omega
    · have e2 : c.tmod 256 = c % 256 - 256 := e
      rw [e2]; omega
  | succ k ih =>
    show (IntKind.i64.wrap (frK c k + 1)) % 256 = _
    rw [IntKind.wrap_i64]
    generalize c.tmod 256 = r at *
    generalize frK c k = f at *
    omega
theorem frK_one (c : Int) (k : Nat) : oneY (frK c k) = oneY (c.tmod 256 + (k : Int)) := by
  unfold oneY b256
  rw [frK_mod]
set_option maxRecDepth 20000 in
set_option maxHeartbeats 1000000 in
theorem repeated_any (g : Nat) (a b c d : Int) (x : ByteArray) (hx : x.size ≤ 1048576) (hd : d ≤ 15) (w : World) (hC : CB w g 113 (plC a b c)) :
    Calls Try.prog 93 #[.func (Fn.func 94) #[.pointer (some ⟨g, 0, none⟩)] #[], .string x, .int .i64 d] w fun e w' => e = .returned (.string (chnB x a b c d.toNat)) ∧ w.grownBy w' (some g) := by
  have HN := hide (show ∀ k, chopB (oneY a ++ oneY b ++ oneY (frK c k) ++ chnB x a b c k) = chnB x a b c (k + 1) from fun k => by rw [frK_one]; rfl)
  have HS := hide (fun k => chnB_size x a b c k hx)
  have H0 := hide (show chnB x a b c 0 = x from rfl)
  have HF0 := hide (show frK c 0 = c from rfl)
  have HFn := hide (show ∀ k, IntKind.i64.wrap (frK c k + 1) = frK c (k + 1) from fun k => rfl)
  have CSt := hide (fun (k : Nat) (W : World) (h : CB W g 113 (plC a b (frK c k))) => chainStep_any g a b (frK c k) (chnB x a b c k) (unhide HS k) W h)
  simp only [unhide HN, unhide HFn] at CSt
  have HC := hide hC
  clear hC HN HFn HS
  generalize chnB x a b c = F at *
  generalize frK c = R at *
  go_enter Try.func93, Try.ntmps93
  go_wp2
  go_loopw [1, 8] (fun tx ti wr => ∃ k : Nat, k ≤ d.toNat ∧ ti = .int .i64 (k : Int) ∧ tx = .string (F k) ∧ Hid (CB wr g 113 (plC a b (R k))) ∧ Hid (w.grownBy wr (some g))) (fun _ ti _ => 20 - (intOf ti).toNat)
  case atStart => exact ⟨0, Nat.zero_le _, rfl, by rw [unhide H0], by rw [unhide HF0]; exact HC, hide (World.grownBy.refl w _)⟩
  case round =>
    clear HC
    obtain ⟨k, hk, rfl, rfl, HM, HG⟩ := hrel
    by_cases hlt : (k : Int) < d
    · have C := hide (unhide CSt k wr (unhide HM))
      have hk15 : k < 15 := by omega
      obtain ⟨f2, hf2⟩ : ∃ f2, f2 = F (k + 1) := ⟨_, rfl⟩
      rw [← hf2] at C
      replace hf2 := hide hf2
      generalize F k = fk at *
      clear CSt
      go_wp2_with (go_at_call 94; refine (unhide C).mono ?_; rintro e w1 ⟨rfl, hA1, hg1⟩)
      go_roundw
      case rel => exact ⟨k + 1, by omega, by go_num, by rw [unhide hf2], hide hA1, hide (grownBy_trans (unhide HG) hg1)⟩
      case measure => simp [intOf]; omega
    · have hkk := hide (show d.toNat = k by omega)
      go_wp2
      go_ret
      rw [unhide hkk]
      exact ⟨rfl, unhide HG⟩
set_option maxRecDepth 20000 in
theorem stringsClone14_any (s : ByteArray) (w : World) (hs : s.size ≤ 4000000) :
    Calls Try.prog 54 #[.string s] w fun e w' => e = .returned (.string s) ∧ Below w.heap.size w w' := by
  have hlim : s.size ≤ 281474976710656 := by omega
  have C := hide (Try.stringslite_Clone s w hlim)
  go_enter Try.func54, Try.ntmps54
  go_wp2_with fail
  refine (unhide C).mono ?_
  rintro e w2 ⟨rfl, hb2⟩
  go_wp2
  go_ret
  exact ⟨rfl, hb2⟩
theorem grown_below14 {a b c : World} {g : Nat} (h : Below a.heap.size a b) (k : b.grownBy c (some g)) (hg : a.heap.size ≤ g) : Below a.heap.size a c :=
  ⟨k.os.trans h.os, k.tape.trans h.tape, k.output.trans h.output, Nat.le_trans h.size k.size, fun q hq => (k.block q (Nat.lt_of_lt_of_le hq h.size) (fun e => by have := Option.some.inj e; omega)).trans (h.block q hq)⟩
set_option maxRecDepth 20000 in
set_option maxHeartbeats 1000000 in
theorem implChain_any (x : ByteArray) (a b c d : Int) (hx : x.size ≤ 1048576) (w : World) :
    Calls Try.prog 81 #[.string x, .int .i64 a, .int .i64 b, .int .i64 c, .int .i64 d] w fun e w' => e = .returned (.string (chnB x a b c (stepsN d))) ∧ Below w.heap.size w w' := by
  have CCl := hide (fun W => stringsClone14_any x W (by omega))
  have hst : stepsN d = (if d ≤ 15 then d else 15).toNat := by unfold stepsN; split <;> rfl
  obtain ⟨m, hm⟩ : ∃ m : Int, m = if d ≤ 15 then d else 15 := ⟨_, rfl⟩
  have hm15 : m ≤ 15 := by rw [hm]; split <;> omega
  rw [← hm] at hst
  have hmin : min d 15 = m := by rw [hm]; split <;> omega
  have hmin2 : (if d ≤ 15 then d else 15) = m := hm.symm
  have CR := hide (fun (g : Nat) (W : World) (h : CB W g 113 (plC a b c)) => repeated_any g a b c m x hx hm15 W h)
  rw [hst]
  generalize chnB x a b c m.toNat = q at *
  obtain ⟨W, hW, hC, hb, hlt⟩ := one_cb w (plC a b c) 113
  replace hst := hide hst
  replace hm := hide hm
  go_enter Try.func81, Try.ntmps81
  go_wp2_with fail
  refine (unhide CCl W).mono ?_
  rintro e w1 ⟨rfl, hb1⟩
  have hC1 := hC.below hb1 hlt
  have hB1 := hb.trans (hb1.mono hb.size)
  clear hb hb1 hC hW
  go_wp2_with fail
  refine (unhide CR _ w1 hC1).mono ?_
  rintro e w2 ⟨rfl, hg2⟩
  have hB2 := grown_below14 hB1 hg2 (Nat.le_refl _)
  clear hg2 hB1 hC1
  go_wp2
  go_ret
  exact ⟨rfl, hB2⟩
end Go.Proofs.Ytjgnjjphankhnab

/- Chains by the given model: what is chopped, chains, over the loaded program. -/
namespace Go.Proofs.Ytjgnjjphankhnab
open Go.RowKit
theorem specChop_any (s : ByteArray) (hs : s.size ≤ 4000000) (w : World) :
    Calls Try.prog 45 #[.string s] w fun e w' => e = .returned (.string (chopB s)) ∧ Below w.heap.size w w' := by
  have C := hide (specDigest_any s hs w)
  have hz : (digB s).size = 32 := V8.text_size _
  have E := hide (show chopB s = (digB s).extract 0 4 from rfl)
  rw [unhide E]
  have hz' : (4 : Int) ≤ ((digB s).size : Int) := by omega
  generalize digB s = d at *
  replace hz := hide hz
  go_enter Try.func45, Try.ntmps45
  go_wp2_with fail
  refine (unhide C).mono ?_
  rintro e w1 ⟨rfl, hb1⟩
  go_wp2
  go_ret
  exact ⟨rfl, hb1⟩
theorem steps_facts (z : Int) (k : Nat) (h : k ≤ stepsN z) : (k < stepsN z ∧ (k : Int) < z ∧ (k : Int) < 15) ∨ (k = stepsN z ∧ (¬ (k : Int) < z ∨ ((k : Int) < z ∧ ¬ (k : Int) < 15))) := by
  unfold stepsN at *
  by_cases hz : z ≤ 15
  · rw [if_pos hz] at *; omega
  · rw [if_neg hz] at *; omega
set_option maxRecDepth 20000 in
set_option maxHeartbeats 800000 in
theorem specChain_any (x : ByteArray) (leaf chain frm steps : Int) (hx : x.size ≤ 1048576) (w : World) :
    Calls Try.prog 44 #[.string x, .int .i64 leaf, .int .i64 chain, .int .i64 frm, .int .i64 steps] w fun e w' => e = .returned (.string (chnB x leaf chain frm (stepsN steps))) ∧ Below w.heap.size w w' := by
  have CB := hide (fun z W => specByteY_any z W)
  have CC := hide (fun s hs W => specChop_any s hs W)
  have HS := hide (fun k => chnB_size x leaf chain frm k hx)
  have HN := hide (show ∀ k, chnB x leaf chain frm (k + 1) = chopB (oneY leaf ++ oneY chain ++ oneY (frm.tmod 256 + (k : Int)) ++ chnB x leaf chain frm k) from fun k => rfl)
  have H0 := hide (show chnB x leaf chain frm 0 = x from rfl)
  have hl15 := stepsN_le steps
  obtain ⟨r, hr⟩ : ∃ r, frm.tmod 256 = r := ⟨_, rfl⟩
  have hr1 : -255 ≤ r ∧ r ≤ 255 := by
    have h1 := Int.tmod_lt_of_pos frm (show (0 : Int) < 256 by decide)
    have h2 := Int.lt_tmod_of_pos frm (show (0 : Int) < 256 by decide)
    omega
  have er : IntKind.i64.wrap r = r := by rw [IntKind.wrap_i64]; omega
  rw [hr] at HN
  generalize chnB x leaf chain frm = F at *
  obtain ⟨N, hN⟩ : ∃ N, N = stepsN steps := ⟨_, rfl⟩
  rw [← hN] at hl15 ⊢
  have SF := hide (show ∀ k : Nat, k ≤ N → (k < N ∧ (k : Int) < steps ∧ (k : Int) < 15) ∨ (k = N ∧ (¬ (k : Int) < steps ∨ ((k : Int) < steps ∧ ¬ (k : Int) < 15))) from fun k h => by rw [hN] at h ⊢; exact steps_facts steps k h)
  replace hN := hide hN
  go_enter Try.func44, Try.ntmps44
  go_wp2
  go_loopw [0, 11] (fun tx ti wr => ∃ k : Nat, k ≤ N ∧ ti = .int .i64 (k : Int) ∧ tx = .string (F k) ∧ Below w.heap.size w wr) (fun _ ti _ => 20 - (intOf ti).toNat)
  case atStart => exact ⟨0, Nat.zero_le _, rfl, by rw [unhide H0], Below.refl _ _⟩
  case round =>
    obtain ⟨k, hk, rfl, rfl, hB⟩ := hrel
    rcases unhide SF k hk with ⟨h1, h2, h3⟩ | ⟨h1, h2⟩
    · obtain ⟨q, hq⟩ : ∃ q : Int, q = r + (k : Int) := ⟨_, rfl⟩
      have e1 : IntKind.i64.wrap (r + (k : Int)) = q := by rw [IntKind.wrap_i64]; omega
      have HF := unhide HN k
      rw [← hq] at HF
      have hs := unhide HS k
      have za := oneY_size leaf
      have zb := oneY_size chain
      have zc := oneY_size q
      have c1 := hide (unhide CB leaf)
      have c2 := hide (unhide CB chain)
      have c3 := hide (unhide CB q)
      generalize oneY leaf = ya at *
      generalize oneY chain = yb at *
      generalize oneY q = yc at *
      generalize F k = fk at *
      have za' : ya.size ≤ 1 := by omega
      have zb' : yb.size ≤ 1 := by omega
      have zc' : yc.size ≤ 1 := by omega
      have c4 := hide (unhide CC (ya ++ yb ++ yc ++ fk) (by rw [ByteArray.size_append, ByteArray.size_append, ByteArray.size_append]; omega))
      rw [← HF] at c4
      replace HF := hide HF; replace hq := hide hq; replace za := hide za; replace zb := hide zb; replace zc := hide zc
      have hF2 : ∃ G, G = F (k + 1) := ⟨_, rfl⟩
      obtain ⟨G, hG⟩ := hF2
      rw [← hG] at c4
      replace hG := hide hG
      clear CB CC
      go_wp2_with fail
      refine (unhide c1 wr).mono ?_
      rintro e w1 ⟨rfl, hb1⟩
      have hB1 := hB.trans (hb1.mono hB.size)
      clear hb1 hB c1
      go_wp2_with fail
      refine (unhide c2 w1).mono ?_
      rintro e w2 ⟨rfl, hb2⟩
      have hB2 := hB1.trans (hb2.mono hB1.size)
      clear hb2 hB1 c2
      go_wp2_with fail
      refine (unhide c3 w2).mono ?_
      rintro e w3 ⟨rfl, hb3⟩
      have hB3 := hB2.trans (hb3.mono hB2.size)
      clear hb3 hB2 c3
      go_wp2_with fail
      refine (unhide c4 w3).mono ?_
      rintro e w4 ⟨rfl, hb4⟩
      have hB4 := hB3.trans (hb4.mono hB3.size)
      clear hb4 hB3 c4
      go_wp2
      exact ⟨⟨k + 1, by omega, by go_num, by rw [unhide hG], hB4⟩, by simp [intOf]; omega⟩
    · rcases h2 with h2 | ⟨h2, h3⟩
      · have d1 : decide ((k : Int) < steps) = false := by rw [decide_eq_false_iff_not]; omega
        replace h1 := hide h1
        go_wp2
        go_ret
        exact ⟨by rw [← unhide h1]; rfl, hB⟩
      · have d1 : decide ((k : Int) < 15) = false := by rw [decide_eq_false_iff_not]; omega
        replace h1 := hide h1
        go_wp2
        go_ret
        exact ⟨by rw [← unhide h1]; rfl, hB⟩
end Go.Proofs.Ytjgnjjphankhnab

/- Laws of no program: two numbers appended in a region that draws its order. -/
namespace Go.Proofs.Ytjgnjjphankhnab
open Go.RowKit
theorem step_append_w9 {P : Program} {w W : World} {ops : Array Oper} {o : Oper} {a : Act} {K : Act → World → Prop} {Q : Exit → Act → World → Prop} {E : Prop} {e : TypeId} {x1 x2 : Int} (hW : W = w.alloc (.cells #[.int .i64 x1, .int .i64 x2] e)) (hg : o.guard = none) (s y : Operand) (t : TypeId)
    (ho : o.op = .call { callee := .builtin .append, args := #[s, y], argTypes := #[t, t] })
    (base B : Nat) (i : TypeInfo) (z : Value) (nb : Nat) (ht : P.underlying t = some (.slice e)) (hi : P.info? e = some i) (hz : i.zero = some z) (hsize : i.size = 1) (hby : i.bytes = nb) (hzs : z.cells.size = 1)
    (v : Value) (xs : List Value) (hs : a.eval s = v) (hown : OwnV w base e v xs)
    (hx : a.eval y = .slice (some ⟨w.heap.size, 0, none⟩) 2 2)
    (h63 : xs.length + 2 ≤ maxLen) (hbytes : (xs.length + 2) * nb ≤ 140737488355328) (hB : B ≤ base) (hbase : base ≤ w.heap.size) {w00 : World} (hbel : Below B w00 w)
    (h : ∀ v' w', OwnV w' base e v' (xs ++ [.int .i64 x1, .int .i64 x2]) → Below B w00 w' → K (a.put o.dst v') w') :
    if Region.wanted o (yielded ops a.tmps) = true then Oper.wp P o a W K Q else E := by
  subst hW
  have hw : Region.wanted o (yielded ops a.tmps) = true := by simp [Region.wanted, hg]
  rw [if_pos hw]
  exact wp_append_vals s y t ho base B e i z nb ht hi hz hsize hby hzs v xs hs (hown.alloc _) w.heap.size #[.int .i64 x1, .int .i64 x2] (heap_alloc_new w _) [.int .i64 x1, .int .i64 x2] rfl (by intro u hu; simp only [List.mem_cons, List.not_mem_nil, or_false] at hu; rcases hu with rfl | rfl <;> rfl) 2 2 rfl hx h63 hbytes hB (by simp; omega) (hbel.alloc (by omega) _) h
theorem pre_two (f : Nat → Int) (k : Nat) : preL f (2 * (k + 1)) = preL f (2 * k) ++ [f (2 * k), f (2 * k + 1)] := by
  rw [show 2 * (k + 1) = 2 * k + 1 + 1 by omega, preL_succ, preL_succ, List.append_assoc]
  rfl
end Go.Proofs.Ytjgnjjphankhnab

/- Chains by the given model: digits, over the loaded program. -/
namespace Go.Proofs.Ytjgnjjphankhnab
open Go.RowKit
theorem byA_at (s : ByteArray) (i : Nat) (h : i < s.size) : (s[i]'h).toNat = byA s i := by
  unfold byA
  have hd : i < s.data.size := h
  unfold Array.getD
  rw [dif_pos hd]
  rfl
theorem dgN_pair (s : ByteArray) (k : Nat) : dgN s (2 * k) = byA s k / 16 ∧ dgN s (2 * k + 1) = byA s k % 16 := by
  unfold dgN
  constructor
  · rw [if_pos (by omega), show 2 * k / 2 = k by omega]
  · rw [if_neg (by omega), show (2 * k + 1) / 2 = k by omega]
theorem wpList_append_two14 {P : Program} {w : World} {ops : Array Oper} {rest : List Oper} {o : Oper} {a : Act} {Q : Exit → Act → World → Prop} (hgd : o.guard = none) (s x : Operand) (t : TypeId)
    (ho : o.op = .call { callee := .builtin .append, args := #[s, x], argTypes := #[t, t] })
    (base : Nat) (e : TypeId) (i : TypeInfo) (z : Value) (nb : Nat) (ht : P.underlying t = some (.slice e)) (hi : P.info? e = some i) (hz : i.zero = some z) (hsize : i.size = 1) (hby : i.bytes = nb) (hzs : z.cells.size = 1)
    (v : Value) (xs : List Value) (hs : a.eval s = v) (hown : OwnV w base e v xs) (x1 x2 : Int) (hx : a.eval x = .slice (some ⟨w.heap.size, 0, none⟩) 2 2)
    (h63 : xs.length + 2 ≤ maxLen) (hbytes : (xs.length + 2) * nb ≤ 140737488355328) (hbase : base ≤ w.heap.size) {w0 : World} (hB : Below base w0 w)
    (h : ∀ v' w', OwnV w' base e v' (xs ++ [.int .i64 x1, .int .i64 x2]) → Below base w0 w' → wpList P ops Q rest (a.put o.dst v') w') :
    wpList P ops Q (o :: rest) a (w.alloc (.cells #[.int .i64 x1, .int .i64 x2] e)) :=
  wpList_plain hgd fun K hK =>
    wp_append_vals s x t ho base base e i z nb ht hi hz hsize hby hzs v xs hs (hown.alloc _) w.heap.size #[.int .i64 x1, .int .i64 x2] (heap_alloc_new w _) [.int .i64 x1, .int .i64 x2] rfl (by intro u hu; simp only [List.mem_cons, List.not_mem_nil, or_false] at hu; rcases hu with rfl | rfl <;> rfl) 2 2 rfl hx h63 hbytes (Nat.le_refl _) (by simp; omega) (hB.alloc hbase _) (fun v' w' h1 h2 => hK _ _ (h v' w' h1 h2))
set_option maxRecDepth 20000 in
set_option maxHeartbeats 1000000 in
theorem specDigits_any (m : ByteArray) (hm : m.size ≤ 4000000) (w : World) :
    Calls Try.prog 43 #[.string m] w fun e w' => (∃ v, e = .returned v ∧ OwnV w' w.heap.size 3 v ((digL m).map iv)) ∧ Below w.heap.size w w' := by
  obtain ⟨i0, hi, hz0, hz1, hz2⟩ := info_parts infoInt
  have C := hide (specChop_any m hm w)
  have hs4 := chopB_size m
  have ED := hide (show digL m = preL (fun i => (dgN (chopB m) i : Int)) 8 ++ [((lfN (chopB m) 4 / 16 : Nat) : Int), ((lfN (chopB m) 4 % 16 : Nat) : Int)] from rfl)
  generalize chopB m = s at *
  obtain ⟨f, hf⟩ : ∃ f : Nat → Int, f = fun i => (dgN s i : Int) := ⟨_, rfl⟩
  rw [← hf] at ED
  have hs4' : (s.size : Int) = 4 := by omega
  replace hf := hide hf
  go_enter Try.func43, Try.ntmps43
  go_wp2_with fail
  refine (unhide C).mono ?_
  rintro e w1 ⟨rfl, hb1⟩
  have hsz1 := hb1.size
  have hb2 := hb1.alloc hsz1 (.cells #[] 3)
  have ho0 : OwnV (w1.alloc (.cells #[] 3)) w.heap.size 3 (.slice (some ⟨w1.heap.size, 0, none⟩) 0 0) ((preL f (2 * 0)).map iv) := World.ownsRow_made w1 #[] 0 hsz1 (by decide) (by simp)
  replace ho0 := hide ho0
  clear C hb1
  go_wp2
  go_loopw [4, 5, 6] (fun tv ts ti wr => ∃ (k : Nat) (q : Nat), k ≤ 4 ∧ ti = .int .i64 (k : Int) ∧ ts = .int .i64 (q : Int) ∧ Hid (q = lfN s k) ∧ Hid (OwnV wr w.heap.size 3 tv ((preL f (2 * k)).map iv)) ∧ Below w.heap.size w wr) (fun _ _ ti _ => 4 - (intOf ti).toNat)
  case atStart => exact ⟨0, 0, by omega, rfl, rfl, hide rfl, ho0, hb2⟩
  case round =>
    clear ho0 hb2
    obtain ⟨k, q, hk, rfl, rfl, hq, HO, hB⟩ := hrel
    have hsz := hB.size
    by_cases hlt : k < 4
    · have hk' : (k : Int) < 4 := by omega
      have hk0 : (0 : Int) ≤ (k : Int) := by omega
      have hks : k < s.size := by omega
      have hby := byA_at s k hks
      have hbl := byA_lt s k
      have hdp := dgN_pair s k
      have HL := hide (show lfN s (k + 1) = lfN s k + 30 - byA s k / 16 - byA s k % 16 from rfl)
      have hql := lfN_le s k
      rw [← unhide hq] at HL hql
      have HP := hide (pre_two f k)
      have HF : f (2 * k) = ((byA s k / 16 : Nat) : Int) ∧ f (2 * k + 1) = ((byA s k % 16 : Nat) : Int) := by
        rw [unhide hf]
        exact ⟨congrArg (fun n : Nat => (n : Int)) hdp.1, congrArg (fun n : Nat => (n : Int)) hdp.2⟩
      rw [HF.1, HF.2] at HP
      obtain ⟨b, hb⟩ : ∃ b, b = byA s k := ⟨_, rfl⟩
      rw [← hb] at hby hbl HL HP
      obtain ⟨x1, hx1⟩ : ∃ x : Nat, x = b / 16 := ⟨_, rfl⟩
      obtain ⟨x2, hx2⟩ : ∃ x : Nat, x = b % 16 := ⟨_, rfl⟩
      rw [← hx1, ← hx2] at HL HP
      have q1 : (b : Int).tdiv 16 = (x1 : Int) := by rw [Int.tdiv_eq_ediv_of_nonneg (by omega)]; omega
      have q1' : (b : Int) / 16 = (x1 : Int) := by omega
      have q2 : (b : Int).tmod 16 = (x2 : Int) := by rw [Int.tmod_eq_emod_of_nonneg (by omega)]; omega
      have q2' : (b : Int) % 16 = (x2 : Int) := by omega
      have q3 : IntKind.i64.wrap (x1 : Int) = (x1 : Int) := by rw [IntKind.wrap_i64]; omega
      have q4 : IntKind.i64.wrap (x2 : Int) = (x2 : Int) := by rw [IntKind.wrap_i64]; omega
      have q5 : IntKind.i64.wrap (b : Int) = (b : Int) := by rw [IntKind.wrap_i64]; omega
      obtain ⟨y1, hy1⟩ : ∃ y : Nat, y = q + 30 := ⟨_, rfl⟩
      obtain ⟨y2, hy2⟩ : ∃ y : Nat, y + x1 = y1 := ⟨y1 - x1, by omega⟩
      obtain ⟨y3, hy3⟩ : ∃ y : Nat, y + x2 = y2 := ⟨y2 - x2, by omega⟩
      have q6 : IntKind.i64.wrap ((q : Int) + 30) = (y1 : Int) := by rw [IntKind.wrap_i64]; omega
      have q7 : IntKind.i64.wrap ((y1 : Int) - (x1 : Int)) = (y2 : Int) := by rw [IntKind.wrap_i64]; omega
      have q8 : IntKind.i64.wrap ((y2 : Int) - (x2 : Int)) = (y3 : Int) := by rw [IntKind.wrap_i64]; omega
      have HQ := hide (show y3 = lfN s (k + 1) by have := unhide HL; omega)
      have hl1 : ((preL f (2 * k)).map iv).length + 2 ≤ maxLen := by rw [List.length_map, preL_len]; unfold maxLen; omega
      have hl2 : (((preL f (2 * k)).map iv).length + 2) * 8 ≤ 140737488355328 := by rw [List.length_map, preL_len]; omega
      have hix : ∀ h : k < s.size, (s[k]'h).toNat = b := fun h => hby
      replace hl1 := hide hl1; replace hl2 := hide hl2; replace hb := hide hb; replace hx1 := hide hx1; replace hx2 := hide hx2; replace hy1 := hide hy1; replace hy2 := hide hy2; replace hy3 := hide hy3; replace HF := hide HF; replace hdp := hide hdp; replace hby := hide hby
      clear HL hql
      go_wp2
      go_region_held3 (fun _ => True) (trivial) (first
        | (refine step_append_w9 (w := wr.drew) (x1 := (x1 : Int)) (x2 := (x2 : Int)) (e := 3) rfl rfl (.tmp 14) (.tmp 25) 59 rfl w.heap.size w.heap.size i0 (.int .i64 0) 8 Try.underlying59 hi hz0 hz1 hz2 rfl _ _ rfl (by exact unhide HO) rfl (unhide hl1) (unhide hl2) (Nat.le_refl _) (by exact hsz) (by exact hB.drew) ?_; intro v' w2 hown2 hb2))
      all_goals
        have hown3 := hide (show OwnV w2 w.heap.size 3 v' ((preL f (2 * (k + 1))).map iv) by rw [unhide HP, List.map_append]; exact hown2)
        clear hown2 HP HO hB hsz
        go_wp2
        go_quiet (fail)
        go_wp2
        exact ⟨⟨k + 1, y3, by omega, by go_num, by first | rfl | trivial, HQ, hide (unhide hown3), bDN hb2 _⟩, by simp [intOf]; omega⟩
    · have hk' : ¬ (k : Int) < 4 := by omega
      obtain rfl : k = 4 := by omega
      have hql := lfN_le s 4
      rw [← unhide hq] at hql ED
      obtain ⟨x1, hx1⟩ : ∃ x : Nat, x = q / 16 := ⟨_, rfl⟩
      obtain ⟨x2, hx2⟩ : ∃ x : Nat, x = q % 16 := ⟨_, rfl⟩
      rw [← hx1, ← hx2] at ED
      have q1 : (q : Int).tdiv 16 = (x1 : Int) := by rw [Int.tdiv_eq_ediv_of_nonneg (by omega)]; omega
      have q1' : (q : Int) / 16 = (x1 : Int) := by omega
      have q2 : (q : Int).tmod 16 = (x2 : Int) := by rw [Int.tmod_eq_emod_of_nonneg (by omega)]; omega
      have q2' : (q : Int) % 16 = (x2 : Int) := by omega
      have q3 : IntKind.i64.wrap (x1 : Int) = (x1 : Int) := by rw [IntKind.wrap_i64]; omega
      have q4 : IntKind.i64.wrap (x2 : Int) = (x2 : Int) := by rw [IntKind.wrap_i64]; omega
      have hl1 : ((preL f (2 * 4)).map iv).length + 2 ≤ maxLen := by rw [List.length_map, preL_len]; unfold maxLen; omega
      have hl2 : (((preL f (2 * 4)).map iv).length + 2) * 8 ≤ 140737488355328 := by rw [List.length_map, preL_len]; omega
      replace hl1 := hide hl1; replace hl2 := hide hl2; replace hx1 := hide hx1; replace hx2 := hide hx2
      clear hql
      go_wp2_with (at_builtin; refine wpList_append_two14 (w := wr) rfl (.tmp 41) (.tmp 46) 59 rfl w.heap.size 3 i0 (.int .i64 0) 8 Try.underlying59 hi hz0 hz1 hz2 rfl u4 _ (by rfl) (unhide HO) (x1 : Int) (x2 : Int) rfl (unhide hl1) (unhide hl2) hsz hB ?_; intro v' w2 hown2 hb2)
      have hown3 := hide (show OwnV w2 w.heap.size 3 v' ((digL m).map iv) by rw [unhide ED, List.map_append]; exact hown2)
      clear hown2 HO
      go_ret
      exact ⟨⟨_, rfl, unhide hown3⟩, hb2⟩
end Go.Proofs.Ytjgnjjphankhnab

/- Laws of no program: an append of one value to a row of the call's own, and which blocks stay; rows of unlike kinds lie in unlike blocks. -/
namespace Go.Proofs.Ytjgnjjphankhnab
open Go.RowKit
theorem wpList_append_grow {P : Program} {w : World} {ops : Array Oper} {rest : List Oper} {o : Oper} {a : Act} {Q : Exit → Act → World → Prop} (hgd : o.guard = none) (s x : Operand) (t : TypeId)
    (ho : o.op = .call { callee := .builtin .append, args := #[s, x], argTypes := #[t, t] })
    (base : Nat) (e : TypeId) (i : TypeInfo) (z : Value) (nb : Nat) (ht : P.underlying t = some (.slice e)) (hi : P.info? e = some i) (hz : i.zero = some z) (hsize : i.size = 1) (hby : i.bytes = nb) (hzs : z.cells.size = 1)
    (v : Value) (xs : List Value) (hs : a.eval s = v) (hown : OwnV w base e v xs) (u : Value) (h1 : u.oneCell' = true) (hx : a.eval x = .slice (some ⟨w.heap.size, 0, none⟩) 1 1)
    (h63 : xs.length + 1 ≤ maxLen) (hbytes : (xs.length + 1) * nb ≤ 140737488355328) (hbase : base ≤ w.heap.size)
    (h : ∀ v' w', OwnV w' base e v' (xs ++ [u]) → (w.alloc (.cells #[u] e)).grownBy w' v.ownBlock → wpList P ops Q rest (a.put o.dst v') w') :
    wpList P ops Q (o :: rest) a (w.alloc (.cells #[u] e)) :=
  wpList_plain hgd fun _ hK => by
    refine wp_append_own (w.alloc (.cells #[u] e)) s x t ho base e i z 1 nb ht hi hz hsize hby hzs (by decide) v xs.length xs hs (hown.alloc _) ⟨w.heap.size, 0, none⟩ 1 1 [u] hx rfl (fun j y hy => ?_) (by intro y hy; simp only [List.mem_singleton] at hy; subst hy; exact h1) h63 hbytes (by simp; omega) ?_
    · have hadd : (⟨w.heap.size, 0, none⟩ : Addr).add j = ⟨w.heap.size, j, none⟩ := by unfold Addr.add; split <;> simp_all
      rw [hadd, cell_of_row _ w.heap.size j _ e (0, 0) (heap_alloc_new w _)]
      simpa using hy
    · intro v' w' h2 h3 _
      exact hK _ _ (h v' w' (by unfold OwnV; simpa using h2) h3)
theorem OwnV.apart {w : World} {b1 b2 : Nat} {e1 e2 : TypeId} {v1 v2 : Value} {x1 x2 : List Value} (h1 : OwnV w b1 e1 v1 x1) (h2 : OwnV w b2 e2 v2 x2) (he : e1 ≠ e2) (k : Nat) (hk : v1.ownBlock = some k) : v2.ownBlock ≠ some k := by
  intro hv
  rcases h1.2 with ⟨a1, _⟩ | ⟨g, cap, cur, a1, _, a3, _⟩
  · rw [a1] at hk; cases hk
  · rcases h2.2 with ⟨c1, _⟩ | ⟨g', cap', cur', c1, _, c3, _⟩
    · rw [c1] at hv; cases hv
    · rw [a1] at hk
      rw [c1] at hv
      have hk' : (some g : Option Nat) = some k := hk
      have hv' : (some g' : Option Nat) = some k := hv
      have e1' := Option.some.inj hk'
      have e2' := Option.some.inj hv'
      subst e1' e2'
      rw [a3] at c3
      have h4 := Option.some.inj c3
      injection h4 with h5 h6
      exact he h6
end Go.Proofs.Ytjgnjjphankhnab

/- Laws of no program: a row of rows of numbers that the call itself owns, or that is only read. -/
namespace Go.Proofs.Ytjgnjjphankhnab
open Go.RowKit
/-- A row of the call's own whose values are rows of numbers of the call's own. -/
def OwnR (w : World) (base : Nat) (T I : TypeId) (v : Value) (L : List (List Int)) : Prop :=
  ∃ vs : List Value, OwnV w base T v vs ∧ vs.length = L.length ∧ ∀ (i : Nat) (u : Value) (l : List Int), vs[i]? = some u → L[i]? = some l → OwnV w base I u (l.map iv)
/-- A row that is read, whose values are rows of numbers. -/
def RdR (w : World) (v : Value) (L : List (List Int)) : Prop :=
  ∃ vs : List Value, RdV w v vs ∧ vs.length = L.length ∧ ∀ (i : Nat) (u : Value) (l : List Int), vs[i]? = some u → L[i]? = some l → RdV w u (l.map iv)
theorem OwnR.below {w w' : World} {base : Nat} {T I : TypeId} {v : Value} {L : List (List Int)} (h : OwnR w base T I v L) (hb : Below w.heap.size w w') : OwnR w' base T I v L := by
  obtain ⟨vs, h1, h2, h3⟩ := h
  exact ⟨vs, h1.below hb, h2, fun i u l hu hl => (h3 i u l hu hl).below hb⟩
theorem OwnR.low {w : World} {base base' : Nat} {T I : TypeId} {v : Value} {L : List (List Int)} (h : OwnR w base T I v L) (hb : base' ≤ base) : OwnR w base' T I v L := by
  obtain ⟨vs, h1, h2, h3⟩ := h
  exact ⟨vs, h1.low hb, h2, fun i u l hu hl => (h3 i u l hu hl).low hb⟩
theorem OwnR.rd {w : World} {base : Nat} {T I : TypeId} {v : Value} {L : List (List Int)} (h : OwnR w base T I v L) : RdR w v L := by
  obtain ⟨vs, h1, h2, h3⟩ := h
  exact ⟨vs, h1.rdv, h2, fun i u l hu hl => (h3 i u l hu hl).rdv⟩
theorem RdR.below {w w' : World} {v : Value} {L : List (List Int)} (h : RdR w v L) (hb : Below w.heap.size w w') : RdR w' v L := by
  obtain ⟨vs, h1, h2, h3⟩ := h
  exact ⟨vs, h1.below hb, h2, fun i u l hu hl => (h3 i u l hu hl).below hb⟩
theorem OwnR.made (w : World) (T I : TypeId) : OwnR (w.alloc (.cells #[] T)) w.heap.size T I (.slice (some ⟨w.heap.size, 0, none⟩) 0 0) [] :=
  ⟨[], World.ownsRow_made w #[] 0 (Nat.le_refl _) (by decide) (by simp), rfl, fun i u l hu _ => by simp at hu⟩
theorem OwnR.shape {w : World} {base : Nat} {T I : TypeId} {v : Value} {L : List (List Int)} (h : OwnR w base T I v L) : ∃ a c, v = .slice a L.length c := by
  obtain ⟨vs, h1, h2, _⟩ := h
  rw [← h2]
  exact h1.shape
theorem RdR.shape {w : World} {v : Value} {L : List (List Int)} (h : RdR w v L) : ∃ a c, v = .slice a L.length c := by
  obtain ⟨vs, h1, h2, _⟩ := h
  rw [← h2]
  exact h1.shape
theorem RdR.open {w : World} {v : Value} {L : List (List Int)} (h : RdR w v L) : ∃ a c, v = .slice a L.length c ∧ ∀ (j : Nat) (l : List Int), L[j]? = some l → ∃ g o u, a = some ⟨g, o, none⟩ ∧ g < w.heap.size ∧ w.cell? ⟨g, o + j, none⟩ = some u ∧ RdV w u (l.map iv) := by
  obtain ⟨vs, h1, h2, h3⟩ := h
  obtain ⟨a, c, rfl, hc⟩ := h1.open
  refine ⟨a, c, by rw [h2], fun j l hl => ?_⟩
  have hj : j < vs.length := by rw [h2]; exact (List.getElem?_eq_some_iff.mp hl).1
  obtain ⟨g, o, e1, e2, e3⟩ := hc j _ (List.getElem?_eq_getElem hj)
  exact ⟨g, o, _, e1, e2, e3, h3 j _ l (List.getElem?_eq_getElem hj) hl⟩
/-- A row appended to a row of rows. -/
theorem wpList_append_row {P : Program} {w : World} {ops : Array Oper} {rest : List Oper} {o : Oper} {a : Act} {Q : Exit → Act → World → Prop} (hgd : o.guard = none) (s x : Operand) (t : TypeId)
    (ho : o.op = .call { callee := .builtin .append, args := #[s, x], argTypes := #[t, t] })
    (base : Nat) (T I : TypeId) (hTI : I ≠ T) (i : TypeInfo) (z : Value) (nb : Nat) (ht : P.underlying t = some (.slice T)) (hi : P.info? T = some i) (hz : i.zero = some z) (hsize : i.size = 1) (hby : i.bytes = nb) (hzs : z.cells.size = 1)
    (v : Value) (L : List (List Int)) (hs : a.eval s = v) (hown : OwnR w base T I v L) (u : Value) (l : List Int) (hu : OwnV w base I u (l.map iv)) (hx : a.eval x = .slice (some ⟨w.heap.size, 0, none⟩) 1 1)
    (hlen : L.length ≤ 1000) (hnb : nb ≤ 1000) {w0 : World} {B : Nat} (hB : Below B w0 w) (hBb : B ≤ base) (hbase : base ≤ w.heap.size)
    (h : ∀ v' w', OwnR w' base T I v' (L ++ [l]) → OwnV w' base I u (l.map iv) → Below B w0 w' → wpList P ops Q rest (a.put o.dst v') w') :
    wpList P ops Q (o :: rest) a (w.alloc (.cells #[u] T)) := by
  obtain ⟨vs, h1, h2, h3⟩ := hown
  have h1u : u.oneCell' = true := by
    obtain ⟨a1, c1, rfl⟩ := hu.shape
    rfl
  refine wpList_append_grow hgd s x t ho base T i z nb ht hi hz hsize hby hzs v vs hs h1 u h1u hx (by rw [h2]; unfold maxLen; omega) (by rw [h2]; exact Nat.le_trans (Nat.mul_le_mul (show L.length + 1 ≤ 1001 by omega) hnb) (by decide)) hbase ?_
  intro v' w' ho' hg'
  have hne : ∀ y ys, OwnV w base I y ys → ∀ n, y.ownBlock = some n → v.ownBlock ≠ some n := fun y ys hy n hn => hy.apart h1 hTI n hn
  refine h v' w' ⟨vs ++ [u], ho', by rw [List.length_append, List.length_append, h2]; rfl, fun j y m hy hm => ?_⟩ ((hu.alloc _).grown hg' (hne _ _ hu)) ?_
  · by_cases hj : j < vs.length
    · rw [List.getElem?_append_left hj] at hy
      rw [List.getElem?_append_left (by omega)] at hm
      exact ((h3 j y m hy hm).alloc _).grown hg' (hne y _ (h3 j y m hy hm))
    · have hje : j = vs.length := by
        have := (List.getElem?_eq_some_iff.mp hy).1
        rw [List.length_append] at this
        simp at this
        omega
      subst hje
      rw [List.getElem?_append_right (Nat.le_refl _), Nat.sub_self] at hy
      rw [List.getElem?_append_right (by omega), show vs.length - L.length = 0 by omega] at hm
      have e1 : u = y := by simpa using hy
      have e2 : l = m := by simpa using hm
      subst e1 e2
      exact (hu.alloc _).grown hg' (hne _ _ hu)
  · exact (hB.alloc (Nat.le_trans hBb hbase) (.cells #[u] T)).grown hg' (by simp; omega) (fun n hn => Nat.le_trans hBb (h1.lt n hn).1)
/-- A value appended to a row of the call's own. -/
theorem wpList_append_val {P : Program} {w : World} {ops : Array Oper} {rest : List Oper} {o : Oper} {a : Act} {Q : Exit → Act → World → Prop} (hgd : o.guard = none) (s x : Operand) (t : TypeId)
    (ho : o.op = .call { callee := .builtin .append, args := #[s, x], argTypes := #[t, t] })
    (base : Nat) (T : TypeId) (i : TypeInfo) (z : Value) (nb : Nat) (ht : P.underlying t = some (.slice T)) (hi : P.info? T = some i) (hz : i.zero = some z) (hsize : i.size = 1) (hby : i.bytes = nb) (hzs : z.cells.size = 1)
    (v : Value) (xs : List Value) (hs : a.eval s = v) (hown : OwnV w base T v xs) (u : Value) (h1 : u.oneCell' = true) (hx : a.eval x = .slice (some ⟨w.heap.size, 0, none⟩) 1 1)
    (hlen : xs.length ≤ 1000) (hnb : nb ≤ 1000) {w0 : World} {B : Nat} (hB : Below B w0 w) (hBb : B ≤ base) (hbase : base ≤ w.heap.size)
    (h : ∀ v' w', OwnV w' base T v' (xs ++ [u]) → Below B w0 w' → wpList P ops Q rest (a.put o.dst v') w') :
    wpList P ops Q (o :: rest) a (w.alloc (.cells #[u] T)) := by
  refine wpList_append_grow hgd s x t ho base T i z nb ht hi hz hsize hby hzs v xs hs hown u h1 hx (by unfold maxLen; omega) (Nat.le_trans (Nat.mul_le_mul (show xs.length + 1 ≤ 1001 by omega) hnb) (by decide)) hbase ?_
  intro v' w' ho' hg'
  exact h v' w' ho' ((hB.alloc (Nat.le_trans hBb hbase) (.cells #[u] T)).grown hg' (by simp; omega) (fun n hn => Nat.le_trans hBb (hown.lt n hn).1))
/-- A piece of a row of rows is read. -/
theorem OwnR.cut {w : World} {base g n c : Nat} {T I : TypeId} {L : List (List Int)} (h : OwnR w base T I (.slice (some ⟨g, 0, none⟩) n c) L) (k m c' : Nat) (L' : List (List Int)) (hm : L'.length = m) (h0 : 0 < m) (hL : ∀ (j : Nat) (l : List Int), L'[j]? = some l → L[k + j]? = some l) : RdR w (.slice (some ⟨g, k, none⟩) m c') L' := by
  obtain ⟨vs, h1, h2, h3⟩ := h
  have hkm : k + m ≤ vs.length := by
    have hx : m - 1 < L'.length := by omega
    have := (List.getElem?_eq_some_iff.mp (hL (m - 1) _ (List.getElem?_eq_getElem hx))).1
    omega
  have hg : ∀ (j : Nat) (x : Value), ((vs.drop k).take m)[j]? = some x → vs[k + j]? = some x := fun j x hx => by
    rw [List.getElem?_take] at hx
    split at hx
    · rw [List.getElem?_drop] at hx; exact hx
    · cases hx
  have hl : ((vs.drop k).take m).length = m := by rw [List.length_take, List.length_drop]; omega
  exact ⟨(vs.drop k).take m, .inr ⟨g, k, c', by rw [hl], by omega, (h1.lt g rfl).2, fun j x hx => h1.cell (hg j x hx)⟩, by rw [hl, hm], fun i u l hu hl' => (h3 (k + i) u l (hg i u hu) (hL i l hl')).rdv⟩
theorem OwnR.some {w : World} {base n c : Nat} {a : Option Addr} {T I : TypeId} {L : List (List Int)} (h : OwnR w base T I (.slice a n c) L) (hn : 0 < n) : ∃ g, a = some ⟨g, 0, none⟩ ∧ base ≤ g ∧ g < w.heap.size ∧ L.length ≤ c := by
  obtain ⟨vs, h1, h2, _⟩ := h
  rcases h1.2 with ⟨e, _⟩ | ⟨g, cap, cur, e, hb, hgr, hc, _⟩
  · simp only [Value.slice.injEq] at e; omega
  · simp only [Value.slice.injEq] at e
    obtain ⟨rfl, rfl, rfl⟩ := e
    exact ⟨g, rfl, hb, (Array.getElem?_eq_some_iff.1 hgr).1, by omega⟩
def preR (f : Nat → List Int) (k : Nat) : List (List Int) := (List.range k).map f
theorem preR_len (f : Nat → List Int) (k : Nat) : (preR f k).length = k := by unfold preR; rw [List.length_map, List.length_range]
theorem preR_succ (f : Nat → List Int) (k : Nat) : preR f (k + 1) = preR f k ++ [f k] := by unfold preR; rw [List.range_succ, List.map_append]; rfl
theorem preR_get (f : Nat → List Int) (k i : Nat) (h : i < k) : (preR f k)[i]? = some (f i) := by
  unfold preR
  rw [List.getElem?_map, List.getElem?_range h]
  rfl
end Go.Proofs.Ytjgnjjphankhnab

/- Chains by the given model: keys for once, their public half, signatures, what is found, over the loaded program. -/
namespace Go.Proofs.Ytjgnjjphankhnab
open Go.RowKit
def preS (f : Nat → ByteArray) (k : Nat) : List ByteArray := (List.range k).map f
theorem preS_len (f : Nat → ByteArray) (k : Nat) : (preS f k).length = k := by unfold preS; rw [List.length_map, List.length_range]
theorem preS_succ (f : Nat → ByteArray) (k : Nat) : preS f (k + 1) = preS f k ++ [f k] := by unfold preS; rw [List.range_succ, List.map_append]; rfl
theorem bAt_get (l : List ByteArray) (k : Nat) (h : k < l.length) : (l.map sv)[k]? = some (.string (bAt l k)) := by
  rw [sv_get l k h]
  unfold bAt
  rw [List.getD_eq_getElem?_getD, List.getElem?_eq_getElem h]
  rfl
theorem bAt_size (l : List ByteArray) (k n : Nat) (h : k < l.length) (hn : ∀ x ∈ l, x.size ≤ n) : (bAt l k).size ≤ n := by
  unfold bAt
  rw [List.getD_eq_getElem?_getD, List.getElem?_eq_getElem h]
  exact hn _ (List.getElem_mem h)
set_option maxRecDepth 20000 in
set_option maxHeartbeats 800000 in
theorem specOnceKeyL_any (s : ByteArray) (leaf : Int) (hs : s.size ≤ 2000000) (w : World) :
    Calls Try.prog 72 #[.string s, .int .i64 leaf] w fun e w' => (∃ v, e = .returned v ∧ OwnV w' w.heap.size 9 v ((keysO s leaf).map sv)) ∧ Below w.heap.size w w' := by
  obtain ⟨i0, hi, hz0, hz1, hz2⟩ := info_parts infoTxt
  have CB := hide (fun z W => specByteY_any z W)
  have CC := hide (fun (i : Nat) W => specChop_any (s ++ oneY leaf ++ oneY (i : Int) ++ ⟨#[111]⟩) (by rw [ByteArray.size_append, ByteArray.size_append, ByteArray.size_append, oneY_size, oneY_size]; show s.size + 1 + 1 + 1 ≤ _; omega) W)
  have HK := hide (show ∀ i : Nat, chopB (s ++ oneY leaf ++ oneY (i : Int) ++ ⟨#[111]⟩) = keyO s leaf i from fun i => rfl)
  have EK := hide (show keysO s leaf = preS (keyO s leaf) 10 from rfl)
  rw [unhide EK]
  generalize keyO s leaf = F at *
  clear EK
  go_enter Try.func72, Try.ntmps72
  have ho0 : OwnV (w.alloc (.cells #[] 9)) w.heap.size 9 (.slice (some ⟨w.heap.size, 0, none⟩) 0 0) ((preS F 0).map sv) := World.ownsRow_made w #[] 0 (Nat.le_refl _) (by decide) (by simp)
  replace ho0 := hide ho0
  have hb0 := (Below.refl w.heap.size w).alloc (Nat.le_refl _) (.cells #[] 9)
  go_wp2
  go_loopw [5, 6] (fun tv ti wr => ∃ k : Nat, k ≤ 10 ∧ ti = .int .i64 (k : Int) ∧ Hid (OwnV wr w.heap.size 9 tv ((preS F k).map sv)) ∧ Below w.heap.size w wr) (fun _ ti _ => 10 - (intOf ti).toNat)
  case atStart => exact ⟨0, by omega, rfl, ho0, hb0⟩
  case round =>
    clear ho0 hb0
    obtain ⟨k, hk, rfl, HO, hB⟩ := hrel
    by_cases hlt : k < 10
    · have hk' : (k : Int) < 10 := by omega
      have za := oneY_size leaf
      have zb := oneY_size (k : Int)
      have c1 := hide (unhide CB leaf)
      have c2 := hide (unhide CB (k : Int))
      have c3 := hide (unhide CC k)
      rw [unhide HK k] at c3
      have HP := hide (preS_succ F k)
      have hpl : ((preS F k).map sv).length ≤ 1000 := by rw [List.length_map, preS_len]; omega
      generalize oneY leaf = ya at *
      generalize oneY (k : Int) = yb at *
      generalize F k = fk at *
      have za' : ya.size ≤ 1 := by omega
      have zb' : yb.size ≤ 1 := by omega
      replace za := hide za; replace zb := hide zb; replace hpl := hide hpl
      clear CB CC
      go_wp2_with fail
      refine (unhide c1 wr).mono ?_
      rintro e w1 ⟨rfl, hb1⟩
      have hB1 := hB.trans (hb1.mono hB.size)
      have HO1 := hide ((unhide HO).below hb1)
      clear hb1 hB c1 HO
      go_wp2_with fail
      refine (unhide c2 w1).mono ?_
      rintro e w2 ⟨rfl, hb2⟩
      have hB2 := hB1.trans (hb2.mono hB1.size)
      have HO2 := hide ((unhide HO1).below hb2)
      clear hb2 hB1 c2 HO1
      go_wp2_with fail
      refine (unhide c3 w2).mono ?_
      rintro e w3 ⟨rfl, hb3⟩
      have hB3 := hB2.trans (hb3.mono hB2.size)
      have HO3 := hide ((unhide HO2).below hb3)
      have hsz3 := hB3.size
      clear hb3 hB2 c3 HO2
      go_wp2_with (at_builtin; refine wpList_append_val (w := w3) rfl (.tmp 12) (.tmp 22) 22 rfl w.heap.size 9 i0 (.string ⟨#[]⟩) 16 Try.underlying22 hi hz0 hz1 hz2 rfl u5 _ (by rfl) (unhide HO3) (.string fk) rfl (by rfl) (unhide hpl) (by decide) hB3 (Nat.le_refl _) hsz3 ?_; intro v' w8 ho8 hB8)
      have ho9 := hide (show OwnV w8 w.heap.size 9 v' ((preS F (k + 1)).map sv) by rw [unhide HP, List.map_append]; exact ho8)
      clear ho8 HO3 HP
      go_wp2
      exact ⟨⟨k + 1, by omega, by go_num, ho9, hB8⟩, by simp [intOf]; omega⟩
    · have hk' : ¬ (k : Int) < 10 := by omega
      obtain rfl : k = 10 := by omega
      go_wp2
      go_ret
      exact ⟨⟨_, rfl, unhide HO⟩, hB⟩
theorem specOnceKey_any (s : ByteArray) (leaf : Int) (hs : s.size ≤ 1048576) (w : World) :
    Calls Try.prog 72 #[.string s, .int .i64 leaf] w fun e w' => (∃ v, e = .returned v ∧ OwnV w' w.heap.size 9 v ((keysO s leaf).map sv)) ∧ Below w.heap.size w w' := specOnceKeyL_any s leaf (by omega) w
set_option maxRecDepth 20000 in
set_option maxHeartbeats 800000 in
theorem specOncePublic_any (l : List ByteArray) (leaf : Int) (v : Value) (w : World) (hr : RdV w v (l.map sv)) (hl : ∀ x ∈ l, x.size ≤ 1048576) :
    Calls Try.prog 71 #[v, .int .i64 leaf] w fun e w' => e = .returned (.string (onceP l leaf)) ∧ Below w.heap.size w w' := by
  obtain ⟨a, c, rfl, hc⟩ := hr.open
  rw [List.length_map]
  clear hr
  by_cases h10 : l.length = 10
  · have EP := hide (show onceP l leaf = chopB (catC (fun i => chnB (bAt l i) leaf (i : Int) 0 15) 10) by unfold onceP; rw [if_pos h10])
    rw [unhide EP]
    have CH := hide (fun (i : Nat) (hi : i < 10) W => specChain_any (bAt l i) leaf (i : Int) 0 15 (bAt_size l i _ (by omega) hl) W)
    rw [show stepsN 15 = 15 from rfl] at CH
    have h4 := hide (show ∀ i : Nat, (chnB (bAt l i) leaf (i : Int) 0 15).size ≤ 4 from fun i => Nat.le_of_eq (chopB_size _))
    obtain ⟨f, hf⟩ : ∃ f : Nat → ByteArray, f = fun i => chnB (bAt l i) leaf (i : Int) 0 15 := ⟨_, rfl⟩
    have CH2 := hide (show ∀ (i : Nat), i < 10 → ∀ W, Calls Try.prog 44 #[.string (bAt l i), .int .i64 leaf, .int .i64 (i : Int), .int .i64 0, .int .i64 15] W fun e w' => e = .returned (.string (f i)) ∧ Below W.heap.size W w' from fun i hi W => by rw [hf]; exact unhide CH i hi W)
    have h4' := hide (show ∀ i, (f i).size ≤ 4 from fun i => by rw [hf]; exact unhide h4 i)
    rw [← hf] at EP ⊢
    have hcl := hide (fun k => catC_le f 4 k (unhide h4'))
    have CC := hide (fun W => specChop_any (catC f 10) (by have := unhide hcl 10; omega) W)
    have Hs := hide (show ∀ k, catC f (k + 1) = catC f k ++ f k from fun k => rfl)
    have H0 := hide (show catC f 0 = ⟨#[]⟩ from rfl)
    generalize chopB (catC f 10) = R at *
    generalize catC f = cat at *
    rw [h10]
    replace h10 := hide h10; replace hf := hide hf
    clear CH h4 EP
    go_enter Try.func71, Try.ntmps71
    go_wp2
    go_loopw [5, 6] (fun tx ti wr => ∃ k : Nat, k ≤ 10 ∧ ti = .int .i64 (k : Int) ∧ tx = .string (cat k) ∧ Below w.heap.size w wr) (fun _ ti _ => 10 - (intOf ti).toNat)
    case atStart => exact ⟨0, by omega, rfl, by rw [unhide H0], Below.refl _ _⟩
    case round =>
      obtain ⟨k, hk, rfl, rfl, hB⟩ := hrel
      by_cases hlt : k < 10
      · have hk' : (k : Int) < 10 := by omega
        have hk0 : (0 : Int) ≤ (k : Int) := by omega
        obtain ⟨g, o, rfl, hg, d1⟩ := hc k _ (bAt_get l k (by rw [unhide h10]; exact hlt))
        have d2 := (hB.cell (p := ⟨g, o + k, none⟩) hg).trans d1
        have c1 := hide (unhide CH2 k hlt)
        have HC := hide (unhide Hs k)
        have z1 := unhide hcl k
        have z1' : (cat k).size ≤ 1000 := by omega
        have z2 := unhide h4' k
        generalize bAt l k = x at *
        generalize f k = y at *
        replace z1 := hide z1
        clear hc d1
        go_wp2_with fail
        refine (unhide c1 wr).mono ?_
        rintro e w1 ⟨rfl, hb1⟩
        have hB1 := hB.trans (hb1.mono hB.size)
        clear hb1 hB c1 d2
        go_wp2
        exact ⟨⟨k + 1, by omega, by go_num, by rw [unhide HC], hB1⟩, by simp [intOf]; omega⟩
      · have hk' : ¬ (k : Int) < 10 := by omega
        obtain rfl : k = 10 := by omega
        clear hc
        go_wp2_with fail
        refine (unhide CC wr).mono ?_
        rintro e w1 ⟨rfl, hb1⟩
        have hB1 := hB.trans (hb1.mono hB.size)
        clear hb1 hB CC
        go_wp2
        go_ret
        exact ⟨rfl, hB1⟩
  · have EP := hide (show onceP l leaf = ⟨#[]⟩ by unfold onceP; rw [if_neg h10])
    rw [unhide EP]
    have h10' : ¬ (l.length : Int) = 10 := by omega
    clear hc
    go_enter Try.func71, Try.ntmps71
    go_wp2
    go_ret
    exact ⟨rfl, Below.refl _ _⟩
end Go.Proofs.Ytjgnjjphankhnab

/- Chains by the given model: signatures for once, what is found, over the loaded program. -/
namespace Go.Proofs.Ytjgnjjphankhnab
open Go.RowKit
theorem step_append_u {P : Program} {w W : World} {ops : Array Oper} {o : Oper} {a : Act} {K : Act → World → Prop} {Q : Exit → Act → World → Prop} {E : Prop} {e : TypeId} {u : Value} (h1 : u.oneCell' = true) (hW : W = w.alloc (.cells #[u] e)) (hg : o.guard = none) (s y : Operand) (t : TypeId)
    (ho : o.op = .call { callee := .builtin .append, args := #[s, y], argTypes := #[t, t] })
    (base B : Nat) (i : TypeInfo) (z : Value) (nb : Nat) (ht : P.underlying t = some (.slice e)) (hi : P.info? e = some i) (hz : i.zero = some z) (hsize : i.size = 1) (hby : i.bytes = nb) (hzs : z.cells.size = 1)
    (v : Value) (xs : List Value) (hs : a.eval s = v) (hown : OwnV w base e v xs)
    (hx : a.eval y = .slice (some ⟨w.heap.size, 0, none⟩) 1 1)
    (h63 : xs.length + 1 ≤ maxLen) (hbytes : (xs.length + 1) * nb ≤ 140737488355328) (hB : B ≤ base) (hbase : base ≤ w.heap.size) {w00 : World} (hbel : Below B w00 w)
    (h : ∀ v' w', OwnV w' base e v' (xs ++ [u]) → Below B w00 w' → K (a.put o.dst v') w') :
    if Region.wanted o (yielded ops a.tmps) = true then Oper.wp P o a W K Q else E := by
  subst hW
  have hw : Region.wanted o (yielded ops a.tmps) = true := by simp [Region.wanted, hg]
  rw [if_pos hw]
  exact wp_append_vals s y t ho base B e i z nb ht hi hz hsize hby hzs v xs hs (hown.alloc _) w.heap.size #[u] (heap_alloc_new w _) [u] rfl (by intro y hy; simp only [List.mem_singleton] at hy; subst hy; exact h1) 1 1 rfl hx h63 hbytes hB (by simp; omega) (hbel.alloc (by omega) _) h
theorem step_append_gu {P : Program} {w W : World} {ops : Array Oper} {o : Oper} {a : Act} {K : Act → World → Prop} {Q : Exit → Act → World → Prop} {E : Prop} {e : TypeId} {u : Value} (h1 : u.oneCell' = true) (hW : W = w.alloc (.cells #[u] e)) (hg : o.guard = none) (s y : Operand) (t : TypeId)
    (ho : o.op = .call { callee := .builtin .append, args := #[s, y], argTypes := #[t, t] })
    (base : Nat) (i : TypeInfo) (z : Value) (nb : Nat) (ht : P.underlying t = some (.slice e)) (hi : P.info? e = some i) (hz : i.zero = some z) (hsize : i.size = 1) (hby : i.bytes = nb) (hzs : z.cells.size = 1)
    (v : Value) (xs : List Value) (hs : a.eval s = v) (hown : OwnV w base e v xs)
    (hx : a.eval y = .slice (some ⟨w.heap.size, 0, none⟩) 1 1)
    (h63 : xs.length + 1 ≤ maxLen) (hbytes : (xs.length + 1) * nb ≤ 140737488355328) (hbase : base ≤ w.heap.size)
    (h : ∀ v' w', OwnV w' base e v' (xs ++ [u]) → (w.alloc (.cells #[u] e)).grownBy w' v.ownBlock → K (a.put o.dst v') w') :
    if Region.wanted o (yielded ops a.tmps) = true then Oper.wp P o a W K Q else E := by
  subst hW
  have hw : Region.wanted o (yielded ops a.tmps) = true := by simp [Region.wanted, hg]
  rw [if_pos hw]
  refine wp_append_own (w.alloc (.cells #[u] e)) s y t ho base e i z 1 nb ht hi hz hsize hby hzs (by decide) v xs.length xs hs (hown.alloc _) ⟨w.heap.size, 0, none⟩ 1 1 [u] hx rfl (fun j q hq => ?_) (by intro q hq; simp only [List.mem_singleton] at hq; subst hq; exact h1) h63 hbytes (by simp; omega) ?_
  · have hadd : (⟨w.heap.size, 0, none⟩ : Addr).add j = ⟨w.heap.size, j, none⟩ := by unfold Addr.add; split <;> simp_all
    rw [hadd, cell_of_row _ w.heap.size j _ e (0, 0) (heap_alloc_new w _)]
    simpa using hq
  · intro v' w' h2 h3 _
    exact h v' w' (by unfold OwnV; simpa using h2) h3
theorem digL_get (m : ByteArray) (i : Nat) (h : i < 10) : ((digL m).map iv)[i]? = some (.int .i64 (dgAt m i : Int)) := by
  rw [List.getElem?_map, digL_at m i h]
  rfl
theorem steps_dg (m : ByteArray) (i : Nat) : stepsN (dgAt m i : Int) = dgAt m i ∧ stepsN ((15 - dgAt m i : Nat) : Int) = 15 - dgAt m i := by
  have h := dgAt_le m i
  unfold stepsN
  constructor
  · rw [if_pos (by omega), Int.toNat_natCast]
  · rw [if_pos (by omega), Int.toNat_natCast]
theorem chn_le (x : ByteArray) (leaf chain frm : Int) (k : Nat) : (chnB x leaf chain frm k).size ≤ 4 + x.size := by
  cases k with
  | zero => show x.size ≤ _; omega
  | succ k => show (chopB _).size ≤ _; rw [chopB_size]; omega
theorem catC_sum (l : List ByteArray) (f : Nat → ByteArray) (h : ∀ i, (f i).size ≤ 4 + (bAt l i).size) (k : Nat) (hk : k ≤ l.length) : (catC f k).size ≤ 4 * k + sumS (l.take k) := by
  induction k with
  | zero => exact Nat.zero_le _
  | succ k ih =>
    have h1 := ih (by omega)
    have h2 := h k
    have h3 := sumS_take l k (by omega)
    have h4 : bAt l k = l[k]'(by omega) := by
      unfold bAt
      rw [List.getD_eq_getElem?_getD, List.getElem?_eq_getElem (show k < l.length by omega)]
      rfl
    rw [h4] at h2
    show (catC f k ++ f k).size ≤ _
    rw [ByteArray.size_append]
    omega
theorem sumS_le (l : List ByteArray) (n : Nat) (h : sumS l ≤ n) : ∀ x ∈ l, x.size ≤ n := by
  intro x hx
  obtain ⟨k, hk, rfl⟩ := List.mem_iff_getElem.1 hx
  exact Nat.le_trans (sumS_at l k hk) h
set_option maxRecDepth 20000 in
set_option maxHeartbeats 1000000 in
theorem specOnceFound_any (l : List ByteArray) (leaf : Int) (m : ByteArray) (v : Value) (w : World) (hr : RdV w v (l.map sv)) (hl : sumS l ≤ 1048576) (hm : m.size ≤ 1048576) :
    Calls Try.prog 30 #[v, .int .i64 leaf, .string m] w fun e w' => e = .returned (.string (onceF l leaf m)) ∧ Below w.heap.size w w' := by
  obtain ⟨a, c, rfl, hc⟩ := hr.open
  rw [List.length_map]
  clear hr
  by_cases h10 : l.length = 10
  · have EP := hide (show onceF l leaf m = chopB (catC (fun i => chnB (bAt l i) leaf (i : Int) (dgAt m i : Int) (15 - dgAt m i)) 10) by unfold onceF; rw [if_pos h10])
    rw [unhide EP]
    have hl2 := sumS_le l _ hl
    obtain ⟨f, hf⟩ : ∃ f : Nat → ByteArray, f = fun i => chnB (bAt l i) leaf (i : Int) (dgAt m i : Int) (15 - dgAt m i) := ⟨_, rfl⟩
    have CH2 := hide (show ∀ (i : Nat), i < 10 → ∀ W, Calls Try.prog 44 #[.string (bAt l i), .int .i64 leaf, .int .i64 (i : Int), .int .i64 (dgAt m i : Int), .int .i64 ((15 - dgAt m i : Nat) : Int)] W fun e w' => e = .returned (.string (f i)) ∧ Below W.heap.size W w' from fun i hi W => by rw [hf]; have h := specChain_any (bAt l i) leaf (i : Int) (dgAt m i : Int) ((15 - dgAt m i : Nat) : Int) (bAt_size l i _ (by omega) hl2) W; rw [(steps_dg m i).2] at h; exact h)
    have hfs : ∀ i, (f i).size ≤ 4 + (bAt l i).size := fun i => by rw [hf]; exact chn_le _ _ _ _ _
    have hcl := hide (show ∀ k, k ≤ 10 → (catC f k).size ≤ 1048616 from fun k hk => by
      have h1 := catC_sum l f hfs k (by omega)
      have h2 : sumS (l.take k) ≤ sumS l := by
        have : ∀ (q : List ByteArray) (j : Nat), sumS (q.take j) ≤ sumS q := fun q => by
          induction q with
          | nil => intro j; rw [List.take_nil]; exact Nat.le_refl _
          | cons x xs ih =>
            intro j
            cases j with
            | zero => exact Nat.zero_le _
            | succ j => have := ih j; show x.size + sumS (xs.take j) ≤ x.size + sumS xs; omega
        exact this l k
      omega)
    have hfz := hide (show ∀ i, i < 10 → (f i).size ≤ 1048580 from fun i hi => by have h1 := hfs i; have h2 := bAt_size l i _ (by omega) hl2; omega)
    rw [← hf]
    have CC := hide (fun W => specChop_any (catC f 10) (by have := unhide hcl 10 (by omega); omega) W)
    have Hs := hide (show ∀ k, catC f (k + 1) = catC f k ++ f k from fun k => rfl)
    have H0 := hide (show catC f 0 = ⟨#[]⟩ from rfl)
    generalize chopB (catC f 10) = R at *
    generalize catC f = cat at *
    have CD := hide (fun W => specDigits_any m (by omega) W)
    have DG := hide (fun k (h : k < 10) => digL_get m k h)
    have DL := hide (fun k => dgAt_le m k)
    have dl := digL_len m
    generalize digL m = D at *
    rw [h10]
    replace h10 := hide h10; replace hf := hide hf; replace dl := hide dl
    clear EP hfs
    go_enter Try.func30, Try.ntmps30
    go_wp2_with fail
    refine (unhide CD w).mono ?_
    rintro e w1 ⟨⟨vd, rfl, od⟩, hbd⟩
    obtain ⟨ad, cd, rfl, hcd⟩ := od.rdv.open
    have hdl : (D.map iv).length = 10 := by rw [List.length_map]; exact unhide dl
    rw [hdl]
    have KS := hide (fun (k : Nat) (hk : k < 10) (W : World) (h : Below w1.heap.size w1 W) => (show ∃ g o g' o', a = some ⟨g, o, none⟩ ∧ ad = some ⟨g', o', none⟩ ∧ W.cell? ⟨g, o + k, none⟩ = some (.string (bAt l k)) ∧ W.cell? ⟨g', o' + k, none⟩ = some (.int .i64 (dgAt m k : Int)) from by
      obtain ⟨g, o, e1, e2, e3⟩ := hc k _ (bAt_get l k (by rw [unhide h10]; exact hk))
      obtain ⟨g', o', i1, i2, i3⟩ := hcd k _ (unhide DG k hk)
      have hT : Below w.heap.size w W := hbd.trans (h.mono hbd.size)
      exact ⟨g, o, g', o', e1, i1, (hT.cell (p := ⟨g, o + k, none⟩) e2).trans e3, (h.cell (p := ⟨g', o' + k, none⟩) i2).trans i3⟩))
    clear od CD hdl hc DG hcd
    go_wp2
    go_loopw [8, 9] (fun tx ti wr => ∃ k : Nat, k ≤ 10 ∧ ti = .int .i64 (k : Int) ∧ tx = .string (cat k) ∧ Below w1.heap.size w1 wr) (fun _ ti _ => 10 - (intOf ti).toNat)
    case atStart => exact ⟨0, by omega, rfl, by rw [unhide H0], Below.refl _ _⟩
    case round =>
      obtain ⟨k, hk, rfl, rfl, hB⟩ := hrel
      have hsz := hB.size
      by_cases hlt : k < 10
      · have hk' : (k : Int) < 10 := by omega
        have hk0 : (0 : Int) ≤ (k : Int) := by omega
        obtain ⟨g, o, g', o', rfl, rfl, d1, d2⟩ := unhide KS k hlt wr hB
        have KS2 := hide (fun (W : World) (h : Below w1.heap.size w1 W) => (show W.cell? ⟨g, o + k, none⟩ = some (.string (bAt l k)) ∧ W.cell? ⟨g', o' + k, none⟩ = some (.int .i64 (dgAt m k : Int)) from by
          obtain ⟨_, _, _, _, e1, e2, e3, e4⟩ := unhide KS k hlt W h
          cases e1
          cases e2
          exact ⟨e3, e4⟩))
        have c1 := hide (unhide CH2 k hlt)
        have HC := hide (unhide Hs k)
        have z1 := unhide hcl k hk
        have z2 := unhide hfz k hlt
        have dle := unhide DL k
        generalize bAt l k = x at *
        obtain ⟨dz, hdz⟩ : ∃ z, z = dgAt m k := ⟨_, rfl⟩
        rw [← hdz] at d2 KS2 c1 dle
        obtain ⟨dy, hdy⟩ : ∃ z, z = 15 - dz := ⟨_, rfl⟩
        rw [← hdy] at c1
        have q1 : IntKind.i64.wrap (15 - (dz : Int)) = (dy : Int) := by rw [IntKind.wrap_i64]; omega
        generalize f k = y at *
        have hadd : ¬ 9223372036854775807 < (cat k).size + y.size := by omega
        have hadd2 : (cat k).size + y.size ≤ 9223372036854775807 := by omega
        replace hdz := hide hdz; replace hdy := hide hdy
        clear KS CH2
        go_wp2
        go_region_held3 (fun W => W.cell? ⟨g, o + k, none⟩ = some (.string x) ∧ W.cell? ⟨g', o' + k, none⟩ = some (.int .i64 (dz : Int))) (first | exact ⟨d1, d2⟩ | exact (unhide KS2) _ hB4 | fail) (first
          | (go_at_call 44; refine (unhide c1 _).mono ?_; rintro e w4 ⟨rfl, hb4⟩; have hB4 := (hB.drew).trans (hb4.mono hB.size)))
        all_goals
          clear d1 d2 KS2
          go_wp2
          exact ⟨⟨k + 1, by omega, by go_num, by rw [unhide HC], hB4⟩, by simp [intOf]; omega⟩
      · have hk' : ¬ (k : Int) < 10 := by omega
        obtain rfl : k = 10 := by omega
        clear KS
        go_wp2_with fail
        refine (unhide CC wr).mono ?_
        rintro e w5 ⟨rfl, hb5⟩
        have hB5 := hbd.trans ((hB.trans (hb5.mono hB.size)).mono hbd.size)
        clear hb5 hB CC
        go_wp2
        go_ret
        exact ⟨rfl, hB5⟩
  · have EP := hide (show onceF l leaf m = ⟨#[]⟩ by unfold onceF; rw [if_neg h10])
    rw [unhide EP]
    have h10' : ¬ (l.length : Int) = 10 := by omega
    clear hc
    go_enter Try.func30, Try.ntmps30
    go_wp2
    go_ret
    exact ⟨rfl, Below.refl _ _⟩
end Go.Proofs.Ytjgnjjphankhnab

