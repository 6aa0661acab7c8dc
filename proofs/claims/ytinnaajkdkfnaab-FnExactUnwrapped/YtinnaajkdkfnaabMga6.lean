/- Merged: Rvo, Lok6, LawLok, Dpt, Mac2. -/
import Derived.Test.YtinnaajkdkfnaabMga1
import Derived.Test.YtinnaajkdkfnaabMga2
import Derived.Test.YtinnaajkdkfnaabMga3
import Derived.Test.YtinnaajkdkfnaabMga4
import Derived.Test.YtinnaajkdkfnaabMga5
/- What is read of a number's bytes, reckoned. -/
namespace Go.Proofs.Ytinnaajkdkfnaab
theorem rvRun_has {s : ByteArray} {a : Nat} : ∀ (f i u n : Nat), s.size - i ≤ f → RvAt s a i u n → a ≤ i → i ≤ s.size → ∀ m j, rvRun s a i u n = some (m, j) →
    i < j ∧ j ≤ s.size ∧ j ≤ a + 5 ∧ m ≤ 1000000000 ∧ varB m = (s.data.toList.drop a).take (j - a) := by
  intro f
  induction f with
  | zero =>
    intro i u n hf _ _ _ m j h
    rw [rvRun_out (by omega)] at h
    cases h
  | succ f ih =>
    intro i u n hf hat ha hi m j h
    by_cases hlt : i < s.size ∧ i < a + 5
    · obtain ⟨h1, h5⟩ := hlt
      by_cases hb : 127 < s[i].toNat
      · rw [rvRun_on h1 h5 hb] at h
        obtain ⟨r1, r2, r3, r4, r5⟩ := ih (i + 1) _ _ (by omega) (hat.next ha h1 h5 hb) (by omega) (by omega) m j h
        exact ⟨by omega, r2, r3, r4, r5⟩
      · by_cases hn : (s[i].toNat = 0 ∧ a < i) ∨ 1000000000 < n + s[i].toNat % 128 * u
        · rw [rvRun_no h1 h5 hb hn] at h
          cases h
        · rw [rvRun_yes h1 h5 hb hn] at h
          simp only [Option.some.injEq, Prod.mk.injEq] at h
          obtain ⟨rfl, rfl⟩ := h
          exact ⟨by omega, by omega, by omega, by omega, (hat.own ha h1 hb).2 (fun x => hn (.inl x))⟩
    · rw [rvRun_out hlt] at h
      cases h

theorem rvRun_own {s : ByteArray} {p m j : Nat} (hp : p ≤ s.size) (h : rvRun s p p 1 0 = some (m, j)) :
    p < j ∧ j ≤ s.size ∧ j ≤ p + 5 ∧ m ≤ 1000000000 ∧ varB m = (s.data.toList.drop p).take (j - p) :=
  rvRun_has (s.size - p) p 1 0 (Nat.le_refl _) (RvAt.start s p) (Nat.le_refl _) hp m j h

end Go.Proofs.Ytinnaajkdkfnaab

/- Texts that are unwrapped, by the given model, over the loaded program. -/
namespace Go.Proofs.Ytinnaajkdkfnaab
open Go.RowKit
theorem opB_le (key : ByteArray) (z : Int) (t : ByteArray) : (opB key z t).size ≤ t.size := by
  unfold opB
  split
  next h =>
    have h1 := op_parts h
    rw [xoB_size _ _ (by rw [lkB_size]; exact Nat.le_refl _), opX_size h1.1]
    omega
  · exact Nat.zero_le _
theorem un_none {key t : ByteArray} (h : rvRun (opB key 0 t) 0 0 1 0 = none) : unOk key t = false ∧ unB key t = ⟨#[]⟩ := by
  unfold unOk unB unTry
  rw [h]
  exact ⟨rfl, rfl⟩
theorem un_is {key t : ByteArray} {n j : Nat} (h : rvRun (opB key 0 t) 0 0 1 0 = some (n, j)) : unTry key t = if opOk key 0 t = true ∧ n ≤ (opB key 0 t).size - j ∧ wrOk ((opB key 0 t).extract j (j + n)) = true ∧ wrB key ((opB key 0 t).extract j (j + n)) = t then some ((opB key 0 t).extract j (j + n)) else none := by
  unfold unTry
  rw [h]
theorem un_some {key t : ByteArray} {n j : Nat} (h : rvRun (opB key 0 t) 0 0 1 0 = some (n, j)) (hc : ¬ (opOk key 0 t = true ∧ n ≤ (opB key 0 t).size - j ∧ wrOk ((opB key 0 t).extract j (j + n)) = true ∧ wrB key ((opB key 0 t).extract j (j + n)) = t)) : unOk key t = false ∧ unB key t = ⟨#[]⟩ := by
  unfold unOk unB
  rw [un_is h, if_neg hc]
  exact ⟨rfl, rfl⟩
theorem un_yes {key t : ByteArray} {n j : Nat} (h : rvRun (opB key 0 t) 0 0 1 0 = some (n, j)) (hc : opOk key 0 t = true ∧ n ≤ (opB key 0 t).size - j ∧ wrOk ((opB key 0 t).extract j (j + n)) = true ∧ wrB key ((opB key 0 t).extract j (j + n)) = t) : unOk key t = true ∧ unB key t = (opB key 0 t).extract j (j + n) := by
  unfold unOk unB
  rw [un_is h, if_pos hc]
  exact ⟨rfl, rfl⟩
theorem neStr {a b : ByteArray} (h : ¬ a = b) : (a.toList == b.toList) = false := by
  rw [← beq_toListBytes]
  show (a.data == b.data) = false
  rw [beq_eq_false_iff_ne]
  intro e
  apply h
  cases a
  cases b
  simp_all

theorem one_size (x : UInt8) : (⟨#[x]⟩ : ByteArray).size = 1 := rfl
set_option maxRecDepth 20000 in
set_option maxHeartbeats 1600000 in
theorem specUnwrap_any (key : ByteArray) (hk : key.size ≤ 1048576) (t : ByteArray) (ht : t.size ≤ 1048576) (w : World) :
    Calls Try.prog 4 #[.string key, .string t] w fun e w' => e = .returned (.tuple #[.string (unB key t), .bool (unOk key t)]) ∧ Below w.heap.size w w' := by
  have CO := hide (fun W => specOpen_any key hk 0 t ht W)
  have hol := opB_le key 0 t
  have CR := hide (fun W => specReadVar_yes (opB key 0 t) 0 W (by omega) (by omega))
  cases hr : rvRun (opB key 0 t) 0 0 1 0 with
  | none =>
    obtain ⟨E1, E2⟩ := un_none hr
    rw [E1, E2]
    rw [hr] at CR
    generalize opB key 0 t = o at *
    generalize opOk key 0 t = ok at *
    clear hr E1 E2
    go_enter Try.func4, Try.ntmps4
    go_wp2_with fail
    refine (unhide CO w).mono ?_
    rintro e w1 ⟨rfl, hb1⟩
    go_wp2_with fail
    refine (unhide CR w1).mono ?_
    rintro e w2 ⟨rfl, hb2⟩
    have hT := hb1.trans (hb2.mono hb1.size)
    clear CO CR hb1 hb2
    unfold rvTup
    cases ok with
    | false =>
      go_wp2
      refine bodyPost_ret (v := .tuple #[.string ⟨#[]⟩, .bool false]) (by simp [results, Try.results4, go_sem]) rfl ⟨rfl, hT⟩
    | true =>
      go_wp2
      refine bodyPost_ret (v := .tuple #[.string ⟨#[]⟩, .bool false]) (by simp [results, Try.results4, go_sem]) rfl ⟨rfl, hT⟩
  | some p =>
    obtain ⟨n, j⟩ := p
    obtain ⟨q1, q2, q3, q4, _⟩ := rvRun_own (by omega) hr
    rw [hr] at CR
    have HY := hide (fun hc => un_yes (key := key) (t := t) hr hc)
    have HN := hide (fun hc => un_some (key := key) (t := t) hr hc)
    have CW := hide (fun W => specWrap_any key hk ((opB key 0 t).extract j (j + n)) W)
    have hsl : n ≤ (opB key 0 t).size - j → ∀ W, (Instr.slice 9 (.string (opB key 0 t)) (some (.int .i64 (j : Int))) (some (.int .i64 ((j + n : Nat) : Int))) none).run Try.prog W = .ok (.string ((opB key 0 t).extract j (j + n))) W := fun h W => by
      rw [run_slice_string_if W 9 (opB key 0 t) .i64 .i64 (j : Int) ((j + n : Nat) : Int) Try.underlying9, if_pos (by omega), if_pos (by omega)]
      rfl
    clear hr
    generalize opB key 0 t = o at *
    generalize opOk key 0 t = ok at *
    generalize unOk key t = fin at *
    generalize unB key t = fb at *
    generalize hx : o.extract j (j + n) = x at *
    generalize wrB key x = wb at *
    generalize wrOk x = wo at *
    clear hx
    have hj1 : (0 : Int) ≤ (j : Int) := by omega
    have hj2 : (j : Int) ≤ (o.size : Int) := by omega
    have hoz : (o.size : Int) ≤ 1048576 := by omega
    obtain ⟨rm, hrm⟩ : ∃ r : Nat, r = o.size - j := ⟨_, rfl⟩
    have e1 : IntKind.i64.wrap ((o.size : Int) - (j : Int)) = (rm : Int) := by rw [IntKind.wrap_i64]; omega
    obtain ⟨jn, hjn⟩ : ∃ r : Nat, r = j + n := ⟨_, rfl⟩
    have e2 : IntKind.i64.wrap ((j : Int) + (n : Int)) = (jn : Int) := by rw [IntKind.wrap_i64]; omega
    rw [← hrm] at HY HN hsl
    rw [← hjn] at hsl
    cases ok with
    | false =>
      obtain ⟨rfl, rfl⟩ := unhide HN (fun h => by cases h.1)
      replace hrm := hide hrm; replace hjn := hide hjn
      clear HY HN hsl CW
      go_enter Try.func4, Try.ntmps4
      go_wp2_with fail
      refine (unhide CO w).mono ?_
      rintro e w1 ⟨rfl, hb1⟩
      go_wp2_with fail
      refine (unhide CR w1).mono ?_
      rintro e w2 ⟨rfl, hb2⟩
      have hT := hb1.trans (hb2.mono hb1.size)
      clear CO CR hb1 hb2
      unfold rvTup
      go_wp2
      refine bodyPost_ret (v := .tuple #[.string ⟨#[]⟩, .bool false]) (by simp [results, Try.results4, go_sem]) rfl ⟨rfl, hT⟩
    | true =>
      by_cases hn : n ≤ rm
      · have hsl2 := hsl hn
        have hn' : ¬ (rm : Int) < (n : Int) := by omega
        clear hsl
        cases wo with
        | false =>
          obtain ⟨rfl, rfl⟩ := unhide HN (fun h => by cases h.2.2.1)
          replace hrm := hide hrm; replace hjn := hide hjn
          clear HY HN
          go_enter Try.func4, Try.ntmps4
          go_wp2_with fail
          refine (unhide CO w).mono ?_
          rintro e w1 ⟨rfl, hb1⟩
          go_wp2_with fail
          refine (unhide CR w1).mono ?_
          rintro e w2 ⟨rfl, hb2⟩
          have hT := hb1.trans (hb2.mono hb1.size)
          clear CO CR hb1 hb2
          unfold rvTup
          go_wp2_with fail
          refine (unhide CW w2).mono ?_
          rintro e w3 ⟨rfl, hb3⟩
          have hT3 := hT.trans (hb3.mono hT.size)
          clear CW hT hb3
          go_wp2
          refine bodyPost_ret (v := .tuple #[.string ⟨#[]⟩, .bool false]) (by simp [results, Try.results4, go_sem]) rfl ⟨rfl, hT3⟩
        | true =>
          by_cases hw : wb = t
          · obtain ⟨rfl, rfl⟩ := unhide HY ⟨rfl, hn, rfl, hw⟩
            subst hw
            replace hrm := hide hrm; replace hjn := hide hjn
            clear HY HN
            go_enter Try.func4, Try.ntmps4
            go_wp2_with fail
            refine (unhide CO w).mono ?_
            rintro e w1 ⟨rfl, hb1⟩
            go_wp2_with fail
            refine (unhide CR w1).mono ?_
            rintro e w2 ⟨rfl, hb2⟩
            have hT := hb1.trans (hb2.mono hb1.size)
            clear CO CR hb1 hb2
            unfold rvTup
            go_wp2_with fail
            refine (unhide CW w2).mono ?_
            rintro e w3 ⟨rfl, hb3⟩
            have hT3 := hT.trans (hb3.mono hT.size)
            clear CW hT hb3
            go_wp2
            refine bodyPost_ret (v := .tuple #[.string fb, .bool true]) (by simp [results, Try.results4, go_sem]) rfl ⟨rfl, hT3⟩
          · obtain ⟨rfl, rfl⟩ := unhide HN (fun h => hw h.2.2.2)
            have hne := neStr hw
            replace hrm := hide hrm; replace hjn := hide hjn
            clear HY HN
            go_enter Try.func4, Try.ntmps4
            go_wp2_with fail
            refine (unhide CO w).mono ?_
            rintro e w1 ⟨rfl, hb1⟩
            go_wp2_with fail
            refine (unhide CR w1).mono ?_
            rintro e w2 ⟨rfl, hb2⟩
            have hT := hb1.trans (hb2.mono hb1.size)
            clear CO CR hb1 hb2
            unfold rvTup
            go_wp2_with fail
            refine (unhide CW w2).mono ?_
            rintro e w3 ⟨rfl, hb3⟩
            have hT3 := hT.trans (hb3.mono hT.size)
            clear CW hT hb3
            go_wp2
            refine bodyPost_ret (v := .tuple #[.string ⟨#[]⟩, .bool false]) (by simp [results, Try.results4, go_sem]) rfl ⟨rfl, hT3⟩
      · have hn' : (rm : Int) < (n : Int) := by omega
        obtain ⟨rfl, rfl⟩ := unhide HN (fun h => hn h.2.1)
        replace hrm := hide hrm; replace hjn := hide hjn
        clear HY HN hsl CW
        go_enter Try.func4, Try.ntmps4
        go_wp2_with fail
        refine (unhide CO w).mono ?_
        rintro e w1 ⟨rfl, hb1⟩
        go_wp2_with fail
        refine (unhide CR w1).mono ?_
        rintro e w2 ⟨rfl, hb2⟩
        have hT := hb1.trans (hb2.mono hb1.size)
        clear CO CR hb1 hb2
        unfold rvTup
        go_wp2
        refine bodyPost_ret (v := .tuple #[.string ⟨#[]⟩, .bool false]) (by simp [results, Try.results4, go_sem]) rfl ⟨rfl, hT⟩
end Go.Proofs.Ytinnaajkdkfnaab

/- The laws FnExactMask, LockText, OpenText, Wrapped, Unwrapped, walked over the loaded program; what the project's function answers is a premise. -/
namespace Go.Proofs.Ytinnaajkdkfnaab
open Go.RowKit
set_option maxRecDepth 20000 in
theorem lawUnwrapped_any (key : ByteArray) (t : ByteArray) (w : World) (CI : key.size ≤ 1048576 → t.size ≤ 1048576 → ∀ W : World, Below w.heap.size w W → Calls Try.prog 5 #[.string key, .string t] W fun e w' => e = .returned (.tuple #[.string (unB key t), .bool (unOk key t)]) ∧ Below W.heap.size W w') :
    Calls Try.prog 3 #[.string key, .string t] w fun e w' => e = .returned (.bool true) ∧ Below w.heap.size w w' := by
  by_cases h0 : (1048576 : Int) < (key.size : Int)
  · go_enter Try.func3, Try.ntmps3
    go_wp2
    go_ret
    exact ⟨rfl, Below.refl _ _⟩
  by_cases h1 : (1048576 : Int) < (t.size : Int)
  · go_enter Try.func3, Try.ntmps3
    go_wp2
    go_ret
    exact ⟨rfl, Below.refl _ _⟩
  have n0 : key.size ≤ 1048576 := by omega
  have n1 : t.size ≤ 1048576 := by omega
  have CS := hide (specUnwrap_any key n0 t n1 w)
  replace CI := hide (CI n0 n1)
  generalize unB key t = q at *
  generalize unOk key t = b at *
  go_enter Try.func3, Try.ntmps3
  go_wp2_with fail
  refine (unhide CS).mono ?_
  rintro e w1 ⟨rfl, hb1⟩
  go_wp2_with fail
  refine (unhide CI w1 hb1).mono ?_
  rintro e w2 ⟨rfl, hb2⟩
  have hT := hb1.trans (hb2.mono hb1.size)
  clear CS CI hb1 hb2
  go_wp2
  go_ret
  exact ⟨rfl, hT⟩
end Go.Proofs.Ytinnaajkdkfnaab

/- Parts put behind one another, and their digest, over the loaded program. -/
namespace Go.Proofs.Ytinnaajkdkfnaab
open Go.RowKit
theorem join_flat (xs : List (List UInt8)) : Lib.join xs [] = xs.flatten := by
  unfold Lib.join
  induction xs with
  | nil => rfl
  | cons x xs ih =>
    cases xs with
    | nil => simp [List.intercalate]
    | cons y ys =>
      have e : [].intercalate (x :: y :: ys) = x ++ ([] ++ [].intercalate (y :: ys)) := by simp [List.intercalate, List.intersperse]
      rw [e, ih]
      rfl
theorem barr_eq {a b : ByteArray} (h : a.data.toList = b.data.toList) : a = b := ByteArray.ext (Array.toList_inj.1 h)
set_option maxRecDepth 20000 in
set_option maxHeartbeats 400000 in
theorem digParts_any (bk o c n : Nat) (xs : List ByteArray) (hn : xs.length = n) (T : ByteArray) (hT : T.data.toList = (xs.map (·.data.toList)).flatten) (hTs : T.size ≤ 4000000) (w : World) (hcells : ∀ (j : Nat) x, xs[j]? = some x → w.cell? ⟨bk, o + j, none⟩ = some (.string x)) (hbk : bk < w.heap.size) (hcap : n ≤ c) (hN : n ≤ 1000) :
    Calls Try.prog 50 #[.slice (some ⟨bk, o, none⟩) n c] w fun e w' => e = .returned (.string (digB T)) ∧ Below w.heap.size w w' := by
  subst hn
  have hj : (⟨(Lib.join (xs.map (·.data.toList)) (⟨#[]⟩ : ByteArray).data.toList).toArray⟩ : ByteArray) = T := by
    apply barr_eq
    rw [hT]
    exact join_flat _
  have hz : (Lib.join (xs.map (·.data.toList)) (⟨#[]⟩ : ByteArray).data.toList).length ≤ 140737488355328 := by
    have e : (Lib.join (xs.map (·.data.toList)) (⟨#[]⟩ : ByteArray).data.toList) = T.data.toList := by rw [← hj]
    rw [e]
    show T.size ≤ _
    omega
  have CJ := hide (Try.strings_Join bk o c xs ⟨#[]⟩ w hcells hbk (by omega) hcap hz)
  rw [hj] at CJ
  have CD := hide (fun W => implDigest_any T hTs W)
  rw [show endV (blocksW first8 T 0 (T.size / 64)) (T.extract (64 * (T.size / 64)) T.size) T.size = digB T from rfl] at CD
  clear hz hj hT hcells
  generalize digB T = d at *
  go_enter Try.func50, Try.ntmps50
  go_wp2_with fail
  refine (unhide CJ).mono ?_
  rintro e w1 ⟨rfl, hb1⟩
  go_wp2_with fail
  refine ((unhide CD) w1).mono ?_
  rintro e w2 ⟨rfl, hb2⟩
  have hb12 := hb1.trans (hb2.mono hb1.size)
  clear hb1 hb2
  go_wp2
  go_ret
  exact ⟨rfl, hb12⟩
end Go.Proofs.Ytinnaajkdkfnaab

/- Sums under a key by impl: the parts put behind one another, and the block masked. -/
namespace Go.Proofs.Ytinnaajkdkfnaab
open Go.RowKit
def BArr (w : World) (g : Nat) (T : TypeId) (l : List UInt8) : Prop := w.heap[g]? = some (.cells (l.map bv).toArray T (0, 0))
def aggB (l : List UInt8) : Value := .agg (l.map bv).toArray
def zb64 : List UInt8 := List.replicate 64 0
theorem BArr.lt {w : World} {g : Nat} {T : TypeId} {l : List UInt8} (h : BArr w g T l) : g < w.heap.size := by
  rcases Nat.lt_or_ge g w.heap.size with h1 | h1
  · exact h1
  · unfold BArr at h
    rw [Array.getElem?_eq_none h1] at h; cases h
theorem BArr.frozen {w : World} {g : Nat} {T : TypeId} {l : List UInt8} (h : BArr w g T l) (k : Nat) : w.frozen? ⟨g, k, none⟩ = false := frozen_of_row w g k _ T h
theorem BArr.cell {w : World} {g : Nat} {T : TypeId} {l : List UInt8} (h : BArr w g T l) {k : Nat} {b : UInt8} (hk : l[k]? = some b) : w.cell? ⟨g, k, none⟩ = some (.int .u8 (b.toNat : Int)) := by
  rw [cell_of_row w g k _ T (0, 0) h]
  simp [hk, bv]
theorem BArr.set {w : World} {g : Nat} {T : TypeId} {l : List UInt8} (h : BArr w g T l) (k x : Nat) (hx : x < 256) : BArr (w.setCell ⟨g, k, none⟩ (.int .u8 (x : Int))) g T (l.set k (byteOf x)) := by
  unfold BArr at h ⊢
  rw [heap_setCell_same w g k _ T (.int .u8 (x : Int)) h, List.map_set]
  simp [bv, byteOf_toNat hx]
theorem BArr.new (w : World) (T : TypeId) (l : List UInt8) : BArr (w.alloc (.cells (l.map bv).toArray T)) w.heap.size T l := heap_alloc_new w _
theorem BArr.below {w w' : World} {g B : Nat} {T : TypeId} {l : List UInt8} (h : BArr w g T l) (hb : Below B w w') (hg : g < B) : BArr w' g T l := by
  unfold BArr at h ⊢
  rw [hb.block g hg]; exact h
theorem bv_one (l : List UInt8) : (l.map bv).toArray.all (·.oneCell') = true := by
  rw [Array.all_eq_true_iff_forall_mem]
  intro v hv
  simp only [List.mem_toArray, List.mem_map] at hv
  obtain ⟨x, _, rfl⟩ := hv
  rfl
def mskL (l : List UInt8) (m n : Nat) : List UInt8 := (xorL l m).take n ++ l.drop n
theorem mskL_at (l : List UInt8) (m n : Nat) (h : n < l.length) : (mskL l m n)[n]? = some l[n] := by
  unfold mskL
  rw [List.getElem?_append_right (by simp [xorL]; omega), show (List.take n (xorL l m)).length = n by simp [xorL]; omega, Nat.sub_self, List.getElem?_drop, Nat.add_zero, List.getElem?_eq_getElem h]
theorem mskL_set (l : List UInt8) (m n : Nat) (h : n < l.length) : (mskL l m n).set n (byteOf (l[n].toNat ^^^ m)) = mskL l m (n + 1) := by
  have hl : n < (xorL l m).length := by simp [xorL]; omega
  have hv : (xorL l m)[n] = byteOf (l[n].toNat ^^^ m) := by simp [xorL]
  unfold mskL
  rw [List.drop_eq_getElem_cons h, List.set_append_right _ _ (by simp [xorL]; omega)]
  rw [show n - (List.take n (xorL l m)).length = 0 by simp [xorL]; omega]
  rw [List.set_cons_zero, ← hv, ← List.take_append_getElem hl, List.append_assoc]
  rfl
theorem mskL_all (l : List UInt8) (m : Nat) (h : l.length = 64) : mskL l m 64 = xorL l m := by
  unfold mskL
  rw [List.take_of_length_le (by simp [xorL]; omega), List.drop_of_length_le (by omega), List.append_nil]
theorem kL_eq (k : ByteArray) (hk : k.size ≤ 64) : kL k = k.data.toList ++ List.replicate (64 - k.size) 0 := by
  have hl : k.data.toList.length = k.size := rfl
  apply List.ext_getElem?
  intro j
  unfold kL
  rw [List.getElem?_map]
  by_cases hj : j < 64
  · rw [List.getElem?_range hj]
    by_cases hjk : j < k.size
    · rw [List.getElem?_append_left (by rw [hl]; exact hjk), Option.map_some, List.getD_eq_getElem?_getD, List.getElem?_eq_getElem (by rw [hl]; exact hjk)]
      rfl
    · rw [List.getElem?_append_right (by rw [hl]; omega), hl, List.getElem?_replicate, if_pos (by omega), Option.map_some, List.getD_eq_getElem?_getD, List.getElem?_eq_none (by rw [hl]; omega)]
      rfl
  · rw [List.getElem?_eq_none (by simp; omega), List.getElem?_eq_none (by rw [List.length_append, List.length_replicate, hl]; omega)]
    rfl
theorem row_k (k : ByteArray) (hk : k.size ≤ 64) : (k.data.toList.map bv ++ (zb64.map bv).toArray.toList.drop k.size).toArray = ((kL k).map bv).toArray := by
  rw [kL_eq k hk, List.map_append]
  have e : (zb64.map bv).toArray.toList.drop k.size = (List.replicate (64 - k.size) (0 : UInt8)).map bv := by
    show ((List.replicate 64 (0 : UInt8)).map bv).drop k.size = _
    rw [← List.map_drop, List.drop_replicate]
  rw [e]
theorem run_copy_text {P : Program} (w : World) (dT sT ty elem : TypeId) (g n c : Nat) (cur : Array Value) (t : TypeId) (k : ByteArray)
    (hu : P.underlying dT = some (.slice elem)) (hs : (P.info? elem).map (·.size) = some 1)
    (hg : w.heap[g]? = some (.cells cur t (0, 0))) (hkn : k.size ≤ n) (hfit : n ≤ cur.size) :
    (Builtin.copy_ #[dT, sT] ty #[.slice (some ⟨g, 0, none⟩) n c, .string k]).run P w =
      .ok (goInt k.size) (w.setRow g (k.data.toList.map bv ++ cur.toList.drop k.size).toArray) := by
  have hl : (k.data.toList.map bv).length = k.size := by rw [List.length_map]; rfl
  have h1 : ∀ v ∈ k.data.toList.map bv, v.oneCell' = true := by
    intro v hv
    obtain ⟨x, _, rfl⟩ := List.mem_map.1 hv
    rfl
  have hst := run_storeCells_at P g 0 t (k.data.toList.map bv) 0 cur w hg (by rw [hl]; omega) h1
  rw [hl, Nat.zero_add, List.take_zero, List.nil_append, Nat.zero_add] at hst
  have hm : Nat.min k.size n = k.size := Nat.min_eq_left hkn
  cases hq : P.info? elem with
  | none => simp [hq] at hs
  | some i =>
    have hx' : List.map (fun b : UInt8 => Value.int .u8 (b.toNat : Int)) k.data.toList = k.data.toList.map bv := rfl
    simp [Builtin.copy_, run_underlying hu, Builtin.lenOf, Builtin.firstCells, sizeOf, typeInfo, hq, hm, hx']
    rw [List.take_of_length_le (Nat.le_of_eq hl), hst]
    rfl
theorem wpList_copy_text {P : Program} {w : World} {ops : Array Oper} {rest : List Oper} {o : Oper} {a : Act} {Q : Exit → Act → World → Prop} (hgd : o.guard = none) (d s : Operand) (dT sT : TypeId)
    (ho : o.op = .call { callee := .builtin .copy, args := #[d, s], argTypes := #[dT, sT] }) (elem : TypeId) (hu : P.underlying dT = some (.slice elem)) (hs : (P.info? elem).map (·.size) = some 1)
    (g n c : Nat) (l : List UInt8) (t : TypeId) (hA : BArr w g t l) (k : ByteArray) (hd : a.eval d = .slice (some ⟨g, 0, none⟩) n c) (hk : a.eval s = .string k) (hkn : k.size ≤ n) (hl : l.length = n)
    (h : wpList P ops Q rest (a.put o.dst (goInt k.size)) (w.setRow g ((k.data.toList ++ l.drop k.size).map bv).toArray)) : wpList P ops Q (o :: rest) a w := by
  refine wpList_plain hgd fun K hK => ?_
  have hr := run_copy_text (P := P) w dT sT o.type elem g n c (l.map bv).toArray t k hu hs hA hkn (by simp; omega)
  have e : (k.data.toList.map bv ++ (l.map bv).toArray.toList.drop k.size) = (k.data.toList ++ l.drop k.size).map bv := by
    simp [List.map_append, List.map_drop]
  rw [e] at hr
  unfold Oper.wp execOp
  simp only [ho, resolve, invoke, builtin, Sem.run_bind, Sem.run_pure, Result.andThen_ok, List.map_toArray, List.map_cons, List.map_nil, hd, hk]
  simp only [hr, Result.andThen_ok]
  exact hK _ _ h
theorem lenb64 : Try.prog.arrayLen 71 = 64 := by kernel_rfl
theorem infob64 (l : List UInt8) (hl : l.length = 64) : (Try.prog.info? 71).map (·.size) = some (l.map bv).toArray.size := by
  have e : (l.map bv).toArray.size = 64 := by simp [hl]
  have h : (Try.prog.info? 71).map (·.size) = some 64 := by kernel_rfl
  rw [h, e]
theorem idxb64 (g k : Nat) (h : (k : Int) < 64) (W : World) : (Instr.indexAt 71 (.pointer (some ⟨g, 0, none⟩)) (.int .i64 (k : Int))).run Try.prog W = .ok (.pointer (some ⟨g, k, none⟩)) W := by
  have hu : Try.prog.underlying 71 = some (.array (Try.prog.arrayLen 71) (Try.prog.elem 71)) := by kernel_rfl
  have he : Try.prog.elem 71 = 5 := by kernel_rfl
  have h1 : (0 : Int) ≤ (k : Int) ∧ (k : Int) < ((Try.prog.arrayLen 71 : Nat) : Int) := by rw [lenb64]; exact ⟨by omega, by omega⟩
  rw [run_indexAt_array (P := Try.prog) (w := W) 71 ⟨g, 0, none⟩ .i64 (k : Int) hu, if_pos h1, he]
  simp [go_sem, Addr.add]
  intro h; exact h.symm
set_option maxRecDepth 20000 in
set_option maxHeartbeats 400000 in
theorem masked_any (l : List UInt8) (hl : l.length = 64) (m : Nat) (hm : m < 256) (w : World) :
    Calls Try.prog 49 #[aggB l, .int .u8 (m : Int)] w fun e w' => e = .returned (.string ⟨(xorL l m).toArray⟩) ∧ Below w.heap.size w w' := by
  unfold aggB
  have hN := hide (BArr.new w 71 l)
  have hb0 : Below w.heap.size w (w.alloc (.cells (l.map bv).toArray 71)) := (Below.refl w.heap.size w).alloc (Nat.le_refl _) _
  go_enter Try.func49, Try.ntmps49
  go_wp2_with fail
  generalize w.alloc (.cells (l.map bv).toArray 71) = w1 at *
  go_loopw [6] (fun ti wq => ∃ n : Nat, n ≤ 64 ∧ ti = .int .i64 (n : Int) ∧ Hid (BArr wq w.heap.size 71 (mskL l m n)) ∧ Below w.heap.size w wq) (fun ti _ => 64 - (intOf ti).toNat)
  case atStart => exact ⟨0, by omega, rfl, hN, hb0⟩
  case round =>
    clear hN hb0
    obtain ⟨n, hn, rfl, HA, hb⟩ := hrel
    by_cases hlt : n < 64
    · have hn64 : (n : Int) < 64 := by omega
      have hnl : n < l.length := by omega
      have hset := hide (mskL_set l m n hnl)
      have c0 := (unhide HA).cell (mskL_at l m n hnl)
      have f0 := (unhide HA).frozen n
      have Ig := idxb64 w.heap.size n hn64
      obtain ⟨y, hy⟩ : ∃ y, y = l[n].toNat := ⟨_, rfl⟩
      have hyl : y < 256 := by rw [hy]; exact l[n].toNat_lt
      rw [← hy] at hset c0
      have hxl : y ^^^ m < 256 := Nat.xor_lt_two_pow (n := 8) hyl hm
      have ex := hide (u8_xor y m hyl hm)
      have O2 := (unhide HA).set n (y ^^^ m) hxl
      rw [unhide hset] at O2
      replace O2 := hide O2
      have hb2 := hide (hb.setCell (p := ⟨w.heap.size, n, none⟩) (Nat.le_refl _) (.int .u8 ((y ^^^ m : Nat) : Int)))
      replace hy := hide hy
      clear HA hset hb
      go_wp2
      rw [unhide ex]
      exact ⟨⟨n + 1, by omega, by go_num, O2, unhide hb2⟩, by simp [intOf]; omega⟩
    · have hn6 : n = 64 := by omega
      have hn64 : ¬ ((n : Int) < 64) := by omega
      rw [hn6, mskL_all l m hl] at HA
      have hc := run_convert_bytes_back (P := Try.prog) wr 37 9 5 ⟨w.heap.size, 0, none⟩ 64 (xorL l m) Try.underlying37 Try.underlying5 Try.underlying9 (fun j hj => by
        have hadd : (⟨w.heap.size, 0, none⟩ : Addr).add j = ⟨w.heap.size, j, none⟩ := by unfold Addr.add; split <;> simp_all
        rw [hadd]
        exact (unhide HA).cell (List.getElem?_eq_getElem hj))
      rw [show (xorL l m).length = 64 by simp [xorL, hl]] at hc
      replace hn6 := hide hn6
      go_wp2
      go_ret
      exact ⟨rfl, hb⟩
theorem two_b64 (w : World) (T : TypeId) : ∃ W, ((w.alloc (.cells #[.int .u8 0, .int .u8 0, .int .u8 0, .int .u8 0, .int .u8 0, .int .u8 0, .int .u8 0, .int .u8 0, .int .u8 0, .int .u8 0, .int .u8 0, .int .u8 0, .int .u8 0, .int .u8 0, .int .u8 0, .int .u8 0, .int .u8 0, .int .u8 0, .int .u8 0, .int .u8 0, .int .u8 0, .int .u8 0, .int .u8 0, .int .u8 0, .int .u8 0, .int .u8 0, .int .u8 0, .int .u8 0, .int .u8 0, .int .u8 0, .int .u8 0, .int .u8 0, .int .u8 0, .int .u8 0, .int .u8 0, .int .u8 0, .int .u8 0, .int .u8 0, .int .u8 0, .int .u8 0, .int .u8 0, .int .u8 0, .int .u8 0, .int .u8 0, .int .u8 0, .int .u8 0, .int .u8 0, .int .u8 0, .int .u8 0, .int .u8 0, .int .u8 0, .int .u8 0, .int .u8 0, .int .u8 0, .int .u8 0, .int .u8 0, .int .u8 0, .int .u8 0, .int .u8 0, .int .u8 0, .int .u8 0, .int .u8 0, .int .u8 0, .int .u8 0] T)).alloc (.cells #[.int .u8 0, .int .u8 0, .int .u8 0, .int .u8 0, .int .u8 0, .int .u8 0, .int .u8 0, .int .u8 0, .int .u8 0, .int .u8 0, .int .u8 0, .int .u8 0, .int .u8 0, .int .u8 0, .int .u8 0, .int .u8 0, .int .u8 0, .int .u8 0, .int .u8 0, .int .u8 0, .int .u8 0, .int .u8 0, .int .u8 0, .int .u8 0, .int .u8 0, .int .u8 0, .int .u8 0, .int .u8 0, .int .u8 0, .int .u8 0, .int .u8 0, .int .u8 0, .int .u8 0, .int .u8 0, .int .u8 0, .int .u8 0, .int .u8 0, .int .u8 0, .int .u8 0, .int .u8 0, .int .u8 0, .int .u8 0, .int .u8 0, .int .u8 0, .int .u8 0, .int .u8 0, .int .u8 0, .int .u8 0, .int .u8 0, .int .u8 0, .int .u8 0, .int .u8 0, .int .u8 0, .int .u8 0, .int .u8 0, .int .u8 0, .int .u8 0, .int .u8 0, .int .u8 0, .int .u8 0, .int .u8 0, .int .u8 0, .int .u8 0, .int .u8 0] T)) = W ∧ BArr W w.heap.size T zb64 ∧ BArr W (w.heap.size + 1) T zb64 ∧ Below w.heap.size w W ∧ W.heap.size = w.heap.size + 2 := by
  have h1 : BArr (w.alloc (.cells #[.int .u8 0, .int .u8 0, .int .u8 0, .int .u8 0, .int .u8 0, .int .u8 0, .int .u8 0, .int .u8 0, .int .u8 0, .int .u8 0, .int .u8 0, .int .u8 0, .int .u8 0, .int .u8 0, .int .u8 0, .int .u8 0, .int .u8 0, .int .u8 0, .int .u8 0, .int .u8 0, .int .u8 0, .int .u8 0, .int .u8 0, .int .u8 0, .int .u8 0, .int .u8 0, .int .u8 0, .int .u8 0, .int .u8 0, .int .u8 0, .int .u8 0, .int .u8 0, .int .u8 0, .int .u8 0, .int .u8 0, .int .u8 0, .int .u8 0, .int .u8 0, .int .u8 0, .int .u8 0, .int .u8 0, .int .u8 0, .int .u8 0, .int .u8 0, .int .u8 0, .int .u8 0, .int .u8 0, .int .u8 0, .int .u8 0, .int .u8 0, .int .u8 0, .int .u8 0, .int .u8 0, .int .u8 0, .int .u8 0, .int .u8 0, .int .u8 0, .int .u8 0, .int .u8 0, .int .u8 0, .int .u8 0, .int .u8 0, .int .u8 0, .int .u8 0] T)) w.heap.size T zb64 := BArr.new w T zb64
  have h2 : BArr ((w.alloc (.cells #[.int .u8 0, .int .u8 0, .int .u8 0, .int .u8 0, .int .u8 0, .int .u8 0, .int .u8 0, .int .u8 0, .int .u8 0, .int .u8 0, .int .u8 0, .int .u8 0, .int .u8 0, .int .u8 0, .int .u8 0, .int .u8 0, .int .u8 0, .int .u8 0, .int .u8 0, .int .u8 0, .int .u8 0, .int .u8 0, .int .u8 0, .int .u8 0, .int .u8 0, .int .u8 0, .int .u8 0, .int .u8 0, .int .u8 0, .int .u8 0, .int .u8 0, .int .u8 0, .int .u8 0, .int .u8 0, .int .u8 0, .int .u8 0, .int .u8 0, .int .u8 0, .int .u8 0, .int .u8 0, .int .u8 0, .int .u8 0, .int .u8 0, .int .u8 0, .int .u8 0, .int .u8 0, .int .u8 0, .int .u8 0, .int .u8 0, .int .u8 0, .int .u8 0, .int .u8 0, .int .u8 0, .int .u8 0, .int .u8 0, .int .u8 0, .int .u8 0, .int .u8 0, .int .u8 0, .int .u8 0, .int .u8 0, .int .u8 0, .int .u8 0, .int .u8 0] T)).alloc (.cells #[.int .u8 0, .int .u8 0, .int .u8 0, .int .u8 0, .int .u8 0, .int .u8 0, .int .u8 0, .int .u8 0, .int .u8 0, .int .u8 0, .int .u8 0, .int .u8 0, .int .u8 0, .int .u8 0, .int .u8 0, .int .u8 0, .int .u8 0, .int .u8 0, .int .u8 0, .int .u8 0, .int .u8 0, .int .u8 0, .int .u8 0, .int .u8 0, .int .u8 0, .int .u8 0, .int .u8 0, .int .u8 0, .int .u8 0, .int .u8 0, .int .u8 0, .int .u8 0, .int .u8 0, .int .u8 0, .int .u8 0, .int .u8 0, .int .u8 0, .int .u8 0, .int .u8 0, .int .u8 0, .int .u8 0, .int .u8 0, .int .u8 0, .int .u8 0, .int .u8 0, .int .u8 0, .int .u8 0, .int .u8 0, .int .u8 0, .int .u8 0, .int .u8 0, .int .u8 0, .int .u8 0, .int .u8 0, .int .u8 0, .int .u8 0, .int .u8 0, .int .u8 0, .int .u8 0, .int .u8 0, .int .u8 0, .int .u8 0, .int .u8 0, .int .u8 0] T)) (w.alloc (.cells #[.int .u8 0, .int .u8 0, .int .u8 0, .int .u8 0, .int .u8 0, .int .u8 0, .int .u8 0, .int .u8 0, .int .u8 0, .int .u8 0, .int .u8 0, .int .u8 0, .int .u8 0, .int .u8 0, .int .u8 0, .int .u8 0, .int .u8 0, .int .u8 0, .int .u8 0, .int .u8 0, .int .u8 0, .int .u8 0, .int .u8 0, .int .u8 0, .int .u8 0, .int .u8 0, .int .u8 0, .int .u8 0, .int .u8 0, .int .u8 0, .int .u8 0, .int .u8 0, .int .u8 0, .int .u8 0, .int .u8 0, .int .u8 0, .int .u8 0, .int .u8 0, .int .u8 0, .int .u8 0, .int .u8 0, .int .u8 0, .int .u8 0, .int .u8 0, .int .u8 0, .int .u8 0, .int .u8 0, .int .u8 0, .int .u8 0, .int .u8 0, .int .u8 0, .int .u8 0, .int .u8 0, .int .u8 0, .int .u8 0, .int .u8 0, .int .u8 0, .int .u8 0, .int .u8 0, .int .u8 0, .int .u8 0, .int .u8 0, .int .u8 0, .int .u8 0] T)).heap.size T zb64 := BArr.new (w.alloc (.cells (zb64.map bv).toArray T)) T zb64
  have hz : (w.alloc (.cells #[.int .u8 0, .int .u8 0, .int .u8 0, .int .u8 0, .int .u8 0, .int .u8 0, .int .u8 0, .int .u8 0, .int .u8 0, .int .u8 0, .int .u8 0, .int .u8 0, .int .u8 0, .int .u8 0, .int .u8 0, .int .u8 0, .int .u8 0, .int .u8 0, .int .u8 0, .int .u8 0, .int .u8 0, .int .u8 0, .int .u8 0, .int .u8 0, .int .u8 0, .int .u8 0, .int .u8 0, .int .u8 0, .int .u8 0, .int .u8 0, .int .u8 0, .int .u8 0, .int .u8 0, .int .u8 0, .int .u8 0, .int .u8 0, .int .u8 0, .int .u8 0, .int .u8 0, .int .u8 0, .int .u8 0, .int .u8 0, .int .u8 0, .int .u8 0, .int .u8 0, .int .u8 0, .int .u8 0, .int .u8 0, .int .u8 0, .int .u8 0, .int .u8 0, .int .u8 0, .int .u8 0, .int .u8 0, .int .u8 0, .int .u8 0, .int .u8 0, .int .u8 0, .int .u8 0, .int .u8 0, .int .u8 0, .int .u8 0, .int .u8 0, .int .u8 0] T)).heap.size = w.heap.size + 1 := by simp
  rw [hz] at h2
  refine ⟨_, rfl, h1.below ((Below.refl (w.heap.size + 1) _).alloc (by rw [hz]; exact Nat.le_refl _) _) (by omega), h2, ((Below.refl w.heap.size w).alloc (Nat.le_refl _) _).alloc (by rw [hz]; omega) _, ?_⟩
  simp
theorem one_b64 (w : World) (T : TypeId) : ∃ W, (w.alloc (.cells #[.int .u8 0, .int .u8 0, .int .u8 0, .int .u8 0, .int .u8 0, .int .u8 0, .int .u8 0, .int .u8 0, .int .u8 0, .int .u8 0, .int .u8 0, .int .u8 0, .int .u8 0, .int .u8 0, .int .u8 0, .int .u8 0, .int .u8 0, .int .u8 0, .int .u8 0, .int .u8 0, .int .u8 0, .int .u8 0, .int .u8 0, .int .u8 0, .int .u8 0, .int .u8 0, .int .u8 0, .int .u8 0, .int .u8 0, .int .u8 0, .int .u8 0, .int .u8 0, .int .u8 0, .int .u8 0, .int .u8 0, .int .u8 0, .int .u8 0, .int .u8 0, .int .u8 0, .int .u8 0, .int .u8 0, .int .u8 0, .int .u8 0, .int .u8 0, .int .u8 0, .int .u8 0, .int .u8 0, .int .u8 0, .int .u8 0, .int .u8 0, .int .u8 0, .int .u8 0, .int .u8 0, .int .u8 0, .int .u8 0, .int .u8 0, .int .u8 0, .int .u8 0, .int .u8 0, .int .u8 0, .int .u8 0, .int .u8 0, .int .u8 0, .int .u8 0] T)) = W ∧ BArr W w.heap.size T zb64 ∧ Below w.heap.size w W ∧ W.heap.size = w.heap.size + 1 :=
  ⟨_, rfl, BArr.new w T zb64, (Below.refl w.heap.size w).alloc (Nat.le_refl _) _, by simp⟩
set_option maxRecDepth 20000 in
set_option maxHeartbeats 400000 in
theorem keyBlock_any (key : ByteArray) (hkz : key.size ≤ 1048576) (w : World) :
    Calls Try.prog 48 #[.string key] w fun e w' => e = .returned (aggB (kL (keyB key))) ∧ Below w.heap.size w w' := by
  have hinf : (Try.prog.info? 5).map (·.size) = some 1 := by kernel_rfl
  by_cases hlong : 64 < key.size
  · have h64 : (64 : Int) < (key.size : Int) := by omega
    have CD := hide (fun W => implDigest_any key (by omega) W)
    rw [show endV (blocksW first8 key 0 (key.size / 64)) (key.extract (64 * (key.size / 64)) key.size) key.size = keyB key by unfold keyB; rw [if_pos hlong]; rfl] at CD
    have hk : (keyB key).size ≤ 64 := keyB_size key
    generalize keyB key = k at *
    have hrow : (k.data.toList.map bv ++ (zb64.map bv).toArray.toList.drop k.size).toArray = ((kL k).map bv).toArray := row_k k hk
    go_enter Try.func48, Try.ntmps48
    go_wp2_with fail
    obtain ⟨W0, hW0, hR0, hb0, hs0⟩ := one_b64 w 71
    rw [hW0]
    clear hW0
    refine ((unhide CD) W0).mono ?_
    rintro e w1 ⟨rfl, hb1⟩
    have hR1 := hR0.below hb1 (by omega)
    have hb01 := hb0.trans (hb1.mono (by omega))
    have hs1 := hb1.size
    clear hR0 hb0 hb1 CD
    go_wp2_with fail
    obtain ⟨W, hW, hA, hbW, hWs⟩ := one_b64 w1 71
    rw [hW]
    clear hW
    have hR := hR1.below hbW (by omega)
    have hb := hb01.trans (hbW.mono (by omega))
    clear hR1 hbW hb01
    have hcp := run_copy_text (P := Try.prog) W 37 9 3 5 (w1.heap.size) 64 64 (zb64.map bv).toArray 71 k Try.underlying37 hinf hA hk (by simp [zb64])
    rw [hrow] at hcp
    have hA2 : BArr (W.setRow (w1.heap.size) ((kL k).map bv).toArray) (w1.heap.size) 71 (kL k) := setRow_heap _ _ _ _ _ _ hA
    have hR2 : BArr (W.setRow (w1.heap.size) ((kL k).map bv).toArray) w.heap.size 71 zb64 := by
      unfold BArr
      rw [Go.setRow_other _ _ _ _ (by omega)]
      exact hR
    have hb2 := Go.below_setRow hb (show w.heap.size ≤ w1.heap.size by omega) ((kL k).map bv).toArray
    rw [hcp]
    clear hcp hA hR hb hrow hinf
    generalize W.setRow (w1.heap.size) ((kL k).map bv).toArray = W2 at *
    have hi := hide (infob64 (kL k) (kL_len k))
    have hsz : (zb64.map bv).toArray.size = ((kL k).map bv).toArray.size := by simp [kL_len, zb64]
    replace hsz := hide hsz
    replace hA2 := hide hA2
    replace hR2 := hide hR2
    go_wp2_with (first | (refine wpList_load_row rfl 71 _ rfl (w1.heap.size) rfl 71 _ (0, 0) _ (unhide hA2) Try.underlying71 rfl (unhide hi) ?_) | (refine wpList_store_row rfl 71 _ _ rfl w.heap.size _ rfl rfl 71 _ (unhide hR2) (unhide hi) (unhide hsz) (bv_one _) ?_))
    exact bodyPost_ret (v := aggB (kL k)) (results_cell_row Try.results48 _ _ w.heap.size 71 _ (0, 0) _ rfl (setRow_heap _ _ _ _ _ _ (unhide hR2)) Try.underlying71 rfl (unhide hi)) rfl ⟨rfl, Go.below_setRow hb2 (Nat.le_refl _) _⟩
  · have h64 : ¬ (64 : Int) < (key.size : Int) := by omega
    have hk : key.size ≤ 64 := by omega
    rw [show keyB key = key by unfold keyB; rw [if_neg hlong]]
    generalize key = k at *
    have hrow : (k.data.toList.map bv ++ (zb64.map bv).toArray.toList.drop k.size).toArray = ((kL k).map bv).toArray := row_k k hk
    go_enter Try.func48, Try.ntmps48
    go_wp2_with fail
    obtain ⟨W, hW, hR, hA, hb, hWs⟩ := two_b64 w 71
    rw [hW]
    clear hW
    have hcp := run_copy_text (P := Try.prog) W 37 9 3 5 (w.heap.size + 1) 64 64 (zb64.map bv).toArray 71 k Try.underlying37 hinf hA hk (by simp [zb64])
    rw [hrow] at hcp
    have hA2 : BArr (W.setRow (w.heap.size + 1) ((kL k).map bv).toArray) (w.heap.size + 1) 71 (kL k) := setRow_heap _ _ _ _ _ _ hA
    have hR2 : BArr (W.setRow (w.heap.size + 1) ((kL k).map bv).toArray) w.heap.size 71 zb64 := by
      unfold BArr
      rw [Go.setRow_other _ _ _ _ (by omega)]
      exact hR
    have hb2 := Go.below_setRow hb (show w.heap.size ≤ w.heap.size + 1 by omega) ((kL k).map bv).toArray
    rw [hcp]
    clear hcp hA hR hb hrow hinf
    generalize W.setRow (w.heap.size + 1) ((kL k).map bv).toArray = W2 at *
    have hi := hide (infob64 (kL k) (kL_len k))
    have hsz : (zb64.map bv).toArray.size = ((kL k).map bv).toArray.size := by simp [kL_len, zb64]
    replace hsz := hide hsz
    replace hA2 := hide hA2
    replace hR2 := hide hR2
    go_wp2_with (first | (refine wpList_load_row rfl 71 _ rfl (w.heap.size + 1) rfl 71 _ (0, 0) _ (unhide hA2) Try.underlying71 rfl (unhide hi) ?_) | (refine wpList_store_row rfl 71 _ _ rfl w.heap.size _ rfl rfl 71 _ (unhide hR2) (unhide hi) (unhide hsz) (bv_one _) ?_))
    exact bodyPost_ret (v := aggB (kL k)) (results_cell_row Try.results48 _ _ w.heap.size 71 _ (0, 0) _ rfl (setRow_heap _ _ _ _ _ _ (unhide hR2)) Try.underlying71 rfl (unhide hi)) rfl ⟨rfl, Go.below_setRow hb2 (Nat.le_refl _) _⟩
theorem wpList_load_barr {P : Program} {ops : Array Oper} {rest : List Oper} {o : Oper} {a : Act} {w : World} {Q : Exit → Act → World → Prop} (hgd : o.guard = none) (ty : TypeId) (x : Operand) (ho : o.op = .load ty x)
    (g : Nat) (hx : a.eval x = .pointer (some ⟨g, 0, none⟩)) (T : TypeId) (l : List UInt8) (hA : BArr w g T l) (n : Nat) (e : TypeId) (hu : P.underlying ty = some (.array n e)) (hi : (P.info? ty).map (·.size) = some (l.map bv).toArray.size)
    (h : wpList P ops Q rest (a.put o.dst (aggB l)) w) : wpList P ops Q (o :: rest) a w :=
  wpList_load_row hgd ty x ho g hx T _ (0, 0) _ hA hu rfl hi h
theorem wpList_store_barr {P : Program} {ops : Array Oper} {rest : List Oper} {o : Oper} {a : Act} {w : World} {Q : Exit → Act → World → Prop} (hgd : o.guard = none) (ty : TypeId) (x y : Operand) (ho : o.op = .store ty x y)
    (g : Nat) (l l0 : List UInt8) (hx : a.eval x = .pointer (some ⟨g, 0, none⟩)) (hy : a.eval y = aggB l) (T : TypeId) (hA : BArr w g T l0) (hi : (P.info? ty).map (·.size) = some (l.map bv).toArray.size) (hl : l0.length = l.length)
    (h : ∀ w', BArr w' g T l → Below g w w' → wpList P ops Q rest (a.put o.dst undef) w') : wpList P ops Q (o :: rest) a w :=
  wpList_store_row hgd ty x y ho g _ hx hy T _ hA hi (by simp [hl]) (bv_one l) (h _ (setRow_heap _ _ _ _ _ _ hA) (Go.below_setRow (Below.refl _ _) (Nat.le_refl _) _))
theorem wpList_onto_vals {P : Program} {w : World} {ops : Array Oper} {rest : List Oper} {o : Oper} {a : Act} {Q : Exit → Act → World → Prop} {u : Value} {e : TypeId} (hgd : o.guard = none) (s x : Operand) (t : TypeId)
    (ho : o.op = .call { callee := .builtin .append, args := #[s, x], argTypes := #[t, t] })
    (i : TypeInfo) (z : Value) (nb : Nat) (ht : P.underlying t = some (.slice e)) (hi : P.info? e = some i) (hz : i.zero = some z) (hsize : i.size = 1) (hby : i.bytes = nb) (hzs : z.cells.size = 1)
    (hs : a.eval s = .slice (some ⟨w.heap.size, 0, none⟩) 1 1) (g n c : Nat) (news : List Value) (hx : a.eval x = .slice (some ⟨g, 0, none⟩) n c) (hcell : ∀ j v, news[j]? = some v → w.cell? ⟨g, j, none⟩ = some v) (hgl : g < w.heap.size) (hn : news.length = n) (h1 : ∀ v ∈ news, v.oneCell' = true)
    (h63 : 1 + n ≤ maxLen) (hbytes : (1 + n) * nb ≤ 140737488355328)
    (h : ∀ v' w', OwnV w' w.heap.size e v' (u :: news) → Below w.heap.size w w' → wpList P ops Q rest (a.put o.dst v') w') :
    wpList P ops Q (o :: rest) a (w.alloc (.cells #[u] e)) := by
  have hE : (w.alloc (.cells #[u] e)).ownsRow w.heap.size e 1 (.slice (some ⟨w.heap.size, 0, none⟩) 1 1) 1 [u] := ⟨by simp, .inr ⟨w.heap.size, 1, #[u], rfl, Nat.le_refl _, heap_alloc_new w _, Nat.le_refl _, by decide, by simp, by simp⟩⟩
  have hb0 : Below w.heap.size w (w.alloc (.cells #[u] e)) := (Below.refl w.heap.size w).alloc (Nat.le_refl _) _
  refine wpList_append_own (w.alloc (.cells #[u] e)) hgd s x t ho w.heap.size e i z 1 nb ht hi hz hsize hby hzs (by decide) _ 1 [u] hs hE ⟨g, 0, none⟩ n c news hx (by rw [hn, Nat.mul_one]) ?_ h1 h63 hbytes (by simp) ?_
  · intro j v hj
    have hadd : (⟨g, 0, none⟩ : Addr).add j = ⟨g, j, none⟩ := by unfold Addr.add; split <;> simp_all
    rw [hadd, hb0.cell (p := ⟨g, j, none⟩) hgl]
    exact hcell j v hj
  · intro v' w' h2 h3 _
    refine h v' w' ?_ (hb0.grown h3 (by simp) (fun k hk => by simp [Value.ownBlock] at hk; omega))
    unfold OwnV
    rw [List.length_cons, hn, Nat.add_comm]
    exact h2
theorem OwnV.cap {w : World} {base g n c : Nat} {e : TypeId} {xs : List Value} (h : OwnV w base e (.slice (some ⟨g, 0, none⟩) n c) xs) : n ≤ c ∧ n = xs.length := by
  rcases h.2 with ⟨h1, _⟩ | ⟨g', cap, cur, h1, _, _, h3, _⟩
  · cases h1
  · simp only [Value.slice.injEq, Option.some.injEq, Addr.mk.injEq] at h1
    obtain ⟨⟨rfl, _⟩, rfl, rfl⟩ := h1
    exact ⟨h3, rfl⟩
theorem two_texts (w : World) (a b : ByteArray) (T : TypeId) : ∀ (j : Nat) x, [a, b][j]? = some x → (w.alloc (.cells #[.string a, .string b] T)).cell? ⟨w.heap.size, 0 + j, none⟩ = some (.string x) := by
  intro j x hx
  rw [Nat.zero_add, cell_of_row _ w.heap.size j _ T (0, 0) (heap_alloc_new w _)]
  match j, hx with
  | 0, h => cases h; rfl
  | 1, h => cases h; rfl
  | j + 2, h => simp at h
theorem Try.infoTx : (Try.prog.info? 9).map (fun i => (i.zero, i.size, i.bytes)) = some (some (.string ⟨#[]⟩), 1, 16) := by kernel_rfl
set_option maxRecDepth 20000 in
set_option maxHeartbeats 400000 in
theorem macParts_any (key : ByteArray) (hkz : key.size ≤ 1048576) (bk c n : Nat) (xs : List ByteArray) (hn : xs.length = n) (T : ByteArray) (hT : T.data.toList = (xs.map (·.data.toList)).flatten) (hTs : T.size ≤ 2000000) (w : World) (hcells : ∀ (j : Nat) x, xs[j]? = some x → w.cell? ⟨bk, j, none⟩ = some (.string x)) (hbk : bk < w.heap.size) (hN : n ≤ 10) :
    Calls Try.prog 35 #[.string key, .slice (some ⟨bk, 0, none⟩) n c] w fun e w' => e = .returned (.string (macB key T)) ∧ Below w.heap.size w w' := by
  have CK := hide (fun W => keyBlock_any key hkz W)
  have M1 := hide (fun W => masked_any (kL (keyB key)) (kL_len _) 54 (by omega) W)
  have M2 := hide (fun W => masked_any (kL (keyB key)) (kL_len _) 92 (by omega) W)
  rw [show (⟨(xorL (kL (keyB key)) 54).toArray⟩ : ByteArray) = maskB key 54 from rfl] at M1
  rw [show (⟨(xorL (kL (keyB key)) 92).toArray⟩ : ByteArray) = maskB key 92 from rfl] at M2
  go_enter Try.func35, Try.ntmps35
  go_wp2_with fail
  refine ((unhide CK) w).mono ?_
  rintro e w1 ⟨rfl, hb1⟩
  have hLl := kL_len (keyB key)
  generalize kL (keyB key) = L at *
  have hi := hide (infob64 L hLl)
  have H8 := hide (show BArr (w1.alloc (.cells #[.int .u8 0, .int .u8 0, .int .u8 0, .int .u8 0, .int .u8 0, .int .u8 0, .int .u8 0, .int .u8 0, .int .u8 0, .int .u8 0, .int .u8 0, .int .u8 0, .int .u8 0, .int .u8 0, .int .u8 0, .int .u8 0, .int .u8 0, .int .u8 0, .int .u8 0, .int .u8 0, .int .u8 0, .int .u8 0, .int .u8 0, .int .u8 0, .int .u8 0, .int .u8 0, .int .u8 0, .int .u8 0, .int .u8 0, .int .u8 0, .int .u8 0, .int .u8 0, .int .u8 0, .int .u8 0, .int .u8 0, .int .u8 0, .int .u8 0, .int .u8 0, .int .u8 0, .int .u8 0, .int .u8 0, .int .u8 0, .int .u8 0, .int .u8 0, .int .u8 0, .int .u8 0, .int .u8 0, .int .u8 0, .int .u8 0, .int .u8 0, .int .u8 0, .int .u8 0, .int .u8 0, .int .u8 0, .int .u8 0, .int .u8 0, .int .u8 0, .int .u8 0, .int .u8 0, .int .u8 0, .int .u8 0, .int .u8 0, .int .u8 0, .int .u8 0] 71)) w1.heap.size 71 zb64 ∧ Below w1.heap.size w1 (w1.alloc (.cells #[.int .u8 0, .int .u8 0, .int .u8 0, .int .u8 0, .int .u8 0, .int .u8 0, .int .u8 0, .int .u8 0, .int .u8 0, .int .u8 0, .int .u8 0, .int .u8 0, .int .u8 0, .int .u8 0, .int .u8 0, .int .u8 0, .int .u8 0, .int .u8 0, .int .u8 0, .int .u8 0, .int .u8 0, .int .u8 0, .int .u8 0, .int .u8 0, .int .u8 0, .int .u8 0, .int .u8 0, .int .u8 0, .int .u8 0, .int .u8 0, .int .u8 0, .int .u8 0, .int .u8 0, .int .u8 0, .int .u8 0, .int .u8 0, .int .u8 0, .int .u8 0, .int .u8 0, .int .u8 0, .int .u8 0, .int .u8 0, .int .u8 0, .int .u8 0, .int .u8 0, .int .u8 0, .int .u8 0, .int .u8 0, .int .u8 0, .int .u8 0, .int .u8 0, .int .u8 0, .int .u8 0, .int .u8 0, .int .u8 0, .int .u8 0, .int .u8 0, .int .u8 0, .int .u8 0, .int .u8 0, .int .u8 0, .int .u8 0, .int .u8 0, .int .u8 0] 71)) from ⟨BArr.new w1 71 zb64, (Below.refl w1.heap.size w1).alloc (Nat.le_refl _) _⟩)
  go_wp2_with (first
    | (refine wpList_store_barr rfl 71 _ _ rfl w1.heap.size _ zb64 rfl rfl 71 (unhide H8).1 (unhide hi) (by rw [hLl]; rfl) ?_; intro w2 hA2 hB2; have hb2 := (unhide H8).2.trans hB2; have hl2 := hA2.lt; replace hA2 := hide hA2)
    | (refine wpList_load_barr rfl 71 _ rfl w1.heap.size rfl 71 _ (unhide hA2) _ _ Try.underlying71 (unhide hi) ?_))
  obtain ⟨i1, hi1, hz0, hz1, hz2⟩ := info_parts Try.infoTx
  refine ((unhide M1) w2).mono ?_
  rintro e w3 ⟨rfl, hb3⟩
  have hA3 := hide ((unhide hA2).below hb3 hl2)
  have hb13 := (hb1.trans (hb2.mono hb1.size)).trans (hb3.mono (by have := hb1.size; have := hb2.size; omega))
  have hc3 : ∀ (j : Nat) v, (xs.map Value.string)[j]? = some v → w3.cell? ⟨bk, j, none⟩ = some v := by
    intro j v hv
    rw [List.getElem?_map] at hv
    cases hx : xs[j]? with
    | none => rw [hx] at hv; cases hv
    | some b => rw [hx] at hv; cases hv; rw [hb13.cell (p := ⟨bk, j, none⟩) hbk]; exact hcells j b hx
  have h1 : ∀ v ∈ xs.map Value.string, v.oneCell' = true := by
    intro v hv
    obtain ⟨x, _, rfl⟩ := List.mem_map.1 hv
    rfl
  have hbk3 : bk < w3.heap.size := Nat.lt_of_lt_of_le hbk hb13.size
  have hl3 := (unhide hA3).lt
  have hs1 := maskB_size key 54
  have hs2 := maskB_size key 92
  have HMac := hide (show macB key T = digB (maskB key 92 ++ digB (maskB key 54 ++ T)) from rfl)
  clear hA2 hb1 hb2 hb3 H8 CK
  generalize maskB key 54 = m1 at *
  generalize maskB key 92 = m2 at *
  have hln : (xs.map Value.string).length = n := by rw [List.length_map]; exact hn
  replace hc3 := hide hc3
  replace hcells := hide hcells
  go_wp2_with (first
    | (at_builtin; refine wpList_onto_vals (w := w3) (u := .string m1) (e := 9) rfl (.tmp 11) (.tmp 12) 70 rfl i1 (.string ⟨#[]⟩) 16 Try.underlying70 hi1 hz0 hz1 hz2 rfl rfl bk n c (xs.map Value.string) rfl (unhide hc3) hbk3 hln h1 (by unfold maxLen; omega) (by omega) ?_; intro v4 w4 hown4 hb4; have hA4 := hide ((unhide hA3).below hb4 hl3); replace hown4 := hide hown4)
    | (refine wpList_load_barr rfl 71 _ rfl w1.heap.size rfl 71 _ (unhide hA4) _ _ Try.underlying71 (unhide hi) ?_))
  refine ((unhide M2) w4).mono ?_
  rintro e w5 ⟨rfl, hb5⟩
  have hown5 := (unhide hown4).below hb5
  obtain ⟨a4, c4, hv4⟩ := hown5.shape
  subst hv4
  obtain ⟨g4, rfl, _, hg4⟩ := hown5.some_at (by simp)
  have hcap4 := hown5.cap.1
  have hlx : (Value.string m1 :: xs.map Value.string).length = n + 1 := by rw [List.length_cons, hln]
  have hc5 : ∀ (j : Nat) x, (m1 :: xs)[j]? = some x → w5.cell? ⟨g4, 0 + j, none⟩ = some (.string x) := by
    intro j x hx
    rw [Nat.zero_add]
    exact hown5.cell (by rw [show Value.string m1 :: xs.map Value.string = (m1 :: xs).map Value.string from rfl, List.getElem?_map, hx]; rfl)
  rw [hlx] at hcap4
  have hT1 : (m1 ++ T).data.toList = ((m1 :: xs).map (·.data.toList)).flatten := by
    rw [ByteArray.data_append, Array.toList_append, hT]; rfl
  have D1 := hide (digParts_any g4 0 c4 (n + 1) (m1 :: xs) (by rw [List.length_cons, hn]) (m1 ++ T) hT1 (by rw [ByteArray.size_append]; omega) w5 hc5 hg4 hcap4 (by omega))
  have hb15 := (hb13.trans (hb4.mono hb13.size)).trans (hb5.mono (by have := hb13.size; have := hb4.size; omega))
  have hd1 : (digB (m1 ++ T)).size = 32 := digB_len _
  rw [hlx]
  clear hown4 hown5 hc5 hT1 hb13 hb4 hb5 hA3 hA4 hc3 hcells h1 M1 M2 hcap4
  generalize digB (m1 ++ T) = d1 at *
  have D2 := hide (fun W => digParts_any W.heap.size 0 2 2 [m2, d1] rfl (m2 ++ d1) (by rw [ByteArray.data_append, Array.toList_append]; simp) (by rw [ByteArray.size_append]; omega) (W.alloc (.cells #[.string m2, .string d1] 9)) (two_texts W m2 d1 9) (by simp) (by omega) (by omega))
  generalize digB (m2 ++ d1) = d2 at *
  go_wp2_with fail
  refine (unhide D1).mono ?_
  rintro e w6 ⟨rfl, hb6⟩
  have hb16 := hb15.trans (hb6.mono hb15.size)
  clear hb15 hb6
  go_wp2_with fail
  refine ((unhide D2) w6).mono ?_
  rintro e w7 ⟨rfl, hb7⟩
  have hb67 : Below w6.heap.size w6 w7 := ((Below.refl w6.heap.size w6).alloc (Nat.le_refl _) _).trans (hb7.mono (by simp))
  have hb17 := hb16.trans (hb67.mono hb16.size)
  clear hb16 hb7 hb67
  go_wp2
  go_ret
  exact ⟨by rw [unhide HMac]; rfl, hb17⟩
end Go.Proofs.Ytinnaajkdkfnaab

