/- The project's things: how they are read, over the loaded program. -/
import Derived.Test.YtjhjoaihdpahhaaThI2
import Derived.Test.YtjhjoaihdpahhaaReadShort
import Derived.Deep.RegionHeld3
namespace Go.Proofs.Ytjhjoaihdpahhaa
open Go.RowKit
set_option linter.unusedVariables false
theorem tT9 {a b c : World} {r : Option Nat} (h : a.grownBy b r) (k : b.grownBy c r) : a.grownBy c r := ⟨k.os.trans h.os, k.tape.trans h.tape, k.output.trans h.output, Nat.le_trans h.size k.size, fun q hq hr => (k.block q (Nat.lt_of_lt_of_le hq h.size) hr).trans (h.block q hq hr)⟩
theorem cb_drew9 {w : World} {g : Nat} {T : TypeId} {cs : Array Value} (h : CB w g T cs) : CB w.drew g T cs := h
theorem cb_eq99 {w : World} {g : Nat} {T : TypeId} {cs cs' : Array Value} (h : CB w g T cs) (e : cs' = cs) : CB w g T cs' := by rw [e]; exact h
theorem gR99 (w : World) (r : Option Nat) : w.grownBy w r := ⟨rfl, rfl, rfl, Nat.le_refl _, fun _ _ _ => rfl⟩
theorem gSet99 {a b : World} {g : Nat} (h : a.grownBy b (some g)) (k : Nat) (u : Value) : a.grownBy (b.setCell ⟨g, k, none⟩ u) (some g) := tT9 h (tS0 b g k u)
/-- What is read at a place, by the project: a number and where it ends, both 0 where none is. -/
def rvN (t : ByteArray) (p : Nat) : Nat × Nat := match rvRun t p p 1 0 with | none => (0, 0) | some x => x
def rsN (t : ByteArray) (p : Nat) : ByteArray × Nat := match rvRun t p p 1 0 with | none => (⟨#[]⟩, 0) | some x => if 20000 < x.1 ∨ t.size - x.2 < x.1 then (⟨#[]⟩, 0) else (t.extract x.2 (x.2 + x.1), x.2 + x.1)
def inX (t : ByteArray) : Th :=
  if t.size < (rvN t 0).2 + 2 then thZ else
  ⟨((rvN t 0).1 : Int), (byA9 t (rvN t 0).2 : Int), decide (byA9 t ((rvN t 0).2 + 1) % 2 = 1), decide (byA9 t ((rvN t 0).2 + 1) / 2 % 2 = 1), decide (byA9 t ((rvN t 0).2 + 1) / 4 % 2 = 1), decide (byA9 t ((rvN t 0).2 + 1) / 8 % 2 = 1), (rsN t ((rvN t 0).2 + 2)).1, ((rvN t (rsN t ((rvN t 0).2 + 2)).2).1 : Int)⟩
theorem rvN_le (t : ByteArray) (p : Nat) (hp : p ≤ t.size) : (rvN t p).2 ≤ t.size ∧ (rvN t p).1 ≤ 1000000000 := by
  unfold rvN
  split
  · exact ⟨Nat.zero_le _, Nat.zero_le _⟩
  · rename_i x hx
    exact rvRun_some _ _ _ _ _ _ (Nat.le_refl _) hx
theorem rsN_le (t : ByteArray) (p : Nat) (hp : p ≤ t.size) : (rsN t p).2 ≤ t.size := by
  unfold rsN
  split
  · exact Nat.zero_le _
  · rename_i x hx
    have := (rvRun_some _ _ _ _ _ _ (Nat.le_refl _) hx).1
    split
    · exact Nat.zero_le _
    · show x.2 + x.1 ≤ t.size
      omega
theorem rsN_size (t : ByteArray) (p : Nat) : (rsN t p).1.size ≤ t.size := by
  unfold rsN
  split
  · exact Nat.zero_le _
  · split
    · exact Nat.zero_le _
    · show (t.extract _ _).size ≤ _
      rw [ByteArray.size_extract]; omega
theorem byA9_at {t : ByteArray} {a : Nat} {b : UInt8} {l : List UInt8} (h : t.data.toList.drop a = b :: l) : byA9 t a = b.toNat := by
  obtain ⟨hi, hb, _⟩ := drop_head h
  unfold byA9
  have : t.data.getD a 0 = t[a] := by
    show t.data.getD a 0 = t.data[a]
    simp [Array.getD, hi]
  rw [this, hb]
theorem byA9_is {t : ByteArray} {a : Nat} (h : a < t.size) : (t[a]'h).toNat = byA9 t a := by
  unfold byA9
  have : t.data.getD a 0 = t[a] := by
    show t.data.getD a 0 = t.data[a]
    simp [Array.getD, h]
  rw [this]
theorem rvN_at {t : ByteArray} {a n : Nat} {rest : List UInt8} (h : t.data.toList.drop a = varB n ++ rest) (hn : n ≤ 1000000000) : rvN t a = (n, a + (varB n).length) ∧ t.data.toList.drop (a + (varB n).length) = rest := by
  constructor
  · unfold rvN
    rw [read_var t a n rest h hn]
  · rw [← List.drop_drop, h, List.drop_left]
theorem rsN_at {t : ByteArray} {a : Nat} {s : ByteArray} {rest : List UInt8} (h : t.data.toList.drop a = varB s.size ++ (s.data.toList ++ rest)) (hs : s.size ≤ 20000) : rsN t a = (s, a + (varB s.size).length + s.size) ∧ t.data.toList.drop (a + (varB s.size).length + s.size) = rest := by
  have hd : t.data.toList.drop (a + (varB s.size).length) = s.data.toList ++ rest := by rw [← List.drop_drop, h, List.drop_left]
  have hl : t.size - (a + (varB s.size).length) = s.size + rest.length := by
    have e := congrArg List.length hd
    rw [List.length_drop, List.length_append] at e
    exact e
  have hsz : s.data.toList.length = s.size := rfl
  constructor
  · unfold rsN
    rw [read_var t a s.size _ h (by omega)]
    show (if 20000 < s.size ∨ t.size - (a + (varB s.size).length) < s.size then _ else _) = _
    rw [if_neg (by omega)]
    refine Prod.ext ?_ rfl
    show t.extract _ _ = s
    apply ByteArray.ext
    apply Array.toList_inj.1
    have e : (t.extract (a + (varB s.size).length) (a + (varB s.size).length + s.size)).data.toList = (t.data.toList.drop (a + (varB s.size).length)).take (a + (varB s.size).length + s.size - (a + (varB s.size).length)) := by rw [ByteArray.data_extract]; simp
    rw [e, hd, show a + (varB s.size).length + s.size - (a + (varB s.size).length) = s.data.toList.length by omega, List.take_left]
  · rw [← List.drop_drop, hd, ← hsz, List.drop_left]
/-- What is written of a right thing is taken in so. -/
theorem inX_thT {x : Th} (h : ThOk x) : inX (thT x) = x := by
  obtain ⟨i1, i2, k1, k2, n1, n2, _, _, hv3, hv2⟩ := h
  have hvz : x.val.size ≤ 100 := by
    by_cases e : x.kind = 3
    · exact hv3 e
    · have := hv2 e; omega
  have hf := fl_lt x
  have h0 : (thT x).data.toList.drop 0 = varB x.id.toNat ++ (byteOf x.kind.toNat :: byteOf (fl x) :: (varB x.val.size ++ (x.val.data.toList ++ varB x.nxt.toNat))) := rfl
  obtain ⟨e1, h1⟩ := rvN_at h0 (by omega)
  have e2 := byA9_at h1
  have h2 : (thT x).data.toList.drop (0 + (varB x.id.toNat).length + 1) = byteOf (fl x) :: (varB x.val.size ++ (x.val.data.toList ++ varB x.nxt.toNat)) := by rw [← List.drop_drop, h1]; rfl
  have e3 := byA9_at h2
  have h3 : (thT x).data.toList.drop (0 + (varB x.id.toNat).length + 2) = varB x.val.size ++ (x.val.data.toList ++ varB x.nxt.toNat) := by
    rw [show 0 + (varB x.id.toNat).length + 2 = 0 + (varB x.id.toNat).length + 1 + 1 by omega, ← List.drop_drop, h2]; rfl
  obtain ⟨e4, h4⟩ := rsN_at h3 (by omega)
  have h4' : (thT x).data.toList.drop (0 + (varB x.id.toNat).length + 2 + (varB x.val.size).length + x.val.size) = varB x.nxt.toNat ++ [] := by rw [List.append_nil]; exact h4
  obtain ⟨e5, _⟩ := rvN_at h4' (by omega)
  have hsz : ¬ (thT x).size < 0 + (varB x.id.toNat).length + 2 := by
    have e := congrArg List.length h0
    rw [List.length_drop] at e
    have : (thT x).data.toList.length = (thT x).size := rfl
    simp only [List.length_append, List.length_cons] at e
    omega
  have hkb : (byteOf x.kind.toNat).toNat = x.kind.toNat := byteOf_toNat (by omega)
  have hfb : (byteOf (fl x)).toNat = fl x := byteOf_toNat (by omega)
  unfold inX
  simp only [e1]
  rw [if_neg hsz]
  simp only [e2, e3, e4, e5, hkb, hfb]
  obtain ⟨b1, b2, b3, b4⟩ := fl_bits x
  rw [b1, b2, b3, b4]
  have hi : ((x.id.toNat : Nat) : Int) = x.id := by omega
  have hk : ((x.kind.toNat : Nat) : Int) = x.kind := by omega
  have hn : ((x.nxt.toNat : Nat) : Int) = x.nxt := by omega
  rw [hi, hk, hn]
theorem in_rd (t : ByteArray) : (thOk (inX t) = true ∧ thT (inX t) = t → rdOk t = true ∧ rdTh t = inX t) ∧ (¬ (thOk (inX t) = true ∧ thT (inX t) = t) → rdOk t = false ∧ rdTh t = thZ) := by
  constructor
  · rintro ⟨h1, h2⟩
    have h := rd_thT h1
    rw [h2] at h
    exact h
  · intro h
    have hn : rdOk t = false := by
      cases e : rdOk t with
      | false => rfl
      | true =>
        obtain ⟨h1, h2⟩ := rd_right e
        exfalso
        apply h
        have h3 := inX_thT ((thOk_iff _).1 h1)
        rw [h2] at h3
        rw [h3]
        exact ⟨h1, h2⟩
    exact ⟨hn, rdTh_no hn⟩
theorem has_bit (f : Nat) (hf : f < 256) : (bits .and .u8 (f : Int) 1 == 0) = !decide (f % 2 = 1) ∧ (bits .and .u8 (f : Int) 2 == 0) = !decide (f / 2 % 2 = 1) ∧ (bits .and .u8 (f : Int) 4 == 0) = !decide (f / 4 % 2 = 1) ∧ (bits .and .u8 (f : Int) 8 == 0) = !decide (f / 8 % 2 = 1) := by
  have h : ∀ f : Nat, f < 256 → (bits .and .u8 (f : Int) 1 == 0) = !decide (f % 2 = 1) ∧ (bits .and .u8 (f : Int) 2 == 0) = !decide (f / 2 % 2 = 1) ∧ (bits .and .u8 (f : Int) 4 == 0) = !decide (f / 4 % 2 = 1) ∧ (bits .and .u8 (f : Int) 8 == 0) = !decide (f / 8 % 2 = 1) := by decide +kernel
  exact h f hf
set_option maxRecDepth 20000 in
theorem has_any (f n : Int) (r : Bool) (h : (bits .and .u8 f n == 0) = !r) (w : World) :
    Calls Try.prog 34 #[.int .u8 f, .int .u8 n] w fun e w' => e = .returned (.bool r) ∧ w' = w := by
  generalize hb : bits .and .u8 f n = b at *
  have h' : (!(b == 0)) = r := by rw [h]; simp
  go_enter Try.func34, Try.ntmps34
  go_wp2
  go_ret
  exact ⟨by rw [← h']; rfl, rfl⟩
theorem readV_any (t : ByteArray) (ht : t.size ≤ 1048576) (p : Nat) (hp : p ≤ t.size) (w : World) :
    Calls Try.prog 32 #[.string t, .int .i64 (p : Int)] w fun e w' => (∃ b : Bool, e = .returned (.tuple #[.int .i64 ((rvN t p).1 : Int), .int .i64 ((rvN t p).2 : Int), .bool b])) ∧ w' = w := by
  refine (implReadVar_yes t p w (by unfold maxLen; omega) hp).mono ?_
  rintro e w1 ⟨rfl, rfl⟩
  refine ⟨?_, rfl⟩
  unfold rvN
  cases rvRun t p p 1 0 with
  | none => exact ⟨false, rfl⟩
  | some x => exact ⟨true, rfl⟩
theorem readS_any (t : ByteArray) (ht : t.size ≤ 1048576) (p : Nat) (hp : p ≤ t.size) (w : World) :
    Calls Try.prog 33 #[.string t, .int .i64 (p : Int)] w fun e w' => (∃ b : Bool, e = .returned (.tuple #[.string (rsN t p).1, .int .i64 ((rsN t p).2 : Int), .bool b])) ∧ Below w.heap.size w w' := by
  have C : ∀ W, Calls Try.prog 32 #[.string t, .int .i64 (p : Int)] W fun e w' => e = .returned (rvTup (rvRun t p p 1 0)) ∧ Below W.heap.size W w' := fun W => by
    refine (implReadVar_yes t p W (by unfold maxLen; omega) hp).mono ?_
    rintro e w1 ⟨rfl, rfl⟩
    exact ⟨rfl, Below.refl _ _⟩
  unfold rsN
  cases hx : rvRun t p p 1 0 with
  | none =>
    rw [hx] at C
    refine (implRS_none t p w (hide C)).mono ?_
    rintro e w1 ⟨rfl, hb⟩
    exact ⟨⟨false, rfl⟩, hb⟩
  | some x =>
    obtain ⟨n, j⟩ := x
    rw [hx] at C
    obtain ⟨hj, hn⟩ := rvRun_some _ _ _ _ _ _ (Nat.le_refl _) hx
    show Calls _ _ _ _ fun e w' => (∃ b : Bool, e = .returned (.tuple #[.string (if 20000 < n ∨ t.size - j < n then ((⟨#[]⟩, 0) : ByteArray × Nat) else (t.extract j (j + n), j + n)).1, .int .i64 (((if 20000 < n ∨ t.size - j < n then ((⟨#[]⟩, 0) : ByteArray × Nat) else (t.extract j (j + n), j + n)).2 : Nat) : Int), .bool b])) ∧ _
    by_cases hb : 20000 < n ∨ t.size - j < n
    · rw [if_pos hb]
      refine (implRS_bad t p n j w (hide C) ht hj hn (by omega)).mono ?_
      rintro e w1 ⟨rfl, hb⟩
      exact ⟨⟨false, rfl⟩, hb⟩
    · rw [if_neg hb]
      refine (implRS_good t p n j w (hide C) ht (by omega) (by omega)).mono ?_
      rintro e w1 ⟨rfl, hb⟩
      exact ⟨⟨true, rfl⟩, hb⟩
set_option maxRecDepth 20000 in
set_option maxHeartbeats 4000000 in
theorem thingIn_any (t : ByteArray) (ht : t.size ≤ 1048576) (w : World) :
    Calls Try.prog 28 #[.string t] w fun e w' => e = .returned (.agg (thC (inX t))) ∧ Below w.heap.size w w' := by
  have CA := hide (fun W => readV_any t ht 0 (Nat.zero_le _) W)
  have LA := (rvN_le t 0 (Nat.zero_le _)).1
  have HE : inX t = if t.size < (rvN t 0).2 + 2 then thZ else ⟨((rvN t 0).1 : Int), (byA9 t (rvN t 0).2 : Int), decide (byA9 t ((rvN t 0).2 + 1) % 2 = 1), decide (byA9 t ((rvN t 0).2 + 1) / 2 % 2 = 1), decide (byA9 t ((rvN t 0).2 + 1) / 4 % 2 = 1), decide (byA9 t ((rvN t 0).2 + 1) / 8 % 2 = 1), (rsN t ((rvN t 0).2 + 2)).1, ((rvN t (rsN t ((rvN t 0).2 + 2)).2).1 : Int)⟩ := rfl
  rw [HE]
  clear HE
  rcases hv : rvN t 0 with ⟨n1, ka⟩
  rw [hv] at CA LA
  simp only at CA LA ⊢
  clear hv
  obtain ⟨va, hva⟩ : ∃ va : Nat, va = ka + 2 := ⟨_, rfl⟩
  have uva : IntKind.i64.wrap ((ka : Int) + 2) = (va : Int) := by rw [IntKind.wrap_i64]; omega
  by_cases hlt : t.size < va
  · rw [if_pos (by omega)]
    have hlt' : (t.size : Int) < (va : Int) := by omega
    go_enter Try.func28, Try.ntmps28
    go_wp2_with fail
    obtain ⟨W, hW, hR, hB, hs1⟩ := one_cb w #[.int .i64 0, .int .i64 0, .bool false, .bool false, .bool false, .bool false, .string ⟨#[]⟩, .int .i64 0] 26
    rw [hW]
    clear hW
    refine (unhide CA W).mono ?_
    rintro e w1 ⟨⟨b, rfl⟩, rfl⟩
    clear CA
    have hR' : CB w1 w.heap.size 26 (thC thZ) := hR
    go_wp2_with (refine wpList_store_row rfl 26 (.tmp 2) (.tmp 26) rfl w.heap.size (thC thZ) rfl rfl 26 (thC thZ) hR' (th_size thZ) rfl (th_one thZ) ?_)
    have hR2 := setRow_heap _ w.heap.size _ (thC thZ) 26 (0, 0) hR'
    have hB2 := Go.below_setRow hB (Nat.le_refl _) (thC thZ)
    exact bodyPost_ret (results_cb (by exact Try.results28) _ _ w.heap.size 26 (thC thZ) _ rfl hR2 Try.underlying26 (th_size thZ)) rfl ⟨rfl, hB2⟩
  · rw [if_neg (by omega), show ka + 2 = va by omega]
    have hlt' : ¬ (t.size : Int) < (va : Int) := by omega
    have CS := hide (fun W => readS_any t ht va (by omega) W)
    have LS := rsN_le t va (by omega)
    rcases hs : rsN t va with ⟨sv, na⟩
    rw [hs] at CS LS
    simp only at CS LS ⊢
    clear hs
    have CN := hide (fun W => readV_any t ht na LS W)
    generalize (rvN t na).1 = n5 at *
    generalize (rvN t na).2 = ea at *
    obtain ⟨fa, hfa⟩ : ∃ fa : Nat, fa = ka + 1 := ⟨_, rfl⟩
    rw [show ka + 1 = fa by omega]
    have ufa : IntKind.i64.wrap ((ka : Int) + 1) = (fa : Int) := by rw [IntKind.wrap_i64]; omega
    have h1 : fa < t.size := by omega
    have h2 : ka < t.size := by omega
    have b1 := byA9_is h1
    have b2 := byA9_is h2
    have l1 : byA9 t fa < 256 := by rw [← b1]; exact UInt8.toNat_lt _
    have l2 : byA9 t ka < 256 := by rw [← b2]; exact UInt8.toNat_lt _
    generalize byA9 t fa = f at *
    generalize byA9 t ka = k at *
    obtain ⟨q1, q2, q4, q8⟩ := has_bit f l1
    have C1 := hide (fun W => has_any (f : Int) 1 _ q1 W)
    have C2 := hide (fun W => has_any (f : Int) 2 _ q2 W)
    have C4 := hide (fun W => has_any (f : Int) 4 _ q4 W)
    have C8 := hide (fun W => has_any (f : Int) 8 _ q8 W)
    clear q1 q2 q4 q8
    generalize decide (f % 2 = 1) = f1 at *
    generalize decide (f / 2 % 2 = 1) = f2 at *
    generalize decide (f / 4 % 2 = 1) = f4 at *
    generalize decide (f / 8 % 2 = 1) = f8 at *
    have g1 : (fa : Int) < (t.size : Int) := by omega
    have g2 : (ka : Int) < (t.size : Int) := by omega
    have hLt : t.size < 9223372036854775807 := by omega
    have uk : IntKind.i64.wrap (k : Int) = (k : Int) := by rw [IntKind.wrap_i64]; omega
    replace hva := hide hva; replace hfa := hide hfa
    go_enter Try.func28, Try.ntmps28
    go_wp2_with fail
    obtain ⟨W, hW, hR, hB, hs1⟩ := one_cb w #[.int .i64 0, .int .i64 0, .bool false, .bool false, .bool false, .bool false, .string ⟨#[]⟩, .int .i64 0] 26
    rw [hW]
    clear hW
    refine (unhide CA W).mono ?_
    rintro e w1 ⟨⟨b, rfl⟩, rfl⟩
    clear CA
    go_wp2_with fail
    refine (unhide CS w1).mono ?_
    rintro e w2 ⟨⟨b', rfl⟩, hb2⟩
    have hB2 := hB.trans (hb2.mono hB.size)
    have hR2 := hR.step hb2
    clear CS hb2 hB hR
    go_wp2_with fail
    refine (unhide CN w2).mono ?_
    rintro e w3 ⟨⟨b'', rfl⟩, rfl⟩
    clear CN
    replace hB2 := hide hB2; replace hR2 := hide hR2
    go_wp2
    --REGION
    have HT0 := (Below.refl w3.heap.size w3).drew
    refine wp_region_held_drew (S := fun _ => True) (by kernel_rfl) trivial (fun hHeld => ?_)
    refine wpAnyH_take (i := 0) (v := .int .i64 (n1 : Int)) rfl (by kernel_rfl) (by kernel_rfl) (by kernel_rfl) (fun _ _ _ h => h) (Or.inl ⟨by kernel_rfl, fun W hS => by go_simp⟩) hHeld ?_
    refine wpAnyH_take (i := 1) (v := .string t) rfl (by kernel_rfl) (by kernel_rfl) (by kernel_rfl) (fun _ _ _ h => h) (Or.inl ⟨by kernel_rfl, fun W hS => by go_simp⟩) hHeld ?_
    refine wpAnyH_take (i := 2) (v := .int .i64 (ka : Int)) rfl (by kernel_rfl) (by kernel_rfl) (by kernel_rfl) (fun _ _ _ h => h) (Or.inl ⟨by kernel_rfl, fun W hS => by go_simp⟩) hHeld ?_
    refine wpAnyH_take (i := 3) (v := .int .u8 (k : Int)) rfl (by kernel_rfl) (by kernel_rfl) (by kernel_rfl) (fun _ _ _ h => h) (Or.inl ⟨by kernel_rfl, fun W hS => by go_simp⟩) hHeld ?_
    refine wpAnyH_take (i := 4) (v := .int .i64 (k : Int)) rfl (by kernel_rfl) (by kernel_rfl) (by kernel_rfl) (fun _ _ _ h => h) (Or.inl ⟨by kernel_rfl, fun W hS => by go_simp⟩) hHeld ?_
    refine wpAnyH_take (i := 5) (v := .int .u8 (f : Int)) rfl (by kernel_rfl) (by kernel_rfl) (by kernel_rfl) (fun _ _ _ h => h) (Or.inl ⟨by kernel_rfl, fun W hS => by go_simp⟩) hHeld ?_
    refine wpAnyH_take (i := 7) (v := .int .u8 (f : Int)) rfl (by kernel_rfl) (by kernel_rfl) (by kernel_rfl) (fun _ _ _ h => h) (Or.inl ⟨by kernel_rfl, fun W hS => by go_simp⟩) hHeld ?_
    refine wpAnyH_take (i := 9) (v := .int .u8 (f : Int)) rfl (by kernel_rfl) (by kernel_rfl) (by kernel_rfl) (fun _ _ _ h => h) (Or.inl ⟨by kernel_rfl, fun W hS => by go_simp⟩) hHeld ?_
    refine wpAnyH_take (i := 11) (v := .int .u8 (f : Int)) rfl (by kernel_rfl) (by kernel_rfl) (by kernel_rfl) (fun _ _ _ h => h) (Or.inl ⟨by kernel_rfl, fun W hS => by go_simp⟩) hHeld ?_
    refine wpAnyH_take (i := 13) (v := .string sv) rfl (by kernel_rfl) (by kernel_rfl) (by kernel_rfl) (fun _ _ _ h => h) (Or.inl ⟨by kernel_rfl, fun W hS => by go_simp⟩) hHeld ?_
    refine wpAnyH_take (i := 14) (v := .int .i64 (n5 : Int)) rfl (by kernel_rfl) (by kernel_rfl) (by kernel_rfl) (fun _ _ _ h => h) (Or.inl ⟨by kernel_rfl, fun W hS => by go_simp⟩) hHeld ?_
    refine wpAnyH_ready (rs := [6]) (by kernel_rfl) (by simp) ?_
    refine AllReadyH.cons rfl (fun K hK => ?_) AllReadyH.nil
    go_simp
    refine (unhide C1 _).mono ?_
    rintro e x0 ⟨rfl, hx0⟩
    subst hx0
    refine hK.out _ _ trivial (fun hHeld => ?_)
    clear hK K C1
    refine wpAnyH_ready (rs := [8]) (by kernel_rfl) (by simp) ?_
    refine AllReadyH.cons rfl (fun K hK => ?_) AllReadyH.nil
    go_simp
    refine (unhide C2 _).mono ?_
    rintro e x1 ⟨rfl, hx1⟩
    subst hx1
    refine hK.out _ _ trivial (fun hHeld => ?_)
    clear hK K C2
    refine wpAnyH_ready (rs := [10]) (by kernel_rfl) (by simp) ?_
    refine AllReadyH.cons rfl (fun K hK => ?_) AllReadyH.nil
    go_simp
    refine (unhide C4 _).mono ?_
    rintro e x2 ⟨rfl, hx2⟩
    subst hx2
    refine hK.out _ _ trivial (fun hHeld => ?_)
    clear hK K C4
    refine wpAnyH_ready (rs := [12]) (by kernel_rfl) (by simp) ?_
    refine AllReadyH.cons rfl (fun K hK => ?_) AllReadyH.nil
    go_simp
    refine (unhide C8 _).mono ?_
    rintro e x3 ⟨rfl, hx3⟩
    subst hx3
    refine hK.out _ _ trivial (fun hHeld => ?_)
    clear hK K C8
    refine wpAnyH_take (i := 15) (v := .agg #[.int .i64 (n1 : Int), .int .i64 (k : Int), .bool f1, .bool f2, .bool f4, .bool f8, .string sv, .int .i64 (n5 : Int)]) rfl (by kernel_rfl) (by kernel_rfl) (by kernel_rfl) (fun _ _ _ h => h) (Or.inl ⟨by kernel_rfl, fun W hS => by go_simp⟩) hHeld ?_
    have hR4 := unhide hR2
    have r0 := hR4.cell 0 (v := .int .i64 0) rfl
    have z0 := hR4.frozen 0
    have r1 := hR4.cell 1 (v := .int .i64 0) rfl
    have z1 := hR4.frozen 1
    have r2 := hR4.cell 2 (v := .bool false) rfl
    have z2 := hR4.frozen 2
    have r3 := hR4.cell 3 (v := .bool false) rfl
    have z3 := hR4.frozen 3
    have r4 := hR4.cell 4 (v := .bool false) rfl
    have z4 := hR4.frozen 4
    have r5 := hR4.cell 5 (v := .bool false) rfl
    have z5 := hR4.frozen 5
    have r6 := hR4.cell 6 (v := .string ⟨#[]⟩) rfl
    have z6 := hR4.frozen 6
    have r7 := hR4.cell 7 (v := .int .i64 0) rfl
    have z7 := hR4.frozen 7
    have G9 := (gSet99 (gSet99 (gSet99 (gSet99 (gSet99 (gSet99 (gSet99 (gSet99 (gR99 w3 (some w.heap.size)) 0 (.int .i64 (n1 : Int))) 1 (.int .i64 (k : Int))) 2 (.bool f1)) 3 (.bool f2)) 4 (.bool f4)) 5 (.bool f8)) 6 (.string sv)) 7 (.int .i64 (n5 : Int)))
    refine wpAnyH_ready (rs := [16]) (by kernel_rfl) (by simp) ?_
    refine AllReadyH.cons rfl (fun K hK => ?_) AllReadyH.nil
    go_simp
    refine hK.out _ _ trivial (fun hHeld => ?_)
    clear hK K r0 r1 r2 r3 r4 r5 r6 r7 z0 z1 z2 z3 z4 z5 z6 z7
    refine wpAnyH_done (by kernel_rfl) ?_ _
    try simp only [Act.put, List.getElem_toArray, List.getElem_cons_zero, List.getElem_cons_succ, List.setIfInBounds_toArray, List.set_cons_zero, List.set_cons_succ]
    have hF := hide ((((((((hR4.set 0 (.int .i64 (n1 : Int))).set 1 (.int .i64 (k : Int))).set 2 (.bool f1)).set 3 (.bool f2)).set 4 (.bool f4)).set 5 (.bool f8)).set 6 (.string sv)).set 7 (.int .i64 (n5 : Int)))
    have T5 := unhide hB2
    have T9 := hide ((T5.grown G9 T5.size (fun k hk => by cases hk; exact Nat.le_refl _)).drew)
    clear HT0 hR4 G9 T5 hR2 hB2
    go_wp2
    have hX := cb_eq99 (cs' := thC ⟨(n1 : Int), (k : Int), f1, f2, f4, f8, sv, (n5 : Int)⟩) (cb_drew9 (unhide hF)) rfl
    have T10 := unhide T9
    clear hF T9
    revert hX T10
    generalize World.drew _ = WW
    intro hX T10
    have hsz := th_size ⟨(n1 : Int), (k : Int), f1, f2, f4, f8, sv, (n5 : Int)⟩
    generalize thC ⟨(n1 : Int), (k : Int), f1, f2, f4, f8, sv, (n5 : Int)⟩ = cc at *
    exact bodyPost_ret (results_cb (by exact Try.results28) _ _ w.heap.size 26 cc _ rfl hX Try.underlying26 hsz) rfl ⟨rfl, T10⟩
    --ENDR
end Go.Proofs.Ytjhjoaihdpahhaa
