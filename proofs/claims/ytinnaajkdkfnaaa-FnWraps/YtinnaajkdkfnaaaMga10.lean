/- Merged: LoI6. -/
import Derived.Test.YtinnaajkdkfnaaaMga1
import Derived.Test.YtinnaajkdkfnaaaMga2
import Derived.Test.YtinnaajkdkfnaaaMga3
import Derived.Test.YtinnaajkdkfnaaaMga4
import Derived.Test.YtinnaajkdkfnaaaMga5
import Derived.Test.YtinnaajkdkfnaaaMga6
import Derived.Test.YtinnaajkdkfnaaaMga7
import Derived.Test.YtinnaajkdkfnaaaMga8
import Derived.Test.YtinnaajkdkfnaaaMga9
/- Texts that are wrapped and unwrapped by the project's own functions, over the loaded program. -/
namespace Go.Proofs.Ytinnaajkdkfnaaa
open Go.RowKit
theorem ext_l9 (F : ByteArray) (a b : Nat) : (F.extract a b).data.toList = (F.data.toList.drop a).take (b - a) := by
  rw [ByteArray.data_extract, Array.toList_extract, List.extract_eq_take_drop]
theorem ext_b9 {A B : ByteArray} (h : A.data.toList = B.data.toList) : A = B := ByteArray.ext (Array.toList_inj.1 h)
theorem rep_zero (c : Nat) : (⟨(Lib.repeatL (⟨#[0]⟩ : ByteArray).data.toList c).toArray⟩ : ByteArray) = ⟨(List.replicate c 0).toArray⟩ := by
  have := Lib.repeatL_replicate 0 1 c
  rw [Nat.mul_one] at this
  exact congrArg (fun l => (⟨l.toArray⟩ : ByteArray)) this
/-- A text was wrapped so where what is behind it fills the last unit. -/
theorem un_alt {key t : ByteArray} {n j : Nat} (ho : opOk key 0 t = true) (h : rvRun (opB key 0 t) 0 0 1 0 = some (n, j)) (hn : n ≤ (opB key 0 t).size - j) (h4 : n ≤ 400) :
    wrB key ((opB key 0 t).extract j (j + n)) = t ↔ (opB key 0 t).extract (j + n) (opB key 0 t).size = ⟨(List.replicate (zrN (j + n)) 0).toArray⟩ := by
  obtain ⟨_, h2, _, _, h5⟩ := rvRun_own (Nat.zero_le _) h
  obtain ⟨hlo, hback⟩ := lo_op ho
  generalize opB key 0 t = F at *
  obtain ⟨s, hs⟩ : ∃ s, s = F.extract j (j + n) := ⟨_, rfl⟩
  have hsz : s.size = n := by rw [hs, ByteArray.size_extract]; omega
  have hsl : s.data.toList = (F.data.toList.drop j).take n := by rw [hs, ext_l9, Nat.add_sub_cancel_left]
  have hFl : F.data.toList.length = F.size := rfl
  rw [List.drop_zero, Nat.sub_zero] at h5
  have hvl : (varB n).length = j := by rw [h5, List.length_take]; omega
  have hpd : pdL s = F.data.toList.take (j + n) := by
    unfold pdL
    rw [hsz, hsl, h5, ← List.take_add]
  have hpl : (pdL s).length = j + n := by rw [pdL_len, hsz, hvl]
  have hok : wrOk s = true := decide_eq_true (by omega)
  have hw : wrB key s = loB key 0 (pdB s) := by unfold wrB; rw [if_pos hok]
  have hpb : (pdB s).data.toList = F.data.toList.take (j + n) ++ List.replicate (zrN (j + n)) 0 := by
    show pdL s ++ List.replicate (zrN (pdL s).length) 0 = _
    rw [hpl, hpd]
  rw [← hs, hw]
  constructor
  · intro e
    have e2 := (op_lo (key := key) (pd_lo hok)).2
    have e3 : F = pdB s := by
      have e4 := (op_lo (key := key) hlo).2
      rw [hback] at e4
      rw [e] at e2
      rw [← e4, e2]
    apply ext_b9
    rw [ext_l9]
    show _ = List.replicate (zrN (j + n)) 0
    have e5 : F.data.toList = F.data.toList.take (j + n) ++ List.replicate (zrN (j + n)) 0 := (congrArg (fun x => x.data.toList) e3).trans hpb
    have e6 : F.data.toList.drop (j + n) = List.replicate (zrN (j + n)) 0 := by
      have := List.take_append_drop (j + n) F.data.toList
      rw [e5] at this
      have h9 := List.append_cancel_left (this.trans (by rw [← e5]; exact e5))
      rw [← e5] at h9
      exact h9
    rw [e6]
    apply List.take_of_length_le
    rw [← e6, List.length_drop]
    omega
  · intro e
    have e1 : F.data.toList.drop (j + n) = List.replicate (zrN (j + n)) 0 := by
      have := congrArg (fun x => x.data.toList) e
      simp only [ext_l9] at this
      rw [List.take_of_length_le (by rw [List.length_drop]; omega)] at this
      exact this
    have e2 : pdB s = F := by
      apply ext_b9
      rw [hpb, ← e1, List.take_append_drop]
    rw [e2, hback]
set_option maxRecDepth 20000 in
set_option maxHeartbeats 400000 in
theorem filling_any (n : Nat) (hn : n ≤ 2000000) (w : World) :
    Calls Try.prog 43 #[.int .i64 (n : Int)] w fun e w' => e = .returned (.string ⟨(List.replicate (zrN n) 0).toArray⟩) ∧ Below w.heap.size w w' := by
  obtain ⟨r, hr⟩ : ∃ r : Nat, r = n % 16 := ⟨_, rfl⟩
  obtain ⟨k, hk⟩ : ∃ k : Nat, k = 16 - r := ⟨_, rfl⟩
  have hz : zrN n = k % 16 := by unfold zrN; rw [hk, hr]
  obtain ⟨q, hq⟩ : ∃ q : Nat, q = k % 16 := ⟨_, rfl⟩
  rw [← hq] at hz
  have C := hide (fun W => Try.strings_Repeat ⟨#[0]⟩ q W (by omega) (by show 1 * q ≤ _; omega))
  rw [rep_zero, ← hz] at C
  have hl : zrN n = q := hz
  have t1 : ((n : Int)).tmod 16 = (r : Int) := by rw [Int.tmod_eq_emod_of_nonneg (by omega)]; omega
  have t2 : ((n : Int)) % 16 = (r : Int) := by omega
  have t3 : (16 : Int) - (r : Int) = (k : Int) := by omega
  have t4 : IntKind.i64.wrap (k : Int) = (k : Int) := by rw [IntKind.wrap_i64]; omega
  have t5 : ((k : Int)).tmod 16 = (q : Int) := by rw [Int.tmod_eq_emod_of_nonneg (by omega)]; omega
  have t6 : ((k : Int)) % 16 = (q : Int) := by omega
  have t7 : IntKind.i64.wrap (r : Int) = (r : Int) := by rw [IntKind.wrap_i64]; omega
  have t8 : IntKind.i64.wrap (q : Int) = (q : Int) := by rw [IntKind.wrap_i64]; omega
  generalize (⟨(List.replicate (zrN n) 0).toArray⟩ : ByteArray) = out at *
  rw [hl] at C
  clear hz hr hk hq hl
  go_enter Try.func43, Try.ntmps43
  go_wp2_with fail
  refine (unhide C w).mono ?_
  rintro e w1 ⟨rfl, hb1⟩
  clear C
  go_wp2
  go_ret
  exact ⟨rfl, hb1⟩
set_option maxRecDepth 20000 in
set_option maxHeartbeats 400000 in
theorem implShort_any (s : ByteArray) (hs : s.size ≤ 400) (w : World) :
    Calls Try.prog 42 #[.string s] w fun e w' => e = .returned (.tuple #[.string (vaT s.size ++ s), .bool true]) ∧ Below w.heap.size w w' := by
  have CV := hide (fun W => (show Calls Try.prog 52 #[.int .i64 (s.size : Int)] W fun e w' => e = .returned (.tuple #[.string (vaT s.size), .bool true]) ∧ Below W.heap.size W w' from implVar_yes s.size W (by omega)))
  have hz := vaT_size (n := s.size) (by omega)
  have h1 : ¬ (20000 : Int) < (s.size : Int) := by omega
  generalize vaT s.size = vt at *
  have h2 : ¬ 9223372036854775807 < vt.size + s.size := by omega
  have h3 : vt.size + s.size ≤ 9223372036854775807 := by omega
  go_enter Try.func42, Try.ntmps42
  go_wp2_with fail
  refine (unhide CV w).mono ?_
  rintro e w1 ⟨rfl, hb1⟩
  clear CV
  go_wp2
  refine bodyPost_ret (v := .tuple #[.string (vt ++ s), .bool true]) (by simp [results, Try.results42, go_sem]) rfl ⟨rfl, hb1⟩
set_option maxRecDepth 20000 in
set_option maxHeartbeats 400000 in
theorem implWrap_any (key : ByteArray) (hk : key.size ≤ 1048576) (s : ByteArray) (w : World) :
    Calls Try.prog 19 #[.string key, .string s] w fun e w' => e = .returned (.tuple #[.string (wrB key s), .bool (wrOk s)]) ∧ Below w.heap.size w w' := by
  by_cases h : s.size ≤ 400
  · have ho : wrOk s = true := decide_eq_true h
    have EW : wrB key s = loB key 0 (pdB s) := by unfold wrB; rw [if_pos ho]
    have hps : (vaT s.size ++ s).data.toList = pdL s := by rw [ByteArray.data_append, Array.toList_append]; rfl
    have hpz : (vaT s.size ++ s).size = (pdL s).length := congrArg List.length hps
    have hpb : vaT s.size ++ s ++ ⟨(List.replicate (zrN (vaT s.size ++ s).size) 0).toArray⟩ = pdB s := by
      apply ext_b9
      rw [ByteArray.data_append, Array.toList_append, hps, hpz]
      rfl
    have hz5 := vaT_size (n := s.size) (by omega)
    have hz6 : (vaT s.size ++ s).size ≤ 405 := by rw [ByteArray.size_append]; omega
    have C1 := hide (fun W => implShort_any s h W)
    have C2 := hide (fun W => filling_any (vaT s.size ++ s).size (by omega) W)
    have hzz : (⟨(List.replicate (zrN (vaT s.size ++ s).size) 0).toArray⟩ : ByteArray).size ≤ 15 := by
      show (List.replicate (zrN (vaT s.size ++ s).size) (0 : UInt8)).toArray.size ≤ 15
      rw [List.size_toArray, List.length_replicate]
      unfold zrN
      omega
    have C3 := hide (fun W => implLock_any key hk 0 (pdB s) (by have := pdB_le ho; omega) W)
    rw [pd_lo ho, ← EW, ← hpb] at C3
    rw [ho]
    have h' : ¬ (400 : Int) < (s.size : Int) := by omega
    generalize wrB key s = out at *
    generalize (⟨(List.replicate (zrN (vaT s.size ++ s).size) 0).toArray⟩ : ByteArray) = zs at *
    generalize vaT s.size ++ s = sh at *
    have h2 : ¬ 9223372036854775807 < sh.size + zs.size := by omega
    have h3 : sh.size + zs.size ≤ 9223372036854775807 := by omega
    clear hps hpz hpb EW ho
    replace h := hide h
    go_enter Try.func19, Try.ntmps19
    go_wp2_with fail
    refine (unhide C1 w).mono ?_
    rintro e w1 ⟨rfl, hb1⟩
    go_wp2_with fail
    refine (unhide C2 w1).mono ?_
    rintro e w2 ⟨rfl, hb2⟩
    go_wp2_with fail
    refine (unhide C3 w2).mono ?_
    rintro e w3 ⟨rfl, hb3⟩
    have hb12 := hb1.trans (hb2.mono hb1.size)
    have hb := hb12.trans (hb3.mono hb12.size)
    clear C1 C2 C3 hb1 hb2 hb3 hb12
    go_wp2
    refine bodyPost_ret (v := .tuple #[.string out, .bool true]) (by simp [results, Try.results19, go_sem]) rfl ⟨rfl, hb⟩
  · have ho : wrOk s = false := decide_eq_false h
    have EW : wrB key s = ⟨#[]⟩ := by unfold wrB; rw [ho]; rfl
    rw [EW, ho]
    have h' : (400 : Int) < (s.size : Int) := by omega
    clear EW ho
    go_enter Try.func19, Try.ntmps19
    go_wp2
    refine bodyPost_ret (v := .tuple #[.string ⟨#[]⟩, .bool false]) (by simp [results, Try.results19, go_sem]) rfl ⟨rfl, Below.refl _ _⟩
set_option maxRecDepth 20000 in
set_option maxHeartbeats 400000 in
theorem unwrap_shut (key t : ByteArray) (w : World) (CO : ∀ W : World, Calls Try.prog 33 #[.agg #[.string key, .int .i64 0], .string t] W fun e w' => e = wrongE ∧ Below W.heap.size W w') :
    Calls Try.prog 44 #[.agg #[.string key, .int .i64 0], .string t] w fun e w' => e = wrongE ∧ Below w.heap.size w w' := by
  replace CO := hide CO
  go_enter Try.func44, Try.ntmps44
  go_wp2_with fail
  obtain ⟨W, hW, hR, hB, hs1⟩ := one_cb w #[.string key, .int .i64 0] 46
  rw [hW]
  clear hW
  refine (unhide CO W).mono ?_
  rintro e w1 ⟨rfl, hb1⟩
  have hb := hB.trans (hb1.mono hB.size)
  clear CO hb1 hB hR
  unfold wrongE
  go_wp2
  exact ⟨rfl, rfl, hb⟩
set_option maxRecDepth 20000 in
set_option maxHeartbeats 800000 in
theorem unwrap_bad (key t F x : ByteArray) (p : Int) (ok : Bool) (hbad : ok = false ∨ (ok = true ∧ ¬ (x.size : Int) ≤ 400)) (w : World) (CO : ∀ W : World, Calls Try.prog 33 #[.agg #[.string key, .int .i64 0], .string t] W fun e w' => e = .returned (.string F) ∧ Below W.heap.size W w')
    (CR : ∀ W : World, Calls Try.prog 64 #[.string F, .int .i64 0] W fun e w' => e = .returned (.tuple #[.string x, .int .i64 p, .bool ok]) ∧ Below W.heap.size W w') :
    Calls Try.prog 44 #[.agg #[.string key, .int .i64 0], .string t] w fun e w' => e = wrongE ∧ Below w.heap.size w w' := by
  replace CO := hide CO
  replace CR := hide CR
  have CN0 := hide (fun W => need_no key 0 W)
  rcases hbad with rfl | ⟨rfl, hx⟩
  all_goals
    go_enter Try.func44, Try.ntmps44
    go_wp2_with fail
    obtain ⟨W, hW, hR, hB, hs1⟩ := one_cb w #[.string key, .int .i64 0] 46
    rw [hW]
    clear hW
    refine (unhide CO W).mono ?_
    rintro e w1 ⟨rfl, hb1⟩
    have hB1 := hB.trans (hb1.mono hB.size)
    have hR1 := hR.step hb1
    clear CO hb1 hB hR
    go_wp2_with fail
    refine (unhide CR w1).mono ?_
    rintro e w2 ⟨rfl, hb2⟩
    have hB2 := hB1.trans (hb2.mono hB1.size)
    have hR2 := hR1.step hb2
    have r0 := hR2.cell 0 (v := .string key) rfl
    have r1 := hR2.cell 1 (v := .int .i64 0) rfl
    clear CR hb2 hB1 hR1
    go_wp2_with fail
    try simp only [show decide ((x.size : Int) ≤ 400) = false from decide_eq_false (by omega)]
    refine (unhide CN0 w2).mono ?_
    rintro e w3 ⟨rfl, hb3⟩
    have hb := hB2.trans (hb3.mono hB2.size)
    clear CN0 hb3 hB2 hR2 r0 r1
    unfold wrongE
    go_wp2
    exact ⟨rfl, rfl, hb⟩
set_option maxRecDepth 20000 in
set_option maxHeartbeats 1600000 in
theorem unwrap_good (key t F x : ByteArray) (p : Nat) (hp : p ≤ F.size) (hF : F.size ≤ 1048576) (hx : (x.size : Int) ≤ 400) (ok : Bool) (hok : ok = decide (F.extract p F.size = ⟨(List.replicate (zrN p) 0).toArray⟩)) (w : World) (CO : ∀ W : World, Calls Try.prog 33 #[.agg #[.string key, .int .i64 0], .string t] W fun e w' => e = .returned (.string F) ∧ Below W.heap.size W w')
    (CR : ∀ W : World, Calls Try.prog 64 #[.string F, .int .i64 0] W fun e w' => e = .returned (.tuple #[.string x, .int .i64 (p : Int), .bool true]) ∧ Below W.heap.size W w') :
    Calls Try.prog 44 #[.agg #[.string key, .int .i64 0], .string t] w fun e w' => e = (if ok = true then .returned (.string x) else wrongE) ∧ Below w.heap.size w w' := by
  replace CO := hide CO
  replace CR := hide CR
  have CN0 := hide (fun W => need_no key 0 W)
  have CN1 := hide (fun W => need_yes key 0 W)
  have CF := hide (fun W => filling_any p (by omega) W)
  have hp0 : (0 : Int) ≤ (p : Int) := by omega
  have hpF : (p : Int) ≤ (F.size : Int) := by omega
  rw [← text_same] at hok
  generalize (⟨(List.replicate (zrN p) 0).toArray⟩ : ByteArray) = zs at *
  have hmin : min p F.size = p := Nat.min_eq_left hp
  go_enter Try.func44, Try.ntmps44
  go_wp2_with fail
  obtain ⟨W, hW, hR, hB, hs1⟩ := one_cb w #[.string key, .int .i64 0] 46
  rw [hW]
  clear hW
  refine (unhide CO W).mono ?_
  rintro e w1 ⟨rfl, hb1⟩
  have hB1 := hB.trans (hb1.mono hB.size)
  have hR1 := hR.step hb1
  clear CO hb1 hB hR
  go_wp2_with fail
  refine (unhide CR w1).mono ?_
  rintro e w2 ⟨rfl, hb2⟩
  have hB2 := hB1.trans (hb2.mono hB1.size)
  have hR2 := hR1.step hb2
  have s0 := hR2.cell 0 (v := .string key) rfl
  have s1 := hR2.cell 1 (v := .int .i64 0) rfl
  clear CR hb2 hB1 hR1
  go_wp2_with fail
  clear s0 s1
  refine (unhide CN1 w2).mono ?_
  rintro e w3 ⟨rfl, hb3⟩
  have hB3 := hB2.trans (hb3.mono hB2.size)
  have hR3 := hR2.step hb3
  have hl := hR3.lt
  have r0 := hR3.cell 0 (v := .string key) rfl
  have r1 := hR3.cell 1 (v := .int .i64 0) rfl
  clear hb3 hB2 hR2
  have KS := hide (fun (W : World) (h : Below w3.heap.size w3 W) => (⟨(h.cell (p := ⟨w.heap.size, 0, none⟩) hl).trans r0, (h.cell (p := ⟨w.heap.size, 1, none⟩) hl).trans r1⟩ : W.cell? ⟨w.heap.size, 0, none⟩ = some (.string key) ∧ W.cell? ⟨w.heap.size, 1, none⟩ = some (.int .i64 0)))
  go_wp2_with fail
  cases ok with
  | true =>
    have hok' := hok.symm
    clear hok
    go_region_held3 (fun W => W.cell? ⟨w.heap.size, 0, none⟩ = some (.string key) ∧ W.cell? ⟨w.heap.size, 1, none⟩ = some (.int .i64 0)) (first | exact ⟨r0, r1⟩ | exact unhide KS _ K2 | exact unhide KS _ K1 | fail) (first
      | (go_at_call 43; refine (unhide CF _).mono ?_; rintro e wA ⟨rfl, hbA⟩; have K1 := (Below.refl w3.heap.size w3).drew.trans hbA)
      | (go_at_call 57; refine (unhide CN1 _).mono ?_; rintro e wC ⟨rfl, hbC⟩; have K2 := K1.trans (hbC.mono K1.size))
      | fail)
    all_goals
      have hb := hB3.trans (K2.mono hB3.size)
      clear hbA hbC K1 K2 KS r0 r1 CF CN0 CN1
      go_wp2
      go_ret
      exact ⟨rfl, hb⟩
  | false =>
    have hok' := hok.symm
    clear hok
    refine wp_region_held_drew (S := (fun W => W.cell? ⟨w.heap.size, 0, none⟩ = some (.string key) ∧ W.cell? ⟨w.heap.size, 1, none⟩ = some (.int .i64 0))) (by kernel_rfl) ⟨r0, r1⟩ (fun hHeld => ?_)
    refine wpAnyH_take (i := 0) (v := ?_) rfl (by kernel_rfl) (by kernel_rfl) (by kernel_rfl) (fun _ _ _ h => h) (Or.inl ⟨by rfl, ?_⟩) (by assumption) ?_
    rotate_left
    · intro W9 hSw
      obtain ⟨e0, e1⟩ := hSw
      go_simp
      all_goals with_reducible rfl
    refine wpAnyH_take (i := 1) (v := ?_) rfl (by kernel_rfl) (by kernel_rfl) (by kernel_rfl) (fun _ _ _ h => h) (Or.inl ⟨by rfl, ?_⟩) (by assumption) ?_
    rotate_left
    · intro W9 hSw
      obtain ⟨e0, e1⟩ := hSw
      go_simp
      all_goals with_reducible rfl
    refine wpAnyH_take (i := 2) (v := ?_) rfl (by kernel_rfl) (by kernel_rfl) (by kernel_rfl) (fun _ _ _ h => h) (Or.inl ⟨by rfl, ?_⟩) (by assumption) ?_
    rotate_left
    · intro W9 hSw
      obtain ⟨e0, e1⟩ := hSw
      go_simp
      all_goals with_reducible rfl
    refine wpAnyH_take (i := 3) (v := ?_) rfl (by kernel_rfl) (by kernel_rfl) (by kernel_rfl) (fun _ _ _ h => h) (Or.inl ⟨by rfl, ?_⟩) (by assumption) ?_
    rotate_left
    · intro W9 hSw
      obtain ⟨e0, e1⟩ := hSw
      go_simp
      all_goals with_reducible rfl
    refine wpAnyH_take (i := 4) (v := ?_) rfl (by kernel_rfl) (by kernel_rfl) (by kernel_rfl) (fun _ _ _ h => h) (Or.inl ⟨by rfl, ?_⟩) (by assumption) ?_
    rotate_left
    · intro W9 hSw
      obtain ⟨e0, e1⟩ := hSw
      go_simp
      all_goals with_reducible rfl
    refine wpAnyH_ready (rs := [5]) (by kernel_rfl) (by simp) ?_
    refine AllReadyH.cons rfl (fun K hK => ?_) AllReadyH.nil
    go_simp
    go_at_call 43
    refine (unhide CF _).mono ?_
    rintro e wA ⟨rfl, hbA⟩
    have KA := (Below.refl w3.heap.size w3).drew.trans hbA
    go_wp2_with fail
    refine hK.out _ _ (unhide KS _ KA) (fun hHeld => ?_)
    clear hK K
    refine wpAnyH_take (i := 6) (v := ?_) rfl (by kernel_rfl) (by kernel_rfl) (by kernel_rfl) (fun _ _ _ h => h) (Or.inl ⟨by rfl, ?_⟩) (by assumption) ?_
    rotate_left
    · intro W9 hSw
      obtain ⟨e0, e1⟩ := hSw
      go_simp
      all_goals with_reducible rfl
    refine wpAnyH_ready (rs := [7]) (by kernel_rfl) (by simp) ?_
    refine AllReadyH.cons rfl (fun K hK => ?_) AllReadyH.nil
    go_simp
    go_at_call 57
    refine (unhide CN0 _).mono ?_
    rintro e wC ⟨rfl, hbC⟩
    have KC := KA.trans (hbC.mono KA.size)
    unfold wrongE
    exact ⟨rfl, rfl, hB3.trans (KC.mono hB3.size)⟩
/-- A reader finds what was wrapped, and panics where nothing was. -/
theorem unwrap_any (key : ByteArray) (hk : key.size ≤ 1048576) (t : ByteArray) (ht : t.size ≤ 1048576) (w : World) :
    Calls Try.prog 44 #[.agg #[.string key, .int .i64 0], .string t] w fun e w' => e = (if unOk key t = true then .returned (.string (unB key t)) else wrongE) ∧ Below w.heap.size w w' := by
  have CO := fun W => open_any key hk 0 t ht W
  have hle := opB_le key 0 t
  cases ho : opOk key 0 t with
  | false =>
    have hun : unOk key t = false := by
      unfold unOk unTry
      rw [ho]
      split
      · rfl
      · rw [if_neg (fun h => Bool.false_ne_true h.1)]
        rfl
    rw [hun, if_neg Bool.false_ne_true]
    refine unwrap_shut key t w fun W => ?_
    have := CO W
    rw [ho, if_neg Bool.false_ne_true] at this
    exact this
  | true =>
    rw [ho] at CO
    replace CO := fun W => (show Calls Try.prog 33 #[.agg #[.string key, .int .i64 0], .string t] W fun e w' => e = .returned (.string (opB key 0 t)) ∧ Below W.heap.size W w' from CO W)
    have hbel : ∀ (W : World) (v : Value), (Calls Try.prog 74 #[.string (opB key 0 t), .int .i64 ((0 : Nat) : Int)] W fun e w' => e = .returned v ∧ w' = W) → Calls Try.prog 74 #[.string (opB key 0 t), .int .i64 ((0 : Nat) : Int)] W fun e w' => e = .returned v ∧ Below W.heap.size W w' := fun W v h => h.mono fun e w' ⟨h1, h2⟩ => ⟨h1, h2 ▸ Below.refl _ _⟩
    have CV := fun W => hbel W _ (implReadVar_yes (opB key 0 t) 0 W (by unfold maxLen; omega) (Nat.zero_le _))
    have hF : (opB key 0 t).size ≤ 1048576 := by omega
    cases hr : rvRun (opB key 0 t) 0 0 1 0 with
    | none =>
      obtain ⟨h1, _⟩ := un_none hr
      rw [h1, if_neg Bool.false_ne_true]
      rw [hr] at CV
      exact unwrap_bad key t (opB key 0 t) _ _ false (.inl rfl) w CO fun W => implRS_none (opB key 0 t) ((0 : Nat) : Int) W (hide CV)
    | some y =>
      obtain ⟨n, j⟩ := y
      obtain ⟨hj, hn⟩ := rvRun_some (s := opB key 0 t) (a := 0) _ 0 1 0 n j (Nat.le_refl _) hr
      rw [hr] at CV
      by_cases hb : (20000 : Int) < (n : Int) ∨ ((opB key 0 t).size : Int) - (j : Int) < (n : Int)
      · obtain ⟨h1, _⟩ := un_some hr (fun hc => by
          have h3 : ((opB key 0 t).extract j (j + n)).size ≤ 400 := of_decide_eq_true hc.2.2.1
          rw [ByteArray.size_extract] at h3
          have := hc.2.1
          omega)
        rw [h1, if_neg Bool.false_ne_true]
        exact unwrap_bad key t (opB key 0 t) _ _ false (.inl rfl) w CO fun W => implRS_bad (opB key 0 t) ((0 : Nat) : Int) n j W (hide CV) hF hj hn hb
      · have CR := fun W => implRS_good (opB key 0 t) ((0 : Nat) : Int) n j W (hide CV) hF (by omega) (by omega)
        have hxs : ((opB key 0 t).extract j (j + n)).size = n := by rw [ByteArray.size_extract]; omega
        by_cases h4 : n ≤ 400
        · have halt := un_alt ho hr (by omega) h4
          refine (unwrap_good key t (opB key 0 t) ((opB key 0 t).extract j (j + n)) (j + n) (by omega) hF (by rw [hxs]; omega) _ rfl w CO CR).mono ?_
          rintro e w' ⟨rfl, hb'⟩
          refine ⟨?_, hb'⟩
          by_cases hc : (opB key 0 t).extract (j + n) (opB key 0 t).size = ⟨(List.replicate (zrN (j + n)) 0).toArray⟩
          · obtain ⟨h1, h2⟩ := un_yes hr ⟨ho, by omega, decide_eq_true (by rw [hxs]; exact h4), halt.2 hc⟩
            rw [decide_eq_true hc, h1, h2]
          · obtain ⟨h1, _⟩ := un_some hr (fun h => hc (halt.1 h.2.2.2))
            rw [decide_eq_false hc, h1]
            rfl
        · obtain ⟨h1, _⟩ := un_some hr (fun hc => by
            have h3 : ((opB key 0 t).extract j (j + n)).size ≤ 400 := of_decide_eq_true hc.2.2.1
            omega)
          rw [h1, if_neg Bool.false_ne_true]
          exact unwrap_bad key t (opB key 0 t) _ _ true (.inr ⟨rfl, by rw [hxs]; omega⟩) w CO CR
set_option maxRecDepth 20000 in
set_option maxHeartbeats 400000 in
theorem implUnwrap_any (key : ByteArray) (hk : key.size ≤ 1048576) (t : ByteArray) (ht : t.size ≤ 1048576) (w : World) :
    Calls Try.prog 20 #[.string key, .string t] w fun e w' => e = .returned (.tuple #[.string (unB key t), .bool (unOk key t)]) ∧ Below w.heap.size w w' := by
  have hmf : ∀ (fn : Fn) (first cap : Array Value) (w : World), (Instr.makeFunc fn first cap).run Try.prog w = .ok (.func fn first cap) w := fun _ _ _ _ => rfl
  have C := hide (fun W => found_unwrap key 0 t (unB key t) (unOk key t) W (fun W' => unwrap_any key hk t ht W'))
  rw [show (if unOk key t = true then unB key t else ⟨#[]⟩) = unB key t by split; rfl; next h => unfold unB; unfold unOk at h; cases hu : unTry key t with | none => rfl | some x => rw [hu] at h; exact absurd rfl h] at C
  generalize unB key t = out at *
  generalize unOk key t = ok at *
  go_enter Try.func20, Try.ntmps20
  go_wp2_with fail
  refine (unhide C w).mono ?_
  rintro e w1 ⟨rfl, hb1⟩
  clear C
  go_wp2
  refine bodyPost_ret (v := .tuple #[.string out, .bool ok]) (by simp [results, Try.results20, go_sem]) rfl ⟨rfl, hb1⟩
end Go.Proofs.Ytinnaajkdkfnaaa

