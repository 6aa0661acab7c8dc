/- Merged: Thg2, Thg3, Thg4, Bok0, Rwn, ThgH, Bok1, Bok2, Bok3. -/
import Derived.Test.YtkbbcjnickgfjaaMgReadRec1
import Derived.Test.YtkbbcjnickgfjaaMgReadRec2
import Derived.Test.YtkbbcjnickgfjaaMgReadRec3
import Derived.Test.YtkbbcjnickgfjaaMgReadRec4
import Derived.Laws.CopyOwn
import Derived.Deep.DeepCutAuto
/- Things by the given model: flags, texts, over the loaded program. -/
namespace Go.Proofs.Ytkbbcjnickgfjaa
open Go.RowKit
def flI (b : Bool) (n : Int) : Int := if b then n else 0
theorem flI_cast (b : Bool) (n : Nat) : flI b (n : Int) = ((flB b n : Nat) : Int) := by cases b <;> rfl
theorem varB_len9 {n : Nat} (h : n ≤ 1048576) : (varB n).length ≤ 3 := by
  by_cases h1 : n ≤ 127
  · rw [varB_small h1]; simp
  · rw [varB_big h1, List.length_cons]
    have := varB_two9 (n := n / 128) (by omega)
    omega
theorem l19Flag_any (b : Bool) (n : Int) (w : World) :
    Calls Try.prog 62 #[.bool b, .int .i64 n] w fun e w' => e = .returned (.int .i64 (flI b n)) ∧ w' = w := by
  cases b with
  | true =>
    go_enter Try.func62, Try.ntmps62
    go_wp2
    go_ret
    exact ⟨rfl, rfl⟩
  | false =>
    go_enter Try.func62, Try.ntmps62
    go_wp2
    go_ret
    exact ⟨rfl, rfl⟩
def shB (s : ByteArray) : ByteArray := ⟨(varB s.size).toArray⟩ ++ s
set_option maxRecDepth 20000 in
theorem l19Short_any (s : ByteArray) (hs : s.size ≤ 1048576) (w : World) :
    Calls Try.prog 64 #[.string s] w fun e w' => e = .returned (.string (shB s)) ∧ Below w.heap.size w w' := by
  have C := hide (fun W => l01Var_any s.size W (by omega))
  have hv : (⟨(varB s.size).toArray⟩ : ByteArray).size ≤ 10 := by
    show (varB s.size).toArray.size ≤ 10
    rw [List.size_toArray]
    have := varB_len9 (n := s.size) (by omega)
    omega
  have E := hide (show shB s = ⟨(varB s.size).toArray⟩ ++ s from rfl)
  rw [unhide E]
  generalize (⟨(varB s.size).toArray⟩ : ByteArray) = v at *
  go_enter Try.func64, Try.ntmps64
  go_wp2_with fail
  refine (unhide C w).mono ?_
  rintro e w1 ⟨rfl, hb1⟩
  go_wp2
  go_ret
  exact ⟨rfl, hb1⟩
theorem oneY_size9 (z : Int) : (oneY z).size = 1 := rfl
theorem arr_app (a b : List UInt8) : (⟨a.toArray⟩ ++ ⟨b.toArray⟩ : ByteArray) = ⟨(a ++ b).toArray⟩ := by
  apply ByteArray.ext
  rw [ByteArray.data_append]
  simp
theorem oneY_by (n : Nat) (h : n < 256) : oneY (n : Int) = ⟨[byteOf n].toArray⟩ := by
  unfold oneY
  rw [show b256 (n : Int) = n by unfold b256; omega]
  rfl
theorem thT_is {x : Th} (h : ThOk x) : thT x = ⟨(varB x.id.toNat).toArray⟩ ++ oneY x.kind ++ oneY ((fl x : Nat) : Int) ++ shB x.val ++ ⟨(varB x.nxt.toNat).toArray⟩ := by
  have hk : x.kind = ((x.kind.toNat : Nat) : Int) := by omega
  have hf := fl_lt x
  rw [oneY_by (fl x) (by omega), hk, oneY_by x.kind.toNat (by omega)]
  unfold shB thT thL
  rw [show x.val = ⟨x.val.data.toList.toArray⟩ by simp]
  simp only [arr_app]
  simp
def ttB (x : Th) : ByteArray := if thOk x = true then thT x else ⟨#[]⟩
set_option maxRecDepth 20000 in
set_option maxHeartbeats 4000000 in
theorem specThingText_any (x : Th) (w : World) :
    Calls Try.prog 30 #[.agg (thC x)] w fun e w' => e = .returned (.tuple #[.string (ttB x), .bool (thOk x)]) ∧ Below w.heap.size w w' := by
  have CO := hide (fun W => specThingOk_any x W)
  cases hok : thOk x with
  | false =>
    have E : ttB x = ⟨#[]⟩ := by unfold ttB; rw [if_neg (by rw [hok]; simp)]
    rw [E]
    rw [hok] at CO
    clear hok E
    obtain ⟨id, kind, hid, fix, sgn, wrp, val, nxt⟩ := x
    unfold thC at CO ⊢
    obtain ⟨W, hW, hC, hb, hlt⟩ := one_cb w #[.int .i64 id, .int .i64 kind, .bool hid, .bool fix, .bool sgn, .bool wrp, .string val, .int .i64 nxt] 25
    have c0 := hC.cell 0 rfl
    have c1 := hC.cell 1 rfl
    have c2 := hC.cell 2 rfl
    have c3 := hC.cell 3 rfl
    have c4 := hC.cell 4 rfl
    have c5 := hC.cell 5 rfl
    have c6 := hC.cell 6 rfl
    have c7 := hC.cell 7 rfl
    clear hC
    go_enter Try.func30, Try.ntmps30
    go_wp2_with fail
    refine (unhide CO W).mono ?_
    rintro e w1 ⟨rfl, hb1⟩
    have hT := hb.trans (hb1.mono hb.size)
    clear c0 c1 c2 c3 c4 c5 c6 c7
    go_wp2
    go_ret2
    exact ⟨rfl, hT⟩
  | true =>
    have E : ttB x = thT x := by unfold ttB; rw [if_pos hok]
    have hO := (thOk_iff x).1 hok
    rw [E, thT_is hO]
    rw [hok] at CO
    have hfl : ((fl x : Nat) : Int) = flI x.hid 1 + flI x.fix 2 + flI x.sgn 4 + flI x.wrp 8 := by
      obtain ⟨_, _, h, f, s, ww, _, _⟩ := x
      cases h <;> cases f <;> cases s <;> cases ww <;> rfl
    have hvz : x.val.size ≤ 100 := by
      obtain ⟨i1, i2, k1, k2, n1, n2, _, _, hv3, hv2⟩ := hO
      by_cases e : x.kind = 3
      · exact hv3 e
      · have := hv2 e; omega
    have hi0 : x.id = ((x.id.toNat : Nat) : Int) := by omega
    have hn0 : x.nxt = ((x.nxt.toNat : Nat) : Int) := by omega
    have V1 := hide (fun W => l01Var_any x.id.toNat W (by omega))
    have V2 := hide (fun W => l01Var_any x.nxt.toNat W (by omega))
    have CS := hide (fun W => l19Short_any x.val (by omega) W)
    have CY := hide (fun z W => specByteY_any z W)
    have CF := hide (fun b n W => l19Flag_any b n W)
    have z1 : (⟨(varB x.id.toNat).toArray⟩ : ByteArray).size ≤ 3 := by
      show (varB x.id.toNat).toArray.size ≤ 3
      rw [List.size_toArray]; exact varB_len9 (by omega)
    have z2 : (⟨(varB x.nxt.toNat).toArray⟩ : ByteArray).size ≤ 3 := by
      show (varB x.nxt.toNat).toArray.size ≤ 3
      rw [List.size_toArray]; exact varB_len9 (by omega)
    have z3 : (shB x.val).size ≤ 200 := by
      have : (⟨(varB x.val.size).toArray⟩ : ByteArray).size ≤ 3 := by
        show (varB x.val.size).toArray.size ≤ 3
        rw [List.size_toArray]; exact varB_len9 (by omega)
      unfold shB
      rw [ByteArray.size_append]; omega
    have z4 := oneY_size9
    rw [← hi0] at V1
    rw [← hn0] at V2
    rw [hfl]
    have fb : ∀ b n, (0 : Int) ≤ n → 0 ≤ flI b n ∧ flI b n ≤ n := fun b n h => by cases b <;> simp [flI, h]
    have fb1 := fb x.hid 1 (by omega)
    have fb2 := fb x.fix 2 (by omega)
    have fb4 := fb x.sgn 4 (by omega)
    have fb8 := fb x.wrp 8 (by omega)
    clear hok E hO hfl hvz hi0 hn0 fb
    obtain ⟨id, kind, hid, fix, sgn, wrp, val, nxt⟩ := x
    unfold thC at CO ⊢
    simp only at V1 V2 CS z1 z2 z3 fb1 fb2 fb4 fb8 ⊢
    generalize (⟨(varB id.toNat).toArray⟩ : ByteArray) = t1 at *
    generalize (⟨(varB nxt.toNat).toArray⟩ : ByteArray) = t2 at *
    generalize shB val = t3 at *
    generalize hf1 : flI hid 1 = f1 at *
    generalize hf2 : flI fix 2 = f2 at *
    generalize hf4 : flI sgn 4 = f4 at *
    generalize hf8 : flI wrp 8 = f8 at *
    obtain ⟨g1, hg⟩ : ∃ g, g = f1 + f2 := ⟨_, rfl⟩
    obtain ⟨g2, hg2⟩ : ∃ g, g = g1 + f4 := ⟨_, rfl⟩
    obtain ⟨g3, hg3⟩ : ∃ g, g = g2 + f8 := ⟨_, rfl⟩
    have u1 : IntKind.i64.wrap (f1 + f2) = g1 := by rw [IntKind.wrap_i64]; omega
    have u2 : IntKind.i64.wrap (g1 + f4) = g2 := by rw [IntKind.wrap_i64]; omega
    have u3 : IntKind.i64.wrap (g2 + f8) = g3 := by rw [IntKind.wrap_i64]; omega
    rw [show f1 + f2 + f4 + f8 = g3 by omega]
    have zk := oneY_size9 kind
    have zg := oneY_size9 g3
    have y1 := hide (fun W => unhide CY kind W)
    have y2 := hide (fun W => unhide CY g3 W)
    obtain ⟨R, hR⟩ : ∃ R, R = t1 ++ oneY kind ++ oneY g3 ++ t3 ++ t2 := ⟨_, rfl⟩
    rw [← hR]
    generalize oneY kind = yk at *
    generalize oneY g3 = yg at *
    have zk' : yk.size ≤ 1 := by omega
    have zg' : yg.size ≤ 1 := by omega
    have s1 : ∀ W : World, (Op.stringOp .add t1 yk).run Try.prog W = .ok (.string (t1 ++ yk)) W := fun W => run_string_add_sum W _ _ (by omega)
    have s2 : ∀ W : World, (Op.stringOp .add (t1 ++ yk) yg).run Try.prog W = .ok (.string (t1 ++ yk ++ yg)) W := fun W => run_string_add_sum W _ _ (by rw [ByteArray.size_append]; omega)
    have s3 : ∀ W : World, (Op.stringOp .add (t1 ++ yk ++ yg) t3).run Try.prog W = .ok (.string (t1 ++ yk ++ yg ++ t3)) W := fun W => run_string_add_sum W _ _ (by rw [ByteArray.size_append, ByteArray.size_append]; omega)
    have s4 : ∀ W : World, (Op.stringOp .add (t1 ++ yk ++ yg ++ t3) t2).run Try.prog W = .ok (.string (t1 ++ yk ++ yg ++ t3 ++ t2)) W := fun W => run_string_add_sum W _ _ (by rw [ByteArray.size_append, ByteArray.size_append, ByteArray.size_append]; omega)
    replace zk := hide zk; replace zg := hide zg; replace hR := hide hR; replace CY := hide CY; clear z4 CY
    have q1 := hide (fun W => unhide CF hid 1 W)
    have q2 := hide (fun W => unhide CF fix 2 W)
    have q4 := hide (fun W => unhide CF sgn 4 W)
    have q8 := hide (fun W => unhide CF wrp 8 W)
    rw [hf1] at q1
    rw [hf2] at q2
    rw [hf4] at q4
    rw [hf8] at q8
    replace hf1 := hide hf1; replace hf2 := hide hf2; replace hf4 := hide hf4; replace hf8 := hide hf8
    replace hg := hide hg; replace hg2 := hide hg2; replace hg3 := hide hg3
    obtain ⟨W, hW, hC, hb, hlt⟩ := one_cb w #[.int .i64 id, .int .i64 kind, .bool hid, .bool fix, .bool sgn, .bool wrp, .string val, .int .i64 nxt] 25
    have c0 := hC.cell 0 rfl
    have c1 := hC.cell 1 rfl
    have c2 := hC.cell 2 rfl
    have c3 := hC.cell 3 rfl
    have c4 := hC.cell 4 rfl
    have c5 := hC.cell 5 rfl
    have c6 := hC.cell 6 rfl
    have c7 := hC.cell 7 rfl
    go_enter Try.func30, Try.ntmps30
    go_wp2_with fail
    refine (unhide CO W).mono ?_
    rintro e w1 ⟨rfl, hb1⟩
    have hT := hb.trans (hb1.mono hb.size)
    have hC1 := hC.below hb1 hlt
    have d0 := hC1.cell 0 rfl
    have d1 := hC1.cell 1 rfl
    have d2 := hC1.cell 2 rfl
    have d3 := hC1.cell 3 rfl
    have d4 := hC1.cell 4 rfl
    have d5 := hC1.cell 5 rfl
    have d6 := hC1.cell 6 rfl
    have d7 := hC1.cell 7 rfl
    have hg1 : w.heap.size < w1.heap.size := Nat.lt_of_lt_of_le hlt hb1.size
    clear c0 c1 c2 c3 c4 c5 c6 c7 hC hC1 hb1 hb CO
    go_wp2
    go_quiet ((first | (go_at_call 62; exact Calls.quiet_of_same (unhide q1 _)) | (go_at_call 62; exact Calls.quiet_of_same (unhide q2 _)) | (go_at_call 62; exact Calls.quiet_of_same (unhide q4 _)) | (go_at_call 62; exact Calls.quiet_of_same (unhide q8 _))))
    have KS := hide (fun (W' : World) (h : Below w1.heap.size w1 W') => (⟨(h.cell (p := ⟨w.heap.size, 0, none⟩) hg1).trans d0, (h.cell (p := ⟨w.heap.size, 1, none⟩) hg1).trans d1, (h.cell (p := ⟨w.heap.size, 6, none⟩) hg1).trans d6, (h.cell (p := ⟨w.heap.size, 7, none⟩) hg1).trans d7⟩ : W'.cell? ⟨w.heap.size, 0, none⟩ = some (.int .i64 id) ∧ W'.cell? ⟨w.heap.size, 1, none⟩ = some (.int .i64 kind) ∧ W'.cell? ⟨w.heap.size, 6, none⟩ = some (.string val) ∧ W'.cell? ⟨w.heap.size, 7, none⟩ = some (.int .i64 nxt)))
    have hB0 := Below.refl w1.heap.size w1
    go_wp2
    go_region_held3 (fun W' => W'.cell? ⟨w.heap.size, 0, none⟩ = some (.int .i64 id) ∧ W'.cell? ⟨w.heap.size, 1, none⟩ = some (.int .i64 kind) ∧ W'.cell? ⟨w.heap.size, 6, none⟩ = some (.string val) ∧ W'.cell? ⟨w.heap.size, 7, none⟩ = some (.int .i64 nxt)) (first | exact ⟨d0, d1, d6, d7⟩ | exact (unhide KS) _ hB5 | exact (unhide KS) _ hB4 | exact (unhide KS) _ hB3 | exact (unhide KS) _ hB2 | exact (unhide KS) _ hB1 | fail) (first
      | (go_at_call 29; have hB4' := hB4; refine ((unhide V2) _).mono ?_; rintro e w6 ⟨rfl, hb5⟩; have hB5 : Below w1.heap.size w1 w6 := hB4.trans (hb5.mono hB4.size))
      | (go_at_call 29; refine ((unhide V1) _).mono ?_; rintro e w2 ⟨rfl, hb1⟩; have hB1 : Below w1.heap.size w1 w2 := (bDN hB0 _).drew.trans (hb1.mono (by exact Nat.le_refl _)))
      | (go_at_call 63; have hB2' := hB2; refine ((unhide y2) _).mono ?_; rintro e w4 ⟨rfl, hb3⟩; have hB3 : Below w1.heap.size w1 w4 := hB2.trans (hb3.mono hB2.size))
      | (go_at_call 63; refine ((unhide y1) _).mono ?_; rintro e w3 ⟨rfl, hb2⟩; have hB2 : Below w1.heap.size w1 w3 := hB1.trans (hb2.mono hB1.size))
      | (go_at_call 64; refine ((unhide CS) _).mono ?_; rintro e w5 ⟨rfl, hb4⟩; have hB4 : Below w1.heap.size w1 w5 := hB3.trans (hb4.mono hB3.size))
      | fail)
    all_goals
      have hF := hT.trans (hB5.mono hT.size)
      clear hb1 hb2 hb3 hb4 hb5 hB1 hB2 hB3 hB4 hB5 KS d0 d1 d2 d3 d4 d5 d6 d7
      go_wp2
      go_ret2
      exact ⟨by rw [unhide hR]; rfl, hF⟩
end Go.Proofs.Ytkbbcjnickgfjaa

/- Readers of texts by the given model, and things that are read, over the loaded program. -/
namespace Go.Proofs.Ytkbbcjnickgfjaa
open Go.RowKit
abbrev cuC (t : ByteArray) (a : Nat) (b : Bool) : Array Value := #[.string t, .int .i64 (a : Int), .bool b]
theorem gB9 {w w' : World} (hb : Below w.heap.size w w') (r : Option Nat) : w.grownBy w' r := ⟨hb.os, hb.tape, hb.output, hb.size, fun k hk _ => hb.block k hk⟩
theorem gT9 {a b c : World} {r : Option Nat} (h : a.grownBy b r) (k : b.grownBy c r) : a.grownBy c r :=
  ⟨k.os.trans h.os, k.tape.trans h.tape, k.output.trans h.output, Nat.le_trans h.size k.size, fun i hi hr => (k.block i (Nat.lt_of_lt_of_le hi h.size) hr).trans (h.block i hi hr)⟩
theorem gD9 {w w' : World} {r : Option Nat} (h : w.grownBy w' r) (n : Nat) : w.grownBy (w'.drewN n) r := ⟨h.os, h.tape, h.output, h.size, h.block⟩
theorem below_gr {a b c : World} {g : Nat} (h : Below a.heap.size a b) (k : b.grownBy c (some g)) (hg : a.heap.size ≤ g) : Below a.heap.size a c :=
  ⟨k.os.trans h.os, k.tape.trans h.tape, k.output.trans h.output, Nat.le_trans h.size k.size, fun q hq => (k.block q (Nat.lt_of_lt_of_le hq h.size) (fun e => by have := Option.some.inj e; omega)).trans (h.block q hq)⟩
set_option maxRecDepth 20000 in
set_option maxHeartbeats 2000000 in
theorem l19Var_any (t : ByteArray) (ht : t.size ≤ 1048576) (a : Nat) (b : Bool) (ha : a ≤ t.size) (g : Nat) (w : World) (hC : CB w g 62 (cuC t a b)) :
    Calls Try.prog 34 #[.pointer (some ⟨g, 0, none⟩)] w fun e w' => e = .returned (.int .i64 ((vrS t a b).1 : Int)) ∧ CB w' g 62 (cuC t (vrS t a b).2.1 (vrS t a b).2.2) ∧ w.grownBy w' (some g) := by
  have CR := hide (fun W => specReadVar_yes t a W ht ha)
  have hg := hC.lt
  have c0 := hC.cell 0 rfl
  have c1 := hC.cell 1 rfl
  have KS := hide (fun (W : World) (h : Below w.heap.size w W) => (⟨(h.cell (p := ⟨g, 0, none⟩) hg).trans c0, (h.cell (p := ⟨g, 1, none⟩) hg).trans c1⟩ : W.cell? ⟨g, 0, none⟩ = some (.string t) ∧ W.cell? ⟨g, 1, none⟩ = some (.int .i64 (a : Int))))
  replace hC := hide hC
  cases hr : rvRun t a a 1 0 with
  | none =>
    have E : vrS t a b = (0, a, true) := by unfold vrS; split; rfl; rw [hr]
    rw [E]
    rw [hr] at CR
    clear hr E
    go_enter Try.func34, Try.ntmps34
    go_wp2
    go_region_held3 (fun W => W.cell? ⟨g, 0, none⟩ = some (.string t) ∧ W.cell? ⟨g, 1, none⟩ = some (.int .i64 (a : Int))) (first | exact ⟨c0, c1⟩ | exact (unhide KS) _ hB1 | fail) (first
      | (go_at_call 66; refine ((unhide CR) _).mono ?_; unfold rvTup; rintro e w1 ⟨rfl, hb1⟩; have hB1 : Below w.heap.size w w1 := (Below.refl _ w).drew.trans hb1)
      | fail)
    all_goals
      have hC1 := (unhide hC).below hB1 hg
      have e2 := hC1.cell 2 rfl
      have f2 := hC1.frozen 2
      have hC2 := hide (hC1.set 2 (.bool true))
      have hG2 := hide (gT9 (gB9 hB1 (some g)) (tS0 w1 g 2 (.bool true)))
      clear hb1 hB1 KS c0 c1 hC1 CR
      cases b with
      | true =>
        go_wp2
        go_ret
        exact ⟨rfl, unhide hC2, unhide hG2⟩
      | false =>
        go_wp2
        go_ret
        exact ⟨rfl, unhide hC2, unhide hG2⟩
  | some p =>
    obtain ⟨n, j⟩ := p
    obtain ⟨q1, q2, q3, q4, _⟩ := rvRun_own ha hr
    have E : vrS t a b = if b then (0, a, true) else (n, j, false) := by unfold vrS; rw [hr]
    rw [E]
    rw [hr] at CR
    clear hr E
    cases b with
    | true =>
      go_enter Try.func34, Try.ntmps34
      go_wp2
      go_region_held3 (fun W => W.cell? ⟨g, 0, none⟩ = some (.string t) ∧ W.cell? ⟨g, 1, none⟩ = some (.int .i64 (a : Int))) (first | exact ⟨c0, c1⟩ | exact (unhide KS) _ hB1 | fail) (first
        | (go_at_call 66; refine ((unhide CR) _).mono ?_; unfold rvTup; rintro e w1 ⟨rfl, hb1⟩; have hB1 : Below w.heap.size w w1 := (Below.refl _ w).drew.trans hb1)
        | fail)
      all_goals
        have hC1 := (unhide hC).below hB1 hg
        have e2 := hC1.cell 2 rfl
        have f2 := hC1.frozen 2
        have hC2 := hide (hC1.set 2 (.bool true))
        have hG2 := hide (gT9 (gB9 hB1 (some g)) (tS0 w1 g 2 (.bool true)))
        clear hb1 hB1 KS c0 c1 hC1 CR
        go_wp2
        go_ret
        exact ⟨rfl, unhide hC2, unhide hG2⟩
    | false =>
      go_enter Try.func34, Try.ntmps34
      go_wp2
      go_region_held3 (fun W => W.cell? ⟨g, 0, none⟩ = some (.string t) ∧ W.cell? ⟨g, 1, none⟩ = some (.int .i64 (a : Int))) (first | exact ⟨c0, c1⟩ | exact (unhide KS) _ hB1 | fail) (first
        | (go_at_call 66; refine ((unhide CR) _).mono ?_; unfold rvTup; rintro e w1 ⟨rfl, hb1⟩; have hB1 : Below w.heap.size w w1 := (Below.refl _ w).drew.trans hb1)
        | fail)
      all_goals
        have hC1 := (unhide hC).below hB1 hg
        have e1 := hC1.cell 1 rfl
        have e2 := hC1.cell 2 rfl
        have f1 := hC1.frozen 1
        have hC2 := hide (hC1.set 1 (.int .i64 (j : Int)))
        have hG2 := hide (gT9 (gB9 hB1 (some g)) (tS0 w1 g 1 (.int .i64 (j : Int))))
        clear hb1 hB1 KS c0 c1 hC1 CR
        go_wp2
        go_ret
        exact ⟨rfl, unhide hC2, unhide hG2⟩
set_option maxRecDepth 20000 in
set_option maxHeartbeats 2000000 in
theorem l19Take_any (t : ByteArray) (ht : t.size ≤ 1048576) (a : Nat) (b : Bool) (ha : a ≤ t.size) (n : Nat) (hn : n ≤ 1000000000) (g : Nat) (w : World) (hC : CB w g 62 (cuC t a b)) :
    Calls Try.prog 33 #[.pointer (some ⟨g, 0, none⟩), .int .i64 (n : Int)] w fun e w' => e = .returned (.string (tkS t a b n).1) ∧ CB w' g 62 (cuC t (tkS t a b n).2.1 (tkS t a b n).2.2) ∧ w.grownBy w' (some g) := by
  have c0 := hC.cell 0 rfl
  have c1 := hC.cell 1 rfl
  have c2 := hC.cell 2 rfl
  have f1 := hC.frozen 1
  have f2 := hC.frozen 2
  have R1 : ∀ q, World.frozen? (w.drewN q) ⟨g, 2, none⟩ = false := fun _ => f2
  have R2 : ∀ q, World.frozen? (w.drewN q) ⟨g, 1, none⟩ = false := fun _ => f1
  cases b with
  | true =>
    have E : tkS t a true n = (⟨#[]⟩, a, true) := by unfold tkS; rw [if_pos (.inl rfl)]
    rw [E]
    have hC2 := hide (fun q => (show CB (w.drewN q) g 62 (cuC t a true) from hC).set 2 (.bool true))
    have hG2 := hide (fun q => gT9 (gD9 (World.grownBy.refl w (some g)) q) (tS0 (w.drewN q) g 2 (.bool true)))
    clear hC E
    go_enter Try.func33, Try.ntmps33
    go_wp2
    go_quiet (fail)
    go_wp2
    go_ret
    exact ⟨rfl, unhide hC2 _, unhide hG2 _⟩
  | false =>
    obtain ⟨m, hm⟩ : ∃ m : Nat, m = t.size - a := ⟨_, rfl⟩
    have u1 : IntKind.i64.wrap ((t.size : Int) - (a : Int)) = (m : Int) := by rw [IntKind.wrap_i64]; omega
    by_cases hlt : m < n
    · have E : tkS t a false n = (⟨#[]⟩, a, true) := by unfold tkS; rw [if_pos (.inr (by omega))]
      rw [E]
      have hlt' : (m : Int) < (n : Int) := by omega
      have hC2 := hide (fun q => (show CB (w.drewN q) g 62 (cuC t a false) from hC).set 2 (.bool true))
      have hG2 := hide (fun q => gT9 (gD9 (World.grownBy.refl w (some g)) q) (tS0 (w.drewN q) g 2 (.bool true)))
      clear hC E
      replace hm := hide hm
      go_enter Try.func33, Try.ntmps33
      go_wp2
      go_quiet (fail)
      go_wp2
      go_ret
      exact ⟨rfl, unhide hC2 _, unhide hG2 _⟩
    · obtain ⟨j, hj⟩ : ∃ j : Nat, j = a + n := ⟨_, rfl⟩
      have E : tkS t a false n = (t.extract a j, j, false) := by unfold tkS; rw [if_neg (by simp; omega), hj]
      rw [E]
      have hlt' : ¬ (m : Int) < (n : Int) := by omega
      have u2 : IntKind.i64.wrap ((a : Int) + (n : Int)) = (j : Int) := by rw [IntKind.wrap_i64]; omega
      have u3 : IntKind.i64.wrap ((j : Int) - (n : Int)) = (a : Int) := by rw [IntKind.wrap_i64]; omega
      have hjl : (j : Int) ≤ (t.size : Int) := by omega
      have haj : (a : Int) ≤ (j : Int) := by omega
      have ha0 : (0 : Int) ≤ (a : Int) := by omega
      have hj0 : (0 : Int) ≤ (j : Int) := by omega
      have hC2 := hide (fun q => (show CB (w.drewN q) g 62 (cuC t a false) from hC).set 1 (.int .i64 (j : Int)))
      have hG2 := hide (fun q => gT9 (gD9 (World.grownBy.refl w (some g)) q) (tS0 (w.drewN q) g 1 (.int .i64 (j : Int))))
      clear hC E
      replace hm := hide hm; replace hj := hide hj
      go_enter Try.func33, Try.ntmps33
      go_wp2
      go_quiet (fail)
      have hC3 := (unhide hC2) nq
      have hG3 := hide ((unhide hG2) nq)
      have e0 := hC3.cell 0 rfl
      have e1 := hC3.cell 1 rfl
      go_wp2
      go_quiet (fail)
      go_wp2
      go_ret
      exact ⟨rfl, hC3, gD9 (unhide hG3) _⟩
set_option maxRecDepth 20000 in
set_option maxHeartbeats 2000000 in
theorem l19One_any (t : ByteArray) (ht : t.size ≤ 1048576) (a : Nat) (b : Bool) (ha : a ≤ t.size) (g : Nat) (w : World) (hC : CB w g 62 (cuC t a b)) :
    Calls Try.prog 32 #[.pointer (some ⟨g, 0, none⟩)] w fun e w' => e = .returned (.int .i64 ((onS t a b).1 : Int)) ∧ CB w' g 62 (cuC t (onS t a b).2.1 (onS t a b).2.2) ∧ w.grownBy w' (some g) := by
  have CT := hide (l19Take_any t ht a b ha 1 (by omega) g w hC)
  rw [show ((1 : Nat) : Int) = 1 from rfl] at CT
  have E := hide (show onS t a b = if (tkS t a b 1).2.2 then (0, (tkS t a b 1).2) else (byA9 (tkS t a b 1).1 0, (tkS t a b 1).2) from rfl)
  rw [unhide E]
  have hz : (tkS t a b 1).2.2 = false → (tkS t a b 1).1.size = 1 := by
    unfold tkS
    split
    · intro h; cases h
    · intro _
      show (t.extract a (a + 1)).size = 1
      rw [ByteArray.size_extract]; omega
  generalize tkS t a b 1 = r at *
  obtain ⟨s, k, bd⟩ := r
  simp only at hz CT ⊢
  clear E
  cases bd with
  | true =>
    clear hC hz
    go_enter Try.func32, Try.ntmps32
    go_wp2_with fail
    refine (unhide CT).mono ?_
    rintro e w1 ⟨rfl, hC1, hG1⟩
    have e2 := hC1.cell 2 rfl
    replace hC1 := hide hC1; replace hG1 := hide hG1
    go_wp2
    go_ret
    exact ⟨rfl, unhide hC1, unhide hG1⟩
  | false =>
    have hs1 := hz rfl
    have h0 : (0 : Int) < (s.size : Int) := by omega
    have hx : ∀ h : 0 < s.size, (s[0]'h).toNat = byA9 s 0 := fun h => by
      unfold byA9
      rw [Array.getD_eq_getD_getElem?, Array.getElem?_eq_getElem h]
      rfl
    have hq : byA9 s 0 < 256 := UInt8.toNat_lt _
    generalize byA9 s 0 = q at *
    clear hC hz
    replace hs1 := hide hs1
    go_enter Try.func32, Try.ntmps32
    go_wp2_with fail
    refine (unhide CT).mono ?_
    rintro e w1 ⟨rfl, hC1, hG1⟩
    have e2 := hC1.cell 2 rfl
    replace hC1 := hide hC1; replace hG1 := hide hG1
    go_wp2
    go_ret
    exact ⟨rfl, unhide hC1, unhide hG1⟩
set_option maxRecDepth 20000 in
theorem l19ReadShort_any (t : ByteArray) (ht : t.size ≤ 1048576) (a : Nat) (b : Bool) (ha : a ≤ t.size) (g : Nat) (w : World) (hC : CB w g 62 (cuC t a b)) :
    Calls Try.prog 67 #[.pointer (some ⟨g, 0, none⟩)] w fun e w' => e = .returned (.string (shS t a b).1) ∧ CB w' g 62 (cuC t (shS t a b).2.1 (shS t a b).2.2) ∧ w.grownBy w' (some g) := by
  have CV := hide (l19Var_any t ht a b ha g w hC)
  have CT := hide (fun W h => l19Take_any t ht (vrS t a b).2.1 (vrS t a b).2.2 (vrS_le t a b ha) (vrS t a b).1 (vrS_num t a b ha) g W h)
  have E := hide (show shS t a b = tkS t (vrS t a b).2.1 (vrS t a b).2.2 (vrS t a b).1 from rfl)
  rw [← unhide E] at CT
  generalize vrS t a b = v at *
  clear hC
  go_enter Try.func67, Try.ntmps67
  go_wp2_with fail
  refine (unhide CV).mono ?_
  rintro e w1 ⟨rfl, hC1, hG1⟩
  go_wp2_with fail
  refine (unhide CT w1 hC1).mono ?_
  rintro e w2 ⟨rfl, hC2, hG2⟩
  have hG := gT9 hG1 hG2
  clear hG1 hG2 hC1
  replace hC2 := hide hC2; replace hG := hide hG
  go_wp2
  go_ret
  exact ⟨rfl, unhide hC2, unhide hG⟩
end Go.Proofs.Ytkbbcjnickgfjaa

/- Things that are read, by the given model, over the loaded program. -/
namespace Go.Proofs.Ytkbbcjnickgfjaa
open Go.RowKit
theorem neStr9 {a b : ByteArray} (h : ¬ a = b) : (a.toList == b.toList) = false := by
  rw [← beq_toListBytes]
  show (a.data == b.data) = false
  rw [beq_eq_false_iff_ne]
  intro e
  apply h
  cases a
  cases b
  simp_all
theorem bit_eq (n : Nat) : (((n : Int) % 2 == 1) = decide (n % 2 = 1)) := by
  by_cases h : n % 2 = 1
  · rw [decide_eq_true h]; simp; omega
  · rw [decide_eq_false h, beq_eq_false_iff_ne]; omega
theorem rdX_eq {t : ByteArray} {n1 a1 n2 a2 n3 a3 a4 n5 a5 : Nat} {b1 b2 b3 b4 b5 : Bool} {s4 : ByteArray} (h1 : vrS t 0 false = (n1, a1, b1)) (h2 : onS t a1 b1 = (n2, a2, b2)) (h3 : onS t a2 b2 = (n3, a3, b3)) (h4 : shS t a3 b3 = (s4, a4, b4)) (h5 : vrS t a4 b4 = (n5, a5, b5)) :
    rdX t = (⟨(n1 : Int), (n2 : Int), decide (n3 % 2 = 1), decide (n3 / 2 % 2 = 1), decide (n3 / 4 % 2 = 1), decide (n3 / 8 % 2 = 1), s4, (n5 : Int)⟩, b5) := by
  unfold rdX
  simp only [h1, h2, h3, h4, h5]
theorem th_one (x : Th) : (thC x).all (·.oneCell') = true := by unfold thC; simp [Value.oneCell']
theorem th_size (x : Th) : (Try.prog.info? 25).map (·.size) = some (thC x).size := by
  have h : (Try.prog.info? 25).map (·.size) = some 8 := by kernel_rfl
  rw [h]; rfl
set_option maxRecDepth 20000 in
set_option maxHeartbeats 4000000 in
theorem specReadThing_any (t : ByteArray) (ht : t.size ≤ 1048576) (w : World) :
    Calls Try.prog 35 #[.string t] w fun e w' => e = .returned (.tuple #[.agg (thC (rdTh t)), .bool (rdOk t)]) ∧ Below w.heap.size w w' := by
  have C1 := hide (fun g W h => l19Var_any t ht 0 false (Nat.zero_le _) g W h)
  have L1 := vrS_le t 0 false (Nat.zero_le _)
  rcases hv1 : vrS t 0 false with ⟨n1, a1, b1⟩
  rw [hv1] at C1 L1
  have C2 := hide (fun g W h => l19One_any t ht a1 b1 L1 g W h)
  have L2 := onS_le t a1 b1 L1
  rcases hv2 : onS t a1 b1 with ⟨n2, a2, b2⟩
  rw [hv2] at C2 L2
  have C3 := hide (fun g W h => l19One_any t ht a2 b2 L2 g W h)
  have L3 := onS_le t a2 b2 L2
  have M3 := onS_lt t a2 b2
  rcases hv3 : onS t a2 b2 with ⟨n3, a3, b3⟩
  rw [hv3] at C3 L3 M3
  have C4 := hide (fun g W h => l19ReadShort_any t ht a3 b3 L3 g W h)
  have L4 := shS_le t a3 b3 L3
  rcases hv4 : shS t a3 b3 with ⟨s4, a4, b4⟩
  rw [hv4] at C4 L4
  have C5 := hide (fun g W h => l19Var_any t ht a4 b4 L4 g W h)
  rcases hv5 : vrS t a4 b4 with ⟨n5, a5, b5⟩
  rw [hv5] at C5
  have EX := rdX_eq hv1 hv2 hv3 hv4 hv5
  simp only at C1 C2 C3 C4 C5 M3
  have CT := hide (fun W => specThingText_any (rdX t).1 W)
  have hOk := rdOk_iff t
  have hTh : rdTh t = if rdOk t = true then (rdX t).1 else thZ := rfl
  have hTT : ttB (rdX t).1 = if thOk (rdX t).1 = true then thT (rdX t).1 else ⟨#[]⟩ := rfl
  have hOk2 := thOk_iff (rdX t).1
  rw [hTh]
  rw [EX] at CT hOk hTT hOk2 ⊢
  simp only at CT hOk hTT hOk2 ⊢
  have e1 := bit_eq n3
  have e2 := bit_eq (n3 / 2)
  have e4 := bit_eq (n3 / 4)
  have e8 := bit_eq (n3 / 8)
  obtain ⟨m2, hm2⟩ : ∃ m, m = n3 / 2 := ⟨_, rfl⟩
  obtain ⟨m4, hm4⟩ : ∃ m, m = n3 / 4 := ⟨_, rfl⟩
  obtain ⟨m8, hm8⟩ : ∃ m, m = n3 / 8 := ⟨_, rfl⟩
  have q2 : (n3 : Int) / 2 = (m2 : Int) := by omega
  have q4 : (n3 : Int) / 4 = (m4 : Int) := by omega
  have q8 : (n3 : Int) / 8 = (m8 : Int) := by omega
  rw [← hm2] at e2 CT hOk hTT hOk2 ⊢
  rw [← hm4] at e4 CT hOk hTT hOk2 ⊢
  rw [← hm8] at e8 CT hOk hTT hOk2 ⊢
  have hn3 : n3 < 256 := M3
  have hl2 : m2 < 256 := by omega
  have hl4 : m4 < 256 := by omega
  have hl8 : m8 < 256 := by omega
  generalize decide (n3 % 2 = 1) = f1 at *
  generalize decide (m2 % 2 = 1) = f2 at *
  generalize decide (m4 % 2 = 1) = f4 at *
  generalize decide (m8 % 2 = 1) = f8 at *
  generalize hx : (⟨(n1 : Int), (n2 : Int), f1, f2, f4, f8, s4, (n5 : Int)⟩ : Th) = x at *
  have hxc : thC x = #[.int .i64 (n1 : Int), .int .i64 (n2 : Int), .bool f1, .bool f2, .bool f4, .bool f8, .string s4, .int .i64 (n5 : Int)] := by rw [← hx]; rfl
  generalize rdOk t = fin at *
  generalize thOk x = ok at *
  generalize ttB x = tb at *
  replace hm2 := hide hm2; replace hm4 := hide hm4; replace hm8 := hide hm8; replace hx := hide hx; replace EX := hide EX; replace hTh := hide hTh
  clear hv1 hv2 hv3 hv4 hv5 L1 L2 L3 L4
  obtain ⟨W, hW, hR, hCu, hb, hlt⟩ := two_cb w (thC thZ) (cuC t 0 false) 25 62
  unfold thC thZ at hW
  rw [show cuC t 0 false = #[.string t, .int .i64 0, .bool false] from rfl] at hW
  simp only at hW
  replace hR := hide hR
  go_enter Try.func35, Try.ntmps35
  go_wp2_with fail
  refine (unhide C1 _ W hCu).mono ?_
  rintro e w1 ⟨rfl, hC1, hG1⟩
  have hR1 := (unhide hR).grown hG1 (by simp)
  have hB1 : Below w.heap.size w w1 := below_gr hb hG1 (by omega)
  have hz1 : w.heap.size + 1 < w1.heap.size := Nat.lt_of_lt_of_le hlt hG1.size
  go_wp2_with fail
  obtain ⟨W2, hW2, hX2, hb2, hl2'⟩ := one_cb w1 #[.int .i64 (n1 : Int), .int .i64 0, .bool false, .bool false, .bool false, .bool false, .string ⟨#[]⟩, .int .i64 0] 25
  rw [hW2]
  have hCu2 := hC1.below hb2 hC1.lt
  have hR2 := hR1.below hb2 hR1.lt
  have hB2 := hB1.trans (hb2.mono hB1.size)
  clear hb hG1 hC1 hR1 hb2 hCu hR hlt hB1 C1
  replace hX2 := hide hX2; replace hR2 := hide hR2
  refine (unhide C2 _ W2 hCu2).mono ?_
  rintro e w3 ⟨rfl, hC3, hG3⟩
  have hX3 := (unhide hX2).grown hG3 (by simp; omega)
  have hR3 := (unhide hR2).grown hG3 (by simp)
  have hB3 := below_gr hB2 hG3 (by omega)
  clear hX2 hR2 hB2 hG3 hCu2 C2 hW2
  have p1 := hX3.cell 1 rfl
  have z1 := hX3.frozen 1
  have hX4 := hide (hX3.set 1 (.int .i64 (n2 : Int)))
  have hC4 := hC3.set_other (h := w1.heap.size) (k := 1) (by omega) (.int .i64 (n2 : Int))
  have hR4 := hide (hR3.set_other (h := w1.heap.size) (k := 1) (by omega) (.int .i64 (n2 : Int)))
  have hB4 := hB3.setCell (p := ⟨w1.heap.size, 1, none⟩) (show w.heap.size ≤ w1.heap.size by omega) (.int .i64 (n2 : Int))
  replace hX3 := hide hX3; replace hC3 := hide hC3; replace hR3 := hide hR3; replace hB3 := hide hB3
  go_wp2_with fail
  refine (unhide C3 _ _ hC4).mono ?_
  rintro e w5 ⟨rfl, hC5, hG5⟩
  have hX5 := (unhide hX4).grown hG5 (by simp; omega)
  have hR5 := (unhide hR4).grown hG5 (by simp)
  have hB5 := below_gr hB4 hG5 (by omega)
  clear hX4 hR4 hB4 hG5 hC4 hX3 hC3 hR3 hB3 p1 z1 C3
  have p2 := hX5.cell 2 rfl
  have z2 := hX5.frozen 2
  have hX6 := hX5.set 2 (.bool f1)
  have hC6 := hC5.set_other (h := w1.heap.size) (k := 2) (by omega) (.bool f1)
  have hR6 := hR5.set_other (h := w1.heap.size) (k := 2) (by omega) (.bool f1)
  have hB6 := hB5.setCell (p := ⟨w1.heap.size, 2, none⟩) (show w.heap.size ≤ w1.heap.size by omega) (.bool f1)
  have p3 := hX6.cell 3 rfl
  have z3 := hX6.frozen 3
  have hX7 := hX6.set 3 (.bool f2)
  have hC7 := hC6.set_other (h := w1.heap.size) (k := 3) (by omega) (.bool f2)
  have hR7 := hR6.set_other (h := w1.heap.size) (k := 3) (by omega) (.bool f2)
  have hB7 := hB6.setCell (p := ⟨w1.heap.size, 3, none⟩) (show w.heap.size ≤ w1.heap.size by omega) (.bool f2)
  have p4 := hX7.cell 4 rfl
  have z4 := hX7.frozen 4
  have hX8 := hX7.set 4 (.bool f4)
  have hC8 := hC7.set_other (h := w1.heap.size) (k := 4) (by omega) (.bool f4)
  have hR8 := hR7.set_other (h := w1.heap.size) (k := 4) (by omega) (.bool f4)
  have hB8 := hB7.setCell (p := ⟨w1.heap.size, 4, none⟩) (show w.heap.size ≤ w1.heap.size by omega) (.bool f4)
  have p5 := hX8.cell 5 rfl
  have z5 := hX8.frozen 5
  have hX9 := hide (hX8.set 5 (.bool f8))
  have hC9 := hC8.set_other (h := w1.heap.size) (k := 5) (by omega) (.bool f8)
  have hR9 := hide (hR8.set_other (h := w1.heap.size) (k := 5) (by omega) (.bool f8))
  have hB9 := hB8.setCell (p := ⟨w1.heap.size, 5, none⟩) (show w.heap.size ≤ w1.heap.size by omega) (.bool f8)
  clear hX5 hC5 hR5 hB5 hX6 hC6 hR6 hB6 hX7 hC7 hR7 hB7 hX8 hC8 hR8 hB8
  go_wp2_with fail
  refine (unhide C4 _ _ hC9).mono ?_
  rintro e w10 ⟨rfl, hC10, hG10⟩
  have hX10 := (unhide hX9).grown hG10 (by simp; omega)
  have hR10 := (unhide hR9).grown hG10 (by simp)
  have hB10 := below_gr hB9 hG10 (by omega)
  clear hX9 hR9 hB9 hG10 hC9 p2 p3 p4 p5 z2 z3 z4 z5 C4
  have p6 := hX10.cell 6 rfl
  have z6 := hX10.frozen 6
  have hX11 := hide (hX10.set 6 (.string s4))
  have hC11 := hC10.set_other (h := w1.heap.size) (k := 6) (by omega) (.string s4)
  have hR11 := hide (hR10.set_other (h := w1.heap.size) (k := 6) (by omega) (.string s4))
  have hB11 := hB10.setCell (p := ⟨w1.heap.size, 6, none⟩) (show w.heap.size ≤ w1.heap.size by omega) (.string s4)
  clear hX10 hC10 hR10 hB10
  go_wp2_with fail
  refine (unhide C5 _ _ hC11).mono ?_
  rintro e w12 ⟨rfl, hC12, hG12⟩
  have hX12 := (unhide hX11).grown hG12 (by simp; omega)
  have hR12 := (unhide hR11).grown hG12 (by simp)
  have hB12 := below_gr hB11 hG12 (by omega)
  clear hX11 hR11 hB11 hG12 hC11 p6 z6 C5
  have p7 := hX12.cell 7 rfl
  have z7 := hX12.frozen 7
  have hX13 := hX12.set 7 (.int .i64 (n5 : Int))
  have hC13 := hC12.set_other (h := w1.heap.size) (k := 7) (by omega) (.int .i64 (n5 : Int))
  have hR13 := hR12.set_other (h := w1.heap.size) (k := 7) (by omega) (.int .i64 (n5 : Int))
  have hB13 := hB12.setCell (p := ⟨w1.heap.size, 7, none⟩) (show w.heap.size ≤ w1.heap.size by omega) (.int .i64 (n5 : Int))
  have hX13' : CB (w12.setCell ⟨w1.heap.size, 7, none⟩ (.int .i64 (n5 : Int))) w1.heap.size 25 #[.int .i64 (n1 : Int), .int .i64 (n2 : Int), .bool f1, .bool f2, .bool f4, .bool f8, .string s4, .int .i64 (n5 : Int)] := hX13
  clear hX12 hC12 hR12 hB12 hX13
  have r0 := hX13'.cell 0 rfl
  have r1 := hX13'.cell 1 rfl
  have r2 := hX13'.cell 2 rfl
  have r3 := hX13'.cell 3 rfl
  have r4 := hX13'.cell 4 rfl
  have r5 := hX13'.cell 5 rfl
  have r6 := hX13'.cell 6 rfl
  have r7 := hX13'.cell 7 rfl
  rw [hxc] at CT
  replace hX13' := hide hX13'; replace hC13 := hide hC13; replace hR13 := hide hR13; replace hB13 := hide hB13
  go_wp2_with fail
  refine (unhide CT _).mono ?_
  rintro e w14 ⟨rfl, hb14⟩
  have hC14 := (unhide hC13).step hb14
  have hX14 := hide ((unhide hX13').step hb14)
  have hR14 := hide ((unhide hR13).step hb14)
  have hB14 := hide ((unhide hB13).trans (hb14.mono (unhide hB13).size))
  have k2 := hC14.cell 2 rfl
  obtain ⟨y, hy⟩ : ∃ y : Th, y = ⟨(n1 : Int), (n2 : Int), f1, f2, f4, f8, s4, (n5 : Int)⟩ := ⟨_, rfl⟩
  have hX15 : Hid (CB w14 w1.heap.size 25 (thC y)) := by rw [hy]; exact hX14
  have hyc := hide (show thC y = thC x by rw [hxc, hy]; rfl)
  clear hxc
  replace hy := hide hy
  clear hX14
  clear r0 r1 r2 r3 r4 r5 r6 r7 p7 z7 hX13' hC13 hR13 hB13 hb14 CT hC14
  clear M3 q2 q4 q8 hn3 hl2 hl4 hl8 e1 e2 e4 e8 hm2 hm4 hm8 EX hTh
  cases b5 with
  | true =>
    obtain rfl : fin = false := by cases fin with | false => rfl | true => exact absurd (hOk.1 rfl).1 (by simp)
    clear hOk hOk2 hTT hX15
    go_wp2_with (refine wpList_store_row rfl 25 (.tmp 2) (.tmp 63) rfl w.heap.size (thC thZ) rfl rfl 25 (thC thZ) (unhide hR14) (th_size thZ) rfl (th_one thZ) ?_)
    have hR15 := setRow_heap _ w.heap.size _ (thC thZ) 25 (0, 0) (unhide hR14)
    have hB15 := Go.below_setRow (unhide hB14) (Nat.le_refl _) (thC thZ)
    exact bodyPost_ret (results_cb_tmp (by exact Try.results35) _ _ w.heap.size 25 (thC thZ) _ rfl hR15 Try.underlying25 (th_size thZ)) rfl ⟨rfl, hB15⟩
  | false =>
    cases ok with
    | false =>
      obtain rfl : fin = false := by cases fin with | false => rfl | true => exact absurd (hOk2.2 (hOk.1 rfl).2.1) (by simp)
      clear hOk hOk2 hTT hX15
      go_wp2_with (refine wpList_store_row rfl 25 (.tmp 2) (.tmp 63) rfl w.heap.size (thC thZ) rfl rfl 25 (thC thZ) (unhide hR14) (th_size thZ) rfl (th_one thZ) ?_)
      have hR15 := setRow_heap _ w.heap.size _ (thC thZ) 25 (0, 0) (unhide hR14)
      have hB15 := Go.below_setRow (unhide hB14) (Nat.le_refl _) (thC thZ)
      exact bodyPost_ret (results_cb_tmp (by exact Try.results35) _ _ w.heap.size 25 (thC thZ) _ rfl hR15 Try.underlying25 (th_size thZ)) rfl ⟨rfl, hB15⟩
    | true =>
      rw [if_pos rfl] at hTT
      by_cases he : tb = t
      · obtain rfl : fin = true := hOk.2 ⟨rfl, hOk2.1 rfl, by rw [← hTT]; exact he⟩
        have he' : (tb.toList == t.toList) = true := by rw [he]; exact beq_self_eq_true _
        replace he := hide he
        replace hTT := hide hTT
        clear hOk hOk2
        go_wp2_with (first
          | (refine wpList_load_row rfl 25 (.tmp 5) rfl w1.heap.size rfl 25 (thC y) (0, 0) _ (unhide hX15) Try.underlying25 rfl (th_size y) ?_)
          | (refine wpList_store_row rfl 25 (.tmp 2) (.tmp 64) rfl w.heap.size (thC y) rfl rfl 25 (thC thZ) (unhide hR14) (th_size y) rfl (th_one y) ?_))
        have hR15 := setRow_heap _ w.heap.size _ (thC y) 25 (0, 0) (unhide hR14)
        have hB15 := Go.below_setRow (unhide hB14) (Nat.le_refl _) (thC y)
        exact bodyPost_ret (results_cb_tmp (by exact Try.results35) _ _ w.heap.size 25 (thC y) _ rfl hR15 Try.underlying25 (th_size y)) rfl ⟨by show _ = Ending.returned (.tuple #[.agg (thC x), .bool true]); rw [← unhide hyc]; exact rfl, hB15⟩
      · obtain rfl : fin = false := by cases fin with | false => rfl | true => exact absurd (hTT.trans (hOk.1 rfl).2.2) he
        have he' : (tb.toList == t.toList) = false := neStr9 he
        replace he := hide he
        replace hTT := hide hTT
        clear hOk hOk2 hX15
        go_wp2_with (refine wpList_store_row rfl 25 (.tmp 2) (.tmp 63) rfl w.heap.size (thC thZ) rfl rfl 25 (thC thZ) (unhide hR14) (th_size thZ) rfl (th_one thZ) ?_)
        have hR15 := setRow_heap _ w.heap.size _ (thC thZ) 25 (0, 0) (unhide hR14)
        have hB15 := Go.below_setRow (unhide hB14) (Nat.le_refl _) (thC thZ)
        exact bodyPost_ret (results_cb_tmp (by exact Try.results35) _ _ w.heap.size 25 (thC thZ) _ rfl hR15 Try.underlying25 (th_size thZ)) rfl ⟨rfl, hB15⟩
end Go.Proofs.Ytkbbcjnickgfjaa

/- Books, reckoned: records and their texts; what is right; what is entered. -/
namespace Go.Proofs.Ytkbbcjnickgfjaa
/-- A record. -/
structure Rc where
  kd : Int
  tx : ByteArray
  nm : Int
  th : Th
def rcC (r : Rc) : Array Value := #[.int .i64 r.kd, .string r.tx, .int .i64 r.nm, .int .i64 r.th.id, .int .i64 r.th.kind, .bool r.th.hid, .bool r.th.fix, .bool r.th.sgn, .bool r.th.wrp, .string r.th.val, .int .i64 r.th.nxt]
def rcZ : Rc := ⟨0, ⟨#[]⟩, 0, thZ⟩
abbrev ThNo (x : Th) : Prop := x.id = 0 ∧ x.kind = 0 ∧ x.hid = false ∧ x.fix = false ∧ x.sgn = false ∧ x.wrp = false ∧ x.val = ⟨#[]⟩ ∧ x.nxt = 0
def thNo (x : Th) : Bool := decide (ThNo x)
theorem thNo_is {x : Th} (h : ThNo x) : x = thZ := by
  obtain ⟨a, b, c, d, e, f, g, i⟩ := x
  obtain ⟨h1, h2, h3, h4, h5, h6, h7, h8⟩ := h
  dsimp only at h1 h2 h3 h4 h5 h6 h7 h8
  subst h1 h2 h3 h4 h5 h6 h7 h8
  rfl
theorem thNo_thZ : ThNo thZ := ⟨rfl, rfl, rfl, rfl, rfl, rfl, rfl, rfl⟩
abbrev RcOk (r : Rc) : Prop := (r.kd = 1 ∧ r.tx.size = 32 ∧ r.nm = 0 ∧ ThNo r.th) ∨ (r.kd = 2 ∧ r.tx.size = 0 ∧ ThNo r.th ∧ 0 ≤ r.nm ∧ r.nm ≤ 3) ∨ (r.kd = 3 ∧ ThOk r.th ∧ r.tx.size = 0 ∧ r.nm = 0) ∨ (r.kd = 4 ∧ r.tx.size = 0 ∧ ThNo r.th ∧ 1 ≤ r.nm ∧ r.nm ≤ 1000)
def rcOk (r : Rc) : Bool := decide (RcOk r)
theorem rcOk_iff (r : Rc) : rcOk r = true ↔ RcOk r := by unfold rcOk; exact decide_eq_true_iff
theorem rcOk_not (r : Rc) : rcOk r = false ↔ ¬ RcOk r := by unfold rcOk; exact decide_eq_false_iff_not
/-- The bytes of a right record. -/
def rcL (r : Rc) : List UInt8 := byteOf r.kd.toNat :: (if r.kd = 1 then r.tx.data.toList else if r.kd = 3 then thL r.th else varB r.nm.toNat)
def rcT (r : Rc) : ByteArray := if rcOk r = true then ⟨(rcL r).toArray⟩ else ⟨#[]⟩
theorem rcT_is {r : Rc} (h : RcOk r) : rcT r = ⟨(rcL r).toArray⟩ := by unfold rcT; rw [if_pos ((rcOk_iff r).2 h)]
/-- What is read of a text, right or not. -/
def rcX (t : ByteArray) : Rc × Bool :=
  let r1 := onS t 0 false
  if r1.1 = 1 then (⟨1, (tkS t r1.2.1 r1.2.2 32).1, 0, thZ⟩, (tkS t r1.2.1 r1.2.2 32).2.2)
  else if r1.1 = 2 ∨ r1.1 = 4 then (⟨(r1.1 : Int), ⟨#[]⟩, ((vrS t r1.2.1 r1.2.2).1 : Int), thZ⟩, (vrS t r1.2.1 r1.2.2).2.2)
  else if r1.1 = 3 then (⟨3, ⟨#[]⟩, 0, rdTh (t.extract 1 t.size)⟩, r1.2.2)
  else (⟨(r1.1 : Int), ⟨#[]⟩, 0, thZ⟩, r1.2.2)
def rcRdOk (t : ByteArray) : Bool := decide ((rcX t).2 = false ∧ RcOk (rcX t).1 ∧ rcT (rcX t).1 = t)
def rcRd (t : ByteArray) : Rc := if rcRdOk t = true then (rcX t).1 else rcZ
theorem rcRdOk_iff (t : ByteArray) : rcRdOk t = true ↔ ((rcX t).2 = false ∧ RcOk (rcX t).1 ∧ rcT (rcX t).1 = t) := by unfold rcRdOk; exact decide_eq_true_iff
theorem rcRd_right {t : ByteArray} (h : rcRdOk t = true) : RcOk (rcRd t) ∧ rcT (rcRd t) = t := by
  have h1 := (rcRdOk_iff t).1 h
  unfold rcRd
  rw [if_pos h]
  exact h1.2
theorem size_zero_is {s : ByteArray} (h : s.size = 0) : s = ⟨#[]⟩ := by
  apply ByteArray.ext
  exact Array.eq_empty_of_size_eq_zero h
/-- What is written of a right record is read so. -/
theorem rcX_rcT {r : Rc} (h : RcOk r) : rcX (rcT r) = (r, false) := by
  have e0 := rcT_is h
  obtain ⟨t, ht⟩ : ∃ t, t = rcT r := ⟨_, rfl⟩
  rw [← ht]
  have h0 : t.data.toList.drop 0 = rcL r := by rw [ht, e0]; rfl
  have hk : 1 ≤ r.kd ∧ r.kd ≤ 4 := by rcases h with h | h | h | h <;> omega
  have hkb : (byteOf r.kd.toNat).toNat = r.kd.toNat := byteOf_toNat (by omega)
  have hd : t.data.toList.drop 0 = byteOf r.kd.toNat :: (if r.kd = 1 then r.tx.data.toList else if r.kd = 3 then thL r.th else varB r.nm.toNat) := h0
  obtain ⟨e1, h1⟩ := on_at hd (Nat.zero_le _)
  rw [hkb] at e1
  obtain ⟨kd, tx, nm, th⟩ := r
  unfold RcOk at h
  dsimp only at h hk e1 h1 hd
  rcases h with ⟨rfl, h2, rfl, h3⟩ | ⟨rfl, h2, h3, h4, h5⟩ | ⟨rfl, h2, h3, rfl⟩ | ⟨rfl, h2, h3, h4, h5⟩
  · have e1' : onS t 0 false = (1, 0 + 1, false) := e1
    have h1' : t.data.toList.drop (0 + 1) = tx.data.toList ++ [] := by rw [List.append_nil]; exact h1
    have hle : 0 + 1 ≤ t.size := by
      have e := congrArg List.length hd
      rw [List.length_drop, List.length_cons] at e
      have : t.data.toList.length = t.size := rfl
      omega
    obtain ⟨e2, _⟩ := tk_at h1' hle
    have hl : tx.data.toList.length = 32 := h2
    rw [hl] at e2
    have hv : (⟨tx.data.toList.toArray⟩ : ByteArray) = tx := by simp
    unfold rcX
    simp only [e1', e2, if_true, hv]
    rw [thNo_is h3]
  · have e1' : onS t 0 false = (2, 0 + 1, false) := e1
    have h1' : t.data.toList.drop (0 + 1) = varB nm.toNat ++ [] := by rw [List.append_nil]; exact h1
    obtain ⟨e2, _⟩ := vr_at h1' (by omega)
    unfold rcX
    simp only [e1', e2]
    rw [if_neg (by decide), if_pos (by decide), thNo_is h3, size_zero_is h2]
    have : ((nm.toNat : Nat) : Int) = nm := by omega
    rw [this]
    rfl
  · have e1' : onS t 0 false = (3, 0 + 1, false) := e1
    have hx : t.extract 1 t.size = thT th := by
      apply ByteArray.ext
      apply Array.toList_inj.1
      have e : (t.extract 1 t.size).data.toList = (t.data.toList.drop 1).take (t.size - 1) := by rw [ByteArray.data_extract]; simp
      have h1' : t.data.toList.drop 1 = thL th := h1
      have hl : t.size - 1 = (thL th).length := by
        have e3 := congrArg List.length h1'
        rw [List.length_drop] at e3
        exact e3
      rw [e, h1', hl, List.take_length]
      rfl
    unfold rcX
    simp only [e1']
    rw [if_neg (by decide), if_neg (by decide), if_pos trivial, hx, (rd_thT ((thOk_iff th).2 h2)).2, size_zero_is h3]
  · have e1' : onS t 0 false = (4, 0 + 1, false) := e1
    have h1' : t.data.toList.drop (0 + 1) = varB nm.toNat ++ [] := by rw [List.append_nil]; exact h1
    obtain ⟨e2, _⟩ := vr_at h1' (by omega)
    unfold rcX
    simp only [e1', e2]
    rw [if_neg (by decide), if_pos (by decide), thNo_is h3, size_zero_is h2]
    have : ((nm.toNat : Nat) : Int) = nm := by omega
    rw [this]
    rfl
theorem rcRd_rcT {r : Rc} (h : RcOk r) : rcRdOk (rcT r) = true ∧ rcRd (rcT r) = r := by
  have h1 := rcX_rcT h
  have h2 : rcRdOk (rcT r) = true := by
    rw [rcRdOk_iff, h1]
    exact ⟨rfl, h, rfl⟩
  refine ⟨h2, ?_⟩
  unfold rcRd
  rw [if_pos h2, h1]
/-- A book. -/
structure Bk where
  wd : ByteArray
  tr : Int
  ths : List Th
  la : Int
  ch : ByteArray
  ct : Int
def bkZ : Bk := ⟨⟨#[]⟩, 0, [], 0, ⟨#[]⟩, 0⟩
/-- Things in their order, each right, none above la. -/
def thsOk (la : Int) : List Th → Bool
  | [] => true
  | [x] => thOk x && decide (x.id ≤ la)
  | x :: y :: l => thOk x && decide (x.id ≤ la) && decide (x.id < y.id) && thsOk la (y :: l)
abbrev BkHead (b : Bk) : Prop := b.wd.size = 32 ∧ b.ch.size = 32 ∧ 0 ≤ b.tr ∧ b.tr ≤ 3 ∧ b.ths.length ≤ 8 ∧ 0 ≤ b.la ∧ b.la ≤ 1000 ∧ 0 ≤ b.ct ∧ b.ct ≤ 10000
def bkOk (b : Bk) : Bool := decide (BkHead b) && thsOk b.la b.ths
def hasT (l : List Th) (id : Int) : Bool := l.any fun x => decide (x.id = id)
def ofT (l : List Th) (id : Int) : Th := (l.find? fun x => decide (x.id = id)).getD thZ
def putT (l : List Th) (x : Th) : List Th := (l.filter fun y => decide (y.id < x.id)) ++ x :: l.filter fun y => decide (x.id < y.id)
def dropT (l : List Th) (id : Int) : List Th := l.filter fun y => decide (y.id ≠ id)
def grownB (a b : Th) : Bool := decide (a.kind = b.kind ∧ a.val = b.val ∧ a.sgn = b.sgn ∧ a.wrp = b.wrp ∧ a.nxt ≤ b.nxt ∧ (a.hid = true → b.hid = true) ∧ (a.fix = true → b.fix = true))
def bkNew : Bk := ⟨digB ⟨#[]⟩, 0, [], 0, ⟨(List.replicate 32 (0 : UInt8)).toArray⟩, 0⟩
/-- What a record makes of a book, its chain and count apart. -/
def entM (b : Bk) (r : Rc) : Option Bk :=
  if r.kd = 1 then some { b with wd := r.tx, tr := 0 }
  else if r.kd = 2 then some { b with tr := r.nm }
  else if r.kd = 3 then
    (if hasT b.ths r.th.id = true then (if grownB (ofT b.ths r.th.id) r.th = true then some { b with ths := putT b.ths r.th } else none)
     else if r.th.id = b.la + 1 ∧ b.ths.length ≠ 8 then some { b with la := r.th.id, ths := putT b.ths r.th } else none)
  else if hasT b.ths r.nm = true then some { b with ths := dropT b.ths r.nm } else none
def entEnd (b : Bk) (r : Rc) (o : Bk) : Option Bk := if bkOk { o with ch := digB (b.ch ++ rcT r), ct := b.ct + 1 } = true then some { o with ch := digB (b.ch ++ rcT r), ct := b.ct + 1 } else none
def entB (b : Bk) (r : Rc) : Option Bk := if bkOk b = true ∧ rcOk r = true ∧ b.ct ≠ 10000 then (entM b r).bind (entEnd b r) else none
def entAll : Bk → List Rc → Option Bk
  | b, [] => some b
  | b, r :: l => (entB b r).bind fun o => entAll o l
theorem entAll_app (b : Bk) (l m : List Rc) : entAll b (l ++ m) = (entAll b l).bind fun o => entAll o m := by
  induction l generalizing b with
  | nil => rfl
  | cons r l ih =>
    show (entB b r).bind (fun o => entAll o (l ++ m)) = ((entB b r).bind fun o => entAll o l).bind _
    cases entB b r with
    | none => rfl
    | some o => exact ih o
theorem entB_ok {b : Bk} {r : Rc} {o : Bk} (h : entB b r = some o) : bkOk o = true ∧ o.ct = b.ct + 1 ∧ o.ch = digB (b.ch ++ rcT r) := by
  unfold entB at h
  split at h
  · cases hm : entM b r with
    | none => rw [hm] at h; cases h
    | some q =>
      rw [hm] at h
      have h : entEnd b r q = some o := h
      unfold entEnd at h
      split at h
      · rename_i hk
        have h := Option.some.inj h
        subst h
        exact ⟨hk, rfl, rfl⟩
      · cases h
  · cases h
def chnB9 (b : Bk) (l : List Rc) : Bool := match entAll bkNew l with | none => false | some x => decide (x.ch = b.ch ∧ x.ct = b.ct)
end Go.Proofs.Ytkbbcjnickgfjaa

/- Laws of no program: rows of values of several cells each, whatever they are: rows that can be read, rows of the call's own. -/
namespace Go.Proofs.Ytkbbcjnickgfjaa
open Go.RowKit
/-- How a value of a kind lies in m cells. -/
structure Lay (α : Type) where
  m : Nat
  c : α → List Value
  pos : 0 < m
  len : ∀ x, (c x).length = m
  one : ∀ x, ∀ u ∈ c x, u.oneCell' = true
section
variable {α : Type} (L : Lay α)
/-- In block g, from o on, lie the cells of x. -/
def AtN (w : World) (g o : Nat) (x : α) : Prop := ∀ i u, (L.c x)[i]? = some u → w.cell? ⟨g, o + i, none⟩ = some u
/-- The slice value v is a row in which xs can be read. -/
def RdN (w : World) (v : Value) (xs : List α) : Prop :=
  (∃ a c, v = .slice a 0 c ∧ xs = []) ∨ ∃ g o c, v = .slice (some ⟨g, o, none⟩) xs.length c ∧ 0 < xs.length ∧ g < w.heap.size ∧ ∀ j x, xs[j]? = some x → AtN L w g (o + j * L.m) x
/-- The slice value v is a row of the call's own (blocks from base on). -/
def OwnN (w : World) (base : Nat) (e : TypeId) (v : Value) (xs : List α) : Prop := w.ownsRow base e L.m v xs.length (xs.flatMap L.c)
variable {L}
theorem AtN.below {w w' : World} {g o : Nat} {x : α} (h : AtN L w g o x) {B : Nat} (hb : Below B w w') (hg : g < B) : AtN L w' g o x := fun i u hu => (hb.cell (p := ⟨g, o + i, none⟩) hg).trans (h i u hu)
theorem RdN.below_at {w w' : World} {v : Value} {xs : List α} (h : RdN L w v xs) {B : Nat} (hb : Below B w w') (hB : ∀ g, v.ownBlock = some g → g < B) : RdN L w' v xs := by
  rcases h with h | ⟨g, o, c, rfl, hn, hg, hc⟩
  · exact .inl h
  · exact .inr ⟨g, o, c, rfl, hn, Nat.lt_of_lt_of_le hg hb.size, fun j f hj => (hc j f hj).below hb (hB g rfl)⟩
theorem RdN.below {w w' : World} {v : Value} {xs : List α} (h : RdN L w v xs) (hb : Below w.heap.size w w') : RdN L w' v xs := by
  rcases h with h | ⟨g, o, c, rfl, hn, hg, hc⟩
  · exact .inl h
  · exact .inr ⟨g, o, c, rfl, hn, Nat.lt_of_lt_of_le hg hb.size, fun j f hj => (hc j f hj).below hb hg⟩
theorem RdN.alloc {w : World} {v : Value} {xs : List α} (h : RdN L w v xs) (o : Obj) : RdN L (w.alloc o) v xs := h.below ((Below.refl _ _).alloc (Nat.le_refl _) _)
theorem RdN.drew {w : World} {v : Value} {xs : List α} (h : RdN L w v xs) : RdN L w.drew v xs := h.below (Below.refl _ _).drew
theorem RdN.grown {w w' : World} {v : Value} {xs : List α} {r : Option Nat} (h : RdN L w v xs) (hg : w.grownBy w' r) (hne : ∀ k, v.ownBlock = some k → r ≠ some k) : RdN L w' v xs := by
  rcases h with h | ⟨g, o, c, rfl, hn, hlt, hc⟩
  · exact .inl h
  · refine .inr ⟨g, o, c, rfl, hn, Nat.lt_of_lt_of_le hlt hg.size, fun j f hj i u hu => ?_⟩
    have hb := hg.block g hlt (fun e => hne g rfl e.symm)
    have h1 := hc j f hj i u hu
    unfold World.cell? at h1 ⊢
    rw [hb]
    exact h1
theorem RdN.shape {w : World} {v : Value} {xs : List α} (h : RdN L w v xs) : ∃ a c, v = .slice a xs.length c := by
  rcases h with ⟨a, c, rfl, rfl⟩ | ⟨g, o, c, rfl, _⟩
  · exact ⟨_, _, rfl⟩
  · exact ⟨_, _, rfl⟩
theorem RdN.open {w : World} {v : Value} {xs : List α} (h : RdN L w v xs) : ∃ a c, v = .slice a xs.length c ∧ ∀ j x, xs[j]? = some x → ∃ g o, a = some ⟨g, o, none⟩ ∧ g < w.heap.size ∧ AtN L w g (o + j * L.m) x := by
  rcases h with ⟨a, c, rfl, rfl⟩ | ⟨g, o, c, rfl, _, hg, hc⟩
  · exact ⟨a, c, rfl, fun j f hj => by simp at hj⟩
  · exact ⟨_, c, rfl, fun j f hj => ⟨g, o, rfl, hg, hc j f hj⟩⟩
theorem lay_len (xs : List α) : (xs.flatMap L.c).length = xs.length * L.m := by
  induction xs with
  | nil => simp
  | cons f r ih => rw [List.flatMap_cons, List.length_append, ih, L.len, List.length_cons, Nat.succ_mul]; omega
theorem lay_get (xs : List α) : ∀ (j : Nat) (x : α), xs[j]? = some x → ∀ i u, (L.c x)[i]? = some u → (xs.flatMap L.c)[j * L.m + i]? = some u := by
  induction xs with
  | nil => intro j x h; simp at h
  | cons y r ih =>
    intro j x h i u hu
    have hi : i < L.m := by rw [← L.len x]; exact (List.getElem?_eq_some_iff.1 hu).1
    rw [List.flatMap_cons]
    cases j with
    | zero =>
      simp only [List.getElem?_cons_zero, Option.some.injEq] at h
      subst h
      rw [Nat.zero_mul, Nat.zero_add, List.getElem?_append_left (by rw [L.len]; exact hi)]
      exact hu
    | succ j =>
      simp only [List.getElem?_cons_succ] at h
      rw [List.getElem?_append_right (by rw [L.len, Nat.succ_mul]; omega), L.len, show (j + 1) * L.m + i - L.m = j * L.m + i by rw [Nat.succ_mul]; omega]
      exact ih j x h i u hu
theorem OwnN.below {w w' : World} {base : Nat} {e : TypeId} {v : Value} {xs : List α} (h : OwnN L w base e v xs) (hb : Below w.heap.size w w') : OwnN L w' base e v xs :=
  World.ownsRow.kept (row := none) h ⟨hb.os, hb.tape, hb.output, hb.size, fun k hk _ => hb.block k hk⟩ (by cases hv : v.ownBlock <;> simp)
theorem OwnN.grown {w w' : World} {base : Nat} {e : TypeId} {v : Value} {xs : List α} {r : Option Nat} (h : OwnN L w base e v xs) (hg : w.grownBy w' r) (hne : ∀ k, v.ownBlock = some k → r ≠ some k) : OwnN L w' base e v xs :=
  World.ownsRow.kept h hg (by cases hv : v.ownBlock with
    | none => exact .inl rfl
    | some k => exact .inr (fun e => hne k hv e.symm))
theorem OwnN.alloc {w : World} {base : Nat} {e : TypeId} {v : Value} {xs : List α} (h : OwnN L w base e v xs) (o : Obj) : OwnN L (w.alloc o) base e v xs := World.ownsRow.alloc h o
theorem OwnN.drew {w : World} {base : Nat} {e : TypeId} {v : Value} {xs : List α} (h : OwnN L w base e v xs) : OwnN L w.drew base e v xs := h
theorem OwnN.low {w : World} {base base' : Nat} {e : TypeId} {v : Value} {xs : List α} (h : OwnN L w base e v xs) (hb : base' ≤ base) : OwnN L w base' e v xs := by
  refine ⟨h.1, ?_⟩
  rcases h.2 with hn | ⟨g, cap, cur, rfl, hbg, rest⟩
  · exact .inl hn
  · exact .inr ⟨g, cap, cur, rfl, by omega, rest⟩
theorem OwnN.lt {w : World} {base : Nat} {e : TypeId} {v : Value} {xs : List α} (h : OwnN L w base e v xs) : ∀ g, v.ownBlock = some g → base ≤ g ∧ g < w.heap.size := World.ownsRow.lt h
theorem OwnN.nil (w : World) (base : Nat) (e : TypeId) : OwnN L w base e (.slice none 0 0) [] := World.ownsRow_nil w base e L.m
theorem OwnN.rd {w : World} {base : Nat} {e : TypeId} {v : Value} {xs : List α} (h : OwnN L w base e v xs) : RdN L w v xs := by
  rcases h.2 with ⟨h1, h2⟩ | ⟨g, cap, cur, h1, hb, hg, _⟩
  · exact .inl ⟨none, 0, h1, List.eq_nil_of_length_eq_zero h2⟩
  · by_cases hz : xs.length = 0
    · exact .inl ⟨_, cap, by rw [h1, hz], List.eq_nil_of_length_eq_zero hz⟩
    · refine .inr ⟨g, 0, cap, h1, by omega, (Array.getElem?_eq_some_iff.1 hg).1, fun j x hj i u hu => ?_⟩
      have hc := World.ownsRow.cells h (g := g) (by rw [h1]; rfl)
      have hadd : ∀ k, (⟨g, 0, none⟩ : Addr).add k = ⟨g, k, none⟩ := fun k => by unfold Addr.add; split <;> simp_all
      have c1 := hc _ _ (lay_get xs j x hj i u hu)
      rw [hadd] at c1
      rw [Nat.zero_add]
      exact c1
theorem OwnN.other {w : World} {base : Nat} {e : TypeId} {v : Value} {xs : List α} (h : OwnN L w base e v xs) {a : Addr} (ha : a.block < base) (u : Value) : OwnN L (w.setCell a u) base e v xs := by
  refine ⟨h.1, ?_⟩
  rcases h.2 with hn | ⟨g, cap, cur, rfl, hbg, hgg, rest⟩
  · exact .inl hn
  · refine .inr ⟨g, cap, cur, rfl, hbg, ?_, rest⟩
    rw [RowKit.Below.heap_setCell _ _ _ _ (by omega)]
    exact hgg
theorem OwnN.len {w : World} {base n : Nat} {a : Option Addr} {c : Nat} {e : TypeId} {xs : List α} (h : OwnN L w base e (.slice a n c) xs) : xs.length = n := by
  rcases h.2 with ⟨h1, h2⟩ | ⟨g', cap, cur, h1, _⟩
  · simp only [Value.slice.injEq] at h1; omega
  · simp only [Value.slice.injEq] at h1; exact h1.2.1.symm
theorem OwnN.shape {w : World} {base : Nat} {e : TypeId} {v : Value} {xs : List α} (h : OwnN L w base e v xs) : ∃ a c, v = .slice a xs.length c := h.rd.shape
theorem wp_append_n {P : Program} {W : World} {o : Oper} {a : Act} {K : Act → World → Prop} {Q : Exit → Act → World → Prop} (s x : Operand) (t : TypeId)
    (ho : o.op = .call { callee := .builtin .append, args := #[s, x], argTypes := #[t, t] })
    (base B : Nat) (e : TypeId) (i : TypeInfo) (z : Value) (nb : Nat) (ht : P.underlying t = some (.slice e)) (hi : P.info? e = some i) (hz : i.zero = some z) (hsize : i.size = L.m) (hby : i.bytes = nb) (hzs : z.cells.size = L.m)
    (v : Value) (xs : List α) (hs : a.eval s = v) (hown : OwnN L W base e v xs)
    (blk : Nat) (cs : Array Value) (hblk : W.heap[blk]? = some (.cells cs e (0, 0))) (f : α) (hcs : cs.toList = L.c f) (c : Nat) (hx : a.eval x = .slice (some ⟨blk, 0, none⟩) 1 c)
    (hlen : xs.length ≤ 2000000) (hnb : nb ≤ 1000) (hB : B ≤ base) (hbase : base ≤ W.heap.size) {w00 : World} (hbel : Below B w00 W)
    (h : ∀ v' w', OwnN L w' base e v' (xs ++ [f]) → Below B w00 w' → K (a.put o.dst v') w') : o.wp P a W K Q := by
  have hcell : ∀ j u, (L.c f)[j]? = some u → W.cell? ((⟨blk, 0, none⟩ : Addr).add j) = some u := by
    intro j u hu
    have hadd : (⟨blk, 0, none⟩ : Addr).add j = ⟨blk, j, none⟩ := by unfold Addr.add; split <;> simp_all
    rw [hadd, cell_of_row W blk j cs e (0, 0) hblk]
    rw [← hcs] at hu
    simpa using hu
  have hmul : (xs.length + 1) * nb ≤ 140737488355328 := Nat.le_trans (Nat.mul_le_mul (show xs.length + 1 ≤ 2000001 by omega) hnb) (by decide)
  refine wp_append_own W s x t ho base e i z L.m nb ht hi hz hsize hby hzs L.pos v xs.length (xs.flatMap L.c) hs hown
    ⟨blk, 0, none⟩ 1 c (L.c f) hx (by rw [L.len, Nat.one_mul]) hcell (L.one f) (by unfold maxLen; omega) hmul hbase ?_
  intro v' w' h2 h3 _
  refine h v' w' (by unfold OwnN; rw [List.length_append, List.flatMap_append]; simpa using h2) ?_
  refine hbel.grown h3 (by omega) ?_
  intro k hk
  have := (World.ownsRow.lt hown k hk).1
  omega
theorem wpList_append_n {P : Program} {w : World} {ops : Array Oper} {rest : List Oper} {o : Oper} {a : Act} {Q : Exit → Act → World → Prop} (hgd : o.guard = none) (s x : Operand) (t : TypeId)
    (ho : o.op = .call { callee := .builtin .append, args := #[s, x], argTypes := #[t, t] })
    (base B : Nat) (e : TypeId) (i : TypeInfo) (z : Value) (nb : Nat) (ht : P.underlying t = some (.slice e)) (hi : P.info? e = some i) (hz : i.zero = some z) (hsize : i.size = L.m) (hby : i.bytes = nb) (hzs : z.cells.size = L.m)
    (v : Value) (xs : List α) (hs : a.eval s = v) (hown : OwnN L w base e v xs)
    (cs : Array Value) (f : α) (hcs : cs.toList = L.c f) (c : Nat) (hx : a.eval x = .slice (some ⟨w.heap.size, 0, none⟩) 1 c)
    (hlen : xs.length ≤ 2000000) (hnb : nb ≤ 1000) (hB : B ≤ base) (hbase : base ≤ w.heap.size) {w00 : World} (hbel : Below B w00 w)
    (h : ∀ v' w', OwnN L w' base e v' (xs ++ [f]) → Below B w00 w' → wpList P ops Q rest (a.put o.dst v') w') :
    wpList P ops Q (o :: rest) a (w.alloc (.cells cs e)) :=
  wpList_plain hgd fun _ hK => wp_append_n s x t ho base B e i z nb ht hi hz hsize hby hzs v xs hs (hown.alloc _) w.heap.size cs (heap_alloc_new w _) f hcs c hx hlen hnb hB (by simp; omega) (hbel.alloc (by omega) _) fun v' w' h2 h3 => hK _ _ (h v' w' h2 h3)
theorem OwnN.rowf {w : World} {base g n c : Nat} {e : TypeId} {xs : List α} (h : OwnN L w base e (.slice (some ⟨g, 0, none⟩) n c) xs) : ∃ cur, w.heap[g]? = some (.cells cur e (0, 0)) := by
  rcases h.2 with ⟨h1, _⟩ | ⟨g', cap, cur, h1, _, h2, _⟩
  · cases h1
  · simp only [Value.slice.injEq, Option.some.injEq, Addr.mk.injEq] at h1
    obtain ⟨⟨rfl, _⟩, _⟩ := h1
    exact ⟨cur, h2⟩
theorem OwnN.frozen {w : World} {base g n c : Nat} {e : TypeId} {xs : List α} (h : OwnN L w base e (.slice (some ⟨g, 0, none⟩) n c) xs) (k : Nat) : w.frozen? ⟨g, k, none⟩ = false := by
  obtain ⟨cur, hc⟩ := h.rowf
  exact frozen_of_row w g k cur e hc
theorem OwnN.at {w : World} {base g n c : Nat} {e : TypeId} {xs : List α} (h : OwnN L w base e (.slice (some ⟨g, 0, none⟩) n c) xs) {k : Nat} {x : α} (hx : xs[k]? = some x) : AtN L w g (k * L.m) x := fun i u hu => by
  have hc := World.ownsRow.cells h (g := g) rfl
  have hadd : ∀ k, (⟨g, 0, none⟩ : Addr).add k = ⟨g, k, none⟩ := fun k => by unfold Addr.add; split <;> simp_all
  have c1 := hc _ _ (lay_get xs k x hx i u hu)
  rw [hadd] at c1
  exact c1
theorem lay_inj_at {xs : List α} {n : Nat} (zs : List Value) (hz : zs.length = n * L.m) (hn : xs.length = n) (h : ∀ j x, xs[j]? = some x → ∀ i u, (L.c x)[i]? = some u → zs[j * L.m + i]? = some u) : zs = xs.flatMap L.c := by
  apply List.ext_getElem?
  intro k
  by_cases hk : k < n * L.m
  · have hq : k / L.m < n := (Nat.div_lt_iff_lt_mul L.pos).2 hk
    have hr : k % L.m < L.m := Nat.mod_lt _ L.pos
    have hx := List.getElem?_eq_getElem (show k / L.m < xs.length by omega)
    have hu := List.getElem?_eq_getElem (show k % L.m < (L.c xs[k / L.m]).length by rw [L.len]; exact hr)
    have e : k / L.m * L.m + k % L.m = k := by rw [Nat.mul_comm]; exact Nat.div_add_mod k L.m
    have h1 := h _ _ hx _ _ hu
    have h2 := lay_get xs _ _ hx _ _ hu
    rw [e] at h1 h2
    rw [h1, h2]
  · rw [List.getElem?_eq_none (by omega), List.getElem?_eq_none (by rw [lay_len, hn]; omega)]
end
end Go.Proofs.Ytkbbcjnickgfjaa

/- The laws' helpers on things, over the loaded program. -/
namespace Go.Proofs.Ytkbbcjnickgfjaa
open Go.RowKit
theorem cb_eq {w : World} {g : Nat} {T : TypeId} {cs cs' : Array Value} (h : CB w g T cs) (e : cs' = cs) : CB w g T cs' := by rw [e]; exact h
set_option maxRecDepth 20000 in
set_option maxHeartbeats 1000000 in
theorem eqThing_any (x : Th) (w : World) :
    Calls Try.prog 50 #[.agg (thC x), .agg (thC x)] w fun e w' => e = .returned (.bool true) ∧ Below w.heap.size w w' := by
  obtain ⟨id, kind, hid, fix, sgn, wrp, val, nxt⟩ := x
  unfold thC
  simp only
  obtain ⟨W, hW, hA, hB, hb, hlt⟩ := two_cb w #[.int .i64 id, .int .i64 kind, .bool hid, .bool fix, .bool sgn, .bool wrp, .string val, .int .i64 nxt] #[.int .i64 id, .int .i64 kind, .bool hid, .bool fix, .bool sgn, .bool wrp, .string val, .int .i64 nxt] 25 25
  have a0 := hA.cell 0 rfl
  have b0 := hB.cell 0 rfl
  have a1 := hA.cell 1 rfl
  have b1 := hB.cell 1 rfl
  have a2 := hA.cell 2 rfl
  have b2 := hB.cell 2 rfl
  have a3 := hA.cell 3 rfl
  have b3 := hB.cell 3 rfl
  have a4 := hA.cell 4 rfl
  have b4 := hB.cell 4 rfl
  have a5 := hA.cell 5 rfl
  have b5 := hB.cell 5 rfl
  have a6 := hA.cell 6 rfl
  have b6 := hB.cell 6 rfl
  have a7 := hA.cell 7 rfl
  have b7 := hB.cell 7 rfl
  clear hA hB
  go_enter Try.func50, Try.ntmps50
  go_wp2
  go_ret
  exact ⟨rfl, hb⟩
end Go.Proofs.Ytkbbcjnickgfjaa

/- Books: how things and records lie in cells; rows of them. -/
namespace Go.Proofs.Ytkbbcjnickgfjaa
open Go.RowKit
def thY : Lay Th where
  m := 8
  c := fun x => (thC x).toList
  pos := by decide
  len := fun _ => rfl
  one := fun x u hu => by
    simp only [thC, List.mem_cons, List.mem_nil_iff, or_false] at hu
    rcases hu with rfl | rfl | rfl | rfl | rfl | rfl | rfl | rfl <;> rfl
def rcY : Lay Rc where
  m := 11
  c := fun x => (rcC x).toList
  pos := by decide
  len := fun _ => rfl
  one := fun x u hu => by
    simp only [rcC, List.mem_cons, List.mem_nil_iff, or_false] at hu
    rcases hu with rfl | rfl | rfl | rfl | rfl | rfl | rfl | rfl | rfl | rfl | rfl <;> rfl
theorem rc_size (x : Rc) : (rcC x).size = 11 := rfl
theorem rc_one (x : Rc) : (rcC x).all (·.oneCell') = true := by unfold rcC; simp [Value.oneCell']
/-- The eight cells of a thing, as they lie. -/
theorem AtN.th {w : World} {g o : Nat} {x : Th} (h : AtN thY w g o x) : w.cell? ⟨g, o, none⟩ = some (.int .i64 x.id) ∧ w.cell? ⟨g, o + 1, none⟩ = some (.int .i64 x.kind) ∧ w.cell? ⟨g, o + 2, none⟩ = some (.bool x.hid) ∧ w.cell? ⟨g, o + 3, none⟩ = some (.bool x.fix) ∧ w.cell? ⟨g, o + 4, none⟩ = some (.bool x.sgn) ∧ w.cell? ⟨g, o + 5, none⟩ = some (.bool x.wrp) ∧ w.cell? ⟨g, o + 6, none⟩ = some (.string x.val) ∧ w.cell? ⟨g, o + 7, none⟩ = some (.int .i64 x.nxt) :=
  ⟨h 0 _ rfl, h 1 _ rfl, h 2 _ rfl, h 3 _ rfl, h 4 _ rfl, h 5 _ rfl, h 6 _ rfl, h 7 _ rfl⟩
/-- The book b, read: its things lie in a row that can be read. -/
def bkv (b : Bk) (v : Value) : Value := .agg #[.string b.wd, .int .i64 b.tr, v, .int .i64 b.la, .string b.ch, .int .i64 b.ct]
def RdBk (w : World) (v : Value) (b : Bk) : Prop := ∃ u, v = bkv b u ∧ RdN thY w u b.ths
/-- The book b, its row of things of the call's own. -/
def OwnBk (w : World) (base : Nat) (e : TypeId) (v : Value) (b : Bk) : Prop := ∃ u, v = bkv b u ∧ OwnN thY w base e u b.ths
theorem OwnBk.rd {w : World} {base : Nat} {e : TypeId} {v : Value} {b : Bk} (h : OwnBk w base e v b) : RdBk w v b := by
  obtain ⟨u, e, h⟩ := h
  exact ⟨u, e, h.rd⟩
theorem RdBk.below {w w' : World} {v : Value} {b : Bk} (h : RdBk w v b) (hb : Below w.heap.size w w') : RdBk w' v b := by
  obtain ⟨u, e, h⟩ := h
  exact ⟨u, e, h.below hb⟩
theorem OwnBk.below {w w' : World} {base : Nat} {e : TypeId} {v : Value} {b : Bk} (h : OwnBk w base e v b) (hb : Below w.heap.size w w') : OwnBk w' base e v b := by
  obtain ⟨u, e, h⟩ := h
  exact ⟨u, e, h.below hb⟩
theorem OwnBk.low {w : World} {base base' : Nat} {e : TypeId} {v : Value} {b : Bk} (h : OwnBk w base e v b) (hb : base' ≤ base) : OwnBk w base' e v b := by
  obtain ⟨u, e, h⟩ := h
  exact ⟨u, e, h.low hb⟩
theorem RdBk.open {w : World} {v : Value} {b : Bk} (h : RdBk w v b) : ∃ a n c, v = .agg #[.string b.wd, .int .i64 b.tr, .slice a n c, .int .i64 b.la, .string b.ch, .int .i64 b.ct] ∧ n = b.ths.length ∧ RdN thY w (.slice a n c) b.ths := by
  obtain ⟨u, rfl, h⟩ := h
  obtain ⟨a, c, rfl⟩ := h.shape
  exact ⟨a, _, c, rfl, rfl, h⟩
end Go.Proofs.Ytkbbcjnickgfjaa

/- A thing held against the zero thing, over the loaded program. -/
namespace Go.Proofs.Ytkbbcjnickgfjaa
open Go.RowKit
set_option maxRecDepth 20000 in
set_option maxHeartbeats 1600000 in
theorem eqZ (x : Th) (W : World) : (binOp .eql 25 (.agg (thC x)) (.agg #[.int .i64 0, .int .i64 0, .bool false, .bool false, .bool false, .bool false, .string ⟨#[]⟩, .int .i64 0])).run Try.prog W = .ok (.bool (thNo x)) W := by
  obtain ⟨id, kind, hid, fix, sgn, wrp, val, nxt⟩ := x
  simp only [thC]
  have HN : thNo ⟨id, kind, hid, fix, sgn, wrp, val, nxt⟩ = (decide (id = 0) && (decide (kind = 0) && (!hid && (!fix && (!sgn && (!wrp && (decide (val = ⟨#[]⟩) && decide (nxt = 0)))))))) := by
    unfold thNo ThNo
    cases hid <;> cases fix <;> cases sgn <;> cases wrp <;> simp
  rw [HN]
  by_cases h1 : id = 0
  · subst h1
    by_cases h2 : kind = 0
    · subst h2
      cases hid <;> cases fix <;> cases sgn <;> cases wrp
      all_goals
        by_cases h3 : val = ⟨#[]⟩
        · subst h3
          by_cases h4 : nxt = 0
          · subst h4; go_simp
          · go_simp
        · have h5 : ¬ val.toList = [] := fun h => h3 (ByteArray.ext (Array.toList_inj.1 (by rw [← ByteArray.toList_eq, h])))
          go_simp
    · go_simp
  · go_simp
end Go.Proofs.Ytkbbcjnickgfjaa

/- Records by the given model: texts, over the loaded program. -/
namespace Go.Proofs.Ytkbbcjnickgfjaa
open Go.RowKit
theorem pre21 (k : Nat) (s : ByteArray) : (⟨(byteOf k :: s.data.toList).toArray⟩ : ByteArray) = ⟨#[byteOf k]⟩ ++ s := by
  apply ByteArray.ext
  apply Array.toList_inj.1
  rw [ByteArray.data_append]
  simp
theorem ttB_le (x : Th) : (ttB x).size ≤ 200 := by
  unfold ttB
  split
  · exact thT_le ‹_›
  · exact Nat.zero_le _
set_option maxRecDepth 20000 in
set_option maxHeartbeats 6400000 in
theorem specRecText_any (r : Rc) (w : World) :
    Calls Try.prog 10 #[.agg (rcC r)] w fun e w' => e = .returned (.tuple #[.string (rcT r), .bool (rcOk r)]) ∧ Below w.heap.size w w' := by
  obtain ⟨kd, tx, nm, ⟨id, kind, hid, fix, sgn, wrp, val, nxt⟩⟩ := r
  obtain ⟨no, hno⟩ : ∃ b, b = thNo ⟨id, kind, hid, fix, sgn, wrp, val, nxt⟩ := ⟨_, rfl⟩
  obtain ⟨ot, hot⟩ : ∃ b, b = thOk ⟨id, kind, hid, fix, sgn, wrp, val, nxt⟩ := ⟨_, rfl⟩
  have N1 : no = true ↔ ThNo ⟨id, kind, hid, fix, sgn, wrp, val, nxt⟩ := by rw [hno]; unfold thNo; exact decide_eq_true_iff
  have N2 : ot = true ↔ ThOk ⟨id, kind, hid, fix, sgn, wrp, val, nxt⟩ := by rw [hot]; exact thOk_iff _
  have CV := hide (fun (n : Nat) (hn : n ≤ 1000000000) W => l01Var_any n W hn)
  have CI := hide (fun (a b : Int) W => l01In_any nm a b W)
  have CT := hide (fun W => specThingText_any ⟨id, kind, hid, fix, sgn, wrp, val, nxt⟩ W)
  rw [← hot] at CT
  have TB : ot = true → ttB ⟨id, kind, hid, fix, sgn, wrp, val, nxt⟩ = ⟨(thL ⟨id, kind, hid, fix, sgn, wrp, val, nxt⟩).toArray⟩ := fun h => by unfold ttB; rw [← hot, if_pos h]; rfl
  have HT := ttB_le ⟨id, kind, hid, fix, sgn, wrp, val, nxt⟩
  generalize ttB ⟨id, kind, hid, fix, sgn, wrp, val, nxt⟩ = tt at *
  replace HT := hide HT
  have RO := rcOk_iff ⟨kd, tx, nm, ⟨id, kind, hid, fix, sgn, wrp, val, nxt⟩⟩
  have RN := rcOk_not ⟨kd, tx, nm, ⟨id, kind, hid, fix, sgn, wrp, val, nxt⟩⟩
  have RT : rcT ⟨kd, tx, nm, ⟨id, kind, hid, fix, sgn, wrp, val, nxt⟩⟩ = if rcOk ⟨kd, tx, nm, ⟨id, kind, hid, fix, sgn, wrp, val, nxt⟩⟩ = true then ⟨(rcL ⟨kd, tx, nm, ⟨id, kind, hid, fix, sgn, wrp, val, nxt⟩⟩).toArray⟩ else ⟨#[]⟩ := rfl
  unfold RcOk at RO RN
  dsimp only at RO RN
  rw [← N1, ← N2] at RO RN
  unfold rcL at RT
  dsimp only at RT
  generalize thL ⟨id, kind, hid, fix, sgn, wrp, val, nxt⟩ = tl at *
  generalize rcOk ⟨kd, tx, nm, ⟨id, kind, hid, fix, sgn, wrp, val, nxt⟩⟩ = ok at *
  generalize rcT ⟨kd, tx, nm, ⟨id, kind, hid, fix, sgn, wrp, val, nxt⟩⟩ = rt at *
  simp only [rcC]
  replace CT := hide (show ∀ W, Calls Try.prog 30 #[.agg #[.int .i64 id, .int .i64 kind, .bool hid, .bool fix, .bool sgn, .bool wrp, .string val, .int .i64 nxt]] W (fun e w' => e = .returned (.tuple #[.string tt, .bool ot]) ∧ Below W.heap.size W w') from unhide CT)
  replace RO := hide RO; replace RN := hide RN; replace RT := hide RT; replace N2 := hide N2; replace TB := hide TB; replace hot := hide hot; replace N1 := hide N1
  have EZ := fun W => eqZ ⟨id, kind, hid, fix, sgn, wrp, val, nxt⟩ W
  rw [← hno] at EZ
  simp only [thC] at EZ
  replace hno := hide hno
  go_enter Try.func10, Try.ntmps10
  obtain ⟨W, hW, hX, hB, hs1⟩ := one_cb w #[.int .i64 kd, .string tx, .int .i64 nm, .int .i64 id, .int .i64 kind, .bool hid, .bool fix, .bool sgn, .bool wrp, .string val, .int .i64 nxt] 27
  have x0 := hX.cell 0 (v := (.int .i64 _)) rfl
  have x1 := hX.cell 1 (v := (.string _)) rfl
  have x2 := hX.cell 2 (v := (.int .i64 _)) rfl
  have x3 := hX.cell 3 (v := (.int .i64 _)) rfl
  have x4 := hX.cell 4 (v := (.int .i64 _)) rfl
  have x5 := hX.cell 5 (v := (.bool _)) rfl
  have x6 := hX.cell 6 (v := (.bool _)) rfl
  have x7 := hX.cell 7 (v := (.bool _)) rfl
  have x8 := hX.cell 8 (v := (.bool _)) rfl
  have x9 := hX.cell 9 (v := (.string _)) rfl
  have x10 := hX.cell 10 (v := (.int .i64 _)) rfl
  go_upto_region 3 with fail
  clear hW hno N1 hot N2 EZ
  by_cases k1 : kd = 1
  · subst k1
    by_cases c1 : tx.size = 32
    · have c1' : (tx.size : Int) = 32 := by omega
      by_cases c2 : nm = 0
      · cases no with
        | false =>
          have hok : ok = false := (unhide RN).2 (by rintro (⟨q1, q2, q3, q4⟩ | ⟨q1, q2, q3, q4, q5⟩ | ⟨q1, q2, q3, q4⟩ | ⟨q1, q2, q3, q4, q5⟩) <;> first | omega | (simp_all; done) | (exact absurd q1 (by decide)))
          have hrt := unhide RT
          rw [hok, if_neg (by decide)] at hrt
          subst hok
          subst hrt
          clear RO RN RT TB CV CI CT
          go_wp2
          go_ret2
          exact ⟨rfl, hB⟩
        | true =>
          have hok : ok = true := (unhide RO).2 (.inl ⟨rfl, c1, c2, rfl⟩)
          have hrt := unhide RT
          rw [hok, if_pos rfl, if_pos rfl] at hrt
          have hp : (⟨(byteOf (Int.toNat 1) :: tx.data.toList).toArray⟩ : ByteArray) = ⟨#[1]⟩ ++ tx := pre21 1 tx
          rw [hp] at hrt
          subst hok
          subst hrt
          clear hp
          have s1 : ¬ 9223372036854775807 < 1 + tx.size := by omega
          have s2 : 1 + tx.size ≤ 9223372036854775807 := by omega
          replace c1 := hide c1
          clear RO RN RT TB CV CI CT
          go_wp2
          go_ret2
          exact ⟨rfl, hB⟩
      · skip
        have hok : ok = false := (unhide RN).2 (by rintro (⟨q1, q2, q3, q4⟩ | ⟨q1, q2, q3, q4, q5⟩ | ⟨q1, q2, q3, q4⟩ | ⟨q1, q2, q3, q4, q5⟩) <;> first | omega | (simp_all; done) | (exact absurd q1 (by decide)))
        have hrt := unhide RT
        rw [hok, if_neg (by decide)] at hrt
        subst hok
        subst hrt
        clear RO RN RT TB CV CI CT
        go_wp2
        go_ret2
        exact ⟨rfl, hB⟩
    · have c1' : ¬ (tx.size : Int) = 32 := by omega
      have hok : ok = false := (unhide RN).2 (by rintro (⟨q1, q2, q3, q4⟩ | ⟨q1, q2, q3, q4, q5⟩ | ⟨q1, q2, q3, q4⟩ | ⟨q1, q2, q3, q4, q5⟩) <;> first | omega | (simp_all; done) | (exact absurd q1 (by decide)))
      have hrt := unhide RT
      rw [hok, if_neg (by decide)] at hrt
      subst hok
      subst hrt
      clear RO RN RT TB CV CI CT
      go_wp2
      go_ret2
      exact ⟨rfl, hB⟩
  · skip
    by_cases k2 : kd = 2
    · subst k2
      by_cases c1 : tx.size = 0
      · have e1 := size_zero_is c1
        subst e1
        cases no with
        | false =>
          have hok : ok = false := (unhide RN).2 (by rintro (⟨q1, q2, q3, q4⟩ | ⟨q1, q2, q3, q4, q5⟩ | ⟨q1, q2, q3, q4⟩ | ⟨q1, q2, q3, q4, q5⟩) <;> first | omega | (simp_all; done) | (exact absurd q1 (by decide)))
          have hrt := unhide RT
          rw [hok, if_neg (by decide)] at hrt
          subst hok
          subst hrt
          clear RO RN RT TB CV CI CT
          go_wp2
          go_ret2
          exact ⟨rfl, hB⟩
        | true =>
          by_cases c2 : 0 ≤ nm ∧ nm ≤ 3
          · obtain ⟨c2, c3⟩ := c2
            have d1 : decide ((0 : Int) ≤ nm) = true := decide_eq_true c2
            have d2 : decide (nm ≤ (3 : Int)) = true := decide_eq_true c3
            obtain ⟨m, hm⟩ : ∃ m : Nat, nm = (m : Int) := ⟨nm.toNat, by omega⟩
            subst hm
            have hok : ok = true := (unhide RO).2 (.inr (.inl ⟨rfl, rfl, rfl, c2, c3⟩))
            have hrt := unhide RT
            rw [hok, if_pos rfl, if_neg (by decide), if_neg (by decide)] at hrt
            subst hok
            have I1 := hide (unhide CI 0 3)
            have V1 := hide (unhide CV m (by omega))
            rw [d1, d2] at I1
            have hvs : (ByteArray.mk (varB m).toArray).size ≤ 2000 := by show (varB m).toArray.size ≤ 2000; simp; have := (varB_len m).2; omega
            have tn : ((m : Int)).toNat = m := Int.toNat_natCast m
            rw [tn] at hrt
            have hp : (⟨(byteOf (Int.toNat 2) :: varB m).toArray⟩ : ByteArray) = ⟨#[2]⟩ ++ ⟨(varB m).toArray⟩ := pre21 2 ⟨(varB m).toArray⟩
            rw [hp] at hrt
            generalize (ByteArray.mk (varB m).toArray) = vb at *
            subst hrt
            have s1 : ¬ 9223372036854775807 < 1 + vb.size := by omega
            have s2 : 1 + vb.size ≤ 9223372036854775807 := by omega
            clear RO RN RT TB CV CI CT d1 d2 hp tn
            go_wp2_with fail
            refine (unhide I1 _).mono ?_
            rintro e u1 ⟨rfl, hu1⟩
            subst hu1
            go_wp2_with fail
            refine (unhide V1 _).mono ?_
            rintro e u2 ⟨rfl, hb2⟩
            have T2 := hB.trans (hb2.mono hB.size)
            clear I1 V1 hb2
            go_wp2
            go_ret2
            exact ⟨rfl, T2⟩
          · have I1 := hide (unhide CI 0 3)
            have d1 : (decide ((0 : Int) ≤ nm) && decide (nm ≤ (3 : Int))) = false := by
              rw [Bool.and_eq_false_iff]
              rcases Int.lt_or_le nm 0 with q | q
              · exact .inl (decide_eq_false (by omega))
              · exact .inr (decide_eq_false (by omega))
            rw [d1] at I1
            have hok : ok = false := (unhide RN).2 (by rintro (⟨q1, q2, q3, q4⟩ | ⟨q1, q2, q3, q4, q5⟩ | ⟨q1, q2, q3, q4⟩ | ⟨q1, q2, q3, q4, q5⟩) <;> first | omega | (simp_all; done) | (exact absurd q1 (by decide)))
            have hrt := unhide RT
            rw [hok, if_neg (by decide)] at hrt
            subst hok
            subst hrt
            clear RO RN RT TB CV CI CT d1
            go_wp2_with fail
            refine (unhide I1 _).mono ?_
            rintro e u1 ⟨rfl, hu1⟩
            subst hu1
            go_wp2
            go_ret2
            exact ⟨rfl, hB⟩
      · have c1' : ¬ tx.toList = [] := fun h => c1 (by show tx.data.size = 0; rw [← Array.length_toList, ← ByteArray.toList_eq, h]; rfl)
        have hok : ok = false := (unhide RN).2 (by rintro (⟨q1, q2, q3, q4⟩ | ⟨q1, q2, q3, q4, q5⟩ | ⟨q1, q2, q3, q4⟩ | ⟨q1, q2, q3, q4, q5⟩) <;> first | omega | (simp_all; done) | (exact absurd q1 (by decide)))
        have hrt := unhide RT
        rw [hok, if_neg (by decide)] at hrt
        subst hok
        subst hrt
        clear RO RN RT TB CV CI CT
        go_wp2
        go_ret2
        exact ⟨rfl, hB⟩
    · skip
      by_cases k3 : kd = 3
      · subst k3
        cases ot with
        | false =>
          have hok : ok = false := (unhide RN).2 (by rintro (⟨q1, q2, q3, q4⟩ | ⟨q1, q2, q3, q4, q5⟩ | ⟨q1, q2, q3, q4⟩ | ⟨q1, q2, q3, q4, q5⟩) <;> first | omega | (simp_all; done) | (exact absurd q1 (by decide)))
          have hrt := unhide RT
          rw [hok, if_neg (by decide)] at hrt
          subst hok
          subst hrt
          clear RO RN RT TB CV CI
          go_wp2_with fail
          refine (unhide CT W).mono ?_
          rintro e u1 ⟨rfl, hb1⟩
          have T1 := hB.trans (hb1.mono hB.size)
          have hX1 := hX.step hb1
          clear hb1 hB hX x0 x1 x2 x3 x4 x5 x6 x7 x8 x9 x10 CT
          have x0 := hX1.cell 0 (v := (.int .i64 _)) rfl
          have x1 := hX1.cell 1 (v := (.string _)) rfl
          have x2 := hX1.cell 2 (v := (.int .i64 _)) rfl
          have x3 := hX1.cell 3 (v := (.int .i64 _)) rfl
          have x4 := hX1.cell 4 (v := (.int .i64 _)) rfl
          have x5 := hX1.cell 5 (v := (.bool _)) rfl
          have x6 := hX1.cell 6 (v := (.bool _)) rfl
          have x7 := hX1.cell 7 (v := (.bool _)) rfl
          have x8 := hX1.cell 8 (v := (.bool _)) rfl
          have x9 := hX1.cell 9 (v := (.string _)) rfl
          have x10 := hX1.cell 10 (v := (.int .i64 _)) rfl
          go_wp2
          go_ret2
          exact ⟨rfl, T1⟩
        | true =>
          by_cases c1 : tx.size = 0
          · have e1 := size_zero_is c1
            subst e1
            by_cases c2 : nm = 0
            · have hok : ok = true := (unhide RO).2 (.inr (.inr (.inl ⟨rfl, rfl, rfl, c2⟩)))
              have hrt := unhide RT
              rw [hok, if_pos rfl, if_neg (by decide), if_pos rfl] at hrt
              subst hok
              have htt := unhide TB rfl
              have hp : (⟨(byteOf (Int.toNat 3) :: tl).toArray⟩ : ByteArray) = ⟨#[3]⟩ ++ tt := by rw [htt]; exact pre21 3 ⟨tl.toArray⟩
              rw [hp] at hrt
              subst hrt
              have s0 := unhide HT
              have s1 : ¬ 9223372036854775807 < 1 + tt.size := by omega
              have s2 : 1 + tt.size ≤ 9223372036854775807 := by omega
              clear RO RN RT TB CV CI hp htt s0
              go_wp2_with fail
              refine (unhide CT W).mono ?_
              rintro e u1 ⟨rfl, hb1⟩
              have T1 := hB.trans (hb1.mono hB.size)
              have hX1 := hX.step hb1
              clear hb1 hB hX x0 x1 x2 x3 x4 x5 x6 x7 x8 x9 x10 CT
              have x0 := hX1.cell 0 (v := (.int .i64 _)) rfl
              have x1 := hX1.cell 1 (v := (.string _)) rfl
              have x2 := hX1.cell 2 (v := (.int .i64 _)) rfl
              have x3 := hX1.cell 3 (v := (.int .i64 _)) rfl
              have x4 := hX1.cell 4 (v := (.int .i64 _)) rfl
              have x5 := hX1.cell 5 (v := (.bool _)) rfl
              have x6 := hX1.cell 6 (v := (.bool _)) rfl
              have x7 := hX1.cell 7 (v := (.bool _)) rfl
              have x8 := hX1.cell 8 (v := (.bool _)) rfl
              have x9 := hX1.cell 9 (v := (.string _)) rfl
              have x10 := hX1.cell 10 (v := (.int .i64 _)) rfl
              go_wp2
              go_ret2
              exact ⟨rfl, T1⟩
            · skip
              have hok : ok = false := (unhide RN).2 (by rintro (⟨q1, q2, q3, q4⟩ | ⟨q1, q2, q3, q4, q5⟩ | ⟨q1, q2, q3, q4⟩ | ⟨q1, q2, q3, q4, q5⟩) <;> first | omega | (simp_all; done) | (exact absurd q1 (by decide)))
              have hrt := unhide RT
              rw [hok, if_neg (by decide)] at hrt
              subst hok
              subst hrt
              clear RO RN RT TB CV CI
              go_wp2_with fail
              refine (unhide CT W).mono ?_
              rintro e u1 ⟨rfl, hb1⟩
              have T1 := hB.trans (hb1.mono hB.size)
              have hX1 := hX.step hb1
              clear hb1 hB hX x0 x1 x2 x3 x4 x5 x6 x7 x8 x9 x10 CT
              have x0 := hX1.cell 0 (v := (.int .i64 _)) rfl
              have x1 := hX1.cell 1 (v := (.string _)) rfl
              have x2 := hX1.cell 2 (v := (.int .i64 _)) rfl
              have x3 := hX1.cell 3 (v := (.int .i64 _)) rfl
              have x4 := hX1.cell 4 (v := (.int .i64 _)) rfl
              have x5 := hX1.cell 5 (v := (.bool _)) rfl
              have x6 := hX1.cell 6 (v := (.bool _)) rfl
              have x7 := hX1.cell 7 (v := (.bool _)) rfl
              have x8 := hX1.cell 8 (v := (.bool _)) rfl
              have x9 := hX1.cell 9 (v := (.string _)) rfl
              have x10 := hX1.cell 10 (v := (.int .i64 _)) rfl
              go_wp2
              go_ret2
              exact ⟨rfl, T1⟩
          · have c1' : ¬ tx.toList = [] := fun h => c1 (by show tx.data.size = 0; rw [← Array.length_toList, ← ByteArray.toList_eq, h]; rfl)
            have hok : ok = false := (unhide RN).2 (by rintro (⟨q1, q2, q3, q4⟩ | ⟨q1, q2, q3, q4, q5⟩ | ⟨q1, q2, q3, q4⟩ | ⟨q1, q2, q3, q4, q5⟩) <;> first | omega | (simp_all; done) | (exact absurd q1 (by decide)))
            have hrt := unhide RT
            rw [hok, if_neg (by decide)] at hrt
            subst hok
            subst hrt
            clear RO RN RT TB CV CI
            go_wp2_with fail
            refine (unhide CT W).mono ?_
            rintro e u1 ⟨rfl, hb1⟩
            have T1 := hB.trans (hb1.mono hB.size)
            have hX1 := hX.step hb1
            clear hb1 hB hX x0 x1 x2 x3 x4 x5 x6 x7 x8 x9 x10 CT
            have x0 := hX1.cell 0 (v := (.int .i64 _)) rfl
            have x1 := hX1.cell 1 (v := (.string _)) rfl
            have x2 := hX1.cell 2 (v := (.int .i64 _)) rfl
            have x3 := hX1.cell 3 (v := (.int .i64 _)) rfl
            have x4 := hX1.cell 4 (v := (.int .i64 _)) rfl
            have x5 := hX1.cell 5 (v := (.bool _)) rfl
            have x6 := hX1.cell 6 (v := (.bool _)) rfl
            have x7 := hX1.cell 7 (v := (.bool _)) rfl
            have x8 := hX1.cell 8 (v := (.bool _)) rfl
            have x9 := hX1.cell 9 (v := (.string _)) rfl
            have x10 := hX1.cell 10 (v := (.int .i64 _)) rfl
            go_wp2
            go_ret2
            exact ⟨rfl, T1⟩
      · skip
        by_cases k4 : kd = 4
        · subst k4
          by_cases c1 : tx.size = 0
          · have e1 := size_zero_is c1
            subst e1
            cases no with
            | false =>
              have hok : ok = false := (unhide RN).2 (by rintro (⟨q1, q2, q3, q4⟩ | ⟨q1, q2, q3, q4, q5⟩ | ⟨q1, q2, q3, q4⟩ | ⟨q1, q2, q3, q4, q5⟩) <;> first | omega | (simp_all; done) | (exact absurd q1 (by decide)))
              have hrt := unhide RT
              rw [hok, if_neg (by decide)] at hrt
              subst hok
              subst hrt
              clear RO RN RT TB CV CI CT
              go_wp2
              go_ret2
              exact ⟨rfl, hB⟩
            | true =>
              by_cases c2 : 1 ≤ nm ∧ nm ≤ 1000
              · obtain ⟨c2, c3⟩ := c2
                have d1 : decide ((1 : Int) ≤ nm) = true := decide_eq_true c2
                have d2 : decide (nm ≤ (1000 : Int)) = true := decide_eq_true c3
                obtain ⟨m, hm⟩ : ∃ m : Nat, nm = (m : Int) := ⟨nm.toNat, by omega⟩
                subst hm
                have hok : ok = true := (unhide RO).2 (.inr (.inr (.inr ⟨rfl, rfl, rfl, c2, c3⟩)))
                have hrt := unhide RT
                rw [hok, if_pos rfl, if_neg (by decide), if_neg (by decide)] at hrt
                subst hok
                have I1 := hide (unhide CI 1 1000)
                have V1 := hide (unhide CV m (by omega))
                rw [d1, d2] at I1
                have hvs : (ByteArray.mk (varB m).toArray).size ≤ 2000 := by show (varB m).toArray.size ≤ 2000; simp; have := (varB_len m).2; omega
                have tn : ((m : Int)).toNat = m := Int.toNat_natCast m
                rw [tn] at hrt
                have hp : (⟨(byteOf (Int.toNat 4) :: varB m).toArray⟩ : ByteArray) = ⟨#[4]⟩ ++ ⟨(varB m).toArray⟩ := pre21 4 ⟨(varB m).toArray⟩
                rw [hp] at hrt
                generalize (ByteArray.mk (varB m).toArray) = vb at *
                subst hrt
                have s1 : ¬ 9223372036854775807 < 1 + vb.size := by omega
                have s2 : 1 + vb.size ≤ 9223372036854775807 := by omega
                clear RO RN RT TB CV CI CT d1 d2 hp tn
                go_wp2_with fail
                refine (unhide I1 _).mono ?_
                rintro e u1 ⟨rfl, hu1⟩
                subst hu1
                go_wp2_with fail
                refine (unhide V1 _).mono ?_
                rintro e u2 ⟨rfl, hb2⟩
                have T2 := hB.trans (hb2.mono hB.size)
                clear I1 V1 hb2
                go_wp2
                go_ret2
                exact ⟨rfl, T2⟩
              · have I1 := hide (unhide CI 1 1000)
                have d1 : (decide ((1 : Int) ≤ nm) && decide (nm ≤ (1000 : Int))) = false := by
                  rw [Bool.and_eq_false_iff]
                  rcases Int.lt_or_le nm 1 with q | q
                  · exact .inl (decide_eq_false (by omega))
                  · exact .inr (decide_eq_false (by omega))
                rw [d1] at I1
                have hok : ok = false := (unhide RN).2 (by rintro (⟨q1, q2, q3, q4⟩ | ⟨q1, q2, q3, q4, q5⟩ | ⟨q1, q2, q3, q4⟩ | ⟨q1, q2, q3, q4, q5⟩) <;> first | omega | (simp_all; done) | (exact absurd q1 (by decide)))
                have hrt := unhide RT
                rw [hok, if_neg (by decide)] at hrt
                subst hok
                subst hrt
                clear RO RN RT TB CV CI CT d1
                go_wp2_with fail
                refine (unhide I1 _).mono ?_
                rintro e u1 ⟨rfl, hu1⟩
                subst hu1
                go_wp2
                go_ret2
                exact ⟨rfl, hB⟩
          · have c1' : ¬ tx.toList = [] := fun h => c1 (by show tx.data.size = 0; rw [← Array.length_toList, ← ByteArray.toList_eq, h]; rfl)
            have hok : ok = false := (unhide RN).2 (by rintro (⟨q1, q2, q3, q4⟩ | ⟨q1, q2, q3, q4, q5⟩ | ⟨q1, q2, q3, q4⟩ | ⟨q1, q2, q3, q4, q5⟩) <;> first | omega | (simp_all; done) | (exact absurd q1 (by decide)))
            have hrt := unhide RT
            rw [hok, if_neg (by decide)] at hrt
            subst hok
            subst hrt
            clear RO RN RT TB CV CI CT
            go_wp2
            go_ret2
            exact ⟨rfl, hB⟩
        · skip
          have hok : ok = false := (unhide RN).2 (by rintro (⟨q1, q2, q3, q4⟩ | ⟨q1, q2, q3, q4, q5⟩ | ⟨q1, q2, q3, q4⟩ | ⟨q1, q2, q3, q4, q5⟩) <;> first | omega | (simp_all; done) | (exact absurd q1 (by decide)))
          have hrt := unhide RT
          rw [hok, if_neg (by decide)] at hrt
          subst hok
          subst hrt
          clear RO RN RT TB CV CI CT
          go_wp2
          go_ret2
          exact ⟨rfl, hB⟩
end Go.Proofs.Ytkbbcjnickgfjaa

