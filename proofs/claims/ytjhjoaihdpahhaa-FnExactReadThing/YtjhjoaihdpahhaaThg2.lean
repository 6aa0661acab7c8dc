/- Things by the given model: flags, texts, over the loaded program. -/
import Derived.Test.YtjhjoaihdpahhaaThg1
namespace Go.Proofs.Ytjhjoaihdpahhaa
open Go.RowKit
def flI (b : Bool) (n : Int) : Int := if b then n else 0
theorem flI_cast (b : Bool) (n : Nat) : flI b (n : Int) = ((flB b n : Nat) : Int) := by cases b <;> rfl
theorem varB_len9 {n : Nat} (h : n ≤ 1048576) : (varB n).length ≤ 3 := by
  by_cases h1 : n ≤ 127
  · rw [varB_small h1]; simp
  · rw [varB_big h1, List.length_cons]
    have := varB_two9 (n := n / 128) (by omega)
    omega
theorem l19Flag_any (b : Bool) (n : Int) (w : World) :
    Calls Try.prog 17 #[.bool b, .int .i64 n] w fun e w' => e = .returned (.int .i64 (flI b n)) ∧ w' = w := by
  cases b with
  | true =>
    go_enter Try.func17, Try.ntmps17
    go_wp2
    go_ret
    exact ⟨rfl, rfl⟩
  | false =>
    go_enter Try.func17, Try.ntmps17
    go_wp2
    go_ret
    exact ⟨rfl, rfl⟩
def shB (s : ByteArray) : ByteArray := ⟨(varB s.size).toArray⟩ ++ s
set_option maxRecDepth 20000 in
theorem l19Short_any (s : ByteArray) (hs : s.size ≤ 1048576) (w : World) :
    Calls Try.prog 20 #[.string s] w fun e w' => e = .returned (.string (shB s)) ∧ Below w.heap.size w w' := by
  have C := hide (fun W => l01Var_any s.size W (by omega))
  have hv : (⟨(varB s.size).toArray⟩ : ByteArray).size ≤ 10 := by
    show (varB s.size).toArray.size ≤ 10
    rw [List.size_toArray]
    have := varB_len9 (n := s.size) (by omega)
    omega
  have E := hide (show shB s = ⟨(varB s.size).toArray⟩ ++ s from rfl)
  rw [unhide E]
  generalize (⟨(varB s.size).toArray⟩ : ByteArray) = v at *
  go_enter Try.func20, Try.ntmps20
  go_wp2_with fail
  refine (unhide C w).mono ?_
  rintro e w1 ⟨rfl, hb1⟩
  go_wp2
  go_ret
  exact ⟨rfl, hb1⟩
theorem oneY_size9 (z : Int) : (oneY z).size = 1 := rfl
theorem arr_app (a b : List UInt8) : (⟨a.toArray⟩ ++ ⟨b.toArray⟩ : ByteArray) = ⟨(a ++ b).toArray⟩ := by
  apply ByteArray.ext
  rw [ByteArray.data_append]
  simp
theorem oneY_by (n : Nat) (h : n < 256) : oneY (n : Int) = ⟨[byteOf n].toArray⟩ := by
  unfold oneY
  rw [show b256 (n : Int) = n by unfold b256; omega]
  rfl
theorem thT_is {x : Th} (h : ThOk x) : thT x = ⟨(varB x.id.toNat).toArray⟩ ++ oneY x.kind ++ oneY ((fl x : Nat) : Int) ++ shB x.val ++ ⟨(varB x.nxt.toNat).toArray⟩ := by
  have hk : x.kind = ((x.kind.toNat : Nat) : Int) := by omega
  have hf := fl_lt x
  rw [oneY_by (fl x) (by omega), hk, oneY_by x.kind.toNat (by omega)]
  unfold shB thT thL
  rw [show x.val = ⟨x.val.data.toList.toArray⟩ by simp]
  simp only [arr_app]
  simp
def ttB (x : Th) : ByteArray := if thOk x = true then thT x else ⟨#[]⟩
set_option maxRecDepth 20000 in
set_option maxHeartbeats 4000000 in
theorem specThingText_any (x : Th) (w : World) :
    Calls Try.prog 10 #[.agg (thC x)] w fun e w' => e = .returned (.tuple #[.string (ttB x), .bool (thOk x)]) ∧ Below w.heap.size w w' := by
  have CO := hide (fun W => specThingOk_any x W)
  cases hok : thOk x with
  | false =>
    have E : ttB x = ⟨#[]⟩ := by unfold ttB; rw [if_neg (by rw [hok]; simp)]
    rw [E]
    rw [hok] at CO
    clear hok E
    obtain ⟨id, kind, hid, fix, sgn, wrp, val, nxt⟩ := x
    unfold thC at CO ⊢
    obtain ⟨W, hW, hC, hb, hlt⟩ := one_cb w #[.int .i64 id, .int .i64 kind, .bool hid, .bool fix, .bool sgn, .bool wrp, .string val, .int .i64 nxt] 26
    have c0 := hC.cell 0 rfl
    have c1 := hC.cell 1 rfl
    have c2 := hC.cell 2 rfl
    have c3 := hC.cell 3 rfl
    have c4 := hC.cell 4 rfl
    have c5 := hC.cell 5 rfl
    have c6 := hC.cell 6 rfl
    have c7 := hC.cell 7 rfl
    clear hC
    go_enter Try.func10, Try.ntmps10
    go_wp2_with fail
    refine (unhide CO W).mono ?_
    rintro e w1 ⟨rfl, hb1⟩
    have hT := hb.trans (hb1.mono hb.size)
    clear c0 c1 c2 c3 c4 c5 c6 c7
    go_wp2
    go_ret2
    exact ⟨rfl, hT⟩
  | true =>
    have E : ttB x = thT x := by unfold ttB; rw [if_pos hok]
    have hO := (thOk_iff x).1 hok
    rw [E, thT_is hO]
    rw [hok] at CO
    have hfl : ((fl x : Nat) : Int) = flI x.hid 1 + flI x.fix 2 + flI x.sgn 4 + flI x.wrp 8 := by
      obtain ⟨_, _, h, f, s, ww, _, _⟩ := x
      cases h <;> cases f <;> cases s <;> cases ww <;> rfl
    have hvz : x.val.size ≤ 100 := by
      obtain ⟨i1, i2, k1, k2, n1, n2, _, _, hv3, hv2⟩ := hO
      by_cases e : x.kind = 3
      · exact hv3 e
      · have := hv2 e; omega
    have hi0 : x.id = ((x.id.toNat : Nat) : Int) := by omega
    have hn0 : x.nxt = ((x.nxt.toNat : Nat) : Int) := by omega
    have V1 := hide (fun W => l01Var_any x.id.toNat W (by omega))
    have V2 := hide (fun W => l01Var_any x.nxt.toNat W (by omega))
    have CS := hide (fun W => l19Short_any x.val (by omega) W)
    have CY := hide (fun z W => specByteY_any z W)
    have CF := hide (fun b n W => l19Flag_any b n W)
    have z1 : (⟨(varB x.id.toNat).toArray⟩ : ByteArray).size ≤ 3 := by
      show (varB x.id.toNat).toArray.size ≤ 3
      rw [List.size_toArray]; exact varB_len9 (by omega)
    have z2 : (⟨(varB x.nxt.toNat).toArray⟩ : ByteArray).size ≤ 3 := by
      show (varB x.nxt.toNat).toArray.size ≤ 3
      rw [List.size_toArray]; exact varB_len9 (by omega)
    have z3 : (shB x.val).size ≤ 200 := by
      have : (⟨(varB x.val.size).toArray⟩ : ByteArray).size ≤ 3 := by
        show (varB x.val.size).toArray.size ≤ 3
        rw [List.size_toArray]; exact varB_len9 (by omega)
      unfold shB
      rw [ByteArray.size_append]; omega
    have z4 := oneY_size9
    rw [← hi0] at V1
    rw [← hn0] at V2
    rw [hfl]
    have fb : ∀ b n, (0 : Int) ≤ n → 0 ≤ flI b n ∧ flI b n ≤ n := fun b n h => by cases b <;> simp [flI, h]
    have fb1 := fb x.hid 1 (by omega)
    have fb2 := fb x.fix 2 (by omega)
    have fb4 := fb x.sgn 4 (by omega)
    have fb8 := fb x.wrp 8 (by omega)
    clear hok E hO hfl hvz hi0 hn0 fb
    obtain ⟨id, kind, hid, fix, sgn, wrp, val, nxt⟩ := x
    unfold thC at CO ⊢
    simp only at V1 V2 CS z1 z2 z3 fb1 fb2 fb4 fb8 ⊢
    generalize (⟨(varB id.toNat).toArray⟩ : ByteArray) = t1 at *
    generalize (⟨(varB nxt.toNat).toArray⟩ : ByteArray) = t2 at *
    generalize shB val = t3 at *
    generalize hf1 : flI hid 1 = f1 at *
    generalize hf2 : flI fix 2 = f2 at *
    generalize hf4 : flI sgn 4 = f4 at *
    generalize hf8 : flI wrp 8 = f8 at *
    obtain ⟨g1, hg⟩ : ∃ g, g = f1 + f2 := ⟨_, rfl⟩
    obtain ⟨g2, hg2⟩ : ∃ g, g = g1 + f4 := ⟨_, rfl⟩
    obtain ⟨g3, hg3⟩ : ∃ g, g = g2 + f8 := ⟨_, rfl⟩
    have u1 : IntKind.i64.wrap (f1 + f2) = g1 := by rw [IntKind.wrap_i64]; omega
    have u2 : IntKind.i64.wrap (g1 + f4) = g2 := by rw [IntKind.wrap_i64]; omega
    have u3 : IntKind.i64.wrap (g2 + f8) = g3 := by rw [IntKind.wrap_i64]; omega
    rw [show f1 + f2 + f4 + f8 = g3 by omega]
    have zk := oneY_size9 kind
    have zg := oneY_size9 g3
    have y1 := hide (fun W => unhide CY kind W)
    have y2 := hide (fun W => unhide CY g3 W)
    obtain ⟨R, hR⟩ : ∃ R, R = t1 ++ oneY kind ++ oneY g3 ++ t3 ++ t2 := ⟨_, rfl⟩
    rw [← hR]
    generalize oneY kind = yk at *
    generalize oneY g3 = yg at *
    have zk' : yk.size ≤ 1 := by omega
    have zg' : yg.size ≤ 1 := by omega
    have s1 : ∀ W : World, (Op.stringOp .add t1 yk).run Try.prog W = .ok (.string (t1 ++ yk)) W := fun W => run_string_add_sum W _ _ (by omega)
    have s2 : ∀ W : World, (Op.stringOp .add (t1 ++ yk) yg).run Try.prog W = .ok (.string (t1 ++ yk ++ yg)) W := fun W => run_string_add_sum W _ _ (by rw [ByteArray.size_append]; omega)
    have s3 : ∀ W : World, (Op.stringOp .add (t1 ++ yk ++ yg) t3).run Try.prog W = .ok (.string (t1 ++ yk ++ yg ++ t3)) W := fun W => run_string_add_sum W _ _ (by rw [ByteArray.size_append, ByteArray.size_append]; omega)
    have s4 : ∀ W : World, (Op.stringOp .add (t1 ++ yk ++ yg ++ t3) t2).run Try.prog W = .ok (.string (t1 ++ yk ++ yg ++ t3 ++ t2)) W := fun W => run_string_add_sum W _ _ (by rw [ByteArray.size_append, ByteArray.size_append, ByteArray.size_append]; omega)
    replace zk := hide zk; replace zg := hide zg; replace hR := hide hR; replace CY := hide CY; clear z4 CY
    have q1 := hide (fun W => unhide CF hid 1 W)
    have q2 := hide (fun W => unhide CF fix 2 W)
    have q4 := hide (fun W => unhide CF sgn 4 W)
    have q8 := hide (fun W => unhide CF wrp 8 W)
    rw [hf1] at q1
    rw [hf2] at q2
    rw [hf4] at q4
    rw [hf8] at q8
    replace hf1 := hide hf1; replace hf2 := hide hf2; replace hf4 := hide hf4; replace hf8 := hide hf8
    replace hg := hide hg; replace hg2 := hide hg2; replace hg3 := hide hg3
    obtain ⟨W, hW, hC, hb, hlt⟩ := one_cb w #[.int .i64 id, .int .i64 kind, .bool hid, .bool fix, .bool sgn, .bool wrp, .string val, .int .i64 nxt] 26
    have c0 := hC.cell 0 rfl
    have c1 := hC.cell 1 rfl
    have c2 := hC.cell 2 rfl
    have c3 := hC.cell 3 rfl
    have c4 := hC.cell 4 rfl
    have c5 := hC.cell 5 rfl
    have c6 := hC.cell 6 rfl
    have c7 := hC.cell 7 rfl
    go_enter Try.func10, Try.ntmps10
    go_wp2_with fail
    refine (unhide CO W).mono ?_
    rintro e w1 ⟨rfl, hb1⟩
    have hT := hb.trans (hb1.mono hb.size)
    have hC1 := hC.below hb1 hlt
    have d0 := hC1.cell 0 rfl
    have d1 := hC1.cell 1 rfl
    have d2 := hC1.cell 2 rfl
    have d3 := hC1.cell 3 rfl
    have d4 := hC1.cell 4 rfl
    have d5 := hC1.cell 5 rfl
    have d6 := hC1.cell 6 rfl
    have d7 := hC1.cell 7 rfl
    have hg1 : w.heap.size < w1.heap.size := Nat.lt_of_lt_of_le hlt hb1.size
    clear c0 c1 c2 c3 c4 c5 c6 c7 hC hC1 hb1 hb CO
    go_wp2
    go_quiet ((first | (go_at_call 17; exact Calls.quiet_of_same (unhide q1 _)) | (go_at_call 17; exact Calls.quiet_of_same (unhide q2 _)) | (go_at_call 17; exact Calls.quiet_of_same (unhide q4 _)) | (go_at_call 17; exact Calls.quiet_of_same (unhide q8 _))))
    have KS := hide (fun (W' : World) (h : Below w1.heap.size w1 W') => (⟨(h.cell (p := ⟨w.heap.size, 0, none⟩) hg1).trans d0, (h.cell (p := ⟨w.heap.size, 1, none⟩) hg1).trans d1, (h.cell (p := ⟨w.heap.size, 6, none⟩) hg1).trans d6, (h.cell (p := ⟨w.heap.size, 7, none⟩) hg1).trans d7⟩ : W'.cell? ⟨w.heap.size, 0, none⟩ = some (.int .i64 id) ∧ W'.cell? ⟨w.heap.size, 1, none⟩ = some (.int .i64 kind) ∧ W'.cell? ⟨w.heap.size, 6, none⟩ = some (.string val) ∧ W'.cell? ⟨w.heap.size, 7, none⟩ = some (.int .i64 nxt)))
    have hB0 := Below.refl w1.heap.size w1
    go_wp2
    go_region_held3 (fun W' => W'.cell? ⟨w.heap.size, 0, none⟩ = some (.int .i64 id) ∧ W'.cell? ⟨w.heap.size, 1, none⟩ = some (.int .i64 kind) ∧ W'.cell? ⟨w.heap.size, 6, none⟩ = some (.string val) ∧ W'.cell? ⟨w.heap.size, 7, none⟩ = some (.int .i64 nxt)) (first | exact ⟨d0, d1, d6, d7⟩ | exact (unhide KS) _ hB5 | exact (unhide KS) _ hB4 | exact (unhide KS) _ hB3 | exact (unhide KS) _ hB2 | exact (unhide KS) _ hB1 | fail) (first
      | (go_at_call 18; have hB4' := hB4; refine ((unhide V2) _).mono ?_; rintro e w6 ⟨rfl, hb5⟩; have hB5 : Below w1.heap.size w1 w6 := hB4.trans (hb5.mono hB4.size))
      | (go_at_call 18; refine ((unhide V1) _).mono ?_; rintro e w2 ⟨rfl, hb1⟩; have hB1 : Below w1.heap.size w1 w2 := (bDN hB0 _).drew.trans (hb1.mono (by exact Nat.le_refl _)))
      | (go_at_call 19; have hB2' := hB2; refine ((unhide y2) _).mono ?_; rintro e w4 ⟨rfl, hb3⟩; have hB3 : Below w1.heap.size w1 w4 := hB2.trans (hb3.mono hB2.size))
      | (go_at_call 19; refine ((unhide y1) _).mono ?_; rintro e w3 ⟨rfl, hb2⟩; have hB2 : Below w1.heap.size w1 w3 := hB1.trans (hb2.mono hB1.size))
      | (go_at_call 20; refine ((unhide CS) _).mono ?_; rintro e w5 ⟨rfl, hb4⟩; have hB4 : Below w1.heap.size w1 w5 := hB3.trans (hb4.mono hB3.size))
      | fail)
    all_goals
      have hF := hT.trans (hB5.mono hT.size)
      clear hb1 hb2 hb3 hb4 hb5 hB1 hB2 hB3 hB4 hB5 KS d0 d1 d2 d3 d4 d5 d6 d7
      go_wp2
      go_ret2
      exact ⟨by rw [unhide hR]; rfl, hF⟩
end Go.Proofs.Ytjhjoaihdpahhaa
