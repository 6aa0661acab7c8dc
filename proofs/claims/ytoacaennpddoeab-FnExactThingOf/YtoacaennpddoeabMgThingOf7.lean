/- Merged: Bok3, Bok4, ThI1, RuI3, BkI2, Bok5. -/
import Derived.Test.YtoacaennpddoeabMgThingOf1
import Derived.Test.YtoacaennpddoeabMgThingOf2
import Derived.Test.YtoacaennpddoeabMgThingOf3
import Derived.Test.YtoacaennpddoeabMgThingOf4
import Derived.Test.YtoacaennpddoeabMgThingOf5
import Derived.Test.YtoacaennpddoeabMgThingOf6
import Derived.Deep.DeepCutAuto
import Derived.Deep.RegionHeld3
/- Records by the given model: texts, over the loaded program. -/
namespace Go.Proofs.Ytoacaennpddoeab
open Go.RowKit
theorem pre21 (k : Nat) (s : ByteArray) : (⟨(byteOf k :: s.data.toList).toArray⟩ : ByteArray) = ⟨#[byteOf k]⟩ ++ s := by
  apply ByteArray.ext
  apply Array.toList_inj.1
  rw [ByteArray.data_append]
  simp
theorem ttB_le (x : Th) : (ttB x).size ≤ 200 := by
  unfold ttB
  split
  · exact thT_le ‹_›
  · exact Nat.zero_le _
set_option maxRecDepth 20000 in
set_option maxHeartbeats 6400000 in
theorem specRecText_any (r : Rc) (w : World) :
    Calls Try.prog 32 #[.agg (rcC r)] w fun e w' => e = .returned (.tuple #[.string (rcT r), .bool (rcOk r)]) ∧ Below w.heap.size w w' := by
  obtain ⟨kd, tx, nm, ⟨id, kind, hid, fix, sgn, wrp, val, nxt⟩⟩ := r
  obtain ⟨no, hno⟩ : ∃ b, b = thNo ⟨id, kind, hid, fix, sgn, wrp, val, nxt⟩ := ⟨_, rfl⟩
  obtain ⟨ot, hot⟩ : ∃ b, b = thOk ⟨id, kind, hid, fix, sgn, wrp, val, nxt⟩ := ⟨_, rfl⟩
  have N1 : no = true ↔ ThNo ⟨id, kind, hid, fix, sgn, wrp, val, nxt⟩ := by rw [hno]; unfold thNo; exact decide_eq_true_iff
  have N2 : ot = true ↔ ThOk ⟨id, kind, hid, fix, sgn, wrp, val, nxt⟩ := by rw [hot]; exact thOk_iff _
  have CV := hide (fun (n : Nat) (hn : n ≤ 1000000000) W => l01Var_any n W hn)
  have CI := hide (fun (a b : Int) W => l01In_any nm a b W)
  have CT := hide (fun W => specThingText_any ⟨id, kind, hid, fix, sgn, wrp, val, nxt⟩ W)
  rw [← hot] at CT
  have TB : ot = true → ttB ⟨id, kind, hid, fix, sgn, wrp, val, nxt⟩ = ⟨(thL ⟨id, kind, hid, fix, sgn, wrp, val, nxt⟩).toArray⟩ := fun h => by unfold ttB; rw [← hot, if_pos h]; rfl
  have HT := ttB_le ⟨id, kind, hid, fix, sgn, wrp, val, nxt⟩
  generalize ttB ⟨id, kind, hid, fix, sgn, wrp, val, nxt⟩ = tt at *
  replace HT := hide HT
  have RO := rcOk_iff ⟨kd, tx, nm, ⟨id, kind, hid, fix, sgn, wrp, val, nxt⟩⟩
  have RN := rcOk_not ⟨kd, tx, nm, ⟨id, kind, hid, fix, sgn, wrp, val, nxt⟩⟩
  have RT : rcT ⟨kd, tx, nm, ⟨id, kind, hid, fix, sgn, wrp, val, nxt⟩⟩ = if rcOk ⟨kd, tx, nm, ⟨id, kind, hid, fix, sgn, wrp, val, nxt⟩⟩ = true then ⟨(rcL ⟨kd, tx, nm, ⟨id, kind, hid, fix, sgn, wrp, val, nxt⟩⟩).toArray⟩ else ⟨#[]⟩ := rfl
  unfold RcOk at RO RN
  dsimp only at RO RN
  rw [← N1, ← N2] at RO RN
  unfold rcL at RT
  dsimp only at RT
  generalize thL ⟨id, kind, hid, fix, sgn, wrp, val, nxt⟩ = tl at *
  generalize rcOk ⟨kd, tx, nm, ⟨id, kind, hid, fix, sgn, wrp, val, nxt⟩⟩ = ok at *
  generalize rcT ⟨kd, tx, nm, ⟨id, kind, hid, fix, sgn, wrp, val, nxt⟩⟩ = rt at *
  simp only [rcC]
  replace CT := hide (show ∀ W, Calls Try.prog 56 #[.agg #[.int .i64 id, .int .i64 kind, .bool hid, .bool fix, .bool sgn, .bool wrp, .string val, .int .i64 nxt]] W (fun e w' => e = .returned (.tuple #[.string tt, .bool ot]) ∧ Below W.heap.size W w') from unhide CT)
  replace RO := hide RO; replace RN := hide RN; replace RT := hide RT; replace N2 := hide N2; replace TB := hide TB; replace hot := hide hot; replace N1 := hide N1
  have EZ := fun W => eqZ ⟨id, kind, hid, fix, sgn, wrp, val, nxt⟩ W
  rw [← hno] at EZ
  simp only [thC] at EZ
  replace hno := hide hno
  go_enter Try.func32, Try.ntmps32
  obtain ⟨W, hW, hX, hB, hs1⟩ := one_cb w #[.int .i64 kd, .string tx, .int .i64 nm, .int .i64 id, .int .i64 kind, .bool hid, .bool fix, .bool sgn, .bool wrp, .string val, .int .i64 nxt] 25
  have x0 := hX.cell 0 (v := (.int .i64 _)) rfl
  have x1 := hX.cell 1 (v := (.string _)) rfl
  have x2 := hX.cell 2 (v := (.int .i64 _)) rfl
  have x3 := hX.cell 3 (v := (.int .i64 _)) rfl
  have x4 := hX.cell 4 (v := (.int .i64 _)) rfl
  have x5 := hX.cell 5 (v := (.bool _)) rfl
  have x6 := hX.cell 6 (v := (.bool _)) rfl
  have x7 := hX.cell 7 (v := (.bool _)) rfl
  have x8 := hX.cell 8 (v := (.bool _)) rfl
  have x9 := hX.cell 9 (v := (.string _)) rfl
  have x10 := hX.cell 10 (v := (.int .i64 _)) rfl
  go_upto_region 3 with fail
  clear hW hno N1 hot N2 EZ
  by_cases k1 : kd = 1
  · subst k1
    by_cases c1 : tx.size = 32
    · have c1' : (tx.size : Int) = 32 := by omega
      by_cases c2 : nm = 0
      · cases no with
        | false =>
          have hok : ok = false := (unhide RN).2 (by rintro (⟨q1, q2, q3, q4⟩ | ⟨q1, q2, q3, q4, q5⟩ | ⟨q1, q2, q3, q4⟩ | ⟨q1, q2, q3, q4, q5⟩) <;> first | omega | (simp_all; done) | (exact absurd q1 (by decide)))
          have hrt := unhide RT
          rw [hok, if_neg (by decide)] at hrt
          subst hok
          subst hrt
          clear RO RN RT TB CV CI CT
          go_wp2
          go_ret2
          exact ⟨rfl, hB⟩
        | true =>
          have hok : ok = true := (unhide RO).2 (.inl ⟨rfl, c1, c2, rfl⟩)
          have hrt := unhide RT
          rw [hok, if_pos rfl, if_pos rfl] at hrt
          have hp : (⟨(byteOf (Int.toNat 1) :: tx.data.toList).toArray⟩ : ByteArray) = ⟨#[1]⟩ ++ tx := pre21 1 tx
          rw [hp] at hrt
          subst hok
          subst hrt
          clear hp
          have s1 : ¬ 9223372036854775807 < 1 + tx.size := by omega
          have s2 : 1 + tx.size ≤ 9223372036854775807 := by omega
          replace c1 := hide c1
          clear RO RN RT TB CV CI CT
          go_wp2
          go_ret2
          exact ⟨rfl, hB⟩
      · skip
        have hok : ok = false := (unhide RN).2 (by rintro (⟨q1, q2, q3, q4⟩ | ⟨q1, q2, q3, q4, q5⟩ | ⟨q1, q2, q3, q4⟩ | ⟨q1, q2, q3, q4, q5⟩) <;> first | omega | (simp_all; done) | (exact absurd q1 (by decide)))
        have hrt := unhide RT
        rw [hok, if_neg (by decide)] at hrt
        subst hok
        subst hrt
        clear RO RN RT TB CV CI CT
        go_wp2
        go_ret2
        exact ⟨rfl, hB⟩
    · have c1' : ¬ (tx.size : Int) = 32 := by omega
      have hok : ok = false := (unhide RN).2 (by rintro (⟨q1, q2, q3, q4⟩ | ⟨q1, q2, q3, q4, q5⟩ | ⟨q1, q2, q3, q4⟩ | ⟨q1, q2, q3, q4, q5⟩) <;> first | omega | (simp_all; done) | (exact absurd q1 (by decide)))
      have hrt := unhide RT
      rw [hok, if_neg (by decide)] at hrt
      subst hok
      subst hrt
      clear RO RN RT TB CV CI CT
      go_wp2
      go_ret2
      exact ⟨rfl, hB⟩
  · skip
    by_cases k2 : kd = 2
    · subst k2
      by_cases c1 : tx.size = 0
      · have e1 := size_zero_is c1
        subst e1
        cases no with
        | false =>
          have hok : ok = false := (unhide RN).2 (by rintro (⟨q1, q2, q3, q4⟩ | ⟨q1, q2, q3, q4, q5⟩ | ⟨q1, q2, q3, q4⟩ | ⟨q1, q2, q3, q4, q5⟩) <;> first | omega | (simp_all; done) | (exact absurd q1 (by decide)))
          have hrt := unhide RT
          rw [hok, if_neg (by decide)] at hrt
          subst hok
          subst hrt
          clear RO RN RT TB CV CI CT
          go_wp2
          go_ret2
          exact ⟨rfl, hB⟩
        | true =>
          by_cases c2 : 0 ≤ nm ∧ nm ≤ 3
          · obtain ⟨c2, c3⟩ := c2
            have d1 : decide ((0 : Int) ≤ nm) = true := decide_eq_true c2
            have d2 : decide (nm ≤ (3 : Int)) = true := decide_eq_true c3
            obtain ⟨m, hm⟩ : ∃ m : Nat, nm = (m : Int) := ⟨nm.toNat, by omega⟩
            subst hm
            have hok : ok = true := (unhide RO).2 (.inr (.inl ⟨rfl, rfl, rfl, c2, c3⟩))
            have hrt := unhide RT
            rw [hok, if_pos rfl, if_neg (by decide), if_neg (by decide)] at hrt
            subst hok
            have I1 := hide (unhide CI 0 3)
            have V1 := hide (unhide CV m (by omega))
            rw [d1, d2] at I1
            have hvs : (ByteArray.mk (varB m).toArray).size ≤ 2000 := by show (varB m).toArray.size ≤ 2000; simp; have := (varB_len m).2; omega
            have tn : ((m : Int)).toNat = m := Int.toNat_natCast m
            rw [tn] at hrt
            have hp : (⟨(byteOf (Int.toNat 2) :: varB m).toArray⟩ : ByteArray) = ⟨#[2]⟩ ++ ⟨(varB m).toArray⟩ := pre21 2 ⟨(varB m).toArray⟩
            rw [hp] at hrt
            generalize (ByteArray.mk (varB m).toArray) = vb at *
            subst hrt
            have s1 : ¬ 9223372036854775807 < 1 + vb.size := by omega
            have s2 : 1 + vb.size ≤ 9223372036854775807 := by omega
            clear RO RN RT TB CV CI CT d1 d2 hp tn
            go_wp2_with fail
            refine (unhide I1 _).mono ?_
            rintro e u1 ⟨rfl, hu1⟩
            subst hu1
            go_wp2_with fail
            refine (unhide V1 _).mono ?_
            rintro e u2 ⟨rfl, hb2⟩
            have T2 := hB.trans (hb2.mono hB.size)
            clear I1 V1 hb2
            go_wp2
            go_ret2
            exact ⟨rfl, T2⟩
          · have I1 := hide (unhide CI 0 3)
            have d1 : (decide ((0 : Int) ≤ nm) && decide (nm ≤ (3 : Int))) = false := by
              rw [Bool.and_eq_false_iff]
              rcases Int.lt_or_le nm 0 with q | q
              · exact .inl (decide_eq_false (by omega))
              · exact .inr (decide_eq_false (by omega))
            rw [d1] at I1
            have hok : ok = false := (unhide RN).2 (by rintro (⟨q1, q2, q3, q4⟩ | ⟨q1, q2, q3, q4, q5⟩ | ⟨q1, q2, q3, q4⟩ | ⟨q1, q2, q3, q4, q5⟩) <;> first | omega | (simp_all; done) | (exact absurd q1 (by decide)))
            have hrt := unhide RT
            rw [hok, if_neg (by decide)] at hrt
            subst hok
            subst hrt
            clear RO RN RT TB CV CI CT d1
            go_wp2_with fail
            refine (unhide I1 _).mono ?_
            rintro e u1 ⟨rfl, hu1⟩
            subst hu1
            go_wp2
            go_ret2
            exact ⟨rfl, hB⟩
      · have c1' : ¬ tx.toList = [] := fun h => c1 (by show tx.data.size = 0; rw [← Array.length_toList, ← ByteArray.toList_eq, h]; rfl)
        have hok : ok = false := (unhide RN).2 (by rintro (⟨q1, q2, q3, q4⟩ | ⟨q1, q2, q3, q4, q5⟩ | ⟨q1, q2, q3, q4⟩ | ⟨q1, q2, q3, q4, q5⟩) <;> first | omega | (simp_all; done) | (exact absurd q1 (by decide)))
        have hrt := unhide RT
        rw [hok, if_neg (by decide)] at hrt
        subst hok
        subst hrt
        clear RO RN RT TB CV CI CT
        go_wp2
        go_ret2
        exact ⟨rfl, hB⟩
    · skip
      by_cases k3 : kd = 3
      · subst k3
        cases ot with
        | false =>
          have hok : ok = false := (unhide RN).2 (by rintro (⟨q1, q2, q3, q4⟩ | ⟨q1, q2, q3, q4, q5⟩ | ⟨q1, q2, q3, q4⟩ | ⟨q1, q2, q3, q4, q5⟩) <;> first | omega | (simp_all; done) | (exact absurd q1 (by decide)))
          have hrt := unhide RT
          rw [hok, if_neg (by decide)] at hrt
          subst hok
          subst hrt
          clear RO RN RT TB CV CI
          go_wp2_with fail
          refine (unhide CT W).mono ?_
          rintro e u1 ⟨rfl, hb1⟩
          have T1 := hB.trans (hb1.mono hB.size)
          have hX1 := hX.step hb1
          clear hb1 hB hX x0 x1 x2 x3 x4 x5 x6 x7 x8 x9 x10 CT
          have x0 := hX1.cell 0 (v := (.int .i64 _)) rfl
          have x1 := hX1.cell 1 (v := (.string _)) rfl
          have x2 := hX1.cell 2 (v := (.int .i64 _)) rfl
          have x3 := hX1.cell 3 (v := (.int .i64 _)) rfl
          have x4 := hX1.cell 4 (v := (.int .i64 _)) rfl
          have x5 := hX1.cell 5 (v := (.bool _)) rfl
          have x6 := hX1.cell 6 (v := (.bool _)) rfl
          have x7 := hX1.cell 7 (v := (.bool _)) rfl
          have x8 := hX1.cell 8 (v := (.bool _)) rfl
          have x9 := hX1.cell 9 (v := (.string _)) rfl
          have x10 := hX1.cell 10 (v := (.int .i64 _)) rfl
          go_wp2
          go_ret2
          exact ⟨rfl, T1⟩
        | true =>
          by_cases c1 : tx.size = 0
          · have e1 := size_zero_is c1
            subst e1
            by_cases c2 : nm = 0
            · have hok : ok = true := (unhide RO).2 (.inr (.inr (.inl ⟨rfl, rfl, rfl, c2⟩)))
              have hrt := unhide RT
              rw [hok, if_pos rfl, if_neg (by decide), if_pos rfl] at hrt
              subst hok
              have htt := unhide TB rfl
              have hp : (⟨(byteOf (Int.toNat 3) :: tl).toArray⟩ : ByteArray) = ⟨#[3]⟩ ++ tt := by rw [htt]; exact pre21 3 ⟨tl.toArray⟩
              rw [hp] at hrt
              subst hrt
              have s0 := unhide HT
              have s1 : ¬ 9223372036854775807 < 1 + tt.size := by omega
              have s2 : 1 + tt.size ≤ 9223372036854775807 := by omega
              clear RO RN RT TB CV CI hp htt s0
              go_wp2_with fail
              refine (unhide CT W).mono ?_
              rintro e u1 ⟨rfl, hb1⟩
              have T1 := hB.trans (hb1.mono hB.size)
              have hX1 := hX.step hb1
              clear hb1 hB hX x0 x1 x2 x3 x4 x5 x6 x7 x8 x9 x10 CT
              have x0 := hX1.cell 0 (v := (.int .i64 _)) rfl
              have x1 := hX1.cell 1 (v := (.string _)) rfl
              have x2 := hX1.cell 2 (v := (.int .i64 _)) rfl
              have x3 := hX1.cell 3 (v := (.int .i64 _)) rfl
              have x4 := hX1.cell 4 (v := (.int .i64 _)) rfl
              have x5 := hX1.cell 5 (v := (.bool _)) rfl
              have x6 := hX1.cell 6 (v := (.bool _)) rfl
              have x7 := hX1.cell 7 (v := (.bool _)) rfl
              have x8 := hX1.cell 8 (v := (.bool _)) rfl
              have x9 := hX1.cell 9 (v := (.string _)) rfl
              have x10 := hX1.cell 10 (v := (.int .i64 _)) rfl
              go_wp2
              go_ret2
              exact ⟨rfl, T1⟩
            · skip
              have hok : ok = false := (unhide RN).2 (by rintro (⟨q1, q2, q3, q4⟩ | ⟨q1, q2, q3, q4, q5⟩ | ⟨q1, q2, q3, q4⟩ | ⟨q1, q2, q3, q4, q5⟩) <;> first | omega | (simp_all; done) | (exact absurd q1 (by decide)))
              have hrt := unhide RT
              rw [hok, if_neg (by decide)] at hrt
              subst hok
              subst hrt
              clear RO RN RT TB CV CI
              go_wp2_with fail
              refine (unhide CT W).mono ?_
              rintro e u1 ⟨rfl, hb1⟩
              have T1 := hB.trans (hb1.mono hB.size)
              have hX1 := hX.step hb1
              clear hb1 hB hX x0 x1 x2 x3 x4 x5 x6 x7 x8 x9 x10 CT
              have x0 := hX1.cell 0 (v := (.int .i64 _)) rfl
              have x1 := hX1.cell 1 (v := (.string _)) rfl
              have x2 := hX1.cell 2 (v := (.int .i64 _)) rfl
              have x3 := hX1.cell 3 (v := (.int .i64 _)) rfl
              have x4 := hX1.cell 4 (v := (.int .i64 _)) rfl
              have x5 := hX1.cell 5 (v := (.bool _)) rfl
              have x6 := hX1.cell 6 (v := (.bool _)) rfl
              have x7 := hX1.cell 7 (v := (.bool _)) rfl
              have x8 := hX1.cell 8 (v := (.bool _)) rfl
              have x9 := hX1.cell 9 (v := (.string _)) rfl
              have x10 := hX1.cell 10 (v := (.int .i64 _)) rfl
              go_wp2
              go_ret2
              exact ⟨rfl, T1⟩
          · have c1' : ¬ tx.toList = [] := fun h => c1 (by show tx.data.size = 0; rw [← Array.length_toList, ← ByteArray.toList_eq, h]; rfl)
            have hok : ok = false := (unhide RN).2 (by rintro (⟨q1, q2, q3, q4⟩ | ⟨q1, q2, q3, q4, q5⟩ | ⟨q1, q2, q3, q4⟩ | ⟨q1, q2, q3, q4, q5⟩) <;> first | omega | (simp_all; done) | (exact absurd q1 (by decide)))
            have hrt := unhide RT
            rw [hok, if_neg (by decide)] at hrt
            subst hok
            subst hrt
            clear RO RN RT TB CV CI
            go_wp2_with fail
            refine (unhide CT W).mono ?_
            rintro e u1 ⟨rfl, hb1⟩
            have T1 := hB.trans (hb1.mono hB.size)
            have hX1 := hX.step hb1
            clear hb1 hB hX x0 x1 x2 x3 x4 x5 x6 x7 x8 x9 x10 CT
            have x0 := hX1.cell 0 (v := (.int .i64 _)) rfl
            have x1 := hX1.cell 1 (v := (.string _)) rfl
            have x2 := hX1.cell 2 (v := (.int .i64 _)) rfl
            have x3 := hX1.cell 3 (v := (.int .i64 _)) rfl
            have x4 := hX1.cell 4 (v := (.int .i64 _)) rfl
            have x5 := hX1.cell 5 (v := (.bool _)) rfl
            have x6 := hX1.cell 6 (v := (.bool _)) rfl
            have x7 := hX1.cell 7 (v := (.bool _)) rfl
            have x8 := hX1.cell 8 (v := (.bool _)) rfl
            have x9 := hX1.cell 9 (v := (.string _)) rfl
            have x10 := hX1.cell 10 (v := (.int .i64 _)) rfl
            go_wp2
            go_ret2
            exact ⟨rfl, T1⟩
      · skip
        by_cases k4 : kd = 4
        · subst k4
          by_cases c1 : tx.size = 0
          · have e1 := size_zero_is c1
            subst e1
            cases no with
            | false =>
              have hok : ok = false := (unhide RN).2 (by rintro (⟨q1, q2, q3, q4⟩ | ⟨q1, q2, q3, q4, q5⟩ | ⟨q1, q2, q3, q4⟩ | ⟨q1, q2, q3, q4, q5⟩) <;> first | omega | (simp_all; done) | (exact absurd q1 (by decide)))
              have hrt := unhide RT
              rw [hok, if_neg (by decide)] at hrt
              subst hok
              subst hrt
              clear RO RN RT TB CV CI CT
              go_wp2
              go_ret2
              exact ⟨rfl, hB⟩
            | true =>
              by_cases c2 : 1 ≤ nm ∧ nm ≤ 1000
              · obtain ⟨c2, c3⟩ := c2
                have d1 : decide ((1 : Int) ≤ nm) = true := decide_eq_true c2
                have d2 : decide (nm ≤ (1000 : Int)) = true := decide_eq_true c3
                obtain ⟨m, hm⟩ : ∃ m : Nat, nm = (m : Int) := ⟨nm.toNat, by omega⟩
                subst hm
                have hok : ok = true := (unhide RO).2 (.inr (.inr (.inr ⟨rfl, rfl, rfl, c2, c3⟩)))
                have hrt := unhide RT
                rw [hok, if_pos rfl, if_neg (by decide), if_neg (by decide)] at hrt
                subst hok
                have I1 := hide (unhide CI 1 1000)
                have V1 := hide (unhide CV m (by omega))
                rw [d1, d2] at I1
                have hvs : (ByteArray.mk (varB m).toArray).size ≤ 2000 := by show (varB m).toArray.size ≤ 2000; simp; have := (varB_len m).2; omega
                have tn : ((m : Int)).toNat = m := Int.toNat_natCast m
                rw [tn] at hrt
                have hp : (⟨(byteOf (Int.toNat 4) :: varB m).toArray⟩ : ByteArray) = ⟨#[4]⟩ ++ ⟨(varB m).toArray⟩ := pre21 4 ⟨(varB m).toArray⟩
                rw [hp] at hrt
                generalize (ByteArray.mk (varB m).toArray) = vb at *
                subst hrt
                have s1 : ¬ 9223372036854775807 < 1 + vb.size := by omega
                have s2 : 1 + vb.size ≤ 9223372036854775807 := by omega
                clear RO RN RT TB CV CI CT d1 d2 hp tn
                go_wp2_with fail
                refine (unhide I1 _).mono ?_
                rintro e u1 ⟨rfl, hu1⟩
                subst hu1
                go_wp2_with fail
                refine (unhide V1 _).mono ?_
                rintro e u2 ⟨rfl, hb2⟩
                have T2 := hB.trans (hb2.mono hB.size)
                clear I1 V1 hb2
                go_wp2
                go_ret2
                exact ⟨rfl, T2⟩
              · have I1 := hide (unhide CI 1 1000)
                have d1 : (decide ((1 : Int) ≤ nm) && decide (nm ≤ (1000 : Int))) = false := by
                  rw [Bool.and_eq_false_iff]
                  rcases Int.lt_or_le nm 1 with q | q
                  · exact .inl (decide_eq_false (by omega))
                  · exact .inr (decide_eq_false (by omega))
                rw [d1] at I1
                have hok : ok = false := (unhide RN).2 (by rintro (⟨q1, q2, q3, q4⟩ | ⟨q1, q2, q3, q4, q5⟩ | ⟨q1, q2, q3, q4⟩ | ⟨q1, q2, q3, q4, q5⟩) <;> first | omega | (simp_all; done) | (exact absurd q1 (by decide)))
                have hrt := unhide RT
                rw [hok, if_neg (by decide)] at hrt
                subst hok
                subst hrt
                clear RO RN RT TB CV CI CT d1
                go_wp2_with fail
                refine (unhide I1 _).mono ?_
                rintro e u1 ⟨rfl, hu1⟩
                subst hu1
                go_wp2
                go_ret2
                exact ⟨rfl, hB⟩
          · have c1' : ¬ tx.toList = [] := fun h => c1 (by show tx.data.size = 0; rw [← Array.length_toList, ← ByteArray.toList_eq, h]; rfl)
            have hok : ok = false := (unhide RN).2 (by rintro (⟨q1, q2, q3, q4⟩ | ⟨q1, q2, q3, q4, q5⟩ | ⟨q1, q2, q3, q4⟩ | ⟨q1, q2, q3, q4, q5⟩) <;> first | omega | (simp_all; done) | (exact absurd q1 (by decide)))
            have hrt := unhide RT
            rw [hok, if_neg (by decide)] at hrt
            subst hok
            subst hrt
            clear RO RN RT TB CV CI CT
            go_wp2
            go_ret2
            exact ⟨rfl, hB⟩
        · skip
          have hok : ok = false := (unhide RN).2 (by rintro (⟨q1, q2, q3, q4⟩ | ⟨q1, q2, q3, q4, q5⟩ | ⟨q1, q2, q3, q4⟩ | ⟨q1, q2, q3, q4, q5⟩) <;> first | omega | (simp_all; done) | (exact absurd q1 (by decide)))
          have hrt := unhide RT
          rw [hok, if_neg (by decide)] at hrt
          subst hok
          subst hrt
          clear RO RN RT TB CV CI CT
          go_wp2
          go_ret2
          exact ⟨rfl, hB⟩
end Go.Proofs.Ytoacaennpddoeab

/- Books by the given model: a new one, a thing of it, whether it is right, a copy, over the loaded program. -/
namespace Go.Proofs.Ytoacaennpddoeab
open Go.RowKit
theorem ofT_at {xs : List Th} {k : Nat} {x : Th} {id : Int} (h : xs[k]? = some x) (hn : ∀ y ∈ xs.take k, y.id ≠ id) (e : x.id = id) : hasT xs id = true ∧ ofT xs id = x := by
  have hk := (List.getElem?_eq_some_iff.1 h).1
  have e1 : xs = xs.take k ++ x :: xs.drop (k + 1) := by
    conv => lhs; rw [← List.take_append_drop k xs, List.drop_eq_getElem_cons hk]
    rw [(List.getElem?_eq_some_iff.1 h).2]
  have h1 : (xs.take k).find? (fun y => decide (y.id = id)) = none := by
    rw [List.find?_eq_none]
    intro y hy
    simpa using hn y hy
  have h2 : xs.find? (fun y => decide (y.id = id)) = some x := by
    rw [e1, List.find?_append, h1]
    simp [e]
  constructor
  · unfold hasT
    rw [List.any_eq_true]
    exact ⟨x, List.mem_of_getElem? h, by simpa using e⟩
  · unfold ofT
    rw [h2]; rfl
theorem ofT_no {xs : List Th} {id : Int} (hn : ∀ y ∈ xs, y.id ≠ id) : hasT xs id = false ∧ ofT xs id = thZ := by
  have h2 : xs.find? (fun y => decide (y.id = id)) = none := by
    rw [List.find?_eq_none]
    intro y hy
    simpa using hn y hy
  constructor
  · unfold hasT
    rw [List.any_eq_false]
    intro y hy
    simpa using hn y hy
  · unfold ofT
    rw [h2]; rfl
theorem take_snocT {xs : List Th} {k : Nat} {x : Th} (h : xs[k]? = some x) {p : Th → Prop} (h1 : ∀ y ∈ xs.take k, p y) (h2 : p x) : ∀ y ∈ xs.take (k + 1), p y := by
  intro y hy
  rw [List.take_add_one, h] at hy
  rcases List.mem_append.1 hy with q | q
  · exact h1 y q
  · simp at q; rw [q]; exact h2
theorem bk_one (b : Bk) (a : Option Addr) (n c : Nat) : (#[.string b.wd, .int .i64 b.tr, .slice a n c, .int .i64 b.la, .string b.ch, .int .i64 b.ct] : Array Value).all (·.oneCell') = true := bkc_one _ _ _ _ _ _ _ _
set_option maxRecDepth 20000 in
set_option maxHeartbeats 2000000 in
theorem specThingOf_any (b : Bk) (id : Int) (v : Value) (w : World) (hr : RdBk w v b) (hn9 : b.ths.length ≤ 2000000) :
    Calls Try.prog 25 #[v, .int .i64 id] w fun e w' => e = .returned (.tuple #[.agg (thC (ofT b.ths id)), .bool (hasT b.ths id)]) ∧ Below w.heap.size w w' := by
  obtain ⟨wd, tr, ths, la, ch, ct⟩ := b
  obtain ⟨a, n, c, rfl, hn, hu⟩ := hr.open
  dsimp only at hn hu hn9 ⊢
  have HN := hide hn.symm
  rw [hn.symm] at hn9
  clear hn hr
  obtain ⟨W, hW, hX, hY, hB, hs1⟩ := two_cb w #[.string wd, .int .i64 tr, .slice a n c, .int .i64 la, .string ch, .int .i64 ct] (thC thZ) 40 23
  have hu1 := hu.below hB
  obtain ⟨a', c', hsl, hc⟩ := hu1.openT
  simp only [Value.slice.injEq] at hsl
  obtain ⟨rfl, hnl, rfl⟩ := hsl
  unfold thC thZ at hW
  dsimp only at hW
  have x2 := hX.cell 2 (v := .slice a n c) rfl
  replace hY := hide hY
  replace hB := hide hB
  replace hnl := hide hnl
  clear hu hu1 hX
  go_enter Try.func25, Try.ntmps25
  go_upto_region 1 with fail
  first | rw [hW] | skip
  clear hW
  go_wp2
  go_loop [6] (fun ti => ∃ k : Nat, k ≤ n ∧ ti = .int .i64 k ∧ Hid (∀ y ∈ ths.take k, y.id ≠ id)) (fun ti => n - (intOf ti).toNat)
  case atStart => exact ⟨0, Nat.zero_le _, rfl, fun y hy => by simp at hy⟩
  case round =>
    obtain ⟨k, hk, rfl, hno⟩ := hrel
    by_cases hlt : k < n
    · have hk' : k < ths.length := by have := unhide HN; omega
      obtain ⟨f, hf⟩ : ∃ f, ths[k]? = some f := ⟨ths[k], List.getElem?_eq_getElem hk'⟩
      obtain ⟨g, o, rfl, hg, hat⟩ := hc k f hf
      have hlk : (k : Int) < (n : Int) := by omega
      by_cases he : f.id = id
      · have HO := hide (ofT_at hf (unhide hno) he)
        have d0 := hat.th.1
        obtain ⟨f0, hf0⟩ : ∃ f0, f0 = f := ⟨_, rfl⟩
        rw [he] at d0
        replace hat := hide hat
        replace hf := hide hf
        replace he := hide he
        clear hc
        go_upto_region 5 with fail
        go_wp2_with (first
          | (refine wpList_load_n (L := thY) rfl 23 (.tmp 25) rfl g (o + k * 8) rfl f (unhide hat) _ Try.underlying23 rfl ?_)
          | (refine wpList_store_row rfl 23 (.tmp 4) (.tmp 26) rfl (w.heap.size + 1) (thC f) rfl rfl 23 _ (unhide hY) rfl rfl (th_one f) ?_))
        have hY8 := setRow_heap _ (w.heap.size + 1) _ (thC f) 23 (0, 0) (unhide hY)
        have T4 := Go.below_setRow (unhide hB) (show w.heap.size ≤ w.heap.size + 1 by omega) (thC f)
        exact bodyPost_ret (results_cb_tmp (by exact Try.results25) _ _ (w.heap.size + 1) 23 (thC f) _ rfl hY8 Try.underlying23 (th_size f)) rfl ⟨by rw [(unhide HO).1, (unhide HO).2]; rfl, T4⟩
      · have HO := hide (take_snocT (p := fun y => y.id ≠ id) hf (unhide hno) he)
        have d0 := hat.th.1
        clear hc hat hno
        replace hf := hide hf
        have he' : (f.id == id) = false := by simpa using he
        go_wp2
        go_round
        case rel => exact ⟨k + 1, by omega, by go_num, unhide HO⟩
        case measure => simp [intOf]; omega
    · have e2 : ths.take k = ths := List.take_of_length_le (by have := unhide HN; omega)
      rw [e2] at hno
      have HO := hide (ofT_no (unhide hno))
      clear hc hno e2
      go_upto_region 6 with fail
      go_wp2_with (refine wpList_store_row rfl 23 (.tmp 4) (.tmp 27) rfl (w.heap.size + 1) (thC thZ) rfl rfl 23 _ (unhide hY) rfl rfl (th_one thZ) ?_)
      have hY8 := setRow_heap _ (w.heap.size + 1) _ (thC thZ) 23 (0, 0) (unhide hY)
      have T4 := Go.below_setRow (unhide hB) (show w.heap.size ≤ w.heap.size + 1 by omega) (thC thZ)
      exact bodyPost_ret (results_cb_tmp (by exact Try.results25) _ _ (w.heap.size + 1) 23 (thC thZ) _ rfl hY8 Try.underlying23 (th_size thZ)) rfl ⟨by rw [(unhide HO).1, (unhide HO).2]; rfl, T4⟩
end Go.Proofs.Ytoacaennpddoeab

/- The project's things: what is right, flags, a byte, over the loaded program. -/
namespace Go.Proofs.Ytoacaennpddoeab
open Go.RowKit
theorem idOk_yes (a : Int) (w : World) (h1 : 1 ≤ a) (h2 : a ≤ 1000) : Calls Try.prog 86 #[.int .i64 a] w fun e w' => e = .returned (.bool true) ∧ w' = w := by
  go_enter Try.func86, Try.ntmps86
  go_wp2
  go_ret
  exact ⟨rfl, rfl⟩
theorem idOk_no (a : Int) (w : World) (h : a < 1 ∨ 1000 < a) : Calls Try.prog 86 #[.int .i64 a] w fun e w' => e = .returned (.bool false) ∧ w' = w := by
  by_cases h1 : 1 ≤ a
  · have h2 : ¬ a ≤ 1000 := by omega
    clear h
    go_enter Try.func86, Try.ntmps86
    go_wp2
    go_ret
    exact ⟨rfl, rfl⟩
  · have h2 : decide (1 ≤ a) = false := by rw [decide_eq_false_iff_not]; exact h1
    clear h
    go_enter Try.func86, Try.ntmps86
    go_wp2
    go_ret
    exact ⟨rfl, rfl⟩
set_option maxRecDepth 20000 in
set_option maxHeartbeats 4000000 in
theorem implThingOk_any (x : Th) (w : World) :
    Calls Try.prog 93 #[.agg (thC x)] w fun e w' => e = .returned (.bool (thOk x)) ∧ Below w.heap.size w w' := by
  have HY := hide ((thOk_iff x).2)
  have HN := hide ((thOk_not x).2)
  generalize thOk x = r at *
  obtain ⟨id, kind, hid, fix, sgn, wrp, val, nxt⟩ := x
  unfold thC
  obtain ⟨W, hW, hC, hb, hlt⟩ := one_cb w #[.int .i64 id, .int .i64 kind, .bool hid, .bool fix, .bool sgn, .bool wrp, .string val, .int .i64 nxt] 23
  have c0 := hC.cell 0 rfl
  have c1 := hC.cell 1 rfl
  have c4 := hC.cell 4 rfl
  have c5 := hC.cell 5 rfl
  have c6 := hC.cell 6 rfl
  have c7 := hC.cell 7 rfl
  clear hC
  by_cases A1 : 1 ≤ id ∧ id ≤ 1000
  · have C1 := hide (fun W => idOk_yes id W A1.1 A1.2)
    by_cases k1 : kind = 1
    · subst k1
      by_cases hs : val.size = 32
      · by_cases hn : nxt = 0
        · subst hn
          cases sgn with
          | true =>
            obtain rfl := unhide HN (fun h => by have := (h.2.2.2.2.2.2.1 (by simp)).2; cases this)
            have hs' : ((val.size : Int) == 32) = true := by rw [beq_iff_eq]; omega
            clear HY HN A1
            go_enter Try.func93, Try.ntmps93
            go_wp2_with fail
            refine (unhide C1 W).mono ?_
            rintro e w1 ⟨rfl, hw1⟩
            subst hw1
            go_wp2
            go_ret
            exact ⟨rfl, hb⟩
          | false =>
            obtain rfl := unhide HY ⟨A1.1, A1.2, (by dsimp only; omega), (by dsimp only; omega), (by dsimp only; omega), (by dsimp only; omega), fun _ => ⟨rfl, rfl⟩, fun h => absurd rfl h, fun h => by simp at h, fun _ => hs⟩
            have hs' : ((val.size : Int) == 32) = true := by rw [beq_iff_eq]; omega
            clear HY HN A1
            go_enter Try.func93, Try.ntmps93
            go_wp2_with fail
            refine (unhide C1 W).mono ?_
            rintro e w1 ⟨rfl, hw1⟩
            subst hw1
            go_wp2
            go_ret
            exact ⟨rfl, hb⟩
        · obtain rfl := unhide HN (fun h => hn (h.2.2.2.2.2.2.1 (by simp)).1)
          have hs' : ((val.size : Int) == 32) = true := by rw [beq_iff_eq]; omega
          have hn' : (nxt == 0) = false := by rw [beq_eq_false_iff_ne]; exact hn
          clear HY HN A1
          go_enter Try.func93, Try.ntmps93
          go_wp2_with fail
          refine (unhide C1 W).mono ?_
          rintro e w1 ⟨rfl, hw1⟩
          subst hw1
          go_wp2
          go_ret
          exact ⟨rfl, hb⟩
      · obtain rfl := unhide HN (fun h => hs (h.2.2.2.2.2.2.2.2.2 (by simp)))
        have hs' : ((val.size : Int) == 32) = false := by rw [beq_eq_false_iff_ne]; omega
        clear HY HN A1
        go_enter Try.func93, Try.ntmps93
        go_wp2_with fail
        refine (unhide C1 W).mono ?_
        rintro e w1 ⟨rfl, hw1⟩
        subst hw1
        go_wp2
        go_ret
        exact ⟨rfl, hb⟩
    · by_cases k2 : kind = 2
      · subst k2
        by_cases hs : val.size = 32
        · by_cases hn : 0 ≤ nxt
          · by_cases hm : nxt ≤ 16
            · cases wrp with
              | true =>
                obtain rfl := unhide HN (fun h => by have := h.2.2.2.2.2.2.2.1 (by simp); cases this)
                have hs' : ((val.size : Int) == 32) = true := by rw [beq_iff_eq]; omega
                clear HY HN A1
                go_enter Try.func93, Try.ntmps93
                go_wp2_with fail
                refine (unhide C1 W).mono ?_
                rintro e w1 ⟨rfl, hw1⟩
                subst hw1
                go_wp2
                go_ret
                exact ⟨rfl, hb⟩
              | false =>
                obtain rfl := unhide HY ⟨A1.1, A1.2, (by dsimp only; omega), (by dsimp only; omega), hn, hm, fun h => absurd rfl h, fun _ => rfl, fun h => by simp at h, fun _ => hs⟩
                have hs' : ((val.size : Int) == 32) = true := by rw [beq_iff_eq]; omega
                clear HY HN A1
                go_enter Try.func93, Try.ntmps93
                go_wp2_with fail
                refine (unhide C1 W).mono ?_
                rintro e w1 ⟨rfl, hw1⟩
                subst hw1
                go_wp2
                go_ret
                exact ⟨rfl, hb⟩
            · obtain rfl := unhide HN (fun h => hm (h.2.2.2.2.2.1))
              have hs' : ((val.size : Int) == 32) = true := by rw [beq_iff_eq]; omega
              have hm' : decide (nxt ≤ 16) = false := by rw [decide_eq_false_iff_not]; exact hm
              clear HY HN A1
              go_enter Try.func93, Try.ntmps93
              go_wp2_with fail
              refine (unhide C1 W).mono ?_
              rintro e w1 ⟨rfl, hw1⟩
              subst hw1
              go_wp2
              go_ret
              exact ⟨rfl, hb⟩
          · obtain rfl := unhide HN (fun h => hn (h.2.2.2.2.1))
            have hs' : ((val.size : Int) == 32) = true := by rw [beq_iff_eq]; omega
            have hn' : decide (0 ≤ nxt) = false := by rw [decide_eq_false_iff_not]; exact hn
            clear HY HN A1
            go_enter Try.func93, Try.ntmps93
            go_wp2_with fail
            refine (unhide C1 W).mono ?_
            rintro e w1 ⟨rfl, hw1⟩
            subst hw1
            go_wp2
            go_ret
            exact ⟨rfl, hb⟩
        · obtain rfl := unhide HN (fun h => hs (h.2.2.2.2.2.2.2.2.2 (by simp)))
          have hs' : ((val.size : Int) == 32) = false := by rw [beq_eq_false_iff_ne]; omega
          clear HY HN A1
          go_enter Try.func93, Try.ntmps93
          go_wp2_with fail
          refine (unhide C1 W).mono ?_
          rintro e w1 ⟨rfl, hw1⟩
          subst hw1
          go_wp2
          go_ret
          exact ⟨rfl, hb⟩
      · by_cases k3 : kind = 3
        · subst k3
          by_cases hs : val.size ≤ 100
          · by_cases hn : nxt = 0
            · subst hn
              cases sgn with
              | true =>
                obtain rfl := unhide HN (fun h => by have := (h.2.2.2.2.2.2.1 (by simp)).2; cases this)
                have hs' : (val.size : Int) ≤ 100 := by omega
                clear HY HN A1
                go_enter Try.func93, Try.ntmps93
                go_wp2_with fail
                refine (unhide C1 W).mono ?_
                rintro e w1 ⟨rfl, hw1⟩
                subst hw1
                go_wp2
                go_ret
                exact ⟨rfl, hb⟩
              | false =>
                cases wrp with
                | true =>
                  obtain rfl := unhide HN (fun h => by have := h.2.2.2.2.2.2.2.1 (by simp); cases this)
                  have hs' : (val.size : Int) ≤ 100 := by omega
                  clear HY HN A1
                  go_enter Try.func93, Try.ntmps93
                  go_wp2_with fail
                  refine (unhide C1 W).mono ?_
                  rintro e w1 ⟨rfl, hw1⟩
                  subst hw1
                  go_wp2
                  go_ret
                  exact ⟨rfl, hb⟩
                | false =>
                  obtain rfl := unhide HY ⟨A1.1, A1.2, (by dsimp only; omega), (by dsimp only; omega), (by dsimp only; omega), (by dsimp only; omega), fun _ => ⟨rfl, rfl⟩, fun _ => rfl, fun _ => hs, fun h => absurd rfl h⟩
                  have hs' : (val.size : Int) ≤ 100 := by omega
                  clear HY HN A1
                  go_enter Try.func93, Try.ntmps93
                  go_wp2_with fail
                  refine (unhide C1 W).mono ?_
                  rintro e w1 ⟨rfl, hw1⟩
                  subst hw1
                  go_wp2
                  go_ret
                  exact ⟨rfl, hb⟩
            · obtain rfl := unhide HN (fun h => hn (h.2.2.2.2.2.2.1 (by simp)).1)
              have hs' : (val.size : Int) ≤ 100 := by omega
              have hn' : (nxt == 0) = false := by rw [beq_eq_false_iff_ne]; exact hn
              clear HY HN A1
              go_enter Try.func93, Try.ntmps93
              go_wp2_with fail
              refine (unhide C1 W).mono ?_
              rintro e w1 ⟨rfl, hw1⟩
              subst hw1
              go_wp2
              go_ret
              exact ⟨rfl, hb⟩
          · obtain rfl := unhide HN (fun h => hs (h.2.2.2.2.2.2.2.2.1 rfl))
            have hs1 : ¬ (val.size : Int) ≤ 100 := by omega
            have hs' : decide ((val.size : Int) ≤ 100) = false := by rw [decide_eq_false_iff_not]; omega
            clear HY HN A1
            go_enter Try.func93, Try.ntmps93
            go_wp2_with fail
            refine (unhide C1 W).mono ?_
            rintro e w1 ⟨rfl, hw1⟩
            subst hw1
            go_wp2
            go_ret
            exact ⟨rfl, hb⟩
        · obtain rfl := unhide HN (fun h => by have h1 := h.2.2.1; have h2 := h.2.2.2.1; dsimp only at h1 h2; omega)
          have k1' : (kind == 1) = false := by rw [beq_eq_false_iff_ne]; exact k1
          have k2' : (kind == 2) = false := by rw [beq_eq_false_iff_ne]; exact k2
          have k3' : (kind == 3) = false := by rw [beq_eq_false_iff_ne]; exact k3
          clear HY HN A1
          go_enter Try.func93, Try.ntmps93
          go_wp2_with fail
          refine (unhide C1 W).mono ?_
          rintro e w1 ⟨rfl, hw1⟩
          subst hw1
          go_wp2
          go_ret
          exact ⟨rfl, hb⟩
  · have C1 := hide (fun W => idOk_no id W (by omega))
    obtain rfl := unhide HN (fun h => A1 ⟨h.1, h.2.1⟩)
    clear HY HN A1
    go_enter Try.func93, Try.ntmps93
    go_wp2_with fail
    refine (unhide C1 W).mono ?_
    rintro e w1 ⟨rfl, hw1⟩
    subst hw1
    go_wp2
    go_ret
    exact ⟨rfl, hb⟩
theorem flagIf_any (b : Bool) (n : Int) (w : World) :
    Calls Try.prog 114 #[.bool b, .int .u8 n] w fun e w' => e = .returned (.int .u8 (flI b n)) ∧ w' = w := by
  cases b with
  | true =>
    go_enter Try.func114, Try.ntmps114
    go_wp2
    go_ret
    exact ⟨rfl, rfl⟩
  | false =>
    go_enter Try.func114, Try.ntmps114
    go_wp2
    go_ret
    exact ⟨rfl, rfl⟩
theorem fl_or (h f s w : Bool) : bits .or .u8 (bits .or .u8 (bits .or .u8 (flI h 1) (flI f 2)) (flI s 4)) (flI w 8) = ((flN h f s w : Nat) : Int) := by
  cases h <;> cases f <;> cases s <;> cases w <;> rfl
set_option maxRecDepth 20000 in
set_option maxHeartbeats 1000000 in
theorem flags_any (x : Th) (w : World) :
    Calls Try.prog 106 #[.agg (thC x)] w fun e w' => e = .returned (.int .u8 ((fl x : Nat) : Int)) ∧ Below w.heap.size w w' := by
  have CF := hide (fun b n W => flagIf_any b n W)
  have E := fl_or x.hid x.fix x.sgn x.wrp
  have E2 : flN x.hid x.fix x.sgn x.wrp = fl x := rfl
  rw [E2] at E
  clear E2
  generalize ((fl x : Nat) : Int) = F at *
  obtain ⟨id, kind, hid, fix, sgn, wrp, val, nxt⟩ := x
  unfold thC
  simp only at E
  have q1 := hide (fun W => unhide CF hid 1 W)
  have q2 := hide (fun W => unhide CF fix 2 W)
  have q4 := hide (fun W => unhide CF sgn 4 W)
  have q8 := hide (fun W => unhide CF wrp 8 W)
  clear CF
  generalize flI hid 1 = f1 at *
  generalize flI fix 2 = f2 at *
  generalize flI sgn 4 = f4 at *
  generalize flI wrp 8 = f8 at *
  obtain ⟨W, hW, hC, hb, hlt⟩ := one_cb w #[.int .i64 id, .int .i64 kind, .bool hid, .bool fix, .bool sgn, .bool wrp, .string val, .int .i64 nxt] 23
  have c2 := hC.cell 2 rfl
  have c3 := hC.cell 3 rfl
  have c4 := hC.cell 4 rfl
  have c5 := hC.cell 5 rfl
  clear hC
  go_enter Try.func106, Try.ntmps106
  go_wp2
  go_quiet ((first | (go_at_call 114; exact Calls.quiet_of_same (unhide q1 _)) | (go_at_call 114; exact Calls.quiet_of_same (unhide q2 _)) | (go_at_call 114; exact Calls.quiet_of_same (unhide q4 _)) | (go_at_call 114; exact Calls.quiet_of_same (unhide q8 _))))
  go_wp2
  go_ret
  exact ⟨by rw [← E]; rfl, bDN hb _⟩
set_option maxRecDepth 20000 in
set_option maxHeartbeats 400000 in
theorem implByteY9_any (z : Int) (w : World) :
    Calls Try.prog 64 #[.int .i64 z] w fun e w' => e = .returned (.string (oneY z)) ∧ Below w.heap.size w w' := by
  have hx := b256_lt z
  have E := hide (show oneY z = ⟨#[UInt8.ofNat (b256 z)]⟩ from rfl)
  rw [unhide E]
  have ew : IntKind.u8.wrap z = (b256 z : Int) := by rw [IntKind.wrap_u8]; unfold b256; omega
  have ew8 : z % 256 = (b256 z : Int) := by unfold b256; omega
  generalize b256 z = x at *
  have hcv := conv_oneY w x hx
  have hb : Below w.heap.size w (w.alloc (.cells #[.int .u8 (x : Int)] 5)) := (Below.refl w.heap.size w).alloc (Nat.le_refl _) _
  go_enter Try.func64, Try.ntmps64
  go_wp2
  go_ret
  exact ⟨rfl, hb⟩
end Go.Proofs.Ytoacaennpddoeab

/- The project's rules: changes, new things, and those that come in again, over the loaded program. -/
namespace Go.Proofs.Ytoacaennpddoeab
open Go.RowKit
set_option maxRecDepth 20000 in
theorem strClone20_any (s : ByteArray) (w : World) (hs : s.size ≤ 4000000) :
    Calls Try.prog 59 #[.string s] w fun e w' => e = .returned (.string s) ∧ Below w.heap.size w w' := by
  have hlim : s.size ≤ 281474976710656 := by omega
  have C := hide (Try.stringslite_Clone s w hlim)
  go_enter Try.func59, Try.ntmps59
  go_wp2_with fail
  refine (unhide C).mono ?_
  rintro e w2 ⟨rfl, hb2⟩
  go_wp2
  go_ret
  exact ⟨rfl, hb2⟩
set_option maxRecDepth 20000 in
set_option maxHeartbeats 2000000 in
theorem copied_any (x : Th) (hx : x.val.size ≤ 4000000) (w : World) :
    Calls Try.prog 53 #[.agg (thC x)] w fun e w' => e = .returned (.agg (thC x)) ∧ Below w.heap.size w w' := by
  have CL := hide (fun W => strClone20_any x.val W hx)
  obtain ⟨y, hy⟩ : ∃ y : Th, y = x := ⟨_, rfl⟩
  obtain ⟨id, kind, hid, fix, sgn, wrp, val, nxt⟩ := x
  have hxe : thC ⟨id, kind, hid, fix, sgn, wrp, val, nxt⟩ = #[.int .i64 id, .int .i64 kind, .bool hid, .bool fix, .bool sgn, .bool wrp, .string val, .int .i64 nxt] := rfl
  rw [show thC ⟨id, kind, hid, fix, sgn, wrp, val, nxt⟩ = thC y by rw [hy]]
  rw [show thC y = #[.int .i64 id, .int .i64 kind, .bool hid, .bool fix, .bool sgn, .bool wrp, .string val, .int .i64 nxt] by rw [hy]; rfl]
  simp only at CL hx
  obtain ⟨W, hW, hA, hR, hb, hlt⟩ := two_cb w #[.int .i64 id, .int .i64 kind, .bool hid, .bool fix, .bool sgn, .bool wrp, .string val, .int .i64 nxt] (thC thZ) 23 23
  unfold thC thZ at hW
  simp only at hW
  have a6 := hA.cell 6 rfl
  replace hA := hide hA; replace hR := hide hR
  go_enter Try.func53, Try.ntmps53
  go_wp2_with fail
  refine (unhide CL W).mono ?_
  rintro e w1 ⟨rfl, hb1⟩
  have hA1 := (unhide hA).below hb1 (by omega)
  have hR1 := (unhide hR).below hb1 (by omega)
  have hB1 := hb.trans (hb1.mono hb.size)
  clear a6 hA hR hb hb1 CL hW hxe
  have b6 := hA1.cell 6 rfl
  have z6 := hA1.frozen 6
  have hX2 := hA1.set 6 (.string val)
  have hX3 := hide (cb_eq hX2 (show thC y = _ by rw [hy]; rfl))
  have hR3 := hide (hR1.set_other (h := w.heap.size) (k := 6) (by omega) (.string val))
  have hB3 := hide (hB1.setCell (p := ⟨w.heap.size, 6, none⟩) (Nat.le_refl _) (.string val))
  replace hy := hide hy
  clear hA1 hX2 hR1 hB1
  go_wp2_with (first
    | (refine wpList_load_row rfl 23 (.tmp 1) rfl w.heap.size rfl 23 (thC y) (0, 0) _ (unhide hX3) Try.underlying23 rfl (th_size y) ?_)
    | (refine wpList_store_row rfl 23 (.tmp 2) (.tmp 7) rfl (w.heap.size + 1) (thC y) rfl rfl 23 (thC thZ) (unhide hR3) (th_size y) rfl (th_one y) ?_))
  have hR5 := setRow_heap _ (w.heap.size + 1) _ (thC y) 23 (0, 0) (unhide hR3)
  have hB5 := Go.below_setRow (unhide hB3) (show w.heap.size ≤ w.heap.size + 1 by omega) (thC y)
  exact bodyPost_ret (results_cb (by exact Try.results53) _ _ (w.heap.size + 1) 23 (thC y) _ rfl hR5 Try.underlying23 (th_size y)) rfl ⟨by rw [unhide hy]; rfl, hB5⟩
set_option maxRecDepth 20000 in
set_option maxHeartbeats 4000000 in
theorem implChange_any (x : Th) (h f : Bool) (hx : x.val.size ≤ 4000000) (w : World) :
    Calls Try.prog 109 #[.agg (thC x), .bool h, .bool f] w fun e w' => e = .returned (.tuple #[.agg (thC (chgT x h f)), .bool (chgOk x h f)]) ∧ Below w.heap.size w w' := by
  have CO := hide (fun W => implThingOk_any x W)
  have CP := hide (fun W => copied_any x hx W)
  have HO : chgOk x h f = true ↔ thOk x = true ∧ (x.hid = true → h = true) ∧ (x.fix = true → f = true) := by unfold chgOk; exact decide_eq_true_iff
  have ET : chgT x h f = if chgOk x h f = true then { x with hid := h, fix := f } else thZ := rfl
  rw [ET]
  clear ET
  generalize chgOk x h f = fin at *
  generalize thOk x = ok at *
  obtain ⟨y0, hy0⟩ : ∃ y0 : Th, y0 = x := ⟨_, rfl⟩
  obtain ⟨id, kind, hid, fix, sgn, wrp, val, nxt⟩ := x
  rw [← hy0] at CP
  have hxe : thC y0 = #[.int .i64 id, .int .i64 kind, .bool hid, .bool fix, .bool sgn, .bool wrp, .string val, .int .i64 nxt] := by rw [hy0]; rfl
  rw [show thC ⟨id, kind, hid, fix, sgn, wrp, val, nxt⟩ = #[.int .i64 id, .int .i64 kind, .bool hid, .bool fix, .bool sgn, .bool wrp, .string val, .int .i64 nxt] from rfl] at CO ⊢
  simp only at HO ⊢
  obtain ⟨W, hW, hA, hR, hb, hlt⟩ := two_cb w #[.int .i64 id, .int .i64 kind, .bool hid, .bool fix, .bool sgn, .bool wrp, .string val, .int .i64 nxt] (thC thZ) 23 23
  rw [show thC thZ = #[.int .i64 0, .int .i64 0, .bool false, .bool false, .bool false, .bool false, .string ⟨#[]⟩, .int .i64 0] from rfl] at hW
  have a0 := hA.cell 0 rfl
  have a1 := hA.cell 1 rfl
  have a2 := hA.cell 2 rfl
  have a3 := hA.cell 3 rfl
  have a4 := hA.cell 4 rfl
  have a5 := hA.cell 5 rfl
  have a6 := hA.cell 6 rfl
  have a7 := hA.cell 7 rfl
  rw [← hxe] at hA
  replace hA := hide hA; replace hR := hide hR
  replace hy0 := hide hy0; replace hxe := hide hxe
  cases hid with
  | true =>
    cases h with
    | false =>
      obtain rfl : fin = false := by cases fin with | false => rfl | true => exact absurd (HO.1 rfl) (by simp)
      clear HO CO CP
      go_enter Try.func109, Try.ntmps109
      go_wp2_with (refine wpList_store_row rfl 23 (.tmp 6) (.tmp 30) rfl (w.heap.size + 1) (thC thZ) rfl rfl 23 (thC thZ) (unhide hR) (th_size thZ) rfl (th_one thZ) ?_)
      have hR5 := setRow_heap _ (w.heap.size + 1) _ (thC thZ) 23 (0, 0) (unhide hR)
      have hB5 := Go.below_setRow hb (show w.heap.size ≤ w.heap.size + 1 by omega) (thC thZ)
      exact bodyPost_ret (results_cb_tmp (by exact Try.results109) _ _ (w.heap.size + 1) 23 (thC thZ) _ rfl hR5 Try.underlying23 (th_size thZ)) rfl ⟨rfl, hB5⟩
    | true =>
      cases fix with
      | true =>
        cases f with
        | false =>
          obtain rfl : fin = false := by cases fin with | false => rfl | true => exact absurd (HO.1 rfl) (by simp)
          clear HO CO CP
          go_enter Try.func109, Try.ntmps109
          go_wp2_with (refine wpList_store_row rfl 23 (.tmp 6) (.tmp 30) rfl (w.heap.size + 1) (thC thZ) rfl rfl 23 (thC thZ) (unhide hR) (th_size thZ) rfl (th_one thZ) ?_)
          have hR5 := setRow_heap _ (w.heap.size + 1) _ (thC thZ) 23 (0, 0) (unhide hR)
          have hB5 := Go.below_setRow hb (show w.heap.size ≤ w.heap.size + 1 by omega) (thC thZ)
          exact bodyPost_ret (results_cb_tmp (by exact Try.results109) _ _ (w.heap.size + 1) 23 (thC thZ) _ rfl hR5 Try.underlying23 (th_size thZ)) rfl ⟨rfl, hB5⟩
        | true =>
          go_enter Try.func109, Try.ntmps109
          go_wp2_with fail
          refine (unhide CO W).mono ?_
          rintro e w1 ⟨rfl, hb1⟩
          have hA1 := hide ((unhide hA).below hb1 (by omega))
          have hR1 := hide ((unhide hR).below hb1 (by omega))
          have hB1 := hb.trans (hb1.mono hb.size)
          have hs1 : w.heap.size + 1 < w1.heap.size := (unhide hR1).lt
          clear a0 a1 a2 a3 a4 a5 a6 a7 hA hR hb hb1 CO hW hlt
          cases ok with
          | false =>
            obtain rfl : fin = false := by cases fin with | false => rfl | true => exact absurd (HO.1 rfl) (by simp)
            clear HO CP hA1
            go_wp2_with (refine wpList_store_row rfl 23 (.tmp 6) (.tmp 30) rfl (w.heap.size + 1) (thC thZ) rfl rfl 23 (thC thZ) (unhide hR1) (th_size thZ) rfl (th_one thZ) ?_)
            have hR5 := setRow_heap _ (w.heap.size + 1) _ (thC thZ) 23 (0, 0) (unhide hR1)
            have hB5 := Go.below_setRow hB1 (show w.heap.size ≤ w.heap.size + 1 by omega) (thC thZ)
            exact bodyPost_ret (results_cb_tmp (by exact Try.results109) _ _ (w.heap.size + 1) 23 (thC thZ) _ rfl hR5 Try.underlying23 (th_size thZ)) rfl ⟨rfl, hB5⟩
          | true =>
            obtain rfl : fin = true := HO.2 (by simp)
            clear HO
            go_wp2_with (refine wpList_load_row rfl 23 (.tmp 3) rfl w.heap.size rfl 23 (thC y0) (0, 0) _ (unhide hA1) Try.underlying23 rfl (th_size y0) ?_)
            refine (unhide CP w1).mono ?_
            rintro e w2 ⟨rfl, hb2⟩
            have hR2 := (unhide hR1).step hb2
            have hB2 := hB1.trans (hb2.mono hB1.size)
            have hs2 : w.heap.size + 1 < w2.heap.size := hR2.lt
            clear hA1 hR1 hB1 hb2 CP hs1
            have hZ := hide (CB.new w2 #[.int .i64 0, .int .i64 0, .bool false, .bool false, .bool false, .bool false, .string ⟨#[]⟩, .int .i64 0] 23)
            have hR3 := (hR2.alloc (.cells #[.int .i64 0, .int .i64 0, .bool false, .bool false, .bool false, .bool false, .string ⟨#[]⟩, .int .i64 0] 23))
            have hB3 := hB2.alloc hB2.size (.cells #[.int .i64 0, .int .i64 0, .bool false, .bool false, .bool false, .bool false, .string ⟨#[]⟩, .int .i64 0] 23)
            have hV3 := setRow_heap _ w2.heap.size _ (thC y0) 23 (0, 0) (unhide hZ)
            have hB4 := Go.below_setRow hB3 (show w.heap.size ≤ w2.heap.size by omega) (thC y0)
            have hR4 := (setRow_other (w2.alloc (.cells #[.int .i64 0, .int .i64 0, .bool false, .bool false, .bool false, .bool false, .string ⟨#[]⟩, .int .i64 0] 23)) w2.heap.size (w.heap.size + 1) (thC y0) (by omega)).trans hR3
            obtain ⟨V, hV⟩ : ∃ V, (w2.alloc (.cells #[.int .i64 0, .int .i64 0, .bool false, .bool false, .bool false, .bool false, .string ⟨#[]⟩, .int .i64 0] 23)).setRow w2.heap.size (thC y0) = V := ⟨_, rfl⟩
            rw [hV] at hV3 hB4 hR4
            replace hV3 : CB V w2.heap.size 23 (thC y0) := hV3
            replace hR4 : CB V (w.heap.size + 1) 23 (thC thZ) := hR4
            clear hR2 hB2 hR3 hB3
            rw [unhide hxe] at hV3
            have c2 := hV3.cell 2 rfl
            have z2 := hV3.frozen 2
            have hV4 := hV3.set 2 (.bool true)
            have c3 := hV4.cell 3 rfl
            have z3 := hV4.frozen 3
            have hV5 := hV4.set 3 (.bool true)
            obtain ⟨y, hy⟩ : ∃ y : Th, y = ⟨id, kind, true, true, sgn, wrp, val, nxt⟩ := ⟨_, rfl⟩
            have hV6 := hide (cb_eq hV5 (show thC y = _ by rw [hy]; rfl))
            have hR6 := hide ((hR4.set_other (h := w2.heap.size) (k := 2) (by omega) (.bool true)).set_other (h := w2.heap.size) (k := 3) (by omega) (.bool true))
            have hB6 := hide ((hB4.setCell (p := ⟨w2.heap.size, 2, none⟩) (show w.heap.size ≤ w2.heap.size by omega) (.bool true)).setCell (p := ⟨w2.heap.size, 3, none⟩) (show w.heap.size ≤ w2.heap.size by omega) (.bool true))
            replace hy := hide hy
            clear hV3 hV4 hV5 hR4 hB4
            replace hV := hide hV
            go_wp2_with (first
              | (refine wpList_store_row rfl 23 (.tmp 9) (.tmp 32) rfl w2.heap.size (thC y0) rfl rfl 23 _ (unhide hZ) (th_size y0) rfl (th_one y0) ?_; rw [unhide hV])
              | (refine wpList_load_row rfl 23 (.tmp 9) rfl w2.heap.size rfl 23 (thC y) (0, 0) _ (unhide hV6) Try.underlying23 rfl (th_size y) ?_)
              | (refine wpList_store_row rfl 23 (.tmp 6) (.tmp 37) rfl (w.heap.size + 1) (thC y) rfl rfl 23 (thC thZ) (unhide hR6) (th_size y) rfl (th_one y) ?_))
            have hR7 := setRow_heap _ (w.heap.size + 1) _ (thC y) 23 (0, 0) (unhide hR6)
            have hB7 := Go.below_setRow (unhide hB6) (show w.heap.size ≤ w.heap.size + 1 by omega) (thC y)
            exact bodyPost_ret (results_cb_tmp (by exact Try.results109) _ _ (w.heap.size + 1) 23 (thC y) _ rfl hR7 Try.underlying23 (th_size y)) rfl ⟨by rw [unhide hy]; rfl, hB7⟩
      | false =>
        go_enter Try.func109, Try.ntmps109
        go_wp2_with fail
        refine (unhide CO W).mono ?_
        rintro e w1 ⟨rfl, hb1⟩
        have hA1 := hide ((unhide hA).below hb1 (by omega))
        have hR1 := hide ((unhide hR).below hb1 (by omega))
        have hB1 := hb.trans (hb1.mono hb.size)
        have hs1 : w.heap.size + 1 < w1.heap.size := (unhide hR1).lt
        clear a0 a1 a2 a3 a4 a5 a6 a7 hA hR hb hb1 CO hW hlt
        cases ok with
        | false =>
          obtain rfl : fin = false := by cases fin with | false => rfl | true => exact absurd (HO.1 rfl) (by simp)
          clear HO CP hA1
          go_wp2_with (refine wpList_store_row rfl 23 (.tmp 6) (.tmp 30) rfl (w.heap.size + 1) (thC thZ) rfl rfl 23 (thC thZ) (unhide hR1) (th_size thZ) rfl (th_one thZ) ?_)
          have hR5 := setRow_heap _ (w.heap.size + 1) _ (thC thZ) 23 (0, 0) (unhide hR1)
          have hB5 := Go.below_setRow hB1 (show w.heap.size ≤ w.heap.size + 1 by omega) (thC thZ)
          exact bodyPost_ret (results_cb_tmp (by exact Try.results109) _ _ (w.heap.size + 1) 23 (thC thZ) _ rfl hR5 Try.underlying23 (th_size thZ)) rfl ⟨rfl, hB5⟩
        | true =>
          obtain rfl : fin = true := HO.2 (by simp)
          clear HO
          go_wp2_with (refine wpList_load_row rfl 23 (.tmp 3) rfl w.heap.size rfl 23 (thC y0) (0, 0) _ (unhide hA1) Try.underlying23 rfl (th_size y0) ?_)
          refine (unhide CP w1).mono ?_
          rintro e w2 ⟨rfl, hb2⟩
          have hR2 := (unhide hR1).step hb2
          have hB2 := hB1.trans (hb2.mono hB1.size)
          have hs2 : w.heap.size + 1 < w2.heap.size := hR2.lt
          clear hA1 hR1 hB1 hb2 CP hs1
          have hZ := hide (CB.new w2 #[.int .i64 0, .int .i64 0, .bool false, .bool false, .bool false, .bool false, .string ⟨#[]⟩, .int .i64 0] 23)
          have hR3 := (hR2.alloc (.cells #[.int .i64 0, .int .i64 0, .bool false, .bool false, .bool false, .bool false, .string ⟨#[]⟩, .int .i64 0] 23))
          have hB3 := hB2.alloc hB2.size (.cells #[.int .i64 0, .int .i64 0, .bool false, .bool false, .bool false, .bool false, .string ⟨#[]⟩, .int .i64 0] 23)
          have hV3 := setRow_heap _ w2.heap.size _ (thC y0) 23 (0, 0) (unhide hZ)
          have hB4 := Go.below_setRow hB3 (show w.heap.size ≤ w2.heap.size by omega) (thC y0)
          have hR4 := (setRow_other (w2.alloc (.cells #[.int .i64 0, .int .i64 0, .bool false, .bool false, .bool false, .bool false, .string ⟨#[]⟩, .int .i64 0] 23)) w2.heap.size (w.heap.size + 1) (thC y0) (by omega)).trans hR3
          obtain ⟨V, hV⟩ : ∃ V, (w2.alloc (.cells #[.int .i64 0, .int .i64 0, .bool false, .bool false, .bool false, .bool false, .string ⟨#[]⟩, .int .i64 0] 23)).setRow w2.heap.size (thC y0) = V := ⟨_, rfl⟩
          rw [hV] at hV3 hB4 hR4
          replace hV3 : CB V w2.heap.size 23 (thC y0) := hV3
          replace hR4 : CB V (w.heap.size + 1) 23 (thC thZ) := hR4
          clear hR2 hB2 hR3 hB3
          rw [unhide hxe] at hV3
          have c2 := hV3.cell 2 rfl
          have z2 := hV3.frozen 2
          have hV4 := hV3.set 2 (.bool true)
          have c3 := hV4.cell 3 rfl
          have z3 := hV4.frozen 3
          have hV5 := hV4.set 3 (.bool f)
          obtain ⟨y, hy⟩ : ∃ y : Th, y = ⟨id, kind, true, f, sgn, wrp, val, nxt⟩ := ⟨_, rfl⟩
          have hV6 := hide (cb_eq hV5 (show thC y = _ by rw [hy]; rfl))
          have hR6 := hide ((hR4.set_other (h := w2.heap.size) (k := 2) (by omega) (.bool true)).set_other (h := w2.heap.size) (k := 3) (by omega) (.bool f))
          have hB6 := hide ((hB4.setCell (p := ⟨w2.heap.size, 2, none⟩) (show w.heap.size ≤ w2.heap.size by omega) (.bool true)).setCell (p := ⟨w2.heap.size, 3, none⟩) (show w.heap.size ≤ w2.heap.size by omega) (.bool f))
          replace hy := hide hy
          clear hV3 hV4 hV5 hR4 hB4
          replace hV := hide hV
          go_wp2_with (first
            | (refine wpList_store_row rfl 23 (.tmp 9) (.tmp 32) rfl w2.heap.size (thC y0) rfl rfl 23 _ (unhide hZ) (th_size y0) rfl (th_one y0) ?_; rw [unhide hV])
            | (refine wpList_load_row rfl 23 (.tmp 9) rfl w2.heap.size rfl 23 (thC y) (0, 0) _ (unhide hV6) Try.underlying23 rfl (th_size y) ?_)
            | (refine wpList_store_row rfl 23 (.tmp 6) (.tmp 37) rfl (w.heap.size + 1) (thC y) rfl rfl 23 (thC thZ) (unhide hR6) (th_size y) rfl (th_one y) ?_))
          have hR7 := setRow_heap _ (w.heap.size + 1) _ (thC y) 23 (0, 0) (unhide hR6)
          have hB7 := Go.below_setRow (unhide hB6) (show w.heap.size ≤ w.heap.size + 1 by omega) (thC y)
          exact bodyPost_ret (results_cb_tmp (by exact Try.results109) _ _ (w.heap.size + 1) 23 (thC y) _ rfl hR7 Try.underlying23 (th_size y)) rfl ⟨by rw [unhide hy]; rfl, hB7⟩
  | false =>
    cases fix with
    | true =>
      cases f with
      | false =>
        obtain rfl : fin = false := by cases fin with | false => rfl | true => exact absurd (HO.1 rfl) (by simp)
        clear HO CO CP
        go_enter Try.func109, Try.ntmps109
        go_wp2_with (refine wpList_store_row rfl 23 (.tmp 6) (.tmp 30) rfl (w.heap.size + 1) (thC thZ) rfl rfl 23 (thC thZ) (unhide hR) (th_size thZ) rfl (th_one thZ) ?_)
        have hR5 := setRow_heap _ (w.heap.size + 1) _ (thC thZ) 23 (0, 0) (unhide hR)
        have hB5 := Go.below_setRow hb (show w.heap.size ≤ w.heap.size + 1 by omega) (thC thZ)
        exact bodyPost_ret (results_cb_tmp (by exact Try.results109) _ _ (w.heap.size + 1) 23 (thC thZ) _ rfl hR5 Try.underlying23 (th_size thZ)) rfl ⟨rfl, hB5⟩
      | true =>
        go_enter Try.func109, Try.ntmps109
        go_wp2_with fail
        refine (unhide CO W).mono ?_
        rintro e w1 ⟨rfl, hb1⟩
        have hA1 := hide ((unhide hA).below hb1 (by omega))
        have hR1 := hide ((unhide hR).below hb1 (by omega))
        have hB1 := hb.trans (hb1.mono hb.size)
        have hs1 : w.heap.size + 1 < w1.heap.size := (unhide hR1).lt
        clear a0 a1 a2 a3 a4 a5 a6 a7 hA hR hb hb1 CO hW hlt
        cases ok with
        | false =>
          obtain rfl : fin = false := by cases fin with | false => rfl | true => exact absurd (HO.1 rfl) (by simp)
          clear HO CP hA1
          go_wp2_with (refine wpList_store_row rfl 23 (.tmp 6) (.tmp 30) rfl (w.heap.size + 1) (thC thZ) rfl rfl 23 (thC thZ) (unhide hR1) (th_size thZ) rfl (th_one thZ) ?_)
          have hR5 := setRow_heap _ (w.heap.size + 1) _ (thC thZ) 23 (0, 0) (unhide hR1)
          have hB5 := Go.below_setRow hB1 (show w.heap.size ≤ w.heap.size + 1 by omega) (thC thZ)
          exact bodyPost_ret (results_cb_tmp (by exact Try.results109) _ _ (w.heap.size + 1) 23 (thC thZ) _ rfl hR5 Try.underlying23 (th_size thZ)) rfl ⟨rfl, hB5⟩
        | true =>
          obtain rfl : fin = true := HO.2 (by simp)
          clear HO
          go_wp2_with (refine wpList_load_row rfl 23 (.tmp 3) rfl w.heap.size rfl 23 (thC y0) (0, 0) _ (unhide hA1) Try.underlying23 rfl (th_size y0) ?_)
          refine (unhide CP w1).mono ?_
          rintro e w2 ⟨rfl, hb2⟩
          have hR2 := (unhide hR1).step hb2
          have hB2 := hB1.trans (hb2.mono hB1.size)
          have hs2 : w.heap.size + 1 < w2.heap.size := hR2.lt
          clear hA1 hR1 hB1 hb2 CP hs1
          have hZ := hide (CB.new w2 #[.int .i64 0, .int .i64 0, .bool false, .bool false, .bool false, .bool false, .string ⟨#[]⟩, .int .i64 0] 23)
          have hR3 := (hR2.alloc (.cells #[.int .i64 0, .int .i64 0, .bool false, .bool false, .bool false, .bool false, .string ⟨#[]⟩, .int .i64 0] 23))
          have hB3 := hB2.alloc hB2.size (.cells #[.int .i64 0, .int .i64 0, .bool false, .bool false, .bool false, .bool false, .string ⟨#[]⟩, .int .i64 0] 23)
          have hV3 := setRow_heap _ w2.heap.size _ (thC y0) 23 (0, 0) (unhide hZ)
          have hB4 := Go.below_setRow hB3 (show w.heap.size ≤ w2.heap.size by omega) (thC y0)
          have hR4 := (setRow_other (w2.alloc (.cells #[.int .i64 0, .int .i64 0, .bool false, .bool false, .bool false, .bool false, .string ⟨#[]⟩, .int .i64 0] 23)) w2.heap.size (w.heap.size + 1) (thC y0) (by omega)).trans hR3
          obtain ⟨V, hV⟩ : ∃ V, (w2.alloc (.cells #[.int .i64 0, .int .i64 0, .bool false, .bool false, .bool false, .bool false, .string ⟨#[]⟩, .int .i64 0] 23)).setRow w2.heap.size (thC y0) = V := ⟨_, rfl⟩
          rw [hV] at hV3 hB4 hR4
          replace hV3 : CB V w2.heap.size 23 (thC y0) := hV3
          replace hR4 : CB V (w.heap.size + 1) 23 (thC thZ) := hR4
          clear hR2 hB2 hR3 hB3
          rw [unhide hxe] at hV3
          have c2 := hV3.cell 2 rfl
          have z2 := hV3.frozen 2
          have hV4 := hV3.set 2 (.bool h)
          have c3 := hV4.cell 3 rfl
          have z3 := hV4.frozen 3
          have hV5 := hV4.set 3 (.bool true)
          obtain ⟨y, hy⟩ : ∃ y : Th, y = ⟨id, kind, h, true, sgn, wrp, val, nxt⟩ := ⟨_, rfl⟩
          have hV6 := hide (cb_eq hV5 (show thC y = _ by rw [hy]; rfl))
          have hR6 := hide ((hR4.set_other (h := w2.heap.size) (k := 2) (by omega) (.bool h)).set_other (h := w2.heap.size) (k := 3) (by omega) (.bool true))
          have hB6 := hide ((hB4.setCell (p := ⟨w2.heap.size, 2, none⟩) (show w.heap.size ≤ w2.heap.size by omega) (.bool h)).setCell (p := ⟨w2.heap.size, 3, none⟩) (show w.heap.size ≤ w2.heap.size by omega) (.bool true))
          replace hy := hide hy
          clear hV3 hV4 hV5 hR4 hB4
          replace hV := hide hV
          go_wp2_with (first
            | (refine wpList_store_row rfl 23 (.tmp 9) (.tmp 32) rfl w2.heap.size (thC y0) rfl rfl 23 _ (unhide hZ) (th_size y0) rfl (th_one y0) ?_; rw [unhide hV])
            | (refine wpList_load_row rfl 23 (.tmp 9) rfl w2.heap.size rfl 23 (thC y) (0, 0) _ (unhide hV6) Try.underlying23 rfl (th_size y) ?_)
            | (refine wpList_store_row rfl 23 (.tmp 6) (.tmp 37) rfl (w.heap.size + 1) (thC y) rfl rfl 23 (thC thZ) (unhide hR6) (th_size y) rfl (th_one y) ?_))
          have hR7 := setRow_heap _ (w.heap.size + 1) _ (thC y) 23 (0, 0) (unhide hR6)
          have hB7 := Go.below_setRow (unhide hB6) (show w.heap.size ≤ w.heap.size + 1 by omega) (thC y)
          exact bodyPost_ret (results_cb_tmp (by exact Try.results109) _ _ (w.heap.size + 1) 23 (thC y) _ rfl hR7 Try.underlying23 (th_size y)) rfl ⟨by rw [unhide hy]; rfl, hB7⟩
    | false =>
      go_enter Try.func109, Try.ntmps109
      go_wp2_with fail
      refine (unhide CO W).mono ?_
      rintro e w1 ⟨rfl, hb1⟩
      have hA1 := hide ((unhide hA).below hb1 (by omega))
      have hR1 := hide ((unhide hR).below hb1 (by omega))
      have hB1 := hb.trans (hb1.mono hb.size)
      have hs1 : w.heap.size + 1 < w1.heap.size := (unhide hR1).lt
      clear a0 a1 a2 a3 a4 a5 a6 a7 hA hR hb hb1 CO hW hlt
      cases ok with
      | false =>
        obtain rfl : fin = false := by cases fin with | false => rfl | true => exact absurd (HO.1 rfl) (by simp)
        clear HO CP hA1
        go_wp2_with (refine wpList_store_row rfl 23 (.tmp 6) (.tmp 30) rfl (w.heap.size + 1) (thC thZ) rfl rfl 23 (thC thZ) (unhide hR1) (th_size thZ) rfl (th_one thZ) ?_)
        have hR5 := setRow_heap _ (w.heap.size + 1) _ (thC thZ) 23 (0, 0) (unhide hR1)
        have hB5 := Go.below_setRow hB1 (show w.heap.size ≤ w.heap.size + 1 by omega) (thC thZ)
        exact bodyPost_ret (results_cb_tmp (by exact Try.results109) _ _ (w.heap.size + 1) 23 (thC thZ) _ rfl hR5 Try.underlying23 (th_size thZ)) rfl ⟨rfl, hB5⟩
      | true =>
        obtain rfl : fin = true := HO.2 (by simp)
        clear HO
        go_wp2_with (refine wpList_load_row rfl 23 (.tmp 3) rfl w.heap.size rfl 23 (thC y0) (0, 0) _ (unhide hA1) Try.underlying23 rfl (th_size y0) ?_)
        refine (unhide CP w1).mono ?_
        rintro e w2 ⟨rfl, hb2⟩
        have hR2 := (unhide hR1).step hb2
        have hB2 := hB1.trans (hb2.mono hB1.size)
        have hs2 : w.heap.size + 1 < w2.heap.size := hR2.lt
        clear hA1 hR1 hB1 hb2 CP hs1
        have hZ := hide (CB.new w2 #[.int .i64 0, .int .i64 0, .bool false, .bool false, .bool false, .bool false, .string ⟨#[]⟩, .int .i64 0] 23)
        have hR3 := (hR2.alloc (.cells #[.int .i64 0, .int .i64 0, .bool false, .bool false, .bool false, .bool false, .string ⟨#[]⟩, .int .i64 0] 23))
        have hB3 := hB2.alloc hB2.size (.cells #[.int .i64 0, .int .i64 0, .bool false, .bool false, .bool false, .bool false, .string ⟨#[]⟩, .int .i64 0] 23)
        have hV3 := setRow_heap _ w2.heap.size _ (thC y0) 23 (0, 0) (unhide hZ)
        have hB4 := Go.below_setRow hB3 (show w.heap.size ≤ w2.heap.size by omega) (thC y0)
        have hR4 := (setRow_other (w2.alloc (.cells #[.int .i64 0, .int .i64 0, .bool false, .bool false, .bool false, .bool false, .string ⟨#[]⟩, .int .i64 0] 23)) w2.heap.size (w.heap.size + 1) (thC y0) (by omega)).trans hR3
        obtain ⟨V, hV⟩ : ∃ V, (w2.alloc (.cells #[.int .i64 0, .int .i64 0, .bool false, .bool false, .bool false, .bool false, .string ⟨#[]⟩, .int .i64 0] 23)).setRow w2.heap.size (thC y0) = V := ⟨_, rfl⟩
        rw [hV] at hV3 hB4 hR4
        replace hV3 : CB V w2.heap.size 23 (thC y0) := hV3
        replace hR4 : CB V (w.heap.size + 1) 23 (thC thZ) := hR4
        clear hR2 hB2 hR3 hB3
        rw [unhide hxe] at hV3
        have c2 := hV3.cell 2 rfl
        have z2 := hV3.frozen 2
        have hV4 := hV3.set 2 (.bool h)
        have c3 := hV4.cell 3 rfl
        have z3 := hV4.frozen 3
        have hV5 := hV4.set 3 (.bool f)
        obtain ⟨y, hy⟩ : ∃ y : Th, y = ⟨id, kind, h, f, sgn, wrp, val, nxt⟩ := ⟨_, rfl⟩
        have hV6 := hide (cb_eq hV5 (show thC y = _ by rw [hy]; rfl))
        have hR6 := hide ((hR4.set_other (h := w2.heap.size) (k := 2) (by omega) (.bool h)).set_other (h := w2.heap.size) (k := 3) (by omega) (.bool f))
        have hB6 := hide ((hB4.setCell (p := ⟨w2.heap.size, 2, none⟩) (show w.heap.size ≤ w2.heap.size by omega) (.bool h)).setCell (p := ⟨w2.heap.size, 3, none⟩) (show w.heap.size ≤ w2.heap.size by omega) (.bool f))
        replace hy := hide hy
        clear hV3 hV4 hV5 hR4 hB4
        replace hV := hide hV
        go_wp2_with (first
          | (refine wpList_store_row rfl 23 (.tmp 9) (.tmp 32) rfl w2.heap.size (thC y0) rfl rfl 23 _ (unhide hZ) (th_size y0) rfl (th_one y0) ?_; rw [unhide hV])
          | (refine wpList_load_row rfl 23 (.tmp 9) rfl w2.heap.size rfl 23 (thC y) (0, 0) _ (unhide hV6) Try.underlying23 rfl (th_size y) ?_)
          | (refine wpList_store_row rfl 23 (.tmp 6) (.tmp 37) rfl (w.heap.size + 1) (thC y) rfl rfl 23 (thC thZ) (unhide hR6) (th_size y) rfl (th_one y) ?_))
        have hR7 := setRow_heap _ (w.heap.size + 1) _ (thC y) 23 (0, 0) (unhide hR6)
        have hB7 := Go.below_setRow (unhide hB6) (show w.heap.size ≤ w.heap.size + 1 by omega) (thC y)
        exact bodyPost_ret (results_cb_tmp (by exact Try.results109) _ _ (w.heap.size + 1) 23 (thC y) _ rfl hR7 Try.underlying23 (th_size y)) rfl ⟨by rw [unhide hy]; rfl, hB7⟩
end Go.Proofs.Ytoacaennpddoeab

/- The project's books: where a thing stands, and it, over the loaded program. -/
namespace Go.Proofs.Ytoacaennpddoeab
open Go.RowKit
/-- Where the thing with this Id stands. -/
def PlT (xs : List Th) (id z : Int) : Prop := (z = -1 ∧ ∀ y ∈ xs, y.id ≠ id) ∨ ∃ (k : Nat) (x : Th), z = (k : Int) ∧ xs[k]? = some x ∧ x.id = id ∧ ∀ y ∈ xs.take k, y.id ≠ id
set_option maxRecDepth 20000 in
set_option maxHeartbeats 1000000 in
theorem placeLit_any (x : Th) (id : Int) (gb : Nat) (w : World) (hg : w.cell? ⟨gb, 0, none⟩ = some (.int .i64 id)) (hgl : gb < w.heap.size) :
    Calls Try.prog 78 #[.agg (thC x), .pointer (some ⟨gb, 0, none⟩)] w fun e w' => e = .returned (.bool (x.id == id)) ∧ Below w.heap.size w w' := by
  obtain ⟨xi, xk, xh, xf, xg, xw, xv, xn⟩ := x
  simp only [thC]
  have hne : ¬ w.heap.size = gb := by omega
  go_enter Try.func78, Try.ntmps78
  go_wp2
  go_ret
  exact ⟨rfl, (Below.refl _ w).alloc (Nat.le_refl _) _⟩
set_option maxRecDepth 20000 in
set_option maxHeartbeats 1000000 in
theorem indexTh_any (xs : List Th) (id : Int) (gb : Nat) (v : Value) (w : World) (hl : xs.length ≤ 2000000) (hg : w.cell? ⟨gb, 0, none⟩ = some (.int .i64 id)) (hgl : gb < w.heap.size) (hr : RdN thY w v xs) :
    Calls Try.prog 77 #[v, .func (.func 78) #[] #[.pointer (some ⟨gb, 0, none⟩)]] w fun e w' =>
      (∃ z : Int, e = .returned (.int .i64 z) ∧ PlT xs id z) ∧ Below w.heap.size w w' := by
  have eg : ∀ args w, (callFunc 78 args).run Try.prog w = .ok (.enter 78 args) w := enters_of Try.func78 (by kernel_rfl) rfl
  obtain ⟨a, c, rfl, hc⟩ := hr.openT
  obtain ⟨n, hn⟩ : ∃ n, n = xs.length := ⟨_, rfl⟩
  rw [← hn] at hl ⊢
  clear hr
  replace hn := hide hn
  have HG := hide hg
  clear hg
  go_enter Try.func77, Try.ntmps77
  go_wp2
  go_loopw [5, 8] (fun _ ti wr => ∃ k : Nat, k ≤ n ∧ ti = .int .i64 (k : Int) ∧ Below w.heap.size w wr ∧ Hid (∀ y ∈ xs.take k, y.id ≠ id)) (fun _ ti _ => n - (intOf ti).toNat)
  case atStart => exact ⟨0, by omega, rfl, Below.refl _ _, hide (fun y hy => by simp at hy)⟩
  case round =>
    obtain ⟨k, hk, rfl, hb, HK⟩ := hrel
    have hss := hb.size
    by_cases hlt : k < n
    · have hk' : (k : Int) < (n : Int) := by omega
      have hci : (0 : Int) ≤ (k : Int) := by omega
      have hkl : k < xs.length := by rw [← unhide hn]; exact hlt
      obtain ⟨f, hf⟩ : ∃ f, xs[k]? = some f := ⟨xs[k], List.getElem?_eq_getElem hkl⟩
      obtain ⟨g, o, rfl, hgg, hat⟩ := hc k f hf
      obtain ⟨d0, d1, d2, d3, d4, d5, d6, d7⟩ := AtN.th (hat.below hb hgg)
      have CI := hide (placeLit_any f id gb wr ((hb.cell (p := ⟨gb, 0, none⟩) hgl).trans (unhide HG)) (by omega))
      by_cases hx : f.id = id
      · have E := hide (show PlT xs id (k : Int) from .inr ⟨k, f, rfl, hf, hx, unhide HK⟩)
        have hxb : (f.id == id) = true := by simpa using hx
        rw [hxb] at CI
        replace hf := hide hf; replace hx := hide hx
        obtain ⟨xi, xk, xh, xf, xg, xw, xv, xn⟩ := f
        simp only [thC] at CI
        clear hc HK hat hxb
        go_wp2_with (go_at_fn 78; refine (unhide CI).mono ?_; rintro e w1 ⟨rfl, hb1⟩)
        go_ret
        exact ⟨⟨_, rfl, unhide E⟩, hb.trans (hb1.mono hss)⟩
      · have HK2 := hide (take_snocT (p := fun y => y.id ≠ id) hf (unhide HK) hx)
        have hxb : (f.id == id) = false := by simpa using hx
        rw [hxb] at CI
        replace hf := hide hf; replace hx := hide hx
        obtain ⟨xi, xk, xh, xf, xg, xw, xv, xn⟩ := f
        simp only [thC] at CI
        clear hc HK hat hxb
        go_wp2_with (go_at_fn 78; refine (unhide CI).mono ?_; rintro e w1 ⟨rfl, hb1⟩)
        exact ⟨⟨k + 1, by omega, by go_num, hb.trans (hb1.mono hss), HK2⟩, by simp [intOf]; omega⟩
    · have e2 : xs.take k = xs := List.take_of_length_le (by have := unhide hn; omega)
      rw [e2] at HK
      have E := hide (show PlT xs id (-1) from .inl ⟨rfl, unhide HK⟩)
      clear hc HK
      go_wp2
      go_ret
      exact ⟨⟨_, rfl, unhide E⟩, hb⟩
set_option maxRecDepth 20000 in
set_option maxHeartbeats 1000000 in
theorem placeOf_any (b : Bk) (id : Int) (v : Value) (w : World) (hr : RdBk w v b) (hl : b.ths.length ≤ 2000000) :
    Calls Try.prog 52 #[v, .int .i64 id] w fun e w' => (∃ z : Int, e = .returned (.int .i64 z) ∧ PlT b.ths id z) ∧ Below w.heap.size w w' := by
  obtain ⟨wd, tr, ths, la, ch, ct⟩ := b
  obtain ⟨a, n, c, rfl, hn, hu⟩ := hr.open
  dsimp only at hn hu hl ⊢
  subst hn
  obtain ⟨W, hW, hX, hY, hB, hs1⟩ := two_cb w #[.string wd, .int .i64 tr, .slice a ths.length c, .int .i64 la, .string ch, .int .i64 ct] #[.int .i64 id] 40 3
  have C := hide (indexTh_any ths id (w.heap.size + 1) (.slice a ths.length c) W hl (hY.cell 0 rfl) hs1 (hu.below hB))
  have x2 := hX.cell 2 (v := .slice a ths.length c) rfl
  clear hr hu hX hY
  go_enter Try.func52, Try.ntmps52
  go_upto_region 1 with fail
  first | rw [hW] | skip
  clear hW
  go_wp2_with (go_at_call 77; refine (unhide C).mono ?_; rintro e w1 ⟨⟨z, rfl, hz⟩, hb1⟩)
  go_ret
  exact ⟨⟨z, rfl, hz⟩, hB.trans (hb1.mono hB.size)⟩
set_option maxRecDepth 20000 in
set_option maxHeartbeats 2000000 in
theorem implThingOf_any (b : Bk) (id : Int) (v : Value) (w : World) (hr : RdBk w v b) (hl : b.ths.length ≤ 2000000) (hz : ∀ x ∈ b.ths, x.val.size ≤ 4000000) :
    Calls Try.prog 26 #[v, .int .i64 id] w fun e w' => e = .returned (.tuple #[.agg (thC (ofT b.ths id)), .bool (hasT b.ths id)]) ∧ Below w.heap.size w w' := by
  obtain ⟨a, n, c, rfl, hn, hu⟩ := hr.open
  subst hn
  obtain ⟨W, hW, hX, hY, hB, hs1⟩ := two_cb w #[.string b.wd, .int .i64 b.tr, .slice a b.ths.length c, .int .i64 b.la, .string b.ch, .int .i64 b.ct] (thC thZ) 40 23
  have CP := hide (placeOf_any b id (bkv b (.slice a b.ths.length c)) W ⟨_, rfl, hu.below hB⟩ hl)
  have HU := hide hu
  unfold thC thZ at hW
  dsimp only at hW
  replace hX := hide hX; replace hY := hide hY; replace hB := hide hB
  clear hr hu
  go_enter Try.func26, Try.ntmps26
  go_upto_region 1 with fail
  first | rw [hW] | skip
  clear hW
  go_upto_region 2 with (first
    | (refine wpList_load_row (P := Try.prog) rfl 40 (.tmp 2) rfl w.heap.size rfl 40 #[.string b.wd, .int .i64 b.tr, .slice a b.ths.length c, .int .i64 b.la, .string b.ch, .int .i64 b.ct] (0, 0) _ (unhide hX) Try.underlying40 rfl rfl ?_)
    | (go_at_call 52; refine (unhide CP).mono ?_; rintro e w1 ⟨⟨z, rfl, hp⟩, hb1⟩))
  have hX1 := hide ((unhide hX).step hb1)
  have hY1 := hide ((unhide hY).step hb1)
  have T1 := hide ((unhide hB).trans (hb1.mono (unhide hB).size))
  clear hb1 hX hY hB CP
  rcases hp with ⟨rfl, hno⟩ | ⟨k, x, rfl, hx, he, hno⟩
  · have HO := hide (ofT_no hno)
    clear hno
    go_upto_region 3 with fail
    go_wp2_with (refine wpList_store_row (P := Try.prog) rfl 23 (.tmp 4) (.tmp 12) rfl (w.heap.size + 1) (thC thZ) rfl rfl 23 _ (unhide hY1) rfl rfl (th_one thZ) ?_)
    have hY8 := setRow_heap _ (w.heap.size + 1) _ (thC thZ) 23 (0, 0) (unhide hY1)
    have T4 := Go.below_setRow (unhide T1) (show w.heap.size ≤ w.heap.size + 1 by omega) (thC thZ)
    exact bodyPost_ret (results_cb_tmp (by exact Try.results26) _ _ (w.heap.size + 1) 23 (thC thZ) _ rfl hY8 Try.underlying23 (th_size thZ)) rfl ⟨by rw [(unhide HO).1, (unhide HO).2]; rfl, T4⟩
  · have HO := hide (ofT_at hx hno he)
    have hk := (List.getElem?_eq_some_iff.1 hx).1
    obtain ⟨a', c', hsl, hc⟩ := ((unhide HU).below (unhide T1)).openT
    simp only [Value.slice.injEq] at hsl
    obtain ⟨rfl, _, rfl⟩ := hsl
    obtain ⟨g, o, rfl, hg, hat⟩ := hc k x hx
    have hk0 : (0 : Int) ≤ (k : Int) := by omega
    have hk1 : (k : Int) < (b.ths.length : Int) := by omega
    have x2 := (unhide hX1).cell 2 (v := .slice (some ⟨g, o, none⟩) b.ths.length c) rfl
    have CC := hide (fun W => copied_any x (hz x (List.mem_of_getElem? hx)) W)
    replace hat := hide hat; replace hx := hide hx; replace he := hide he
    clear hc hno
    go_wp2_with (first
      | (refine wpList_load_n (P := Try.prog) (L := thY) rfl 23 (.tmp 16) rfl g (o + k * 8) rfl x (unhide hat) _ Try.underlying23 rfl ?_)
      | (go_at_call 53; refine (unhide CC _).mono ?_; rintro e w2 ⟨rfl, hb2⟩; have hY2 := hide ((unhide hY1).step hb2); have T2 := hide ((unhide T1).trans (hb2.mono (unhide T1).size)))
      | (refine wpList_store_row (P := Try.prog) rfl 23 (.tmp 4) (.tmp 18) rfl (w.heap.size + 1) (thC x) rfl rfl 23 _ (unhide hY2) rfl rfl (th_one x) ?_))
    have hY8 := setRow_heap _ (w.heap.size + 1) _ (thC x) 23 (0, 0) (unhide hY2)
    have T4 := Go.below_setRow (unhide T2) (show w.heap.size ≤ w.heap.size + 1 by omega) (thC x)
    exact bodyPost_ret (results_cb_tmp (by exact Try.results26) _ _ (w.heap.size + 1) 23 (thC x) _ rfl hY8 Try.underlying23 (th_size x)) rfl ⟨by rw [(unhide HO).1, (unhide HO).2]; rfl, T4⟩
end Go.Proofs.Ytoacaennpddoeab

/- Books by the given model: what a thing may become, over the loaded program. -/
namespace Go.Proofs.Ytoacaennpddoeab
open Go.RowKit
set_option maxRecDepth 20000 in
set_option maxHeartbeats 4000000 in
theorem l21Grown_any (x y : Th) (w : World) :
    Calls Try.prog 39 #[.agg (thC x), .agg (thC y)] w fun e w' => e = .returned (.bool (grownB x y)) ∧ Below w.heap.size w w' := by
  have HG : grownB x y = decide (x.kind = y.kind ∧ x.val = y.val ∧ x.sgn = y.sgn ∧ x.wrp = y.wrp ∧ x.nxt ≤ y.nxt ∧ (x.hid = true → y.hid = true) ∧ (x.fix = true → y.fix = true)) := rfl
  generalize grownB x y = r at *
  obtain ⟨id, kind, hid, fix, sgn, wrp, val, nxt⟩ := x
  obtain ⟨yi, yk, yh, yf, ys, yw, yv, yn⟩ := y
  dsimp only at HG
  simp only [thC]
  have HV : val = yv ↔ val.toList = yv.toList := ⟨fun h => by rw [h], fun h => ByteArray.ext (Array.toList_inj.1 (by rw [← ByteArray.toList_eq, ← ByteArray.toList_eq, h]))⟩
  replace HG : r = true ↔ (kind = yk ∧ val.toList = yv.toList ∧ sgn = ys ∧ wrp = yw ∧ nxt ≤ yn ∧ (hid = true → yh = true) ∧ (fix = true → yf = true)) := by rw [HG, decide_eq_true_iff, HV]
  clear HV
  replace HG := hide HG
  obtain ⟨W, hW, hX, hY, hB, hs1⟩ := two_cb w #[.int .i64 id, .int .i64 kind, .bool hid, .bool fix, .bool sgn, .bool wrp, .string val, .int .i64 nxt] #[.int .i64 yi, .int .i64 yk, .bool yh, .bool yf, .bool ys, .bool yw, .string yv, .int .i64 yn] 23 23
  have x1 := hX.cell 1 (v := .int .i64 kind) rfl
  have x2 := hX.cell 2 (v := .bool hid) rfl
  have x3 := hX.cell 3 (v := .bool fix) rfl
  have x4 := hX.cell 4 (v := .bool sgn) rfl
  have x5 := hX.cell 5 (v := .bool wrp) rfl
  have x6 := hX.cell 6 (v := .string val) rfl
  have x7 := hX.cell 7 (v := .int .i64 nxt) rfl
  have y1 := hY.cell 1 (v := .int .i64 yk) rfl
  have y2 := hY.cell 2 (v := .bool yh) rfl
  have y3 := hY.cell 3 (v := .bool yf) rfl
  have y4 := hY.cell 4 (v := .bool ys) rfl
  have y5 := hY.cell 5 (v := .bool yw) rfl
  have y6 := hY.cell 6 (v := .string yv) rfl
  have y7 := hY.cell 7 (v := .int .i64 yn) rfl
  clear hX hY
  replace hB := hide hB
  go_enter Try.func39, Try.ntmps39
  go_upto_region 1 with fail
  first | rw [hW] | skip
  clear hW
  go_wp2
  all_goals
    go_ret
    refine ⟨retB ?_, unhide hB⟩
    rw [Bool.eq_iff_iff, unhide HG]
    clear HG
    simp_all
    try omega
set_option maxRecDepth 20000 in
set_option maxHeartbeats 2000000 in
theorem l21Copy_any (b : Bk) (v : Value) (w : World) (hr : RdBk w v b) (hn9 : b.ths.length ≤ 2000000) :
    Calls Try.prog 38 #[v] w fun e w' => (∃ a c, e = .returned (bkv b (.slice a b.ths.length c)) ∧ OwnN thY w' w.heap.size 23 (.slice a b.ths.length c) b.ths) ∧ Below w.heap.size w w' := by
  obtain ⟨i0, hi, hz0, hz1, hz2⟩ := info_parts infoThing
  obtain ⟨wd, tr, ths, la, ch, ct⟩ := b
  obtain ⟨a, n, c, rfl, hn, hu⟩ := hr.open
  dsimp only at hn hu hn9 ⊢
  subst hn
  clear hr
  obtain ⟨W, hW, hX, hY, hB, hs1⟩ := two_cb w #[.string wd, .int .i64 tr, .slice a ths.length c, .int .i64 la, .string ch, .int .i64 ct] #[.string ⟨#[]⟩, .int .i64 0, .slice none 0 0, .int .i64 0, .string ⟨#[]⟩, .int .i64 0] 40 40
  have hu1 := hu.below hB
  go_enter Try.func38, Try.ntmps38
  go_upto_region 1 with fail
  first | rw [hW] | skip
  clear hW
  have hX2 := hX.alloc (.cells #[] 23)
  have x2 := hX2.cell 2 (v := .slice a ths.length c) rfl
  have ho0 : OwnN thY (W.alloc (.cells #[] 23)) (w.heap.size + 1 + 1) 23 (.slice (some ⟨W.heap.size, 0, none⟩) 0 0) [] := OwnN.lit0 W _ _ (by omega)
  have hub := hu1.alloc (.cells #[] 23)
  have hY2 := hide (hY.alloc (.cells #[] 23))
  have hB2 := hide (hB.alloc hB.size (.cells #[] 23))
  have hl2 : w.heap.size + 1 < (W.alloc (.cells #[] 23)).heap.size := by simp; omega
  go_upto_region 2 with (at_builtin; refine wpList_append_rd (L := thY) rfl (.tmp 3) (.tmp 5) 38 rfl (w.heap.size + 1 + 1) (w.heap.size + 1 + 1) 23 i0 (.agg (thC thZ)) 48 Try.underlying38 hi hz0 hz1 hz2 rfl _ [] rfl ho0 _ ths rfl hub ths.length (by simp) hn9 (by decide) (Nat.le_refl _) (by omega) (Below.refl _ _) ?_; intro a1 c1 w1 ho1 hb1 hg1; have hX3 := hX2.below hb1 (by omega); have q2 := hX3.cell 2 (v := .slice a ths.length c) rfl; have f2 := hX3.frozen 2)
  have hX4 := cb_eq (hX3.set 2 (.slice a1 ths.length c1)) (show (#[.string wd, .int .i64 tr, .slice a1 ths.length c1, .int .i64 la, .string ch, .int .i64 ct] : Array Value) = _ from rfl)
  have hY3 := ((unhide hY2).below hb1 (by omega)).set_other (h := w.heap.size) (k := 2) (by omega) (.slice a1 ths.length c1)
  have T3 := ((unhide hB2).trans (hb1.mono (by omega))).setCell (p := ⟨w.heap.size, 2, none⟩) (Nat.le_refl _) (.slice a1 ths.length c1)
  have ho3 := ho1.other (a := ⟨w.heap.size, 2, none⟩) (by show w.heap.size < _; omega) (.slice a1 ths.length c1)
  rw [List.nil_append] at ho3
  refine wp_gen (fun W5 => CB W5 w.heap.size 40 #[.string wd, .int .i64 tr, .slice a1 ths.length c1, .int .i64 la, .string ch, .int .i64 ct] ∧ CB W5 (w.heap.size + 1) 40 #[.string ⟨#[]⟩, .int .i64 0, .slice none 0 0, .int .i64 0, .string ⟨#[]⟩, .int .i64 0] ∧ Below w.heap.size w W5 ∧ OwnN thY W5 (w.heap.size + 1 + 1) 23 (.slice a1 ths.length c1) ths) ⟨hX4, hY3, T3, ho3⟩ ?_
  clear hX4 hY3 T3 ho3 hX3 q2 f2 hX2 hY2 hB2 ho0 hub ho1 hb1 hg1
  rintro W5 ⟨hZ7, hY7, T3, ho3⟩
  go_wp2_with (first
    | (refine wpList_load_row rfl 40 (.tmp 1) rfl w.heap.size rfl 40 #[.string wd, .int .i64 tr, .slice a1 ths.length c1, .int .i64 la, .string ch, .int .i64 ct] (0, 0) _ hZ7 Try.underlying40 rfl rfl ?_)
    | (refine wpList_store_row rfl 40 (.tmp 2) (.tmp 8) rfl (w.heap.size + 1) #[.string wd, .int .i64 tr, .slice a1 ths.length c1, .int .i64 la, .string ch, .int .i64 ct] rfl rfl 40 _ hY7 rfl rfl (bkc_one _ _ _ _ _ _ _ _) ?_))
  have hY8 := setRow_heap _ (w.heap.size + 1) _ #[.string wd, .int .i64 tr, .slice a1 ths.length c1, .int .i64 la, .string ch, .int .i64 ct] 40 (0, 0) hY7
  have T4 := Go.below_setRow T3 (show w.heap.size ≤ w.heap.size + 1 by omega) #[.string wd, .int .i64 tr, .slice a1 ths.length c1, .int .i64 la, .string ch, .int .i64 ct]
  have ho4 := ho3.setRow (g := w.heap.size + 1) (by omega) #[.string wd, .int .i64 tr, .slice a1 ths.length c1, .int .i64 la, .string ch, .int .i64 ct]
  exact bodyPost_ret (results_cb (by exact Try.results38) _ _ (w.heap.size + 1) 40 _ _ rfl hY8 Try.underlying40 rfl) rfl ⟨⟨_, _, rfl, ho4.low (by omega)⟩, T4⟩
end Go.Proofs.Ytoacaennpddoeab

