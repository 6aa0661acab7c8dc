/- A block is mixed in by impl, over the loaded program. -/
import Derived.Test.YtecbpplocokedaaShaN
import Derived.Deep.QuietTactic
namespace Go.Proofs.Ytecbpplocokedaa
open Go.RowKit
theorem implThree_lit (x : Nat) (A B C : Int) (hx : x < 4294967296) (h : (A = 6 ∧ B = 11 ∧ C = 25) ∨ (A = 2 ∧ B = 13 ∧ C = 22)) (w : World) :
    Calls Try.prog 59 #[.int .u32 (x : Int), .int .i64 A, .int .i64 B, .int .i64 C] w fun e w' => e = .returned (.int .u32 (sg3 A.toNat B.toNat C.toNat x : Int)) ∧ ∃ n, w' = w.drewN n := by
  rcases h with ⟨rfl, rfl, rfl⟩ | ⟨rfl, rfl, rfl⟩
  · exact implThree_any x 6 11 25 hx (by decide) (by decide) (by decide) (by decide) (by decide) (by decide) w
  · exact implThree_any x 2 13 22 hx (by decide) (by decide) (by decide) (by decide) (by decide) (by decide) w
theorem len8v : Try.prog.arrayLen 66 = 8 := by kernel_rfl
theorem built8 (u : V8) : Try.prog.built 66 [(0, .int .u32 (u.a : Int)), (1, .int .u32 (u.b : Int)), (2, .int .u32 (u.c : Int)), (3, .int .u32 (u.d : Int)), (4, .int .u32 (u.e : Int)), (5, .int .u32 (u.f : Int)), (6, .int .u32 (u.g : Int)), (7, .int .u32 (u.h : Int))] = some (u.toL.map u32v).toArray := by kernel_rfl
theorem wpList_build8 {ops : Array Oper} {rest : List Oper} {o : Oper} {a : Act} {w : World} {Q : Exit → Act → World → Prop} (u : V8) (hg : o.guard = none) (x0 x1 x2 x3 x4 x5 x6 x7 : Operand) (ho : o.op = .build 66 #[(0, x0), (1, x1), (2, x2), (3, x3), (4, x4), (5, x5), (6, x6), (7, x7)])
    (e0 : a.eval x0 = .int .u32 (u.a : Int)) (e1 : a.eval x1 = .int .u32 (u.b : Int)) (e2 : a.eval x2 = .int .u32 (u.c : Int)) (e3 : a.eval x3 = .int .u32 (u.d : Int)) (e4 : a.eval x4 = .int .u32 (u.e : Int)) (e5 : a.eval x5 = .int .u32 (u.f : Int)) (e6 : a.eval x6 = .int .u32 (u.g : Int)) (e7 : a.eval x7 = .int .u32 (u.h : Int))
    (h : wpList Try.prog ops Q rest (a.put o.dst (aggV u.toL)) w) : wpList Try.prog ops Q (o :: rest) a w := by
  refine wpList_build_arr hg 66 _ ho u.toL ?_ h
  simp only [List.map_toArray, List.map_cons, List.map_nil, e0, e1, e2, e3, e4, e5, e6, e7]
  exact built8 u
theorem idx8v (l : List Nat) (hl : l.length = 8) (k : Nat) (h : (k : Int) < 8) (W : World) : (Instr.index 66 (aggV l) (.int .i64 (k : Int))).run Try.prog W = .ok (.int .u32 (at_ l k : Int)) W := by
  have hk : k < l.length := by omega
  have hk8 : k < 8 := by omega
  unfold Instr.index aggV
  simp [asIntOf, run_underlying Try.underlying66, go_sem, part, isAgg, run_underlying Try.underlying65, hk, hk8, at_, u32v]
theorem idx8 (g k : Nat) (h : (k : Int) < 8) (W : World) : (Instr.indexAt 67 (.pointer (some ⟨g, 0, none⟩)) (.int .i64 (k : Int))).run Try.prog W = .ok (.pointer (some ⟨g, k, none⟩)) W := by
  have hu : Try.prog.underlying 67 = some (.array (Try.prog.arrayLen 67) (Try.prog.elem 67)) := by kernel_rfl
  have he : Try.prog.elem 67 = 65 := by kernel_rfl
  have hl : Try.prog.arrayLen 67 = 8 := by kernel_rfl
  have h1 : (0 : Int) ≤ (k : Int) ∧ (k : Int) < ((Try.prog.arrayLen 67 : Nat) : Int) := by rw [hl]; exact ⟨by omega, by omega⟩
  rw [run_indexAt_array (P := Try.prog) (w := W) 67 ⟨g, 0, none⟩ .i64 (k : Int) hu, if_pos h1, he]
  simp [go_sem, Addr.add]
  intro h; exact h.symm
def mixL (a b : List Nat) (k : Nat) : List Nat := a.take k ++ b.drop k
theorem mixL_len {a b : List Nat} (h : a.length = b.length) (k : Nat) : (mixL a b k).length = b.length := by simp [mixL]; omega
theorem mixL_at {a b : List Nat} (h : a.length = b.length) {k : Nat} (hk : k < b.length) : at_ (mixL a b k) k = at_ b k := by
  unfold at_ mixL
  rw [List.getD_eq_getElem?_getD, List.getD_eq_getElem?_getD, List.getElem?_append_right (by simp; omega)]
  simp [show min k a.length = k by omega]
theorem mixL_set {a b : List Nat} (h : a.length = b.length) {k : Nat} (hk : k < b.length) : (mixL a b k).set k (at_ a k) = mixL a b (k + 1) := by
  unfold mixL at_
  rw [List.set_append_right _ _ (by simp; omega)]
  have hl : (a.take k).length = k := by simp; omega
  rw [hl, Nat.sub_self, List.drop_eq_getElem_cons hk, List.set_cons_zero, List.take_succ_eq_append_getElem (by omega), List.append_assoc, List.getD_eq_getElem?_getD, List.getElem?_eq_getElem (by omega)]
  rfl
theorem plus_len (v u : V8) : (v.plus u).toL.length = v.toL.length := rfl
theorem plus_at (v u : V8) (k : Nat) (hk : k < 8) : at_ (v.plus u).toL k = (at_ v.toL k + at_ u.toL k) % 4294967296 := by
  match k, hk with
  | 0, _ => rfl
  | 1, _ => rfl
  | 2, _ => rfl
  | 3, _ => rfl
  | 4, _ => rfl
  | 5, _ => rfl
  | 6, _ => rfl
  | 7, _ => rfl
  | n + 8, h => exact absurd h (by omega)

set_option maxRecDepth 20000 in
set_option maxHeartbeats 1000000 in
theorem take_any (v : V8) (hv : v.ok) (s : ByteArray) (hs : s.size = 64) (g : Nat) (w : World) (hA : ArrAt w g 67 v.toL) :
    Calls Try.prog 50 #[.pointer (some ⟨g, 0, none⟩), .string s] w fun e w' => e = .returned (.tuple #[]) ∧ ArrAt w' g 67 (roundW v s).toL ∧ w.grownBy w' (some g) := by
  have HA := hide hA
  have hgl := hA.lt
  go_enter Try.func50, Try.ntmps50
  have hi1 : (Try.prog.info? 81).map (·.size) = some (schedN (wordsN s 16) 48).length := by rw [schedN_len _ (wordsN_len s 16)]; kernel_rfl
  have hi2 : (Try.prog.info? 81).map (·.size) = some kTab.length := by kernel_rfl
  have hz1 : zeros64.length = (schedN (wordsN s 16) 48).length := by rw [schedN_len _ (wordsN_len s 16)]; rfl
  have hz2 : zeros64.length = kTab.length := rfl
  replace hi1 := hide hi1
  replace hi2 := hide hi2
  replace hz1 := hide hz1
  replace hz2 := hide hz2
  go_wp2_with (first
    | (go_at_call 57; refine (implWords_any s hs _).mono ?_; rintro e w1 ⟨rfl, hb1⟩)
    | (go_at_call 58; refine (implNumbers_any _).mono ?_; rintro e w2 ⟨rfl, hb2⟩; have HT := hide (two_z64 w2 81))
    | (refine wpList_store_arr_as rfl 81 (.tmp 4) (.tmp 20) rfl w2.heap.size _ zeros64 rfl rfl 81 (unhide HT).2.1 (unhide hi1) (unhide hz1) ?_; intro w3 hA3 hO3 hB3; have hN3 := hO3 _ _ _ (by omega) (unhide HT).1; have hB3' := (unhide HT).2.2.trans hB3; replace hN3 := hide hN3; replace hA3 := hide hA3; clear hO3 hB3 HT)
    | (refine wpList_store_arr_as rfl 81 (.tmp 5) (.tmp 21) rfl (w2.heap.size + 1) _ zeros64 rfl rfl 81 (unhide hN3) (unhide hi2) (unhide hz2) ?_; intro w4 hK4 hO4 hB4; have hA4 := hO4 _ _ _ (by omega) (unhide hA3); have hb4 := hB3'.trans (hB4.mono (by omega)); replace hA4 := hide hA4; replace hK4 := hide hK4; clear hO4 hB4 hA3 hN3))
  have hb5 : Below w.heap.size w w4 := (hb1.trans (hb2.mono hb1.size)).trans (hb4.mono (Nat.le_trans hb1.size hb2.size))
  have hG := (unhide HA).below hb5 hgl
  have c0 : w4.cell? ⟨g, 0, none⟩ = some (.int .u32 (v.a : Int)) := hG.cell 0 (by show 0 < 8; decide)
  have c1 : w4.cell? ⟨g, 1, none⟩ = some (.int .u32 (v.b : Int)) := hG.cell 1 (by show 1 < 8; decide)
  have c2 : w4.cell? ⟨g, 2, none⟩ = some (.int .u32 (v.c : Int)) := hG.cell 2 (by show 2 < 8; decide)
  have c3 : w4.cell? ⟨g, 3, none⟩ = some (.int .u32 (v.d : Int)) := hG.cell 3 (by show 3 < 8; decide)
  have c4 : w4.cell? ⟨g, 4, none⟩ = some (.int .u32 (v.e : Int)) := hG.cell 4 (by show 4 < 8; decide)
  have c5 : w4.cell? ⟨g, 5, none⟩ = some (.int .u32 (v.f : Int)) := hG.cell 5 (by show 5 < 8; decide)
  have c6 : w4.cell? ⟨g, 6, none⟩ = some (.int .u32 (v.g : Int)) := hG.cell 6 (by show 6 < 8; decide)
  have c7 : w4.cell? ⟨g, 7, none⟩ = some (.int .u32 (v.h : Int)) := hG.cell 7 (by show 7 < 8; decide)
  replace hG := hide hG
  replace hb5 := hide hb5
  dsimp only [Act.put]
  go_quiet (fail)
  go_wp2
  have hS4 := hb4.size
  go_loopw [6, 7, 8, 9, 10, 11, 12, 13, 54] (fun ta tb tc td te tf tg th ti wr => ∃ (k n : Nat) (u : V8), k ≤ 64 ∧ ti = .int .i64 (k : Int) ∧ ta = .int .u32 (u.a : Int) ∧ tb = .int .u32 (u.b : Int) ∧ tc = .int .u32 (u.c : Int) ∧ td = .int .u32 (u.d : Int) ∧ te = .int .u32 (u.e : Int) ∧ tf = .int .u32 (u.f : Int) ∧ tg = .int .u32 (u.g : Int) ∧ th = .int .u32 (u.h : Int) ∧ Hid (u = V8.steps (schedN (wordsN s 16) 48) k v) ∧ wr = w4.drewN n) (fun _ _ _ _ _ _ _ _ ti _ => 64 - (intOf ti).toNat)
  case atStart => exact ⟨0, _, v, by omega, rfl, rfl, rfl, rfl, rfl, rfl, rfl, rfl, rfl, hide rfl, rfl⟩
  case round =>
    obtain ⟨k, n, u, hk, rfl, rfl, rfl, rfl, rfl, rfl, rfl, rfl, rfl, HU, rfl⟩ := hrel
    have HO := hide (show u.ok by rw [unhide HU]; exact V8.steps_ok hv _ _)
    have Lw := unhide hA4
    have Lk := unhide hK4
    by_cases hlt : k < 64
    · have cw := Lw.cell k (by rw [schedN_len _ (wordsN_len s 16)]; omega)
      have ck := Lk.cell k hlt
      clear Lw Lk
      have hlt' : (k : Int) < 64 := by omega
      have Iw := idx64 w2.heap.size k hlt'
      have Ik := idx64 (w2.heap.size + 1) k hlt'
      obtain ⟨ww, hww⟩ : ∃ x, x = at_ (schedN (wordsN s 16) 48) k := ⟨_, rfl⟩
      obtain ⟨kk, hkk⟩ : ∃ x, x = at_ kTab k := ⟨_, rfl⟩
      rw [← hww] at cw
      rw [← hkk] at ck
      replace hww := hide hww
      replace hkk := hide hkk
      have oa := hide (unhide HO).1
      have ob := hide (unhide HO).2.1
      have oc := hide (unhide HO).2.2.1
      have oe := hide (unhide HO).2.2.2.2.1
      have of_ := hide (unhide HO).2.2.2.2.2.1
      have og := hide (unhide HO).2.2.2.2.2.2.1
      go_wp2
      go_region_held3 (fun W => W.cell? ⟨w2.heap.size, k, none⟩ = some (.int .u32 (ww : Int)) ∧ W.cell? ⟨w2.heap.size + 1, k, none⟩ = some (.int .u32 (kk : Int))) (first | exact ⟨cw, ck⟩) (first
        | (go_at_call 59; refine (implThree_lit _ _ _ _ (by exact unhide oe) (by decide) _).mono ?_; rintro e w1 ⟨rfl, n1, rfl⟩)
        | (go_at_call 60; refine (implCh_any _ _ _ (by exact unhide oe) (by exact unhide of_) (by exact unhide og) _).mono ?_; rintro e w1 ⟨rfl, n1, rfl⟩))
      go_wp2_with (first
        | (go_at_call 59; refine (implThree_lit _ _ _ _ (by exact unhide oa) (by decide) _).mono ?_; rintro e w1 ⟨rfl, n1, rfl⟩)
        | (go_at_call 61; refine (implMaj_any _ _ _ (by exact unhide oa) (by exact unhide ob) (by exact unhide oc) _).mono ?_; rintro e w1 ⟨rfl, n1, rfl⟩))
      go_roundw
      case rel =>
        have ek := unhide hkk
        have ew := unhide hww
        have eu := unhide HU
        refine ⟨k + 1, _, u.step kk ww, by omega, by go_num, ?_, rfl, rfl, rfl, ?_, rfl, rfl, rfl, hide (by rw [ek, ew, eu]; rfl), rfl⟩
        · simp only [V8.step, V8.t1, V8.t2]
          congr 1
          omega
        · simp only [V8.step, V8.t1]
          congr 1
          omega
      case measure => simp [intOf]; omega
    · have hk' := hide (show k = 64 by omega)
      clear Lw Lk
      have hb0 := unhide hb5
      have hgrow : w.grownBy (w4.drewN n) (some g) := ⟨hb0.os, hb0.tape, hb0.output, hb0.size, fun q hq _ => hb0.block q hq⟩
      have hmix : ArrAt (w4.drewN n) g 67 (mixL (v.plus u).toL v.toL 0) := unhide hG
      have HF := hide (show (v.plus u).toL = (roundW v s).toL by unfold roundW; rw [unhide HU, unhide hk'])
      clear hA HA hi1 hi2 hz1 hz2 HO c0 c1 c2 c3 c4 c5 c6 c7 hb0 hb5 hG hA4 hK4 hB3' hb1 hb2 hb4 hS4
      replace hgrow := hide hgrow
      replace hmix := hide hmix
      generalize hWW : w4.drewN n = W5 at hgrow hmix ⊢
      clear hWW
      go_wp2
      go_loopw [103] (fun ti wr => ∃ q : Nat, q ≤ 8 ∧ ti = .int .i64 (q : Int) ∧ Hid (ArrAt wr g 67 (mixL (v.plus u).toL v.toL q)) ∧ Hid (w.grownBy wr (some g))) (fun ti _ => 8 - (intOf ti).toNat)
      case atStart => exact ⟨0, by omega, rfl, hmix, hgrow⟩
      case round =>
        clear hmix hgrow
        obtain ⟨q, hq, rfl, HM, HG⟩ := hrel
        by_cases hql : q < 8
        · have hql' : (q : Int) < 8 := by omega
          have hcq := (unhide HM).cell q (by rw [mixL_len (plus_len v u)]; exact hql)
          rw [mixL_at (plus_len v u) hql] at hcq
          have hfq := (unhide HM).frozen q
          have Iv : ∀ W, (Instr.index 66 (.agg #[.int .u32 (u.a : Int), .int .u32 (u.b : Int), .int .u32 (u.c : Int), .int .u32 (u.d : Int), .int .u32 (u.e : Int), .int .u32 (u.f : Int), .int .u32 (u.g : Int), .int .u32 (u.h : Int)]) (.int .i64 (q : Int))).run Try.prog W = .ok (.int .u32 (at_ u.toL q : Int)) W := idx8v u.toL rfl q hql'
          have Ig := idx8 g q hql'
          have HP := hide (plus_at v u q hql)
          have hset : ArrAt (wr.setCell ⟨g, q, none⟩ (.int .u32 (at_ (v.plus u).toL q : Int))).drew g 67 (mixL (v.plus u).toL v.toL (q + 1)) := by
            have := (unhide HM).set q (at_ (v.plus u).toL q)
            rwa [mixL_set (plus_len v u) hql] at this
          have hgr : w.grownBy (wr.setCell ⟨g, q, none⟩ (.int .u32 (at_ (v.plus u).toL q : Int))).drew (some g) := by
            have h0 := unhide HG
            refine ⟨h0.os, h0.tape, h0.output, by simpa using h0.size, fun k hk hne => ?_⟩
            show (wr.setCell ⟨g, q, none⟩ (.int .u32 (at_ (v.plus u).toL q : Int))).heap[k]? = _
            rw [Below.heap_setCell _ _ _ _ (by intro hh; exact hne (by rw [hh]))]
            exact h0.block k hk hne
          obtain ⟨x, hx⟩ : ∃ x, x = at_ v.toL q := ⟨_, rfl⟩
          obtain ⟨y, hy⟩ : ∃ y, y = at_ u.toL q := ⟨_, rfl⟩
          rw [← hx] at hcq HP
          rw [← hy] at HP
          simp only [← hy] at Iv
          have exy : ((x : Int) + (y : Int)) % 4294967296 = ((at_ (v.plus u).toL q : Nat) : Int) := by rw [unhide HP]; omega
          replace hset := hide hset
          replace hgr := hide hgr
          replace hx := hide hx
          replace hy := hide hy
          replace exy := hide exy
          go_wp2
          go_region
          rw [unhide exy]
          go_wp2
          go_roundw
          case rel => exact ⟨q + 1, by omega, by go_num, hset, hgr⟩
          case measure => simp [intOf]; omega
        · have hq8 : q = 8 := by omega
          have hfin : ArrAt wr g 67 (roundW v s).toL := by
            have := unhide HM
            rw [hq8] at this
            rw [← unhide HF]
            exact this
          replace hq8 := hide hq8
          replace hfin := hide hfin
          go_wp2
          go_end0
          exact ⟨rfl, unhide hfin, unhide HG⟩
end Go.Proofs.Ytecbpplocokedaa
