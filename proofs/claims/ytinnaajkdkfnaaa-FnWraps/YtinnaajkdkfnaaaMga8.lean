/- Merged: LawLks, LawLok, Dpt, Mac2, Cbx. -/
import Derived.Test.YtinnaajkdkfnaaaMga1
import Derived.Test.YtinnaajkdkfnaaaMga2
import Derived.Test.YtinnaajkdkfnaaaMga3
import Derived.Test.YtinnaajkdkfnaaaMga4
import Derived.Test.YtinnaajkdkfnaaaMga5
import Derived.Test.YtinnaajkdkfnaaaMga6
import Derived.Test.YtinnaajkdkfnaaaMga7
import Derived.Laws.Rows
import Derived.Laws.ResultCell
/- The laws FnLocks, FnWraps, walked over the loaded program; what the project's functions answer are premises. -/
namespace Go.Proofs.Ytinnaajkdkfnaaa
open Go.RowKit
set_option maxRecDepth 20000 in
set_option maxHeartbeats 1600000 in
theorem lawLocks_any (w : World) (o : Option Addr) (n c : Nat) (hs : Src w w.heap.size o n)
    (CL : ∀ (k : ByteArray) (z : Int) (s : ByteArray), k.size ≤ 1048576 → s.size ≤ 1048576 → ∀ W : World, Below w.heap.size w W → Calls Try.prog 11 #[.string k, .int .i64 z, .string s] W fun e w' => e = .returned (.tuple #[.string (loB k z s), .bool (loOk z s)]) ∧ Below W.heap.size W w')
    (CO : ∀ (k : ByteArray) (z : Int) (t : ByteArray), k.size ≤ 1048576 → t.size ≤ 1048576 → ∀ W : World, Below w.heap.size w W → Calls Try.prog 12 #[.string k, .int .i64 z, .string t] W fun e w' => e = .returned (.tuple #[.string (opB k z t), .bool (opOk k z t)]) ∧ Below W.heap.size W w')
    (CM : ∀ (k : ByteArray) (z n : Int), k.size ≤ 1048576 → ∀ W : World, Below w.heap.size w W → Calls Try.prog 16 #[.string k, .int .i64 z, .int .i64 n] W fun e w' => e = .returned (.tuple #[.string (mkB k z n), .bool (mkOk z n)]) ∧ Below W.heap.size W w') :
    Calls Try.prog 3 #[.slice o n c] w fun e w' => e = .returned (.bool true) ∧ Below w.heap.size w w' := by
  have HS := hide hs
  clear hs
  by_cases hbig : (1048576 : Int) < (n : Int)
  · have hd : decide ((1048576 : Int) < (n : Int)) = true := by rw [decide_eq_true_iff]; exact hbig
    go_enter Try.func3, Try.ntmps3
    go_wp2_with (go_at_call 9; refine (big_any w o n c).mono ?_; rintro e w1 ⟨rfl, rfl⟩)
    go_ret
    exact ⟨rfl, Below.refl _ _⟩
  · have hd : decide ((1048576 : Int) < (n : Int)) = false := by rw [decide_eq_false_iff_not]; exact hbig
    have hn : n ≤ 1048576 := by omega
    replace CL := hide CL; replace CO := hide CO
    replace CM := hide CM
    go_enter Try.func3, Try.ntmps3
    go_wp2_with fail
    refine (big_any w o n c).mono ?_
    rintro e w0 ⟨rfl, hw0⟩
    have hw0' := hw0.symm
    subst hw0'
    clear hw0
    go_wp2_with fail
    refine (drawLock_any w o n c (unhide HS) hn).mono ?_
    rintro e w1 ⟨key, z, s, hkz, hsz, rfl, T1⟩
    have HS1 := hide (((unhide HS).below T1 (Nat.le_refl _)).up T1.size)
    have hlz := loB_le key z s
    have K1 := hide (fun W h => unhide CL key z s (by omega) (by omega) W h)
    have K2 := hide (fun W h => unhide CO key z (loB key z s) (by omega) (by omega) W h)
    have K3 := hide (fun W => specLock_any key (by omega) z s (by omega) W)
    have M1 := hide (fun W h => unhide CM key 3 40 (by omega) W h)
    have M2 := hide (fun W h => unhide CM key 3 70 (by omega) W h)
    have F1 := hide (show loOk z s = true → opOk key z (loB key z s) = true ∧ opB key z (loB key z s) = s ∧ (loB key z s).size = s.size + 16 from fun h => ⟨(op_lo h).1, (op_lo h).2, loB_size h⟩)
    obtain ⟨ma, hma⟩ : ∃ x, x = mkB key 3 40 := ⟨_, rfl⟩
    obtain ⟨mb, hmb⟩ : ∃ x, x = mkB key 3 70 := ⟨_, rfl⟩
    have e40 : mkB key 3 40 = lkB key 3 40 := rfl
    have e70 : mkB key 3 70 = lkB key 3 70 := rfl
    have hsa : ma.size = 40 := by rw [hma, e40, lkB_size]
    have hsb : mb.size = 70 := by rw [hmb, e70, lkB_size]
    have hbg : mb.extract 0 ma.size = ma := by rw [hsa, hma, hmb, e40, e70]; exact lkB_begins key 3 40 70 (by omega)
    rw [← hma, show mkOk 3 40 = true from rfl] at M1
    rw [← hmb, show mkOk 3 70 = true from rfl] at M2
    have CB := hide (fun W => begins_any ma mb (by omega) hbg W)
    clear hma hmb e40 e70 hbg
    generalize opB key z (loB key z s) = ob at *
    generalize opOk key z (loB key z s) = ook at *
    generalize loB key z s = lb at *
    generalize loOk z s = lok at *
    go_wp2_with fail
    refine (unhide K1 w1 T1).mono ?_
    rintro e w2 ⟨rfl, hb2⟩
    have T2 := T1.trans (hb2.mono T1.size)
    clear hb2 T1
    go_wp2_with fail
    refine (unhide K2 w2 T2).mono ?_
    rintro e w3 ⟨rfl, hb3⟩
    have T3 := T2.trans (hb3.mono T2.size)
    clear hb3 T2
    go_wp2_with fail
    refine (unhide K3 w3).mono ?_
    rintro e w4 ⟨rfl, hb4⟩
    have T4 := T3.trans (hb4.mono T3.size)
    clear hb4 T3
    clear K1 K2 K3
    have HS4 := hide (((unhide HS).below T4 (Nat.le_refl _)).up T4.size)
    clear HS1 HS
    have hlk : (lok = false) ∨ (lok = true ∧ ook = true ∧ ob = s ∧ lb.size = s.size + 16) := by
      cases lok with
      | false => exact Or.inl rfl
      | true => exact Or.inr ⟨rfl, unhide F1 rfl⟩
    clear F1
    rcases hlk with rfl | ⟨rfl, rfl, rfl, f3⟩
    case inr =>
      have f3' : IntKind.i64.wrap ((ob.size : Int) + 16) = (lb.size : Int) := by rw [IntKind.wrap_i64]; omega
      replace f3 := hide f3
      go_wp2_with fail
      refine (drawOpen_any w4 o n c (unhide HS4) hn).mono ?_
      rintro e w5 ⟨k2, z2, u, hk2, hu2, rfl, hb5⟩
      have T5 := T4.trans (hb5.mono T4.size)
      clear hb5 T4 HS4
      have hpz := opB_le k2 z2 u
      have L1 := hide (fun W h => unhide CO k2 z2 u (by omega) (by omega) W h)
      have L2 := hide (fun W => specOpen_any k2 (by omega) z2 u (by omega) W)
      have L3 := hide (fun W h => unhide CL k2 z2 (opB k2 z2 u) (by omega) (by omega) W h)
      have F2 : opOk k2 z2 u = false ∨ (opOk k2 z2 u = true ∧ loB k2 z2 (opB k2 z2 u) = u) := by
        cases hq : opOk k2 z2 u with
        | false => exact Or.inl rfl
        | true => exact Or.inr ⟨rfl, (lo_op hq).2⟩
      generalize loB k2 z2 (opB k2 z2 u) = back at *
      generalize loOk z2 (opB k2 z2 u) = backok at *
      generalize opB k2 z2 u = y at *
      generalize opOk k2 z2 u = yk at *
      clear hpz
      go_wp2_with fail
      refine (unhide L1 w5 T5).mono ?_
      rintro e w6 ⟨rfl, hb6⟩
      have T6 := T5.trans (hb6.mono T5.size)
      clear hb6 T5
      go_wp2_with fail
      refine (unhide L2 w6).mono ?_
      rintro e w7 ⟨rfl, hb7⟩
      have T7 := T6.trans (hb7.mono T6.size)
      clear hb7 T6
      go_wp2_with fail
      refine (unhide L3 w7 T7).mono ?_
      rintro e w8 ⟨rfl, hb8⟩
      have T8 := T7.trans (hb8.mono T7.size)
      clear hb8 T7
      go_wp2_with fail
      refine (unhide M1 w8 T8).mono ?_
      rintro e w9 ⟨rfl, hb9⟩
      have T9 := T8.trans (hb9.mono T8.size)
      clear hb9 T8
      go_wp2_with fail
      refine (unhide M2 w9 T9).mono ?_
      rintro e w10 ⟨rfl, hb10⟩
      have T10 := T9.trans (hb10.mono T9.size)
      clear hb10 T9
      clear L1 L2 L3 M1 M2 CL CO CM
      have hsb' : (mb.size : Int) = 70 := by omega
      replace hsa := hide hsa; replace hsb := hide hsb
      rcases F2 with rfl | ⟨rfl, rfl⟩
      case inl =>
        go_wp2_with fail
        refine (unhide CB w10).mono ?_
        rintro e w11 ⟨rfl, hb11⟩
        have T11 := T10.trans (hb11.mono T10.size)
        clear CB hb11 T10
        go_wp2
        go_ret
        exact ⟨rfl, T11⟩
      case inr =>
        go_wp2_with fail
        refine (unhide CB w10).mono ?_
        rintro e w11 ⟨rfl, hb11⟩
        have T11 := T10.trans (hb11.mono T10.size)
        clear CB hb11 T10
        go_wp2
        go_ret
        exact ⟨rfl, T11⟩
    case inl =>
      go_wp2_with fail
      refine (drawOpen_any w4 o n c (unhide HS4) hn).mono ?_
      rintro e w5 ⟨k2, z2, u, hk2, hu2, rfl, hb5⟩
      have T5 := T4.trans (hb5.mono T4.size)
      clear hb5 T4 HS4
      have hpz := opB_le k2 z2 u
      have L1 := hide (fun W h => unhide CO k2 z2 u (by omega) (by omega) W h)
      have L2 := hide (fun W => specOpen_any k2 (by omega) z2 u (by omega) W)
      have L3 := hide (fun W h => unhide CL k2 z2 (opB k2 z2 u) (by omega) (by omega) W h)
      have F2 : opOk k2 z2 u = false ∨ (opOk k2 z2 u = true ∧ loB k2 z2 (opB k2 z2 u) = u) := by
        cases hq : opOk k2 z2 u with
        | false => exact Or.inl rfl
        | true => exact Or.inr ⟨rfl, (lo_op hq).2⟩
      generalize loB k2 z2 (opB k2 z2 u) = back at *
      generalize loOk z2 (opB k2 z2 u) = backok at *
      generalize opB k2 z2 u = y at *
      generalize opOk k2 z2 u = yk at *
      clear hpz
      go_wp2_with fail
      refine (unhide L1 w5 T5).mono ?_
      rintro e w6 ⟨rfl, hb6⟩
      have T6 := T5.trans (hb6.mono T5.size)
      clear hb6 T5
      go_wp2_with fail
      refine (unhide L2 w6).mono ?_
      rintro e w7 ⟨rfl, hb7⟩
      have T7 := T6.trans (hb7.mono T6.size)
      clear hb7 T6
      go_wp2_with fail
      refine (unhide L3 w7 T7).mono ?_
      rintro e w8 ⟨rfl, hb8⟩
      have T8 := T7.trans (hb8.mono T7.size)
      clear hb8 T7
      go_wp2_with fail
      refine (unhide M1 w8 T8).mono ?_
      rintro e w9 ⟨rfl, hb9⟩
      have T9 := T8.trans (hb9.mono T8.size)
      clear hb9 T8
      go_wp2_with fail
      refine (unhide M2 w9 T9).mono ?_
      rintro e w10 ⟨rfl, hb10⟩
      have T10 := T9.trans (hb10.mono T9.size)
      clear hb10 T9
      clear L1 L2 L3 M1 M2 CL CO CM
      have hsb' : (mb.size : Int) = 70 := by omega
      replace hsa := hide hsa; replace hsb := hide hsb
      rcases F2 with rfl | ⟨rfl, rfl⟩
      case inl =>
        go_wp2_with fail
        refine (unhide CB w10).mono ?_
        rintro e w11 ⟨rfl, hb11⟩
        have T11 := T10.trans (hb11.mono T10.size)
        clear CB hb11 T10
        go_wp2
        go_ret
        exact ⟨rfl, T11⟩
      case inr =>
        go_wp2_with fail
        refine (unhide CB w10).mono ?_
        rintro e w11 ⟨rfl, hb11⟩
        have T11 := T10.trans (hb11.mono T10.size)
        clear CB hb11 T10
        go_wp2
        go_ret
        exact ⟨rfl, T11⟩
theorem un_back {key t : ByteArray} (h : unOk key t = true) : wrB key (unB key t) = t := by
  unfold unOk at h
  unfold unB
  obtain ⟨s, hs⟩ := Option.isSome_iff_exists.1 h
  rw [hs]
  exact (wr_un hs).2
theorem unB_le (key t : ByteArray) : (unB key t).size ≤ 400 := by
  unfold unB
  cases h : unTry key t with
  | none => exact Nat.zero_le _
  | some s => exact of_decide_eq_true (wr_un h).1
theorem wrB_even {key s : ByteArray} (h : wrOk s = true) : (wrB key s).size % 16 = 0 := by
  unfold wrB
  rw [if_pos h, loB_size (pd_lo h)]
  have := pdB_even s
  omega
set_option maxRecDepth 20000 in
set_option maxHeartbeats 1600000 in
theorem lawWraps_any (w : World) (o : Option Addr) (n c : Nat) (hs : Src w w.heap.size o n)
    (CL : ∀ (k s : ByteArray), k.size ≤ 1048576 → s.size ≤ 1048576 → ∀ W : World, Below w.heap.size w W → Calls Try.prog 19 #[.string k, .string s] W fun e w' => e = .returned (.tuple #[.string (wrB k s), .bool (wrOk s)]) ∧ Below W.heap.size W w')
    (CO : ∀ (k t : ByteArray), k.size ≤ 1048576 → t.size ≤ 1048576 → ∀ W : World, Below w.heap.size w W → Calls Try.prog 20 #[.string k, .string t] W fun e w' => e = .returned (.tuple #[.string (unB k t), .bool (unOk k t)]) ∧ Below W.heap.size W w') :
    Calls Try.prog 4 #[.slice o n c] w fun e w' => e = .returned (.bool true) ∧ Below w.heap.size w w' := by
  have HS := hide hs
  clear hs
  by_cases hbig : (1048576 : Int) < (n : Int)
  · have hd : decide ((1048576 : Int) < (n : Int)) = true := by rw [decide_eq_true_iff]; exact hbig
    go_enter Try.func4, Try.ntmps4
    go_wp2_with (go_at_call 9; refine (big_any w o n c).mono ?_; rintro e w1 ⟨rfl, rfl⟩)
    go_ret
    exact ⟨rfl, Below.refl _ _⟩
  · have hd : decide ((1048576 : Int) < (n : Int)) = false := by rw [decide_eq_false_iff_not]; exact hbig
    have hn : n ≤ 1048576 := by omega
    replace CL := hide CL; replace CO := hide CO
    go_enter Try.func4, Try.ntmps4
    go_wp2_with fail
    refine (big_any w o n c).mono ?_
    rintro e w0 ⟨rfl, hw0⟩
    have hw0' := hw0.symm
    subst hw0'
    clear hw0
    go_wp2_with fail
    refine (drawWrap_any w o n c (unhide HS) hn).mono ?_
    rintro e w1 ⟨key, s, hkz, hsz, rfl, T1⟩
    have hlz := wrB_le key s
    have K1 := hide (fun W h => unhide CL key s (by omega) (by omega) W h)
    have K2 := hide (fun W h => unhide CO key (wrB key s) (by omega) (by omega) W h)
    have K3 := hide (fun W => specWrap_any key (by omega) s W)
    have F1 := hide (show wrOk s = true → unOk key (wrB key s) = true ∧ unB key (wrB key s) = s ∧ (wrB key s).size % 16 = 0 from fun h => ⟨by unfold unOk; rw [un_wr h]; rfl, by unfold unB; rw [un_wr h]; rfl, wrB_even h⟩)
    generalize unB key (wrB key s) = ob at *
    generalize unOk key (wrB key s) = ook at *
    generalize wrB key s = lb at *
    generalize wrOk s = lok at *
    go_wp2_with fail
    refine (unhide K1 w1 T1).mono ?_
    rintro e w2 ⟨rfl, hb2⟩
    have T2 := T1.trans (hb2.mono T1.size)
    clear hb2 T1
    go_wp2_with fail
    refine (unhide K2 w2 T2).mono ?_
    rintro e w3 ⟨rfl, hb3⟩
    have T3 := T2.trans (hb3.mono T2.size)
    clear hb3 T2
    go_wp2_with fail
    refine (unhide K3 w3).mono ?_
    rintro e w4 ⟨rfl, hb4⟩
    have T4 := T3.trans (hb4.mono T3.size)
    clear hb4 T3
    clear K1 K2 K3
    have HS4 := hide (((unhide HS).below T4 (Nat.le_refl _)).up T4.size)
    clear HS
    have hlk : (lok = false) ∨ (lok = true ∧ ook = true ∧ ob = s ∧ lb.size % 16 = 0) := by
      cases lok with
      | false => exact Or.inl rfl
      | true => exact Or.inr ⟨rfl, unhide F1 rfl⟩
    clear F1
    rcases hlk with rfl | ⟨rfl, rfl, rfl, f3⟩
    case inr =>
      have f3' : ((lb.size : Int)).tmod 16 = 0 := by rw [Int.tmod_eq_emod_of_nonneg (by omega)]; omega
      have f4' : ((lb.size : Int)) % 16 = 0 := by omega
      replace f3 := hide f3
      go_wp2_with fail
      refine (drawUnwrap_any w4 o n c (unhide HS4) hn).mono ?_
      rintro e w5 ⟨k2, u, hk2, hu2, rfl, hb5⟩
      have T5 := T4.trans (hb5.mono T4.size)
      clear hb5 T4 HS4
      have hpz := unB_le k2 u
      have L1 := hide (fun W h => unhide CO k2 u (by omega) (by omega) W h)
      have L2 := hide (fun W => specUnwrap_any k2 (by omega) u (by omega) W)
      have L3 := hide (fun W h => unhide CL k2 (unB k2 u) (by omega) (by omega) W h)
      have F2 : unOk k2 u = false ∨ (unOk k2 u = true ∧ wrB k2 (unB k2 u) = u) := by
        cases hq : unOk k2 u with
        | false => exact Or.inl rfl
        | true => exact Or.inr ⟨rfl, un_back hq⟩
      generalize wrB k2 (unB k2 u) = back at *
      generalize wrOk (unB k2 u) = backok at *
      generalize unB k2 u = y at *
      generalize unOk k2 u = yk at *
      clear hpz
      go_wp2_with fail
      refine (unhide L1 w5 T5).mono ?_
      rintro e w6 ⟨rfl, hb6⟩
      have T6 := T5.trans (hb6.mono T5.size)
      clear hb6 T5
      go_wp2_with fail
      refine (unhide L2 w6).mono ?_
      rintro e w7 ⟨rfl, hb7⟩
      have T7 := T6.trans (hb7.mono T6.size)
      clear hb7 T6
      go_wp2_with fail
      refine (unhide L3 w7 T7).mono ?_
      rintro e w8 ⟨rfl, hb8⟩
      have T8 := T7.trans (hb8.mono T7.size)
      clear hb8 T7
      clear L1 L2 L3 CL CO
      rcases F2 with rfl | ⟨rfl, rfl⟩
      case inl =>
        go_wp2
        go_ret
        exact ⟨rfl, T8⟩
      case inr =>
        go_wp2
        go_ret
        exact ⟨rfl, T8⟩
    case inl =>
      go_wp2_with fail
      refine (drawUnwrap_any w4 o n c (unhide HS4) hn).mono ?_
      rintro e w5 ⟨k2, u, hk2, hu2, rfl, hb5⟩
      have T5 := T4.trans (hb5.mono T4.size)
      clear hb5 T4 HS4
      have hpz := unB_le k2 u
      have L1 := hide (fun W h => unhide CO k2 u (by omega) (by omega) W h)
      have L2 := hide (fun W => specUnwrap_any k2 (by omega) u (by omega) W)
      have L3 := hide (fun W h => unhide CL k2 (unB k2 u) (by omega) (by omega) W h)
      have F2 : unOk k2 u = false ∨ (unOk k2 u = true ∧ wrB k2 (unB k2 u) = u) := by
        cases hq : unOk k2 u with
        | false => exact Or.inl rfl
        | true => exact Or.inr ⟨rfl, un_back hq⟩
      generalize wrB k2 (unB k2 u) = back at *
      generalize wrOk (unB k2 u) = backok at *
      generalize unB k2 u = y at *
      generalize unOk k2 u = yk at *
      clear hpz
      go_wp2_with fail
      refine (unhide L1 w5 T5).mono ?_
      rintro e w6 ⟨rfl, hb6⟩
      have T6 := T5.trans (hb6.mono T5.size)
      clear hb6 T5
      go_wp2_with fail
      refine (unhide L2 w6).mono ?_
      rintro e w7 ⟨rfl, hb7⟩
      have T7 := T6.trans (hb7.mono T6.size)
      clear hb7 T6
      go_wp2_with fail
      refine (unhide L3 w7 T7).mono ?_
      rintro e w8 ⟨rfl, hb8⟩
      have T8 := T7.trans (hb8.mono T7.size)
      clear hb8 T7
      clear L1 L2 L3 CL CO
      rcases F2 with rfl | ⟨rfl, rfl⟩
      case inl =>
        go_wp2
        go_ret
        exact ⟨rfl, T8⟩
      case inr =>
        go_wp2
        go_ret
        exact ⟨rfl, T8⟩
end Go.Proofs.Ytinnaajkdkfnaaa

/- The laws FnExactMask, LockText, OpenText, Wrapped, Unwrapped, walked over the loaded program; what the project's function answers is a premise. -/
namespace Go.Proofs.Ytinnaajkdkfnaaa
open Go.RowKit
set_option maxRecDepth 20000 in
theorem lawMask_any (key : ByteArray) (z : Int) (n : Int) (w : World) (CI : key.size ≤ 1048576 → ∀ W : World, Below w.heap.size w W → Calls Try.prog 16 #[.string key, .int .i64 z, .int .i64 n] W fun e w' => e = .returned (.tuple #[.string (mkB key z n), .bool (mkOk z n)]) ∧ Below W.heap.size W w') :
    Calls Try.prog 5 #[.string key, .int .i64 z, .int .i64 n] w fun e w' => e = .returned (.bool true) ∧ Below w.heap.size w w' := by
  by_cases h0 : (1048576 : Int) < (key.size : Int)
  · go_enter Try.func5, Try.ntmps5
    go_wp2
    go_ret
    exact ⟨rfl, Below.refl _ _⟩
  have n0 : key.size ≤ 1048576 := by omega
  have CS := hide (specMk_any key n0 z n w)
  replace CI := hide (CI n0)
  generalize mkB key z n = q at *
  generalize mkOk z n = b at *
  go_enter Try.func5, Try.ntmps5
  go_wp2_with fail
  refine (unhide CS).mono ?_
  rintro e w1 ⟨rfl, hb1⟩
  go_wp2_with fail
  refine (unhide CI w1 hb1).mono ?_
  rintro e w2 ⟨rfl, hb2⟩
  have hT := hb1.trans (hb2.mono hb1.size)
  clear CS CI hb1 hb2
  go_wp2
  go_ret
  exact ⟨rfl, hT⟩
set_option maxRecDepth 20000 in
theorem lawLockText_any (key : ByteArray) (z : Int) (s : ByteArray) (w : World) (CI : key.size ≤ 1048576 → s.size ≤ 1048576 → ∀ W : World, Below w.heap.size w W → Calls Try.prog 11 #[.string key, .int .i64 z, .string s] W fun e w' => e = .returned (.tuple #[.string (loB key z s), .bool (loOk z s)]) ∧ Below W.heap.size W w') :
    Calls Try.prog 6 #[.string key, .int .i64 z, .string s] w fun e w' => e = .returned (.bool true) ∧ Below w.heap.size w w' := by
  by_cases h0 : (1048576 : Int) < (key.size : Int)
  · go_enter Try.func6, Try.ntmps6
    go_wp2
    go_ret
    exact ⟨rfl, Below.refl _ _⟩
  by_cases h1 : (1048576 : Int) < (s.size : Int)
  · go_enter Try.func6, Try.ntmps6
    go_wp2
    go_ret
    exact ⟨rfl, Below.refl _ _⟩
  have n0 : key.size ≤ 1048576 := by omega
  have n1 : s.size ≤ 1048576 := by omega
  have CS := hide (specLock_any key n0 z s (by omega) w)
  replace CI := hide (CI n0 n1)
  generalize loB key z s = q at *
  generalize loOk z s = b at *
  go_enter Try.func6, Try.ntmps6
  go_wp2_with fail
  refine (unhide CS).mono ?_
  rintro e w1 ⟨rfl, hb1⟩
  go_wp2_with fail
  refine (unhide CI w1 hb1).mono ?_
  rintro e w2 ⟨rfl, hb2⟩
  have hT := hb1.trans (hb2.mono hb1.size)
  clear CS CI hb1 hb2
  go_wp2
  go_ret
  exact ⟨rfl, hT⟩
set_option maxRecDepth 20000 in
theorem lawOpenText_any (key : ByteArray) (z : Int) (t : ByteArray) (w : World) (CI : key.size ≤ 1048576 → t.size ≤ 1048576 → ∀ W : World, Below w.heap.size w W → Calls Try.prog 12 #[.string key, .int .i64 z, .string t] W fun e w' => e = .returned (.tuple #[.string (opB key z t), .bool (opOk key z t)]) ∧ Below W.heap.size W w') :
    Calls Try.prog 7 #[.string key, .int .i64 z, .string t] w fun e w' => e = .returned (.bool true) ∧ Below w.heap.size w w' := by
  by_cases h0 : (1048576 : Int) < (key.size : Int)
  · go_enter Try.func7, Try.ntmps7
    go_wp2
    go_ret
    exact ⟨rfl, Below.refl _ _⟩
  by_cases h1 : (1048576 : Int) < (t.size : Int)
  · go_enter Try.func7, Try.ntmps7
    go_wp2
    go_ret
    exact ⟨rfl, Below.refl _ _⟩
  have n0 : key.size ≤ 1048576 := by omega
  have n1 : t.size ≤ 1048576 := by omega
  have CS := hide (specOpen_any key n0 z t n1 w)
  replace CI := hide (CI n0 n1)
  generalize opB key z t = q at *
  generalize opOk key z t = b at *
  go_enter Try.func7, Try.ntmps7
  go_wp2_with fail
  refine (unhide CS).mono ?_
  rintro e w1 ⟨rfl, hb1⟩
  go_wp2_with fail
  refine (unhide CI w1 hb1).mono ?_
  rintro e w2 ⟨rfl, hb2⟩
  have hT := hb1.trans (hb2.mono hb1.size)
  clear CS CI hb1 hb2
  go_wp2
  go_ret
  exact ⟨rfl, hT⟩
set_option maxRecDepth 20000 in
theorem lawWrapped_any (key : ByteArray) (s : ByteArray) (w : World) (CI : key.size ≤ 1048576 → s.size ≤ 1048576 → ∀ W : World, Below w.heap.size w W → Calls Try.prog 19 #[.string key, .string s] W fun e w' => e = .returned (.tuple #[.string (wrB key s), .bool (wrOk s)]) ∧ Below W.heap.size W w') :
    Calls Try.prog 8 #[.string key, .string s] w fun e w' => e = .returned (.bool true) ∧ Below w.heap.size w w' := by
  by_cases h0 : (1048576 : Int) < (key.size : Int)
  · go_enter Try.func8, Try.ntmps8
    go_wp2
    go_ret
    exact ⟨rfl, Below.refl _ _⟩
  by_cases h1 : (1048576 : Int) < (s.size : Int)
  · go_enter Try.func8, Try.ntmps8
    go_wp2
    go_ret
    exact ⟨rfl, Below.refl _ _⟩
  have n0 : key.size ≤ 1048576 := by omega
  have n1 : s.size ≤ 1048576 := by omega
  have CS := hide (specWrap_any key n0 s w)
  replace CI := hide (CI n0 n1)
  generalize wrB key s = q at *
  generalize wrOk s = b at *
  go_enter Try.func8, Try.ntmps8
  go_wp2_with fail
  refine (unhide CS).mono ?_
  rintro e w1 ⟨rfl, hb1⟩
  go_wp2_with fail
  refine (unhide CI w1 hb1).mono ?_
  rintro e w2 ⟨rfl, hb2⟩
  have hT := hb1.trans (hb2.mono hb1.size)
  clear CS CI hb1 hb2
  go_wp2
  go_ret
  exact ⟨rfl, hT⟩
end Go.Proofs.Ytinnaajkdkfnaaa

/- Parts put behind one another, and their digest, over the loaded program. -/
namespace Go.Proofs.Ytinnaajkdkfnaaa
open Go.RowKit
theorem join_flat (xs : List (List UInt8)) : Lib.join xs [] = xs.flatten := by
  unfold Lib.join
  induction xs with
  | nil => rfl
  | cons x xs ih =>
    cases xs with
    | nil => simp [List.intercalate]
    | cons y ys =>
      have e : [].intercalate (x :: y :: ys) = x ++ ([] ++ [].intercalate (y :: ys)) := by simp [List.intercalate, List.intersperse]
      rw [e, ih]
      rfl
theorem barr_eq {a b : ByteArray} (h : a.data.toList = b.data.toList) : a = b := ByteArray.ext (Array.toList_inj.1 h)
set_option maxRecDepth 20000 in
set_option maxHeartbeats 400000 in
theorem digParts_any (bk o c n : Nat) (xs : List ByteArray) (hn : xs.length = n) (T : ByteArray) (hT : T.data.toList = (xs.map (·.data.toList)).flatten) (hTs : T.size ≤ 4000000) (w : World) (hcells : ∀ (j : Nat) x, xs[j]? = some x → w.cell? ⟨bk, o + j, none⟩ = some (.string x)) (hbk : bk < w.heap.size) (hcap : n ≤ c) (hN : n ≤ 1000) :
    Calls Try.prog 70 #[.slice (some ⟨bk, o, none⟩) n c] w fun e w' => e = .returned (.string (digB T)) ∧ Below w.heap.size w w' := by
  subst hn
  have hj : (⟨(Lib.join (xs.map (·.data.toList)) (⟨#[]⟩ : ByteArray).data.toList).toArray⟩ : ByteArray) = T := by
    apply barr_eq
    rw [hT]
    exact join_flat _
  have hz : (Lib.join (xs.map (·.data.toList)) (⟨#[]⟩ : ByteArray).data.toList).length ≤ 140737488355328 := by
    have e : (Lib.join (xs.map (·.data.toList)) (⟨#[]⟩ : ByteArray).data.toList) = T.data.toList := by rw [← hj]
    rw [e]
    show T.size ≤ _
    omega
  have CJ := hide (Try.strings_Join bk o c xs ⟨#[]⟩ w hcells hbk (by omega) hcap hz)
  rw [hj] at CJ
  have CD := hide (fun W => implDigest_any T hTs W)
  rw [show endV (blocksW first8 T 0 (T.size / 64)) (T.extract (64 * (T.size / 64)) T.size) T.size = digB T from rfl] at CD
  clear hz hj hT hcells
  generalize digB T = d at *
  go_enter Try.func70, Try.ntmps70
  go_wp2_with fail
  refine (unhide CJ).mono ?_
  rintro e w1 ⟨rfl, hb1⟩
  go_wp2_with fail
  refine ((unhide CD) w1).mono ?_
  rintro e w2 ⟨rfl, hb2⟩
  have hb12 := hb1.trans (hb2.mono hb1.size)
  clear hb1 hb2
  go_wp2
  go_ret
  exact ⟨rfl, hb12⟩
end Go.Proofs.Ytinnaajkdkfnaaa

/- Sums under a key by impl: the parts put behind one another, and the block masked. -/
namespace Go.Proofs.Ytinnaajkdkfnaaa
open Go.RowKit
def BArr (w : World) (g : Nat) (T : TypeId) (l : List UInt8) : Prop := w.heap[g]? = some (.cells (l.map bv).toArray T (0, 0))
def aggB (l : List UInt8) : Value := .agg (l.map bv).toArray
def zb64 : List UInt8 := List.replicate 64 0
theorem BArr.lt {w : World} {g : Nat} {T : TypeId} {l : List UInt8} (h : BArr w g T l) : g < w.heap.size := by
  rcases Nat.lt_or_ge g w.heap.size with h1 | h1
  · exact h1
  · unfold BArr at h
    rw [Array.getElem?_eq_none h1] at h; cases h
theorem BArr.frozen {w : World} {g : Nat} {T : TypeId} {l : List UInt8} (h : BArr w g T l) (k : Nat) : w.frozen? ⟨g, k, none⟩ = false := frozen_of_row w g k _ T h
theorem BArr.cell {w : World} {g : Nat} {T : TypeId} {l : List UInt8} (h : BArr w g T l) {k : Nat} {b : UInt8} (hk : l[k]? = some b) : w.cell? ⟨g, k, none⟩ = some (.int .u8 (b.toNat : Int)) := by
  rw [cell_of_row w g k _ T (0, 0) h]
  simp [hk, bv]
theorem BArr.set {w : World} {g : Nat} {T : TypeId} {l : List UInt8} (h : BArr w g T l) (k x : Nat) (hx : x < 256) : BArr (w.setCell ⟨g, k, none⟩ (.int .u8 (x : Int))) g T (l.set k (byteOf x)) := by
  unfold BArr at h ⊢
  rw [heap_setCell_same w g k _ T (.int .u8 (x : Int)) h, List.map_set]
  simp [bv, byteOf_toNat hx]
theorem BArr.new (w : World) (T : TypeId) (l : List UInt8) : BArr (w.alloc (.cells (l.map bv).toArray T)) w.heap.size T l := heap_alloc_new w _
theorem BArr.below {w w' : World} {g B : Nat} {T : TypeId} {l : List UInt8} (h : BArr w g T l) (hb : Below B w w') (hg : g < B) : BArr w' g T l := by
  unfold BArr at h ⊢
  rw [hb.block g hg]; exact h
theorem bv_one (l : List UInt8) : (l.map bv).toArray.all (·.oneCell') = true := by
  rw [Array.all_eq_true_iff_forall_mem]
  intro v hv
  simp only [List.mem_toArray, List.mem_map] at hv
  obtain ⟨x, _, rfl⟩ := hv
  rfl
def mskL (l : List UInt8) (m n : Nat) : List UInt8 := (xorL l m).take n ++ l.drop n
theorem mskL_at (l : List UInt8) (m n : Nat) (h : n < l.length) : (mskL l m n)[n]? = some l[n] := by
  unfold mskL
  rw [List.getElem?_append_right (by simp [xorL]; omega), show (List.take n (xorL l m)).length = n by simp [xorL]; omega, Nat.sub_self, List.getElem?_drop, Nat.add_zero, List.getElem?_eq_getElem h]
theorem mskL_set (l : List UInt8) (m n : Nat) (h : n < l.length) : (mskL l m n).set n (byteOf (l[n].toNat ^^^ m)) = mskL l m (n + 1) := by
  have hl : n < (xorL l m).length := by simp [xorL]; omega
  have hv : (xorL l m)[n] = byteOf (l[n].toNat ^^^ m) := by simp [xorL]
  unfold mskL
  rw [List.drop_eq_getElem_cons h, List.set_append_right _ _ (by simp [xorL]; omega)]
  rw [show n - (List.take n (xorL l m)).length = 0 by simp [xorL]; omega]
  rw [List.set_cons_zero, ← hv, ← List.take_append_getElem hl, List.append_assoc]
  rfl
theorem mskL_all (l : List UInt8) (m : Nat) (h : l.length = 64) : mskL l m 64 = xorL l m := by
  unfold mskL
  rw [List.take_of_length_le (by simp [xorL]; omega), List.drop_of_length_le (by omega), List.append_nil]
theorem kL_eq (k : ByteArray) (hk : k.size ≤ 64) : kL k = k.data.toList ++ List.replicate (64 - k.size) 0 := by
  have hl : k.data.toList.length = k.size := rfl
  apply List.ext_getElem?
  intro j
  unfold kL
  rw [List.getElem?_map]
  by_cases hj : j < 64
  · rw [List.getElem?_range hj]
    by_cases hjk : j < k.size
    · rw [List.getElem?_append_left (by rw [hl]; exact hjk), Option.map_some, List.getD_eq_getElem?_getD, List.getElem?_eq_getElem (by rw [hl]; exact hjk)]
      rfl
    · rw [List.getElem?_append_right (by rw [hl]; omega), hl, List.getElem?_replicate, if_pos (by omega), Option.map_some, List.getD_eq_getElem?_getD, List.getElem?_eq_none (by rw [hl]; omega)]
      rfl
  · rw [List.getElem?_eq_none (by simp; omega), List.getElem?_eq_none (by rw [List.length_append, List.length_replicate, hl]; omega)]
    rfl
theorem row_k (k : ByteArray) (hk : k.size ≤ 64) : (k.data.toList.map bv ++ (zb64.map bv).toArray.toList.drop k.size).toArray = ((kL k).map bv).toArray := by
  rw [kL_eq k hk, List.map_append]
  have e : (zb64.map bv).toArray.toList.drop k.size = (List.replicate (64 - k.size) (0 : UInt8)).map bv := by
    show ((List.replicate 64 (0 : UInt8)).map bv).drop k.size = _
    rw [← List.map_drop, List.drop_replicate]
  rw [e]
theorem run_copy_text {P : Program} (w : World) (dT sT ty elem : TypeId) (g n c : Nat) (cur : Array Value) (t : TypeId) (k : ByteArray)
    (hu : P.underlying dT = some (.slice elem)) (hs : (P.info? elem).map (·.size) = some 1)
    (hg : w.heap[g]? = some (.cells cur t (0, 0))) (hkn : k.size ≤ n) (hfit : n ≤ cur.size) :
    (Builtin.copy_ #[dT, sT] ty #[.slice (some ⟨g, 0, none⟩) n c, .string k]).run P w =
      .ok (goInt k.size) (w.setRow g (k.data.toList.map bv ++ cur.toList.drop k.size).toArray) := by
  have hl : (k.data.toList.map bv).length = k.size := by rw [List.length_map]; rfl
  have h1 : ∀ v ∈ k.data.toList.map bv, v.oneCell' = true := by
    intro v hv
    obtain ⟨x, _, rfl⟩ := List.mem_map.1 hv
    rfl
  have hst := run_storeCells_at P g 0 t (k.data.toList.map bv) 0 cur w hg (by rw [hl]; omega) h1
  rw [hl, Nat.zero_add, List.take_zero, List.nil_append, Nat.zero_add] at hst
  have hm : Nat.min k.size n = k.size := Nat.min_eq_left hkn
  cases hq : P.info? elem with
  | none => simp [hq] at hs
  | some i =>
    have hx' : List.map (fun b : UInt8 => Value.int .u8 (b.toNat : Int)) k.data.toList = k.data.toList.map bv := rfl
    simp [Builtin.copy_, run_underlying hu, Builtin.lenOf, Builtin.firstCells, sizeOf, typeInfo, hq, hm, hx']
    rw [List.take_of_length_le (Nat.le_of_eq hl), hst]
    rfl
theorem wpList_copy_text {P : Program} {w : World} {ops : Array Oper} {rest : List Oper} {o : Oper} {a : Act} {Q : Exit → Act → World → Prop} (hgd : o.guard = none) (d s : Operand) (dT sT : TypeId)
    (ho : o.op = .call { callee := .builtin .copy, args := #[d, s], argTypes := #[dT, sT] }) (elem : TypeId) (hu : P.underlying dT = some (.slice elem)) (hs : (P.info? elem).map (·.size) = some 1)
    (g n c : Nat) (l : List UInt8) (t : TypeId) (hA : BArr w g t l) (k : ByteArray) (hd : a.eval d = .slice (some ⟨g, 0, none⟩) n c) (hk : a.eval s = .string k) (hkn : k.size ≤ n) (hl : l.length = n)
    (h : wpList P ops Q rest (a.put o.dst (goInt k.size)) (w.setRow g ((k.data.toList ++ l.drop k.size).map bv).toArray)) : wpList P ops Q (o :: rest) a w := by
  refine wpList_plain hgd fun K hK => ?_
  have hr := run_copy_text (P := P) w dT sT o.type elem g n c (l.map bv).toArray t k hu hs hA hkn (by simp; omega)
  have e : (k.data.toList.map bv ++ (l.map bv).toArray.toList.drop k.size) = (k.data.toList ++ l.drop k.size).map bv := by
    simp [List.map_append, List.map_drop]
  rw [e] at hr
  unfold Oper.wp execOp
  simp only [ho, resolve, invoke, builtin, Sem.run_bind, Sem.run_pure, Result.andThen_ok, List.map_toArray, List.map_cons, List.map_nil, hd, hk]
  simp only [hr, Result.andThen_ok]
  exact hK _ _ h
theorem lenb64 : Try.prog.arrayLen 84 = 64 := by kernel_rfl
theorem infob64 (l : List UInt8) (hl : l.length = 64) : (Try.prog.info? 84).map (·.size) = some (l.map bv).toArray.size := by
  have e : (l.map bv).toArray.size = 64 := by simp [hl]
  have h : (Try.prog.info? 84).map (·.size) = some 64 := by kernel_rfl
  rw [h, e]
theorem idxb64 (g k : Nat) (h : (k : Int) < 64) (W : World) : (Instr.indexAt 84 (.pointer (some ⟨g, 0, none⟩)) (.int .i64 (k : Int))).run Try.prog W = .ok (.pointer (some ⟨g, k, none⟩)) W := by
  have hu : Try.prog.underlying 84 = some (.array (Try.prog.arrayLen 84) (Try.prog.elem 84)) := by kernel_rfl
  have he : Try.prog.elem 84 = 5 := by kernel_rfl
  have h1 : (0 : Int) ≤ (k : Int) ∧ (k : Int) < ((Try.prog.arrayLen 84 : Nat) : Int) := by rw [lenb64]; exact ⟨by omega, by omega⟩
  rw [run_indexAt_array (P := Try.prog) (w := W) 84 ⟨g, 0, none⟩ .i64 (k : Int) hu, if_pos h1, he]
  simp [go_sem, Addr.add]
  intro h; exact h.symm
set_option maxRecDepth 20000 in
set_option maxHeartbeats 400000 in
theorem masked_any (l : List UInt8) (hl : l.length = 64) (m : Nat) (hm : m < 256) (w : World) :
    Calls Try.prog 69 #[aggB l, .int .u8 (m : Int)] w fun e w' => e = .returned (.string ⟨(xorL l m).toArray⟩) ∧ Below w.heap.size w w' := by
  unfold aggB
  have hN := hide (BArr.new w 84 l)
  have hb0 : Below w.heap.size w (w.alloc (.cells (l.map bv).toArray 84)) := (Below.refl w.heap.size w).alloc (Nat.le_refl _) _
  go_enter Try.func69, Try.ntmps69
  go_wp2_with fail
  generalize w.alloc (.cells (l.map bv).toArray 84) = w1 at *
  go_loopw [6] (fun ti wq => ∃ n : Nat, n ≤ 64 ∧ ti = .int .i64 (n : Int) ∧ Hid (BArr wq w.heap.size 84 (mskL l m n)) ∧ Below w.heap.size w wq) (fun ti _ => 64 - (intOf ti).toNat)
  case atStart => exact ⟨0, by omega, rfl, hN, hb0⟩
  case round =>
    clear hN hb0
    obtain ⟨n, hn, rfl, HA, hb⟩ := hrel
    by_cases hlt : n < 64
    · have hn64 : (n : Int) < 64 := by omega
      have hnl : n < l.length := by omega
      have hset := hide (mskL_set l m n hnl)
      have c0 := (unhide HA).cell (mskL_at l m n hnl)
      have f0 := (unhide HA).frozen n
      have Ig := idxb64 w.heap.size n hn64
      obtain ⟨y, hy⟩ : ∃ y, y = l[n].toNat := ⟨_, rfl⟩
      have hyl : y < 256 := by rw [hy]; exact l[n].toNat_lt
      rw [← hy] at hset c0
      have hxl : y ^^^ m < 256 := Nat.xor_lt_two_pow (n := 8) hyl hm
      have ex := hide (u8_xor y m hyl hm)
      have O2 := (unhide HA).set n (y ^^^ m) hxl
      rw [unhide hset] at O2
      replace O2 := hide O2
      have hb2 := hide (hb.setCell (p := ⟨w.heap.size, n, none⟩) (Nat.le_refl _) (.int .u8 ((y ^^^ m : Nat) : Int)))
      replace hy := hide hy
      clear HA hset hb
      go_wp2
      rw [unhide ex]
      exact ⟨⟨n + 1, by omega, by go_num, O2, unhide hb2⟩, by simp [intOf]; omega⟩
    · have hn6 : n = 64 := by omega
      have hn64 : ¬ ((n : Int) < 64) := by omega
      rw [hn6, mskL_all l m hl] at HA
      have hc := run_convert_bytes_back (P := Try.prog) wr 22 9 5 ⟨w.heap.size, 0, none⟩ 64 (xorL l m) Try.underlying22 Try.underlying5 Try.underlying9 (fun j hj => by
        have hadd : (⟨w.heap.size, 0, none⟩ : Addr).add j = ⟨w.heap.size, j, none⟩ := by unfold Addr.add; split <;> simp_all
        rw [hadd]
        exact (unhide HA).cell (List.getElem?_eq_getElem hj))
      rw [show (xorL l m).length = 64 by simp [xorL, hl]] at hc
      replace hn6 := hide hn6
      go_wp2
      go_ret
      exact ⟨rfl, hb⟩
theorem two_b64 (w : World) (T : TypeId) : ∃ W, ((w.alloc (.cells #[.int .u8 0, .int .u8 0, .int .u8 0, .int .u8 0, .int .u8 0, .int .u8 0, .int .u8 0, .int .u8 0, .int .u8 0, .int .u8 0, .int .u8 0, .int .u8 0, .int .u8 0, .int .u8 0, .int .u8 0, .int .u8 0, .int .u8 0, .int .u8 0, .int .u8 0, .int .u8 0, .int .u8 0, .int .u8 0, .int .u8 0, .int .u8 0, .int .u8 0, .int .u8 0, .int .u8 0, .int .u8 0, .int .u8 0, .int .u8 0, .int .u8 0, .int .u8 0, .int .u8 0, .int .u8 0, .int .u8 0, .int .u8 0, .int .u8 0, .int .u8 0, .int .u8 0, .int .u8 0, .int .u8 0, .int .u8 0, .int .u8 0, .int .u8 0, .int .u8 0, .int .u8 0, .int .u8 0, .int .u8 0, .int .u8 0, .int .u8 0, .int .u8 0, .int .u8 0, .int .u8 0, .int .u8 0, .int .u8 0, .int .u8 0, .int .u8 0, .int .u8 0, .int .u8 0, .int .u8 0, .int .u8 0, .int .u8 0, .int .u8 0, .int .u8 0] T)).alloc (.cells #[.int .u8 0, .int .u8 0, .int .u8 0, .int .u8 0, .int .u8 0, .int .u8 0, .int .u8 0, .int .u8 0, .int .u8 0, .int .u8 0, .int .u8 0, .int .u8 0, .int .u8 0, .int .u8 0, .int .u8 0, .int .u8 0, .int .u8 0, .int .u8 0, .int .u8 0, .int .u8 0, .int .u8 0, .int .u8 0, .int .u8 0, .int .u8 0, .int .u8 0, .int .u8 0, .int .u8 0, .int .u8 0, .int .u8 0, .int .u8 0, .int .u8 0, .int .u8 0, .int .u8 0, .int .u8 0, .int .u8 0, .int .u8 0, .int .u8 0, .int .u8 0, .int .u8 0, .int .u8 0, .int .u8 0, .int .u8 0, .int .u8 0, .int .u8 0, .int .u8 0, .int .u8 0, .int .u8 0, .int .u8 0, .int .u8 0, .int .u8 0, .int .u8 0, .int .u8 0, .int .u8 0, .int .u8 0, .int .u8 0, .int .u8 0, .int .u8 0, .int .u8 0, .int .u8 0, .int .u8 0, .int .u8 0, .int .u8 0, .int .u8 0, .int .u8 0] T)) = W ∧ BArr W w.heap.size T zb64 ∧ BArr W (w.heap.size + 1) T zb64 ∧ Below w.heap.size w W ∧ W.heap.size = w.heap.size + 2 := by
  have h1 : BArr (w.alloc (.cells #[.int .u8 0, .int .u8 0, .int .u8 0, .int .u8 0, .int .u8 0, .int .u8 0, .int .u8 0, .int .u8 0, .int .u8 0, .int .u8 0, .int .u8 0, .int .u8 0, .int .u8 0, .int .u8 0, .int .u8 0, .int .u8 0, .int .u8 0, .int .u8 0, .int .u8 0, .int .u8 0, .int .u8 0, .int .u8 0, .int .u8 0, .int .u8 0, .int .u8 0, .int .u8 0, .int .u8 0, .int .u8 0, .int .u8 0, .int .u8 0, .int .u8 0, .int .u8 0, .int .u8 0, .int .u8 0, .int .u8 0, .int .u8 0, .int .u8 0, .int .u8 0, .int .u8 0, .int .u8 0, .int .u8 0, .int .u8 0, .int .u8 0, .int .u8 0, .int .u8 0, .int .u8 0, .int .u8 0, .int .u8 0, .int .u8 0, .int .u8 0, .int .u8 0, .int .u8 0, .int .u8 0, .int .u8 0, .int .u8 0, .int .u8 0, .int .u8 0, .int .u8 0, .int .u8 0, .int .u8 0, .int .u8 0, .int .u8 0, .int .u8 0, .int .u8 0] T)) w.heap.size T zb64 := BArr.new w T zb64
  have h2 : BArr ((w.alloc (.cells #[.int .u8 0, .int .u8 0, .int .u8 0, .int .u8 0, .int .u8 0, .int .u8 0, .int .u8 0, .int .u8 0, .int .u8 0, .int .u8 0, .int .u8 0, .int .u8 0, .int .u8 0, .int .u8 0, .int .u8 0, .int .u8 0, .int .u8 0, .int .u8 0, .int .u8 0, .int .u8 0, .int .u8 0, .int .u8 0, .int .u8 0, .int .u8 0, .int .u8 0, .int .u8 0, .int .u8 0, .int .u8 0, .int .u8 0, .int .u8 0, .int .u8 0, .int .u8 0, .int .u8 0, .int .u8 0, .int .u8 0, .int .u8 0, .int .u8 0, .int .u8 0, .int .u8 0, .int .u8 0, .int .u8 0, .int .u8 0, .int .u8 0, .int .u8 0, .int .u8 0, .int .u8 0, .int .u8 0, .int .u8 0, .int .u8 0, .int .u8 0, .int .u8 0, .int .u8 0, .int .u8 0, .int .u8 0, .int .u8 0, .int .u8 0, .int .u8 0, .int .u8 0, .int .u8 0, .int .u8 0, .int .u8 0, .int .u8 0, .int .u8 0, .int .u8 0] T)).alloc (.cells #[.int .u8 0, .int .u8 0, .int .u8 0, .int .u8 0, .int .u8 0, .int .u8 0, .int .u8 0, .int .u8 0, .int .u8 0, .int .u8 0, .int .u8 0, .int .u8 0, .int .u8 0, .int .u8 0, .int .u8 0, .int .u8 0, .int .u8 0, .int .u8 0, .int .u8 0, .int .u8 0, .int .u8 0, .int .u8 0, .int .u8 0, .int .u8 0, .int .u8 0, .int .u8 0, .int .u8 0, .int .u8 0, .int .u8 0, .int .u8 0, .int .u8 0, .int .u8 0, .int .u8 0, .int .u8 0, .int .u8 0, .int .u8 0, .int .u8 0, .int .u8 0, .int .u8 0, .int .u8 0, .int .u8 0, .int .u8 0, .int .u8 0, .int .u8 0, .int .u8 0, .int .u8 0, .int .u8 0, .int .u8 0, .int .u8 0, .int .u8 0, .int .u8 0, .int .u8 0, .int .u8 0, .int .u8 0, .int .u8 0, .int .u8 0, .int .u8 0, .int .u8 0, .int .u8 0, .int .u8 0, .int .u8 0, .int .u8 0, .int .u8 0, .int .u8 0] T)) (w.alloc (.cells #[.int .u8 0, .int .u8 0, .int .u8 0, .int .u8 0, .int .u8 0, .int .u8 0, .int .u8 0, .int .u8 0, .int .u8 0, .int .u8 0, .int .u8 0, .int .u8 0, .int .u8 0, .int .u8 0, .int .u8 0, .int .u8 0, .int .u8 0, .int .u8 0, .int .u8 0, .int .u8 0, .int .u8 0, .int .u8 0, .int .u8 0, .int .u8 0, .int .u8 0, .int .u8 0, .int .u8 0, .int .u8 0, .int .u8 0, .int .u8 0, .int .u8 0, .int .u8 0, .int .u8 0, .int .u8 0, .int .u8 0, .int .u8 0, .int .u8 0, .int .u8 0, .int .u8 0, .int .u8 0, .int .u8 0, .int .u8 0, .int .u8 0, .int .u8 0, .int .u8 0, .int .u8 0, .int .u8 0, .int .u8 0, .int .u8 0, .int .u8 0, .int .u8 0, .int .u8 0, .int .u8 0, .int .u8 0, .int .u8 0, .int .u8 0, .int .u8 0, .int .u8 0, .int .u8 0, .int .u8 0, .int .u8 0, .int .u8 0, .int .u8 0, .int .u8 0] T)).heap.size T zb64 := BArr.new (w.alloc (.cells (zb64.map bv).toArray T)) T zb64
  have hz : (w.alloc (.cells #[.int .u8 0, .int .u8 0, .int .u8 0, .int .u8 0, .int .u8 0, .int .u8 0, .int .u8 0, .int .u8 0, .int .u8 0, .int .u8 0, .int .u8 0, .int .u8 0, .int .u8 0, .int .u8 0, .int .u8 0, .int .u8 0, .int .u8 0, .int .u8 0, .int .u8 0, .int .u8 0, .int .u8 0, .int .u8 0, .int .u8 0, .int .u8 0, .int .u8 0, .int .u8 0, .int .u8 0, .int .u8 0, .int .u8 0, .int .u8 0, .int .u8 0, .int .u8 0, .int .u8 0, .int .u8 0, .int .u8 0, .int .u8 0, .int .u8 0, .int .u8 0, .int .u8 0, .int .u8 0, .int .u8 0, .int .u8 0, .int .u8 0, .int .u8 0, .int .u8 0, .int .u8 0, .int .u8 0, .int .u8 0, .int .u8 0, .int .u8 0, .int .u8 0, .int .u8 0, .int .u8 0, .int .u8 0, .int .u8 0, .int .u8 0, .int .u8 0, .int .u8 0, .int .u8 0, .int .u8 0, .int .u8 0, .int .u8 0, .int .u8 0, .int .u8 0] T)).heap.size = w.heap.size + 1 := by simp
  rw [hz] at h2
  refine ⟨_, rfl, h1.below ((Below.refl (w.heap.size + 1) _).alloc (by rw [hz]; exact Nat.le_refl _) _) (by omega), h2, ((Below.refl w.heap.size w).alloc (Nat.le_refl _) _).alloc (by rw [hz]; omega) _, ?_⟩
  simp
theorem one_b64 (w : World) (T : TypeId) : ∃ W, (w.alloc (.cells #[.int .u8 0, .int .u8 0, .int .u8 0, .int .u8 0, .int .u8 0, .int .u8 0, .int .u8 0, .int .u8 0, .int .u8 0, .int .u8 0, .int .u8 0, .int .u8 0, .int .u8 0, .int .u8 0, .int .u8 0, .int .u8 0, .int .u8 0, .int .u8 0, .int .u8 0, .int .u8 0, .int .u8 0, .int .u8 0, .int .u8 0, .int .u8 0, .int .u8 0, .int .u8 0, .int .u8 0, .int .u8 0, .int .u8 0, .int .u8 0, .int .u8 0, .int .u8 0, .int .u8 0, .int .u8 0, .int .u8 0, .int .u8 0, .int .u8 0, .int .u8 0, .int .u8 0, .int .u8 0, .int .u8 0, .int .u8 0, .int .u8 0, .int .u8 0, .int .u8 0, .int .u8 0, .int .u8 0, .int .u8 0, .int .u8 0, .int .u8 0, .int .u8 0, .int .u8 0, .int .u8 0, .int .u8 0, .int .u8 0, .int .u8 0, .int .u8 0, .int .u8 0, .int .u8 0, .int .u8 0, .int .u8 0, .int .u8 0, .int .u8 0, .int .u8 0] T)) = W ∧ BArr W w.heap.size T zb64 ∧ Below w.heap.size w W ∧ W.heap.size = w.heap.size + 1 :=
  ⟨_, rfl, BArr.new w T zb64, (Below.refl w.heap.size w).alloc (Nat.le_refl _) _, by simp⟩
set_option maxRecDepth 20000 in
set_option maxHeartbeats 400000 in
theorem keyBlock_any (key : ByteArray) (hkz : key.size ≤ 1048576) (w : World) :
    Calls Try.prog 68 #[.string key] w fun e w' => e = .returned (aggB (kL (keyB key))) ∧ Below w.heap.size w w' := by
  have hinf : (Try.prog.info? 5).map (·.size) = some 1 := by kernel_rfl
  by_cases hlong : 64 < key.size
  · have h64 : (64 : Int) < (key.size : Int) := by omega
    have CD := hide (fun W => implDigest_any key (by omega) W)
    rw [show endV (blocksW first8 key 0 (key.size / 64)) (key.extract (64 * (key.size / 64)) key.size) key.size = keyB key by unfold keyB; rw [if_pos hlong]; rfl] at CD
    have hk : (keyB key).size ≤ 64 := keyB_size key
    generalize keyB key = k at *
    have hrow : (k.data.toList.map bv ++ (zb64.map bv).toArray.toList.drop k.size).toArray = ((kL k).map bv).toArray := row_k k hk
    go_enter Try.func68, Try.ntmps68
    go_wp2_with fail
    obtain ⟨W0, hW0, hR0, hb0, hs0⟩ := one_b64 w 84
    rw [hW0]
    clear hW0
    refine ((unhide CD) W0).mono ?_
    rintro e w1 ⟨rfl, hb1⟩
    have hR1 := hR0.below hb1 (by omega)
    have hb01 := hb0.trans (hb1.mono (by omega))
    have hs1 := hb1.size
    clear hR0 hb0 hb1 CD
    go_wp2_with fail
    obtain ⟨W, hW, hA, hbW, hWs⟩ := one_b64 w1 84
    rw [hW]
    clear hW
    have hR := hR1.below hbW (by omega)
    have hb := hb01.trans (hbW.mono (by omega))
    clear hR1 hbW hb01
    have hcp := run_copy_text (P := Try.prog) W 22 9 3 5 (w1.heap.size) 64 64 (zb64.map bv).toArray 84 k Try.underlying22 hinf hA hk (by simp [zb64])
    rw [hrow] at hcp
    have hA2 : BArr (W.setRow (w1.heap.size) ((kL k).map bv).toArray) (w1.heap.size) 84 (kL k) := setRow_heap _ _ _ _ _ _ hA
    have hR2 : BArr (W.setRow (w1.heap.size) ((kL k).map bv).toArray) w.heap.size 84 zb64 := by
      unfold BArr
      rw [Go.setRow_other _ _ _ _ (by omega)]
      exact hR
    have hb2 := Go.below_setRow hb (show w.heap.size ≤ w1.heap.size by omega) ((kL k).map bv).toArray
    rw [hcp]
    clear hcp hA hR hb hrow hinf
    generalize W.setRow (w1.heap.size) ((kL k).map bv).toArray = W2 at *
    have hi := hide (infob64 (kL k) (kL_len k))
    have hsz : (zb64.map bv).toArray.size = ((kL k).map bv).toArray.size := by simp [kL_len, zb64]
    replace hsz := hide hsz
    replace hA2 := hide hA2
    replace hR2 := hide hR2
    go_wp2_with (first | (refine wpList_load_row rfl 84 _ rfl (w1.heap.size) rfl 84 _ (0, 0) _ (unhide hA2) Try.underlying84 rfl (unhide hi) ?_) | (refine wpList_store_row rfl 84 _ _ rfl w.heap.size _ rfl rfl 84 _ (unhide hR2) (unhide hi) (unhide hsz) (bv_one _) ?_))
    exact bodyPost_ret (v := aggB (kL k)) (results_cell_row Try.results68 _ _ w.heap.size 84 _ (0, 0) _ rfl (setRow_heap _ _ _ _ _ _ (unhide hR2)) Try.underlying84 rfl (unhide hi)) rfl ⟨rfl, Go.below_setRow hb2 (Nat.le_refl _) _⟩
  · have h64 : ¬ (64 : Int) < (key.size : Int) := by omega
    have hk : key.size ≤ 64 := by omega
    rw [show keyB key = key by unfold keyB; rw [if_neg hlong]]
    generalize key = k at *
    have hrow : (k.data.toList.map bv ++ (zb64.map bv).toArray.toList.drop k.size).toArray = ((kL k).map bv).toArray := row_k k hk
    go_enter Try.func68, Try.ntmps68
    go_wp2_with fail
    obtain ⟨W, hW, hR, hA, hb, hWs⟩ := two_b64 w 84
    rw [hW]
    clear hW
    have hcp := run_copy_text (P := Try.prog) W 22 9 3 5 (w.heap.size + 1) 64 64 (zb64.map bv).toArray 84 k Try.underlying22 hinf hA hk (by simp [zb64])
    rw [hrow] at hcp
    have hA2 : BArr (W.setRow (w.heap.size + 1) ((kL k).map bv).toArray) (w.heap.size + 1) 84 (kL k) := setRow_heap _ _ _ _ _ _ hA
    have hR2 : BArr (W.setRow (w.heap.size + 1) ((kL k).map bv).toArray) w.heap.size 84 zb64 := by
      unfold BArr
      rw [Go.setRow_other _ _ _ _ (by omega)]
      exact hR
    have hb2 := Go.below_setRow hb (show w.heap.size ≤ w.heap.size + 1 by omega) ((kL k).map bv).toArray
    rw [hcp]
    clear hcp hA hR hb hrow hinf
    generalize W.setRow (w.heap.size + 1) ((kL k).map bv).toArray = W2 at *
    have hi := hide (infob64 (kL k) (kL_len k))
    have hsz : (zb64.map bv).toArray.size = ((kL k).map bv).toArray.size := by simp [kL_len, zb64]
    replace hsz := hide hsz
    replace hA2 := hide hA2
    replace hR2 := hide hR2
    go_wp2_with (first | (refine wpList_load_row rfl 84 _ rfl (w.heap.size + 1) rfl 84 _ (0, 0) _ (unhide hA2) Try.underlying84 rfl (unhide hi) ?_) | (refine wpList_store_row rfl 84 _ _ rfl w.heap.size _ rfl rfl 84 _ (unhide hR2) (unhide hi) (unhide hsz) (bv_one _) ?_))
    exact bodyPost_ret (v := aggB (kL k)) (results_cell_row Try.results68 _ _ w.heap.size 84 _ (0, 0) _ rfl (setRow_heap _ _ _ _ _ _ (unhide hR2)) Try.underlying84 rfl (unhide hi)) rfl ⟨rfl, Go.below_setRow hb2 (Nat.le_refl _) _⟩
theorem wpList_load_barr {P : Program} {ops : Array Oper} {rest : List Oper} {o : Oper} {a : Act} {w : World} {Q : Exit → Act → World → Prop} (hgd : o.guard = none) (ty : TypeId) (x : Operand) (ho : o.op = .load ty x)
    (g : Nat) (hx : a.eval x = .pointer (some ⟨g, 0, none⟩)) (T : TypeId) (l : List UInt8) (hA : BArr w g T l) (n : Nat) (e : TypeId) (hu : P.underlying ty = some (.array n e)) (hi : (P.info? ty).map (·.size) = some (l.map bv).toArray.size)
    (h : wpList P ops Q rest (a.put o.dst (aggB l)) w) : wpList P ops Q (o :: rest) a w :=
  wpList_load_row hgd ty x ho g hx T _ (0, 0) _ hA hu rfl hi h
theorem wpList_store_barr {P : Program} {ops : Array Oper} {rest : List Oper} {o : Oper} {a : Act} {w : World} {Q : Exit → Act → World → Prop} (hgd : o.guard = none) (ty : TypeId) (x y : Operand) (ho : o.op = .store ty x y)
    (g : Nat) (l l0 : List UInt8) (hx : a.eval x = .pointer (some ⟨g, 0, none⟩)) (hy : a.eval y = aggB l) (T : TypeId) (hA : BArr w g T l0) (hi : (P.info? ty).map (·.size) = some (l.map bv).toArray.size) (hl : l0.length = l.length)
    (h : ∀ w', BArr w' g T l → Below g w w' → wpList P ops Q rest (a.put o.dst undef) w') : wpList P ops Q (o :: rest) a w :=
  wpList_store_row hgd ty x y ho g _ hx hy T _ hA hi (by simp [hl]) (bv_one l) (h _ (setRow_heap _ _ _ _ _ _ hA) (Go.below_setRow (Below.refl _ _) (Nat.le_refl _) _))
theorem wpList_onto_vals {P : Program} {w : World} {ops : Array Oper} {rest : List Oper} {o : Oper} {a : Act} {Q : Exit → Act → World → Prop} {u : Value} {e : TypeId} (hgd : o.guard = none) (s x : Operand) (t : TypeId)
    (ho : o.op = .call { callee := .builtin .append, args := #[s, x], argTypes := #[t, t] })
    (i : TypeInfo) (z : Value) (nb : Nat) (ht : P.underlying t = some (.slice e)) (hi : P.info? e = some i) (hz : i.zero = some z) (hsize : i.size = 1) (hby : i.bytes = nb) (hzs : z.cells.size = 1)
    (hs : a.eval s = .slice (some ⟨w.heap.size, 0, none⟩) 1 1) (g n c : Nat) (news : List Value) (hx : a.eval x = .slice (some ⟨g, 0, none⟩) n c) (hcell : ∀ j v, news[j]? = some v → w.cell? ⟨g, j, none⟩ = some v) (hgl : g < w.heap.size) (hn : news.length = n) (h1 : ∀ v ∈ news, v.oneCell' = true)
    (h63 : 1 + n ≤ maxLen) (hbytes : (1 + n) * nb ≤ 140737488355328)
    (h : ∀ v' w', OwnV w' w.heap.size e v' (u :: news) → Below w.heap.size w w' → wpList P ops Q rest (a.put o.dst v') w') :
    wpList P ops Q (o :: rest) a (w.alloc (.cells #[u] e)) := by
  have hE : (w.alloc (.cells #[u] e)).ownsRow w.heap.size e 1 (.slice (some ⟨w.heap.size, 0, none⟩) 1 1) 1 [u] := ⟨by simp, .inr ⟨w.heap.size, 1, #[u], rfl, Nat.le_refl _, heap_alloc_new w _, Nat.le_refl _, by decide, by simp, by simp⟩⟩
  have hb0 : Below w.heap.size w (w.alloc (.cells #[u] e)) := (Below.refl w.heap.size w).alloc (Nat.le_refl _) _
  refine wpList_append_own (w.alloc (.cells #[u] e)) hgd s x t ho w.heap.size e i z 1 nb ht hi hz hsize hby hzs (by decide) _ 1 [u] hs hE ⟨g, 0, none⟩ n c news hx (by rw [hn, Nat.mul_one]) ?_ h1 h63 hbytes (by simp) ?_
  · intro j v hj
    have hadd : (⟨g, 0, none⟩ : Addr).add j = ⟨g, j, none⟩ := by unfold Addr.add; split <;> simp_all
    rw [hadd, hb0.cell (p := ⟨g, j, none⟩) hgl]
    exact hcell j v hj
  · intro v' w' h2 h3 _
    refine h v' w' ?_ (hb0.grown h3 (by simp) (fun k hk => by simp [Value.ownBlock] at hk; omega))
    unfold OwnV
    rw [List.length_cons, hn, Nat.add_comm]
    exact h2
theorem OwnV.cap {w : World} {base g n c : Nat} {e : TypeId} {xs : List Value} (h : OwnV w base e (.slice (some ⟨g, 0, none⟩) n c) xs) : n ≤ c ∧ n = xs.length := by
  rcases h.2 with ⟨h1, _⟩ | ⟨g', cap, cur, h1, _, _, h3, _⟩
  · cases h1
  · simp only [Value.slice.injEq, Option.some.injEq, Addr.mk.injEq] at h1
    obtain ⟨⟨rfl, _⟩, rfl, rfl⟩ := h1
    exact ⟨h3, rfl⟩
theorem two_texts (w : World) (a b : ByteArray) (T : TypeId) : ∀ (j : Nat) x, [a, b][j]? = some x → (w.alloc (.cells #[.string a, .string b] T)).cell? ⟨w.heap.size, 0 + j, none⟩ = some (.string x) := by
  intro j x hx
  rw [Nat.zero_add, cell_of_row _ w.heap.size j _ T (0, 0) (heap_alloc_new w _)]
  match j, hx with
  | 0, h => cases h; rfl
  | 1, h => cases h; rfl
  | j + 2, h => simp at h
theorem Try.infoTx : (Try.prog.info? 9).map (fun i => (i.zero, i.size, i.bytes)) = some (some (.string ⟨#[]⟩), 1, 16) := by kernel_rfl
set_option maxRecDepth 20000 in
set_option maxHeartbeats 400000 in
theorem macParts_any (key : ByteArray) (hkz : key.size ≤ 1048576) (bk c n : Nat) (xs : List ByteArray) (hn : xs.length = n) (T : ByteArray) (hT : T.data.toList = (xs.map (·.data.toList)).flatten) (hTs : T.size ≤ 2000000) (w : World) (hcells : ∀ (j : Nat) x, xs[j]? = some x → w.cell? ⟨bk, j, none⟩ = some (.string x)) (hbk : bk < w.heap.size) (hN : n ≤ 10) :
    Calls Try.prog 55 #[.string key, .slice (some ⟨bk, 0, none⟩) n c] w fun e w' => e = .returned (.string (macB key T)) ∧ Below w.heap.size w w' := by
  have CK := hide (fun W => keyBlock_any key hkz W)
  have M1 := hide (fun W => masked_any (kL (keyB key)) (kL_len _) 54 (by omega) W)
  have M2 := hide (fun W => masked_any (kL (keyB key)) (kL_len _) 92 (by omega) W)
  rw [show (⟨(xorL (kL (keyB key)) 54).toArray⟩ : ByteArray) = maskB key 54 from rfl] at M1
  rw [show (⟨(xorL (kL (keyB key)) 92).toArray⟩ : ByteArray) = maskB key 92 from rfl] at M2
  go_enter Try.func55, Try.ntmps55
  go_wp2_with fail
  refine ((unhide CK) w).mono ?_
  rintro e w1 ⟨rfl, hb1⟩
  have hLl := kL_len (keyB key)
  generalize kL (keyB key) = L at *
  have hi := hide (infob64 L hLl)
  have H8 := hide (show BArr (w1.alloc (.cells #[.int .u8 0, .int .u8 0, .int .u8 0, .int .u8 0, .int .u8 0, .int .u8 0, .int .u8 0, .int .u8 0, .int .u8 0, .int .u8 0, .int .u8 0, .int .u8 0, .int .u8 0, .int .u8 0, .int .u8 0, .int .u8 0, .int .u8 0, .int .u8 0, .int .u8 0, .int .u8 0, .int .u8 0, .int .u8 0, .int .u8 0, .int .u8 0, .int .u8 0, .int .u8 0, .int .u8 0, .int .u8 0, .int .u8 0, .int .u8 0, .int .u8 0, .int .u8 0, .int .u8 0, .int .u8 0, .int .u8 0, .int .u8 0, .int .u8 0, .int .u8 0, .int .u8 0, .int .u8 0, .int .u8 0, .int .u8 0, .int .u8 0, .int .u8 0, .int .u8 0, .int .u8 0, .int .u8 0, .int .u8 0, .int .u8 0, .int .u8 0, .int .u8 0, .int .u8 0, .int .u8 0, .int .u8 0, .int .u8 0, .int .u8 0, .int .u8 0, .int .u8 0, .int .u8 0, .int .u8 0, .int .u8 0, .int .u8 0, .int .u8 0, .int .u8 0] 84)) w1.heap.size 84 zb64 ∧ Below w1.heap.size w1 (w1.alloc (.cells #[.int .u8 0, .int .u8 0, .int .u8 0, .int .u8 0, .int .u8 0, .int .u8 0, .int .u8 0, .int .u8 0, .int .u8 0, .int .u8 0, .int .u8 0, .int .u8 0, .int .u8 0, .int .u8 0, .int .u8 0, .int .u8 0, .int .u8 0, .int .u8 0, .int .u8 0, .int .u8 0, .int .u8 0, .int .u8 0, .int .u8 0, .int .u8 0, .int .u8 0, .int .u8 0, .int .u8 0, .int .u8 0, .int .u8 0, .int .u8 0, .int .u8 0, .int .u8 0, .int .u8 0, .int .u8 0, .int .u8 0, .int .u8 0, .int .u8 0, .int .u8 0, .int .u8 0, .int .u8 0, .int .u8 0, .int .u8 0, .int .u8 0, .int .u8 0, .int .u8 0, .int .u8 0, .int .u8 0, .int .u8 0, .int .u8 0, .int .u8 0, .int .u8 0, .int .u8 0, .int .u8 0, .int .u8 0, .int .u8 0, .int .u8 0, .int .u8 0, .int .u8 0, .int .u8 0, .int .u8 0, .int .u8 0, .int .u8 0, .int .u8 0, .int .u8 0] 84)) from ⟨BArr.new w1 84 zb64, (Below.refl w1.heap.size w1).alloc (Nat.le_refl _) _⟩)
  go_wp2_with (first
    | (refine wpList_store_barr rfl 84 _ _ rfl w1.heap.size _ zb64 rfl rfl 84 (unhide H8).1 (unhide hi) (by rw [hLl]; rfl) ?_; intro w2 hA2 hB2; have hb2 := (unhide H8).2.trans hB2; have hl2 := hA2.lt; replace hA2 := hide hA2)
    | (refine wpList_load_barr rfl 84 _ rfl w1.heap.size rfl 84 _ (unhide hA2) _ _ Try.underlying84 (unhide hi) ?_))
  obtain ⟨i1, hi1, hz0, hz1, hz2⟩ := info_parts Try.infoTx
  refine ((unhide M1) w2).mono ?_
  rintro e w3 ⟨rfl, hb3⟩
  have hA3 := hide ((unhide hA2).below hb3 hl2)
  have hb13 := (hb1.trans (hb2.mono hb1.size)).trans (hb3.mono (by have := hb1.size; have := hb2.size; omega))
  have hc3 : ∀ (j : Nat) v, (xs.map Value.string)[j]? = some v → w3.cell? ⟨bk, j, none⟩ = some v := by
    intro j v hv
    rw [List.getElem?_map] at hv
    cases hx : xs[j]? with
    | none => rw [hx] at hv; cases hv
    | some b => rw [hx] at hv; cases hv; rw [hb13.cell (p := ⟨bk, j, none⟩) hbk]; exact hcells j b hx
  have h1 : ∀ v ∈ xs.map Value.string, v.oneCell' = true := by
    intro v hv
    obtain ⟨x, _, rfl⟩ := List.mem_map.1 hv
    rfl
  have hbk3 : bk < w3.heap.size := Nat.lt_of_lt_of_le hbk hb13.size
  have hl3 := (unhide hA3).lt
  have hs1 := maskB_size key 54
  have hs2 := maskB_size key 92
  have HMac := hide (show macB key T = digB (maskB key 92 ++ digB (maskB key 54 ++ T)) from rfl)
  clear hA2 hb1 hb2 hb3 H8 CK
  generalize maskB key 54 = m1 at *
  generalize maskB key 92 = m2 at *
  have hln : (xs.map Value.string).length = n := by rw [List.length_map]; exact hn
  replace hc3 := hide hc3
  replace hcells := hide hcells
  go_wp2_with (first
    | (at_builtin; refine wpList_onto_vals (w := w3) (u := .string m1) (e := 9) rfl (.tmp 11) (.tmp 12) 83 rfl i1 (.string ⟨#[]⟩) 16 Try.underlying83 hi1 hz0 hz1 hz2 rfl rfl bk n c (xs.map Value.string) rfl (unhide hc3) hbk3 hln h1 (by unfold maxLen; omega) (by omega) ?_; intro v4 w4 hown4 hb4; have hA4 := hide ((unhide hA3).below hb4 hl3); replace hown4 := hide hown4)
    | (refine wpList_load_barr rfl 84 _ rfl w1.heap.size rfl 84 _ (unhide hA4) _ _ Try.underlying84 (unhide hi) ?_))
  refine ((unhide M2) w4).mono ?_
  rintro e w5 ⟨rfl, hb5⟩
  have hown5 := (unhide hown4).below hb5
  obtain ⟨a4, c4, hv4⟩ := hown5.shape
  subst hv4
  obtain ⟨g4, rfl, _, hg4⟩ := hown5.some_at (by simp)
  have hcap4 := hown5.cap.1
  have hlx : (Value.string m1 :: xs.map Value.string).length = n + 1 := by rw [List.length_cons, hln]
  have hc5 : ∀ (j : Nat) x, (m1 :: xs)[j]? = some x → w5.cell? ⟨g4, 0 + j, none⟩ = some (.string x) := by
    intro j x hx
    rw [Nat.zero_add]
    exact hown5.cell (by rw [show Value.string m1 :: xs.map Value.string = (m1 :: xs).map Value.string from rfl, List.getElem?_map, hx]; rfl)
  rw [hlx] at hcap4
  have hT1 : (m1 ++ T).data.toList = ((m1 :: xs).map (·.data.toList)).flatten := by
    rw [ByteArray.data_append, Array.toList_append, hT]; rfl
  have D1 := hide (digParts_any g4 0 c4 (n + 1) (m1 :: xs) (by rw [List.length_cons, hn]) (m1 ++ T) hT1 (by rw [ByteArray.size_append]; omega) w5 hc5 hg4 hcap4 (by omega))
  have hb15 := (hb13.trans (hb4.mono hb13.size)).trans (hb5.mono (by have := hb13.size; have := hb4.size; omega))
  have hd1 : (digB (m1 ++ T)).size = 32 := digB_len _
  rw [hlx]
  clear hown4 hown5 hc5 hT1 hb13 hb4 hb5 hA3 hA4 hc3 hcells h1 M1 M2 hcap4
  generalize digB (m1 ++ T) = d1 at *
  have D2 := hide (fun W => digParts_any W.heap.size 0 2 2 [m2, d1] rfl (m2 ++ d1) (by rw [ByteArray.data_append, Array.toList_append]; simp) (by rw [ByteArray.size_append]; omega) (W.alloc (.cells #[.string m2, .string d1] 9)) (two_texts W m2 d1 9) (by simp) (by omega) (by omega))
  generalize digB (m2 ++ d1) = d2 at *
  go_wp2_with fail
  refine (unhide D1).mono ?_
  rintro e w6 ⟨rfl, hb6⟩
  have hb16 := hb15.trans (hb6.mono hb15.size)
  clear hb15 hb6
  go_wp2_with fail
  refine ((unhide D2) w6).mono ?_
  rintro e w7 ⟨rfl, hb7⟩
  have hb67 : Below w6.heap.size w6 w7 := ((Below.refl w6.heap.size w6).alloc (Nat.le_refl _) _).trans (hb7.mono (by simp))
  have hb17 := hb16.trans (hb67.mono hb16.size)
  clear hb16 hb7 hb67
  go_wp2
  go_ret
  exact ⟨by rw [unhide HMac]; rfl, hb17⟩
end Go.Proofs.Ytinnaajkdkfnaaa

/- Laws of no program: a block that holds a variable of several cells. -/
namespace Go.Proofs.Ytinnaajkdkfnaaa
open Go.RowKit
/-- Block g is a variable that holds these cells. -/
def CB (w : World) (g : Nat) (T : TypeId) (cs : Array Value) : Prop := w.heap[g]? = some (.cells cs T (0, 0))
theorem CB.lt {w : World} {g : Nat} {T : TypeId} {cs : Array Value} (h : CB w g T cs) : g < w.heap.size := by
  rcases Nat.lt_or_ge g w.heap.size with h1 | h1
  · exact h1
  · unfold CB at h
    rw [Array.getElem?_eq_none h1] at h; cases h
theorem CB.below {w w' : World} {g B : Nat} {T : TypeId} {cs : Array Value} (h : CB w g T cs) (hb : Below B w w') (hg : g < B) : CB w' g T cs := by
  unfold CB at h ⊢
  rw [hb.block g hg]; exact h
theorem CB.step {w w' : World} {g : Nat} {T : TypeId} {cs : Array Value} (h : CB w g T cs) (hb : Below w.heap.size w w') : CB w' g T cs := h.below hb h.lt
theorem CB.grown {w w' : World} {g : Nat} {r : Option Nat} {T : TypeId} {cs : Array Value} (hA : CB w g T cs) (hG : w.grownBy w' r) (hne : r ≠ some g) : CB w' g T cs := by
  have h := hG.block g hA.lt (fun e => hne e.symm)
  unfold CB at hA ⊢
  rw [h]
  exact hA
theorem CB.cell {w : World} {g : Nat} {T : TypeId} {cs : Array Value} (h : CB w g T cs) (k : Nat) {v : Value} (hv : cs[k]? = some v) : w.cell? ⟨g, k, none⟩ = some v := by
  rw [cell_of_row w g k _ T (0, 0) h]
  exact hv
theorem CB.frozen {w : World} {g : Nat} {T : TypeId} {cs : Array Value} (h : CB w g T cs) (k : Nat) : w.frozen? ⟨g, k, none⟩ = false := frozen_of_row w g k _ T h
theorem CB.set {w : World} {g : Nat} {T : TypeId} {cs : Array Value} (h : CB w g T cs) (k : Nat) (v : Value) : CB (w.setCell ⟨g, k, none⟩ v) g T (cs.setIfInBounds k v) := by
  unfold CB
  rw [heap_setCell_same w g k _ T v h]
theorem CB.set_other {w : World} {g h k : Nat} {T : TypeId} {cs : Array Value} (hA : CB w g T cs) (hne : g ≠ h) (v : Value) : CB (w.setCell ⟨h, k, none⟩ v) g T cs := by
  unfold CB at hA ⊢
  rw [Below.heap_setCell _ _ _ g hne]
  exact hA
theorem CB.alloc {w : World} {g : Nat} {T : TypeId} {cs : Array Value} (h : CB w g T cs) (o : Obj) : CB (w.alloc o) g T cs := by
  have hl := h.lt
  unfold CB at h ⊢
  rw [heap_alloc_old w o hl]
  exact h
theorem CB.new (w : World) (cs : Array Value) (T : TypeId) : CB (w.alloc (.cells cs T)) w.heap.size T cs := by
  unfold CB
  exact heap_alloc_new w _
theorem CB.off {w : World} {g base : Nat} {T e : TypeId} {cs : Array Value} {v : Value} {xs : List Value} (hA : CB w g T cs) (ho : OwnV w base e v xs) (hT : T ≠ e) : v.ownBlock ≠ some g := by
  intro hv
  rcases ho.2 with ⟨h1, _⟩ | ⟨g', cap, cur, h1, _, h3, _⟩
  · rw [h1] at hv; cases hv
  · rw [h1] at hv
    have hv' : (some g' : Option Nat) = some g := hv
    have hg : g' = g := Option.some.inj hv'
    subst hg
    unfold CB at hA
    rw [hA] at h3
    have h4 := Option.some.inj h3
    injection h4 with h5 h6
    exact hT h6
theorem tS0 (w : World) (g o : Nat) (u : Value) : w.grownBy (w.setCell ⟨g, o, none⟩ u) (some g) := ⟨rfl, rfl, rfl, by simp, fun k _ hk => RowKit.Below.heap_setCell _ _ _ _ (fun e => hk (by rw [e]))⟩
theorem OwnV.setO {w : World} {base : Nat} {e : TypeId} {v : Value} {xs : List Value} (h : OwnV w base e v xs) (g k : Nat) (u : Value) (hne : v.ownBlock ≠ some g) : OwnV (w.setCell ⟨g, k, none⟩ u) base e v xs := h.grown (tS0 w g k u) fun j hj e => hne (by rw [hj, e])
theorem results_cb {P : Program} {fn : Func} {p : Tmp} {ty : TypeId} (h : fn.results = #[.cell p ty]) (tmps : Array Value) (w : World) (g : Nat) (T : TypeId) (cs : Array Value) (fs : Array Field)
    (hp : tmps.getD p undef = .pointer (some ⟨g, 0, none⟩)) (hA : CB w g T cs) (hu : P.underlying ty = some (.struct fs)) (hi : (P.info? ty).map (·.size) = some cs.size) :
    (results fn tmps).run P w = .ok (.agg cs) w :=
  results_cell_row h tmps w g T _ (0, 0) _ hp hA hu rfl hi
theorem results_cb_tmp {P : Program} {fn : Func} {p u : Tmp} {ty : TypeId} (h : fn.results = #[.cell p ty, .tmp u]) (tmps : Array Value) (w : World) (g : Nat) (T : TypeId) (cs : Array Value) (fs : Array Field)
    (hp : tmps.getD p undef = .pointer (some ⟨g, 0, none⟩)) (hA : CB w g T cs) (hu : P.underlying ty = some (.struct fs)) (hi : (P.info? ty).map (·.size) = some cs.size) :
    (results fn tmps).run P w = .ok (.tuple #[.agg cs, tmps.getD u undef]) w := by
  rw [results_cell_tmp h, hp]
  simp [asAddr, Result.andThen, run_loadVar_row w g T ty cs (0, 0) (.struct fs) hA hu rfl hi]
theorem one_cb (w : World) (c1 : Array Value) (T1 : TypeId) : ∃ W, w.alloc (.cells c1 T1) = W ∧ CB W w.heap.size T1 c1 ∧ Below w.heap.size w W ∧ w.heap.size < W.heap.size := by
  refine ⟨_, rfl, CB.new w c1 T1, (Below.refl _ w).alloc (Nat.le_refl _) _, by simp⟩
theorem two_cb (w : World) (c1 c2 : Array Value) (T1 T2 : TypeId) : ∃ W, (w.alloc (.cells c1 T1)).alloc (.cells c2 T2) = W ∧ CB W w.heap.size T1 c1 ∧ CB W (w.heap.size + 1) T2 c2 ∧ Below w.heap.size w W ∧ w.heap.size + 1 < W.heap.size := by
  obtain ⟨W, hW, hA, hb, hlt⟩ := one_cb w c1 T1
  rw [hW]
  have hs : W.heap.size = w.heap.size + 1 := by rw [← hW]; simp
  refine ⟨_, rfl, hA.alloc _, ?_, hb.alloc (by omega) _, by simp; omega⟩
  have h := CB.new W c2 T2
  rw [hs] at h
  exact h
theorem three_cb (w : World) (c1 c2 c3 : Array Value) (T1 T2 T3 : TypeId) : ∃ W, ((w.alloc (.cells c1 T1)).alloc (.cells c2 T2)).alloc (.cells c3 T3) = W ∧ CB W w.heap.size T1 c1 ∧ CB W (w.heap.size + 1) T2 c2 ∧ CB W (w.heap.size + 1 + 1) T3 c3 ∧ Below w.heap.size w W ∧ w.heap.size + 1 + 1 < W.heap.size := by
  obtain ⟨W, hW, hA, hA2, hb, hlt⟩ := two_cb w c1 c2 T1 T2
  rw [hW]
  have hs : W.heap.size = w.heap.size + 1 + 1 := by rw [← hW]; simp
  refine ⟨_, rfl, hA.alloc _, hA2.alloc _, ?_, hb.alloc (by omega) _, by simp; omega⟩
  have h := CB.new W c3 T3
  rw [hs] at h
  exact h
end Go.Proofs.Ytinnaajkdkfnaaa

