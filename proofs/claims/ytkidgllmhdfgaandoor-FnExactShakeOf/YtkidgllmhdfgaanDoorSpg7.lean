/- The bytes of lanes, and lanes out of bytes, by impl, over the loaded program. -/
import Derived.Test.YtkidgllmhdfgaanDoorSpg6
namespace Go.Proofs.YtkidgllmhdfgaanDoor
open Go.RowKit
theorem OwnB.below {w w' : World} {base : Nat} {e : TypeId} {v : Value} {l : List UInt8} (h : OwnB w base e v l) (hb : Below w.heap.size w w') : OwnB w' base e v l :=
  World.ownsRow.kept (row := none) h ⟨hb.os, hb.tape, hb.output, hb.size, fun k hk _ => hb.block k hk⟩ (by cases hv : v.ownBlock <;> simp)
def zeros25 : List Nat := List.replicate 25 0
def zeros5 : List Nat := List.replicate 5 0
theorem zeros25_ok : LanesOk zeros25 := ⟨rfl, by decide⟩
theorem one_lan (w : World) (T : TypeId) (l : List Nat) : LnAt (w.alloc (.cells (l.map u64v).toArray T)) w.heap.size T l ∧ Below w.heap.size w (w.alloc (.cells (l.map u64v).toArray T)) :=
  ⟨LnAt.new w T l, (Below.refl w.heap.size w).alloc (Nat.le_refl _) _⟩
theorem two_lan (w : World) (T : TypeId) (l : List Nat) : LnAt ((w.alloc (.cells (l.map u64v).toArray T)).alloc (.cells (l.map u64v).toArray T)) (w.heap.size + 1) T l ∧ LnAt ((w.alloc (.cells (l.map u64v).toArray T)).alloc (.cells (l.map u64v).toArray T)) w.heap.size T l ∧ Below w.heap.size w ((w.alloc (.cells (l.map u64v).toArray T)).alloc (.cells (l.map u64v).toArray T)) := by
  refine ⟨?_, (LnAt.new w T l).alloc _, ?_⟩
  · have := LnAt.new (w.alloc (.cells (l.map u64v).toArray T)) T l
    simpa using this
  · exact ((Below.refl w.heap.size w).alloc (Nat.le_refl _) _).alloc (by simp) _
theorem one_z25 (w : World) (T : TypeId) : LnAt (w.alloc (.cells #[.int .u64 0, .int .u64 0, .int .u64 0, .int .u64 0, .int .u64 0, .int .u64 0, .int .u64 0, .int .u64 0, .int .u64 0, .int .u64 0, .int .u64 0, .int .u64 0, .int .u64 0, .int .u64 0, .int .u64 0, .int .u64 0, .int .u64 0, .int .u64 0, .int .u64 0, .int .u64 0, .int .u64 0, .int .u64 0, .int .u64 0, .int .u64 0, .int .u64 0] T)) w.heap.size T zeros25 ∧ Below w.heap.size w (w.alloc (.cells #[.int .u64 0, .int .u64 0, .int .u64 0, .int .u64 0, .int .u64 0, .int .u64 0, .int .u64 0, .int .u64 0, .int .u64 0, .int .u64 0, .int .u64 0, .int .u64 0, .int .u64 0, .int .u64 0, .int .u64 0, .int .u64 0, .int .u64 0, .int .u64 0, .int .u64 0, .int .u64 0, .int .u64 0, .int .u64 0, .int .u64 0, .int .u64 0, .int .u64 0] T)) := one_lan w T zeros25
theorem two_z25 (w : World) (T : TypeId) : LnAt ((w.alloc (.cells #[.int .u64 0, .int .u64 0, .int .u64 0, .int .u64 0, .int .u64 0, .int .u64 0, .int .u64 0, .int .u64 0, .int .u64 0, .int .u64 0, .int .u64 0, .int .u64 0, .int .u64 0, .int .u64 0, .int .u64 0, .int .u64 0, .int .u64 0, .int .u64 0, .int .u64 0, .int .u64 0, .int .u64 0, .int .u64 0, .int .u64 0, .int .u64 0, .int .u64 0] T)).alloc (.cells #[.int .u64 0, .int .u64 0, .int .u64 0, .int .u64 0, .int .u64 0, .int .u64 0, .int .u64 0, .int .u64 0, .int .u64 0, .int .u64 0, .int .u64 0, .int .u64 0, .int .u64 0, .int .u64 0, .int .u64 0, .int .u64 0, .int .u64 0, .int .u64 0, .int .u64 0, .int .u64 0, .int .u64 0, .int .u64 0, .int .u64 0, .int .u64 0, .int .u64 0] T)) (w.heap.size + 1) T zeros25 ∧ LnAt ((w.alloc (.cells #[.int .u64 0, .int .u64 0, .int .u64 0, .int .u64 0, .int .u64 0, .int .u64 0, .int .u64 0, .int .u64 0, .int .u64 0, .int .u64 0, .int .u64 0, .int .u64 0, .int .u64 0, .int .u64 0, .int .u64 0, .int .u64 0, .int .u64 0, .int .u64 0, .int .u64 0, .int .u64 0, .int .u64 0, .int .u64 0, .int .u64 0, .int .u64 0, .int .u64 0] T)).alloc (.cells #[.int .u64 0, .int .u64 0, .int .u64 0, .int .u64 0, .int .u64 0, .int .u64 0, .int .u64 0, .int .u64 0, .int .u64 0, .int .u64 0, .int .u64 0, .int .u64 0, .int .u64 0, .int .u64 0, .int .u64 0, .int .u64 0, .int .u64 0, .int .u64 0, .int .u64 0, .int .u64 0, .int .u64 0, .int .u64 0, .int .u64 0, .int .u64 0, .int .u64 0] T)) w.heap.size T zeros25 ∧ Below w.heap.size w ((w.alloc (.cells #[.int .u64 0, .int .u64 0, .int .u64 0, .int .u64 0, .int .u64 0, .int .u64 0, .int .u64 0, .int .u64 0, .int .u64 0, .int .u64 0, .int .u64 0, .int .u64 0, .int .u64 0, .int .u64 0, .int .u64 0, .int .u64 0, .int .u64 0, .int .u64 0, .int .u64 0, .int .u64 0, .int .u64 0, .int .u64 0, .int .u64 0, .int .u64 0, .int .u64 0] T)).alloc (.cells #[.int .u64 0, .int .u64 0, .int .u64 0, .int .u64 0, .int .u64 0, .int .u64 0, .int .u64 0, .int .u64 0, .int .u64 0, .int .u64 0, .int .u64 0, .int .u64 0, .int .u64 0, .int .u64 0, .int .u64 0, .int .u64 0, .int .u64 0, .int .u64 0, .int .u64 0, .int .u64 0, .int .u64 0, .int .u64 0, .int .u64 0, .int .u64 0, .int .u64 0] T)) := two_lan w T zeros25
theorem one_zz5 (w : World) (T : TypeId) : LnAt (w.alloc (.cells #[.int .u64 0, .int .u64 0, .int .u64 0, .int .u64 0, .int .u64 0] T)) w.heap.size T zeros5 ∧ Below w.heap.size w (w.alloc (.cells #[.int .u64 0, .int .u64 0, .int .u64 0, .int .u64 0, .int .u64 0] T)) := one_lan w T zeros5
theorem info25 {l : List Nat} (h : l.length = 25) : (Tryd.prog.info? 34).map (·.size) = some l.length := by rw [h]; kernel_rfl
theorem info5 {l : List Nat} (h : l.length = 5) : (Tryd.prog.info? 32).map (·.size) = some l.length := by rw [h]; kernel_rfl
/- the bytes of lanes -/
def bytesN (l : List Nat) : List UInt8 := l.flatMap fun x => laneB x 8
theorem bytesN_len (l : List Nat) : (bytesN l).length = 8 * l.length := by
  induction l with
  | nil => rfl
  | cons x l ih => simp only [bytesN, List.flatMap_cons, List.length_append, laneB_len, List.length_cons] at ih ⊢; omega
theorem bytesN_take (l : List Nat) (k : Nat) (h : k < l.length) : bytesN (l.take (k + 1)) = bytesN (l.take k) ++ laneB (ln l k) 8 := by
  rw [List.take_succ_eq_append_getElem h]
  unfold bytesN ln
  rw [List.flatMap_append, List.getD_eq_getElem?_getD, List.getElem?_eq_getElem h]
  simp
def textN (l : List Nat) : ByteArray := ⟨(bytesN l).toArray⟩
theorem textN_size {l : List Nat} (h : l.length = 25) : (textN l).size = 200 := by
  show (bytesN l).toArray.size = 200
  simp [bytesN_len, h]
theorem idx5v (l : List Nat) (hl : l.length = 5) (k : Nat) (h : (k : Int) < 5) (W : World) : (Instr.index 32 (aggL l) (.int .i64 (k : Int))).run Tryd.prog W = .ok (.int .u64 (ln l k : Int)) W := by
  have hk : k < l.length := by omega
  have hk8 : k < 5 := by omega
  unfold Instr.index aggL
  simp [asIntOf, run_underlying Tryd.underlying32, go_sem, part, isAgg, run_underlying Tryd.underlying31, hk, hk8, ln, u64v]
theorem ln_row (a : List Nat) (o j : Nat) (h : j < 5) : ln ((a.drop o).take 5) j = ln a (o + j) := by
  unfold ln
  rw [List.getD_eq_getElem?_getD, List.getD_eq_getElem?_getD, List.getElem?_take_of_lt h, List.getElem?_drop]
set_option maxRecDepth 20000 in
set_option maxHeartbeats 1000000 in
theorem lanesBytes_any (a : List Nat) (ha : LanesOk a) (g : Nat) (w : World) (hA : LnAt w g 34 a) :
    Calls Tryd.prog 18 #[.pointer (some ⟨g, 0, none⟩)] w fun e w' => e = .returned (.string (textN a)) ∧ Below w.heap.size w w' := by
  obtain ⟨i0, hi, hz0, hz1, hz2⟩ := info_parts Tryd.infoByte
  have HA := hide hA
  have hgl := hA.lt
  clear hA
  go_enter Tryd.func18, Tryd.ntmps18
  go_wp2_with (at_make; refine wpList_make_own _ rfl _ _ 48 rfl w.heap.size 5 i0 (.int .u8 0) 1 Tryd.underlying48 hi hz0 hz1 _ _ _ 200 rfl rfl (by omega) (by rw [hz2]; omega) (by unfold maxLen; omega) (Nat.le_refl _) ?_; intro w1 hown1 hgrow1)
  have hb0 : Below w.heap.size w w1 := (Below.refl w.heap.size w).grown hgrow1 (Nat.le_refl _) (fun k hk => by cases hk)
  clear hgrow1
  go_loopw [3, 11] (fun tv ti wr => ∃ k : Nat, k ≤ 5 ∧ ti = .int .i64 (k : Int) ∧ Hid (OwnB wr w.heap.size 5 tv (bytesN (a.take (5 * k)))) ∧ Below w.heap.size w wr) (fun _ ti _ => 5 - (intOf ti).toNat)
  case atStart => exact ⟨0, by omega, rfl, hide hown1, hb0⟩
  case round =>
    clear hown1 hb0
    obtain ⟨k, hk, rfl, HO, hb⟩ := hrel
    by_cases hlt : k < 5
    · have lk : (k : Int) < 5 := by omega
      obtain ⟨o, ho⟩ : ∃ o, o = 5 * k := ⟨_, rfl⟩
      have I1 := idxY g k o lk ho
      have HA1 := hide ((unhide HA).below hb hgl)
      have hol : Hid (o + 5 ≤ a.length) := hide (by rw [ha.1]; omega)
      have hrl : ((a.drop o).take 5).length = 5 := by rw [List.length_take, List.length_drop, ha.1]; omega
      have Hrow : Hid (∀ j, j < 5 → ln ((a.drop o).take 5) j = ln a (o + j)) := hide (fun j hj => ln_row a o j hj)
      have hi5 := hide (info5 hrl)
      have h5v := hide (fun j hj W => idx5v ((a.drop o).take 5) hrl j hj W)
      have hsz := hb.size
      have hZ := hide (one_zz5 wr 32)
      have hrl5 := hide (show zeros5.length = ((a.drop o).take 5).length by rw [hrl]; rfl)
      have hi5' : Hid ((Tryd.prog.info? 32).map (·.size) = some 5) := hide (by kernel_rfl)
      rw [← ho] at HO
      replace ho := hide ho
      go_wp2_with (first
        | (refine wpList_load_part rfl 32 (.tmp 14) rfl g o 5 rfl 34 a (unhide HA1) (unhide hol) _ _ Tryd.underlying32 (unhide hi5') ?_; generalize (a.drop o).take 5 = row at *)
        | (refine wpList_store_lan_as rfl 32 (.tmp 5) (.tmp 15) rfl wr.heap.size row zeros5 rfl rfl 32 (unhide hZ).1 (unhide hi5) (unhide hrl5) ?_; intro w2 hA2 _ hB2; have hb2 := (unhide hZ).2.trans hB2; have HO2 := hide ((unhide HO).below hb2); replace hA2 := hide hA2; have hbb := hb.trans (hb2.mono hsz); clear HO hZ hB2)
        | (refine wpList_load_lan rfl 32 (.tmp 5) rfl wr.heap.size rfl 32 row (unhide hA2) _ _ Tryd.underlying32 (unhide hi5) ?_))
      go_loopw [3, 17] (fun tv ti wq => ∃ j : Nat, j ≤ 5 ∧ ti = .int .i64 (j : Int) ∧ Hid (OwnB wq w.heap.size 5 tv (bytesN (a.take (o + j)))) ∧ Below w.heap.size w wq) (fun _ ti _ => 5 - (intOf ti).toNat)
      case atStart => exact ⟨0, by omega, rfl, HO2, hbb⟩
      case round =>
        clear HO2 hbb hb hb2
        obtain ⟨j, hj, rfl, HO, hb⟩ := hrel
        by_cases hlj : j < 5
        · have lj : (j : Int) < 5 := by omega
          have Iv := (unhide h5v) j lj
          rw [(unhide Hrow) j hlj] at Iv
          have hx := ha.ln (o + j)
          have HB := hide (bytesN_take a (o + j) (by have := unhide hol; omega))
          have hln : (bytesN (a.take (o + j))).length ≤ 10000 := by rw [bytesN_len]; simp; have := ha.1; omega
          have hsz2 := hb.size
          generalize ln a (o + j) = x at *
          have C := hide (fun W (u : Value) (hW : OwnB W w.heap.size 5 u (bytesN (a.take (o + j)))) => withLane_any x hx u _ w.heap.size W hW hln)
          clear hln
          go_wp2_with (go_at_call 34; refine ((unhide C) _ _ (unhide HO) hsz2).mono ?_; rintro e w3 ⟨⟨v', rfl, hown3⟩, hb3⟩)
          rw [← unhide HB] at hown3
          go_roundw
          all_goals first | exact ⟨j + 1, by omega, by go_num, hide hown3, hb.trans hb3⟩ | (simp [intOf]; omega)
        · have hj5 : j = 5 := by omega
          have nj : ¬ (j : Int) < 5 := by omega
          have HO5 := hide (show OwnB wr w.heap.size 5 u3 (bytesN (a.take (5 * (k + 1)))) by rw [show 5 * (k + 1) = o + j by have := unhide ho; omega]; exact unhide HO)
          replace hj5 := hide hj5
          clear HO
          go_wp2
          go_roundw
          all_goals first | exact ⟨k + 1, by omega, by go_num, HO5, hb⟩ | (simp [intOf]; omega)
    · have hk5 : k = 5 := by omega
      have nk : ¬ (k : Int) < 5 := by omega
      have hown2 : OwnB wr w.heap.size 5 u3 (bytesN a) := by
        have := unhide HO
        rw [hk5, List.take_of_length_le (by rw [ha.1]; decide)] at this
        exact this
      replace hk5 := hide hk5
      have hc := run_string_owned (P := Tryd.prog) wr 48 9 5 w.heap.size u3 (bytesN a) Tryd.underlying48 Tryd.underlying5 Tryd.underlying9 hown2
      go_wp2
      go_ret
      exact ⟨rfl, hb⟩
def lanesS (s : ByteArray) : List Nat := mixP zeros25 s (s.size / 8)
theorem lanesS_ok (s : ByteArray) : LanesOk (lanesS s) := mixP_ok zeros25_ok s _
set_option maxRecDepth 20000 in
set_option maxHeartbeats 400000 in
theorem lanesIn_any (s : ByteArray) (hs : s.size ≤ 200) (w : World) :
    Calls Tryd.prog 16 #[.string s] w fun e w' => e = .returned (aggL (lanesS s)) ∧ Below w.heap.size w w' := by
  have H2 := hide (two_z25 w 34)
  have C := hide (fun g W hW => mix_any zeros25 zeros25_ok s hs g W hW)
  have hi := hide (info25 (lanesS_ok s).1)
  have hzl := hide (show zeros25.length = (lanesS s).length by rw [(lanesS_ok s).1]; rfl)
  have HS : Hid (mixP zeros25 s (s.size / 8) = lanesS s) := hide rfl
  rw [unhide HS] at C
  generalize lanesS s = l at *
  go_enter Tryd.func16, Tryd.ntmps16
  go_wp2_with fail
  refine ((unhide C) (w.heap.size + 1) _ (unhide H2).1).mono ?_
  rintro e w1 ⟨rfl, hA1, hg1⟩
  have hR1 : LnAt w1 w.heap.size 34 zeros25 := by
    have h := (unhide H2).2.1
    unfold LnAt at h ⊢
    rw [hg1.block w.heap.size (by simp; omega) (by simp)]
    exact h
  have hb1 : Below w.heap.size w w1 := (unhide H2).2.2.grown hg1 (by simp; omega) (fun k hk => by simp only [Option.some.injEq] at hk; omega)
  replace hA1 := hide hA1
  replace hR1 := hide hR1
  clear H2 hg1
  go_wp2_with (first | (refine wpList_load_lan rfl 34 _ rfl (w.heap.size + 1) rfl 34 l (unhide hA1) _ _ Tryd.underlying34 (unhide hi) ?_) | (refine wpList_store_lan rfl 34 _ _ rfl w.heap.size l zeros25 rfl rfl 34 (unhide hR1) (unhide hi) (unhide hzl) ?_))
  refine bodyPost_ret (v := aggL l) (results_lan Tryd.results16 _ _ w.heap.size 34 _ _ _ rfl ((unhide hR1).setRow _) Tryd.underlying34 (unhide hi)) rfl ⟨rfl, Go.below_setRow hb1 (Nat.le_refl _) _⟩
end Go.Proofs.YtkidgllmhdfgaanDoor
