/- Lanes that take a text, and the first of a round's steps, by impl, over the loaded program. -/
import Derived.Test.YtkidgllmhdfgaanDoorSpg1
import Derived.Test.YtkidgllmhdfgaanDoorKecS
namespace Go.Proofs.YtkidgllmhdfgaanDoor
open Go.RowKit
theorem idxY (g y o : Nat) (h : (y : Int) < 5) (ho : o = 5 * y) (W : World) : (Instr.indexAt 34 (.pointer (some ⟨g, 0, none⟩)) (.int .i64 (y : Int))).run Tryd.prog W = .ok (.pointer (some ⟨g, o, none⟩)) W := by
  have hl : Tryd.prog.arrayLen 34 = 5 := by kernel_rfl
  have hu : Tryd.prog.underlying 34 = some (.array (Tryd.prog.arrayLen 34) (Tryd.prog.elem 34)) := by kernel_rfl
  have he : Tryd.prog.elem 34 = 32 := by kernel_rfl
  have h1 : (0 : Int) ≤ (y : Int) ∧ (y : Int) < ((Tryd.prog.arrayLen 34 : Nat) : Int) := by rw [hl]; exact ⟨by omega, by omega⟩
  rw [run_indexAt_array (P := Tryd.prog) (w := W) 34 ⟨g, 0, none⟩ .i64 (y : Int) hu, if_pos h1, he]
  simp [go_sem, addr_add, ho]
theorem idxX (g o x p : Nat) (h : (x : Int) < 5) (hp : p = o + x) (W : World) : (Instr.indexAt 32 (.pointer (some ⟨g, o, none⟩)) (.int .i64 (x : Int))).run Tryd.prog W = .ok (.pointer (some ⟨g, p, none⟩)) W := by
  have hl : Tryd.prog.arrayLen 32 = 5 := by kernel_rfl
  have hu : Tryd.prog.underlying 32 = some (.array (Tryd.prog.arrayLen 32) (Tryd.prog.elem 32)) := by kernel_rfl
  have he : Tryd.prog.elem 32 = 31 := by kernel_rfl
  have h1 : (0 : Int) ≤ (x : Int) ∧ (x : Int) < ((Tryd.prog.arrayLen 32 : Nat) : Int) := by rw [hl]; exact ⟨by omega, by omega⟩
  rw [run_indexAt_array (P := Tryd.prog) (w := W) 32 ⟨g, o, none⟩ .i64 (x : Int) hu, if_pos h1, he]
  simp [go_sem, addr_add, hp]
/- a text of whole lanes, taken by exclusive or -/
def mixP (a : List Nat) (s : ByteArray) (n : Nat) : List Nat := (List.range 25).map fun i => if i < n then ln a i ^^^ lAt s (8 * i) else ln a i
theorem mixP_len (a : List Nat) (s : ByteArray) (n : Nat) : (mixP a s n).length = 25 := by simp [mixP]
theorem mixP_zero {a : List Nat} (h : a.length = 25) (s : ByteArray) : mixP a s 0 = a := by
  apply lanes_ext (mixP_len a s 0) h
  intro i hi
  unfold mixP
  rw [ln_range _ _ hi, if_neg (by omega)]
theorem mixP_at (a : List Nat) (s : ByteArray) (k : Nat) (hk : k < 25) : ln (mixP a s k) k = ln a k := by
  unfold mixP
  rw [ln_range _ _ hk, if_neg (by omega)]
theorem mixP_set (a : List Nat) (s : ByteArray) (k : Nat) (hk : k < 25) : (mixP a s k).set k (ln a k ^^^ lAt s (8 * k)) = mixP a s (k + 1) := by
  apply lanes_ext (by simp [mixP]) (mixP_len _ _ _)
  intro i hi
  rw [ln_set (by rw [mixP_len]; omega)]
  unfold mixP
  rw [ln_range _ _ hi, ln_range _ _ hi]
  by_cases h : i = k
  · rw [if_pos h, if_pos (by omega), h]
  · rw [if_neg h]
    by_cases h2 : i < k
    · rw [if_pos h2, if_pos (by omega)]
    · rw [if_neg h2, if_neg (by omega)]
theorem mixP_ok {a : List Nat} (h : LanesOk a) (s : ByteArray) (n : Nat) : LanesOk (mixP a s n) := by
  refine ⟨mixP_len _ _ _, ?_⟩
  intro x hx
  unfold mixP at hx
  obtain ⟨i, _, rfl⟩ := List.mem_map.mp hx
  split
  · exact lt64_xor (h.ln _) (lAt_lt _ _)
  · exact h.ln _
theorem grown_drew {a w : World} {g : Nat} (h : a.grownBy w (some g)) (n : Nat) : a.grownBy (w.drewN n) (some g) := ⟨h.os, h.tape, h.output, h.size, h.block⟩
theorem grown_cell {a w : World} {g k : Nat} (h : a.grownBy w (some g)) (v : Value) : a.grownBy (w.setCell ⟨g, k, none⟩ v) (some g) := by
  refine ⟨h.os, h.tape, h.output, ?_, ?_⟩
  · have := h.size; simpa [World.setCell] using this
  · intro q hq hne
    rw [← h.block q hq hne]
    have hq' : q ≠ g := fun e => hne (by rw [e])
    unfold World.setCell
    simp only [Array.getElem?_modify]
    rw [if_neg (Ne.symm hq')]
theorem cell_at {w : World} {g p t : Nat} {u v : Value} (h : w.cell? ⟨g, p, none⟩ = some u) (hp : p ≠ t) : (w.setCell ⟨g, t, none⟩ v).cell? ⟨g, p, none⟩ = some u := by
  rw [World.cell?_setCell_other _ _ _ _ (by intro hh; apply hp; exact (by simpa using congrArg Addr.off hh : t = p).symm)]
  exact h
theorem cell_off {w : World} {g g' p t : Nat} {u v : Value} (h : w.cell? ⟨g, p, none⟩ = some u) (hp : g ≠ g') : (w.setCell ⟨g', t, none⟩ v).cell? ⟨g, p, none⟩ = some u := by
  rw [World.cell?_setCell_other _ _ _ _ (by intro hh; apply hp; exact (congrArg Addr.block hh).symm)]
  exact h
set_option maxRecDepth 20000 in
set_option maxHeartbeats 1000000 in
theorem mix_any (a : List Nat) (ha : LanesOk a) (s : ByteArray) (hs : s.size ≤ 200) (g : Nat) (w : World) (hA : LnAt w g 34 a) :
    Calls Tryd.prog 30 #[.pointer (some ⟨g, 0, none⟩), .string s] w fun e w' => e = .returned (.tuple #[]) ∧ LnAt w' g 34 (mixP a s (s.size / 8)) ∧ w.grownBy w' (some g) := by
  have HA := hide hA
  clear hA
  obtain ⟨m, hm⟩ : ∃ m, m = s.size / 8 := ⟨_, rfl⟩
  have hm1 : (s.size : Int) / 8 = (m : Int) := by omega
  have hm2 : 8 * m ≤ s.size := by omega
  rw [← hm]
  replace hm := hide hm
  go_enter Tryd.func30, Tryd.ntmps30
  go_wp2
  go_loopw [8] (fun ti wr => ∃ k : Nat, k ≤ m ∧ ti = .int .i64 (k : Int) ∧ Hid (LnAt wr g 34 (mixP a s k)) ∧ Hid (w.grownBy wr (some g))) (fun ti _ => m - (intOf ti).toNat)
  case atStart => exact ⟨0, by omega, rfl, hide (by rw [mixP_zero ha.1]; exact unhide HA), hide (World.grownBy.refl w _)⟩
  case round =>
    clear HA
    obtain ⟨k, hk, rfl, HA, HG⟩ := hrel
    by_cases hlt : k < m
    · obtain ⟨y, hy⟩ : ∃ y, y = k / 5 := ⟨_, rfl⟩
      obtain ⟨x, hx⟩ : ∃ x, x = k % 5 := ⟨_, rfl⟩
      obtain ⟨o, ho⟩ : ∃ o, o = 5 * y := ⟨_, rfl⟩
      have ey : (k : Int) / 5 = (y : Int) := by omega
      have ex : (k : Int) % 5 = (x : Int) := by omega
      have ty : (k : Int).tdiv 5 = (y : Int) := by rw [Int.tdiv_eq_ediv_of_nonneg (by omega)]; exact ey
      have tx : (k : Int).tmod 5 = (x : Int) := by rw [Int.tmod_eq_emod_of_nonneg (by omega)]; exact ex
      have ly : (y : Int) < 5 := by omega
      have wy : IntKind.i64.wrap (y : Int) = (y : Int) := by rw [IntKind.wrap_i64]; omega
      have wx : IntKind.i64.wrap (x : Int) = (x : Int) := by rw [IntKind.wrap_i64]; omega
      have lx : (x : Int) < 5 := by omega
      have I1 := idxY g y o ly ho
      have I2 := idxX g o x k lx (by omega)
      have hlt' : (k : Int) < (m : Int) := by omega
      have hA := unhide HA
      have c0 := hA.cell k (by rw [mixP_len]; omega)
      rw [mixP_at a s k (by omega)] at c0
      have f0 := hA.frozen k
      have m8 : IntKind.i64.wrap (8 * (k : Int)) = ((8 * k : Nat) : Int) := by rw [IntKind.wrap_i64]; omega
      have lp := ha.ln k
      have lq := lAt_lt s (8 * k)
      have HS := hide (mixP_set a s k (by omega))
      have hok := hide (show 8 * k + 8 ≤ s.size by omega)
      obtain ⟨p, hp⟩ : ∃ p, p = ln a k := ⟨_, rfl⟩
      obtain ⟨q, hq⟩ : ∃ q, q = lAt s (8 * k) := ⟨_, rfl⟩
      rw [← hp] at c0 lp HS
      rw [← hq] at lq HS
      have hxor : bits .xor .u64 (p : Int) (q : Int) = ((p ^^^ q : Nat) : Int) := u64_xor_nat p q lp lq
      have HA3 : Hid (∀ n, LnAt ((wr.drewN n).setCell ⟨g, k, none⟩ (.int .u64 ((p ^^^ q : Nat) : Int))) g 34 (mixP a s (k + 1))) := hide (fun n => by
        have := (hA.drewN n).set k (p ^^^ q)
        rwa [unhide HS] at this)
      obtain ⟨z, hz⟩ : ∃ z, z = p ^^^ q := ⟨_, rfl⟩
      rw [← hz] at hxor HA3
      replace hy := hide hy
      replace hx := hide hx
      replace ho := hide ho
      replace hp := hide hp
      replace hq := hide hq
      replace hz := hide hz
      replace lp := hide lp
      replace lq := hide lq
      clear hA HA HS
      go_wp2
      go_region_with (first | (go_at_call 39; refine (implLane_any s (8 * k) (unhide hok) (by omega) _).mono ?_; rintro e w1 ⟨rfl, n1, rfl⟩; rw [← unhide hq]))
      all_goals go_wp2
      all_goals go_roundw
      all_goals first | exact ⟨k + 1, by omega, by go_num, hide ((unhide HA3) _), hide (grown_cell (grown_drew (unhide HG) _) _)⟩ | (simp [intOf]; omega)
    · have hkk : k = m := by omega
      have hlt' : ¬ (k : Int) < (m : Int) := by omega
      subst hkk
      go_wp2
      go_end0
      exact ⟨rfl, unhide HA, unhide HG⟩
end Go.Proofs.YtkidgllmhdfgaanDoor
