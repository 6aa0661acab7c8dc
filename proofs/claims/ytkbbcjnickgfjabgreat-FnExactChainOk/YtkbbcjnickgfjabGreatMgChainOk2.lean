/- Merged: ShaW, ShaN, ShaT, ShaB, Hsh, ShaH, ShaS, ShaA. -/
import Derived.Test.YtkbbcjnickgfjabGreatMgChainOk1
import Derived.Laws.CopyOwn
import Derived.Deep.QuietTactic
import Derived.Test.YtkbbcjnickgfjabGreatProg
import Derived.Test.YtkbbcjnickgfjabGreatChecked
import Derived.Laws.Rows
/- The block's words by impl, over the loaded program. -/
namespace Go.Proofs.YtkbbcjnickgfjabGreat
open Go.RowKit
def zeros64 : List Nat := List.replicate 64 0
theorem fill_len {l : List Nat} {k : Nat} (h : l.length = k) (hk : k ≤ 64) : (l ++ List.replicate (64 - k) 0).length = 64 := by simp [h]; omega
theorem fill_set {l : List Nat} {k : Nat} (h : l.length = k) (hk : k < 64) (v : Nat) : (l ++ List.replicate (64 - k) 0).set k v = (l ++ [v]) ++ List.replicate (64 - (k + 1)) 0 := by
  rw [List.set_append_right _ _ (by omega), show 64 - k = (64 - (k + 1)) + 1 by omega, List.replicate_succ, h, Nat.sub_self]
  simp
theorem fill_at {l : List Nat} {k i : Nat} (h : l.length = k) (hi : i < k) : at_ (l ++ List.replicate (64 - k) 0) i = at_ l i := by
  unfold at_
  rw [List.getD_eq_getElem?_getD, List.getD_eq_getElem?_getD, List.getElem?_append_left (by omega)]
theorem sched_lt_all (s : ByteArray) (m : Nat) : ∀ x ∈ schedN (wordsN s 16) m, x < 4294967296 := by
  induction m with
  | zero =>
    intro x hx
    simp only [schedN, wordsN, List.mem_map] at hx
    obtain ⟨i, _, rfl⟩ := hx
    exact wAt_lt _ _
  | succ m ih =>
    intro x hx
    simp only [schedN, List.mem_append, List.mem_singleton] at hx
    rcases hx with hx | rfl
    · exact ih x hx
    · exact Nat.mod_lt _ (by decide)
theorem at_lt {l : List Nat} (h : ∀ x ∈ l, x < 4294967296) (p : Nat) : at_ l p < 4294967296 := by
  unfold at_
  rw [List.getD_eq_getElem?_getD]
  by_cases hp : p < l.length
  · rw [List.getElem?_eq_getElem hp]; exact h _ (List.getElem_mem hp)
  · rw [List.getElem?_eq_none (by omega)]; decide
theorem sched_lt (s : ByteArray) (m p : Nat) : at_ (schedN (wordsN s 16) m) p < 4294967296 := at_lt (sched_lt_all s m) p
theorem len64 : Tryz.prog.arrayLen 112 = 64 := by kernel_rfl
theorem idx64 (g k : Nat) (h : (k : Int) < 64) (W : World) : (Instr.indexAt 112 (.pointer (some ⟨g, 0, none⟩)) (.int .i64 (k : Int))).run Tryz.prog W = .ok (.pointer (some ⟨g, k, none⟩)) W := by
  have hu : Tryz.prog.underlying 112 = some (.array (Tryz.prog.arrayLen 112) (Tryz.prog.elem 112)) := by kernel_rfl
  have he : Tryz.prog.elem 112 = 76 := by kernel_rfl
  have h1 : (0 : Int) ≤ (k : Int) ∧ (k : Int) < ((Tryz.prog.arrayLen 112 : Nat) : Int) := by rw [len64]; exact ⟨by omega, by omega⟩
  rw [run_indexAt_array (P := Tryz.prog) (w := W) 112 ⟨g, 0, none⟩ .i64 (k : Int) hu, if_pos h1, he]
  simp [go_sem, Addr.add]
  intro h; exact h.symm
theorem cell_by {w : World} {g p t : Nat} {u v : Value} (h : w.cell? ⟨g, p, none⟩ = some u) (hp : p ≠ t) : (w.setCell ⟨g, t, none⟩ v).cell? ⟨g, p, none⟩ = some u := by
  rw [World.cell?_setCell_other _ _ _ _ (by intro hh; apply hp; exact (by simpa using congrArg Addr.off hh : t = p).symm)]
  exact h
theorem two_arrs (w : World) (T : TypeId) (l : List Nat) : ArrAt ((w.alloc (.cells (l.map u32v).toArray T)).alloc (.cells (l.map u32v).toArray T)) (w.heap.size + 1) T l ∧ ArrAt ((w.alloc (.cells (l.map u32v).toArray T)).alloc (.cells (l.map u32v).toArray T)) w.heap.size T l ∧ Below w.heap.size w ((w.alloc (.cells (l.map u32v).toArray T)).alloc (.cells (l.map u32v).toArray T)) := by
  refine ⟨?_, (ArrAt.new w T l).alloc _, ?_⟩
  · have := ArrAt.new (w.alloc (.cells (l.map u32v).toArray T)) T l
    simpa using this
  · exact ((Below.refl w.heap.size w).alloc (Nat.le_refl _) _).alloc (by simp) _
theorem two_z64 (w : World) (T : TypeId) : ArrAt ((w.alloc (.cells #[.int .u32 0, .int .u32 0, .int .u32 0, .int .u32 0, .int .u32 0, .int .u32 0, .int .u32 0, .int .u32 0, .int .u32 0, .int .u32 0, .int .u32 0, .int .u32 0, .int .u32 0, .int .u32 0, .int .u32 0, .int .u32 0, .int .u32 0, .int .u32 0, .int .u32 0, .int .u32 0, .int .u32 0, .int .u32 0, .int .u32 0, .int .u32 0, .int .u32 0, .int .u32 0, .int .u32 0, .int .u32 0, .int .u32 0, .int .u32 0, .int .u32 0, .int .u32 0, .int .u32 0, .int .u32 0, .int .u32 0, .int .u32 0, .int .u32 0, .int .u32 0, .int .u32 0, .int .u32 0, .int .u32 0, .int .u32 0, .int .u32 0, .int .u32 0, .int .u32 0, .int .u32 0, .int .u32 0, .int .u32 0, .int .u32 0, .int .u32 0, .int .u32 0, .int .u32 0, .int .u32 0, .int .u32 0, .int .u32 0, .int .u32 0, .int .u32 0, .int .u32 0, .int .u32 0, .int .u32 0, .int .u32 0, .int .u32 0, .int .u32 0, .int .u32 0] T)).alloc (.cells #[.int .u32 0, .int .u32 0, .int .u32 0, .int .u32 0, .int .u32 0, .int .u32 0, .int .u32 0, .int .u32 0, .int .u32 0, .int .u32 0, .int .u32 0, .int .u32 0, .int .u32 0, .int .u32 0, .int .u32 0, .int .u32 0, .int .u32 0, .int .u32 0, .int .u32 0, .int .u32 0, .int .u32 0, .int .u32 0, .int .u32 0, .int .u32 0, .int .u32 0, .int .u32 0, .int .u32 0, .int .u32 0, .int .u32 0, .int .u32 0, .int .u32 0, .int .u32 0, .int .u32 0, .int .u32 0, .int .u32 0, .int .u32 0, .int .u32 0, .int .u32 0, .int .u32 0, .int .u32 0, .int .u32 0, .int .u32 0, .int .u32 0, .int .u32 0, .int .u32 0, .int .u32 0, .int .u32 0, .int .u32 0, .int .u32 0, .int .u32 0, .int .u32 0, .int .u32 0, .int .u32 0, .int .u32 0, .int .u32 0, .int .u32 0, .int .u32 0, .int .u32 0, .int .u32 0, .int .u32 0, .int .u32 0, .int .u32 0, .int .u32 0, .int .u32 0] T)) (w.heap.size + 1) T zeros64 ∧ ArrAt ((w.alloc (.cells #[.int .u32 0, .int .u32 0, .int .u32 0, .int .u32 0, .int .u32 0, .int .u32 0, .int .u32 0, .int .u32 0, .int .u32 0, .int .u32 0, .int .u32 0, .int .u32 0, .int .u32 0, .int .u32 0, .int .u32 0, .int .u32 0, .int .u32 0, .int .u32 0, .int .u32 0, .int .u32 0, .int .u32 0, .int .u32 0, .int .u32 0, .int .u32 0, .int .u32 0, .int .u32 0, .int .u32 0, .int .u32 0, .int .u32 0, .int .u32 0, .int .u32 0, .int .u32 0, .int .u32 0, .int .u32 0, .int .u32 0, .int .u32 0, .int .u32 0, .int .u32 0, .int .u32 0, .int .u32 0, .int .u32 0, .int .u32 0, .int .u32 0, .int .u32 0, .int .u32 0, .int .u32 0, .int .u32 0, .int .u32 0, .int .u32 0, .int .u32 0, .int .u32 0, .int .u32 0, .int .u32 0, .int .u32 0, .int .u32 0, .int .u32 0, .int .u32 0, .int .u32 0, .int .u32 0, .int .u32 0, .int .u32 0, .int .u32 0, .int .u32 0, .int .u32 0] T)).alloc (.cells #[.int .u32 0, .int .u32 0, .int .u32 0, .int .u32 0, .int .u32 0, .int .u32 0, .int .u32 0, .int .u32 0, .int .u32 0, .int .u32 0, .int .u32 0, .int .u32 0, .int .u32 0, .int .u32 0, .int .u32 0, .int .u32 0, .int .u32 0, .int .u32 0, .int .u32 0, .int .u32 0, .int .u32 0, .int .u32 0, .int .u32 0, .int .u32 0, .int .u32 0, .int .u32 0, .int .u32 0, .int .u32 0, .int .u32 0, .int .u32 0, .int .u32 0, .int .u32 0, .int .u32 0, .int .u32 0, .int .u32 0, .int .u32 0, .int .u32 0, .int .u32 0, .int .u32 0, .int .u32 0, .int .u32 0, .int .u32 0, .int .u32 0, .int .u32 0, .int .u32 0, .int .u32 0, .int .u32 0, .int .u32 0, .int .u32 0, .int .u32 0, .int .u32 0, .int .u32 0, .int .u32 0, .int .u32 0, .int .u32 0, .int .u32 0, .int .u32 0, .int .u32 0, .int .u32 0, .int .u32 0, .int .u32 0, .int .u32 0, .int .u32 0, .int .u32 0] T)) w.heap.size T zeros64 ∧ Below w.heap.size w ((w.alloc (.cells #[.int .u32 0, .int .u32 0, .int .u32 0, .int .u32 0, .int .u32 0, .int .u32 0, .int .u32 0, .int .u32 0, .int .u32 0, .int .u32 0, .int .u32 0, .int .u32 0, .int .u32 0, .int .u32 0, .int .u32 0, .int .u32 0, .int .u32 0, .int .u32 0, .int .u32 0, .int .u32 0, .int .u32 0, .int .u32 0, .int .u32 0, .int .u32 0, .int .u32 0, .int .u32 0, .int .u32 0, .int .u32 0, .int .u32 0, .int .u32 0, .int .u32 0, .int .u32 0, .int .u32 0, .int .u32 0, .int .u32 0, .int .u32 0, .int .u32 0, .int .u32 0, .int .u32 0, .int .u32 0, .int .u32 0, .int .u32 0, .int .u32 0, .int .u32 0, .int .u32 0, .int .u32 0, .int .u32 0, .int .u32 0, .int .u32 0, .int .u32 0, .int .u32 0, .int .u32 0, .int .u32 0, .int .u32 0, .int .u32 0, .int .u32 0, .int .u32 0, .int .u32 0, .int .u32 0, .int .u32 0, .int .u32 0, .int .u32 0, .int .u32 0, .int .u32 0] T)).alloc (.cells #[.int .u32 0, .int .u32 0, .int .u32 0, .int .u32 0, .int .u32 0, .int .u32 0, .int .u32 0, .int .u32 0, .int .u32 0, .int .u32 0, .int .u32 0, .int .u32 0, .int .u32 0, .int .u32 0, .int .u32 0, .int .u32 0, .int .u32 0, .int .u32 0, .int .u32 0, .int .u32 0, .int .u32 0, .int .u32 0, .int .u32 0, .int .u32 0, .int .u32 0, .int .u32 0, .int .u32 0, .int .u32 0, .int .u32 0, .int .u32 0, .int .u32 0, .int .u32 0, .int .u32 0, .int .u32 0, .int .u32 0, .int .u32 0, .int .u32 0, .int .u32 0, .int .u32 0, .int .u32 0, .int .u32 0, .int .u32 0, .int .u32 0, .int .u32 0, .int .u32 0, .int .u32 0, .int .u32 0, .int .u32 0, .int .u32 0, .int .u32 0, .int .u32 0, .int .u32 0, .int .u32 0, .int .u32 0, .int .u32 0, .int .u32 0, .int .u32 0, .int .u32 0, .int .u32 0, .int .u32 0, .int .u32 0, .int .u32 0, .int .u32 0, .int .u32 0] T)) := two_arrs w T zeros64
theorem Below.drewN {B : Nat} {a w : World} (h : Below B a w) (n : Nat) : Below B a (w.drewN n) := ⟨h.os, h.tape, h.output, h.size, h.block⟩
theorem implTwo_lit (x : Nat) (A B C : Int) (hx : x < 4294967296) (h : (A = 17 ∧ B = 19 ∧ C = 10) ∨ (A = 7 ∧ B = 18 ∧ C = 3)) (w : World) :
    Calls Tryz.prog 99 #[.int .u32 (x : Int), .int .i64 A, .int .i64 B, .int .i64 C] w fun e w' => e = .returned (.int .u32 (sg2 A.toNat B.toNat C.toNat x : Int)) ∧ ∃ n, w' = w.drewN n := by
  rcases h with ⟨rfl, rfl, rfl⟩ | ⟨rfl, rfl, rfl⟩
  · exact implTwo_any x 17 19 10 hx (by decide) (by decide) (by decide) (by decide) (by decide) (by decide) w
  · exact implTwo_any x 7 18 3 hx (by decide) (by decide) (by decide) (by decide) (by decide) (by decide) w
set_option maxHeartbeats 2000000 in
set_option maxRecDepth 20000 in
theorem implWords_any (s : ByteArray) (hs : s.size = 64) (w : World) :
    Calls Tryz.prog 74 #[.string s] w fun e w' => e = .returned (aggV (schedN (wordsN s 16) 48)) ∧ Below w.heap.size w w' := by
  have H2 := hide (two_arrs w 112 zeros64)
  go_enter Tryz.func74, Tryz.ntmps74
  go_wp2
  go_loopw [6] (fun ti wr => ∃ k : Nat, k ≤ 16 ∧ ti = .int .i64 k ∧ Hid (ArrAt wr (w.heap.size + 1) 112 (wordsN s k ++ List.replicate (64 - k) 0)) ∧ Hid (ArrAt wr w.heap.size 112 zeros64) ∧ Below w.heap.size w wr) (fun ti _ => 16 - (intOf ti).toNat)
  case atStart => exact ⟨0, Nat.zero_le _, rfl, hide (unhide H2).1, hide (unhide H2).2.1, (unhide H2).2.2⟩
  case round =>
    obtain ⟨k, hk, rfl, HA, HR, hb⟩ := hrel
    by_cases hlt : k < 16
    · have hsz := hb.size
      have cA := (unhide HA).cell k (by simp [wordsN_len]; omega)
      have fA := (unhide HA).frozen k
      have m4 : IntKind.i64.wrap (4 * (k : Int)) = ((4 * k : Nat) : Int) := by rw [IntKind.wrap_i64]; omega
      have hA2 := (unhide HA).set k (wAt s (4 * k))
      rw [fill_set (wordsN_len s k) (by omega), ← wordsN_succ] at hA2
      have hA3 : ∀ n, ArrAt ((wr.drewN n).setCell ⟨w.heap.size + 1, k, none⟩ (.int .u32 (wAt s (4 * k) : Int))) (w.heap.size + 1) 112 (wordsN s (k + 1) ++ List.replicate (64 - (k + 1)) 0) := by
        intro n
        have := ((unhide HA).drewN n).set k (wAt s (4 * k))
        rwa [fill_set (wordsN_len s k) (by omega), ← wordsN_succ] at this
      have hR3 : ∀ n, ArrAt ((wr.drewN n).setCell ⟨w.heap.size + 1, k, none⟩ (.int .u32 (wAt s (4 * k) : Int))) w.heap.size 112 zeros64 := by
        intro n
        exact ((unhide HR).drewN n).below (B := w.heap.size + 1) ((Below.refl _ _).setCell (p := ⟨w.heap.size + 1, k, none⟩) (Nat.le_refl _) _) (by omega)
      have HA3 := hide hA3
      have HR3 := hide hR3
      clear hA3 hR3 hA2
      go_wp2_with (go_at_call 98; refine (implWord_any s (4 * k) (by omega) (by omega) _).mono ?_; rintro e w1 ⟨rfl, n1, rfl⟩)
      go_roundw
      case rel => exact ⟨k + 1, by omega, by go_num, hide ((unhide HA3) n1), hide ((unhide HR3) n1), (Below.drewN hb n1).setCell (p := ⟨w.heap.size + 1, k, none⟩) (by show w.heap.size ≤ w.heap.size + 1; omega) _⟩
      case measure => simp [intOf]; omega
    · have hk' := hide (show k = 16 by omega)
      clear H2
      have hA1 : ArrAt wr (w.heap.size + 1) 112 (schedN (wordsN s 16) 0 ++ List.replicate (64 - (16 + 0)) 0) := by
        have := unhide HA
        rw [unhide hk'] at this
        exact this
      replace hA1 := hide hA1
      go_wp2
      go_loopw [5] (fun ti wq => ∃ m : Nat, m ≤ 48 ∧ ti = .int .i64 ((16 + m : Nat) : Int) ∧ Hid (ArrAt wq (w.heap.size + 1) 112 (schedN (wordsN s 16) m ++ List.replicate (64 - (16 + m)) 0)) ∧ Hid (ArrAt wq w.heap.size 112 zeros64) ∧ Below w.heap.size w wq) (fun ti _ => 64 - (intOf ti).toNat)
      case atStart => exact ⟨0, by omega, rfl, hA1, HR, hb⟩
      case round =>
        clear HA HR hb hA1
        obtain ⟨m, hm, rfl, HA, HR, hb⟩ := hrel
        have HL := hide (schedN_len (wordsN s 16) (wordsN_len s 16) m)
        by_cases hlt : m < 48
        · obtain ⟨t, ht⟩ : ∃ t, t = 16 + m := ⟨_, rfl⟩
          have htl : t < 64 := by omega
          have htg : 16 ≤ t := by omega
          rw [← ht] at HA HL ⊢
          have hsz := hb.size
          obtain ⟨p2, hp2⟩ : ∃ p, p = t - 2 := ⟨_, rfl⟩
          have c2 := (unhide HA).cell p2 (by rw [fill_len (unhide HL) (by omega)]; omega)
          rw [fill_at (unhide HL) (by omega)] at c2
          have e2 : IntKind.i64.wrap ((t : Int) - 2) = (p2 : Int) := by rw [IntKind.wrap_i64]; omega
          have l2 : (p2 : Int) < 64 := by omega
          have x2 := hide (sched_lt s m p2)
          have d2 := hide (show p2 ≠ t by omega)
          replace hp2 := hide hp2
          have I2 := idx64 (w.heap.size + 1) p2 l2
          obtain ⟨q2, hq2⟩ : ∃ q, q = at_ (schedN (wordsN s 16) m) p2 := ⟨_, rfl⟩
          rw [← hq2] at c2 x2
          replace hq2 := hide hq2
          obtain ⟨p7, hp7⟩ : ∃ p, p = t - 7 := ⟨_, rfl⟩
          have c7 := (unhide HA).cell p7 (by rw [fill_len (unhide HL) (by omega)]; omega)
          rw [fill_at (unhide HL) (by omega)] at c7
          have e7 : IntKind.i64.wrap ((t : Int) - 7) = (p7 : Int) := by rw [IntKind.wrap_i64]; omega
          have l7 : (p7 : Int) < 64 := by omega
          have x7 := hide (sched_lt s m p7)
          have d7 := hide (show p7 ≠ t by omega)
          replace hp7 := hide hp7
          have I7 := idx64 (w.heap.size + 1) p7 l7
          obtain ⟨q7, hq7⟩ : ∃ q, q = at_ (schedN (wordsN s 16) m) p7 := ⟨_, rfl⟩
          rw [← hq7] at c7 x7
          replace hq7 := hide hq7
          obtain ⟨p15, hp15⟩ : ∃ p, p = t - 15 := ⟨_, rfl⟩
          have c15 := (unhide HA).cell p15 (by rw [fill_len (unhide HL) (by omega)]; omega)
          rw [fill_at (unhide HL) (by omega)] at c15
          have e15 : IntKind.i64.wrap ((t : Int) - 15) = (p15 : Int) := by rw [IntKind.wrap_i64]; omega
          have l15 : (p15 : Int) < 64 := by omega
          have x15 := hide (sched_lt s m p15)
          have d15 := hide (show p15 ≠ t by omega)
          replace hp15 := hide hp15
          have I15 := idx64 (w.heap.size + 1) p15 l15
          obtain ⟨q15, hq15⟩ : ∃ q, q = at_ (schedN (wordsN s 16) m) p15 := ⟨_, rfl⟩
          rw [← hq15] at c15 x15
          replace hq15 := hide hq15
          obtain ⟨p16, hp16⟩ : ∃ p, p = t - 16 := ⟨_, rfl⟩
          have c16 := (unhide HA).cell p16 (by rw [fill_len (unhide HL) (by omega)]; omega)
          rw [fill_at (unhide HL) (by omega)] at c16
          have e16 : IntKind.i64.wrap ((t : Int) - 16) = (p16 : Int) := by rw [IntKind.wrap_i64]; omega
          have l16 : (p16 : Int) < 64 := by omega
          have x16 := hide (sched_lt s m p16)
          have d16 := hide (show p16 ≠ t by omega)
          replace hp16 := hide hp16
          have I16 := idx64 (w.heap.size + 1) p16 l16
          obtain ⟨q16, hq16⟩ : ∃ q, q = at_ (schedN (wordsN s 16) m) p16 := ⟨_, rfl⟩
          rw [← hq16] at c16 x16
          replace hq16 := hide hq16
          have c0 := (unhide HA).cell t (by rw [fill_len (unhide HL) (by omega)]; omega)
          have f0 := (unhide HA).frozen t
          have l0 : (t : Int) < 64 := by omega
          have I0 := idx64 (w.heap.size + 1) t l0
          replace ht := hide ht
          go_wp2
          go_region_held3 (fun W => W.cell? ⟨w.heap.size + 1, p2, none⟩ = some (.int .u32 (q2 : Int)) ∧ W.cell? ⟨w.heap.size + 1, p7, none⟩ = some (.int .u32 (q7 : Int)) ∧ W.cell? ⟨w.heap.size + 1, p15, none⟩ = some (.int .u32 (q15 : Int)) ∧ W.cell? ⟨w.heap.size + 1, p16, none⟩ = some (.int .u32 (q16 : Int))) (first | exact ⟨c2, c7, c15, c16⟩ | exact ⟨cell_by c2 (unhide d2), cell_by c7 (unhide d7), cell_by c15 (unhide d15), cell_by c16 (unhide d16)⟩) (first | (go_at_call 99; refine (implTwo_lit _ _ _ _ (by first | exact unhide x2 | exact unhide x15) (by decide) _).mono ?_; rintro e w1 ⟨rfl, n1, rfl⟩))
          obtain ⟨v, hv⟩ : ∃ v : Nat, v = moreW (schedN (wordsN s 16) m) t := ⟨_, rfl⟩
          have ev : IntKind.u32.wrap (IntKind.u32.wrap (IntKind.u32.wrap ((sg2 17 19 10 q2 : Int) + (q7 : Int)) + (sg2 7 18 3 q15 : Int)) + (q16 : Int)) = (v : Int) := by
            rw [hv, unhide hq2, unhide hq7, unhide hq15, unhide hq16, unhide hp2, unhide hp7, unhide hp15, unhide hp16]
            unfold moreW
            simp only [IntKind.wrap_u32]
            omega
          rw [ev]
          have hA3 : ∀ n, ArrAt ((wr.drewN n).setCell ⟨w.heap.size + 1, t, none⟩ (.int .u32 (v : Int))) (w.heap.size + 1) 112 (schedN (wordsN s 16) (m + 1) ++ List.replicate (64 - (16 + (m + 1))) 0) := by
            intro n
            have := ((unhide HA).drewN n).set t v
            rw [fill_set (unhide HL) (by omega), hv] at this
            rw [hv]
            have et := unhide ht
            subst et
            exact this
          have hR3 : ∀ n, ArrAt ((wr.drewN n).setCell ⟨w.heap.size + 1, t, none⟩ (.int .u32 (v : Int))) w.heap.size 112 zeros64 := by
            intro n
            exact ((unhide HR).drewN n).below (B := w.heap.size + 1) ((Below.refl _ _).setCell (p := ⟨w.heap.size + 1, t, none⟩) (Nat.le_refl _) _) (by omega)
          have HA3 := hide hA3
          have HR3 := hide hR3
          replace hv := hide hv
          clear hA3 hR3
          go_wp2
          go_roundw
          case rel => exact ⟨m + 1, by omega, by have := unhide ht; go_num, hide ((unhide HA3) _), hide ((unhide HR3) _), (Below.drewN hb _).setCell (p := ⟨w.heap.size + 1, t, none⟩) (by show w.heap.size ≤ w.heap.size + 1; omega) _⟩
          case measure => simp [intOf]; omega
        · have hm' : m = 48 := by omega
          subst hm'
          have HA4 := hide (show ArrAt wr (w.heap.size + 1) 112 (schedN (wordsN s 16) 48) by simpa using unhide HA)
          have hL48 := unhide HL
          have hi48 : (Tryz.prog.info? 112).map (·.size) = some (schedN (wordsN s 16) 48).length := by rw [hL48]; kernel_rfl
          replace hi48 := hide hi48
          replace hL48 := hide (show zeros64.length = (schedN (wordsN s 16) 48).length by rw [hL48]; rfl)
          have hsz := hb.size
          clear HA
          go_wp2_with (first | (refine wpList_load_arr rfl 112 _ rfl (w.heap.size + 1) rfl 112 _ (unhide HA4) _ _ Tryz.underlying112 (unhide hi48) ?_) | (refine wpList_store_arr rfl 112 _ _ rfl w.heap.size _ zeros64 rfl rfl 112 (unhide HR) (unhide hi48) (unhide hL48) ?_))
          refine bodyPost_ret (v := aggV (schedN (wordsN s 16) 48)) (results_arr Tryz.results74 _ _ w.heap.size 112 _ _ _ rfl ((unhide HR).setRow _) Tryz.underlying112 (unhide hi48)) rfl ⟨rfl, Go.below_setRow hb (Nat.le_refl _) _⟩
end Go.Proofs.YtkbbcjnickgfjabGreat

/- The sixty-four numbers by impl, over the loaded program. -/
namespace Go.Proofs.YtkbbcjnickgfjabGreat
open Go.RowKit
set_option maxRecDepth 100000 in
theorem implNumbers_any (w : World) :
    Calls Tryz.prog 75 #[] w fun e w' => e = .returned (aggV kTab) ∧ Below w.heap.size w w' := by
  go_enter Tryz.func75, Tryz.ntmps75
  have H1 := hide (ArrAt.new w 112 zeros64)
  have hik : (Tryz.prog.info? 112).map (·.size) = some kTab.length := by kernel_rfl
  replace hik := hide hik
  have hb : Below w.heap.size w (w.alloc (.cells (zeros64.map u32v).toArray 112)) := (Below.refl w.heap.size w).alloc (Nat.le_refl _) _
  replace hb := hide hb
  go_wp2_with (first | (refine wpList_build_arr rfl 112 _ rfl kTab (by kernel_rfl) ?_) | (refine wpList_store_arr rfl 112 _ _ rfl w.heap.size _ zeros64 rfl rfl 112 (unhide H1) (unhide hik) rfl ?_))
  refine bodyPost_ret (v := aggV kTab) (results_arr Tryz.results75 _ _ w.heap.size 112 _ _ _ rfl ((unhide H1).setRow _) Tryz.underlying112 (unhide hik)) rfl ⟨rfl, Go.below_setRow (unhide hb) (Nat.le_refl _) _⟩
end Go.Proofs.YtkbbcjnickgfjabGreat

/- A block is mixed in by impl, over the loaded program. -/
namespace Go.Proofs.YtkbbcjnickgfjabGreat
open Go.RowKit
theorem implThree_lit (x : Nat) (A B C : Int) (hx : x < 4294967296) (h : (A = 6 ∧ B = 11 ∧ C = 25) ∨ (A = 2 ∧ B = 13 ∧ C = 22)) (w : World) :
    Calls Tryz.prog 76 #[.int .u32 (x : Int), .int .i64 A, .int .i64 B, .int .i64 C] w fun e w' => e = .returned (.int .u32 (sg3 A.toNat B.toNat C.toNat x : Int)) ∧ ∃ n, w' = w.drewN n := by
  rcases h with ⟨rfl, rfl, rfl⟩ | ⟨rfl, rfl, rfl⟩
  · exact implThree_any x 6 11 25 hx (by decide) (by decide) (by decide) (by decide) (by decide) (by decide) w
  · exact implThree_any x 2 13 22 hx (by decide) (by decide) (by decide) (by decide) (by decide) (by decide) w
theorem len8v : Tryz.prog.arrayLen 77 = 8 := by kernel_rfl
theorem built8 (u : V8) : Tryz.prog.built 77 [(0, .int .u32 (u.a : Int)), (1, .int .u32 (u.b : Int)), (2, .int .u32 (u.c : Int)), (3, .int .u32 (u.d : Int)), (4, .int .u32 (u.e : Int)), (5, .int .u32 (u.f : Int)), (6, .int .u32 (u.g : Int)), (7, .int .u32 (u.h : Int))] = some (u.toL.map u32v).toArray := by kernel_rfl
theorem wpList_build8 {ops : Array Oper} {rest : List Oper} {o : Oper} {a : Act} {w : World} {Q : Exit → Act → World → Prop} (u : V8) (hg : o.guard = none) (x0 x1 x2 x3 x4 x5 x6 x7 : Operand) (ho : o.op = .build 77 #[(0, x0), (1, x1), (2, x2), (3, x3), (4, x4), (5, x5), (6, x6), (7, x7)])
    (e0 : a.eval x0 = .int .u32 (u.a : Int)) (e1 : a.eval x1 = .int .u32 (u.b : Int)) (e2 : a.eval x2 = .int .u32 (u.c : Int)) (e3 : a.eval x3 = .int .u32 (u.d : Int)) (e4 : a.eval x4 = .int .u32 (u.e : Int)) (e5 : a.eval x5 = .int .u32 (u.f : Int)) (e6 : a.eval x6 = .int .u32 (u.g : Int)) (e7 : a.eval x7 = .int .u32 (u.h : Int))
    (h : wpList Tryz.prog ops Q rest (a.put o.dst (aggV u.toL)) w) : wpList Tryz.prog ops Q (o :: rest) a w := by
  refine wpList_build_arr hg 77 _ ho u.toL ?_ h
  simp only [List.map_toArray, List.map_cons, List.map_nil, e0, e1, e2, e3, e4, e5, e6, e7]
  exact built8 u
theorem idx8v (l : List Nat) (hl : l.length = 8) (k : Nat) (h : (k : Int) < 8) (W : World) : (Instr.index 77 (aggV l) (.int .i64 (k : Int))).run Tryz.prog W = .ok (.int .u32 (at_ l k : Int)) W := by
  have hk : k < l.length := by omega
  have hk8 : k < 8 := by omega
  unfold Instr.index aggV
  simp [asIntOf, run_underlying Tryz.underlying77, go_sem, part, isAgg, run_underlying Tryz.underlying76, hk, hk8, at_, u32v]
theorem idx8 (g k : Nat) (h : (k : Int) < 8) (W : World) : (Instr.indexAt 78 (.pointer (some ⟨g, 0, none⟩)) (.int .i64 (k : Int))).run Tryz.prog W = .ok (.pointer (some ⟨g, k, none⟩)) W := by
  have hu : Tryz.prog.underlying 78 = some (.array (Tryz.prog.arrayLen 78) (Tryz.prog.elem 78)) := by kernel_rfl
  have he : Tryz.prog.elem 78 = 76 := by kernel_rfl
  have hl : Tryz.prog.arrayLen 78 = 8 := by kernel_rfl
  have h1 : (0 : Int) ≤ (k : Int) ∧ (k : Int) < ((Tryz.prog.arrayLen 78 : Nat) : Int) := by rw [hl]; exact ⟨by omega, by omega⟩
  rw [run_indexAt_array (P := Tryz.prog) (w := W) 78 ⟨g, 0, none⟩ .i64 (k : Int) hu, if_pos h1, he]
  simp [go_sem, Addr.add]
  intro h; exact h.symm
def mixL (a b : List Nat) (k : Nat) : List Nat := a.take k ++ b.drop k
theorem mixL_len {a b : List Nat} (h : a.length = b.length) (k : Nat) : (mixL a b k).length = b.length := by simp [mixL]; omega
theorem mixL_at {a b : List Nat} (h : a.length = b.length) {k : Nat} (hk : k < b.length) : at_ (mixL a b k) k = at_ b k := by
  unfold at_ mixL
  rw [List.getD_eq_getElem?_getD, List.getD_eq_getElem?_getD, List.getElem?_append_right (by simp; omega)]
  simp [show min k a.length = k by omega]
theorem mixL_set {a b : List Nat} (h : a.length = b.length) {k : Nat} (hk : k < b.length) : (mixL a b k).set k (at_ a k) = mixL a b (k + 1) := by
  unfold mixL at_
  rw [List.set_append_right _ _ (by simp; omega)]
  have hl : (a.take k).length = k := by simp; omega
  rw [hl, Nat.sub_self, List.drop_eq_getElem_cons hk, List.set_cons_zero, List.take_succ_eq_append_getElem (by omega), List.append_assoc, List.getD_eq_getElem?_getD, List.getElem?_eq_getElem (by omega)]
  rfl
theorem plus_len (v u : V8) : (v.plus u).toL.length = v.toL.length := rfl
theorem plus_at (v u : V8) (k : Nat) (hk : k < 8) : at_ (v.plus u).toL k = (at_ v.toL k + at_ u.toL k) % 4294967296 := by
  match k, hk with
  | 0, _ => rfl
  | 1, _ => rfl
  | 2, _ => rfl
  | 3, _ => rfl
  | 4, _ => rfl
  | 5, _ => rfl
  | 6, _ => rfl
  | 7, _ => rfl
  | n + 8, h => exact absurd h (by omega)

set_option maxRecDepth 20000 in
set_option maxHeartbeats 1000000 in
theorem take_any (v : V8) (hv : v.ok) (s : ByteArray) (hs : s.size = 64) (g : Nat) (w : World) (hA : ArrAt w g 78 v.toL) :
    Calls Tryz.prog 48 #[.pointer (some ⟨g, 0, none⟩), .string s] w fun e w' => e = .returned (.tuple #[]) ∧ ArrAt w' g 78 (roundW v s).toL ∧ w.grownBy w' (some g) := by
  have HA := hide hA
  have hgl := hA.lt
  go_enter Tryz.func48, Tryz.ntmps48
  have hi1 : (Tryz.prog.info? 112).map (·.size) = some (schedN (wordsN s 16) 48).length := by rw [schedN_len _ (wordsN_len s 16)]; kernel_rfl
  have hi2 : (Tryz.prog.info? 112).map (·.size) = some kTab.length := by kernel_rfl
  have hz1 : zeros64.length = (schedN (wordsN s 16) 48).length := by rw [schedN_len _ (wordsN_len s 16)]; rfl
  have hz2 : zeros64.length = kTab.length := rfl
  replace hi1 := hide hi1
  replace hi2 := hide hi2
  replace hz1 := hide hz1
  replace hz2 := hide hz2
  go_wp2_with (first
    | (go_at_call 74; refine (implWords_any s hs _).mono ?_; rintro e w1 ⟨rfl, hb1⟩)
    | (go_at_call 75; refine (implNumbers_any _).mono ?_; rintro e w2 ⟨rfl, hb2⟩; have HT := hide (two_z64 w2 112))
    | (refine wpList_store_arr_as rfl 112 (.tmp 4) (.tmp 20) rfl w2.heap.size _ zeros64 rfl rfl 112 (unhide HT).2.1 (unhide hi1) (unhide hz1) ?_; intro w3 hA3 hO3 hB3; have hN3 := hO3 _ _ _ (by omega) (unhide HT).1; have hB3' := (unhide HT).2.2.trans hB3; replace hN3 := hide hN3; replace hA3 := hide hA3; clear hO3 hB3 HT)
    | (refine wpList_store_arr_as rfl 112 (.tmp 5) (.tmp 21) rfl (w2.heap.size + 1) _ zeros64 rfl rfl 112 (unhide hN3) (unhide hi2) (unhide hz2) ?_; intro w4 hK4 hO4 hB4; have hA4 := hO4 _ _ _ (by omega) (unhide hA3); have hb4 := hB3'.trans (hB4.mono (by omega)); replace hA4 := hide hA4; replace hK4 := hide hK4; clear hO4 hB4 hA3 hN3))
  have hb5 : Below w.heap.size w w4 := (hb1.trans (hb2.mono hb1.size)).trans (hb4.mono (Nat.le_trans hb1.size hb2.size))
  have hG := (unhide HA).below hb5 hgl
  have c0 : w4.cell? ⟨g, 0, none⟩ = some (.int .u32 (v.a : Int)) := hG.cell 0 (by show 0 < 8; decide)
  have c1 : w4.cell? ⟨g, 1, none⟩ = some (.int .u32 (v.b : Int)) := hG.cell 1 (by show 1 < 8; decide)
  have c2 : w4.cell? ⟨g, 2, none⟩ = some (.int .u32 (v.c : Int)) := hG.cell 2 (by show 2 < 8; decide)
  have c3 : w4.cell? ⟨g, 3, none⟩ = some (.int .u32 (v.d : Int)) := hG.cell 3 (by show 3 < 8; decide)
  have c4 : w4.cell? ⟨g, 4, none⟩ = some (.int .u32 (v.e : Int)) := hG.cell 4 (by show 4 < 8; decide)
  have c5 : w4.cell? ⟨g, 5, none⟩ = some (.int .u32 (v.f : Int)) := hG.cell 5 (by show 5 < 8; decide)
  have c6 : w4.cell? ⟨g, 6, none⟩ = some (.int .u32 (v.g : Int)) := hG.cell 6 (by show 6 < 8; decide)
  have c7 : w4.cell? ⟨g, 7, none⟩ = some (.int .u32 (v.h : Int)) := hG.cell 7 (by show 7 < 8; decide)
  replace hG := hide hG
  replace hb5 := hide hb5
  dsimp only [Act.put]
  go_quiet (fail)
  go_wp2
  have hS4 := hb4.size
  go_loopw [6, 7, 8, 9, 10, 11, 12, 13, 54] (fun ta tb tc td te tf tg th ti wr => ∃ (k n : Nat) (u : V8), k ≤ 64 ∧ ti = .int .i64 (k : Int) ∧ ta = .int .u32 (u.a : Int) ∧ tb = .int .u32 (u.b : Int) ∧ tc = .int .u32 (u.c : Int) ∧ td = .int .u32 (u.d : Int) ∧ te = .int .u32 (u.e : Int) ∧ tf = .int .u32 (u.f : Int) ∧ tg = .int .u32 (u.g : Int) ∧ th = .int .u32 (u.h : Int) ∧ Hid (u = V8.steps (schedN (wordsN s 16) 48) k v) ∧ wr = w4.drewN n) (fun _ _ _ _ _ _ _ _ ti _ => 64 - (intOf ti).toNat)
  case atStart => exact ⟨0, _, v, by omega, rfl, rfl, rfl, rfl, rfl, rfl, rfl, rfl, rfl, hide rfl, rfl⟩
  case round =>
    obtain ⟨k, n, u, hk, rfl, rfl, rfl, rfl, rfl, rfl, rfl, rfl, rfl, HU, rfl⟩ := hrel
    have HO := hide (show u.ok by rw [unhide HU]; exact V8.steps_ok hv _ _)
    have Lw := unhide hA4
    have Lk := unhide hK4
    by_cases hlt : k < 64
    · have cw := Lw.cell k (by rw [schedN_len _ (wordsN_len s 16)]; omega)
      have ck := Lk.cell k hlt
      clear Lw Lk
      have hlt' : (k : Int) < 64 := by omega
      have Iw := idx64 w2.heap.size k hlt'
      have Ik := idx64 (w2.heap.size + 1) k hlt'
      obtain ⟨ww, hww⟩ : ∃ x, x = at_ (schedN (wordsN s 16) 48) k := ⟨_, rfl⟩
      obtain ⟨kk, hkk⟩ : ∃ x, x = at_ kTab k := ⟨_, rfl⟩
      rw [← hww] at cw
      rw [← hkk] at ck
      replace hww := hide hww
      replace hkk := hide hkk
      have oa := hide (unhide HO).1
      have ob := hide (unhide HO).2.1
      have oc := hide (unhide HO).2.2.1
      have oe := hide (unhide HO).2.2.2.2.1
      have of_ := hide (unhide HO).2.2.2.2.2.1
      have og := hide (unhide HO).2.2.2.2.2.2.1
      go_wp2
      go_region_held3 (fun W => W.cell? ⟨w2.heap.size, k, none⟩ = some (.int .u32 (ww : Int)) ∧ W.cell? ⟨w2.heap.size + 1, k, none⟩ = some (.int .u32 (kk : Int))) (first | exact ⟨cw, ck⟩) (first
        | (go_at_call 76; refine (implThree_lit _ _ _ _ (by exact unhide oe) (by decide) _).mono ?_; rintro e w1 ⟨rfl, n1, rfl⟩)
        | (go_at_call 77; refine (implCh_any _ _ _ (by exact unhide oe) (by exact unhide of_) (by exact unhide og) _).mono ?_; rintro e w1 ⟨rfl, n1, rfl⟩))
      go_wp2_with (first
        | (go_at_call 76; refine (implThree_lit _ _ _ _ (by exact unhide oa) (by decide) _).mono ?_; rintro e w1 ⟨rfl, n1, rfl⟩)
        | (go_at_call 78; refine (implMaj_any _ _ _ (by exact unhide oa) (by exact unhide ob) (by exact unhide oc) _).mono ?_; rintro e w1 ⟨rfl, n1, rfl⟩))
      go_roundw
      case rel =>
        have ek := unhide hkk
        have ew := unhide hww
        have eu := unhide HU
        refine ⟨k + 1, _, u.step kk ww, by omega, by go_num, ?_, rfl, rfl, rfl, ?_, rfl, rfl, rfl, hide (by rw [ek, ew, eu]; rfl), rfl⟩
        · simp only [V8.step, V8.t1, V8.t2]
          congr 1
          omega
        · simp only [V8.step, V8.t1]
          congr 1
          omega
      case measure => simp [intOf]; omega
    · have hk' := hide (show k = 64 by omega)
      clear Lw Lk
      have hb0 := unhide hb5
      have hgrow : w.grownBy (w4.drewN n) (some g) := ⟨hb0.os, hb0.tape, hb0.output, hb0.size, fun q hq _ => hb0.block q hq⟩
      have hmix : ArrAt (w4.drewN n) g 78 (mixL (v.plus u).toL v.toL 0) := unhide hG
      have HF := hide (show (v.plus u).toL = (roundW v s).toL by unfold roundW; rw [unhide HU, unhide hk'])
      clear hA HA hi1 hi2 hz1 hz2 HO c0 c1 c2 c3 c4 c5 c6 c7 hb0 hb5 hG hA4 hK4 hB3' hb1 hb2 hb4 hS4
      replace hgrow := hide hgrow
      replace hmix := hide hmix
      generalize hWW : w4.drewN n = W5 at hgrow hmix ⊢
      clear hWW
      go_wp2
      go_loopw [103] (fun ti wr => ∃ q : Nat, q ≤ 8 ∧ ti = .int .i64 (q : Int) ∧ Hid (ArrAt wr g 78 (mixL (v.plus u).toL v.toL q)) ∧ Hid (w.grownBy wr (some g))) (fun ti _ => 8 - (intOf ti).toNat)
      case atStart => exact ⟨0, by omega, rfl, hmix, hgrow⟩
      case round =>
        clear hmix hgrow
        obtain ⟨q, hq, rfl, HM, HG⟩ := hrel
        by_cases hql : q < 8
        · have hql' : (q : Int) < 8 := by omega
          have hcq := (unhide HM).cell q (by rw [mixL_len (plus_len v u)]; exact hql)
          rw [mixL_at (plus_len v u) hql] at hcq
          have hfq := (unhide HM).frozen q
          have Iv : ∀ W, (Instr.index 77 (.agg #[.int .u32 (u.a : Int), .int .u32 (u.b : Int), .int .u32 (u.c : Int), .int .u32 (u.d : Int), .int .u32 (u.e : Int), .int .u32 (u.f : Int), .int .u32 (u.g : Int), .int .u32 (u.h : Int)]) (.int .i64 (q : Int))).run Tryz.prog W = .ok (.int .u32 (at_ u.toL q : Int)) W := idx8v u.toL rfl q hql'
          have Ig := idx8 g q hql'
          have HP := hide (plus_at v u q hql)
          have hset : ArrAt (wr.setCell ⟨g, q, none⟩ (.int .u32 (at_ (v.plus u).toL q : Int))).drew g 78 (mixL (v.plus u).toL v.toL (q + 1)) := by
            have := (unhide HM).set q (at_ (v.plus u).toL q)
            rwa [mixL_set (plus_len v u) hql] at this
          have hgr : w.grownBy (wr.setCell ⟨g, q, none⟩ (.int .u32 (at_ (v.plus u).toL q : Int))).drew (some g) := by
            have h0 := unhide HG
            refine ⟨h0.os, h0.tape, h0.output, by simpa using h0.size, fun k hk hne => ?_⟩
            show (wr.setCell ⟨g, q, none⟩ (.int .u32 (at_ (v.plus u).toL q : Int))).heap[k]? = _
            rw [Below.heap_setCell _ _ _ _ (by intro hh; exact hne (by rw [hh]))]
            exact h0.block k hk hne
          obtain ⟨x, hx⟩ : ∃ x, x = at_ v.toL q := ⟨_, rfl⟩
          obtain ⟨y, hy⟩ : ∃ y, y = at_ u.toL q := ⟨_, rfl⟩
          rw [← hx] at hcq HP
          rw [← hy] at HP
          simp only [← hy] at Iv
          have exy : ((x : Int) + (y : Int)) % 4294967296 = ((at_ (v.plus u).toL q : Nat) : Int) := by rw [unhide HP]; omega
          replace hset := hide hset
          replace hgr := hide hgr
          replace hx := hide hx
          replace hy := hide hy
          replace exy := hide exy
          go_wp2
          go_region
          rw [unhide exy]
          go_wp2
          go_roundw
          case rel => exact ⟨q + 1, by omega, by go_num, hset, hgr⟩
          case measure => simp [intOf]; omega
        · have hq8 : q = 8 := by omega
          have hfin : ArrAt wr g 78 (roundW v s).toL := by
            have := unhide HM
            rw [hq8] at this
            rw [← unhide HF]
            exact this
          replace hq8 := hide hq8
          replace hfin := hide hfin
          go_wp2
          go_end0
          exact ⟨rfl, unhide hfin, unhide HG⟩
end Go.Proofs.YtkbbcjnickgfjabGreat

/- The bytes of words, by impl and by spec, over the loaded program. -/
namespace Go.Proofs.YtkbbcjnickgfjabGreat
open Go.RowKit
theorem Tryz.infoByte : (Tryz.prog.info? 5).map (fun i => (i.zero, i.size, i.bytes)) = some (some (.int .u8 0), 1, 1) := by kernel_rfl
theorem cs_word (x : Nat) (hx : x < 4294967296) : (#[Value.int .u8 ((x : Int) / 16777216), .int .u8 ((x : Int) / 65536 % 256), .int .u8 ((x : Int) / 256 % 256), .int .u8 ((x : Int) % 256)] : Array Value).toList = (bytesW x).map bv := by
  unfold bytesW
  simp only [List.map_cons, List.map_nil, bv]
  rw [byteOf_toNat (by omega), byteOf_toNat (by omega), byteOf_toNat (by omega), byteOf_toNat (by omega)]
  congr 2
  · congr 1; omega
theorem bytes_take (l : List Nat) (k : Nat) (h : k < l.length) : bytesL (l.take (k + 1)) = bytesL (l.take k) ++ bytesW (at_ l k) := by
  rw [List.take_succ_eq_append_getElem h, bytesL_append]
  unfold at_
  rw [List.getD_eq_getElem?_getD, List.getElem?_eq_getElem h]
  show _ ++ (bytesW _ ++ []) = _
  rw [List.append_nil]; rfl
theorem v8_at_lt {v : V8} (h : v.ok) (k : Nat) : at_ v.toL k < 4294967296 := by
  obtain ⟨h1, h2, h3, h4, h5, h6, h7, h8⟩ := h
  apply at_lt
  intro x hx
  simp only [V8.toL, List.mem_cons, List.not_mem_nil, or_false] at hx
  rcases hx with rfl | rfl | rfl | rfl | rfl | rfl | rfl | rfl <;> assumption
set_option maxRecDepth 20000 in
set_option maxHeartbeats 400000 in
theorem withWord_any (x : Nat) (hx : x < 4294967296) (v : Value) (l : List UInt8) (base : Nat) (w : World) (hown : OwnB w base 5 v l) (hl : l.length ≤ 10000) (hbase : base ≤ w.heap.size) :
    Calls Tryz.prog 101 #[v, .int .u32 (x : Int)] w fun e w' => (∃ v', e = .returned v' ∧ OwnB w' base 5 v' (l ++ bytesW x)) ∧ Below base w w' := by
  obtain ⟨i0, hi, hz0, hz1, hz2⟩ := info_parts Tryz.infoByte
  have HC := hide (cs_word x hx)
  go_enter Tryz.func101, Tryz.ntmps101
  go_wp2_with (at_builtin; refine wpList_append_bytes rfl (.tmp 5) (.tmp 17) 73 rfl base base 5 i0 Tryz.underlying73 hi hz0 hz1 hz2 _ l rfl hown _ (bytesW x) (by exact unhide HC) 4 4 rfl rfl (by omega) (Nat.le_refl _) hbase (Below.refl _ w) ?_; intro v' w1 hown' hb')
  go_ret
  exact ⟨⟨_, rfl, hown'⟩, hb'⟩
set_option maxRecDepth 20000 in
set_option maxHeartbeats 400000 in
theorem inBytes_any (v : V8) (hv : v.ok) (g : Nat) (w : World) (hA : ArrAt w g 78 v.toL) :
    Calls Tryz.prog 80 #[.pointer (some ⟨g, 0, none⟩)] w fun e w' => e = .returned (.string v.text) ∧ Below w.heap.size w w' := by
  obtain ⟨i0, hi, hz0, hz1, hz2⟩ := info_parts Tryz.infoByte
  have HA := hide hA
  have hgl := hA.lt
  clear hA
  go_enter Tryz.func80, Tryz.ntmps80
  go_wp2_with (at_make; refine wpList_make_own _ rfl _ _ 73 rfl w.heap.size 5 i0 (.int .u8 0) 1 Tryz.underlying73 hi hz0 hz1 _ _ _ 32 rfl rfl (by omega) (by rw [hz2]; omega) (by unfold maxLen; omega) (Nat.le_refl _) ?_; intro w1 hown1 hgrow1)
  have hb0 : Below w.heap.size w w1 := (Below.refl w.heap.size w).grown hgrow1 (Nat.le_refl _) (fun k hk => by cases hk)
  clear hgrow1
  go_loopw [3, 8] (fun tv ti wr => ∃ k : Nat, k ≤ 8 ∧ ti = .int .i64 (k : Int) ∧ Hid (OwnB wr w.heap.size 5 tv (bytesL (v.toL.take k))) ∧ Below w.heap.size w wr) (fun _ ti _ => 8 - (intOf ti).toNat)
  case atStart => exact ⟨0, by omega, rfl, hide hown1, hb0⟩
  case round =>
    clear hown1 hb0
    obtain ⟨k, hk, rfl, HO, hb⟩ := hrel
    by_cases hlt : k < 8
    · have hlt' : (k : Int) < 8 := by omega
      have ck := ((unhide HA).below hb hgl).cell k hlt
      have Ig := idx8 g k hlt'
      have hxx := v8_at_lt hv k
      have HB := hide (bytes_take v.toL k hlt)
      have hln : (bytesL (v.toL.take k)).length ≤ 10000 := by rw [bytesL_len]; simp; omega
      have C := hide (fun W (u : Value) (hW : OwnB W w.heap.size 5 u (bytesL (v.toL.take k))) => withWord_any (at_ v.toL k) hxx u _ w.heap.size W hW hln)
      have hsz := hb.size
      generalize at_ v.toL k = x at *
      clear hln
      go_wp2_with (go_at_call 101; refine ((unhide C) _ _ (unhide HO) hsz).mono ?_; rintro e w2 ⟨⟨v', rfl, hown2⟩, hb2⟩)
      rw [← unhide HB] at hown2
      go_roundw
      case rel => exact ⟨k + 1, by omega, by go_num, hide hown2, hb.trans hb2⟩
      case measure => simp [intOf]; omega
    · have hk8 : k = 8 := by omega
      have hown2 : OwnB wr w.heap.size 5 u3 (bytesL v.toL) := by
        have := unhide HO
        rw [hk8] at this
        exact this
      replace hk8 := hide hk8
      have hc := run_string_owned (P := Tryz.prog) wr 73 9 5 w.heap.size u3 (bytesL v.toL) Tryz.underlying73 Tryz.underlying5 Tryz.underlying9 hown2
      go_wp2
      go_ret
      exact ⟨rfl, hb⟩
theorem OwnV.some_at {w : World} {base n c : Nat} {a : Option Addr} {e : TypeId} {xs : List Value} (h : OwnV w base e (.slice a n c) xs) (hn : 0 < n) : ∃ g, a = some ⟨g, 0, none⟩ ∧ base ≤ g ∧ g < w.heap.size := by
  rcases h.2 with ⟨h1, _⟩ | ⟨g, cap, cur, h1, hb, h2, _⟩
  · simp only [Value.slice.injEq] at h1; omega
  · simp only [Value.slice.injEq] at h1
    refine ⟨g, h1.1, hb, ?_⟩
    rcases Nat.lt_or_ge g w.heap.size with h3 | h3
    · exact h3
    · rw [Array.getElem?_eq_none h3] at h2; cases h2
theorem u32_get {l : List Nat} {k : Nat} (h : k < l.length) : (l.map u32v)[k]? = some (.int .u32 (at_ l k : Int)) := by
  unfold at_
  rw [List.getElem?_map, List.getElem?_eq_getElem h, List.getD_eq_getElem?_getD, List.getElem?_eq_getElem h]
  rfl
set_option maxRecDepth 20000 in
set_option maxHeartbeats 400000 in
theorem specBytes_any (l : List Nat) (hl : ∀ x ∈ l, x < 4294967296) (hn : l.length ≤ 1000) (v : Value) (base : Nat) (w : World) (hown : OwnV w base 76 v (l.map u32v)) :
    Calls Tryz.prog 64 #[v] w fun e w' => e = .returned (.string ⟨(bytesL l).toArray⟩) ∧ Below w.heap.size w w' := by
  obtain ⟨i0, hi, hz0, hz1, hz2⟩ := info_parts Tryz.infoByte
  obtain ⟨a, c, rfl⟩ := hown.shape
  have hn2 : (l.map u32v).length = l.length := List.length_map _
  rw [hn2] at hown ⊢
  obtain ⟨n, hnn⟩ : ∃ n, l.length = n := ⟨_, rfl⟩
  rw [hnn] at hown hn ⊢
  clear hn2
  have HOw := hide hown
  have HL := hide hnn
  clear hown hnn
  go_enter Tryz.func64, Tryz.ntmps64
  go_wp2
  go_loopw [3, 4] (fun tv ti wr => ∃ k : Nat, k ≤ n ∧ ti = .int .i64 (k : Int) ∧ Hid (OwnB wr w.heap.size 5 tv (bytesL (l.take k))) ∧ Below w.heap.size w wr) (fun _ ti _ => n - (intOf ti).toNat)
  case atStart => exact ⟨0, by omega, rfl, hide (World.ownsRow_made w #[] 0 (Nat.le_refl _) (by decide) (by simp)), (Below.refl _ _).alloc (Nat.le_refl _) _⟩
  case round =>
    obtain ⟨k, hk, rfl, HO, hb⟩ := hrel
    by_cases hlt : k < n
    · obtain ⟨g, rfl, _, hgl⟩ := (unhide HOw).some_at (by omega)
      have hln := unhide HL
      have ck := (hb.cell (p := ⟨g, k, none⟩) hgl).trans ((unhide HOw).cell (u32_get (l := l) (k := k) (by omega)))
      have hxx := at_lt hl k
      have HB := hide (bytes_take l k (by omega))
      have hpl : (bytesL (l.take k)).length ≤ 10000 := by rw [bytesL_len]; simp; omega
      have HC := hide (cs_word (at_ l k) hxx)
      have hown := unhide HO
      have hsz := hb.size
      generalize at_ l k = x at *
      clear hln
      go_wp2_with (at_builtin; refine wpList_append_bytes rfl (.tmp 17) (.tmp 32) 73 rfl w.heap.size w.heap.size 5 i0 Tryz.underlying73 hi hz0 hz1 hz2 _ _ rfl hown _ (bytesW x) (by exact unhide HC) 4 4 rfl rfl (by omega) (Nat.le_refl _) hsz hb ?_; intro v' w1 hown' hb')
      rw [← unhide HB] at hown'
      go_roundw
      case rel => exact ⟨k + 1, by omega, by go_num, hide hown', hb'⟩
      case measure => simp [intOf]; omega
    · have hkn : k = n := by omega
      have hown2 : OwnB wr w.heap.size 5 u3 (bytesL l) := by
        have := unhide HO
        rw [List.take_of_length_le (by rw [unhide HL]; omega)] at this
        exact this
      replace hkn := hide hkn
      have hc := run_string_owned (P := Tryz.prog) wr 73 9 5 w.heap.size u3 (bytesL l) Tryz.underlying73 Tryz.underlying5 Tryz.underlying9 hown2
      go_wp2
      go_ret
      exact ⟨rfl, hb⟩
end Go.Proofs.YtkbbcjnickgfjabGreat

/- A hasher, and the laws' helpers on one; whether it is right, by spec and by impl, over the loaded program. -/
namespace Go.Proofs.YtkbbcjnickgfjabGreat
open Go.RowKit
set_option linter.unusedVariables false

structure Hs where
  st : ByteArray
  rs : ByteArray
  ct : Int
def hsv (h : Hs) : Value := .agg #[.string h.st, .string h.rs, .int .i64 h.ct]
def okH (h : Hs) : Bool := decide (h.st.size = 32) && (decide (0 ≤ h.ct) && (decide (h.ct ≤ 1000000000) && decide (h.ct % 64 = (h.rs.size : Int))))

theorem okH_no1 {a : Hs} (h : ¬ (a.st.size : Int) = 32) : okH a = false := by
  unfold okH; rw [decide_eq_false (by omega : ¬ a.st.size = 32)]; rfl
theorem okH_no2 {a : Hs} (h : ¬ 0 ≤ a.ct) : okH a = false := by
  unfold okH; rw [decide_eq_false h]; simp
theorem okH_no3 {a : Hs} (h : ¬ a.ct ≤ 1000000000) : okH a = false := by
  unfold okH; rw [decide_eq_false h]; simp
theorem okH_no4 {a : Hs} (h : ¬ a.ct % 64 = (a.rs.size : Int)) : okH a = false := by
  unfold okH; rw [decide_eq_false h]; simp
theorem okH_is {a : Hs} (h1 : (a.st.size : Int) = 32) (h2 : 0 ≤ a.ct) (h3 : a.ct ≤ 1000000000) : okH a = (a.ct % 64 == (a.rs.size : Int)) := by
  unfold okH; rw [decide_eq_true (by omega : a.st.size = 32), decide_eq_true h2, decide_eq_true h3]; rfl
theorem okH_is' {a : Hs} (h1 : (a.st.size : Int) = 32) (h2 : 0 ≤ a.ct) (h3 : a.ct ≤ 1000000000) : okH a = ((a.rs.size : Int) == a.ct % 64) := by
  rw [okH_is h1 h2 h3]; exact Bool.beq_comm
theorem okH_yes {a : Hs} (h : okH a = true) : a.st.size = 32 ∧ 0 ≤ a.ct ∧ a.ct ≤ 1000000000 ∧ a.ct % 64 = (a.rs.size : Int) := by
  unfold okH at h
  simpa using h
/-- Block g is a variable that holds the hasher. -/
def HB (w : World) (g : Nat) (T : TypeId) (a : Hs) : Prop := w.heap[g]? = some (.cells #[.string a.st, .string a.rs, .int .i64 a.ct] T (0, 0))
theorem HB.lt {w : World} {g : Nat} {T : TypeId} {a : Hs} (h : HB w g T a) : g < w.heap.size := by
  rcases Nat.lt_or_ge g w.heap.size with h1 | h1
  · exact h1
  · unfold HB at h
    rw [Array.getElem?_eq_none h1] at h; cases h
theorem HB.below {w w' : World} {g B : Nat} {T : TypeId} {a : Hs} (h : HB w g T a) (hb : Below B w w') (hg : g < B) : HB w' g T a := by
  unfold HB at h ⊢
  rw [hb.block g hg]; exact h
theorem HB.step {w w' : World} {g : Nat} {T : TypeId} {a : Hs} (h : HB w g T a) (hb : Below w.heap.size w w') : HB w' g T a := h.below hb h.lt
theorem HB.c0 {w : World} {g : Nat} {T : TypeId} {a : Hs} (h : HB w g T a) : w.cell? ⟨g, 0, none⟩ = some (.string a.st) := by unfold HB at h; simp [World.cell?, h]
theorem HB.c1 {w : World} {g : Nat} {T : TypeId} {a : Hs} (h : HB w g T a) : w.cell? ⟨g, 1, none⟩ = some (.string a.rs) := by unfold HB at h; simp [World.cell?, h]
theorem HB.c2 {w : World} {g : Nat} {T : TypeId} {a : Hs} (h : HB w g T a) : w.cell? ⟨g, 2, none⟩ = some (.int .i64 a.ct) := by unfold HB at h; simp [World.cell?, h]
theorem HB.frozen {w : World} {g : Nat} {T : TypeId} {a : Hs} (h : HB w g T a) (k : Nat) : w.frozen? ⟨g, k, none⟩ = false := frozen_of_row w g k _ T h
theorem HB.set3 {w : World} {g : Nat} {T : TypeId} {a : Hs} (h : HB w g T a) (b : Hs) : HB (((w.setCell ⟨g, 0, none⟩ (.string b.st)).setCell ⟨g, 1, none⟩ (.string b.rs)).setCell ⟨g, 2, none⟩ (.int .i64 b.ct)) g T b := by
  have e0 := heap_setCell_same w g 0 _ T (.string b.st) h
  have e1 := heap_setCell_same _ g 1 _ T (.string b.rs) e0
  have e2 := heap_setCell_same _ g 2 _ T (.int .i64 b.ct) e1
  unfold HB
  rw [e2]
  rfl
theorem results_hash {P : Program} {fn : Func} {p : Tmp} {ty : TypeId} (h : fn.results = #[.cell p ty]) (tmps : Array Value) (w : World) (g : Nat) (T : TypeId) (a : Hs) (fs : Array Field)
    (hp : tmps.getD p undef = .pointer (some ⟨g, 0, none⟩)) (hA : HB w g T a) (hu : P.underlying ty = some (.struct fs)) (hi : (P.info? ty).map (·.size) = some 3) :
    (results fn tmps).run P w = .ok (hsv a) w :=
  results_cell_row h tmps w g T _ (0, 0) _ hp hA hu rfl hi
theorem one_hash (w : World) (a : Hs) (T : TypeId) : ∃ W, w.alloc (.cells #[.string a.st, .string a.rs, .int .i64 a.ct] T) = W ∧ HB W w.heap.size T a ∧ Below w.heap.size w W ∧ w.heap.size < W.heap.size := by
  refine ⟨_, rfl, ?_, (Below.refl _ w).alloc (Nat.le_refl _) _, by simp⟩
  unfold HB
  exact heap_alloc_new w _
theorem stored_hash (w : World) (T : TypeId) (st rs : ByteArray) (ct : Int) : ∃ W, ((((w.alloc (.cells #[.string ⟨#[]⟩, .string ⟨#[]⟩, .int .i64 0] T)).setCell ⟨w.heap.size, 0, none⟩ (.string st)).setCell ⟨w.heap.size, 1, none⟩ (.string rs)).setCell ⟨w.heap.size, 2, none⟩ (.int .i64 ct)) = W ∧
    HB W w.heap.size T ⟨st, rs, ct⟩ ∧ Below w.heap.size w W ∧ w.heap.size < W.heap.size := by
  obtain ⟨W, hW, hB, hb, hlt⟩ := one_hash w ⟨⟨#[]⟩, ⟨#[]⟩, 0⟩ T
  dsimp only at hW
  rw [hW]
  refine ⟨_, rfl, hB.set3 ⟨st, rs, ct⟩, ?_, by simpa using hlt⟩
  exact ((hb.setCell (p := ⟨w.heap.size, 0, none⟩) (Nat.le_refl _) _).setCell (p := ⟨w.heap.size, 1, none⟩) (Nat.le_refl _) _).setCell (p := ⟨w.heap.size, 2, none⟩) (Nat.le_refl _) _
set_option maxRecDepth 20000 in
set_option maxHeartbeats 800000 in
theorem specOk_any (a : Hs) (w : World) (h1 : a.st.size ≤ maxLen) (h2 : a.rs.size ≤ maxLen) :
    Calls Tryz.prog 60 #[hsv a] w fun e w' => e = .returned (.bool (okH a)) ∧ Below w.heap.size w w' := by
  unfold maxLen at h1 h2
  unfold hsv
  by_cases c1 : (a.st.size : Int) = 32
  · by_cases c4 : (a.rs.size : Int) < 64
    · by_cases c2 : 0 ≤ a.ct
      · by_cases c3 : a.ct ≤ 1000000000
        · have t : a.ct.tmod 64 = a.ct % 64 := Int.tmod_eq_emod_of_nonneg c2
          go_enter Tryz.func60, Tryz.ntmps60
          go_wp2
          go_ret
          exact ⟨by rw [okH_is c1 c2 c3]; rfl, (Below.refl _ _).alloc (Nat.le_refl _) _⟩
        · go_enter Tryz.func60, Tryz.ntmps60
          go_wp2
          go_ret
          exact ⟨by rw [okH_no3 (by omega)]; rfl, (Below.refl _ _).alloc (Nat.le_refl _) _⟩
      · go_enter Tryz.func60, Tryz.ntmps60
        go_wp2
        go_ret
        exact ⟨by rw [okH_no2 (by omega)]; rfl, (Below.refl _ _).alloc (Nat.le_refl _) _⟩
    · have c5 : ¬ a.ct % 64 = (a.rs.size : Int) := by omega
      go_enter Tryz.func60, Tryz.ntmps60
      go_wp2
      go_ret
      exact ⟨by rw [okH_no4 c5]; rfl, (Below.refl _ _).alloc (Nat.le_refl _) _⟩
  · go_enter Tryz.func60, Tryz.ntmps60
    go_wp2
    go_ret
    exact ⟨by rw [okH_no1 c1]; rfl, (Below.refl _ _).alloc (Nat.le_refl _) _⟩
end Go.Proofs.YtkbbcjnickgfjabGreat

/- The first hasher, by impl and by spec, over the loaded program. -/
namespace Go.Proofs.YtkbbcjnickgfjabGreat
open Go.RowKit
theorem own_lit (w : World) (e : TypeId) (l : List Nat) (hl : l.length ≤ maxLen) : OwnV (w.alloc (.cells (l.map u32v).toArray e)) w.heap.size e (.slice (some ⟨w.heap.size, 0, none⟩) l.length l.length) (l.map u32v) :=
  ⟨by simp, .inr ⟨w.heap.size, l.length, (l.map u32v).toArray, by simp, Nat.le_refl _, heap_alloc_new w _, by simp, hl, by simp, by simp; exact List.take_of_length_le (by simp)⟩⟩
def zeros8 : List Nat := List.replicate 8 0
set_option maxRecDepth 20000 in
theorem firstState_any (w : World) :
    Calls Tryz.prog 46 #[] w fun e w' => e = .returned (aggV first8.toL) ∧ Below w.heap.size w w' := by
  have H1 := hide (ArrAt.new w 78 zeros8)
  have hik : (Tryz.prog.info? 78).map (·.size) = some first8.toL.length := by kernel_rfl
  replace hik := hide hik
  have hb : Below w.heap.size w (w.alloc (.cells (zeros8.map u32v).toArray 78)) := (Below.refl w.heap.size w).alloc (Nat.le_refl _) _
  replace hb := hide hb
  go_enter Tryz.func46, Tryz.ntmps46
  go_wp2_with (first | (refine wpList_build_arr rfl 78 _ rfl first8.toL (by kernel_rfl) ?_) | (refine wpList_store_arr rfl 78 _ _ rfl w.heap.size _ zeros8 rfl rfl 78 (unhide H1) (unhide hik) rfl ?_))
  refine bodyPost_ret (v := aggV first8.toL) (results_arr Tryz.results46 _ _ w.heap.size 78 _ _ _ rfl ((unhide H1).setRow _) Tryz.underlying78 (unhide hik)) rfl ⟨rfl, Go.below_setRow (unhide hb) (Nat.le_refl _) _⟩
theorem one_z8 (w : World) (T : TypeId) : ArrAt (w.alloc (.cells #[.int .u32 0, .int .u32 0, .int .u32 0, .int .u32 0, .int .u32 0, .int .u32 0, .int .u32 0, .int .u32 0] T)) w.heap.size T zeros8 ∧ Below w.heap.size w (w.alloc (.cells #[.int .u32 0, .int .u32 0, .int .u32 0, .int .u32 0, .int .u32 0, .int .u32 0, .int .u32 0, .int .u32 0] T)) :=
  ⟨ArrAt.new w T zeros8, (Below.refl w.heap.size w).alloc (Nat.le_refl _) _⟩
theorem info8 (v : V8) : (Tryz.prog.info? 78).map (·.size) = some v.toL.length := by
  have : (Tryz.prog.info? 78).map (·.size) = some 8 := by kernel_rfl
  exact this
def h0 : Hs := ⟨⟨#[]⟩, ⟨#[]⟩, 0⟩
set_option maxRecDepth 20000 in
set_option maxHeartbeats 400000 in
theorem specFirst_any (w : World) :
    Calls Tryz.prog 65 #[] w fun e w' => (∃ a c, e = .returned (.slice a 8 c) ∧ OwnV w' w.heap.size 76 (.slice a 8 c) (first8.toL.map u32v)) ∧ Below w.heap.size w w' := by
  go_enter Tryz.func65, Tryz.ntmps65
  go_wp2
  go_ret
  exact ⟨⟨_, _, rfl, own_lit w 76 first8.toL (by decide)⟩, (Below.refl _ _).alloc (Nat.le_refl _) _⟩
set_option maxRecDepth 20000 in
set_option maxHeartbeats 400000 in
theorem specNew_any (w : World) :
    Calls Tryz.prog 40 #[] w fun e w' => e = .returned (hsv ⟨first8.text, ⟨#[]⟩, 0⟩) ∧ Below w.heap.size w w' := by
  go_enter Tryz.func40, Tryz.ntmps40
  go_wp2_with fail
  obtain ⟨W, hW, hB, hb, hlt⟩ := one_hash w h0 70
  unfold h0 at hW
  rw [hW]
  clear hW
  refine (specFirst_any _).mono ?_
  rintro e w1 ⟨⟨a, c, rfl, hown⟩, hb1⟩
  have hB1 := hB.step hb1
  have HT1 := hb.trans (hb1.mono (Nat.le_of_lt hlt))
  have hl1 := hB1.lt
  clear hB hb hb1
  replace hB1 := hide hB1
  replace HT1 := hide HT1
  go_wp2_with (go_at_call 64; refine (specBytes_any first8.toL (by decide) (by decide) _ _ _ hown).mono ?_; rintro e w3 ⟨rfl, hb3⟩; have hB3 := (unhide hB1).below hb3 hl1; have k0 := hB3.c0; have k1 := hB3.c1; have k2 := hB3.c2; have f0 := hB3.frozen 0; have f1 := hB3.frozen 1; have f2 := hB3.frozen 2; have hl3 := hB3.lt; have HT3 := hide ((unhide HT1).trans (hb3.mono (Nat.le_of_lt hl1))); clear hb3)
  refine bodyPost_ret (v := hsv ⟨first8.text, ⟨#[]⟩, 0⟩) (results_hash Tryz.results40 _ _ w.heap.size 70 _ _ rfl (HB.set3 hB3 ⟨first8.text, ⟨#[]⟩, 0⟩) Tryz.underlying70 (by kernel_rfl)) rfl ⟨rfl, ?_⟩
  exact (((unhide HT3).setCell (p := ⟨w.heap.size, 0, none⟩) (Nat.le_refl _) _).setCell (p := ⟨w.heap.size, 1, none⟩) (Nat.le_refl _) _).setCell (p := ⟨w.heap.size, 2, none⟩) (Nat.le_refl _) _
end Go.Proofs.YtkbbcjnickgfjabGreat

/- The words of a text, and the numbers, by spec, over the loaded program. -/
namespace Go.Proofs.YtkbbcjnickgfjabGreat
open Go.RowKit
theorem Tryz.infoW : (Tryz.prog.info? 76).map (fun i => (i.zero, i.size, i.bytes)) = some (some (.int .u32 0), 1, 4) := by kernel_rfl
set_option maxRecDepth 20000 in
set_option maxHeartbeats 400000 in
theorem specK_any (w : World) :
    Calls Tryz.prog 62 #[] w fun e w' => (∃ a c, e = .returned (.slice a 64 c) ∧ OwnV w' w.heap.size 76 (.slice a 64 c) (kTab.map u32v)) ∧ Below w.heap.size w w' := by
  go_enter Tryz.func62, Tryz.ntmps62
  go_wp2
  go_ret
  exact ⟨⟨_, _, rfl, own_lit w 76 kTab (by decide)⟩, (Below.refl _ _).alloc (Nat.le_refl _) _⟩
set_option maxRecDepth 20000 in
set_option maxHeartbeats 400000 in
theorem specWords_any (s : ByteArray) (n : Nat) (hs : s.size = 4 * n) (hn : n ≤ 100) (w : World) :
    Calls Tryz.prog 61 #[.string s] w fun e w' => (∃ a c, e = .returned (.slice a n c) ∧ OwnV w' w.heap.size 76 (.slice a n c) ((wordsN s n).map u32v)) ∧ Below w.heap.size w w' := by
  obtain ⟨i0, hi, hz0, hz1, hz2⟩ := info_parts Tryz.infoW
  go_enter Tryz.func61, Tryz.ntmps61
  go_wp2
  go_loopw [3, 4] (fun tv ti wr => ∃ k : Nat, k ≤ n ∧ ti = .int .i64 ((4 * k : Nat) : Int) ∧ Hid (OwnV wr w.heap.size 76 tv ((wordsN s k).map u32v)) ∧ Below w.heap.size w wr) (fun _ ti _ => 4 * n - (intOf ti).toNat)
  case atStart => exact ⟨0, by omega, rfl, hide (World.ownsRow_made w #[] 0 (Nat.le_refl _) (by decide) (by simp)), (Below.refl _ _).alloc (Nat.le_refl _) _⟩
  case round =>
    obtain ⟨k, hk, rfl, HO, hb⟩ := hrel
    obtain ⟨i, hi4⟩ : ∃ i, i = 4 * k := ⟨_, rfl⟩
    rw [← hi4]
    have HW := hide (wordsN_succ s k)
    have hib : i ≤ 1000 := by omega
    have hwl := wordsN_len s k
    by_cases hlt : k < n
    · have h4 : (i : Int) + 4 ≤ (s.size : Int) := by omega
      have hsz := hb.size
      have hln : ((wordsN s k).map u32v).length = k := by rw [List.length_map]; exact hwl
      have hown := unhide HO
      rw [← hi4] at HW
      have C := hide (specWord_any s i (by omega) (by omega))
      have hm1 : ((wordsN s k).map u32v).length + 1 ≤ maxLen := by rw [hln]; unfold maxLen; omega
      have hm2 : (((wordsN s k).map u32v).length + 1) * 4 ≤ 140737488355328 := by rw [hln]; omega
      replace hm1 := hide hm1
      replace hm2 := hide hm2
      replace hi4 := hide hi4
      clear hwl hln
      generalize wAt s i = x at *
      go_wp2_with (first
        | (go_at_call 89; refine ((unhide C) _).mono ?_; rintro e w1 ⟨rfl, n1, rfl⟩)
        | (at_builtin; refine wpList_append_vals (w := wr.drewN n1) rfl (.tmp 13) (.tmp 17) 101 rfl w.heap.size w.heap.size 76 i0 (.int .u32 0) 4 Tryz.underlying101 hi hz0 hz1 hz2 rfl _ _ rfl (by exact hown) _ [.int .u32 (x : Int)] rfl (by intro u hu; simp only [List.mem_singleton] at hu; subst hu; rfl) 1 1 rfl rfl (unhide hm1) (unhide hm2) (Nat.le_refl _) hsz (Below.drewN hb n1) ?_; intro v' w2 hown2 hb2))
      have hown3 : OwnV w2 w.heap.size 76 v' ((wordsN s (k + 1)).map u32v) := by
        rw [unhide HW, List.map_append]; exact hown2
      replace hown3 := hide hown3
      clear hown2 hown
      go_roundw
      case rel => exact ⟨k + 1, by omega, by have := unhide hi4; go_num, hown3, hb2⟩
      case measure => have := unhide hi4; simp [intOf]; omega
    · have hkn : k = n := by omega
      have h4 : ¬ (i : Int) + 4 ≤ (s.size : Int) := by omega
      have hown := unhide HO
      rw [hkn] at hown
      obtain ⟨a, c, hv⟩ := hown.shape
      rw [List.length_map, wordsN_len] at hv
      replace hi4 := hide hi4
      replace hkn := hide hkn
      clear hwl
      subst hv
      replace hown := hide hown
      go_wp2
      go_ret
      exact ⟨⟨_, _, rfl, unhide hown⟩, hb⟩
end Go.Proofs.YtkbbcjnickgfjabGreat

/- Helps for spec's round: an append of words inside a region that draws; the four turns by one contract. -/
namespace Go.Proofs.YtkbbcjnickgfjabGreat
open Go.RowKit
theorem step_append_vals {P : Program} {w W : World} {ops : Array Oper} {o : Oper} {a : Act} {K : Act → World → Prop} {Q : Exit → Act → World → Prop} {E : Prop} (hg : o.guard = none) (s x : Operand) (t : TypeId)
    (ho : o.op = .call { callee := .builtin .append, args := #[s, x], argTypes := #[t, t] })
    (base B : Nat) (e : TypeId) (i : TypeInfo) (z : Value) (nb : Nat) (ht : P.underlying t = some (.slice e)) (hi : P.info? e = some i) (hz : i.zero = some z) (hsize : i.size = 1) (hby : i.bytes = nb) (hzs : z.cells.size = 1)
    (v : Value) (xs : List Value) (hs : a.eval s = v) (hown : OwnV w base e v xs)
    (cs : Array Value) (news : List Value) (hcs : cs.toList = news) (h1 : ∀ u ∈ news, u.oneCell' = true) (m c : Nat) (hm : news.length = m) (hx : a.eval x = .slice (some ⟨w.heap.size, 0, none⟩) m c)
    (hW : W = w.alloc (.cells cs e))
    (h63 : xs.length + m ≤ maxLen) (hbytes : (xs.length + m) * nb ≤ 140737488355328) (hB : B ≤ base) (hbase : base ≤ w.heap.size) {w00 : World} (hbel : Below B w00 w)
    (h : ∀ v' w', OwnV w' base e v' (xs ++ news) → Below B w00 w' → K (a.put o.dst v') w') :
    if Region.wanted o (yielded ops a.tmps) = true then Oper.wp P o a W K Q else E := by
  subst hW
  have hw : Region.wanted o (yielded ops a.tmps) = true := by simp [Region.wanted, hg]
  rw [if_pos hw]
  exact wp_append_vals s x t ho base B e i z nb ht hi hz hsize hby hzs v xs hs (hown.alloc _) w.heap.size cs (heap_alloc_new w _) news hcs h1 m c hm hx h63 hbytes hB (by simp; omega) (hbel.alloc (by omega) _) h
theorem wp_append_vals_cells {P : Program} {W : World} {o : Oper} {a : Act} {K : Act → World → Prop} {Q : Exit → Act → World → Prop} (s x : Operand) (t : TypeId)
    (ho : o.op = .call { callee := .builtin .append, args := #[s, x], argTypes := #[t, t] })
    (base B : Nat) (e : TypeId) (i : TypeInfo) (z : Value) (nb : Nat) (ht : P.underlying t = some (.slice e)) (hi : P.info? e = some i) (hz : i.zero = some z) (hsize : i.size = 1) (hby : i.bytes = nb) (hzs : z.cells.size = 1)
    (g n c0 : Nat) (xs : List Value) (hs : a.eval s = .slice (some ⟨g, 0, none⟩) n c0) (hown : OwnV W base e (.slice (some ⟨g, 0, none⟩) n c0) xs)
    (blk : Nat) (cs : Array Value) (hblk : W.heap[blk]? = some (.cells cs e (0, 0))) (news : List Value) (hcs : cs.toList = news) (h1 : ∀ u ∈ news, u.oneCell' = true) (m c : Nat) (hm : news.length = m) (hx : a.eval x = .slice (some ⟨blk, 0, none⟩) m c)
    (h63 : xs.length + m ≤ maxLen) (hbytes : (xs.length + m) * nb ≤ 140737488355328) (hB : B ≤ base) (hbase : base ≤ W.heap.size) {w00 : World} (hbel : Below B w00 W)
    (h : ∀ v' w', OwnV w' base e v' (xs ++ news) → Below B w00 w' → (∀ k u, xs[k]? = some u → w'.cell? ⟨g, k, none⟩ = some u) → K (a.put o.dst v') w') : o.wp P a W K Q := by
  subst hm
  have hcell : ∀ j u, news[j]? = some u → W.cell? ((⟨blk, 0, none⟩ : Addr).add j) = some u := by
    intro j u hu
    have hadd : (⟨blk, 0, none⟩ : Addr).add j = ⟨blk, j, none⟩ := by unfold Addr.add; split <;> simp_all
    rw [hadd, cell_of_row W blk j cs e (0, 0) hblk]
    rw [← hcs] at hu
    simpa using hu
  have hown2 : W.ownsRow base e i.size (.slice (some ⟨g, 0, none⟩) n c0) xs.length xs := by rw [hsize]; exact hown
  obtain ⟨v', w', hr, h2, h3, _⟩ := run_append_own (P := P) W base t o.type e i z i.size nb ht hi hz rfl hby (by rw [hsize]; exact hzs) (by rw [hsize]; decide) _ xs.length xs hown2 ⟨blk, 0, none⟩ news.length c news (by rw [hsize, Nat.mul_one]) hcell h1 h63 hbytes hbase
  unfold Oper.wp execOp
  simp only [ho, resolve, invoke, builtin, Sem.run_bind, Sem.run_pure, Result.andThen_ok, List.map_toArray, List.map_cons, List.map_nil, hs, hx, hr]
  have h2' : OwnV w' base e v' (xs ++ news) := by unfold OwnV; rw [List.length_append, ← hsize]; exact h2
  refine h v' w' h2' ?_ ?_
  · refine hbel.grown h3 (by omega) ?_
    intro k hk
    have := (hown.lt k hk).1
    omega
  · intro k u hk
    rcases hown.2 with ⟨h1', _⟩ | ⟨g', cap, cur, h1', hbg, hg, hnc, hcm, hsz, htk⟩
    · cases h1'
    simp only [Value.slice.injEq, Option.some.injEq, Addr.mk.injEq] at h1'
    obtain ⟨⟨rfl, _⟩, rfl, rfl⟩ := h1'
    by_cases hroom : xs.length + news.length ≤ c0
    · have hr2 := run_append_room (P := P) W t o.type e i ht hi g xs.length c0 cur hg ⟨blk, 0, none⟩ news.length c news (by rw [hsize, Nat.mul_one]) hcell h1 hroom (by rw [hsize, hsz]; omega)
      rw [hr] at hr2
      injection hr2 with e1 e2
      subst e1
      exact h2'.cell (by rw [List.getElem?_append_left (by exact (List.getElem?_eq_some_iff.mp hk).1)]; exact hk)
    · have holds : ∀ j u, xs[j]? = some u → W.cell? ((⟨g, 0, none⟩ : Addr).add j) = some u := World.ownsRow.cells hown (g := g) rfl
      have hr2 := run_append_grow (P := P) W t o.type e i z ht hi hz ⟨g, 0, none⟩ xs.length c0 xs (by rw [hsize, Nat.mul_one]) holds ⟨blk, 0, none⟩ news.length c news (by rw [hsize, Nat.mul_one]) hcell (by omega) (by simp only [maxLen] at h63; omega) (growslice_fits (by omega) (by rw [hby]; exact hbytes))
      rw [hr] at hr2
      injection hr2 with e1 e2
      rw [e2]
      have hb0 : Below W.heap.size W (W.drew.alloc (.cells (xs.toArray ++ news.toArray ++ Builtin.zeroCells z.cells (grownCap W (xs.length + news.length) c0 e - (xs.length + news.length))) e)) := ((Below.refl W.heap.size W).drew).alloc (Nat.le_refl _) _
      rw [hb0.cell (p := ⟨g, k, none⟩) (by exact (hown.lt g rfl).2)]
      exact hown.cell hk
theorem step_append_vals_cells {P : Program} {w W : World} {ops : Array Oper} {o : Oper} {a : Act} {K : Act → World → Prop} {Q : Exit → Act → World → Prop} {E : Prop} (hg : o.guard = none) (s x : Operand) (t : TypeId)
    (ho : o.op = .call { callee := .builtin .append, args := #[s, x], argTypes := #[t, t] })
    (base B : Nat) (e : TypeId) (i : TypeInfo) (z : Value) (nb : Nat) (ht : P.underlying t = some (.slice e)) (hi : P.info? e = some i) (hz : i.zero = some z) (hsize : i.size = 1) (hby : i.bytes = nb) (hzs : z.cells.size = 1)
    (g n c0 : Nat) (xs : List Value) (hs : a.eval s = .slice (some ⟨g, 0, none⟩) n c0) (hown : OwnV w base e (.slice (some ⟨g, 0, none⟩) n c0) xs)
    (cs : Array Value) (news : List Value) (hcs : cs.toList = news) (h1 : ∀ u ∈ news, u.oneCell' = true) (m c : Nat) (hm : news.length = m) (hx : a.eval x = .slice (some ⟨w.heap.size, 0, none⟩) m c)
    (hW : W = w.alloc (.cells cs e))
    (h63 : xs.length + m ≤ maxLen) (hbytes : (xs.length + m) * nb ≤ 140737488355328) (hB : B ≤ base) (hbase : base ≤ w.heap.size) {w00 : World} (hbel : Below B w00 w)
    (h : ∀ v' w', OwnV w' base e v' (xs ++ news) → Below B w00 w' → (∀ k u, xs[k]? = some u → w'.cell? ⟨g, k, none⟩ = some u) → K (a.put o.dst v') w') :
    if Region.wanted o (yielded ops a.tmps) = true then Oper.wp P o a W K Q else E := by
  subst hW
  have hw : Region.wanted o (yielded ops a.tmps) = true := by simp [Region.wanted, hg]
  rw [if_pos hw]
  exact wp_append_vals_cells s x t ho base B e i z nb ht hi hz hsize hby hzs g n c0 xs hs (hown.alloc _) w.heap.size cs (heap_alloc_new w _) news hcs h1 m c hm hx h63 hbytes hB (by simp; omega) (hbel.alloc (by omega) _) h
theorem step_append_one {P : Program} {w W : World} {ops : Array Oper} {o : Oper} {a : Act} {K : Act → World → Prop} {Q : Exit → Act → World → Prop} {E : Prop} {e : TypeId} {x : Int} (hW : W = w.alloc (.cells #[.int .u32 x] e)) (hg : o.guard = none) (s y : Operand) (t : TypeId)
    (ho : o.op = .call { callee := .builtin .append, args := #[s, y], argTypes := #[t, t] })
    (base B : Nat) (i : TypeInfo) (z : Value) (nb : Nat) (ht : P.underlying t = some (.slice e)) (hi : P.info? e = some i) (hz : i.zero = some z) (hsize : i.size = 1) (hby : i.bytes = nb) (hzs : z.cells.size = 1)
    (g n c0 : Nat) (xs : List Value) (hs : a.eval s = .slice (some ⟨g, 0, none⟩) n c0) (hown : OwnV w base e (.slice (some ⟨g, 0, none⟩) n c0) xs)
    (hx : a.eval y = .slice (some ⟨w.heap.size, 0, none⟩) 1 1)
    (h63 : xs.length + 1 ≤ maxLen) (hbytes : (xs.length + 1) * nb ≤ 140737488355328) (hB : B ≤ base) (hbase : base ≤ w.heap.size) {w00 : World} (hbel : Below B w00 w)
    (h : ∀ v' w', OwnV w' base e v' (xs ++ [.int .u32 x]) → Below B w00 w' → (∀ k u, xs[k]? = some u → w'.cell? ⟨g, k, none⟩ = some u) → K (a.put o.dst v') w') :
    if Region.wanted o (yielded ops a.tmps) = true then Oper.wp P o a W K Q else E :=
  step_append_vals_cells hg s y t ho base B e i z nb ht hi hz hsize hby hzs g n c0 xs hs hown #[.int .u32 x] [.int .u32 x] rfl (by intro u hu; simp only [List.mem_singleton] at hu; subst hu; rfl) 1 1 rfl hx hW h63 hbytes hB hbase hbel h
theorem cell_drew_alloc {w : World} {n : Nat} {o : Obj} {g k : Nat} {u : Value} (h : w.cell? ⟨g, k, none⟩ = some u) (hg : g < w.heap.size) : ((w.drewN n).alloc o).cell? ⟨g, k, none⟩ = some u := by
  have hb : Below w.heap.size w ((w.drewN n).alloc o) := (Below.drewN (Below.refl w.heap.size w) n).alloc (Nat.le_refl _) _
  rw [hb.cell (p := ⟨g, k, none⟩) hg]
  exact h
theorem wpList_copy_vals {P : Program} {w : World} {ops : Array Oper} {rest : List Oper} {o : Oper} {a : Act} {Q : Exit → Act → World → Prop} (hgd : o.guard = none) (s x : Operand) (t : TypeId)
    (ho : o.op = .call { callee := .builtin .append, args := #[s, x], argTypes := #[t, t] })
    (e : TypeId) (i : TypeInfo) (z : Value) (nb : Nat) (ht : P.underlying t = some (.slice e)) (hi : P.info? e = some i) (hz : i.zero = some z) (hsize : i.size = 1) (hby : i.bytes = nb) (hzs : z.cells.size = 1)
    (hs : a.eval s = .slice (some ⟨w.heap.size, 0, none⟩) 0 0) (b g n c : Nat) (news : List Value) (hx : a.eval x = .slice (some ⟨g, 0, none⟩) n c) (hA : OwnV w b e (.slice (some ⟨g, 0, none⟩) n c) news) (hn : news.length = n) (h1 : ∀ u ∈ news, u.oneCell' = true)
    (h63 : n ≤ maxLen) (hbytes : n * nb ≤ 140737488355328)
    (h : ∀ v' w', OwnV w' w.heap.size e v' news → Below w.heap.size w w' → wpList P ops Q rest (a.put o.dst v') w') :
    wpList P ops Q (o :: rest) a (w.alloc (.cells #[] e)) := by
  have hE : (w.alloc (.cells #[] e)).ownsRow w.heap.size e 1 (.slice (some ⟨w.heap.size, 0, none⟩) 0 0) 0 [] := World.ownsRow_made w #[] 0 (Nat.le_refl _) (by decide) (by simp)
  refine wpList_append_own (w.alloc (.cells #[] e)) hgd s x t ho w.heap.size e i z 1 nb ht hi hz hsize hby hzs (by decide) _ 0 [] hs hE ⟨g, 0, none⟩ n c news hx (by rw [hn, Nat.mul_one]) (World.ownsRow.cells (hA.alloc _) (g := g) rfl) h1 (by omega) (by rw [Nat.zero_add]; exact hbytes) (by simp) ?_
  intro v' w' h2 h3 _
  refine h v' w' (by unfold OwnV; rw [hn]; simpa using h2) ?_
  exact ((Below.refl w.heap.size w).alloc (Nat.le_refl _) _).grown h3 (by simp) (fun k hk => by simp [Value.ownBlock] at hk; omega)
/- the eight words, moved up by one from the top down to the place j -/
def shL (l : List Value) (j : Nat) : List Value := l.take (j + 1) ++ (l.drop j).take (7 - j)
theorem shL_all (a b c d e f g h : Value) : shL [a, b, c, d, e, f, g, h] 7 = [a, b, c, d, e, f, g, h] := rfl
theorem shL_none (a b c d e f g h : Value) : shL [a, b, c, d, e, f, g, h] 0 = [a, a, b, c, d, e, f, g] := rfl
theorem shL_set (a b c d e f g h : Value) (j : Nat) (h1 : 0 < j) (h7 : j ≤ 7) : ∃ u, (shL [a, b, c, d, e, f, g, h] j)[j - 1]? = some u ∧ (shL [a, b, c, d, e, f, g, h] j).set j u = shL [a, b, c, d, e, f, g, h] (j - 1) ∧ (u = a ∨ u = b ∨ u = c ∨ u = d ∨ u = e ∨ u = f ∨ u = g) := by
  obtain rfl | rfl | rfl | rfl | rfl | rfl | rfl : j = 1 ∨ j = 2 ∨ j = 3 ∨ j = 4 ∨ j = 5 ∨ j = 6 ∨ j = 7 := by omega
  · exact ⟨a, rfl, rfl, .inl rfl⟩
  · exact ⟨b, rfl, rfl, .inr (.inl rfl)⟩
  · exact ⟨c, rfl, rfl, .inr (.inr (.inl rfl))⟩
  · exact ⟨d, rfl, rfl, .inr (.inr (.inr (.inl rfl)))⟩
  · exact ⟨e, rfl, rfl, .inr (.inr (.inr (.inr (.inl rfl))))⟩
  · exact ⟨f, rfl, rfl, .inr (.inr (.inr (.inr (.inr (.inl rfl)))))⟩
  · exact ⟨g, rfl, rfl, .inr (.inr (.inr (.inr (.inr (.inr rfl)))))⟩
theorem shL_at (a b c d e f g h : Nat) (j : Nat) (h1 : 0 < j) (h7 : j ≤ 7) : ∃ u : Nat, (shL ([a, b, c, d, e, f, g, h].map u32v) j)[j - 1]? = some (.int .u32 (u : Int)) ∧ (shL ([a, b, c, d, e, f, g, h].map u32v) j).set j (.int .u32 (u : Int)) = shL ([a, b, c, d, e, f, g, h].map u32v) (j - 1) := by
  obtain ⟨u, h1, h2, h3⟩ := shL_set (u32v a) (u32v b) (u32v c) (u32v d) (u32v e) (u32v f) (u32v g) (u32v h) j h1 h7
  rcases h3 with rfl | rfl | rfl | rfl | rfl | rfl | rfl
  · exact ⟨a, h1, h2⟩
  · exact ⟨b, h1, h2⟩
  · exact ⟨c, h1, h2⟩
  · exact ⟨d, h1, h2⟩
  · exact ⟨e, h1, h2⟩
  · exact ⟨f, h1, h2⟩
  · exact ⟨g, h1, h2⟩
theorem shL_len (a b c d e f g h : Nat) (j : Nat) (h7 : j ≤ 7) : (shL ([a, b, c, d, e, f, g, h].map u32v) j).length = 8 := by
  unfold shL
  simp
  omega
theorem grown_drew {a b : World} {g : Nat} (h : a.grownBy b (some g)) (n : Nat) : a.grownBy (b.drewN n) (some g) := ⟨h.1, h.2, h.3, h.4, h.5⟩
theorem grown_set {a b : World} {g : Nat} (h : a.grownBy b (some g)) (o : Nat) (u : Value) : a.grownBy (b.setCell ⟨g, o, none⟩ u) (some g) :=
  ⟨h.1, h.2, h.3, by simpa using h.4, fun k hk hne => by
    have e := RowKit.Below.heap_setCell b ⟨g, o, none⟩ u k (fun e => hne (by rw [e]))
    rw [e]; exact h.5 k hk hne⟩
theorem grown_refl (w : World) (g : Nat) : w.grownBy w (some g) := ⟨rfl, rfl, rfl, Nat.le_refl _, fun _ _ _ => rfl⟩
theorem OwnV.grown2 {w w' : World} {base g n c : Nat} {k : Nat} {e : TypeId} {xs : List Value} (h : OwnV w base e (.slice (some ⟨k, 0, none⟩) n c) xs) (hg : w.grownBy w' (some g)) (hne : k ≠ g) : OwnV w' base e (.slice (some ⟨k, 0, none⟩) n c) xs :=
  World.ownsRow.kept h hg (by simp [Value.ownBlock]; omega)
theorem step_append_lone {P : Program} {w W : World} {ops : Array Oper} {o : Oper} {a : Act} {K : Act → World → Prop} {Q : Exit → Act → World → Prop} {E : Prop} {e : TypeId} {x : Int} (hW : W = w.alloc (.cells #[.int .u32 x] e)) (hg : o.guard = none) (s y : Operand) (t : TypeId)
    (ho : o.op = .call { callee := .builtin .append, args := #[s, y], argTypes := #[t, t] })
    (base B : Nat) (i : TypeInfo) (z : Value) (nb : Nat) (ht : P.underlying t = some (.slice e)) (hi : P.info? e = some i) (hz : i.zero = some z) (hsize : i.size = 1) (hby : i.bytes = nb) (hzs : z.cells.size = 1)
    (v : Value) (xs : List Value) (hs : a.eval s = v) (hown : OwnV w base e v xs)
    (hx : a.eval y = .slice (some ⟨w.heap.size, 0, none⟩) 1 1)
    (h63 : xs.length + 1 ≤ maxLen) (hbytes : (xs.length + 1) * nb ≤ 140737488355328) (hB : B ≤ base) (hbase : base ≤ w.heap.size) {w00 : World} (hbel : Below B w00 w)
    (h : ∀ v' w', OwnV w' base e v' (xs ++ [.int .u32 x]) → Below B w00 w' → K (a.put o.dst v') w') :
    if Region.wanted o (yielded ops a.tmps) = true then Oper.wp P o a W K Q else E :=
  step_append_vals hg s y t ho base B e i z nb ht hi hz hsize hby hzs v xs hs hown #[.int .u32 x] [.int .u32 x] rfl (by intro u hu; simp only [List.mem_singleton] at hu; subst hu; rfl) 1 1 rfl hx hW h63 hbytes hB hbase hbel h
theorem plus_take (v u : V8) (k : Nat) (hk : k < 8) : (v.plus u).toL.take (k + 1) = (v.plus u).toL.take k ++ [(at_ v.toL k + at_ u.toL k) % 4294967296] := by
  obtain rfl | rfl | rfl | rfl | rfl | rfl | rfl | rfl : k = 0 ∨ k = 1 ∨ k = 2 ∨ k = 3 ∨ k = 4 ∨ k = 5 ∨ k = 6 ∨ k = 7 := by omega
  all_goals rfl
theorem take_len8 (v : V8) (k : Nat) (hk : k ≤ 8) : ((v.toL.take k).map u32v).length = k := by
  rw [List.length_map, List.length_take, show v.toL.length = 8 from rfl]; omega
def sgV (A : Int) (x : Nat) : Nat := if A = 131072 then sg2 17 19 10 x else if A = 128 then sg2 7 18 3 x else if A = 64 then sg3 6 11 25 x else sg3 2 13 22 x
theorem sgV_a (x : Nat) : sgV 131072 x = sg2 17 19 10 x := by unfold sgV; rw [if_pos rfl]
theorem sgV_b (x : Nat) : sgV 128 x = sg2 7 18 3 x := by unfold sgV; rw [if_neg (by decide), if_pos rfl]
theorem sgV_c (x : Nat) : sgV 64 x = sg3 6 11 25 x := by unfold sgV; rw [if_neg (by decide), if_neg (by decide), if_pos rfl]
theorem sgV_d (x : Nat) : sgV 4 x = sg3 2 13 22 x := by unfold sgV; rw [if_neg (by decide), if_neg (by decide), if_neg (by decide)]
theorem specS_lit (x : Nat) (A B C : Int) (b : Bool) (hx : x < 4294967296) (h : (A = 131072 ∧ B = 524288 ∧ C = 1024 ∧ b = true) ∨ (A = 128 ∧ B = 262144 ∧ C = 8 ∧ b = true) ∨ (A = 64 ∧ B = 2048 ∧ C = 33554432 ∧ b = false) ∨ (A = 4 ∧ B = 8192 ∧ C = 4194304 ∧ b = false)) (w : World) :
    Calls Tryz.prog 90 #[.int .u32 (x : Int), .int .u32 A, .int .u32 B, .int .u32 C, .bool b] w fun e w' => e = .returned (.int .u32 (sgV A x : Int)) ∧ ∃ n, w' = w.drewN n := by
  rcases h with ⟨rfl, rfl, rfl, rfl⟩ | ⟨rfl, rfl, rfl, rfl⟩ | ⟨rfl, rfl, rfl, rfl⟩ | ⟨rfl, rfl, rfl, rfl⟩
  · rw [sgV_a]; exact specS_a x hx w
  · rw [sgV_b]; exact specS_b x hx w
  · rw [sgV_c]; exact specS_c x hx w
  · rw [sgV_d]; exact specS_d x hx w
end Go.Proofs.YtkbbcjnickgfjabGreat

