/- The block's words by impl, over the loaded program. -/
import Derived.Test.YtecbpplocokedaaShaI
import Derived.Test.YtecbpplocokedaaArr
import Derived.Laws.CopyOwn
namespace Go.Proofs.Ytecbpplocokedaa
open Go.RowKit
def zeros64 : List Nat := List.replicate 64 0
theorem fill_len {l : List Nat} {k : Nat} (h : l.length = k) (hk : k ≤ 64) : (l ++ List.replicate (64 - k) 0).length = 64 := by simp [h]; omega
theorem fill_set {l : List Nat} {k : Nat} (h : l.length = k) (hk : k < 64) (v : Nat) : (l ++ List.replicate (64 - k) 0).set k v = (l ++ [v]) ++ List.replicate (64 - (k + 1)) 0 := by
  rw [List.set_append_right _ _ (by omega), show 64 - k = (64 - (k + 1)) + 1 by omega, List.replicate_succ, h, Nat.sub_self]
  simp
theorem fill_at {l : List Nat} {k i : Nat} (h : l.length = k) (hi : i < k) : at_ (l ++ List.replicate (64 - k) 0) i = at_ l i := by
  unfold at_
  rw [List.getD_eq_getElem?_getD, List.getD_eq_getElem?_getD, List.getElem?_append_left (by omega)]
theorem sched_lt_all (s : ByteArray) (m : Nat) : ∀ x ∈ schedN (wordsN s 16) m, x < 4294967296 := by
  induction m with
  | zero =>
    intro x hx
    simp only [schedN, wordsN, List.mem_map] at hx
    obtain ⟨i, _, rfl⟩ := hx
    exact wAt_lt _ _
  | succ m ih =>
    intro x hx
    simp only [schedN, List.mem_append, List.mem_singleton] at hx
    rcases hx with hx | rfl
    · exact ih x hx
    · exact Nat.mod_lt _ (by decide)
theorem at_lt {l : List Nat} (h : ∀ x ∈ l, x < 4294967296) (p : Nat) : at_ l p < 4294967296 := by
  unfold at_
  rw [List.getD_eq_getElem?_getD]
  by_cases hp : p < l.length
  · rw [List.getElem?_eq_getElem hp]; exact h _ (List.getElem_mem hp)
  · rw [List.getElem?_eq_none (by omega)]; decide
theorem sched_lt (s : ByteArray) (m p : Nat) : at_ (schedN (wordsN s 16) m) p < 4294967296 := at_lt (sched_lt_all s m) p
theorem len64 : Try.prog.arrayLen 81 = 64 := by kernel_rfl
theorem idx64 (g k : Nat) (h : (k : Int) < 64) (W : World) : (Instr.indexAt 81 (.pointer (some ⟨g, 0, none⟩)) (.int .i64 (k : Int))).run Try.prog W = .ok (.pointer (some ⟨g, k, none⟩)) W := by
  have hu : Try.prog.underlying 81 = some (.array (Try.prog.arrayLen 81) (Try.prog.elem 81)) := by kernel_rfl
  have he : Try.prog.elem 81 = 65 := by kernel_rfl
  have h1 : (0 : Int) ≤ (k : Int) ∧ (k : Int) < ((Try.prog.arrayLen 81 : Nat) : Int) := by rw [len64]; exact ⟨by omega, by omega⟩
  rw [run_indexAt_array (P := Try.prog) (w := W) 81 ⟨g, 0, none⟩ .i64 (k : Int) hu, if_pos h1, he]
  simp [go_sem, Addr.add]
  intro h; exact h.symm
theorem cell_by {w : World} {g p t : Nat} {u v : Value} (h : w.cell? ⟨g, p, none⟩ = some u) (hp : p ≠ t) : (w.setCell ⟨g, t, none⟩ v).cell? ⟨g, p, none⟩ = some u := by
  rw [World.cell?_setCell_other _ _ _ _ (by intro hh; apply hp; exact (by simpa using congrArg Addr.off hh : t = p).symm)]
  exact h
theorem two_arrs (w : World) (T : TypeId) (l : List Nat) : ArrAt ((w.alloc (.cells (l.map u32v).toArray T)).alloc (.cells (l.map u32v).toArray T)) (w.heap.size + 1) T l ∧ ArrAt ((w.alloc (.cells (l.map u32v).toArray T)).alloc (.cells (l.map u32v).toArray T)) w.heap.size T l ∧ Below w.heap.size w ((w.alloc (.cells (l.map u32v).toArray T)).alloc (.cells (l.map u32v).toArray T)) := by
  refine ⟨?_, (ArrAt.new w T l).alloc _, ?_⟩
  · have := ArrAt.new (w.alloc (.cells (l.map u32v).toArray T)) T l
    simpa using this
  · exact ((Below.refl w.heap.size w).alloc (Nat.le_refl _) _).alloc (by simp) _
theorem two_z64 (w : World) (T : TypeId) : ArrAt ((w.alloc (.cells #[.int .u32 0, .int .u32 0, .int .u32 0, .int .u32 0, .int .u32 0, .int .u32 0, .int .u32 0, .int .u32 0, .int .u32 0, .int .u32 0, .int .u32 0, .int .u32 0, .int .u32 0, .int .u32 0, .int .u32 0, .int .u32 0, .int .u32 0, .int .u32 0, .int .u32 0, .int .u32 0, .int .u32 0, .int .u32 0, .int .u32 0, .int .u32 0, .int .u32 0, .int .u32 0, .int .u32 0, .int .u32 0, .int .u32 0, .int .u32 0, .int .u32 0, .int .u32 0, .int .u32 0, .int .u32 0, .int .u32 0, .int .u32 0, .int .u32 0, .int .u32 0, .int .u32 0, .int .u32 0, .int .u32 0, .int .u32 0, .int .u32 0, .int .u32 0, .int .u32 0, .int .u32 0, .int .u32 0, .int .u32 0, .int .u32 0, .int .u32 0, .int .u32 0, .int .u32 0, .int .u32 0, .int .u32 0, .int .u32 0, .int .u32 0, .int .u32 0, .int .u32 0, .int .u32 0, .int .u32 0, .int .u32 0, .int .u32 0, .int .u32 0, .int .u32 0] T)).alloc (.cells #[.int .u32 0, .int .u32 0, .int .u32 0, .int .u32 0, .int .u32 0, .int .u32 0, .int .u32 0, .int .u32 0, .int .u32 0, .int .u32 0, .int .u32 0, .int .u32 0, .int .u32 0, .int .u32 0, .int .u32 0, .int .u32 0, .int .u32 0, .int .u32 0, .int .u32 0, .int .u32 0, .int .u32 0, .int .u32 0, .int .u32 0, .int .u32 0, .int .u32 0, .int .u32 0, .int .u32 0, .int .u32 0, .int .u32 0, .int .u32 0, .int .u32 0, .int .u32 0, .int .u32 0, .int .u32 0, .int .u32 0, .int .u32 0, .int .u32 0, .int .u32 0, .int .u32 0, .int .u32 0, .int .u32 0, .int .u32 0, .int .u32 0, .int .u32 0, .int .u32 0, .int .u32 0, .int .u32 0, .int .u32 0, .int .u32 0, .int .u32 0, .int .u32 0, .int .u32 0, .int .u32 0, .int .u32 0, .int .u32 0, .int .u32 0, .int .u32 0, .int .u32 0, .int .u32 0, .int .u32 0, .int .u32 0, .int .u32 0, .int .u32 0, .int .u32 0] T)) (w.heap.size + 1) T zeros64 ∧ ArrAt ((w.alloc (.cells #[.int .u32 0, .int .u32 0, .int .u32 0, .int .u32 0, .int .u32 0, .int .u32 0, .int .u32 0, .int .u32 0, .int .u32 0, .int .u32 0, .int .u32 0, .int .u32 0, .int .u32 0, .int .u32 0, .int .u32 0, .int .u32 0, .int .u32 0, .int .u32 0, .int .u32 0, .int .u32 0, .int .u32 0, .int .u32 0, .int .u32 0, .int .u32 0, .int .u32 0, .int .u32 0, .int .u32 0, .int .u32 0, .int .u32 0, .int .u32 0, .int .u32 0, .int .u32 0, .int .u32 0, .int .u32 0, .int .u32 0, .int .u32 0, .int .u32 0, .int .u32 0, .int .u32 0, .int .u32 0, .int .u32 0, .int .u32 0, .int .u32 0, .int .u32 0, .int .u32 0, .int .u32 0, .int .u32 0, .int .u32 0, .int .u32 0, .int .u32 0, .int .u32 0, .int .u32 0, .int .u32 0, .int .u32 0, .int .u32 0, .int .u32 0, .int .u32 0, .int .u32 0, .int .u32 0, .int .u32 0, .int .u32 0, .int .u32 0, .int .u32 0, .int .u32 0] T)).alloc (.cells #[.int .u32 0, .int .u32 0, .int .u32 0, .int .u32 0, .int .u32 0, .int .u32 0, .int .u32 0, .int .u32 0, .int .u32 0, .int .u32 0, .int .u32 0, .int .u32 0, .int .u32 0, .int .u32 0, .int .u32 0, .int .u32 0, .int .u32 0, .int .u32 0, .int .u32 0, .int .u32 0, .int .u32 0, .int .u32 0, .int .u32 0, .int .u32 0, .int .u32 0, .int .u32 0, .int .u32 0, .int .u32 0, .int .u32 0, .int .u32 0, .int .u32 0, .int .u32 0, .int .u32 0, .int .u32 0, .int .u32 0, .int .u32 0, .int .u32 0, .int .u32 0, .int .u32 0, .int .u32 0, .int .u32 0, .int .u32 0, .int .u32 0, .int .u32 0, .int .u32 0, .int .u32 0, .int .u32 0, .int .u32 0, .int .u32 0, .int .u32 0, .int .u32 0, .int .u32 0, .int .u32 0, .int .u32 0, .int .u32 0, .int .u32 0, .int .u32 0, .int .u32 0, .int .u32 0, .int .u32 0, .int .u32 0, .int .u32 0, .int .u32 0, .int .u32 0] T)) w.heap.size T zeros64 ∧ Below w.heap.size w ((w.alloc (.cells #[.int .u32 0, .int .u32 0, .int .u32 0, .int .u32 0, .int .u32 0, .int .u32 0, .int .u32 0, .int .u32 0, .int .u32 0, .int .u32 0, .int .u32 0, .int .u32 0, .int .u32 0, .int .u32 0, .int .u32 0, .int .u32 0, .int .u32 0, .int .u32 0, .int .u32 0, .int .u32 0, .int .u32 0, .int .u32 0, .int .u32 0, .int .u32 0, .int .u32 0, .int .u32 0, .int .u32 0, .int .u32 0, .int .u32 0, .int .u32 0, .int .u32 0, .int .u32 0, .int .u32 0, .int .u32 0, .int .u32 0, .int .u32 0, .int .u32 0, .int .u32 0, .int .u32 0, .int .u32 0, .int .u32 0, .int .u32 0, .int .u32 0, .int .u32 0, .int .u32 0, .int .u32 0, .int .u32 0, .int .u32 0, .int .u32 0, .int .u32 0, .int .u32 0, .int .u32 0, .int .u32 0, .int .u32 0, .int .u32 0, .int .u32 0, .int .u32 0, .int .u32 0, .int .u32 0, .int .u32 0, .int .u32 0, .int .u32 0, .int .u32 0, .int .u32 0] T)).alloc (.cells #[.int .u32 0, .int .u32 0, .int .u32 0, .int .u32 0, .int .u32 0, .int .u32 0, .int .u32 0, .int .u32 0, .int .u32 0, .int .u32 0, .int .u32 0, .int .u32 0, .int .u32 0, .int .u32 0, .int .u32 0, .int .u32 0, .int .u32 0, .int .u32 0, .int .u32 0, .int .u32 0, .int .u32 0, .int .u32 0, .int .u32 0, .int .u32 0, .int .u32 0, .int .u32 0, .int .u32 0, .int .u32 0, .int .u32 0, .int .u32 0, .int .u32 0, .int .u32 0, .int .u32 0, .int .u32 0, .int .u32 0, .int .u32 0, .int .u32 0, .int .u32 0, .int .u32 0, .int .u32 0, .int .u32 0, .int .u32 0, .int .u32 0, .int .u32 0, .int .u32 0, .int .u32 0, .int .u32 0, .int .u32 0, .int .u32 0, .int .u32 0, .int .u32 0, .int .u32 0, .int .u32 0, .int .u32 0, .int .u32 0, .int .u32 0, .int .u32 0, .int .u32 0, .int .u32 0, .int .u32 0, .int .u32 0, .int .u32 0, .int .u32 0, .int .u32 0] T)) := two_arrs w T zeros64
theorem Below.drewN {B : Nat} {a w : World} (h : Below B a w) (n : Nat) : Below B a (w.drewN n) := ⟨h.os, h.tape, h.output, h.size, h.block⟩
theorem implTwo_lit (x : Nat) (A B C : Int) (hx : x < 4294967296) (h : (A = 17 ∧ B = 19 ∧ C = 10) ∨ (A = 7 ∧ B = 18 ∧ C = 3)) (w : World) :
    Calls Try.prog 71 #[.int .u32 (x : Int), .int .i64 A, .int .i64 B, .int .i64 C] w fun e w' => e = .returned (.int .u32 (sg2 A.toNat B.toNat C.toNat x : Int)) ∧ ∃ n, w' = w.drewN n := by
  rcases h with ⟨rfl, rfl, rfl⟩ | ⟨rfl, rfl, rfl⟩
  · exact implTwo_any x 17 19 10 hx (by decide) (by decide) (by decide) (by decide) (by decide) (by decide) w
  · exact implTwo_any x 7 18 3 hx (by decide) (by decide) (by decide) (by decide) (by decide) (by decide) w
set_option maxHeartbeats 2000000 in
set_option maxRecDepth 20000 in
theorem implWords_any (s : ByteArray) (hs : s.size = 64) (w : World) :
    Calls Try.prog 57 #[.string s] w fun e w' => e = .returned (aggV (schedN (wordsN s 16) 48)) ∧ Below w.heap.size w w' := by
  have H2 := hide (two_arrs w 81 zeros64)
  go_enter Try.func57, Try.ntmps57
  go_wp2
  go_loopw [6] (fun ti wr => ∃ k : Nat, k ≤ 16 ∧ ti = .int .i64 k ∧ Hid (ArrAt wr (w.heap.size + 1) 81 (wordsN s k ++ List.replicate (64 - k) 0)) ∧ Hid (ArrAt wr w.heap.size 81 zeros64) ∧ Below w.heap.size w wr) (fun ti _ => 16 - (intOf ti).toNat)
  case atStart => exact ⟨0, Nat.zero_le _, rfl, hide (unhide H2).1, hide (unhide H2).2.1, (unhide H2).2.2⟩
  case round =>
    obtain ⟨k, hk, rfl, HA, HR, hb⟩ := hrel
    by_cases hlt : k < 16
    · have hsz := hb.size
      have cA := (unhide HA).cell k (by simp [wordsN_len]; omega)
      have fA := (unhide HA).frozen k
      have m4 : IntKind.i64.wrap (4 * (k : Int)) = ((4 * k : Nat) : Int) := by rw [IntKind.wrap_i64]; omega
      have hA2 := (unhide HA).set k (wAt s (4 * k))
      rw [fill_set (wordsN_len s k) (by omega), ← wordsN_succ] at hA2
      have hA3 : ∀ n, ArrAt ((wr.drewN n).setCell ⟨w.heap.size + 1, k, none⟩ (.int .u32 (wAt s (4 * k) : Int))) (w.heap.size + 1) 81 (wordsN s (k + 1) ++ List.replicate (64 - (k + 1)) 0) := by
        intro n
        have := ((unhide HA).drewN n).set k (wAt s (4 * k))
        rwa [fill_set (wordsN_len s k) (by omega), ← wordsN_succ] at this
      have hR3 : ∀ n, ArrAt ((wr.drewN n).setCell ⟨w.heap.size + 1, k, none⟩ (.int .u32 (wAt s (4 * k) : Int))) w.heap.size 81 zeros64 := by
        intro n
        exact ((unhide HR).drewN n).below (B := w.heap.size + 1) ((Below.refl _ _).setCell (p := ⟨w.heap.size + 1, k, none⟩) (Nat.le_refl _) _) (by omega)
      have HA3 := hide hA3
      have HR3 := hide hR3
      clear hA3 hR3 hA2
      go_wp2_with (go_at_call 70; refine (implWord_any s (4 * k) (by omega) (by omega) _).mono ?_; rintro e w1 ⟨rfl, n1, rfl⟩)
      go_roundw
      case rel => exact ⟨k + 1, by omega, by go_num, hide ((unhide HA3) n1), hide ((unhide HR3) n1), (Below.drewN hb n1).setCell (p := ⟨w.heap.size + 1, k, none⟩) (by show w.heap.size ≤ w.heap.size + 1; omega) _⟩
      case measure => simp [intOf]; omega
    · have hk' := hide (show k = 16 by omega)
      clear H2
      have hA1 : ArrAt wr (w.heap.size + 1) 81 (schedN (wordsN s 16) 0 ++ List.replicate (64 - (16 + 0)) 0) := by
        have := unhide HA
        rw [unhide hk'] at this
        exact this
      replace hA1 := hide hA1
      go_wp2
      go_loopw [5] (fun ti wq => ∃ m : Nat, m ≤ 48 ∧ ti = .int .i64 ((16 + m : Nat) : Int) ∧ Hid (ArrAt wq (w.heap.size + 1) 81 (schedN (wordsN s 16) m ++ List.replicate (64 - (16 + m)) 0)) ∧ Hid (ArrAt wq w.heap.size 81 zeros64) ∧ Below w.heap.size w wq) (fun ti _ => 64 - (intOf ti).toNat)
      case atStart => exact ⟨0, by omega, rfl, hA1, HR, hb⟩
      case round =>
        clear HA HR hb hA1
        obtain ⟨m, hm, rfl, HA, HR, hb⟩ := hrel
        have HL := hide (schedN_len (wordsN s 16) (wordsN_len s 16) m)
        by_cases hlt : m < 48
        · obtain ⟨t, ht⟩ : ∃ t, t = 16 + m := ⟨_, rfl⟩
          have htl : t < 64 := by omega
          have htg : 16 ≤ t := by omega
          rw [← ht] at HA HL ⊢
          have hsz := hb.size
          obtain ⟨p2, hp2⟩ : ∃ p, p = t - 2 := ⟨_, rfl⟩
          have c2 := (unhide HA).cell p2 (by rw [fill_len (unhide HL) (by omega)]; omega)
          rw [fill_at (unhide HL) (by omega)] at c2
          have e2 : IntKind.i64.wrap ((t : Int) - 2) = (p2 : Int) := by rw [IntKind.wrap_i64]; omega
          have l2 : (p2 : Int) < 64 := by omega
          have x2 := hide (sched_lt s m p2)
          have d2 := hide (show p2 ≠ t by omega)
          replace hp2 := hide hp2
          have I2 := idx64 (w.heap.size + 1) p2 l2
          obtain ⟨q2, hq2⟩ : ∃ q, q = at_ (schedN (wordsN s 16) m) p2 := ⟨_, rfl⟩
          rw [← hq2] at c2 x2
          replace hq2 := hide hq2
          obtain ⟨p7, hp7⟩ : ∃ p, p = t - 7 := ⟨_, rfl⟩
          have c7 := (unhide HA).cell p7 (by rw [fill_len (unhide HL) (by omega)]; omega)
          rw [fill_at (unhide HL) (by omega)] at c7
          have e7 : IntKind.i64.wrap ((t : Int) - 7) = (p7 : Int) := by rw [IntKind.wrap_i64]; omega
          have l7 : (p7 : Int) < 64 := by omega
          have x7 := hide (sched_lt s m p7)
          have d7 := hide (show p7 ≠ t by omega)
          replace hp7 := hide hp7
          have I7 := idx64 (w.heap.size + 1) p7 l7
          obtain ⟨q7, hq7⟩ : ∃ q, q = at_ (schedN (wordsN s 16) m) p7 := ⟨_, rfl⟩
          rw [← hq7] at c7 x7
          replace hq7 := hide hq7
          obtain ⟨p15, hp15⟩ : ∃ p, p = t - 15 := ⟨_, rfl⟩
          have c15 := (unhide HA).cell p15 (by rw [fill_len (unhide HL) (by omega)]; omega)
          rw [fill_at (unhide HL) (by omega)] at c15
          have e15 : IntKind.i64.wrap ((t : Int) - 15) = (p15 : Int) := by rw [IntKind.wrap_i64]; omega
          have l15 : (p15 : Int) < 64 := by omega
          have x15 := hide (sched_lt s m p15)
          have d15 := hide (show p15 ≠ t by omega)
          replace hp15 := hide hp15
          have I15 := idx64 (w.heap.size + 1) p15 l15
          obtain ⟨q15, hq15⟩ : ∃ q, q = at_ (schedN (wordsN s 16) m) p15 := ⟨_, rfl⟩
          rw [← hq15] at c15 x15
          replace hq15 := hide hq15
          obtain ⟨p16, hp16⟩ : ∃ p, p = t - 16 := ⟨_, rfl⟩
          have c16 := (unhide HA).cell p16 (by rw [fill_len (unhide HL) (by omega)]; omega)
          rw [fill_at (unhide HL) (by omega)] at c16
          have e16 : IntKind.i64.wrap ((t : Int) - 16) = (p16 : Int) := by rw [IntKind.wrap_i64]; omega
          have l16 : (p16 : Int) < 64 := by omega
          have x16 := hide (sched_lt s m p16)
          have d16 := hide (show p16 ≠ t by omega)
          replace hp16 := hide hp16
          have I16 := idx64 (w.heap.size + 1) p16 l16
          obtain ⟨q16, hq16⟩ : ∃ q, q = at_ (schedN (wordsN s 16) m) p16 := ⟨_, rfl⟩
          rw [← hq16] at c16 x16
          replace hq16 := hide hq16
          have c0 := (unhide HA).cell t (by rw [fill_len (unhide HL) (by omega)]; omega)
          have f0 := (unhide HA).frozen t
          have l0 : (t : Int) < 64 := by omega
          have I0 := idx64 (w.heap.size + 1) t l0
          replace ht := hide ht
          go_wp2
          go_region_held3 (fun W => W.cell? ⟨w.heap.size + 1, p2, none⟩ = some (.int .u32 (q2 : Int)) ∧ W.cell? ⟨w.heap.size + 1, p7, none⟩ = some (.int .u32 (q7 : Int)) ∧ W.cell? ⟨w.heap.size + 1, p15, none⟩ = some (.int .u32 (q15 : Int)) ∧ W.cell? ⟨w.heap.size + 1, p16, none⟩ = some (.int .u32 (q16 : Int))) (first | exact ⟨c2, c7, c15, c16⟩ | exact ⟨cell_by c2 (unhide d2), cell_by c7 (unhide d7), cell_by c15 (unhide d15), cell_by c16 (unhide d16)⟩) (first | (go_at_call 71; refine (implTwo_lit _ _ _ _ (by first | exact unhide x2 | exact unhide x15) (by decide) _).mono ?_; rintro e w1 ⟨rfl, n1, rfl⟩))
          obtain ⟨v, hv⟩ : ∃ v : Nat, v = moreW (schedN (wordsN s 16) m) t := ⟨_, rfl⟩
          have ev : IntKind.u32.wrap (IntKind.u32.wrap (IntKind.u32.wrap ((sg2 17 19 10 q2 : Int) + (q7 : Int)) + (sg2 7 18 3 q15 : Int)) + (q16 : Int)) = (v : Int) := by
            rw [hv, unhide hq2, unhide hq7, unhide hq15, unhide hq16, unhide hp2, unhide hp7, unhide hp15, unhide hp16]
            unfold moreW
            simp only [IntKind.wrap_u32]
            omega
          rw [ev]
          have hA3 : ∀ n, ArrAt ((wr.drewN n).setCell ⟨w.heap.size + 1, t, none⟩ (.int .u32 (v : Int))) (w.heap.size + 1) 81 (schedN (wordsN s 16) (m + 1) ++ List.replicate (64 - (16 + (m + 1))) 0) := by
            intro n
            have := ((unhide HA).drewN n).set t v
            rw [fill_set (unhide HL) (by omega), hv] at this
            rw [hv]
            have et := unhide ht
            subst et
            exact this
          have hR3 : ∀ n, ArrAt ((wr.drewN n).setCell ⟨w.heap.size + 1, t, none⟩ (.int .u32 (v : Int))) w.heap.size 81 zeros64 := by
            intro n
            exact ((unhide HR).drewN n).below (B := w.heap.size + 1) ((Below.refl _ _).setCell (p := ⟨w.heap.size + 1, t, none⟩) (Nat.le_refl _) _) (by omega)
          have HA3 := hide hA3
          have HR3 := hide hR3
          replace hv := hide hv
          clear hA3 hR3
          go_wp2
          go_roundw
          case rel => exact ⟨m + 1, by omega, by have := unhide ht; go_num, hide ((unhide HA3) _), hide ((unhide HR3) _), (Below.drewN hb _).setCell (p := ⟨w.heap.size + 1, t, none⟩) (by show w.heap.size ≤ w.heap.size + 1; omega) _⟩
          case measure => simp [intOf]; omega
        · have hm' : m = 48 := by omega
          subst hm'
          have HA4 := hide (show ArrAt wr (w.heap.size + 1) 81 (schedN (wordsN s 16) 48) by simpa using unhide HA)
          have hL48 := unhide HL
          have hi48 : (Try.prog.info? 81).map (·.size) = some (schedN (wordsN s 16) 48).length := by rw [hL48]; kernel_rfl
          replace hi48 := hide hi48
          replace hL48 := hide (show zeros64.length = (schedN (wordsN s 16) 48).length by rw [hL48]; rfl)
          have hsz := hb.size
          clear HA
          go_wp2_with (first | (refine wpList_load_arr rfl 81 _ rfl (w.heap.size + 1) rfl 81 _ (unhide HA4) _ _ Try.underlying81 (unhide hi48) ?_) | (refine wpList_store_arr rfl 81 _ _ rfl w.heap.size _ zeros64 rfl rfl 81 (unhide HR) (unhide hi48) (unhide hL48) ?_))
          refine bodyPost_ret (v := aggV (schedN (wordsN s 16) 48)) (results_arr Try.results57 _ _ w.heap.size 81 _ _ _ rfl ((unhide HR).setRow _) Try.underlying81 (unhide hi48)) rfl ⟨rfl, Go.below_setRow hb (Nat.le_refl _) _⟩
end Go.Proofs.Ytecbpplocokedaa
