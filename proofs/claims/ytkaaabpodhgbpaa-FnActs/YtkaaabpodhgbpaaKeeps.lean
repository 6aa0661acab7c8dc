/- What laws.lefts, sameDisk and begins come to. -/
import Derived.Test.YtkaaabpodhgbpaaDrawPR
import Derived.Laws.StructEq
namespace Go.Proofs.Ytkaaabpodhgbpaa
open Go.RowKit

set_option maxRecDepth 20000 in
set_option maxHeartbeats 1000000 in
theorem lefts_any (xs : List Nat) (v : Value) (w : World) (hx : xs.length = 12) (hb : ∀ x ∈ xs, x < 10000) (base : Nat) (hr : OwnV w base 3 v (ints xs)) :
    Calls Try.prog 7 #[v] w fun e w' => (∃ (is : List Int) (a : Option Addr) (c : Nat), is.length = 6 ∧ e = .returned (.slice a is.length c) ∧ OwnV w' w.heap.size 3 (.slice a is.length c) (is.map iv)) ∧ Below w.heap.size w w' := by
  obtain ⟨i0, hi, hz0, hz1, hz2⟩ := info_parts Try.infoIC
  obtain ⟨a, c, rfl, hc⟩ := hr.rdv.open
  have hxl : (ints xs).length = 12 := by unfold ints; rw [List.length_map]; exact hx
  rw [hxl]
  replace hxl := hide hxl
  clear hr
  go_enter Try.func7, Try.ntmps7
  go_wp2
  go_loopw [3, 4] (fun vv ti wr => ∃ (k : Nat) (is : List Int), k ≤ 6 ∧ is.length = k ∧ ti = .int .i64 (k : Int) ∧ OwnV wr w.heap.size 3 vv (is.map iv) ∧ Below w.heap.size w wr ∧ w.heap.size ≤ wr.heap.size) (fun _ ti _ => 6 - (intOf ti).toNat)
  case atStart => exact ⟨0, [], Nat.zero_le _, rfl, rfl, World.ownsRow_made w #[] 0 (Nat.le_refl _) (by decide) (by simp), (Below.refl _ w).alloc (Nat.le_refl _) _, by simp⟩
  case round =>
    obtain ⟨k, is, hk, hil, rfl, hown, hbw, hsz⟩ := hrel
    by_cases hlt : k < 6
    · have hkx : k < xs.length := by omega
      obtain ⟨g, o, rfl, hg, d1⟩ := hc k (.int .i64 (xs[k] : Int)) (by unfold ints; rw [List.getElem?_map, List.getElem?_eq_getElem hkx]; rfl)
      have d2 := (hbw.cell (p := ⟨g, o + k, none⟩) hg).trans d1
      have hy := hb xs[k] (List.getElem_mem hkx)
      generalize xs[k] = y at *
      have hlen : (is.map iv).length ≤ 6 := by rw [List.length_map]; omega
      have hk0 : (0 : Int) ≤ (k : Int) := by omega
      have hk1 : (k : Int) < 12 := by omega
      clear d1 hc
      go_wp2_with (at_builtin; refine wpList_append_vals rfl (.tmp 10) (.tmp 16) 28 rfl w.heap.size w.heap.size 3 i0 (.int .i64 0) 8 Try.underlying28 hi hz0 hz1 hz2 rfl _ (is.map iv) rfl hown _ [.int .i64 ((y : Int) % 300)] rfl (by intro u hu; simp only [List.mem_singleton] at hu; subst hu; rfl) 1 1 rfl rfl (by unfold maxLen; omega) (by omega) (Nat.le_refl _) hsz hbw ?_; intro v' w4 hown' hb4)
      have hown2 : OwnV w4 w.heap.size 3 v' ((is ++ [(y : Int) % 300]).map iv) := by rw [List.map_append]; exact hown'
      have hs4 := hb4.size
      go_roundw
      case rel => exact ⟨k + 1, is ++ [(y : Int) % 300], by omega, by simp [hil], by go_num, hown2, hb4, hs4⟩
      case measure => simp [intOf]; omega
    · obtain ⟨a2, c2, rfl⟩ := hown.shape
      rw [List.length_map] at hown ⊢
      replace hown := hide hown
      go_wp2
      go_ret
      exact ⟨⟨is, a2, c2, by omega, rfl, unhide hown⟩, hbw⟩
set_option maxHeartbeats 400000 in
theorem begins_any (a b : ByteArray) (w : World) (h1 : a.size ≤ b.size) (_ : b.size ≤ 4000000) (h2 : b.extract 0 a.size = a) :
    Calls Try.prog 13 #[.string a, .string b] w fun e w' => e = .returned (.bool true) ∧ w' = w := by
  have h1' : (a.size : Int) ≤ (b.size : Int) := by omega
  have h2' : ((b.extract 0 a.size).toList == a.toList) = true := by rw [h2]; simp
  clear h2
  go_enter Try.func13, Try.ntmps13
  go_wp2
  go_ret
  exact ⟨by first | rfl | exact retB h2'.symm, rfl⟩
set_option maxRecDepth 20000 in
set_option maxHeartbeats 1000000 in
theorem sameDisk_any (fs : List Fl) (v1 v2 : Value) (w : World) (hr1 : RdF w v1 fs) (hr2 : RdF w v2 fs) (_ : fs.length ≤ 2000000) :
    Calls Try.prog 10 #[.agg #[v1], .agg #[v2]] w fun e w' => e = .returned (.bool true) ∧ Below w.heap.size w w' := by
  obtain ⟨a1, c1, rfl, hc1⟩ := hr1.open
  obtain ⟨a2, c2, rfl, hc2⟩ := hr2.open
  clear hr1 hr2
  obtain ⟨n, hnn⟩ : ∃ n, fs.length = n := ⟨_, rfl⟩
  rw [hnn]
  replace hnn := hide hnn
  go_enter Try.func10, Try.ntmps10
  go_wp2
  have bA : Box ((w.alloc (.cells #[.slice a1 n c1] 26)).alloc (.cells #[.slice a2 n c2] 26)) w.heap.size 26 (.slice a1 n c1) := (Box.new w _ _).alloc _
  have bB : Box ((w.alloc (.cells #[.slice a1 n c1] 26)).alloc (.cells #[.slice a2 n c2] 26)) (w.heap.size + 1) 26 (.slice a2 n c2) := by
    have := Box.new (w.alloc (.cells #[.slice a1 n c1] 26)) 26 (.slice a2 n c2)
    simpa using this
  have hbW : Below w.heap.size w ((w.alloc (.cells #[.slice a1 n c1] 26)).alloc (.cells #[.slice a2 n c2] 26)) := bTrA (bTrA (Below.refl w.heap.size w) _) _
  generalize ((w.alloc (.cells #[.slice a1 n c1] 26)).alloc (.cells #[.slice a2 n c2] 26)) = W at *
  have cA := bA.cell
  have cB := bB.cell
  replace bA := hide bA
  replace bB := hide bB
  go_loopw [5] (fun ti wr => ∃ k q : Nat, k ≤ n ∧ ti = .int .i64 k ∧ wr = W.drewN q) (fun ti _ => n - (intOf ti).toNat)
  case atStart => exact ⟨0, 0, Nat.zero_le _, rfl, rfl⟩
  case round =>
    obtain ⟨k, q, hk, rfl, rfl⟩ := hrel
    by_cases hlt : k < n
    · have hk' : k < fs.length := by rw [unhide hnn]; exact hlt
      obtain ⟨f, hf⟩ : ∃ f, fs[k]? = some f := ⟨fs[k], List.getElem?_eq_getElem hk'⟩
      obtain ⟨g1, o1, rfl, hg1, hat1⟩ := hc1 k f hf
      obtain ⟨g2, o2, rfl, hg2, hat2⟩ := hc2 k f hf
      obtain ⟨d1, d2, d3⟩ := hat1.below hbW hg1
      obtain ⟨d4, d5, d6⟩ := hat2.below hbW hg2
      have hi0 : (0 : Int) ≤ (k : Int) := by omega
      have hi1 : (k : Int) < (n : Int) := by omega
      replace hf := hide hf
      clear hc1 hc2 hat1 hat2
      go_wp2
      go_quiet (fail)
      go_wp2
      go_roundw
      case rel => exact ⟨k + 1, _, by omega, by go_num, by first | rfl | rw [World.drewN_drewN]⟩
      case measure => simp [intOf]; omega
    · go_wp2
      go_ret
      exact ⟨rfl, bDN hbW _⟩
end Go.Proofs.Ytkaaabpodhgbpaa
