/- A disk without the file of a name: what spec.l03Without comes to. -/
import Derived.Test.YtkaaabpodhgbpaaPut
import Derived.Test.YtkaaabpodhgbpaaFileAt
namespace Go.Proofs.Ytkaaabpodhgbpaa
open Go.RowKit

def otherB (s : ByteArray) (x : Fl) : Bool := !(sameN x.nm s)
def withoutL (fs : List Fl) (s : ByteArray) : List Fl := fs.filter (otherB s)
theorem three_new (w : World) (D : TypeId) (v : Value) : ∃ W, ((w.alloc (.cells #[v] D)).alloc (.cells #[.slice none 0 0] D)).alloc (.cells #[.slice none 0 0] D) = W ∧
    Box W w.heap.size D v ∧ Box W (w.heap.size + 1) D (.slice none 0 0) ∧ Box W (w.heap.size + 1 + 1) D (.slice none 0 0) ∧ W.heap.size = w.heap.size + 1 + 1 + 1 ∧ Below w.heap.size w W := by
  refine ⟨_, rfl, ((Box.new w D v).alloc _).alloc _, ?_, ?_, by simp, bTrA (bTrA (bTrA (Below.refl w.heap.size w) _) _) _⟩
  · have := (Box.new (w.alloc (.cells #[v] D)) D (.slice none 0 0)).alloc (.cells #[.slice none 0 0] D)
    simpa using this
  · have := Box.new ((w.alloc (.cells #[v] D)).alloc (.cells #[.slice none 0 0] D)) D (.slice none 0 0)
    simpa using this

set_option maxRecDepth 20000 in
set_option maxHeartbeats 8000000 in
theorem l03Without_any (fs : List Fl) (s : ByteArray) (v : Value) (w : World) (hr : RdF w v fs) (hn : fs.length ≤ 1000000) :
    Calls Try.prog 59 #[.agg #[v], .string s] w fun e w' => (∃ a c, e = .returned (.agg #[.slice a (withoutL fs s).length c]) ∧ OwnF w' w.heap.size 36 (.slice a (withoutL fs s).length c) (withoutL fs s)) ∧ Below w.heap.size w w' := by
  obtain ⟨i0, hi, hz0, hz1, hz2⟩ := info_parts infoFile
  obtain ⟨a, c, rfl, hc⟩ := hr.open
  clear hr
  obtain ⟨n, hnn⟩ : ∃ n, fs.length = n := ⟨_, rfl⟩
  rw [hnn] at hn ⊢
  replace hnn := hide hnn
  go_enter Try.func59, Try.ntmps59
  go_wp2
  obtain ⟨W, hW, xA, xR, xO, hsz, hbW⟩ := three_new w 26 (.slice a n c)
  rw [hW]
  clear hW
  obtain ⟨b, hbb⟩ : ∃ b, w.heap.size = b := ⟨_, rfl⟩
  have hbw : Hid (∀ j x, fs[j]? = some x → ∃ g o, a = some ⟨g, o, none⟩ ∧ g < b ∧ FlAt W g (o + j * 3) x) := by
    intro j x hj
    obtain ⟨g, o, e, hg, hat⟩ := hc j x hj
    exact ⟨g, o, e, by omega, hat.below hbW hg⟩
  have HbW := hide hbW
  clear hc hbW
  rw [hbb] at xA xR xO hsz ⊢
  replace hbb := hide hbb
  replace xA := hide xA
  replace xR := hide xR
  go_loopw [6] (fun ti wr => ∃ (k q : Nat) (a' : Option Addr) (c' : Nat) (L : List Fl), k ≤ n ∧ ti = .int .i64 k ∧ Hid (L = (fs.take k).filter (fun x => otherB s x)) ∧ q ≤ k ∧ Box wr (b + 1 + 1) 26 (.slice a' q c') ∧ OwnF wr (b + 1 + 1 + 1) 36 (.slice a' q c') L ∧ Below (b + 1 + 1) W wr) (fun ti _ => n - (intOf ti).toNat)
  case atStart => exact ⟨0, 0, none, 0, [], Nat.zero_le _, rfl, rfl, Nat.le_refl _, xO, OwnF.nil _ _ _, Below.refl _ _⟩
  case round =>
    obtain ⟨k, q, a', c', L, hk, rfl, hL, hqk, hbx, hown, hb⟩ := hrel
    have hss := hb.size
    have hbl := hbx.lt
    have cA := ((unhide xA).below hb (by omega)).cell
    by_cases hlt : k < n
    · have hk' : k < fs.length := by rw [unhide hnn]; exact hlt
      obtain ⟨x, hx⟩ : ∃ x, fs[k]? = some x := ⟨fs[k], List.getElem?_eq_getElem hk'⟩
      obtain ⟨g, o, rfl, hg, hat⟩ := (unhide hbw) k x hx
      obtain ⟨d1, d2, d3⟩ := hat.below hb (show g < b + 1 + 1 by omega)
      have hgr : g < wr.heap.size := by omega
      have hbr : b < wr.heap.size := by omega
      have hbr1 : b + 1 < wr.heap.size := by omega
      have hi0 : (0 : Int) ≤ (k : Int) := by omega
      have hi1 : (k : Int) < (n : Int) := by omega
      cases hp : otherB s x with
      | false =>
        have HL2 := hide ((unhide hL).trans (filt_no (p := fun x => otherB s x) hx hp).symm)
        replace hx := hide hx
        unfold otherB at hp; simp only [Bool.not_eq_false'] at hp; unfold sameN at hp
        clear hat
        go_wp2
        go_roundw
        case rel => exact ⟨k + 1, q, a', c', L, by omega, by go_num, unhide HL2, by omega, hbx, hown, hb⟩
        case measure => simp [intOf]; omega
      | true =>
        have HL2 := hide (filt_yes (p := fun x => otherB s x) hx hp)
        replace hx := hide hx
        unfold otherB at hp; simp only [Bool.not_eq_true'] at hp; unfold sameN at hp
        clear hat
        have cO1 := hbx.cell
        have hown1 := hown
        have hbx1 := hbx
        have hb1 := hb
        obtain ⟨W0, hW0⟩ : ∃ W0, wr = W0 := ⟨_, rfl⟩
        rw [hW0] at hown1 hbx1 hb1 cO1 hgr hbr hbr1 hbl hss cA d1 d2 d3 ⊢
        clear hW0
        replace hb := hide hb
        replace hbx := hide hbx
        replace hown := hide hown
        replace hbx1 := hide hbx1
        go_wp2_with fail
        go_region_law (first
          | (refine step_append_file rfl (.tmp 24) (.tmp 30) 24 rfl (b + 1 + 1 + 1) (b + 1 + 1) 36 i0 (flv flz) 40 Try.underlying24 hi hz0 hz1 hz2 rfl _ _ rfl (by exact hown1.drew.alloc _) W0.heap.size _ (by exact heap_alloc_new W0.drew _) x rfl 1 rfl q hown1.len (by omega) (by decide) (Nat.le_succ _) (by show _ ≤ (W0.alloc _).heap.size; simp; omega) (by exact hb1.drew.alloc (by show _ ≤ W0.heap.size; omega) _) ?_; intro a3 c3 w3 ho3 hb3 hkp3 hs3; (have hbx3 : Box w3 (b + 1 + 1) 26 (.slice a' q c') := (hkp3 _ (by show _ < (W0.alloc _).heap.size; simp; omega) (fun e => by have := (hown1.lt _ e).1; omega)).trans ((unhide hbx1).drew.alloc _)); have cb3 := hbx3.cell; have cz3 := hbx3.frozen))
        all_goals
          have ho4 := ho3.other (a := ⟨b + 1 + 1, 0, none⟩) (Nat.lt_succ_self _) (.slice a3 (q + 1) c3)
          have hbx4 := hbx3.set (.slice a3 (q + 1) c3)
          have hb4 := hb3.setCell (p := ⟨b + 1 + 1, 0, none⟩) (Nat.le_refl _) (.slice a3 (q + 1) c3)
          go_wp2
          go_roundw
          case rel => exact ⟨k + 1, q + 1, a3, c3, _, by omega, by go_num, (by show _ = _; rw [unhide HL2, ← unhide hL]), by omega, hbx4, ho4, hb4⟩
          case measure => simp [intOf]; omega
    · have hL2 : L = withoutL fs s := by rw [unhide hL, List.take_of_length_le (by rw [unhide hnn]; omega)]; rfl
      have hql : q = (withoutL fs s).length := by rw [← hL2]; exact hown.len.symm
      have cO := hbx.cell
      have xr := (unhide xR).below hb (by omega)
      have cr := xr.cell
      have cz := xr.frozen
      have hof := hide ((hown.other (a := ⟨b + 1, 0, none⟩) (by show b + 1 < _; omega) (.slice a' q c')).low (base' := w.heap.size) (by have := unhide hbb; omega))
      have hbf := hide (((unhide HbW).trans (hb.mono (by have := unhide hbb; omega))).setCell (p := ⟨b + 1, 0, none⟩) (by show _ ≤ b + 1; have := unhide hbb; omega) (.slice a' q c'))
      replace hql := hide hql
      replace hL2 := hide hL2
      go_wp2
      refine bodyPost_ret (v := .agg #[.slice a' q c']) (by simp [results, Try.results59, go_sem, cr]) rfl ⟨⟨a', c', ?_, ?_⟩, unhide hbf⟩
      · rw [← unhide hql]
      · rw [← unhide hql]; have h1 := unhide hof; rw [unhide hL2] at h1; exact h1
end Go.Proofs.Ytkaaabpodhgbpaa
