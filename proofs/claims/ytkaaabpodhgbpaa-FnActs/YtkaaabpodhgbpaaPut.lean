/- A file is put in its place: what spec.l03Put comes to. -/
import Derived.Test.YtkaaabpodhgbpaaLose
import Derived.Test.YtkaaabpodhgbpaaRows1
import Derived.Test.YtkaaabpodhgbpaaDisk
namespace Go.Proofs.Ytkaaabpodhgbpaa
open Go.RowKit

def gtB (a b : ByteArray) : Bool := !(Op.bytesLess a.toList b.toList || a.toList == b.toList)
def lowL (fs : List Fl) (f : Fl) : List Fl := fs.filter fun x => ltB x.nm f.nm
def highL (fs : List Fl) (f : Fl) : List Fl := fs.filter fun x => gtB x.nm f.nm
def putL (fs : List Fl) (f : Fl) : List Fl := lowL fs f ++ [f] ++ highL fs f
theorem filt_yes {p : Fl → Bool} {fs : List Fl} {k : Nat} {x : Fl} (h : fs[k]? = some x) (hp : p x = true) : (fs.take (k + 1)).filter p = (fs.take k).filter p ++ [x] := by
  rw [List.take_add_one, h, List.filter_append]
  simp [hp]
theorem filt_no {p : Fl → Bool} {fs : List Fl} {k : Nat} {x : Fl} (h : fs[k]? = some x) (hp : p x = false) : (fs.take (k + 1)).filter p = (fs.take k).filter p := by
  rw [List.take_add_one, h, List.filter_append]
  simp [hp]
theorem putL_len (fs : List Fl) (f : Fl) : (putL fs f).length ≤ 2 * fs.length + 1 := by
  unfold putL lowL highL
  have h1 := List.length_filter_le (fun x : Fl => ltB x.nm f.nm) fs
  have h2 := List.length_filter_le (fun x : Fl => gtB x.nm f.nm) fs
  simp only [List.length_append, List.length_cons, List.length_nil]
  omega
theorem four_new (w : World) (f : Fl) (D F : TypeId) (v : Value) : ∃ W, (((w.alloc (.cells #[v] D)).alloc (.cells #[.string f.nm, .string f.tx, .int .i64 f.kp] F)).alloc (.cells #[.slice none 0 0] D)).alloc (.cells #[.slice none 0 0] D) = W ∧
    Box W w.heap.size D v ∧ FlAt W (w.heap.size + 1) 0 f ∧ Box W (w.heap.size + 1 + 1) D (.slice none 0 0) ∧ Box W (w.heap.size + 1 + 1 + 1) D (.slice none 0 0) ∧ W.heap.size = w.heap.size + 1 + 1 + 1 + 1 ∧ Below w.heap.size w W := by
  refine ⟨_, rfl, ?_, ?_, ?_, ?_, by simp, ?_⟩
  · exact (((Box.new w D v).alloc _).alloc _).alloc _
  · have := ((FlB.new (w.alloc (.cells #[v] D)) F f).alloc (.cells #[.slice none 0 0] D)).alloc (.cells #[.slice none 0 0] D)
    have h2 : FlB ((((w.alloc (.cells #[v] D)).alloc (.cells #[.string f.nm, .string f.tx, .int .i64 f.kp] F)).alloc (.cells #[.slice none 0 0] D)).alloc (.cells #[.slice none 0 0] D)) (w.heap.size + 1) F f := by simpa using this
    exact h2.at
  · have := (Box.new ((w.alloc (.cells #[v] D)).alloc (.cells #[.string f.nm, .string f.tx, .int .i64 f.kp] F)) D (.slice none 0 0)).alloc (.cells #[.slice none 0 0] D)
    simpa using this
  · have := Box.new (((w.alloc (.cells #[v] D)).alloc (.cells #[.string f.nm, .string f.tx, .int .i64 f.kp] F)).alloc (.cells #[.slice none 0 0] D)) D (.slice none 0 0)
    simpa using this
  · exact bTrA (bTrA (bTrA (bTrA (Below.refl w.heap.size w) _) _) _) _

set_option maxRecDepth 20000 in
set_option maxHeartbeats 8000000 in
theorem l03Put_any (fs : List Fl) (f : Fl) (v : Value) (w : World) (hr : RdF w v fs) (hn : fs.length ≤ 1000000) :
    Calls Try.prog 24 #[.agg #[v], flv f] w fun e w' => (∃ a c, e = .returned (.agg #[.slice a (putL fs f).length c]) ∧ OwnF w' w.heap.size 36 (.slice a (putL fs f).length c) (putL fs f)) ∧ Below w.heap.size w w' := by
  obtain ⟨i0, hi, hz0, hz1, hz2⟩ := info_parts infoFile
  obtain ⟨a, c, rfl, hc⟩ := hr.open
  clear hr
  obtain ⟨n, hnn⟩ : ∃ n, fs.length = n := ⟨_, rfl⟩
  rw [hnn] at hn ⊢
  replace hnn := hide hnn
  go_enter Try.func24, Try.ntmps24
  go_wp2
  obtain ⟨W, hW, xA, xF, xR, xO, hsz, hbW⟩ := four_new w f 26 36 (.slice a n c)
  rw [hW]
  clear hW
  obtain ⟨b, hbb⟩ : ∃ b, w.heap.size = b := ⟨_, rfl⟩
  have hbw : Hid (∀ j x, fs[j]? = some x → ∃ g o, a = some ⟨g, o, none⟩ ∧ g < b ∧ FlAt W g (o + j * 3) x) := by
    intro j x hj
    obtain ⟨g, o, e, hg, hat⟩ := hc j x hj
    exact ⟨g, o, e, by omega, hat.below hbW hg⟩
  have HbW := hide hbW
  clear hc hbW
  rw [hbb] at xA xF xR xO hsz ⊢
  replace hbb := hide hbb
  replace xA := hide xA
  replace xF := hide xF
  replace xR := hide xR
  go_loopw [6] (fun ti wr => ∃ (k q : Nat) (a' : Option Addr) (c' : Nat) (L : List Fl), k ≤ n ∧ ti = .int .i64 k ∧ Hid (L = (fs.take k).filter (fun x => ltB x.nm f.nm)) ∧ q ≤ k ∧ Box wr (b + 1 + 1 + 1) 26 (.slice a' q c') ∧ OwnF wr (b + 1 + 1 + 1 + 1) 36 (.slice a' q c') L ∧ Below (b + 1 + 1 + 1) W wr) (fun ti _ => n - (intOf ti).toNat)
  case atStart => exact ⟨0, 0, none, 0, [], Nat.zero_le _, rfl, rfl, Nat.le_refl _, xO, OwnF.nil _ _ _, Below.refl _ _⟩
  case round =>
    obtain ⟨k, q, a', c', L, hk, rfl, hL, hqk, hbx, hown, hb⟩ := hrel
    have hss := hb.size
    have hbl := hbx.lt
    have cA := ((unhide xA).below hb (by omega)).cell
    by_cases hlt : k < n
    · have hk' : k < fs.length := by rw [unhide hnn]; exact hlt
      obtain ⟨x, hx⟩ : ∃ x, fs[k]? = some x := ⟨fs[k], List.getElem?_eq_getElem hk'⟩
      obtain ⟨g, o, rfl, hg, hat⟩ := (unhide hbw) k x hx
      obtain ⟨d1, d2, d3⟩ := hat.below hb (show g < b + 1 + 1 + 1 by omega)
      obtain ⟨f1, f2, f3⟩ := (unhide xF).below hb (show b + 1 < b + 1 + 1 + 1 by omega)
      simp only [Nat.zero_add] at f2 f3
      have hgr : g < wr.heap.size := by omega
      have hbr : b < wr.heap.size := by omega
      have hbr1 : b + 1 < wr.heap.size := by omega
      have hi0 : (0 : Int) ≤ (k : Int) := by omega
      have hi1 : (k : Int) < (n : Int) := by omega
      cases hp : ltB x.nm f.nm with
      | false =>
        have HL2 := hide ((unhide hL).trans (filt_no (p := fun x => ltB x.nm f.nm) hx hp).symm)
        replace hx := hide hx
        unfold ltB at hp
        clear hat
        go_wp2
        go_quiet (fail)
        go_wp2
        go_roundw
        case rel => exact ⟨k + 1, q, a', c', L, by omega, by go_num, unhide HL2, by omega, hbx, hown, bDN hb _⟩
        case measure => simp [intOf]; omega
      | true =>
        have HL2 := hide (filt_yes (p := fun x => ltB x.nm f.nm) hx hp)
        replace hx := hide hx
        unfold ltB at hp
        clear hat
        go_wp2
        go_quiet (fail)
        have cA1 : (wr.drewN nq).cell? ⟨b, 0, none⟩ = some (.slice (some ⟨g, o, none⟩) n c) := cA
        have cO1 : (wr.drewN nq).cell? ⟨b + 1 + 1 + 1, 0, none⟩ = some (.slice a' q c') := hbx.cell
        have hbx1 : Box (wr.drewN nq) (b + 1 + 1 + 1) 26 (.slice a' q c') := hbx
        have hown1 : OwnF (wr.drewN nq) (b + 1 + 1 + 1 + 1) 36 (.slice a' q c') L := hown
        have hb1 := bDN hb nq
        have e1 : (wr.drewN nq).cell? ⟨g, o + k * 3, none⟩ = some (.string x.nm) := d1
        have e2 : (wr.drewN nq).cell? ⟨g, o + k * 3 + 1, none⟩ = some (.string x.tx) := d2
        have e3 : (wr.drewN nq).cell? ⟨g, o + k * 3 + 2, none⟩ = some (.int .i64 x.kp) := d3
        have hzz : (wr.drewN nq).heap.size = wr.heap.size := rfl
        rw [← hzz] at hgr hbr hbr1 hbl hss
        clear hzz d1 d2 d3 f1 f2 f3 cA hp
        generalize wr.drewN nq = W0 at *
        replace hb := hide hb
        replace hbx := hide hbx
        replace hown := hide hown
        replace hbx1 := hide hbx1
        go_wp2_with fail
        go_region_law (first
          | (refine step_append_file rfl (.tmp 26) (.tmp 32) 24 rfl (b + 1 + 1 + 1 + 1) (b + 1 + 1 + 1) 36 i0 (flv flz) 40 Try.underlying24 hi hz0 hz1 hz2 rfl _ _ rfl (by exact hown1.drew.alloc _) W0.heap.size _ (by exact heap_alloc_new W0.drew _) x rfl 1 rfl q hown1.len (by omega) (by decide) (Nat.le_succ _) (by show _ ≤ (W0.alloc _).heap.size; simp; omega) (by exact hb1.drew.alloc (by show _ ≤ W0.heap.size; omega) _) ?_; intro a3 c3 w3 ho3 hb3 hkp3 hs3; (have hbx3 : Box w3 (b + 1 + 1 + 1) 26 (.slice a' q c') := (hkp3 _ (by show _ < (W0.alloc _).heap.size; simp; omega) (fun e => by have := (hown1.lt _ e).1; omega)).trans ((unhide hbx1).drew.alloc _)); have cb3 := hbx3.cell; have cz3 := hbx3.frozen))
        all_goals
          have ho4 := ho3.other (a := ⟨b + 1 + 1 + 1, 0, none⟩) (Nat.lt_succ_self _) (.slice a3 (q + 1) c3)
          have hbx4 := hbx3.set (.slice a3 (q + 1) c3)
          have hb4 := hb3.setCell (p := ⟨b + 1 + 1 + 1, 0, none⟩) (Nat.le_refl _) (.slice a3 (q + 1) c3)
          go_wp2
          go_roundw
          case rel => exact ⟨k + 1, q + 1, a3, c3, _, by omega, by go_num, (by show _ = _; rw [unhide HL2, ← unhide hL]), by omega, hbx4, ho4, hb4⟩
          case measure => simp [intOf]; omega
    · have hL2 : L = lowL fs f := by rw [unhide hL, List.take_of_length_le (by rw [unhide hnn]; omega)]; rfl
      replace hL2 := hide hL2
      obtain ⟨f1, f2, f3⟩ := (unhide xF).below hb (show b + 1 < b + 1 + 1 + 1 by omega)
      simp only [Nat.zero_add] at f2 f3
      have cO := hbx.cell
      have hbr1 : b + 1 < wr.heap.size := by omega
      obtain ⟨q0, hq0⟩ : ∃ q0, q0 = q := ⟨_, rfl⟩
      rw [← hq0] at hbx hown hqk cO
      obtain ⟨P1, hP1⟩ : ∃ P1, lowL fs f ++ [f] = P1 := ⟨_, rfl⟩
      have hP1' := hide (show L ++ [f] = P1 by rw [unhide hL2]; exact hP1)
      replace hP1 := hide hP1
      clear hq0
      go_wp2_with (at_builtin; refine wpList_append_file' rfl _ _ 24 rfl (b + 1 + 1 + 1 + 1) (b + 1 + 1 + 1) 36 i0 (flv flz) 40 Try.underlying24 hi hz0 hz1 hz2 rfl _ L rfl (hown.alloc _) wr.heap.size _ (heap_alloc_new wr _) f rfl 1 rfl q0 hown.len (by omega) (by decide) (Nat.le_succ _) (by simp; omega) (hb.alloc (by omega) _) ?_; intro a3 c3 w3 ho3 hb3 hkp3 hs3; (have hbx3 : Box w3 (b + 1 + 1 + 1) 26 (.slice a' q0 c') := (hkp3 _ (by simp; omega) (fun e => by have := (hown.lt _ e).1; omega)).trans (hbx.alloc _)); have cb3 := hbx3.cell; have cz3 := hbx3.frozen)
      rw [unhide hP1'] at ho3
      have ho4 := ho3.other (a := ⟨b + 1 + 1 + 1, 0, none⟩) (Nat.lt_succ_self _) (.slice a3 (q0 + 1) c3)
      have hbx4 := hbx3.set (.slice a3 (q0 + 1) c3)
      have hb4 := hb3.setCell (p := ⟨b + 1 + 1 + 1, 0, none⟩) (Nat.le_refl _) (.slice a3 (q0 + 1) c3)
      generalize w3.setCell ⟨b + 1 + 1 + 1, 0, none⟩ (.slice a3 (q0 + 1) c3) = W5 at *
      clear ho3 hbx3 hb3 hkp3 hs3 cb3 cz3 hbx hown hb cO f1 f2 f3 cA hss hbl hbr1 hL hL2
      go_loopw [7] (fun ti wr => ∃ (k q : Nat) (a' : Option Addr) (c' : Nat) (L : List Fl), k ≤ n ∧ ti = .int .i64 k ∧ Hid (L = P1 ++ (fs.take k).filter (fun x => gtB x.nm f.nm)) ∧ q ≤ k + n + 1 ∧ Box wr (b + 1 + 1 + 1) 26 (.slice a' q c') ∧ OwnF wr (b + 1 + 1 + 1 + 1) 36 (.slice a' q c') L ∧ Below (b + 1 + 1 + 1) W wr) (fun ti _ => n - (intOf ti).toNat)
      case atStart => exact ⟨0, q0 + 1, a3, c3, P1, Nat.zero_le _, rfl, by show _ = _; rw [List.take_zero]; simp, by omega, hbx4, ho4, hb4⟩
      case round =>
        obtain ⟨k, q, a', c', L, hk, rfl, hL, hqk, hbx, hown, hb⟩ := hrel
        have hss := hb.size
        have hbl := hbx.lt
        have cA := ((unhide xA).below hb (by omega)).cell
        by_cases hlt : k < n
        · have hk' : k < fs.length := by rw [unhide hnn]; exact hlt
          obtain ⟨x, hx⟩ : ∃ x, fs[k]? = some x := ⟨fs[k], List.getElem?_eq_getElem hk'⟩
          obtain ⟨g, o, rfl, hg, hat⟩ := (unhide hbw) k x hx
          obtain ⟨d1, d2, d3⟩ := hat.below hb (show g < b + 1 + 1 + 1 by omega)
          obtain ⟨f1, f2, f3⟩ := (unhide xF).below hb (show b + 1 < b + 1 + 1 + 1 by omega)
          simp only [Nat.zero_add] at f2 f3
          have hgr : g < wr.heap.size := by omega
          have hbr : b < wr.heap.size := by omega
          have hbr1 : b + 1 < wr.heap.size := by omega
          have hi0 : (0 : Int) ≤ (k : Int) := by omega
          have hi1 : (k : Int) < (n : Int) := by omega
          cases hp : gtB x.nm f.nm with
          | false =>
            have HL2 : Hid (L = P1 ++ (fs.take (k + 1)).filter (fun x => gtB x.nm f.nm)) := by show _ = _; rw [unhide hL, filt_no (p := fun x => gtB x.nm f.nm) hx hp]
            replace hx := hide hx
            unfold gtB at hp
            clear hat
            go_wp2
            go_quiet (fail)
            go_wp2
            go_roundw
            case rel => exact ⟨k + 1, q, a', c', L, by omega, by go_num, unhide HL2, by omega, hbx, hown, bDN hb _⟩
            case measure => simp [intOf]; omega
          | true =>
            have HL2 := hide (filt_yes (p := fun x => gtB x.nm f.nm) hx hp)
            replace hx := hide hx
            unfold gtB at hp
            clear hat
            go_wp2
            go_quiet (fail)
            have cA1 : (wr.drewN nq).cell? ⟨b, 0, none⟩ = some (.slice (some ⟨g, o, none⟩) n c) := cA
            have cO1 : (wr.drewN nq).cell? ⟨b + 1 + 1 + 1, 0, none⟩ = some (.slice a' q c') := hbx.cell
            have hbx1 : Box (wr.drewN nq) (b + 1 + 1 + 1) 26 (.slice a' q c') := hbx
            have hown1 : OwnF (wr.drewN nq) (b + 1 + 1 + 1 + 1) 36 (.slice a' q c') L := hown
            have hb1 := bDN hb nq
            have e1 : (wr.drewN nq).cell? ⟨g, o + k * 3, none⟩ = some (.string x.nm) := d1
            have e2 : (wr.drewN nq).cell? ⟨g, o + k * 3 + 1, none⟩ = some (.string x.tx) := d2
            have e3 : (wr.drewN nq).cell? ⟨g, o + k * 3 + 2, none⟩ = some (.int .i64 x.kp) := d3
            have hzz : (wr.drewN nq).heap.size = wr.heap.size := rfl
            rw [← hzz] at hgr hbr hbr1 hbl hss
            clear hzz d1 d2 d3 f1 f2 f3 cA hp
            generalize wr.drewN nq = W0 at *
            replace hb := hide hb
            replace hbx := hide hbx
            replace hown := hide hown
            replace hbx1 := hide hbx1
            go_wp2_with fail
            go_region_law (first
              | (refine step_append_file rfl (.tmp 58) (.tmp 64) 24 rfl (b + 1 + 1 + 1 + 1) (b + 1 + 1 + 1) 36 i0 (flv flz) 40 Try.underlying24 hi hz0 hz1 hz2 rfl _ _ rfl (by exact hown1.drew.alloc _) W0.heap.size _ (by exact heap_alloc_new W0.drew _) x rfl 1 rfl q hown1.len (by omega) (by decide) (Nat.le_succ _) (by show _ ≤ (W0.alloc _).heap.size; simp; omega) (by exact hb1.drew.alloc (by show _ ≤ W0.heap.size; omega) _) ?_; intro a5 c5 w3 ho3 hb3 hkp3 hs3; (have hbx3 : Box w3 (b + 1 + 1 + 1) 26 (.slice a' q c') := (hkp3 _ (by show _ < (W0.alloc _).heap.size; simp; omega) (fun e => by have := (hown1.lt _ e).1; omega)).trans ((unhide hbx1).drew.alloc _)); have cb3 := hbx3.cell; have cz3 := hbx3.frozen))
            all_goals
              have ho4 := ho3.other (a := ⟨b + 1 + 1 + 1, 0, none⟩) (Nat.lt_succ_self _) (.slice a5 (q + 1) c5)
              have hbx4 := hbx3.set (.slice a5 (q + 1) c5)
              have hb4 := hb3.setCell (p := ⟨b + 1 + 1 + 1, 0, none⟩) (Nat.le_refl _) (.slice a5 (q + 1) c5)
              go_wp2
              go_roundw
              case rel => exact ⟨k + 1, q + 1, a5, c5, _, by omega, by go_num, (by show _ = _; rw [unhide HL2, unhide hL, List.append_assoc]), by omega, hbx4, ho4, hb4⟩
              case measure => simp [intOf]; omega
        · have hL2 : L = putL fs f := by rw [unhide hL, List.take_of_length_le (by rw [unhide hnn]; omega), ← unhide hP1]; rfl
          have hql : q = (putL fs f).length := by rw [← hL2]; exact hown.len.symm
          have cO := hbx.cell
          have xr := (unhide xR).below hb (by omega)
          have cr := xr.cell
          have cz := xr.frozen
          have hof := hide ((hown.other (a := ⟨b + 1 + 1, 0, none⟩) (by show b + 1 + 1 < _; omega) (.slice a' q c')).low (base' := w.heap.size) (by have := unhide hbb; omega))
          have hbf := hide (((unhide HbW).trans (hb.mono (by have := unhide hbb; omega))).setCell (p := ⟨b + 1 + 1, 0, none⟩) (by show _ ≤ b + 1 + 1; have := unhide hbb; omega) (.slice a' q c'))
          replace hql := hide hql
          replace hL2 := hide hL2
          go_wp2
          refine bodyPost_ret (v := .agg #[.slice a' q c']) (by simp [results, Try.results24, go_sem, cr]) rfl ⟨⟨a', c', ?_, ?_⟩, unhide hbf⟩
          · rw [← unhide hql]
          · rw [← unhide hql]; have h1 := unhide hof; rw [unhide hL2] at h1; exact h1
end Go.Proofs.Ytkaaabpodhgbpaa
