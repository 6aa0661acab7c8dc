/- impl.DoAct: what it comes to. -/
import Derived.Test.YtkaaabpodhgbpaaShelfQ
namespace Go.Proofs.Ytkaaabpodhgbpaa
open Go.RowKit
open Go.Maps (Keyed IsMap Tidy string_keyed)

def actL (fs : List Fl) (a : Ac) : Option (List Fl) := if okL fs = true then actR fs a else none
set_option maxHeartbeats 1000000 in
theorem shelfOf_no (fs : List Fl) (v : Value) (w : World) (hr : RdF w v fs) (hB : Bd fs) (hn : fs.length ≤ 2000000) (hok : okL fs = false) :
    Calls Try.prog 34 #[.agg #[v]] w fun e w' => e = .returned (.tuple #[.map none, .bool false]) ∧ Below w.heap.size w w' := by
  have C : Hid (∀ W v, RdF W v fs → Calls Try.prog 12 #[.agg #[v]] W fun e w' => e = .returned (.bool false) ∧ Below W.heap.size W w') := fun W v h => by rw [← hok]; exact implDiskOk_any fs v W h hB hn
  obtain ⟨a, c, rfl⟩ := hr.shape
  have HR := hide hr
  clear hr
  go_enter Try.func34, Try.ntmps34
  go_wp2_with (go_at_call 12; refine ((unhide C) _ _ (by exact (unhide HR).alloc _)).mono ?_; rintro e w1 ⟨rfl, hb1⟩)
  have hB1 := hide (bTr (bTrA (Below.refl w.heap.size w) _) hb1)
  refine bodyPost_ret (v := .tuple #[.map none, .bool false]) (by simp [results, Try.results34, go_sem]) rfl ?_
  exact ⟨rfl, unhide hB1⟩
def AcB (w : World) (g : Nat) (T : TypeId) (a : Ac) : Prop := w.heap[g]? = some (.cells #[.int .i64 a.kd, .string a.nm, .string a.tx, .string a.to] T (0, 0))
theorem AcB.at {w : World} {g : Nat} {T : TypeId} {a : Ac} (h : AcB w g T a) : w.cell? ⟨g, 0, none⟩ = some (.int .i64 a.kd) ∧ w.cell? ⟨g, 1, none⟩ = some (.string a.nm) ∧ w.cell? ⟨g, 2, none⟩ = some (.string a.tx) ∧ w.cell? ⟨g, 3, none⟩ = some (.string a.to) :=
  ⟨cell_of_row w g 0 _ T (0, 0) h, cell_of_row w g 1 _ T (0, 0) h, cell_of_row w g 2 _ T (0, 0) h, cell_of_row w g 3 _ T (0, 0) h⟩
theorem AcB.lt {w : World} {g : Nat} {T : TypeId} {a : Ac} (h : AcB w g T a) : g < w.heap.size := (Array.getElem?_eq_some_iff.1 h).1
theorem AcB.below {w w' : World} {g B : Nat} {T : TypeId} {a : Ac} (h : AcB w g T a) (hb : Below B w w') (hg : g < B) : AcB w' g T a := (hb.block g hg).trans h
theorem three_act (w : World) (a : Ac) (D A : TypeId) (v : Value) : ∃ W, ((w.alloc (.cells #[v] D)).alloc (.cells #[.int .i64 a.kd, .string a.nm, .string a.tx, .string a.to] A)).alloc (.cells #[.slice none 0 0] D) = W ∧
    Box W w.heap.size D v ∧ AcB W (w.heap.size + 1) A a ∧ Box W (w.heap.size + 1 + 1) D (.slice none 0 0) ∧ W.heap.size = w.heap.size + 1 + 1 + 1 ∧ Below w.heap.size w W := by
  refine ⟨_, rfl, ((Box.new w D v).alloc _).alloc _, ?_, ?_, by simp, bTrA (bTrA (bTrA (Below.refl w.heap.size w) _) _) _⟩
  · have h0 := heap_alloc_new (w.alloc (.cells #[v] D)) (.cells #[.int .i64 a.kd, .string a.nm, .string a.tx, .string a.to] A)
    have h1 : AcB ((w.alloc (.cells #[v] D)).alloc (.cells #[.int .i64 a.kd, .string a.nm, .string a.tx, .string a.to] A)) (w.heap.size + 1) A a := by unfold AcB; simpa using h0
    exact h1.below (bTrA (Below.refl _ _) _) h1.lt
  · simpa using Box.new ((w.alloc (.cells #[v] D)).alloc (.cells #[.int .i64 a.kd, .string a.nm, .string a.tx, .string a.to] A)) D (.slice none 0 0)
set_option maxRecDepth 20000 in
set_option maxHeartbeats 4000000 in
theorem implDoAct_any (fs : List Fl) (a : Ac) (v : Value) (w : World) (hr : RdF w v fs) (hB : Bd fs) (hn : fs.length ≤ 2000000) (hz : a.nm.size ≤ 4000000) (hzt : a.to.size ≤ 4000000) :
    Calls Try.prog 17 #[.agg #[v], acv a] w fun e w' => DkEnd 36 ((actL fs a).getD []) (actL fs a).isSome w e w' := by
  obtain ⟨a0, c0, rfl⟩ := hr.shape
  have HR := hide hr
  have HB := hide hB
  cases hok : okL fs with
  | false =>
    have HOK := hide hok
    have HL := hide (show actL fs a = none from by unfold actL; rw [hok]; rfl)
    unfold acv
    clear hr hB hok
    go_enter Try.func17, Try.ntmps17
    go_wp2_with (fail)
    obtain ⟨W, hW, xD, xA, xR, hsz, hbW⟩ := three_act w a 26 45 (.slice a0 fs.length c0)
    rw [hW]
    clear hW
    refine (shelfOf_no fs _ W (by exact (unhide HR).below hbW) (unhide HB) hn (unhide HOK)).mono ?_
    rintro e w1 ⟨rfl, hb1⟩
    have xR1 := xR.below hb1 (by omega)
    have cr := xR1.cell
    have cz := xR1.frozen
    have hl1 := xR1.lt
    have hbf := hide ((bTr hbW hb1).setCell (p := ⟨w.heap.size + 1 + 1, 0, none⟩) (by show w.heap.size ≤ w.heap.size + 1 + 1; omega) (.slice none 0 0))
    clear hb1 xD xA xR xR1 hbW
    go_wp2
    refine bodyPost_ret (v := .tuple #[.agg #[.slice none 0 0], .bool false]) (by simp [results, Try.results17, go_sem, cr]) rfl ?_
    rw [unhide HL]
    exact ⟨⟨none, 0, rfl, OwnF.nil _ _ _⟩, unhide hbf⟩
  | true =>
    have HOK := hide hok
    have HL := hide (show actL fs a = actR fs a from by unfold actL; rw [hok]; rfl)
    have HA := hide (fun o => actR_ok (fs := fs) (o := o) (a := a) hok)
    have C : Hid (∀ W base b ps, ShelfAt W base b ps → ps.map Prod.snd = fs → Calls Try.prog 36 #[.map (some b), acv a] W (Did fs (actR fs a) base b W)) := fun W base b ps h e => by
      subst e
      exact do_any ps a base b W h hok hz hzt
    unfold acv at C ⊢
    clear hr hB hok
    go_enter Try.func17, Try.ntmps17
    go_wp2_with (fail)
    obtain ⟨W, hW, xD, xA, xR, hsz, hbW⟩ := three_act w a 26 45 (.slice a0 fs.length c0)
    rw [hW]
    clear hW
    refine (shelfOf_any fs _ W (by exact (unhide HR).below hbW) (unhide HB) hn (unhide HOK)).mono ?_
    rintro e w1 ⟨⟨b, ps, rfl, hps, hsh⟩, hb1⟩
    have xR1 := hide (xR.below hb1 (by omega))
    have xA1 := xA.below hb1 (by omega)
    obtain ⟨k1, k2, k3, k4⟩ := xA1.at
    have hla := xA1.lt
    have hbw1 := hide (bTr hbW hb1)
    have hs1 := hb1.size
    clear hb1 xD xA xR hbW xA1
    have HS := hide hsh
    have HP := hide hps
    clear hsh hps
    obtain ⟨r, hr⟩ : ∃ r, actR fs a = r := ⟨_, rfl⟩
    rw [hr] at C HL
    have HR2 := hide hr
    clear hr
    cases r with
    | none =>
      go_wp2_with (go_at_call 36; refine ((unhide C) _ _ _ _ (unhide HS) (unhide HP)).mono ?_; rintro e w3 ⟨rfl, _, hb3⟩; (have xR3 := (unhide xR1).below hb3 (by omega)); have cr3 := xR3.cell; have cz3 := xR3.frozen; have hl3 := xR3.lt)
      have hbf := hide (((unhide hbw1).trans (hb3.mono (by omega))).setCell (p := ⟨w.heap.size + 1 + 1, 0, none⟩) (by show w.heap.size ≤ w.heap.size + 1 + 1; omega) (.slice none 0 0))
      refine bodyPost_ret (v := .tuple #[.agg #[.slice none 0 0], .bool false]) (by simp [results, Try.results17, go_sem, cr3]) rfl ?_
      rw [unhide HL]
      exact ⟨⟨none, 0, rfl, OwnF.nil _ _ _⟩, unhide hbf⟩
    | some o =>
      have hoo := hide ((unhide HA) o (unhide HR2))
      go_wp2_with (first
        | (go_at_call 36; refine ((unhide C) _ _ _ _ (unhide HS) (unhide HP)).mono ?_; rintro e w3 ⟨rfl, ⟨ps3, hs3, hp3⟩, hb3⟩; (have xR3 := hide ((unhide xR1).below hb3 (by omega))); replace hs3 := hide hs3; replace hp3 := hide (show ps3.map Prod.snd = o from hp3))
        | (go_at_call 37; refine (shelfDisk_any ps3 _ b _ (unhide hs3) (by rw [unhide hp3]; exact unhide hoo)).mono ?_; rintro e w4 ⟨⟨a4, c4, rfl, ho4⟩, hb4⟩; (have xR4 := (unhide xR3).below hb4 (unhide xR3).lt); have cr4 := xR4.cell; have cz4 := xR4.frozen; have hl4 := xR4.lt))
      have hx3 := (unhide xR3).lt
      rw [List.length_map, unhide hp3] at ho4
      have hlen : ps3.length = o.length := by rw [← unhide hp3, List.length_map]
      have hof := hide ((ho4.other (a := ⟨w.heap.size + 1 + 1, 0, none⟩) (by show w.heap.size + 1 + 1 < _; omega) (.slice a4 ps3.length c4)).low (base' := w.heap.size) (by omega))
      have hbf := hide ((((unhide hbw1).trans (hb3.mono (by omega))).trans (hb4.mono (by omega))).setCell (p := ⟨w.heap.size + 1 + 1, 0, none⟩) (by show w.heap.size ≤ w.heap.size + 1 + 1; omega) (.slice a4 ps3.length c4))
      refine bodyPost_ret (v := .tuple #[.agg #[.slice a4 ps3.length c4], .bool true]) (by simp [results, Try.results17, go_sem, cr4]) rfl ?_
      rw [unhide HL]
      refine ⟨⟨a4, c4, ?_, ?_⟩, unhide hbf⟩
      · show _ = Ending.returned (.tuple #[.agg #[.slice a4 o.length c4], .bool true])
        rw [hlen]
      · show OwnF _ _ _ (.slice a4 o.length c4) o
        rw [← hlen]
        exact unhide hof
end Go.Proofs.Ytkaaabpodhgbpaa
