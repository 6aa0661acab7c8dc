/- A shelf's disk. -/
import Derived.Test.YtkaaabpodhgbpaaShelfK
import Derived.Test.YtkaaabpodhgbpaaRows1
namespace Go.Proofs.Ytkaaabpodhgbpaa
open Go.RowKit
open Go.Maps (Keyed IsMap Tidy string_keyed)

theorem gTB {W w w' : World} {r : Option Nat} (h : W.grownBy w r) (hb : Below W.heap.size w w') : W.grownBy w' r :=
  ⟨hb.os.trans h.os, hb.tape.trans h.tape, hb.output.trans h.output, Nat.le_trans h.size hb.size, fun k hk hr => (hb.block k hk).trans (h.block k hk hr)⟩
theorem ShelfAt.grown {w w' : World} {base b g : Nat} {ps : List Pf} (h : ShelfAt w base b ps) (hg : w.grownBy w' (some g)) (hb : b ≠ g) (hp : ∀ p ∈ ps, p.1 ≠ g) : ShelfAt w' base b ps := by
  obtain ⟨D, h1, h2⟩ := h.map
  refine ⟨⟨D, h1.kept hg (by simp; exact hb), h2⟩, fun p hpp => ⟨?_, (h.files p hpp).2⟩, h.apart, h.lo⟩
  unfold FlB
  rw [hg.block p.1 (h.files p hpp).1.lt (by simp; exact hp p hpp)]
  exact (h.files p hpp).1
theorem encKey (p : Pf) : encStr (key p) = .string p.2.nm := by
  unfold encStr key
  congr 1
theorem two_boxes (w : World) (D : TypeId) : ∃ W, (w.alloc (.cells #[.slice none 0 0] D)).alloc (.cells #[.slice none 0 0] D) = W ∧ Box W w.heap.size D (.slice none 0 0) ∧ Box W (w.heap.size + 1) D (.slice none 0 0) ∧ W.heap.size = w.heap.size + 1 + 1 ∧ Below w.heap.size w W := by
  refine ⟨_, rfl, (Box.new w D _).alloc _, ?_, by simp, bTrA (bTrA (Below.refl w.heap.size w) _) _⟩
  simpa using Box.new (w.alloc (.cells #[.slice none 0 0] D)) D (.slice none 0 0)
def nms (ps : List Pf) : List Value := ps.map fun p => .string p.2.nm
theorem nms_at {ps : List Pf} {k : Nat} {p : Pf} (h : ps[k]? = some p) : (nms ps)[k]? = some (.string p.2.nm) := by unfold nms; rw [List.getElem?_map, h]; rfl
theorem fs_take {ps : List Pf} {k : Nat} {p : Pf} (h : ps[k]? = some p) : (ps.map Prod.snd).take (k + 1) = (ps.map Prod.snd).take k ++ [p.2] := by
  rw [List.take_add_one, List.getElem?_map, h]; rfl
/-- The names of a shelf in order, as a row of the call's own. -/
theorem sorted_any {ps : List Pf} {base b : Nat} {W : World} (h : ShelfAt W base b ps) (ha : Asc (ps.map Prod.snd)) (hl : ps.length ≤ 30) {g : Nat} (hg : W.heap.size = g) :
    Calls Try.prog 54 #[.func (.func 64) #[] #[.pointer (some ⟨g, 0, none⟩)]] (W.alloc (.cells #[.map (some b)] 62)) fun e w' =>
      ∃ a c, e = .returned (.slice a ps.length c) ∧ OwnV w' (W.heap.size + 1) 9 (.slice a ps.length c) (nms ps) ∧ Below W.heap.size W w' := by
  subst hg
  obtain ⟨D, hown, hch⟩ := h.map
  refine (callsIn_wide.1 (Try.sortedIn b _ D ptrR W hown (by rw [hch.size]; unfold maxLen; omega) (by rw [hch.size]; omega))).mono ?_
  rintro e w2 ⟨v, ss, rfl, hperm, hrow, _, hb2⟩
  have hks := keys_sorted hown hch ha hperm
  have hlen : ss.length = ps.length := by rw [← List.length_mergeSort (le := fun x y => decide (x ≤ y)) ss, hks, List.length_map]
  rw [hks, List.map_map, show (encStr ∘ key) = (fun p : Pf => Value.string p.2.nm) from funext encKey, hlen, show (W.alloc (.cells #[.map (some b)] 62)).heap.size = W.heap.size + 1 from by simp] at hrow
  have hov : OwnV w2 (W.heap.size + 1) 9 v (nms ps) := by unfold OwnV nms; rw [List.length_map]; exact hrow
  obtain ⟨a, c, rfl⟩ := hov.shape
  unfold nms at hov ⊢
  rw [List.length_map] at hov ⊢
  exact ⟨a, c, rfl, hov, (bTrA (Below.refl W.heap.size W) _).trans (hb2.mono (by simp))⟩
set_option maxRecDepth 20000 in
set_option maxHeartbeats 4000000 in
theorem shelfDisk_any (ps : List Pf) (base b : Nat) (w : World) (h : ShelfAt w base b ps) (hok : okL (ps.map Prod.snd) = true) :
    Calls Try.prog 37 #[.map (some b)] w fun e w' => (∃ a c, e = .returned (.agg #[.slice a (ps.map Prod.snd).length c]) ∧ OwnF w' w.heap.size 36 (.slice a (ps.map Prod.snd).length c) (ps.map Prod.snd)) ∧ Below w.heap.size w w' := by
  obtain ⟨h1, h2, h3⟩ := okL_iff.1 hok
  rw [List.length_map] at h1
  obtain ⟨i0, hi, hz0, hz1, hz2⟩ := info_parts infoFile
  have HL := hide (show (ps.map Prod.snd).length = ps.length from List.length_map _)
  obtain ⟨n, hn⟩ : ∃ n, ps.length = n := ⟨_, rfl⟩
  have H := hide h
  have HA := hide h3
  have HF := hide h2
  clear h h3 hok h2
  go_enter Try.func37, Try.ntmps37
  go_wp2_with (fail)
  obtain ⟨W, hW, xR, xD, hsz, hbW⟩ := two_boxes w 26
  rw [hW]
  clear hW
  have H0 := hide ((unhide H).below hbW)
  refine (callsIn_wide.1 (Try.keysIn (some b) W)).mono ?_
  rintro e w1 ⟨rfl, hw1⟩
  subst hw1
  go_wp2_with (fail)
  refine (sorted_any (unhide H0) (unhide HA) h1 hsz).mono ?_
  rintro e w2 ⟨a, c, rfl, hrow, hb2⟩
  have hlo := (unhide H).lt
  have hs2 : W.heap.size ≤ w2.heap.size := hb2.size
  have xR2 := hide (xR.below hb2 (by omega))
  have xD2 := xD.below hb2 (by omega)
  have H2 := hide ((unhide H0).below hb2)
  have hbw2 := hide (bTr hbW hb2)
  have hrd := hrow.rdv
  have hne : ∀ k, (Value.slice a ps.length c).ownBlock = some k → (some (w.heap.size + 1) : Option Nat) ≠ some k := by
    intro k hk e
    have := (hrow.lt k hk).1
    cases e
    omega
  obtain ⟨_, _, he, hcell⟩ := hrd.open
  have hfl : ∀ p ∈ ps, p.1 < w.heap.size := fun p hp => ((unhide H).files p hp).1.lt
  rw [hn] at hne hrd hrow ⊢
  replace hrd := hide hrd
  replace hne := hide hne
  replace hfl := hide hfl
  clear hrow he hcell hb2 hbW xR xD
  go_wp2_with (fail)
  go_loopw [10] (fun ti wr => ∃ (k : Nat) (a' : Option Addr) (c' : Nat), k ≤ n ∧ ti = .int .i64 k ∧ Box wr (w.heap.size + 1) 26 (.slice a' k c') ∧ OwnF wr w2.heap.size 36 (.slice a' k c') ((ps.map Prod.snd).take k) ∧ w2.grownBy wr (some (w.heap.size + 1))) (fun ti _ => n - (intOf ti).toNat)
  case atStart => exact ⟨0, none, 0, Nat.zero_le _, rfl, xD2, OwnF.nil _ _ _, gB (Below.refl _ _) _⟩
  case round =>
    obtain ⟨k, a', c', hk, rfl, hbx, hown, hb⟩ := hrel
    have hss := hb.size
    have hbl := hbx.lt
    obtain ⟨pre, hpre⟩ : ∃ pre, (ps.map Prod.snd).take k = pre := ⟨_, rfl⟩
    rw [hpre] at hown
    replace hpre := hide hpre
    by_cases hlt : k < n
    · have hk' : k < ps.length := by omega
      obtain ⟨p, hp⟩ : ∃ p, ps[k]? = some p := ⟨ps[k], List.getElem?_eq_getElem hk'⟩
      obtain ⟨g, f⟩ := p
      have hpm := List.mem_of_getElem? hp
      have hfb := (unhide HF) f (List.mem_map.2 ⟨_, hpm, rfl⟩)
      have hfk := fileB_kept hfb
      have hz1' : f.nm.size ≤ 4000000 := by
        have := fileB_name hfb
        unfold nameB at this
        rw [decide_eq_true_iff] at this
        omega
      have hz2' : f.tx.size ≤ 4000000 := by omega
      have HT2 := hide (fs_take hp)
      rw [unhide hpre] at HT2
      have hrdr := (unhide hrd).grown hb (unhide hne)
      obtain ⟨a2, c2, he, hcell⟩ := hrdr.open
      obtain ⟨gn, on, hea, hgn, hcn⟩ := hcell k _ (nms_at hp)
      have he2 : a = a2 := by injection he
      subst he2
      subst hea
      have hgl := (unhide hfl) _ hpm
      have HSr := (unhide H2).grown hb (by omega) (fun q hq => by have := (unhide hfl) q hq; omega)
      have hrun := (HSr.below (Below.refl _ _).drew).get hpm (show ((g, f) : Pf).2.nm = f.nm from rfl) hz1'
      obtain ⟨d1, d2, d3⟩ := ((HSr.files _ hpm).1).at
      simp only [Nat.zero_add] at d1 d2 d3
      have hgr : g < wr.heap.size := by omega
      have hi0' : (0 : Int) ≤ (k : Int) := by omega
      have hi1' : (k : Int) < (n : Int) := by omega
      have cb := hbx.cell
      have cz := hbx.frozen
      clear hcell he hfb hfk hpm hp hrdr HSr
      replace hb := hide hb
      replace hbx := hide hbx
      go_wp2_with (fail)
      have hs1 : w.heap.size + 1 < wr.heap.size := by omega
      have hlen0 := hown.len
      go_region_law (first
          | (refine step_call rfl (F := 43) (copied_any f _ hz1' hz2') (by go_simp) ?_; rintro e w3 ⟨rfl, hb3⟩; refine ⟨_, rfl, ?_⟩; have ho3 := OwnF.below (w := wr.drew) hown hb3; (have s3 : wr.heap.size ≤ w3.heap.size := hb3.size); (have hbx3 := Box.below (w := wr.drew) (unhide hbx) hb3 hs1); have cb3 := hbx3.cell; (have hl13 : w.heap.size + 1 < w3.heap.size := Nat.lt_of_lt_of_le hs1 s3))
          | (refine step_append_file rfl (.tmp 15) (.tmp 22) 24 rfl w2.heap.size w2.heap.size 36 i0 (flv flz) 40 Try.underlying24 hi hz0 hz1 hz2 rfl _ _ rfl (ho3.alloc _) w3.heap.size _ (heap_alloc_new w3 _) f rfl 1 rfl k hlen0 (by omega) (by decide) (Nat.le_refl _) (by simp; omega) (Below.refl _ _) ?_; intro a4 c4 w4 ho4 hb4 hkp4 hs4; (have hbx4 : Box w4 (w.heap.size + 1) 26 (.slice a' k c') := (hkp4 _ (by simp; omega) (fun e => by have := (ho3.lt _ e).1; omega)).trans (hbx3.alloc _)); have cb4 := hbx4.cell; have cz4 := hbx4.frozen))
      all_goals
        have ho5 := ho4.other (a := ⟨w.heap.size + 1, 0, none⟩) (by show w.heap.size + 1 < w2.heap.size; omega) (.slice a4 (k + 1) c4)
        rw [← unhide HT2] at ho5
        have hbx5 := hbx4.set (.slice a4 (k + 1) c4)
        have hb5 := gT (gTB (unhide hb) ((((Below.refl w2.heap.size wr).drew.trans (hb3.mono hss)).alloc (by omega) _).trans hb4)) (gS w4 (w.heap.size + 1) 0 (.slice a4 (k + 1) c4))
        replace hb5 := hide hb5
        replace ho5 := hide ho5
        replace hbx5 := hide hbx5
        clear hb4 hb3 ho4 hkp4 ho3 hbx3 hbx4 cb3 cb4 cz4
        go_wp2
        go_roundw
        case rel => exact ⟨k + 1, a4, c4, by omega, by go_num, unhide hbx5, unhide ho5, unhide hb5⟩
        case measure => simp [intOf]; omega
    · have hkn : k = n := by omega
      have hpp : pre = ps.map Prod.snd := by rw [← unhide hpre]; exact List.take_of_length_le (by rw [unhide HL]; omega)
      subst hpp
      have cb := hbx.cell
      have hrs : Box wr w.heap.size 26 (.slice none 0 0) := (hb.block _ (by omega) (by simp)).trans (unhide xR2)
      have cr := hrs.cell
      have cz := hrs.frozen
      have hlk : k = (ps.map Prod.snd).length := by rw [unhide HL]; omega
      have hbf := hide (((unhide hbw2).trans (gBelow (B := w.heap.size) hb (by omega) (fun k hk => by cases hk; omega))).setCell (p := ⟨w.heap.size, 0, none⟩) (Nat.le_refl _) (.slice a' k c'))
      have hof := hide ((hown.other (a := ⟨w.heap.size, 0, none⟩) (by show w.heap.size < _; omega) (.slice a' k c')).low (base' := w.heap.size) (by omega))
      replace hlk := hide hlk
      replace hkn := hide hkn
      have hlt0 : w.heap.size < wr.heap.size := hrs.lt
      have hbh := hide hb
      clear hb
      go_wp2
      refine bodyPost_ret (v := .agg #[.slice a' k c']) (by simp [results, Try.results37, go_sem, cr]) rfl ?_
      refine ⟨⟨a', c', ?_, ?_⟩, unhide hbf⟩
      · rw [← unhide hlk]
      · rw [← unhide hlk]; exact unhide hof
end Go.Proofs.Ytkaaabpodhgbpaa
