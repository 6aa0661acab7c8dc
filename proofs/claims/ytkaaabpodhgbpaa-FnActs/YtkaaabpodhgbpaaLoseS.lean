/- The power goes: what spec.LoseDisk comes to. -/
import Derived.Test.YtkaaabpodhgbpaaLoseI
import Derived.Deep.DeepCutAuto
namespace Go.Proofs.Ytkaaabpodhgbpaa
open Go.RowKit

theorem cutF_eq {f : Fl} {told z : Int} (h : cutN f told = z) : cutF f told = ⟨f.nm, f.tx.extract 0 z.toNat, z⟩ := by unfold cutF; rw [h]

set_option maxRecDepth 20000 in
set_option maxHeartbeats 4000000 in
theorem specLose_any (fs : List Fl) (is : List Int) (v vl : Value) (w : World) (hr : RdF w v fs) (hl : RdV w vl (is.map iv)) (hB : Bd fs) (hn : fs.length ≤ 2000000) (_ : is.length ≤ 2000000) :
    Calls Try.prog 41 #[.agg #[v], vl] w fun e w' => DkEnd 36 (loseRes fs is) (okL fs) w e w' := by
  obtain ⟨i0, hi, hz0, hz1, hz2⟩ := info_parts infoFile
  have C : Hid (∀ W v, RdF W v fs → Calls Try.prog 56 #[.agg #[v]] W fun e w' => e = .returned (.bool (okL fs)) ∧ Below W.heap.size W w') := fun W v h => specDiskOk_any fs v W h hB hn
  obtain ⟨a, c, rfl, hc⟩ := hr.open
  obtain ⟨al, cl, rfl, hcl⟩ := hl.open
  rw [List.length_map] at *
  replace hr := hide hr
  clear hl
  cases hokl : okL fs with
  | false =>
    have HR := hide (show loseRes fs is = [] by unfold loseRes; rw [hokl]; rfl)
    rw [hokl] at C
    clear hokl hc hcl
    go_enter Try.func41, Try.ntmps41
    go_wp2_with (go_at_call 56; refine ((unhide C) _ _ (by exact ((unhide hr).alloc _).alloc _)).mono ?_; rintro e w1 ⟨rfl, hb1⟩; obtain ⟨hcc, hff⟩ := bcell hb1)
    have hbf := hide (((((Below.refl w.heap.size w).alloc (Nat.le_refl _) _).alloc (by simp) _).trans (hb1.mono (by simp; omega))).setCell (p := ⟨w.heap.size + 1, 0, none⟩) (Nat.le_succ _) (.slice none 0 0))
    refine bodyPost_ret (v := .tuple #[.agg #[.slice none 0 0], .bool false]) (by simp [results, Try.results41, go_sem, hcc]) rfl ?_
    rw [unhide HR]
    exact ⟨⟨none, 0, rfl, OwnF.nil _ _ _⟩, unhide hbf⟩
  | true =>
    have HOK := hide hokl
    have HR := hide (show loseRes fs is = loseL fs is by unfold loseRes; rw [hokl]; rfl)
    have HL := hide (loseL_len fs is)
    rw [hokl] at C
    clear hokl
    go_enter Try.func41, Try.ntmps41
    go_wp2_with (go_at_call 56; refine ((unhide C) _ _ (by exact ((unhide hr).alloc _).alloc _)).mono ?_; rintro e w1 ⟨rfl, hb1⟩; obtain ⟨hcc, hff⟩ := bcell hb1; (have hz : w.heap.size + 1 < w1.heap.size := (by have := hb1.size; simp at this; omega)); (have hz3 : w.heap.size < w1.heap.size := (by omega)))
    have hbw1 : Below w.heap.size w w1 := (((Below.refl w.heap.size w).alloc (Nat.le_refl _) _).alloc (by simp) _).trans (hb1.mono (by simp; omega))
    have hres : Box w1 (w.heap.size + 1) 26 (.slice none 0 0) := by
      have h0 : Box ((w.alloc (.cells #[.slice a fs.length c] 26)).alloc (.cells #[.slice none 0 0] 26)) (w.heap.size + 1) 26 (.slice none 0 0) := by simpa using Box.new (w.alloc (.cells #[.slice a fs.length c] 26)) 26 (.slice none 0 0)
      exact h0.below hb1 (by simp)
    have hbd : w1.cell? ⟨w.heap.size, 0, none⟩ = some (.slice a fs.length c) := (hb1.cell (p := ⟨w.heap.size, 0, none⟩) (by simp; omega)).trans (by simp)
    clear hcc hff hb1
    have hsz1 : w.heap.size ≤ w1.heap.size := by omega
    replace hres := hide hres
    go_loopw [7] (fun ti wr => ∃ (k : Nat) (a' : Option Addr) (c' : Nat), k ≤ fs.length ∧ ti = .int .i64 k ∧ Box wr w1.heap.size 26 (.slice a' k c') ∧ OwnF wr (w1.heap.size + 1) 36 (.slice a' k c') ((loseL fs is).take k) ∧ Below w1.heap.size w1 wr) (fun ti _ => fs.length - (intOf ti).toNat)
    case atStart => exact ⟨0, none, 0, Nat.zero_le _, rfl, Box.new w1 _ _, OwnF.nil _ _ _, (Below.refl _ w1).alloc (Nat.le_refl _) _⟩
    case round =>
      obtain ⟨k, a', c', hk, rfl, hbx, hown, hb⟩ := hrel
      have hss := hb.size
      have hbl := hbx.lt
      have hbd2 : wr.cell? ⟨w.heap.size, 0, none⟩ = some (.slice a fs.length c) := (hb.cell (p := ⟨w.heap.size, 0, none⟩) hz3).trans hbd
      have hwr : w.heap.size < wr.heap.size := by omega
      obtain ⟨pre, hpre⟩ : ∃ pre, (loseL fs is).take k = pre := ⟨_, rfl⟩
      rw [hpre] at hown
      replace hpre := hide hpre
      by_cases hlt : k < fs.length
      · have hk' := hlt
        obtain ⟨f, hf⟩ : ∃ f, fs[k]? = some f := ⟨fs[k], List.getElem?_eq_getElem hk'⟩
        obtain ⟨g, o, rfl, hg, hat⟩ := hc k f hf
        obtain ⟨d1, d2, d3⟩ := (hat.below hbw1 hg).below hb (Nat.lt_of_lt_of_le hg hsz1)
        have hgr : g < wr.heap.size := by omega
        obtain ⟨z1, z2⟩ := hB f (List.mem_of_getElem? hf)
        have hfk := fileB_kept (okL_mem (unhide HOK) hf)
        have hkk : 0 ≤ f.kp ∧ f.kp ≤ f.tx.size := ⟨hfk.1, hfk.2.1⟩
        have HT := hide (fun told ht => loseL_take (is := is) hf (told := told) ht)
        replace hf := hide hf
        clear hfk hat hc
        obtain ⟨told, htd⟩ : ∃ told, is.getD k 0 = told := ⟨_, rfl⟩
        have HT2 := hide (unhide HT told htd)
        rw [unhide hpre] at HT2
        replace htd := hide htd
        clear HT
        go_upto_if 30 with fail
        go_cut [9] (fun t9 wx => t9 = .int .i64 told ∧ wx = wr.alloc (.cells #[.string f.nm, .string f.tx, .int .i64 f.kp] 36))
        case first =>
          by_cases hki : k < is.length
          · have hix : is[k]? = some is[k] := List.getElem?_eq_getElem hki
            obtain ⟨gl, ol, rfl, hgl, dl⟩ := hcl k (iv is[k]) (by rw [List.getElem?_map, hix]; rfl)
            have etold : is[k] = told := by rw [← unhide htd, List.getD_eq_getElem?_getD, hix]; rfl
            have dl1 : wr.cell? ⟨gl, ol + k, none⟩ = some (.int .i64 told) := (hb.cell (p := ⟨gl, ol + k, none⟩) (Nat.lt_of_lt_of_le hgl hsz1)).trans ((hbw1.cell (p := ⟨gl, ol + k, none⟩) hgl).trans (by rw [← etold]; exact dl))
            have hgl2 : gl < wr.heap.size := by omega
            have hki1 : (k : Int) < (is.length : Int) := by omega
            clear hix dl hcl etold
            go_wp2_with fail
            go_meet
            case rel => exact ⟨rfl, rfl⟩
          · have etold : (0 : Int) = told := by rw [← unhide htd, List.getD_eq_getElem?_getD, List.getElem?_eq_none (by omega)]; rfl
            have hki1 : ¬ (k : Int) < (is.length : Int) := by omega
            clear hcl
            replace etold := hide etold
            go_wp2_with fail
            go_meet
            case rel => exact ⟨by rw [← unhide etold], rfl⟩
        case rest =>
          obtain ⟨rfl, rfl⟩ := hcut
          go_upto_if 39 with fail
          go_cut [9] (fun t9 wx => t9 = .int .i64 (min told f.tx.size) ∧ wx = wr.alloc (.cells #[.string f.nm, .string f.tx, .int .i64 f.kp] 36))
          case first =>
            by_cases q1 : (f.tx.size : Int) < told
            · have hm := hide (show (f.tx.size : Int) = min told f.tx.size by omega)
              go_wp2_with fail
              go_meet
              case rel => exact ⟨by rw [← unhide hm], rfl⟩
            · have hm := hide (show told = min told f.tx.size by omega)
              go_wp2_with fail
              go_meet
              case rel => exact ⟨by rw [← unhide hm], rfl⟩
          case rest =>
            obtain ⟨rfl, rfl⟩ := hcut
            obtain ⟨y, hy⟩ : ∃ y, min told (f.tx.size : Int) = y := ⟨_, rfl⟩
            obtain ⟨z, hz9⟩ : ∃ z, cutN f told = z := ⟨_, rfl⟩
            have HC := hide (cutF_eq hz9)
            have y1 : (0 : Int) ≤ z := by rw [← hz9]; unfold cutN; omega
            have y2 : z ≤ (f.tx.size : Int) := by rw [← hz9]; unfold cutN; omega
            have HZ : Hid (z = max y f.kp) := by rw [← hz9, ← hy]; unfold cutN; show _ = _; omega
            rw [hy]
            clear hy hz9
            go_upto_if 46 with fail
            go_cut [9] (fun t9 wx => t9 = .int .i64 z ∧ wx = wr.alloc (.cells #[.string f.nm, .string f.tx, .int .i64 f.kp] 36))
            case first =>
              by_cases q1 : y < f.kp
              · have hm := hide (show f.kp = z by rw [unhide HZ]; omega)
                go_wp2_with fail
                go_meet
                case rel => exact ⟨by rw [← unhide hm], rfl⟩
              · have hm := hide (show y = z by rw [unhide HZ]; omega)
                go_wp2_with fail
                go_meet
                case rel => exact ⟨by rw [← unhide hm], rfl⟩
            case rest =>
              obtain ⟨rfl, rfl⟩ := hcut
              go_wp2_with fail
              have hW0c : FlAt (wr.alloc (.cells #[.string f.nm, .string f.tx, .int .i64 f.kp] 36)) wr.heap.size 0 f := ⟨by simp, by simp, by simp⟩
              have hbx0 := hbx.alloc (.cells #[.string f.nm, .string f.tx, .int .i64 f.kp] 36)
              have hown0 := hown.alloc (.cells #[.string f.nm, .string f.tx, .int .i64 f.kp] 36)
              have hb0 := hb.alloc hss (.cells #[.string f.nm, .string f.tx, .int .i64 f.kp] 36)
              have hs0 : wr.heap.size < (wr.alloc (.cells #[.string f.nm, .string f.tx, .int .i64 f.kp] 36)).heap.size := by simp
              generalize (wr.alloc (.cells #[.string f.nm, .string f.tx, .int .i64 f.kp] 36)) = W0 at *
              obtain ⟨c0, c1, c2⟩ := hW0c
              simp only [Nat.zero_add] at c1 c2
              have cb := hbx0.cell
              have hs1 : w1.heap.size < W0.heap.size := by omega
              replace hb := hide hb
              replace hbx := hide hbx
              replace hown := hide hown
              replace hbx0 := hide hbx0
              clear d1 d2 d3
              go_region_law (first
                  | (refine step_append_file rfl (.tmp 50) (.tmp 59) 24 rfl (w1.heap.size + 1) w1.heap.size 36 i0 (flv flz) 40 Try.underlying24 hi hz0 hz1 hz2 rfl _ _ rfl (by exact hown0.drew.alloc _) W0.heap.size _ (by exact heap_alloc_new W0.drew _) ⟨f.nm, f.tx.extract 0 z.toNat, z⟩ rfl 1 rfl k hown0.len (by omega) (by decide) (Nat.le_succ _) (by show _ ≤ (W0.alloc _).heap.size; simp; omega) (by exact hb0.drew.alloc (Nat.le_of_lt hs1) _) ?_; intro a3 c3 w3 ho3 hb3 hkp3 hs3; (have hbx3 : Box w3 w1.heap.size 26 (.slice a' k c') := (hkp3 _ (by show _ < (W0.alloc _).heap.size; simp; omega) (fun e => by have := (hown0.lt _ e).1; omega)).trans ((unhide hbx0).drew.alloc _)); have cb3 := hbx3.cell; have cz3 := hbx3.frozen))
              all_goals
                have ho4 := ho3.other (a := ⟨w1.heap.size, 0, none⟩) (Nat.lt_succ_self _) (.slice a3 (k + 1) c3)
                rw [← unhide HC, ← unhide HT2] at ho4
                have hbx4 := hbx3.set (.slice a3 (k + 1) c3)
                have hb4 := hb3.setCell (p := ⟨w1.heap.size, 0, none⟩) (Nat.le_refl _) (.slice a3 (k + 1) c3)
                go_wp2
                go_roundw
                case rel => exact ⟨k + 1, a3, c3, by omega, by go_num, hbx4, ho4, hb4⟩
                case measure => simp [intOf]; omega
      · have hkn : k = fs.length := by omega
        have H : pre = loseL fs is := by rw [← unhide hpre]; exact List.take_of_length_le (by rw [unhide HL]; omega)
        subst H
        have cb := hbx.cell
        have hrs := (unhide hres).below hb hz
        have cr := hrs.cell
        have cz := hrs.frozen
        have hlk : k = (loseL fs is).length := by rw [unhide HL]; exact hkn
        have hbf := hide ((hbw1.trans (hb.mono hsz1)).setCell (p := ⟨w.heap.size + 1, 0, none⟩) (Nat.le_succ _) (.slice a' k c'))
        have hof := hide ((hown.other (a := ⟨w.heap.size + 1, 0, none⟩) (by show w.heap.size + 1 < _; omega) (.slice a' k c')).low (base' := w.heap.size) (by omega))
        replace hkn := hide hkn
        replace hlk := hide hlk
        go_wp2
        refine bodyPost_ret (v := .tuple #[.agg #[.slice a' k c'], .bool true]) (by simp [results, Try.results41, go_sem, cr]) rfl ?_
        rw [unhide HR]
        refine ⟨⟨a', c', ?_, ?_⟩, unhide hbf⟩
        · rw [← unhide hlk]
        · rw [← unhide hlk]; exact unhide hof
end Go.Proofs.Ytkaaabpodhgbpaa
