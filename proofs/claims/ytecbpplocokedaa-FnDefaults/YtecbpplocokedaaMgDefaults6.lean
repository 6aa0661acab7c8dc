/- Merged: ShaP, Mrk, ShaQ, Rul0, RuI2, ThgH. -/
import Derived.Test.YtecbpplocokedaaMgDefaults1
import Derived.Test.YtecbpplocokedaaMgDefaults2
import Derived.Test.YtecbpplocokedaaMgDefaults3
import Derived.Test.YtecbpplocokedaaMgDefaults4
import Derived.Test.YtecbpplocokedaaMgDefaults5
import Derived.Laws.DeepStrings4
import Derived.Lib.ConvBytes
/- More text comes, by spec, over the loaded program. -/
namespace Go.Proofs.Ytecbpplocokedaa
open Go.RowKit
theorem slice_lh (T : ByteArray) (i j : Nat) (w : World) (h1 : i ≤ j) (h2 : j ≤ T.size) : (Instr.slice 9 (.string T) (some (.int .i64 (i : Int))) (some (.int .i64 (j : Int))) none).run Try.prog w = .ok (.string (T.extract i j)) w := by
  rw [run_slice_string_if w 9 T .i64 .i64 (i : Int) (j : Int) Try.underlying9, if_pos (by omega), if_pos (by omega)]
  rfl
theorem slice_l (T : ByteArray) (i : Nat) (w : World) (h2 : i ≤ T.size) : (Instr.slice 9 (.string T) (some (.int .i64 (i : Int))) none none).run Try.prog w = .ok (.string (T.extract i T.size)) w := by
  rw [run_slice_string_l w 9 T Try.underlying9 .i64 (i : Int) (by omega) (by omega)]
  rfl
theorem toL_small {v : V8} (h : v.ok) : ∀ x ∈ v.toL, x < 4294967296 := by
  obtain ⟨h1, h2, h3, h4, h5, h6, h7, h8⟩ := h
  intro x hx
  simp only [V8.toL, List.mem_cons, List.not_mem_nil, or_false] at hx
  rcases hx with rfl | rfl | rfl | rfl | rfl | rfl | rfl | rfl <;> assumption
set_option maxRecDepth 20000 in
set_option maxHeartbeats 400000 in
theorem specMore_yes (a : Hs) (s : ByteArray) (w : World) (h1 : a.st.size ≤ maxLen) (h2 : a.rs.size ≤ 1048576) (hs : s.size ≤ 4000000) (hok : okH a = true) (hc : a.ct + (s.size : Int) ≤ 1000000000) :
    Calls Try.prog 54 #[hsv a, .string s] w fun e w' => e = .returned (hsv (moreH a s)) ∧ Below w.heap.size w w' := by
  have CO := hide (fun W => specOk_any a W h1 (by unfold maxLen; omega))
  rw [hok] at CO
  obtain ⟨q1, q2, q3, q4⟩ := okH_yes hok
  obtain ⟨st, rs, ct⟩ := a
  dsimp only at *
  obtain ⟨m, rfl⟩ : ∃ m : Nat, ct = (m : Int) := ⟨ct.toNat, by omega⟩
  have hts : (moreT ⟨st, rs, (m : Int)⟩ s).size ≤ 10000000 := by unfold moreT; rw [ByteArray.size_append]; dsimp only; omega
  have C1 := hide (fun W => specWords_any st 8 q1 (by decide) W)
  have hlt1 : ¬ 1000000000 < (m : Int) + (s.size : Int) := by omega
  have ew : IntKind.i64.wrap ((m : Int) + (s.size : Int)) = (m : Int) + (s.size : Int) := by rw [IntKind.wrap_i64]; omega
  have hm : m ≤ 1000000000 := by omega
  unfold hsv at CO ⊢
  dsimp only at CO ⊢
  clear q1 q2 q3 q4 h1 hok
  go_enter Try.func54, Try.ntmps54
  go_wp2_with fail
  obtain ⟨W, hW, hB, hR, hb, hlt⟩ := two_hash w ⟨st, rs, (m : Int)⟩ h0 74 74
  unfold h0 at hW
  dsimp only at hW
  rw [hW]
  clear hW
  refine ((unhide CO) W).mono ?_
  rintro e w1 ⟨rfl, hb1⟩
  have hB1 := hB.step hb1
  have hR1 := hide (hR.step hb1)
  have k0 := hB1.c0
  have k1 := hB1.c1
  have k2 := hB1.c2
  dsimp only at k0 k1 k2
  have hl1 := (unhide hR1).lt
  have hl1' := hB1.lt
  have HT1 := hide (hb.trans (hb1.mono (by omega)))
  replace hB1 := hide hB1
  clear hB hb hb1 hR hlt
  have hx : (moreT ⟨st, rs, (m : Int)⟩ s) = rs ++ s := rfl
  obtain ⟨T, hT⟩ : ∃ T, T = moreT ⟨st, rs, (m : Int)⟩ s := ⟨_, rfl⟩
  rw [← hT] at hts hx
  have HM : Hid (moreH ⟨st, rs, (m : Int)⟩ s = ⟨(blocksW (stOf st) T 0 (T.size / 64)).text, T.extract (64 * (T.size / 64)) T.size, (m : Int) + (s.size : Int)⟩) := hide (by rw [hT]; rfl)
  replace hT := hide hT
  replace hx := hide hx
  go_wp2_with fail
  refine ((unhide C1) w1).mono ?_
  rintro e w2 ⟨⟨a8, c8, rfl, hown2⟩, hb2⟩
  obtain ⟨g8, rfl, hg81, hg82⟩ := hown2.some_at (by omega)
  replace hown2 := hide hown2
  have hs12 := hb2.size
  have j1 := hb2.cell (p := ⟨w.heap.size, 1, none⟩) hl1'
  rw [k1] at j1
  go_wp2_with fail
  refine (specK_any w2).mono ?_
  rintro e w3 ⟨⟨a9, c9, rfl, hown3⟩, hb3⟩
  obtain ⟨g9, rfl, hg91, hg92⟩ := hown3.some_at (by omega)
  have HK := hide (hown3.low hs12)
  have HS := hide ((unhide hown2).below hb3)
  clear hown3 hown2
  have hB3 := ((unhide hB1).step hb2).step hb3
  have hR3 := hide (((unhide hR1).step hb2).step hb3)
  have i1 := hB3.c1
  have i2 := hB3.c2
  dsimp only at i1 i2
  have hl3 := (unhide hR3).lt
  have hl3' := hB3.lt
  have HT3 := hide (((unhide HT1).trans (hb2.mono (by omega))).trans (hb3.mono (by omega)))
  have hs13 : w1.heap.size ≤ w3.heap.size := by have := hb3.size; omega
  replace hB3 := hide hB3
  clear hB1 hR1 HT1 hl1 hl1' k0 k1 k2 hb2 hb3 j1
  go_wp2_with fail
  rw [← unhide hx]
  go_loopw [5, 8] (fun tv ti wq => ∃ q : Nat, 64 * q ≤ T.size ∧ ti = .int .i64 ((64 * q : Nat) : Int) ∧ (∃ g c, tv = .slice (some ⟨g, 0, none⟩) 8 c ∧ Hid (OwnV wq w1.heap.size 65 (.slice (some ⟨g, 0, none⟩) 8 c) ((blocksW (stOf st) T 0 q).toL.map u32v))) ∧ Below w3.heap.size w3 wq) (fun _ ti _ => T.size - (intOf ti).toNat)
  case atStart => exact ⟨0, by omega, rfl, ⟨g8, c8, rfl, HS⟩, Below.refl _ _⟩
  case round =>
    clear HS
    obtain ⟨q, hq, rfl, ⟨g, c, rfl, HS⟩, hb⟩ := hrel
    obtain ⟨i, hi⟩ : ∃ i, i = 64 * q := ⟨_, rfl⟩
    rw [← hi] at hq ⊢
    have hib : i ≤ 10000000 := by omega
    obtain ⟨j, hj⟩ : ∃ j, j = i + 64 := ⟨_, rfl⟩
    have ei : IntKind.i64.wrap ((i : Int) + 64) = (j : Int) := by rw [IntKind.wrap_i64]; omega
    by_cases hlt : j ≤ T.size
    · have hl4 : (j : Int) ≤ (T.size : Int) := by omega
      have hsl := slice_lh T i j wr (by omega) hlt
      have hxs : (T.extract i j).size = 64 := by rw [ByteArray.size_extract]; omega
      have HSt := hide (show blocksW (stOf st) T 0 (q + 1) = roundW (blocksW (stOf st) T 0 q) (T.extract i j) by rw [hj, hi]; simp only [blocksW, Nat.zero_add])
      have hOk := blocksW_ok (stOf_ok st) T 0 q
      have hKq := hide ((unhide HK).below hb)
      generalize T.extract i j = blk at *
      have C5 := hide (specRound_any (blocksW (stOf st) T 0 q) hOk blk hxs g c g9 c9 w1.heap.size wr (unhide HS) (unhide hKq))
      have hsz := hb.size
      replace hi := hide hi
      replace hj := hide hj
      clear hOk HS hKq hxs
      go_wp2_with fail
      refine (unhide C5).mono ?_
      rintro e w4 ⟨⟨g4, c4, rfl, hown4⟩, hb4⟩
      have hown5 := hide (hown4.low (base' := w1.heap.size) (by omega))
      rw [← unhide HSt] at hown5
      have hb5 := hb.trans (hb4.mono hsz)
      clear hown4 hb4 C5
      go_wp2
      go_roundw
      case rel => exact ⟨q + 1, by have := unhide hi; have := unhide hj; omega, by have := unhide hi; have := unhide hj; go_num, ⟨_, _, rfl, hown5⟩, hb5⟩
      case measure => have := unhide hi; have := unhide hj; simp [intOf]; omega
    · have hl4 : ¬ (j : Int) ≤ (T.size : Int) := by omega
      have hqe : q = T.size / 64 := by omega
      have hsl := slice_l T i wr (by omega)
      rw [hi, hqe] at hsl
      rw [← hqe, ← hi] at hsl
      have HM2 : Hid (moreH ⟨st, rs, (m : Int)⟩ s = ⟨(blocksW (stOf st) T 0 q).text, T.extract i T.size, (m : Int) + (s.size : Int)⟩) := hide (by rw [unhide HM, hi, hqe])
      have hOk := blocksW_ok (stOf_ok st) T 0 q
      have C6 := hide (fun (W : World) (hW : OwnV W w1.heap.size 65 (.slice (some ⟨g, 0, none⟩) 8 c) ((blocksW (stOf st) T 0 q).toL.map u32v)) => specBytes_any (blocksW (stOf st) T 0 q).toL (toL_small hOk) (by show 8 ≤ 1000; omega) _ w1.heap.size W hW)
      generalize blocksW (stOf st) T 0 q = v2 at *
      have hB5 := (unhide hB3).below hb hl3'
      have hR5 := hide ((unhide hR3).below hb hl3)
      have n2 := hB5.c2
      dsimp only at n2
      have hb5 := (unhide HT3).trans (hb.mono (by have := (unhide HT3).size; omega))
      have hs5 := hb.size
      replace hi := hide hi
      replace hj := hide hj
      replace hqe := hide hqe
      clear HM HK hB5
      go_wp2_with fail
      go_region_held3 (fun W => W.cell? ⟨w.heap.size, 2, none⟩ = some (.int .i64 (m : Int))) (first | exact n2 | exact n5 | exact keep3 n5 (by omega) | fail) (first
        | (go_at_call 68; refine ((unhide C6) _ (by exact unhide HS)).mono ?_; rintro e w5 ⟨rfl, hb6⟩; have hb7 := hb.drew.trans (hb6.mono hs5); have n5 := ((unhide hB3).below hb7 hl3').c2; have hR6 := (unhide hR3).below hb7 hl3; have r0 := hR6.c0; have r1 := hR6.c1; have r2 := hR6.c2; have f0 := hR6.frozen 0; have f1 := hR6.frozen 1; have f2 := hR6.frozen 2)
        | fail)
      have HT6 := hide ((unhide HT3).trans (hb7.mono (by have := (unhide HT3).size; omega)))
      have e2 : (⟨(bytesL v2.toL).toArray⟩ : ByteArray) = v2.text := rfl
      rw [e2]
      replace hR6 := hide hR6
      clear hb6 hb7 hb5 hb n2 n5 r0 r1 r2 f0 f1 f2 e2 C6
      go_wp2
      refine bodyPost_ret (v := hsv ⟨v2.text, T.extract i T.size, (m : Int) + (s.size : Int)⟩) (results_hash Try.results54 _ _ (w.heap.size + 1) 74 _ _ rfl (HB.set3 (unhide hR6) ⟨v2.text, T.extract i T.size, (m : Int) + (s.size : Int)⟩) Try.underlying74 (by kernel_rfl)) rfl ⟨by rw [unhide HM2]; rfl, ?_⟩
      exact (((unhide HT6).setCell (p := ⟨w.heap.size + 1, 0, none⟩) (Nat.le_succ _) _).setCell (p := ⟨w.heap.size + 1, 1, none⟩) (Nat.le_succ _) _).setCell (p := ⟨w.heap.size + 1, 2, none⟩) (Nat.le_succ _) _
set_option maxRecDepth 20000 in
set_option maxHeartbeats 400000 in
theorem specMore_no (a : Hs) (s : ByteArray) (w : World) (h1 : a.st.size ≤ maxLen) (h2 : a.rs.size ≤ maxLen) (hs : s.size ≤ 4000000) (hok : okH a = false ∨ (okH a = true ∧ 1000000000 < a.ct + (s.size : Int))) :
    Calls Try.prog 54 #[hsv a, .string s] w fun e w' => e = .returned (hsv a) ∧ Below w.heap.size w w' := by
  have CO := hide (fun W => specOk_any a W h1 h2)
  have hbd : okH a = true → 0 ≤ a.ct ∧ a.ct ≤ 1000000000 := fun h => ⟨(okH_yes h).2.1, (okH_yes h).2.2.1⟩
  obtain ⟨st, rs, ct⟩ := a
  dsimp only at *
  clear h1 h2
  unfold hsv
  dsimp only
  unfold hsv at CO
  dsimp only at CO
  generalize okH ⟨st, rs, ct⟩ = ok at *
  go_enter Try.func54, Try.ntmps54
  go_wp2_with fail
  obtain ⟨W, hW, hB, hR, hb, hlt⟩ := two_hash w ⟨st, rs, ct⟩ h0 74 74
  unfold h0 at hW
  dsimp only at hW
  rw [hW]
  clear hW
  refine ((unhide CO) W).mono ?_
  rintro e w1 ⟨rfl, hb1⟩
  have hB1 := hB.step hb1
  have hR1 := hide (hR.step hb1)
  have k0 := hB1.c0
  have k1 := hB1.c1
  have k2 := hB1.c2
  dsimp only at k0 k1 k2
  have r0 := (unhide hR1).c0
  have r1 := (unhide hR1).c1
  have r2 := (unhide hR1).c2
  have f0 := (unhide hR1).frozen 0
  have f1 := (unhide hR1).frozen 1
  have f2 := (unhide hR1).frozen 2
  have hl1 := (unhide hR1).lt
  have hl1' := hB1.lt
  have HT1 := hide (hb.trans (hb1.mono (by omega)))
  replace hB1 := hide hB1
  clear hB hb hb1 hR hlt CO
  rcases hok with rfl | ⟨rfl, hbig⟩
  · clear hbd
    go_wp2
    refine bodyPost_ret (v := hsv ⟨st, rs, ct⟩) (results_hash Try.results54 _ _ (w.heap.size + 1) 74 _ _ rfl (HB.set3 (unhide hR1) ⟨st, rs, ct⟩) Try.underlying74 (by kernel_rfl)) rfl ⟨rfl, ?_⟩
    exact (((unhide HT1).setCell (p := ⟨w.heap.size + 1, 0, none⟩) (Nat.le_succ _) _).setCell (p := ⟨w.heap.size + 1, 1, none⟩) (Nat.le_succ _) _).setCell (p := ⟨w.heap.size + 1, 2, none⟩) (Nat.le_succ _) _
  · obtain ⟨hb0, hb9⟩ := hbd rfl
    have hlt1 : 1000000000 < ct + (s.size : Int) := by omega
    have ew : IntKind.i64.wrap (ct + (s.size : Int)) = ct + (s.size : Int) := by rw [IntKind.wrap_i64]; omega
    clear hbd
    go_wp2
    refine bodyPost_ret (v := hsv ⟨st, rs, ct⟩) (results_hash Try.results54 _ _ (w.heap.size + 1) 74 _ _ rfl (HB.set3 (unhide hR1) ⟨st, rs, ct⟩) Try.underlying74 (by kernel_rfl)) rfl ⟨rfl, ?_⟩
    exact (((unhide HT1).setCell (p := ⟨w.heap.size + 1, 0, none⟩) (Nat.le_succ _) _).setCell (p := ⟨w.heap.size + 1, 1, none⟩) (Nat.le_succ _) _).setCell (p := ⟨w.heap.size + 1, 2, none⟩) (Nat.le_succ _) _
end Go.Proofs.Ytecbpplocokedaa

/- A row of bytes of the call's own that came of a text: the mark of a conversion lies behind its cells; bytes are appended to it, one by one, with room or without. -/
namespace Go.Proofs.Ytecbpplocokedaa
open Go.RowKit
def MB (w : World) (base : Nat) (e : TypeId) (v : Value) (l : List UInt8) : Prop :=
  ∃ (g cap : Nat) (cur : Array Value) (lo hi : Nat), v = .slice (some ⟨g, 0, none⟩) l.length cap ∧ base ≤ g ∧ w.heap[g]? = some (.cells cur e (lo, hi)) ∧ (∀ j, j < cur.size → ¬ (lo ≤ j ∧ j < hi)) ∧ l.length ≤ cap ∧ cur.size = cap ∧ cur.toList.take l.length = l.map bv
theorem MB.shape {w : World} {base : Nat} {e : TypeId} {v : Value} {l : List UInt8} (h : MB w base e v l) : ∃ g c, v = .slice (some ⟨g, 0, none⟩) l.length c ∧ base ≤ g ∧ g < w.heap.size ∧ l.length ≤ c := by
  obtain ⟨g, cap, cur, lo, hi, h1, h2, h3, _, h5, _⟩ := h
  refine ⟨g, cap, h1, h2, ?_, h5⟩
  rcases Nat.lt_or_ge g w.heap.size with h | h
  · exact h
  · rw [Array.getElem?_eq_none h] at h3; cases h3
theorem MB.keep {w w' : World} {base : Nat} {e : TypeId} {v : Value} {l : List UInt8} (h : MB w base e v l) (hb : ∀ g, v.ownBlock = some g → w'.heap[g]? = w.heap[g]?) : MB w' base e v l := by
  obtain ⟨g, cap, cur, lo, hi, rfl, h2, h3, r⟩ := h
  exact ⟨g, cap, cur, lo, hi, rfl, h2, by rw [hb g rfl]; exact h3, r⟩
theorem MB.below {w w' : World} {base : Nat} {e : TypeId} {v : Value} {l : List UInt8} (h : MB w base e v l) (hb : Below w.heap.size w w') : MB w' base e v l := by
  obtain ⟨g, c, rfl, _, hg, _⟩ := h.shape
  exact h.keep (fun k hk => by simp only [Value.ownBlock, Option.some.injEq] at hk; subst hk; exact hb.block g hg)
theorem MB.cell {w : World} {base g n c : Nat} {e : TypeId} {l : List UInt8} (h : MB w base e (.slice (some ⟨g, 0, none⟩) n c) l) {j : Nat} {b : UInt8} (hj : l[j]? = some b) : w.cell? ⟨g, j, none⟩ = some (bv b) := by
  obtain ⟨g', cap, cur, lo, hi, h1, h2, h3, h4, h5, h6, h7⟩ := h
  simp only [Value.slice.injEq, Option.some.injEq, Addr.mk.injEq] at h1
  obtain ⟨⟨rfl, _⟩, rfl, rfl⟩ := h1
  have hl : j < l.length := (List.getElem?_eq_some_iff.mp hj).1
  have e1 : (cur.toList.take l.length)[j]? = some (bv b) := by rw [h7, List.getElem?_map, hj]; rfl
  rw [List.getElem?_take_of_lt hl] at e1
  simp only [World.cell?, h3]
  simpa using e1
theorem bytes_mb (w : World) (e : TypeId) (s : ByteArray) : MB (Lib.bytesWorld w e s) w.heap.size e (.slice (some ⟨w.heap.size, 0, none⟩) s.size (grownCap w s.size 0 e)) s.data.toList := by
  have hge := grownCap_ge w s.size 0 e
  have hsz : (Lib.bytesCells w e s).size = grownCap w s.size 0 e := by
    simp only [Lib.bytesCells, Array.size_append, Array.size_map, Array.size_replicate]
    show s.size + _ = _
    omega
  refine ⟨w.heap.size, grownCap w s.size 0 e, Lib.bytesCells w e s, _, _, rfl, Nat.le_refl _, Lib.bytesWorld_at_new w e s, fun j hj => by omega, hge, hsz, ?_⟩
  simp only [Lib.bytesCells, Array.toList_append, Array.toList_map]
  rw [List.take_left' (by rw [List.length_map])]
  rfl
theorem bytes_below2 (w : World) (e : TypeId) (s : ByteArray) : Below w.heap.size w (Lib.bytesWorld w e s) :=
  ⟨rfl, rfl, rfl, by rw [Lib.bytesWorld_size]; omega, fun k hk => Lib.bytesWorld_at_old w e s k hk⟩
theorem heap_setCell_at (w : World) (g k : Nat) (cur : Array Value) (e : TypeId) (f : Nat × Nat) (u : Value) (h : w.heap[g]? = some (.cells cur e f)) : (w.setCell ⟨g, k, none⟩ u).heap[g]? = some (.cells (cur.setIfInBounds k u) e f) := by
  simp [World.setCell, Array.getElem?_modify, h]
theorem run_append_mark {P : Program} (w : World) (t ty e : TypeId) (i : TypeInfo) (z : Value) (ht : P.underlying t = some (.slice e)) (hi : P.info? e = some i) (hz : i.zero = some z) (hsize : i.size = 1) (hby : i.bytes = 1) (hzs : z.cells.size = 1)
    (base : Nat) (v : Value) (l : List UInt8) (h : MB w base e v l) (a : Addr) (c : Nat) (b : UInt8) (hx : w.cell? (a.add 0) = some (bv b)) (hlen : l.length + 1 ≤ 140737488355328) (hbase : base ≤ w.heap.size) :
    ∃ v' w', (Builtin.append_ #[t, t] ty #[v, .slice (some a) 1 c]).run P w = .ok v' w' ∧ MB w' base e v' (l ++ [b]) ∧ w.grownBy w' v.ownBlock := by
  have hnews : ∀ j u, [bv b][j]? = some u → w.cell? (a.add j) = some u := by
    intro j u hu
    cases j with
    | zero => simp only [List.getElem?_cons_zero, Option.some.injEq] at hu; subst hu; exact hx
    | succ j => simp at hu
  have hM := h
  obtain ⟨g, cap, cur, lo, hi', rfl, h2, h3, h4, h5, h6, h7⟩ := h
  by_cases hroom : l.length + 1 ≤ cap
  · have hin : l.length < cur.size := by omega
    have hcell : w.cell? ⟨g, l.length, none⟩ = some cur[l.length] := by simp [World.cell?, h3, hin]
    have hfro : w.frozen? ⟨g, l.length, none⟩ = false := by
      have := h4 l.length hin
      simp only [World.frozen?, h3]
      simp
      omega
    have hadd : (⟨g, l.length, none⟩ : Addr).add 0 = ⟨g, l.length, none⟩ := by unfold Addr.add; split <;> simp_all
    have hst : (storeCells ⟨g, l.length, none⟩ [bv b] 0).run P w = .ok () (w.setCell ⟨g, l.length, none⟩ (bv b)) := by
      have h0 : (store ((⟨g, l.length, none⟩ : Addr).add 0) (bv b)).run P w = .ok () (w.setCell ⟨g, l.length, none⟩ (bv b)) := by
        rw [hadd, run_store P w _ (bv b) _ rfl, hcell]
        simp [hfro]
      simp only [storeCells, Sem.run_bind, h0, Result.andThen_ok]
      rfl
    have hf := run_firstCells_some (P := P) w i.size 1 a 1 c [bv b] (by rw [hsize]; rfl) hnews
    have hr : (Builtin.append_ #[t, t] ty #[.slice (some ⟨g, 0, none⟩) l.length cap, .slice (some a) 1 c]).run P w = .ok (.slice (some ⟨g, 0, none⟩) (l.length + 1) cap) (w.setCell ⟨g, l.length, none⟩ (bv b)) := by
      rw [hsize] at hf
      simp [Builtin.append_, run_underlying ht, sizeOf, typeInfo, hi, Builtin.lenOf, hroom, hf, Addr.add_lit, hst, hsize]
    refine ⟨_, _, hr, ⟨g, cap, cur.setIfInBounds l.length (bv b), lo, hi', by rw [List.length_append]; rfl, h2, heap_setCell_at w g _ cur e _ _ h3, by rw [Array.size_setIfInBounds]; exact h4, by rw [List.length_append]; exact hroom, by rw [Array.size_setIfInBounds]; exact h6, ?_⟩, ⟨rfl, rfl, rfl, by simp, fun k _ hk => RowKit.Below.heap_setCell _ _ _ _ (fun e => hk (by simp [Value.ownBlock, e]))⟩⟩
    have hll : l.length < cur.toList.length := by simpa using hin
    rw [List.length_append, List.length_singleton, List.map_append, ← h7, Array.toList_setIfInBounds]
    apply List.ext_getElem?
    intro j
    simp only [List.getElem?_take, List.getElem?_set, List.getElem?_append, List.length_take]
    have hmin : min l.length cur.toList.length = l.length := by omega
    rw [hmin]
    by_cases hj : j < l.length
    · rw [if_pos (by omega), if_neg (by omega), if_pos hj, if_pos hj]
    · by_cases hj2 : j = l.length
      · subst hj2
        rw [if_pos (by omega), if_pos rfl, if_pos hll, if_neg (by omega), Nat.sub_self]
        rfl
      · rw [if_neg (by omega), if_neg (by omega), List.getElem?_eq_none (by simp; omega)]
  · have holds : ∀ j u, (l.map bv)[j]? = some u → w.cell? ((⟨g, 0, none⟩ : Addr).add j) = some u := by
      intro j u hu
      have hadd : (⟨g, 0, none⟩ : Addr).add j = ⟨g, j, none⟩ := by unfold Addr.add; split <;> simp_all
      rw [hadd]
      rw [List.getElem?_map] at hu
      cases hb : l[j]? with
      | none => rw [hb] at hu; cases hu
      | some b' => rw [hb] at hu; cases hu; exact hM.cell hb
    have hr := run_append_grow (P := P) w t ty e i z ht hi hz ⟨g, 0, none⟩ l.length cap (l.map bv) (by rw [hsize, Nat.mul_one, List.length_map]) holds a 1 c [bv b] (by rw [hsize]; rfl) hnews (by omega) (by omega) (growslice_fits (by omega) (by rw [hby, Nat.mul_one]; exact hlen))
    have hge := grownCap_ge w (l.length + 1) cap e
    refine ⟨_, _, hr, ⟨w.heap.size, grownCap w (l.length + 1) cap e, _, 0, 0, by rw [List.length_append]; rfl, hbase, heap_alloc_new w.drew _, fun j _ => by omega, by rw [List.length_append]; exact hge, ?_, ?_⟩, ⟨rfl, rfl, rfl, by simp, fun k hk _ => (((Below.refl w.heap.size w).drew).alloc (Nat.le_refl _) _).block k hk⟩⟩
    · simp only [Array.size_append, List.size_toArray, size_zeroCells, hzs, List.length_map, List.length_singleton]
      omega
    · simp only [Array.toList_append, List.length_append, List.length_singleton, List.map_append, List.map_cons, List.map_nil]
      rw [List.take_left' (by simp)]
theorem wpList_append_mark {P : Program} {w : World} {ops : Array Oper} {rest : List Oper} {o : Oper} {a : Act} {Q : Exit → Act → World → Prop} {e : TypeId} {x : Int} (hgd : o.guard = none) (s y : Operand) (t : TypeId)
    (ho : o.op = .call { callee := .builtin .append, args := #[s, y], argTypes := #[t, t] })
    (base B : Nat) (i : TypeInfo) (z : Value) (ht : P.underlying t = some (.slice e)) (hi : P.info? e = some i) (hz : i.zero = some z) (hsize : i.size = 1) (hby : i.bytes = 1) (hzs : z.cells.size = 1)
    (v : Value) (l : List UInt8) (hs : a.eval s = v) (hown : MB w base e v l) (b : UInt8) (hxb : x = (b.toNat : Int))
    (hx : a.eval y = .slice (some ⟨w.heap.size, 0, none⟩) 1 1)
    (hlen : l.length + 1 ≤ 140737488355328) (hB : B ≤ base) (hbase : base ≤ w.heap.size) {w00 : World} (hbel : Below B w00 w)
    (h : ∀ v' w', MB w' base e v' (l ++ [b]) → Below B w00 w' → wpList P ops Q rest (a.put o.dst v') w') :
    wpList P ops Q (o :: rest) a (w.alloc (.cells #[.int .u8 x] e)) := by
  subst hxb
  refine wpList_plain hgd fun K hK => ?_
  have hM : MB (w.alloc (.cells #[.int .u8 (b.toNat : Int)] e)) base e v l := hown.below ((Below.refl w.heap.size w).alloc (Nat.le_refl _) _)
  have hc : (w.alloc (.cells #[.int .u8 (b.toNat : Int)] e)).cell? ((⟨w.heap.size, 0, none⟩ : Addr).add 0) = some (bv b) := by
    have hadd : (⟨w.heap.size, 0, none⟩ : Addr).add 0 = ⟨w.heap.size, 0, none⟩ := by unfold Addr.add; split <;> simp_all
    rw [hadd, cell_of_row _ w.heap.size 0 #[.int .u8 (b.toNat : Int)] e (0, 0) (heap_alloc_new w _)]
    rfl
  obtain ⟨v', w', hr, h2, h3⟩ := run_append_mark (P := P) (w.alloc (.cells #[.int .u8 (b.toNat : Int)] e)) t o.type e i z ht hi hz hsize hby hzs base v l hM ⟨w.heap.size, 0, none⟩ 1 b hc hlen (by simp; omega)
  unfold Oper.wp execOp
  simp only [ho, resolve, invoke, builtin, Sem.run_bind, Sem.run_pure, Result.andThen_ok, List.map_toArray, List.map_cons, List.map_nil, hs, hx, hr]
  refine hK _ _ (h v' w' h2 ?_)
  refine (hbel.alloc (by omega) _).grown h3 (by simp; omega) ?_
  intro k hk
  obtain ⟨g, c, rfl, hg, _⟩ := hown.shape
  simp only [Value.ownBlock, Option.some.injEq] at hk
  omega
end Go.Proofs.Ytecbpplocokedaa

/- A text ends, by spec, over the loaded program. -/
namespace Go.Proofs.Ytecbpplocokedaa
open Go.RowKit
def bigL (x m : Nat) : List UInt8 := (List.range m).map fun j => byteOf (x / 256 ^ (7 - j) % 256)
theorem bigL_succ (x m : Nat) : bigL x (m + 1) = bigL x m ++ [byteOf (x / 256 ^ (7 - m) % 256)] := by
  unfold bigL; rw [List.range_succ, List.map_append]; rfl
theorem bigL_len (x m : Nat) : (bigL x m).length = m := by simp [bigL]
theorem bigL_all (x : Nat) : bigL x 8 = bytesW (x / 4294967296) ++ bytesW (x % 4294967296) := by
  show [byteOf (x / 72057594037927936 % 256), byteOf (x / 281474976710656 % 256), byteOf (x / 1099511627776 % 256), byteOf (x / 4294967296 % 256), byteOf (x / 16777216 % 256), byteOf (x / 65536 % 256), byteOf (x / 256 % 256), byteOf (x / 1 % 256)] = [byteOf (x / 4294967296 / 16777216 % 256), byteOf (x / 4294967296 / 65536 % 256), byteOf (x / 4294967296 / 256 % 256), byteOf (x / 4294967296 % 256), byteOf (x % 4294967296 / 16777216 % 256), byteOf (x % 4294967296 / 65536 % 256), byteOf (x % 4294967296 / 256 % 256), byteOf (x % 4294967296 % 256)]
  rw [show x / 72057594037927936 % 256 = x / 4294967296 / 16777216 % 256 by omega, show x / 281474976710656 % 256 = x / 4294967296 / 65536 % 256 by omega, show x / 1099511627776 % 256 = x / 4294967296 / 256 % 256 by omega, show x / 16777216 % 256 = x % 4294967296 / 16777216 % 256 by omega, show x / 65536 % 256 = x % 4294967296 / 65536 % 256 by omega, show x / 256 % 256 = x % 4294967296 / 256 % 256 by omega, show x / 1 % 256 = x % 4294967296 % 256 by omega]
theorem endL_big (n : Nat) : endL n = ([byteOf 128] ++ List.replicate (zerosB n) 0) ++ bigL (8 * n) 8 := by
  rw [bigL_all]; unfold endL; rw [List.append_assoc]
theorem slice_text (T : ByteArray) (g n c i j : Nat) {base : Nat} (w : World) (h : MB w base 5 (.slice (some ⟨g, 0, none⟩) n c) T.data.toList) (h1 : i ≤ j) (h2 : j ≤ T.size) : (convert 22 9 (.slice (some ⟨g, i, none⟩) (j - i) (c - i))).run Try.prog w = .ok (.string (T.extract i j)) w := by
  have hl : (T.extract i j).data.toList.length = j - i := by
    show (T.extract i j).size = _
    rw [ByteArray.size_extract]; omega
  have := run_convert_bytes_back (P := Try.prog) w 22 9 5 ⟨g, i, none⟩ (c - i) (T.extract i j).data.toList Try.underlying22 Try.underlying5 Try.underlying9 (fun k hk => by
    have hadd : (⟨g, i, none⟩ : Addr).add k = ⟨g, i + k, none⟩ := by unfold Addr.add; split <;> simp_all
    rw [hadd]
    have e1 : (T.extract i j).data.toList[k]? = T.data.toList[i + k]? := by
      rw [ByteArray.data_extract, Array.toList_extract]
      simp only [List.extract]
      rw [List.getElem?_take_of_lt (by rw [hl] at hk; exact hk), List.getElem?_drop]
    exact h.cell (by rw [← e1, List.getElem?_eq_getElem hk]))
  rw [hl] at this
  exact this
set_option maxRecDepth 20000 in
set_option maxHeartbeats 400000 in
theorem specEnd_yes (a : Hs) (w : World) (h1 : a.st.size ≤ maxLen) (h2 : a.rs.size ≤ 4000000) (hok : okH a = true) :
    Calls Try.prog 53 #[hsv a] w fun e w' => e = .returned (.string (endV (stOf a.st) a.rs a.ct.toNat)) ∧ Below w.heap.size w w' := by
  have CO := hide (fun W => specOk_any a W h1 (by unfold maxLen; omega))
  obtain ⟨i0, hi, hz0, hz1, hz2⟩ := info_parts Try.infoByte
  obtain ⟨q1, q2, q3, q4⟩ := okH_yes hok
  rw [hok] at CO
  obtain ⟨st, rs, ct⟩ := a
  dsimp only at *
  obtain ⟨m, rfl⟩ : ∃ m : Nat, ct = (m : Int) := ⟨ct.toNat, by omega⟩
  rw [show ((m : Int)).toNat = m from rfl]
  have C1 := hide (fun W => specWords_any st 8 q1 (by decide) W)
  have hm : m ≤ 1000000000 := by omega
  have hrm : m % 64 = rs.size := by omega
  unfold hsv at CO ⊢
  dsimp only at CO ⊢
  clear q1 q2 q3 q4 h1 h2 hok
  go_enter Try.func53, Try.ntmps53
  go_wp2_with fail
  obtain ⟨W, hW, hB, hb, hlt⟩ := one_hash w ⟨st, rs, (m : Int)⟩ 74
  dsimp only at hW
  rw [hW]
  clear hW
  refine ((unhide CO) W).mono ?_
  rintro e w1 ⟨rfl, hb1⟩
  have hB1 := hB.step hb1
  have k0 := hB1.c0
  have k1 := hB1.c1
  have k2 := hB1.c2
  dsimp only at k0 k1 k2
  have hl1 := hB1.lt
  have HT1 := hide (hb.trans (hb1.mono (Nat.le_of_lt hlt)))
  replace hB1 := hide hB1
  clear hB hb hb1
  have hconv := Lib.run_convert_string_bytes (P := Try.prog) w1 9 22 5 rs Try.underlying9 Try.underlying22 Try.underlying5
  have hmb := hide (bytes_mb w1 5 rs)
  have hb2 := bytes_below2 w1 5 rs
  have hsz2 : w1.heap.size ≤ (Lib.bytesWorld w1 5 rs).heap.size := hb2.size
  generalize grownCap w1 rs.size 0 5 = cp at *
  generalize Lib.bytesWorld w1 5 rs = w2 at *
  have hln : rs.data.toList.length + 1 ≤ 140737488355328 := by have : rs.data.toList.length = rs.size := rfl; omega
  go_wp2_with (at_builtin; refine wpList_append_mark (w := w2) rfl (.tmp 17) (.tmp 18) 22 rfl w1.heap.size w1.heap.size i0 (.int .u8 0) Try.underlying22 hi hz0 hz1 hz2 rfl _ rs.data.toList rfl (unhide hmb) (byteOf 128) (by decide) rfl hln (Nat.le_refl _) hsz2 hb2 ?_; intro v3 w3 hmb3 hb3)
  replace hmb3 := hide hmb3
  clear hmb hb2 hsz2 hconv hln k1
  have hzl : zerosB m ≤ 63 := by unfold zerosB; omega
  have hze : (rs.size + 1 + zerosB m) % 64 = 56 := by unfold zerosB; omega
  have hzn : ∀ z, z < zerosB m → (rs.size + 1 + z) % 64 ≠ 56 := by intro z hz; unfold zerosB at hz; omega
  have hr64 : rs.size < 64 := by omega
  replace hrm := hide hrm
  have hrl : rs.data.toList.length = rs.size := rfl
  obtain ⟨zz, hzz⟩ : ∃ z, z = zerosB m := ⟨_, rfl⟩
  rw [← hzz] at hzl hze hzn
  go_loopw [3] (fun tv wq => ∃ z : Nat, z ≤ zz ∧ Hid (MB wq w1.heap.size 5 tv ((rs.data.toList ++ [byteOf 128]) ++ List.replicate z 0)) ∧ Below w1.heap.size w1 wq) (fun tv _ => match tv with | .slice _ n _ => rs.size + 1 + zz - n | _ => 0)
  case atStart => exact ⟨0, by omega, by rw [List.replicate_zero, List.append_nil]; exact hmb3, hb3⟩
  case round =>
    clear hmb3 hb3
    obtain ⟨z, hz, HM, hb⟩ := hrel
    have hll : ((rs.data.toList ++ [byteOf 128]) ++ List.replicate z 0).length = rs.size + 1 + z := by simp only [List.length_append, List.length_replicate, List.length_singleton, hrl]
    obtain ⟨g, c, hsh, hg1, hg2, hgc⟩ := (unhide HM).shape
    rw [hll] at hsh
    obtain ⟨n, hn⟩ : ∃ n, n = rs.size + 1 + z := ⟨_, rfl⟩
    rw [← hn] at hsh hll
    subst hsh
    have hnb : n ≤ 200 := by omega
    have et : ((n : Int)).tmod 64 = ((n % 64 : Nat) : Int) := by rw [Int.tmod_eq_emod_of_nonneg (by omega)]; omega
    have et2 : ((n : Int)) % 64 = ((n % 64 : Nat) : Int) := by omega
    have hsz := hb.size
    by_cases hlt : z < zz
    · have hne : ¬ (((n % 64 : Nat) : Int) = 56) := by have := hzn z hlt; rw [← hn] at this; omega
      have hlen : (rs.data.toList ++ [byteOf 128] ++ List.replicate z 0).length + 1 ≤ 140737488355328 := by rw [hll]; omega
      replace hn := hide hn
      generalize n % 64 = r at *
      clear hze hzn hg1 hg2 hgc
      go_wp2_with (at_builtin; refine wpList_append_mark (w := wr) rfl (.tmp 24) (.tmp 25) 22 rfl w1.heap.size w1.heap.size i0 (.int .u8 0) Try.underlying22 hi hz0 hz1 hz2 rfl _ _ rfl (unhide HM) 0 (by decide) rfl hlen (Nat.le_refl _) hsz hb ?_; intro v4 w4 hmb4 hb4)
      rw [List.append_assoc, ← List.replicate_succ'] at hmb4
      obtain ⟨g4, c4, hsh4, _⟩ := hmb4.shape
      have hl5 : (rs.data.toList ++ [byteOf 128] ++ List.replicate (z + 1) (0 : UInt8)).length = rs.size + 1 + (z + 1) := by simp only [List.length_append, List.length_replicate, List.length_singleton, hrl]
      rw [hl5] at hsh4
      subst hsh4
      replace hmb4 := hide hmb4
      clear HM
      go_roundw
      case rel => exact ⟨z + 1, by omega, hmb4, hb4⟩
      case measure => have := unhide hn; simp; omega
    · obtain rfl : z = zz := by omega
      have h56 : n % 64 = 56 := by rw [hn]; exact hze
      rw [h56] at et et2
      have hz56 := hide hze
      clear hze hzn hg1 hg2 hgc h56
      have ek2 := hb.cell (p := ⟨w.heap.size, 2, none⟩) hl1
      rw [k2] at ek2
      obtain ⟨N8, hN8⟩ : ∃ x, x = 8 * m := ⟨_, rfl⟩
      have e8 : IntKind.i64.wrap (8 * (m : Int)) = (N8 : Int) := by rw [IntKind.wrap_i64]; omega
      have hNb : N8 ≤ 8000000000 := by omega
      have HE := hide (show rs.data.toList ++ [byteOf 128] ++ List.replicate z 0 ++ bigL N8 8 = rs.data.toList ++ endL m by rw [endL_big, hN8, hzz, List.append_assoc, List.append_assoc, List.append_assoc])
      have hpl : (rs.data.toList ++ [byteOf 128] ++ List.replicate z (0 : UInt8)).length ≤ 200 := by rw [hll]; exact hnb
      replace HM := hide (show MB wr w1.heap.size 5 (.slice (some ⟨g, 0, none⟩) n c) ((rs.data.toList ++ [byteOf 128] ++ List.replicate z 0) ++ bigL N8 0) by rw [show bigL N8 0 = [] from rfl, List.append_nil]; exact unhide HM)
      generalize rs.data.toList ++ [byteOf 128] ++ List.replicate z (0 : UInt8) = pre at *
      replace hn := hide hn
      replace hN8 := hide hN8
      replace hzz := hide hzz
      go_wp2
      go_loopw [3, 5] (fun tv ti wq => ∃ p : Nat, p ≤ 8 ∧ ti = .int .i64 ((7 : Int) - (p : Int)) ∧ Hid (MB wq w1.heap.size 5 tv (pre ++ bigL N8 p)) ∧ Below w1.heap.size w1 wq) (fun _ ti _ => (intOf ti + 1).toNat)
      case atStart => exact ⟨0, by omega, rfl, HM, hb⟩
      case round =>
        clear HM hb hsz
        obtain ⟨p, hp, rfl, HM, hb⟩ := hrel
        have hsz := hb.size
        by_cases hlt : p < 8
        · obtain ⟨j, hj⟩ : ∃ j, j + p = 7 := ⟨7 - p, by omega⟩
          rw [show (7 : Int) - (p : Int) = (j : Int) by omega]
          have hj0 : (0 : Int) ≤ (j : Int) := by omega
          have hjb : j ≤ 7 := by omega
          have hlen : (pre ++ bigL N8 p).length + 1 ≤ 140737488355328 := by rw [List.length_append, bigL_len]; omega
          have HS := hide (bigL_succ N8 p)
          rw [show 7 - p = j by omega] at HS
          replace hlen := hide hlen
          replace hj := hide hj
          obtain ⟨W7, hW7⟩ : ∃ W, W = wr := ⟨_, rfl⟩
          subst hW7
          go_wp2
          go_loopw [6, 7] (fun tx tk wq => wq = W7 ∧ ∃ q : Nat, q ≤ j ∧ tk = .int .i64 (q : Int) ∧ tx = .int .i64 ((N8 / 256 ^ q : Nat) : Int)) (fun _ tk _ => j - (intOf tk).toNat)
          case atStart => exact ⟨rfl, 0, by omega, rfl, by rw [Nat.pow_zero, Nat.div_one]⟩
          case round =>
            obtain ⟨rfl, q, hq, rfl, rfl⟩ := hrel
            by_cases hqj : q < j
            · have hq1 : (q : Int) < (j : Int) := by omega
              have ep := hide (show N8 / 256 ^ (q + 1) = N8 / 256 ^ q / 256 by rw [Nat.pow_succ, Nat.div_div_eq_div_mul])
              have hyb : N8 / 256 ^ q ≤ 8000000000 := Nat.le_trans (Nat.div_le_self _ _) hNb
              generalize N8 / 256 ^ q = y at *
              have ed : ((y : Int)).tdiv 256 = ((y / 256 : Nat) : Int) := by rw [Int.tdiv_eq_ediv_of_nonneg (by omega)]; omega
              have ed2 : ((y : Int)) / 256 = ((y / 256 : Nat) : Int) := by omega
              generalize y / 256 = y2 at *
              have ew : IntKind.i64.wrap (y2 : Int) = (y2 : Int) := by rw [IntKind.wrap_i64]; omega
              go_wp2
              go_roundw
              case rel => exact ⟨by first | rfl | trivial, q + 1, by omega, by go_num, by rw [unhide ep]⟩
              case measure => simp [intOf]; omega
            · obtain rfl : q = j := by omega
              have hq1 : ¬ (q : Int) < (q : Int) := by omega
              have hyb : N8 / 256 ^ q ≤ 8000000000 := Nat.le_trans (Nat.div_le_self _ _) hNb
              generalize N8 / 256 ^ q = y at *
              have ed : ((y : Int)).tmod 256 = ((y % 256 : Nat) : Int) := by rw [Int.tmod_eq_emod_of_nonneg (by omega)]; omega
              have ed2 : ((y : Int)) % 256 = ((y % 256 : Nat) : Int) := by omega
              have ey : y % 256 < 256 := by omega
              generalize y % 256 = y2 at *
              have ew : IntKind.i64.wrap (y2 : Int) = (y2 : Int) := by rw [IntKind.wrap_i64]; omega
              have ew2 : IntKind.u8.wrap (y2 : Int) = (y2 : Int) := by rw [IntKind.wrap_u8]; omega
              have eb : (y2 : Int) = ((byteOf y2).toNat : Int) := by rw [byteOf_toNat ey]
              replace eb := hide eb
              go_wp2_with (at_builtin; refine wpList_append_mark (w := wr) rfl (.tmp 42) (.tmp 46) 22 rfl w1.heap.size w1.heap.size i0 (.int .u8 0) Try.underlying22 hi hz0 hz1 hz2 rfl _ _ rfl (unhide HM) (byteOf y2) (unhide eb) rfl (unhide hlen) (Nat.le_refl _) hsz hb ?_; intro v4 w4 hmb4 hb4)
              rw [List.append_assoc, ← unhide HS] at hmb4
              replace hmb4 := hide hmb4
              clear HM ed ed2 ew ew2
              go_roundw
              case rel => exact ⟨p + 1, by omega, by have := unhide hj; go_num, hmb4, hb4⟩
              case measure => have := unhide hj; simp [intOf] <;> omega
        · obtain rfl : p = 8 := by omega
          have h70 : ¬ (0 : Int) ≤ 7 - ((8 : Nat) : Int) := by omega
          rw [unhide HE] at HM
          obtain ⟨T, hT⟩ : ∃ T, T = endT rs m := ⟨_, rfl⟩
          have hTl : T.data.toList = rs.data.toList ++ endL m := by rw [hT]; unfold endT; rw [ByteArray.data_append, Array.toList_append]
          rw [← hTl] at HM
          obtain ⟨gt, ct, hsh, _, hgt, hct⟩ := (unhide HM).shape
          rw [show T.data.toList.length = T.size from rfl] at hsh hct
          subst hsh
          have hTs : T.size = n + 8 := by
            have e1 : T.data.toList.length = pre.length + 8 := by rw [hTl, ← unhide HE, List.length_append, bigL_len]
            rw [hll] at e1
            exact e1
          have hT64 : T.size % 64 = 0 := by
            have e1 := unhide hn
            have e2 := unhide hz56
            omega
          have hTb : T.size ≤ 1000 := by omega
          replace hTs := hide hTs
          have ek0 := hb.cell (p := ⟨w.heap.size, 0, none⟩) hl1
          rw [k0] at ek0
          replace hT := hide hT
          clear hTl HE hll
          go_wp2_with fail
          refine ((unhide C1) wr).mono ?_
          rintro e w4 ⟨⟨a8, c8, rfl, hown4⟩, hb4⟩
          obtain ⟨g8, rfl, hg81, hg82⟩ := hown4.some_at (by omega)
          replace hown4 := hide hown4
          have hs4 := hb4.size
          go_wp2_with fail
          refine (specK_any w4).mono ?_
          rintro e w5 ⟨⟨a9, c9, rfl, hown5⟩, hb5⟩
          obtain ⟨g9, rfl, hg91, hg92⟩ := hown5.some_at (by omega)
          have HK := hide (hown5.low (base' := w1.heap.size) (by omega))
          have HS5 := hide (((unhide hown4).low (base' := w1.heap.size) (by omega)).below hb5)
          have HM5 := hide (((unhide HM).below hb4).below hb5)
          have hb6 := (hb.trans (hb4.mono hsz)).trans (hb5.mono (by omega))
          have hs5 := hb6.size
          clear hown5 hown4 HM hb hb4 hb5 ek0
          go_wp2_with fail
          go_loopw [8, 10] (fun tv ti wq => ∃ q : Nat, 64 * q ≤ T.size ∧ ti = .int .i64 ((64 * q : Nat) : Int) ∧ (∃ g c, tv = .slice (some ⟨g, 0, none⟩) 8 c ∧ Hid (OwnV wq w1.heap.size 65 (.slice (some ⟨g, 0, none⟩) 8 c) ((blocksW (stOf st) T 0 q).toL.map u32v))) ∧ Below w5.heap.size w5 wq) (fun _ ti _ => T.size - (intOf ti).toNat)
          case atStart => exact ⟨0, by omega, rfl, ⟨g8, c8, rfl, HS5⟩, Below.refl _ _⟩
          case round =>
            clear HS5
            obtain ⟨q, hq, rfl, ⟨g', c', rfl, HS⟩, hb⟩ := hrel
            obtain ⟨i, hi6⟩ : ∃ i, i = 64 * q := ⟨_, rfl⟩
            rw [← hi6] at hq ⊢
            have hib : i ≤ 1000 := by omega
            obtain ⟨j, hj⟩ : ∃ j, j = i + 64 := ⟨_, rfl⟩
            have ei : IntKind.i64.wrap ((i : Int) + 64) = (j : Int) := by rw [IntKind.wrap_i64]; omega
            have hsz6 := hb.size
            by_cases hlt : i < T.size
            · have hlt' : (i : Int) < (T.size : Int) := by omega
              have hjT : j ≤ T.size := by omega
              have hjc : (j : Int) ≤ (ct : Int) := by omega
              have hij : (i : Int) ≤ (j : Int) := by omega
              have hxs : (T.extract i j).size = 64 := by rw [ByteArray.size_extract]; omega
              have HSt := hide (show blocksW (stOf st) T 0 (q + 1) = roundW (blocksW (stOf st) T 0 q) (T.extract i j) by rw [hj, hi6]; simp only [blocksW, Nat.zero_add])
              have hOk := blocksW_ok (stOf_ok st) T 0 q
              have hKq := hide ((unhide HK).below hb)
              have hcv := slice_text T gt T.size ct i j wr ((unhide HM5).below hb) (by omega) hjT
              rw [show j - i = 64 by omega] at hcv
              generalize T.extract i j = blk at *
              have C5 := hide (specRound_any (blocksW (stOf st) T 0 q) hOk blk hxs g' c' g9 c9 w1.heap.size wr (unhide HS) (unhide hKq))
              replace hi6 := hide hi6
              clear hOk HS hKq hxs hq
              go_wp2_with fail
              refine (unhide C5).mono ?_
              rintro e w7 ⟨⟨g4, c4, rfl, hown7⟩, hb7⟩
              have hown8 := hide (hown7.low (base' := w1.heap.size) (by omega))
              rw [← unhide HSt] at hown8
              have hb8 := hb.trans (hb7.mono hsz6)
              clear hown7 hb7 C5 hcv
              go_wp2
              go_roundw
              case rel => exact ⟨q + 1, by have := unhide hi6; omega, by have := unhide hi6; go_num, ⟨_, _, rfl, hown8⟩, hb8⟩
              case measure => have := unhide hi6; simp [intOf]; omega
            · have hlt' : ¬ (i : Int) < (T.size : Int) := by omega
              have hqe : q = T.size / 64 := by omega
              have HF : Hid (endV (stOf st) rs m = (blocksW (stOf st) T 0 q).text) := hide (by unfold endV; rw [← unhide hT, hqe])
              have hOk := blocksW_ok (stOf_ok st) T 0 q
              have C6 := hide (specBytes_any (blocksW (stOf st) T 0 q).toL (toL_small hOk) (by show 8 ≤ 1000; omega) _ w1.heap.size wr (unhide HS))
              have hbf := (unhide HT1).trans ((hb6.trans (hb.mono hs5)).mono (Nat.le_of_lt hl1))
              replace hi6 := hide hi6
              replace hqe := hide hqe
              clear hb HS hOk
              go_wp2_with fail
              refine (unhide C6).mono ?_
              rintro e w7 ⟨rfl, hb7⟩
              have hbg := hbf.trans (hb7.mono hbf.size)
              clear hb7 hbf
              go_wp2
              go_ret
              exact ⟨by rw [unhide HF]; rfl, hbg⟩
set_option maxRecDepth 20000 in
set_option maxHeartbeats 400000 in
theorem specEnd_any (a : Hs) (w : World) (h1 : a.st.size ≤ maxLen) (h2 : a.rs.size ≤ 4000000) :
    Calls Try.prog 53 #[hsv a] w fun e w' => e = .returned (.string (if okH a = true then endV (stOf a.st) a.rs a.ct.toNat else ⟨#[]⟩)) ∧ Below w.heap.size w w' := by
  by_cases hok : okH a = true
  · rw [if_pos hok]
    exact specEnd_yes a w h1 h2 hok
  · have CO := hide (fun W => specOk_any a W h1 (by unfold maxLen; omega))
    have hok' : okH a = false := by cases h : okH a with | true => exact absurd h hok | false => rfl
    rw [hok'] at CO
    rw [if_neg hok]
    obtain ⟨st, rs, ct⟩ := a
    unfold hsv at CO ⊢
    dsimp only at CO ⊢
    clear h1 h2 hok hok'
    go_enter Try.func53, Try.ntmps53
    go_wp2_with fail
    obtain ⟨W, hW, hB, hb, hlt⟩ := one_hash w ⟨st, rs, ct⟩ 74
    dsimp only at hW
    rw [hW]
    clear hW
    refine ((unhide CO) W).mono ?_
    rintro e w1 ⟨rfl, hb1⟩
    have HT1 := hide (hb.trans (hb1.mono (Nat.le_of_lt hlt)))
    clear hB hb hb1
    go_wp2
    go_ret
    exact ⟨rfl, unhide HT1⟩
theorem word_back (x : Nat) (h : x < 4294967296) : wordN (byteOf (x / 16777216 % 256)).toNat (byteOf (x / 65536 % 256)).toNat (byteOf (x / 256 % 256)).toNat (byteOf (x % 256)).toNat = x := by
  rw [byteOf_toNat (by omega), byteOf_toNat (by omega), byteOf_toNat (by omega), byteOf_toNat (by omega)]
  unfold wordN
  omega
theorem stOf_text {v : V8} (h : v.ok) : stOf v.text = v := by
  obtain ⟨a, b, c, d, e, f, g, k⟩ := v
  obtain ⟨h1, h2, h3, h4, h5, h6, h7, h8⟩ := h
  dsimp only at h1 h2 h3 h4 h5 h6 h7 h8
  have e1 := word_back a h1
  have e2 := word_back b h2
  have e3 := word_back c h3
  have e4 := word_back d h4
  have e5 := word_back e h5
  have e6 := word_back f h6
  have e7 := word_back g h7
  have e8 := word_back k h8
  have t : stOf (V8.mk a b c d e f g k).text = ⟨wordN (byteOf (a / 16777216 % 256)).toNat (byteOf (a / 65536 % 256)).toNat (byteOf (a / 256 % 256)).toNat (byteOf (a % 256)).toNat, wordN (byteOf (b / 16777216 % 256)).toNat (byteOf (b / 65536 % 256)).toNat (byteOf (b / 256 % 256)).toNat (byteOf (b % 256)).toNat, wordN (byteOf (c / 16777216 % 256)).toNat (byteOf (c / 65536 % 256)).toNat (byteOf (c / 256 % 256)).toNat (byteOf (c % 256)).toNat, wordN (byteOf (d / 16777216 % 256)).toNat (byteOf (d / 65536 % 256)).toNat (byteOf (d / 256 % 256)).toNat (byteOf (d % 256)).toNat, wordN (byteOf (e / 16777216 % 256)).toNat (byteOf (e / 65536 % 256)).toNat (byteOf (e / 256 % 256)).toNat (byteOf (e % 256)).toNat, wordN (byteOf (f / 16777216 % 256)).toNat (byteOf (f / 65536 % 256)).toNat (byteOf (f / 256 % 256)).toNat (byteOf (f % 256)).toNat, wordN (byteOf (g / 16777216 % 256)).toNat (byteOf (g / 65536 % 256)).toNat (byteOf (g / 256 % 256)).toNat (byteOf (g % 256)).toNat, wordN (byteOf (k / 16777216 % 256)).toNat (byteOf (k / 65536 % 256)).toNat (byteOf (k / 256 % 256)).toNat (byteOf (k % 256)).toNat⟩ := rfl
  rw [t, e1, e2, e3, e4, e5, e6, e7, e8]
def hNew : Hs := ⟨first8.text, ⟨#[]⟩, 0⟩
def digB (s : ByteArray) : ByteArray := endV (blocksW first8 s 0 (s.size / 64)) (s.extract (64 * (s.size / 64)) s.size) s.size
theorem hNew_ok : okH hNew = true := by
  unfold okH hNew
  rw [V8.text_size]
  decide
theorem moreT_new (s : ByteArray) : moreT hNew s = s := by
  unfold moreT hNew
  apply ByteArray.ext
  rw [ByteArray.data_append]
  show #[] ++ s.data = s.data
  simp
theorem moreH_new (s : ByteArray) : moreH hNew s = ⟨(blocksW first8 s 0 (s.size / 64)).text, s.extract (64 * (s.size / 64)) s.size, (s.size : Int)⟩ := by
  unfold moreH
  rw [moreT_new, show stOf hNew.st = first8 from stOf_text first8_ok, show hNew.ct = 0 from rfl, Int.zero_add]
theorem okH_more {a : Hs} {s : ByteArray} (h : okH a = true) (hc : a.ct + (s.size : Int) ≤ 1000000000) : okH (moreH a s) = true := by
  obtain ⟨q1, q2, q3, q4⟩ := okH_yes h
  unfold okH moreH
  dsimp only
  have hz : ((moreT a s).extract (64 * ((moreT a s).size / 64)) (moreT a s).size).size = (moreT a s).size % 64 := by rw [ByteArray.size_extract]; omega
  have hs : (moreT a s).size = a.rs.size + s.size := by unfold moreT; rw [ByteArray.size_append]
  rw [V8.text_size, hz, hs, decide_eq_true (by omega), decide_eq_true (by omega), decide_eq_true (by omega), decide_eq_true (by omega)]
  rfl
theorem digB_end (s : ByteArray) : endV (stOf (moreH hNew s).st) (moreH hNew s).rs (moreH hNew s).ct.toNat = digB s := by
  rw [moreH_new]
  dsimp only
  rw [stOf_text (blocksW_ok first8_ok s 0 _)]
  rfl
set_option maxRecDepth 20000 in
set_option maxHeartbeats 400000 in
theorem specDigest_any (s : ByteArray) (hs : s.size ≤ 4000000) (w : World) :
    Calls Try.prog 39 #[.string s] w fun e w' => e = .returned (.string (digB s)) ∧ Below w.heap.size w w' := by
  have hc : hNew.ct + (s.size : Int) ≤ 1000000000 := by show (0 : Int) + _ ≤ _; omega
  have C2 := hide (fun W => specMore_yes hNew s W (by rw [show hNew.st.size = 32 from V8.text_size _]; decide) (by decide) hs hNew_ok hc)
  have hz : (moreH hNew s).rs.size ≤ 4000000 := by rw [moreH_new]; dsimp only; rw [ByteArray.size_extract]; omega
  have C3 := hide (fun W => specEnd_yes (moreH hNew s) W (by rw [moreH_new]; dsimp only; rw [V8.text_size]; decide) hz (okH_more hNew_ok hc))
  rw [digB_end] at C3
  clear hc hz
  go_enter Try.func39, Try.ntmps39
  go_wp2_with fail
  refine (specNew_any w).mono ?_
  rintro e w1 ⟨rfl, hb1⟩
  go_wp2_with fail
  refine ((unhide C2) w1).mono ?_
  rintro e w2 ⟨rfl, hb2⟩
  have hb12 := hb1.trans (hb2.mono hb1.size)
  clear hb1 hb2
  go_wp2_with fail
  refine ((unhide C3) w2).mono ?_
  rintro e w3 ⟨rfl, hb3⟩
  have hb13 := hb12.trans (hb3.mono hb12.size)
  clear hb12 hb3
  go_wp2
  go_ret
  exact ⟨rfl, hb13⟩
end Go.Proofs.Ytecbpplocokedaa

/- Rules, reckoned: what may be done with a thing, what it is changed to, new ones, and those that come in again. -/
namespace Go.Proofs.Ytecbpplocokedaa
def mayB (x : Th) (d : Int) : Bool := if thOk x = true then (if d = 1 then !x.hid else if d = 2 then (!x.fix && decide (x.kind ≠ 2)) else if d = 3 then x.sgn else if d = 4 then x.wrp else decide (d = 5)) else false
def chgOk (x : Th) (h f : Bool) : Bool := decide (thOk x = true ∧ (x.hid = true → h = true) ∧ (x.fix = true → f = true))
def chgT (x : Th) (h f : Bool) : Th := if chgOk x h f = true then { x with hid := h, fix := f } else thZ
def rstT (x : Th) : Th := { x with sgn := false, nxt := 0, id := 0 }
def defOk (k : Int) (s : ByteArray) : Bool := decide (k = 1 ∨ k = 2 ∨ (k = 3 ∧ s.size ≤ 100))
def defT (k : Int) (s : ByteArray) : Th := if k = 1 then ⟨0, k, true, false, false, true, digB s, 0⟩ else if k = 2 then ⟨0, k, true, false, true, false, digB s, 0⟩ else if k = 3 ∧ s.size ≤ 100 then ⟨0, k, false, false, false, false, s, 0⟩ else thZ
end Go.Proofs.Ytecbpplocokedaa

/- The project's rules: what may be done with a thing, over the loaded program. -/
namespace Go.Proofs.Ytecbpplocokedaa
open Go.RowKit
theorem rule_zero (w : World) : (zeroValue 51).run Try.prog w = .ok .nilFunc w := by kernel_rfl
set_option maxRecDepth 20000 in
set_option maxHeartbeats 4000000 in
theorem implMay_any (x : Th) (d : Int) (w : World) :
    Calls Try.prog 13 #[.agg (thC x), .int .i64 d] w fun e w' => e = .returned (.bool (mayB x d)) ∧ Below w.heap.size w w' := by
  have CO := hide (fun W => implThingOk_any x W)
  have CR := hide (fun W => rulesOf_any x W)
  have C1 := hide (fun g W h => rule1_any x g W h)
  have C2 := hide (fun g W h => rule2_any x g W h)
  have C3 := hide (fun g W h => rule3_any x g W h)
  have C4 := hide (fun g W h => rule4_any x g W h)
  have C5 := hide (fun W => rule5_any W)
  have E : mayB x d = if thOk x = true then (if d = 1 then !x.hid else if d = 2 then (!x.fix && decide (x.kind ≠ 2)) else if d = 3 then x.sgn else if d = 4 then x.wrp else decide (d = 5)) else false := rfl
  rw [E]
  clear E
  generalize thOk x = ok at *
  obtain ⟨y, hy⟩ : ∃ y : Th, y = x := ⟨_, rfl⟩
  obtain ⟨id, kind, hid, fix, sgn, wrp, val, nxt⟩ := x
  rw [show thC ⟨id, kind, hid, fix, sgn, wrp, val, nxt⟩ = #[.int .i64 id, .int .i64 kind, .bool hid, .bool fix, .bool sgn, .bool wrp, .string val, .int .i64 nxt] from rfl] at CO CR ⊢
  rw [← hy] at C1 C2 C3 C4
  have hxe : #[.int .i64 id, .int .i64 kind, .bool hid, .bool fix, .bool sgn, .bool wrp, .string val, .int .i64 nxt] = thC y := by rw [hy]; rfl
  simp only at CO CR ⊢
  have k2 : y.fix = fix := by rw [hy]
  have k1 : y.hid = hid := by rw [hy]
  have k3 : y.kind = kind := by rw [hy]
  have k4 : y.sgn = sgn := by rw [hy]
  have k5 : y.wrp = wrp := by rw [hy]
  rw [k1] at C1
  rw [k2, k3] at C2
  rw [k4] at C3
  rw [k5] at C4
  clear k1 k2 k3 k4 k5
  obtain ⟨W, hW, hC, hb, hlt⟩ := one_cb w #[.int .i64 id, .int .i64 kind, .bool hid, .bool fix, .bool sgn, .bool wrp, .string val, .int .i64 nxt] 25
  have a0 := hC.cell 0 rfl
  have a1 := hC.cell 1 rfl
  have a2 := hC.cell 2 rfl
  have a3 := hC.cell 3 rfl
  have a4 := hC.cell 4 rfl
  have a5 := hC.cell 5 rfl
  have a6 := hC.cell 6 rfl
  have a7 := hC.cell 7 rfl
  replace hy := hide hy; replace hxe := hide hxe
  go_enter Try.func13, Try.ntmps13
  go_wp2_with fail
  refine (unhide CR W).mono ?_
  rintro e w1 ⟨rfl, hm1, hG1, hb1⟩
  have hC1 := hC.below hb1 hlt
  have hB1 := hb.trans (hb1.mono hb.size)
  clear a0 a1 a2 a3 a4 a5 a6 a7 hC hb hb1 CR hW hlt
  have a0 := hC1.cell 0 rfl
  have a1 := hC1.cell 1 rfl
  have a2 := hC1.cell 2 rfl
  have a3 := hC1.cell 3 rfl
  have a4 := hC1.cell 4 rfl
  have a5 := hC1.cell 5 rfl
  have a6 := hC1.cell 6 rfl
  have a7 := hC1.cell 7 rfl
  replace hG1 := hide hG1
  clear hC1
  by_cases h1 : d = 1
  · subst h1
    have hL : (Instr.lookup 53 (.map (some (W.heap.size + 1))) (.int .i64 1) true).run Try.prog w1 = .ok (.tuple #[.func (.func 42) #[] #[.pointer (some ⟨W.heap.size, 0, none⟩)], .bool true]) w1 := run_lookup_at w1 53 3 51 .i64 Try.underlying53 Try.underlying3 _ _ 5 hm1 1 0 _ rfl
    clear hm1
    go_wp2_with fail
    refine (unhide CO w1).mono ?_
    rintro e w2 ⟨rfl, hb2⟩
    have hG2 := (unhide hG1).step hb2
    have hB2 := hB1.trans (hb2.mono hB1.size)
    clear a0 a1 a2 a3 a4 a5 a6 a7 hB1 hb2 hG1 CO hL
    cases ok with
    | false =>
      go_wp2
      go_ret
      exact ⟨rfl, hB2⟩
    | true =>
      go_wp2_with fail
      refine (unhide C1 W.heap.size w2 (by rw [← unhide hxe]; exact hG2)).mono ?_
      rintro e w3 ⟨rfl, rfl⟩
      go_wp2
      go_ret
      exact ⟨by simp, hB2⟩
  by_cases h2 : d = 2
  · subst h2
    have hL : (Instr.lookup 53 (.map (some (W.heap.size + 1))) (.int .i64 2) true).run Try.prog w1 = .ok (.tuple #[.func (.func 43) #[] #[.pointer (some ⟨W.heap.size, 0, none⟩)], .bool true]) w1 := run_lookup_at w1 53 3 51 .i64 Try.underlying53 Try.underlying3 _ _ 5 hm1 2 1 _ rfl
    clear hm1
    go_wp2_with fail
    refine (unhide CO w1).mono ?_
    rintro e w2 ⟨rfl, hb2⟩
    have hG2 := (unhide hG1).step hb2
    have hB2 := hB1.trans (hb2.mono hB1.size)
    clear a0 a1 a2 a3 a4 a5 a6 a7 hB1 hb2 hG1 CO hL
    cases ok with
    | false =>
      go_wp2
      go_ret
      exact ⟨rfl, hB2⟩
    | true =>
      go_wp2_with fail
      refine (unhide C2 W.heap.size w2 (by rw [← unhide hxe]; exact hG2)).mono ?_
      rintro e w3 ⟨rfl, rfl⟩
      go_wp2
      go_ret
      exact ⟨by simp, hB2⟩
  by_cases h3 : d = 3
  · subst h3
    have hL : (Instr.lookup 53 (.map (some (W.heap.size + 1))) (.int .i64 3) true).run Try.prog w1 = .ok (.tuple #[.func (.func 44) #[] #[.pointer (some ⟨W.heap.size, 0, none⟩)], .bool true]) w1 := run_lookup_at w1 53 3 51 .i64 Try.underlying53 Try.underlying3 _ _ 5 hm1 3 2 _ rfl
    clear hm1
    go_wp2_with fail
    refine (unhide CO w1).mono ?_
    rintro e w2 ⟨rfl, hb2⟩
    have hG2 := (unhide hG1).step hb2
    have hB2 := hB1.trans (hb2.mono hB1.size)
    clear a0 a1 a2 a3 a4 a5 a6 a7 hB1 hb2 hG1 CO hL
    cases ok with
    | false =>
      go_wp2
      go_ret
      exact ⟨rfl, hB2⟩
    | true =>
      go_wp2_with fail
      refine (unhide C3 W.heap.size w2 (by rw [← unhide hxe]; exact hG2)).mono ?_
      rintro e w3 ⟨rfl, rfl⟩
      go_wp2
      go_ret
      exact ⟨by simp, hB2⟩
  by_cases h4 : d = 4
  · subst h4
    have hL : (Instr.lookup 53 (.map (some (W.heap.size + 1))) (.int .i64 4) true).run Try.prog w1 = .ok (.tuple #[.func (.func 45) #[] #[.pointer (some ⟨W.heap.size, 0, none⟩)], .bool true]) w1 := run_lookup_at w1 53 3 51 .i64 Try.underlying53 Try.underlying3 _ _ 5 hm1 4 3 _ rfl
    clear hm1
    go_wp2_with fail
    refine (unhide CO w1).mono ?_
    rintro e w2 ⟨rfl, hb2⟩
    have hG2 := (unhide hG1).step hb2
    have hB2 := hB1.trans (hb2.mono hB1.size)
    clear a0 a1 a2 a3 a4 a5 a6 a7 hB1 hb2 hG1 CO hL
    cases ok with
    | false =>
      go_wp2
      go_ret
      exact ⟨rfl, hB2⟩
    | true =>
      go_wp2_with fail
      refine (unhide C4 W.heap.size w2 (by rw [← unhide hxe]; exact hG2)).mono ?_
      rintro e w3 ⟨rfl, rfl⟩
      go_wp2
      go_ret
      exact ⟨by simp, hB2⟩
  by_cases h5 : d = 5
  · subst h5
    have hL : (Instr.lookup 53 (.map (some (W.heap.size + 1))) (.int .i64 5) true).run Try.prog w1 = .ok (.tuple #[.func (.func 46) #[] #[], .bool true]) w1 := run_lookup_at w1 53 3 51 .i64 Try.underlying53 Try.underlying3 _ _ 5 hm1 5 4 _ rfl
    clear hm1
    go_wp2_with fail
    refine (unhide CO w1).mono ?_
    rintro e w2 ⟨rfl, hb2⟩
    have hG2 := (unhide hG1).step hb2
    have hB2 := hB1.trans (hb2.mono hB1.size)
    clear a0 a1 a2 a3 a4 a5 a6 a7 hB1 hb2 hG1 CO hL
    cases ok with
    | false =>
      go_wp2
      go_ret
      exact ⟨rfl, hB2⟩
    | true =>
      go_wp2_with fail
      refine (unhide C5 w2).mono ?_
      rintro e w3 ⟨rfl, rfl⟩
      go_wp2
      go_ret
      exact ⟨by simp, hB2⟩
  have n1 : (d == 1) = false := by rw [beq_eq_false_iff_ne]; exact h1
  have n2 : (d == 2) = false := by rw [beq_eq_false_iff_ne]; exact h2
  have n3 : (d == 3) = false := by rw [beq_eq_false_iff_ne]; exact h3
  have n4 : (d == 4) = false := by rw [beq_eq_false_iff_ne]; exact h4
  have n5 : (d == 5) = false := by rw [beq_eq_false_iff_ne]; exact h5
  have hL : (Instr.lookup 53 (.map (some (W.heap.size + 1))) (.int .i64 d) true).run Try.prog w1 = .ok (.tuple #[.nilFunc, .bool false]) w1 := run_lookup_not w1 53 3 51 .i64 Try.underlying53 Try.underlying3 _ _ 5 hm1 d _ (rule_zero w1) (by simp [rulE, Instr.findNow, Instr.sameNow, n1, n2, n3, n4, n5])
  clear hm1
  cases ok with
  | false =>
    go_wp2
    go_ret
    exact ⟨rfl, hB1⟩
  | true =>
    go_wp2
    go_ret
    exact ⟨by simp, hB1⟩
end Go.Proofs.Ytecbpplocokedaa

/- The laws' helpers on things, over the loaded program. -/
namespace Go.Proofs.Ytecbpplocokedaa
open Go.RowKit
theorem cb_eq {w : World} {g : Nat} {T : TypeId} {cs cs' : Array Value} (h : CB w g T cs) (e : cs' = cs) : CB w g T cs' := by rw [e]; exact h
theorem szThing_any (x : Th) (L : Int) (hL : 0 ≤ L ∧ L ≤ 1048576) (hv : x.val.size ≤ maxLen) (w : World) :
    Calls Try.prog 21 #[.agg (thC x), .int .i64 L] w fun e w' => (∃ z : Int, e = .returned (.int .i64 z) ∧ ((z < 0 ∧ L < (x.val.size : Int)) ∨ (z = L - (x.val.size : Int) ∧ (x.val.size : Int) ≤ L))) ∧ Below w.heap.size w w' := by
  obtain ⟨id, kind, hid, fix, sgn, wrp, val, nxt⟩ := x
  unfold thC
  simp only at hv ⊢
  unfold maxLen at hv
  obtain ⟨W, hW, hC, hb, hlt⟩ := one_cb w #[.int .i64 id, .int .i64 kind, .bool hid, .bool fix, .bool sgn, .bool wrp, .string val, .int .i64 nxt] 37
  have c6 := hC.cell 6 rfl
  clear hC
  obtain ⟨z, hz⟩ : ∃ z : Int, z = L - (val.size : Int) := ⟨_, rfl⟩
  have u1 : IntKind.i64.wrap (L - (val.size : Int)) = z := by rw [IntKind.wrap_i64]; omega
  have u1' : wrap64 (L - (val.size : Int)) = z := (IntWalk.i64_left _).symm.trans u1
  by_cases hn : z < 0
  · have HZ := hide (show (-1 : Int) < 0 ∧ L < (val.size : Int) from ⟨by omega, by omega⟩)
    replace hz := hide hz
    clear hL hv
    go_enter Try.func21, Try.ntmps21
    go_wp2
    go_ret
    exact ⟨⟨-1, rfl, .inl (unhide HZ)⟩, hb⟩
  · have HZ := hide (show z = L - (val.size : Int) ∧ (val.size : Int) ≤ L from ⟨hz, by omega⟩)
    replace hz := hide hz
    clear hL hv
    go_enter Try.func21, Try.ntmps21
    go_wp2
    go_ret
    exact ⟨⟨z, rfl, .inr (unhide HZ)⟩, hb⟩
set_option maxRecDepth 20000 in
set_option maxHeartbeats 2000000 in
theorem toThing_any (x : Th) (w : World) :
    Calls Try.prog 22 #[.agg (thC x)] w fun e w' => e = .returned (.agg (thC x)) ∧ Below w.heap.size w w' := by
  obtain ⟨id, kind, hid, fix, sgn, wrp, val, nxt⟩ := x
  unfold thC
  simp only
  go_enter Try.func22, Try.ntmps22
  go_wp2
  exact bodyPost_ret (v := .agg #[.int .i64 id, .int .i64 kind, .bool hid, .bool fix, .bool sgn, .bool wrp, .string val, .int .i64 nxt]) (by simp [results, Try.results22, go_sem]) rfl ⟨rfl, (((Below.refl w.heap.size w).alloc (Nat.le_refl _) _).alloc (by simp) _).alloc (by simp; omega) _⟩
set_option maxRecDepth 20000 in
set_option maxHeartbeats 1000000 in
theorem eqThing_any (x : Th) (w : World) :
    Calls Try.prog 24 #[.agg (thC x), .agg (thC x)] w fun e w' => e = .returned (.bool true) ∧ Below w.heap.size w w' := by
  obtain ⟨id, kind, hid, fix, sgn, wrp, val, nxt⟩ := x
  unfold thC
  simp only
  obtain ⟨W, hW, hA, hB, hb, hlt⟩ := two_cb w #[.int .i64 id, .int .i64 kind, .bool hid, .bool fix, .bool sgn, .bool wrp, .string val, .int .i64 nxt] #[.int .i64 id, .int .i64 kind, .bool hid, .bool fix, .bool sgn, .bool wrp, .string val, .int .i64 nxt] 25 25
  have a0 := hA.cell 0 rfl
  have b0 := hB.cell 0 rfl
  have a1 := hA.cell 1 rfl
  have b1 := hB.cell 1 rfl
  have a2 := hA.cell 2 rfl
  have b2 := hB.cell 2 rfl
  have a3 := hA.cell 3 rfl
  have b3 := hB.cell 3 rfl
  have a4 := hA.cell 4 rfl
  have b4 := hB.cell 4 rfl
  have a5 := hA.cell 5 rfl
  have b5 := hB.cell 5 rfl
  have a6 := hA.cell 6 rfl
  have b6 := hB.cell 6 rfl
  have a7 := hA.cell 7 rfl
  have b7 := hB.cell 7 rfl
  clear hA hB
  go_enter Try.func24, Try.ntmps24
  go_wp2
  go_ret
  exact ⟨rfl, hb⟩
end Go.Proofs.Ytecbpplocokedaa

