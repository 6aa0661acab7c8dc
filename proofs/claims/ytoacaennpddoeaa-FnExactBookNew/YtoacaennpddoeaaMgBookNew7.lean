/- Merged: Bkn, LawBkn. -/
import Derived.Test.YtoacaennpddoeaaMgBookNew1
import Derived.Test.YtoacaennpddoeaaMgBookNew2
import Derived.Test.YtoacaennpddoeaaMgBookNew3
import Derived.Test.YtoacaennpddoeaaMgBookNew4
import Derived.Test.YtoacaennpddoeaaMgBookNew5
import Derived.Test.YtoacaennpddoeaaMgBookNew6
/- BookNew, of both sides, over the loaded program. -/
namespace Go.Proofs.Ytoacaennpddoeaa
open Go.RowKit
def repL21 (m k : Nat) (b : UInt8) : List UInt8 := List.replicate k b ++ List.replicate (m - k) 0
theorem repL21_len (m k : Nat) (b : UInt8) (h : k ≤ m) : (repL21 m k b).length = m := by
  unfold repL21
  rw [List.length_append, List.length_replicate, List.length_replicate]
  omega
theorem repL21_set (m k : Nat) (b : UInt8) (h : k < m) : (repL21 m k b).set k b = repL21 m (k + 1) b := by
  unfold repL21
  rw [List.set_append_right _ _ (by simp), List.length_replicate, Nat.sub_self, show m - k = (m - (k + 1)) + 1 by omega, List.replicate_succ, List.set_cons_zero, List.replicate_succ', List.append_assoc]
  rfl
def repB21 (x : Nat) : ByteArray := ⟨(List.replicate 32 (byteOf x)).toArray⟩
theorem repB21_size (x : Nat) : (repB21 x).size = 32 := by
  show (List.replicate 32 (byteOf x)).length = 32
  exact List.length_replicate

theorem OwnT.nil (w : World) (base : Nat) (e : TypeId) : OwnN thY w base e (.slice none 0 0) [] := World.ownsRow_nil w base e 8
theorem map_set21 (l : List UInt8) (k x : Nat) (hx : x < 256) : (l.map bv).set k (.int .u8 (x : Int)) = (l.set k (byteOf x)).map bv := by
  rw [List.map_set]
  congr 1
  simp only [bv, byteOf_toNat hx]
theorem rep_bv21 (n : Nat) : List.replicate n (Value.int .u8 0) = (List.replicate n (0 : UInt8)).map bv := by
  rw [List.map_replicate]; rfl
theorem Try.infoB21 : (Try.prog.info? 5).map (fun i => (i.zero, i.size, i.bytes)) = some (some (.int .u8 0), 1, 1) := by kernel_rfl
set_option maxRecDepth 20000 in
set_option maxHeartbeats 400000 in
theorem l01Long21 (x : Nat) (w : World) (hx : x < 256) :
    Calls Try.prog 60 #[.int .i64 32, .int .u8 (x : Int)] w fun e w' => e = .returned (.string (repB21 x)) ∧ Below w.heap.size w w' := by
  obtain ⟨m, hm⟩ : ∃ m : Nat, m = 32 := ⟨_, rfl⟩
  have E := hide (show repB21 x = ⟨(repL21 m m (byteOf x)).toArray⟩ by rw [hm]; unfold repB21 repL21; rw [Nat.sub_self, List.replicate_zero, List.append_nil])
  rw [show (32 : Int) = (m : Int) by omega]
  obtain ⟨i0, hi, hz0, hz1, hz2⟩ := info_parts Try.infoB21
  have hm1 : 0 < m := by omega
  have hm2 : m ≤ 1000 := by omega
  clear hm
  go_enter Try.func60, Try.ntmps60
  go_wp2_with (at_make; refine wpList_make_full _ rfl _ _ 22 rfl w.heap.size 5 i0 (.int .u8 0) 1 Try.underlying22 hi hz0 hz1 _ _ _ _ m rfl rfl rfl rfl (by rw [hz2]; omega) (by unfold maxLen; omega) (Nat.le_refl _) ?_; intro w1 hown1 hgrow1)
  have hb1 : Below w.heap.size w w1 := (Below.refl _ _).grown hgrow1 (Nat.le_refl _) (fun k hk => by cases hk)
  have hown0 : OwnB w1 w.heap.size 5 (.slice (some ⟨w.heap.size, 0, none⟩) m m) (repL21 m 0 (byteOf x)) := by
    have e1 : (madeCells (Value.int .u8 0).cells (m * 1)).toList = (repL21 m 0 (byteOf x)).map bv := by
      show (madeCells #[Value.int .u8 0] (m * 1)).toList = _
      rw [Nat.mul_one, toList_madeCells_one]
      unfold repL21
      rw [List.replicate_zero, List.nil_append, Nat.sub_zero, rep_bv21]
    rw [e1] at hown1
    unfold OwnB
    rw [repL21_len _ _ _ (Nat.zero_le _)]
    exact hown1
  clear hown1 hgrow1
  go_loopw [6] (fun ti wr => ∃ k : Nat, k ≤ m ∧ ti = .int .i64 (k : Int) ∧ OwnB wr w.heap.size 5 (.slice (some ⟨w.heap.size, 0, none⟩) m m) (repL21 m k (byteOf x)) ∧ Below w.heap.size w wr)
    (fun ti _ => m - (intOf ti).toNat)
  case atStart => exact ⟨0, Nat.zero_le _, rfl, hown0, hb1⟩
  case round =>
    obtain ⟨k, hk, rfl, hown, hb⟩ := hrel
    clear hown0 hb1
    have hl := repL21_len m k (byteOf x) hk
    by_cases hlt : k < m
    · have hstep := hide (repL21_set m k (byteOf x) hlt)
      generalize repL21 m k (byteOf x) = l at *
      have hownV : OwnV wr w.heap.size 5 (.slice (some ⟨w.heap.size, 0, none⟩) m m) (l.map bv) := by unfold OwnV; rw [List.length_map]; exact hown
      have hset := hownV.set k (.int .u8 (x : Int))
      rw [map_set21 l k x hx] at hset
      have hown2 : OwnB (wr.setCell ⟨w.heap.size, k, none⟩ (.int .u8 (x : Int))) w.heap.size 5 (.slice (some ⟨w.heap.size, 0, none⟩) m m) (l.set k (byteOf x)) := by
        unfold OwnV at hset; rw [List.length_map] at hset; exact hset
      rw [unhide hstep] at hown2
      have hcell : wr.cell? ⟨w.heap.size, k, none⟩ = some (bv (l[k]'(by omega))) := hownV.cell (by rw [List.getElem?_map, List.getElem?_eq_getElem (by omega)]; rfl)
      have hfr := hownV.frozen k
      have hb2 := hb.setCell (p := ⟨w.heap.size, k, none⟩) (Nat.le_refl _) (.int .u8 (x : Int))
      replace hset := hide hset
      replace hownV := hide hownV
      replace hown2 := hide hown2
      replace hb2 := hide hb2
      replace hown := hide hown
      clear hb
      go_wp2
      go_roundw
      case rel => exact ⟨k + 1, by omega, by go_num, unhide hown2, unhide hb2⟩
      case measure => simp [intOf]; omega
    · have hkm : k = m := by omega
      subst hkm
      have hc := run_string_owned (P := Try.prog) wr 22 9 5 w.heap.size _ _ Try.underlying22 Try.underlying5 Try.underlying9 hown
      replace hown := hide hown
      go_wp2
      go_ret
      exact ⟨by rw [unhide E]; rfl, hb⟩
set_option maxRecDepth 20000 in
set_option maxHeartbeats 2000000 in
theorem specBookNew_any (w : World) : Calls Try.prog 22 #[] w fun e w' => e = .returned (bkv bkNew (.slice none 0 0)) ∧ Below w.heap.size w w' := by
  have CD := fun W => specDigest_any ⟨#[]⟩ (by decide) W
  have CR := fun W => l01Long21 0 W (by decide)
  simp only [bkNew, bkv]
  rw [show (⟨(List.replicate 32 0).toArray⟩ : ByteArray) = repB21 0 from rfl]
  generalize digB ⟨#[]⟩ = wd at *
  generalize repB21 0 = ch at *
  replace CD := hide CD; replace CR := hide CR
  go_enter Try.func22, Try.ntmps22
  go_upto_region 1 with fail
  obtain ⟨W, hW, hA, hB, hs1⟩ := one_cb w #[.string ⟨#[]⟩, .int .i64 0, .slice none 0 0, .int .i64 0, .string ⟨#[]⟩, .int .i64 0] 36
  first | rw [hW] | skip
  clear hW hs1
  replace hA := hide hA; replace hB := hide hB
  go_wp2_with (first
    | (go_at_call 54; refine (unhide CD _).mono ?_; rintro e w1 ⟨rfl, hb1⟩)
    | (go_at_call 60; refine (unhide CR _).mono ?_; rintro e w2 ⟨rfl, hb2⟩
       have hA2 := ((unhide hA).step hb1).step hb2
       have T2 := hide (((unhide hB).trans (hb1.mono (unhide hB).size)).trans (hb2.mono (Nat.le_trans (unhide hB).size hb1.size))))
    | (refine wpList_store_row rfl 36 (.tmp 0) (.tmp 3) rfl w.heap.size #[.string wd, .int .i64 0, .slice none 0 0, .int .i64 0, .string ch, .int .i64 0] rfl rfl 36 _ hA2 rfl rfl (by simp [Value.oneCell']) ?_))
  have hY8 := setRow_heap _ w.heap.size _ #[.string wd, .int .i64 0, .slice none 0 0, .int .i64 0, .string ch, .int .i64 0] 36 (0, 0) hA2
  have T4 := Go.below_setRow (unhide T2) (show w.heap.size ≤ w.heap.size by omega) #[.string wd, .int .i64 0, .slice none 0 0, .int .i64 0, .string ch, .int .i64 0]
  exact bodyPost_ret (results_cb (by exact Try.results22) _ _ w.heap.size 36 _ _ rfl hY8 Try.underlying36 rfl) rfl ⟨rfl, T4⟩
theorem rep21_any (w : World) :
    Calls Try.prog 61 #[.string ⟨#[0]⟩, .int .i64 32] w fun e w' => e = .returned (.string (repB21 0)) ∧ Below w.heap.size w w' := by
  have h := Try.strings_Repeat ⟨#[byteOf 0]⟩ 32 w (by omega) (by show 1 * 32 ≤ _; omega)
  exact h
set_option maxRecDepth 20000 in
set_option maxHeartbeats 2000000 in
theorem implBookNew_any (w : World) : Calls Try.prog 23 #[] w fun e w' => e = .returned (bkv bkNew (.slice none 0 0)) ∧ Below w.heap.size w w' := by
  have CD := fun W => implDigest_any ⟨#[]⟩ (by decide) W
  rw [show endV (blocksW first8 ⟨#[]⟩ 0 ((⟨#[]⟩ : ByteArray).size / 64)) ((⟨#[]⟩ : ByteArray).extract (64 * ((⟨#[]⟩ : ByteArray).size / 64)) (⟨#[]⟩ : ByteArray).size) (⟨#[]⟩ : ByteArray).size = digB ⟨#[]⟩ from rfl] at CD
  have CR := fun W => rep21_any W
  simp only [bkNew, bkv]
  rw [show (⟨(List.replicate 32 0).toArray⟩ : ByteArray) = repB21 0 from rfl]
  generalize digB ⟨#[]⟩ = wd at *
  generalize repB21 0 = ch at *
  replace CD := hide CD; replace CR := hide CR
  go_enter Try.func23, Try.ntmps23
  go_upto_region 1 with fail
  obtain ⟨W, hW, hA, hB, hs1⟩ := one_cb w #[.string ⟨#[]⟩, .int .i64 0, .slice none 0 0, .int .i64 0, .string ⟨#[]⟩, .int .i64 0] 36
  first | rw [hW] | skip
  clear hW hs1
  replace hA := hide hA; replace hB := hide hB
  go_wp2_with (first
    | (go_at_call 49; refine (unhide CD _).mono ?_; rintro e w1 ⟨rfl, hb1⟩)
    | (go_at_call 61; refine (unhide CR _).mono ?_; rintro e w2 ⟨rfl, hb2⟩
       have hA2 := ((unhide hA).step hb1).step hb2
       have T2 := hide (((unhide hB).trans (hb1.mono (unhide hB).size)).trans (hb2.mono (Nat.le_trans (unhide hB).size hb1.size))))
    | (refine wpList_store_row rfl 36 (.tmp 0) (.tmp 3) rfl w.heap.size #[.string wd, .int .i64 0, .slice none 0 0, .int .i64 0, .string ch, .int .i64 0] rfl rfl 36 _ hA2 rfl rfl (by simp [Value.oneCell']) ?_))
  have hY8 := setRow_heap _ w.heap.size _ #[.string wd, .int .i64 0, .slice none 0 0, .int .i64 0, .string ch, .int .i64 0] 36 (0, 0) hA2
  have T4 := Go.below_setRow (unhide T2) (show w.heap.size ≤ w.heap.size by omega) #[.string wd, .int .i64 0, .slice none 0 0, .int .i64 0, .string ch, .int .i64 0]
  exact bodyPost_ret (results_cb (by exact Try.results23) _ _ w.heap.size 36 _ _ rfl hY8 Try.underlying36 rfl) rfl ⟨rfl, T4⟩
end Go.Proofs.Ytoacaennpddoeaa

/- The law of a new book, over the loaded program. -/
namespace Go.Proofs.Ytoacaennpddoeaa
open Go.RowKit
set_option maxRecDepth 20000 in
set_option maxHeartbeats 4000000 in
theorem lawBookNew_any (w : World) (CI : ∀ W : World, Calls Try.prog 23 #[] W fun e w' => e = .returned (bkv bkNew (.slice none 0 0)) ∧ Below W.heap.size W w') :
    Calls Try.prog 5 #[] w fun e w' => e = .returned (.bool true) ∧ Below w.heap.size w w' := by
  have CS := fun W => specBookNew_any W
  have CE := fun W => eqBook_any bkNew (bkv bkNew (.slice none 0 0)) (bkv bkNew (.slice none 0 0)) W ⟨_, rfl, (OwnT.nil W 0 25).rd⟩ ⟨_, rfl, (OwnT.nil W 0 25).rd⟩ (by decide)
  have CM := fun W => markBook_any bkNew (.slice none 0 0) W.heap.size 1 1 W rfl (by decide) (by decide) (by decide) (Nat.le_refl _) (OwnT.nil W _ 25)
  have CH := fun W => heldBook_any bkNew (.slice none 0 0) 1 0 1 W rfl (by decide) (by decide) (by decide) (OwnT.nil W 0 25).rd
  have T0 := hide (Below.refl w.heap.size w)
  simp only [bkNew, bkv] at CS CE CM CH CI
  generalize digB ⟨#[]⟩ = wd at *
  rw [show (⟨(List.replicate 32 0).toArray⟩ : ByteArray) = repB21 0 from rfl] at CS CE CM CH CI
  generalize repB21 0 = ch at *
  replace CS := hide CS; replace CE := hide CE; replace CM := hide CM; replace CH := hide CH; replace CI := hide CI
  go_enter Try.func5, Try.ntmps5
  go_upto_region 2 with (first
    | (go_at_call 22; refine (unhide CS _).mono ?_; rintro e v1 ⟨rfl, hc1⟩)
    | (obtain ⟨W1, hW1, hA1, hB1, hs1⟩ := one_cb v1 #[.string ⟨#[]⟩, .int .i64 0, .slice none 0 0, .int .i64 0, .string ⟨#[]⟩, .int .i64 0] 36
       rw [hW1]
       clear hW1
       refine wpList_store_row rfl 36 (.tmp 1) (.tmp 6) rfl v1.heap.size #[.string wd, .int .i64 0, .slice none 0 0, .int .i64 0, .string ch, .int .i64 0] rfl rfl 36 _ hA1 rfl rfl (by simp [Value.oneCell']) ?_))
  have hY1 := setRow_heap _ v1.heap.size _ #[.string wd, .int .i64 0, .slice none 0 0, .int .i64 0, .string ch, .int .i64 0] 36 (0, 0) hA1
  have hX1 := Go.below_setRow (hc1.trans (hB1.mono hc1.size)) (show (w).heap.size ≤ v1.heap.size from hc1.size) #[.string wd, .int .i64 0, .slice none 0 0, .int .i64 0, .string ch, .int .i64 0]
  refine wp_gen (fun X1 => CB X1 v1.heap.size 36 #[.string wd, .int .i64 0, .slice none 0 0, .int .i64 0, .string ch, .int .i64 0] ∧ Below w.heap.size w X1) ⟨hY1, (unhide T0).trans (hX1.mono (unhide T0).size)⟩ ?_
  clear  T0 hY1 hX1 hc1 hB1 hA1 hs1
  rintro X1 ⟨k1, T1⟩
  replace k1 := hide k1
  replace T1 := hide T1
  go_upto_region 3 with (first
    | (go_at_call 23; refine (unhide CI _).mono ?_; rintro e v2 ⟨rfl, hc2⟩)
    | (obtain ⟨W2, hW2, hA2, hB2, hs2⟩ := one_cb v2 #[.string ⟨#[]⟩, .int .i64 0, .slice none 0 0, .int .i64 0, .string ⟨#[]⟩, .int .i64 0] 36
       rw [hW2]
       clear hW2
       refine wpList_store_row rfl 36 (.tmp 2) (.tmp 7) rfl v2.heap.size #[.string wd, .int .i64 0, .slice none 0 0, .int .i64 0, .string ch, .int .i64 0] rfl rfl 36 _ hA2 rfl rfl (by simp [Value.oneCell']) ?_))
  have hY2 := setRow_heap _ v2.heap.size _ #[.string wd, .int .i64 0, .slice none 0 0, .int .i64 0, .string ch, .int .i64 0] 36 (0, 0) hA2
  have hX2 := Go.below_setRow (hc2.trans (hB2.mono hc2.size)) (show (X1).heap.size ≤ v2.heap.size from hc2.size) #[.string wd, .int .i64 0, .slice none 0 0, .int .i64 0, .string ch, .int .i64 0]
  refine wp_gen (fun X2 => CB X2 v2.heap.size 36 #[.string wd, .int .i64 0, .slice none 0 0, .int .i64 0, .string ch, .int .i64 0] ∧ CB X2 v1.heap.size 36 #[.string wd, .int .i64 0, .slice none 0 0, .int .i64 0, .string ch, .int .i64 0] ∧ Below w.heap.size w X2) ⟨hY2, (unhide k1).step hX2, (unhide T1).trans (hX2.mono (unhide T1).size)⟩ ?_
  clear k1 T1 hY2 hX2 hc2 hB2 hA2 hs2
  rintro X2 ⟨k2, a1, T2⟩
  replace k2 := hide k2
  replace a1 := hide a1
  replace T2 := hide T2
  go_upto_region 5 with (first
    | (refine wpList_load_row (P := Try.prog) rfl 36 (.tmp 2) rfl v2.heap.size rfl 36 #[.string wd, .int .i64 0, .slice none 0 0, .int .i64 0, .string ch, .int .i64 0] (0, 0) _ (unhide k2) Try.underlying36 rfl rfl ?_)
    | (refine wpList_load_row (P := Try.prog) rfl 36 (.tmp 1) rfl v1.heap.size rfl 36 #[.string wd, .int .i64 0, .slice none 0 0, .int .i64 0, .string ch, .int .i64 0] (0, 0) _ (unhide a1) Try.underlying36 rfl rfl ?_)
    | (go_at_call 24; refine (unhide CE _).mono ?_; rintro e X3 ⟨rfl, hb3⟩))
  have k3 := hide ((unhide k2).step hb3)
  have a3 := hide ((unhide a1).step hb3)
  have T3 := hide ((unhide T2).trans (hb3.mono (unhide T2).size))
  clear hb3 T2 k2 a1
  go_upto_region 8 with (first
    | (refine wpList_load_row (P := Try.prog) rfl 36 (.tmp 2) rfl v2.heap.size rfl 36 #[.string wd, .int .i64 0, .slice none 0 0, .int .i64 0, .string ch, .int .i64 0] (0, 0) _ (unhide k3) Try.underlying36 rfl rfl ?_)
    | (go_at_call 25; refine (unhide CM _).mono ?_; rintro e X4 ⟨rfl, _, hg4⟩))
  have hb4 : Below X3.heap.size X3 X4 := ⟨hg4.os, hg4.tape, hg4.output, hg4.size, fun k hk => hg4.block k hk (by intro h; cases h)⟩
  clear hg4
  have k4 := hide ((unhide k3).step hb4)
  have a4 := hide ((unhide a3).step hb4)
  have T4 := hide ((unhide T3).trans (hb4.mono (unhide T3).size))
  clear hb4 T3 k3 a3
  go_upto_region 9 with (first
    | (refine wpList_load_row (P := Try.prog) rfl 36 (.tmp 2) rfl v2.heap.size rfl 36 #[.string wd, .int .i64 0, .slice none 0 0, .int .i64 0, .string ch, .int .i64 0] (0, 0) _ (unhide k4) Try.underlying36 rfl rfl ?_)
    | (go_at_call 26; refine (unhide CH _).mono ?_; rintro e X5 ⟨rfl, hb5⟩))
  have k5 := hide ((unhide k4).step hb5)
  have a5 := hide ((unhide a4).step hb5)
  have T5 := hide ((unhide T4).trans (hb5.mono (unhide T4).size))
  clear hb5 T4 k4 a4
  go_upto_region 14 with (first
    | (go_at_call 23; refine (unhide CI _).mono ?_; rintro e v6 ⟨rfl, hc6⟩)
    | (obtain ⟨W6, hW6, hA6, hB6, hs6⟩ := one_cb v6 #[.string ⟨#[]⟩, .int .i64 0, .slice none 0 0, .int .i64 0, .string ⟨#[]⟩, .int .i64 0] 36
       rw [hW6]
       clear hW6
       refine wpList_store_row rfl 36 (.tmp 5) (.tmp 23) rfl v6.heap.size #[.string wd, .int .i64 0, .slice none 0 0, .int .i64 0, .string ch, .int .i64 0] rfl rfl 36 _ hA6 rfl rfl (by simp [Value.oneCell']) ?_))
  have hY6 := setRow_heap _ v6.heap.size _ #[.string wd, .int .i64 0, .slice none 0 0, .int .i64 0, .string ch, .int .i64 0] 36 (0, 0) hA6
  have hX6 := Go.below_setRow (hc6.trans (hB6.mono hc6.size)) (show (X5).heap.size ≤ v6.heap.size from hc6.size) #[.string wd, .int .i64 0, .slice none 0 0, .int .i64 0, .string ch, .int .i64 0]
  refine wp_gen (fun X6 => CB X6 v6.heap.size 36 #[.string wd, .int .i64 0, .slice none 0 0, .int .i64 0, .string ch, .int .i64 0] ∧ CB X6 v2.heap.size 36 #[.string wd, .int .i64 0, .slice none 0 0, .int .i64 0, .string ch, .int .i64 0] ∧ CB X6 v1.heap.size 36 #[.string wd, .int .i64 0, .slice none 0 0, .int .i64 0, .string ch, .int .i64 0] ∧ Below w.heap.size w X6) ⟨hY6, (unhide k5).step hX6, (unhide a5).step hX6, (unhide T5).trans (hX6.mono (unhide T5).size)⟩ ?_
  clear k5 a5 T5 hY6 hX6 hc6 hB6 hA6 hs6
  rintro X6 ⟨k6, k6b, a6, T6⟩
  replace k6 := hide k6
  replace k6b := hide k6b
  replace a6 := hide a6
  replace T6 := hide T6
  go_upto_region 16 with (first
    | (refine wpList_load_row (P := Try.prog) rfl 36 (.tmp 5) rfl v6.heap.size rfl 36 #[.string wd, .int .i64 0, .slice none 0 0, .int .i64 0, .string ch, .int .i64 0] (0, 0) _ (unhide k6) Try.underlying36 rfl rfl ?_)
    | (refine wpList_load_row (P := Try.prog) rfl 36 (.tmp 1) rfl v1.heap.size rfl 36 #[.string wd, .int .i64 0, .slice none 0 0, .int .i64 0, .string ch, .int .i64 0] (0, 0) _ (unhide a6) Try.underlying36 rfl rfl ?_)
    | (go_at_call 24; refine (unhide CE _).mono ?_; rintro e X7 ⟨rfl, hb7⟩))
  have k7 := hide ((unhide k6b).step hb7)
  have T7 := hide ((unhide T6).trans (hb7.mono (unhide T6).size))
  clear hb7 T6 k6b
  go_upto_region 18 with (first
    | (refine wpList_load_row (P := Try.prog) rfl 36 (.tmp 2) rfl v2.heap.size rfl 36 #[.string wd, .int .i64 0, .slice none 0 0, .int .i64 0, .string ch, .int .i64 0] (0, 0) _ (unhide k7) Try.underlying36 rfl rfl ?_)
    | (go_at_call 26; refine (unhide CH _).mono ?_; rintro e X8 ⟨rfl, hb8⟩))
  have T8 := hide ((unhide T7).trans (hb8.mono (unhide T7).size))
  clear hb8 T7 
  clear CS CE CM CH CI
  go_wp2
  go_ret
  exact ⟨rfl, unhide T8⟩
end Go.Proofs.Ytoacaennpddoeaa

