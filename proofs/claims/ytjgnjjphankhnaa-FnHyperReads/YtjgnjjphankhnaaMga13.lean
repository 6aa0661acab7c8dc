/- Merged: DrSg2, LawSg2, Spo9, DrSg3, Hyp1, Hyp2. -/
import Derived.Test.YtjgnjjphankhnaaMga1
import Derived.Test.YtjgnjjphankhnaaMga2
import Derived.Test.YtjgnjjphankhnaaMga3
import Derived.Test.YtjgnjjphankhnaaMga4
import Derived.Test.YtjgnjjphankhnaaMga5
import Derived.Test.YtjgnjjphankhnaaMga6
import Derived.Test.YtjgnjjphankhnaaMga7
import Derived.Test.YtjgnjjphankhnaaMga8
import Derived.Test.YtjgnjjphankhnaaMga9
import Derived.Test.YtjgnjjphankhnaaMga10
import Derived.Test.YtjgnjjphankhnaaMga11
import Derived.Test.YtjgnjjphankhnaaMga12
import Derived.Deep.RegionHeld3
import Derived.Deep.RegionWith
import Derived.Laws.IdiomStrings
/- A drawn signature, spoilt or not, over the loaded program. -/
namespace Go.Proofs.Ytjgnjjphankhnaa
open Go.RowKit
theorem num3_a (w : World) (T : TypeId) : Nums (w.alloc (.cells #[.int .i64 (-1), .int .i64 0, .int .i64 4] T)) w.heap.size 3 := by
  intro j hj
  rw [cell_of_row _ w.heap.size j _ T (0, 0) (heap_alloc_new w _)]
  match j, hj with
  | 0, _ => exact ⟨_, by decide, by decide, rfl⟩
  | 1, _ => exact ⟨_, by decide, by decide, rfl⟩
  | 2, _ => exact ⟨_, by decide, by decide, rfl⟩
  | j + 3, hj => exact absurd hj (by omega)
def upTo9 (z : Int) : Prop := ∃ q : Nat, z = q ∧ q ≤ 9
theorem num3_b (w : World) (T : TypeId) : ∀ j, j < 3 → ∃ z, (w.alloc (.cells #[.int .i64 3, .int .i64 4, .int .i64 4] T)).cell? ⟨w.heap.size, j, none⟩ = some (.int .i64 z) ∧ upTo9 z := by
  intro j hj
  rw [cell_of_row _ w.heap.size j _ T (0, 0) (heap_alloc_new w _)]
  match j, hj with
  | 0, _ => exact ⟨_, rfl, 3, rfl, by decide⟩
  | 1, _ => exact ⟨_, rfl, 4, rfl, by decide⟩
  | 2, _ => exact ⟨_, rfl, 4, rfl, by decide⟩
  | j + 3, hj => exact absurd hj (by omega)
theorem num3_c (w : World) (T : TypeId) : ∀ j, j < 3 → ∃ z, (w.alloc (.cells #[.int .i64 4, .int .i64 4, .int .i64 5] T)).cell? ⟨w.heap.size, j, none⟩ = some (.int .i64 z) ∧ upTo9 z := by
  intro j hj
  rw [cell_of_row _ w.heap.size j _ T (0, 0) (heap_alloc_new w _)]
  match j, hj with
  | 0, _ => exact ⟨_, rfl, 4, rfl, by decide⟩
  | 1, _ => exact ⟨_, rfl, 4, rfl, by decide⟩
  | 2, _ => exact ⟨_, rfl, 5, rfl, by decide⟩
  | j + 3, hj => exact absurd hj (by omega)
theorem num3_on {g : Nat} {w w' : World} {b : Nat} (h : Only g w w') (hb : b ≠ g) (hN : ∀ j, j < 3 → ∃ z, w.cell? ⟨b, j, none⟩ = some (.int .i64 z) ∧ upTo9 z) : ∀ j, j < 3 → ∃ z, w'.cell? ⟨b, j, none⟩ = some (.int .i64 z) ∧ upTo9 z := fun j hj => by
  obtain ⟨z, h1, h2⟩ := hN j hj
  exact ⟨z, (World.cell?_of_block (w := w) (h.block b hb)).trans h1, h2⟩
/-- What is drawn: a signature of at most ten and two texts, in blocks from B on. -/
def DrwG (w : World) (B : Nat) (v : Value) : Prop := ∃ S : Sg, S.once.length ≤ 10 ∧ S.path.length ≤ 2 ∧ ∃ v1 v2, v = sgv S.leaf v1 v2 ∧ RdV w v1 (S.once.map sv) ∧ RdV w v2 (S.path.map sv) ∧ (∀ k, v1.ownBlock = some k → B ≤ k) ∧ (∀ k, v2.ownBlock = some k → B ≤ k) ∧ CapV v1 ∧ CapV v2
theorem DrwG.rd {w : World} {B : Nat} {v : Value} (h : DrwG w B v) : ∃ S : Sg, S.once.length ≤ 10 ∧ S.path.length ≤ 2 ∧ RdSg w v S := by
  obtain ⟨S, h1, h2, v1, v2, e, r1, r2, _, _, hc⟩ := h
  exact ⟨S, h1, h2, v1, v2, e, r1, r2, hc⟩
theorem results_tt_cb {P : Program} {fn : Func} {p u v : Tmp} {ty : TypeId} (h : fn.results = #[.tmp u, .tmp v, .cell p ty]) (tmps : Array Value) (w : World) (g : Nat) (T : TypeId) (cs : Array Value) (fs : Array Field)
    (hp : tmps.getD p undef = .pointer (some ⟨g, 0, none⟩)) (hA : CB w g T cs) (hu : P.underlying ty = some (.struct fs)) (hi : (P.info? ty).map (·.size) = some cs.size) :
    (results fn tmps).run P w = .ok (.tuple #[tmps.getD u undef, tmps.getD v undef, .agg cs]) w := by
  have hp' : tmps[p]?.getD undef = .pointer (some ⟨g, 0, none⟩) := by simpa using hp
  simp [results, h, hp', asAddr, Result.andThen, run_loadVar_row w g T ty cs (0, 0) (.struct fs) hA hu rfl hi]
theorem rd_drop {w : World} {g c : Nat} {l : List ByteArray} (h : RdV w (.slice (some ⟨g, 0, none⟩) 2 c) (l.map sv)) (hl : l.length = 2) (hg : g < w.heap.size) : RdV w (.slice (some ⟨g, 1, none⟩) 1 (c - 1)) ((l.drop 1).map sv) := by
  obtain ⟨s0, c0, he, hcell⟩ := h.open
  obtain ⟨rfl, _, rfl⟩ := Value.slice.inj he
  refine .inr ⟨g, 1, c - 1, by rw [List.length_map, List.length_drop, hl], by rw [List.length_map, List.length_drop, hl]; omega, hg, fun j xx hj => ?_⟩
  obtain ⟨g1, o1, e1, _, hcl⟩ := hcell (1 + j) xx (by rw [← hj, List.map_drop, List.getElem?_drop])
  obtain ⟨rfl, rfl, _⟩ := Addr.mk.inj (Option.some.inj e1)
  rw [← hcl]
  congr 2
  omega
theorem fin16 {w W : World} {base g g4 n c : Nat} {o : Option Addr} {T : TypeId} {x0 x1 x2 : Value} (hg : g < w.heap.size) (hg4 : w.heap.size ≤ g4) (a0 a1 a2 : Value) (P4 : CB W g4 T #[x0, x1, x2]) (G : w.grownBy W (some g)) (hc : Cur W base g o n c) :
    CB (((W.setCell ⟨g4, 0, none⟩ a0).setCell ⟨g4, 1, none⟩ a1).setCell ⟨g4, 2, none⟩ a2).drew g4 T #[a0, a1, a2] ∧ w.grownBy (((W.setCell ⟨g4, 0, none⟩ a0).setCell ⟨g4, 1, none⟩ a1).setCell ⟨g4, 2, none⟩ a2).drew (some g) ∧ Cur (((W.setCell ⟨g4, 0, none⟩ a0).setCell ⟨g4, 1, none⟩ a1).setCell ⟨g4, 2, none⟩ a2).drew base g o n c := by
  have hb : Below w.heap.size W (((W.setCell ⟨g4, 0, none⟩ a0).setCell ⟨g4, 1, none⟩ a1).setCell ⟨g4, 2, none⟩ a2).drew := ((((Below.refl _ _).setCell (p := ⟨g4, 0, none⟩) hg4 a0).setCell (p := ⟨g4, 1, none⟩) hg4 a1).setCell (p := ⟨g4, 2, none⟩) hg4 a2).drew
  exact ⟨((P4.set 0 a0).set 1 a1).set 2 a2, gTB G hb, hc.below hb hg⟩
theorem sto16 {w w6 W : World} {base g n c : Nat} {o : Option Addr} (hg : g < w.heap.size) (G7 : w.grownBy w6 (some g)) (hG : w6.grownBy W (some g)) (hC : Cur W base g o n c) (b k : Nat) (hb : w.heap.size ≤ b) (u : Value) : w.grownBy (W.setCell ⟨b, k, none⟩ u) (some g) ∧ Cur (W.setCell ⟨b, k, none⟩ u) base g o n c := by
  have hB8 := (Below.refl w.heap.size W).setCell (p := ⟨b, k, none⟩) hb u
  exact ⟨gTB (gT G7 hG) hB8, hC.below hB8 hg⟩
theorem RdV.setO {w : World} {v : Value} {xs : List Value} (h : RdV w v xs) (g k : Nat) (u : Value) (hne : v.ownBlock ≠ some g) : RdV (w.setCell ⟨g, k, none⟩ u) v xs := h.grown (tS0 w g k u) fun j hj e => hne (by rw [hj, e])
theorem RdV.set3 {w : World} {v : Value} {xs : List Value} (h : RdV w v xs) (g : Nat) (a0 a1 a2 : Value) (hne : v.ownBlock ≠ some g) : RdV (((w.setCell ⟨g, 0, none⟩ a0).setCell ⟨g, 1, none⟩ a1).setCell ⟨g, 2, none⟩ a2).drew v xs := (((h.setO g 0 a0 hne).setO g 1 a1 hne).setO g 2 a2 hne).drew
set_option maxRecDepth 20000 in
set_option maxHeartbeats 1600000 in
theorem l16Sig_any {w : World} {base g n c : Nat} {o : Option Addr} (h : Cur w base g o n c) (hn : n ≤ 1048576) :
    Calls Try.prog 32 #[.pointer (some ⟨g, 0, none⟩)] w fun e w' => ∃ (s m : ByteArray) (v : Value), s.size ≤ 9 ∧ m.size ≤ 9 ∧ e = .returned (.tuple #[.string s, .string m, v]) ∧ DrwG w' w.heap.size v ∧ w.grownBy w' (some g) ∧ Cur w' base g o n c := by
  have hg := h.lt
  go_enter Try.func32, Try.ntmps32
  go_wp2_with fail
  obtain ⟨W, hW, P4, hB, hs1⟩ := one_cb w #[.int .i64 0, .slice none 0 0, .slice none 0 0] 26
  rw [hW]
  clear hW
  have g4ne : g ≠ w.heap.size := by omega
  obtain ⟨g4, hg4⟩ : ∃ x, x = w.heap.size := ⟨_, rfl⟩
  rw [← hg4] at P4 g4ne ⊢
  have hg4l : w.heap.size ≤ g4 := by omega
  clear hg4
  have hc0 := h.below hB hg
  have G0 := hide (gB hB (some g))
  clear h hB hs1
  refine (l16Seed_any hc0 hn).mono ?_
  rintro e w1 ⟨s, hs, rfl, h1, hc1⟩
  have G1 := hide (gT (unhide G0) h1)
  have P4a := P4.grown h1 (fun e => g4ne (Option.some.inj e))
  clear hc0 h1 G0 P4
  go_wp2_with fail
  refine (l01Below_any hc1 hn 4 (by decide) (by decide)).mono ?_
  rintro e w2 ⟨x, hx, rfl, ho2, hc2⟩
  have G2 := hide (gT (unhide G1) (gO ho2))
  have P4b := P4a.grown (gO ho2) (fun e => g4ne (Option.some.inj e))
  clear hc1 ho2 G1 P4a
  go_wp2_with fail
  refine (l01Text_g hc2 hn x (by omega)).mono ?_
  rintro e w3 ⟨l, hl, rfl, h3, hc3⟩
  have hm : (ByteArray.mk l.toArray).size ≤ 9 := by show l.toArray.size ≤ 9; simp; omega
  generalize ByteArray.mk l.toArray = m at *
  have G3 := hide (gT (unhide G2) h3)
  have P4c := P4b.grown h3 (fun e => g4ne (Option.some.inj e))
  clear hc2 h3 G2 P4b hl hx
  go_wp2_with fail
  refine (l01Below_any hc3 hn 4 (by decide) (by decide)).mono ?_
  rintro e w4 ⟨y, hy, rfl, ho4, hc4⟩
  have G4 := hide (gT (unhide G3) (gO ho4))
  have P4d := P4c.grown (gO ho4) (fun e => g4ne (Option.some.inj e))
  have hin : (0 : Int) ≤ (y : Int) ∧ (y : Int) ≤ 3 := by omega
  have CS := hide (specSignAt_any s (y : Int) m (by omega) (by omega) w4)
  rw [decide_eq_true hin] at CS
  obtain ⟨hS0, hS1, hS2⟩ := sgOk_shape (sgnS_ok s (y : Int) m hin)
  generalize sgnS s (y : Int) m = S at *
  clear hc3 ho4 G3 P4c
  go_wp2_with fail
  refine (unhide CS).mono ?_
  rintro e w5 ⟨⟨v5, rfl, o5⟩, hb5⟩
  have hc5 := hc4.below hb5 hc4.lt
  have G5 := hide (gT (unhide G4) (gB hb5 (some g)))
  have P4e := P4d.step hb5
  obtain ⟨v1, v2, rfl, q1, q2, ap⟩ := o5
  obtain ⟨b1, c1, rfl, hb1, hb1', hcc1⟩ := row_some15 q1 (by rw [List.length_map, hS1]; omega)
  obtain ⟨b2, c2, rfl, hb2, hb2', hcc2⟩ := row_some15 q2 (by rw [List.length_map, hS2]; omega)
  have e1 : (S.once.map sv).length = 10 := by rw [List.length_map]; exact hS1
  have e2 : (S.path.map sv).length = 2 := by rw [List.length_map]; exact hS2
  rw [e1] at q1 hcc1
  rw [e2] at q2 hcc2
  have hne12 : b1 ≠ b2 := fun e => by
    rw [e1, e2] at ap
    exact ap b1 rfl (by rw [e]; rfl)
  rw [e1, e2]
  unfold sgv
  have hgb1 : g ≠ b1 := by have := hc4.lt; omega
  have hgb2 : g ≠ b2 := by have := hc4.lt; omega
  replace q1 := hide q1; replace q2 := hide q2; replace hS1 := hide hS1; replace hS2 := hide hS2
  have G4s := hide (unhide G4)
  clear hb5 CS G4 P4d ap hc4 e1 e2 hS0
  go_wp2_with fail
  obtain ⟨W5, hW, P7, hB5, hs5⟩ := one_cb w5 #[.int .i64 S.leaf, .slice (some ⟨b1, 0, none⟩) 10 c1, .slice (some ⟨b2, 0, none⟩) 2 c2] 26
  rw [hW]
  clear hW
  have g7ne : g ≠ w5.heap.size := by have := hc5.lt; omega
  have g47 : g4 ≠ w5.heap.size := by have := P4e.lt; omega
  have b17 : b1 ≠ w5.heap.size := by omega
  have b27 : b2 ≠ w5.heap.size := by omega
  have b14 : b1 ≠ g4 := fun e => (P4e.off (unhide q1) (by decide)) (by rw [← e]; rfl)
  have b24 : b2 ≠ g4 := fun e => (P4e.off (unhide q2) (by decide)) (by rw [← e]; rfl)
  obtain ⟨g7, hg7⟩ : ∃ x, x = w5.heap.size := ⟨_, rfl⟩
  rw [← hg7] at P7 g7ne g47 b17 b27 ⊢
  have hc6 := hc5.below hB5 hc5.lt
  have G6 := hide (gT (unhide G5) (gB hB5 (some g)))
  have P4f := P4e.step hB5
  have q1a := hide ((unhide q1).below hB5)
  have q2a := hide ((unhide q2).below hB5)
  have hg7l : w.heap.size ≤ g7 := by have := (unhide G5).size; omega
  have hb1l : w.heap.size ≤ b1 := by have := (unhide G4s).size; omega
  have hb2l : w.heap.size ≤ b2 := by have := (unhide G4s).size; omega
  clear hc5 G5 G4s P4e q1 q2 hB5 hs5 hg7 hb1 hb1' hb2 hb2'
  refine (l01Below_any hc6 hn 12 (by decide) (by decide)).mono ?_
  rintro e w6 ⟨z, hz, rfl, ho6, hc7⟩
  have G7 := hide (gT (unhide G6) (gO ho6))
  have P4g := P4f.grown (gO ho6) (fun e => g4ne (Option.some.inj e))
  have P7g := P7.grown (gO ho6) (fun e => g7ne (Option.some.inj e))
  have q1b := hide ((unhide q1a).grown (gO ho6) (fun k hk e => hgb1 (by cases hk; exact Option.some.inj e)))
  have q2b := hide ((unhide q2a).grown (gO ho6) (fun k hk e => hgb2 (by cases hk; exact Option.some.inj e)))
  replace hc7 := hide hc7
  clear hc6 G6 P4f P7 q1a q2a ho6
  have r0 := P4g.cell 0 (v := .int .i64 0) rfl
  have r1 := P4g.cell 1 (v := .slice none 0 0) rfl
  have r2 := P4g.cell 2 (v := .slice none 0 0) rfl
  have f0 := P4g.frozen 0
  have f1 := P4g.frozen 1
  have f2 := P4g.frozen 2
  have p0 := P7g.cell 0 (v := .int .i64 S.leaf) rfl
  have p1 := P7g.cell 1 (v := .slice (some ⟨b1, 0, none⟩) 10 c1) rfl
  have p2 := P7g.cell 2 (v := .slice (some ⟨b2, 0, none⟩) 2 c2) rfl
  by_cases hz4 : 4 ≤ z
  · have z0 : ¬ (z : Int) = 0 := by omega
    have z1 : ¬ (z : Int) = 1 := by omega
    have z2 : ¬ (z : Int) = 2 := by omega
    have z3 : ¬ (z : Int) = 3 := by omega
    go_wp2
    go_region
    go_wp2
    have hF := hide (fin16 hg hg4l (.int .i64 S.leaf) (.slice (some ⟨b1, 0, none⟩) 10 c1) (.slice (some ⟨b2, 0, none⟩) 2 c2) P4g (unhide G7) (unhide hc7))
    have R1 := hide (RdV.set3 (unhide q1b).rdv g4 (.int .i64 S.leaf) (.slice (some ⟨b1, 0, none⟩) 10 c1) (.slice (some ⟨b2, 0, none⟩) 2 c2) (by intro e; exact b14 (Option.some.inj e)))
    have R2 := hide (RdV.set3 (unhide q2b).rdv g4 (.int .i64 S.leaf) (.slice (some ⟨b1, 0, none⟩) 10 c1) (.slice (some ⟨b2, 0, none⟩) 2 c2) (by intro e; exact b24 (Option.some.inj e)))
    exact bodyPost_ret (results_tt_cb (by exact Try.results32) _ _ _ _ _ _ rfl (show CB _ g4 26 #[(.int .i64 S.leaf), (.slice (some ⟨b1, 0, none⟩) 10 c1), (.slice (some ⟨b2, 0, none⟩) 2 c2)] from (unhide hF).1) Try.underlying26 (by kernel_rfl)) rfl ⟨s, m, _, hs, hm, rfl, ⟨⟨S.leaf, S.once, S.path⟩, Nat.le_of_eq (unhide hS1), Nat.le_of_eq (unhide hS2), _, _, rfl, unhide R1, unhide R2, fun k hk => by have e : b1 = k := Option.some.inj hk; omega, fun k hk => by have e : b2 = k := Option.some.inj hk; omega, capv_lit (by have := hcc1; omega), capv_lit (by have := hcc2; omega)⟩, (unhide hF).2.1, (unhide hF).2.2⟩
  by_cases hz0 : z = 0
  · have z0 : (z : Int) = 0 := by omega
    clear r0 r1 r2 f0 f1 f2 p0 p1 p2
    go_wp2_with fail
    have hB7 := (Below.refl w6.heap.size w6).alloc (Nat.le_refl _) (.cells #[.int .i64 (-1), .int .i64 0, .int .i64 4] 3)
    have hgl := (unhide hc7).lt
    refine (l01PickInt_any ((unhide hc7).below hB7 hgl) hn w6.heap.size 3 3 (by decide) (by decide) (num3_a w6 _) (by omega)).mono ?_
    rintro e w8 ⟨lf, _, _, rfl, ho8, hc8⟩
    have G8 := hide (gT (gT (unhide G7) (gB hB7 (some g))) (gO ho8))
    have P4h := (P4g.step hB7).grown (gO ho8) (fun e => g4ne (Option.some.inj e))
    have P7h := (P7g.step hB7).grown (gO ho8) (fun e => g7ne (Option.some.inj e))
    have q1c := hide (((unhide q1b).below hB7).grown (gO ho8) (fun k hk e => hgb1 (by cases hk; exact Option.some.inj e)))
    have q2c := hide (((unhide q2b).below hB7).grown (gO ho8) (fun k hk e => hgb2 (by cases hk; exact Option.some.inj e)))
    have p0 := P7h.cell 0 (v := .int .i64 S.leaf) rfl
    have u0 := P7h.frozen 0
    replace hc8 := hide hc8
    clear P4g P7g q1b q2b G7 hc7 hB7 ho8 hgl
    go_wp2
    have P7i := P7h.set 0 (.int .i64 lf)
    have P4i := P4h.set_other (h := g7) (k := 0) g47 (.int .i64 lf)
    have hB8 : Below w.heap.size w8 (w8.setCell ⟨g7, 0, none⟩ (.int .i64 lf)) := (Below.refl _ _).setCell (p := ⟨g7, 0, none⟩) hg7l _
    have G9 := hide (gTB (unhide G8) hB8)
    have hc9 := hide ((unhide hc8).below hB8 hg)
    have q1d := hide ((unhide q1c).setO g7 0 (.int .i64 lf) (by intro e; exact b17 (Option.some.inj e)))
    have q2d := hide ((unhide q2c).setO g7 0 (.int .i64 lf) (by intro e; exact b27 (Option.some.inj e)))
    clear p0 u0 P7h P4h hB8 G8 hc8 q1c q2c
    generalize w8.setCell ⟨g7, 0, none⟩ (.int .i64 lf) = W8 at *
    have p0 := P7i.cell 0 (v := .int .i64 lf) rfl
    have p1 := P7i.cell 1 (v := .slice (some ⟨b1, 0, none⟩) 10 c1) rfl
    have p2 := P7i.cell 2 (v := .slice (some ⟨b2, 0, none⟩) 2 c2) rfl
    have r0 := P4i.cell 0 (v := .int .i64 0) rfl
    have r1 := P4i.cell 1 (v := .slice none 0 0) rfl
    have r2 := P4i.cell 2 (v := .slice none 0 0) rfl
    have f0 := P4i.frozen 0
    have f1 := P4i.frozen 1
    have f2 := P4i.frozen 2
    go_region
    go_wp2
    have hF := hide (fin16 hg hg4l (.int .i64 lf) (.slice (some ⟨b1, 0, none⟩) 10 c1) (.slice (some ⟨b2, 0, none⟩) 2 c2) P4i (unhide G9) (unhide hc9))
    have R1 := hide (RdV.set3 (unhide q1d).rdv g4 (.int .i64 lf) (.slice (some ⟨b1, 0, none⟩) 10 c1) (.slice (some ⟨b2, 0, none⟩) 2 c2) (by intro e; exact b14 (Option.some.inj e)))
    have R2 := hide (RdV.set3 (unhide q2d).rdv g4 (.int .i64 lf) (.slice (some ⟨b1, 0, none⟩) 10 c1) (.slice (some ⟨b2, 0, none⟩) 2 c2) (by intro e; exact b24 (Option.some.inj e)))
    exact bodyPost_ret (results_tt_cb (by exact Try.results32) _ _ _ _ _ _ rfl (show CB _ g4 26 #[(.int .i64 lf), (.slice (some ⟨b1, 0, none⟩) 10 c1), (.slice (some ⟨b2, 0, none⟩) 2 c2)] from (unhide hF).1) Try.underlying26 (by kernel_rfl)) rfl ⟨s, m, _, hs, hm, rfl, ⟨⟨lf, S.once, S.path⟩, Nat.le_of_eq (unhide hS1), Nat.le_of_eq (unhide hS2), _, _, rfl, unhide R1, unhide R2, fun k hk => by have e : b1 = k := Option.some.inj hk; omega, fun k hk => by have e : b2 = k := Option.some.inj hk; omega, capv_lit (by have := hcc1; omega), capv_lit (by have := hcc2; omega)⟩, (unhide hF).2.1, (unhide hF).2.2⟩
  by_cases hz1 : z = 1
  · have z0 : ¬ (z : Int) = 0 := by omega
    have z1 : (z : Int) = 1 := by omega
    clear r0 r1 r2 f0 f1 f2 p0 p2
    go_wp2
    have KS := hide (fun (W' : World) (h : w6.grownBy W' (some g)) => (show W'.cell? ⟨g7, 1, none⟩ = some (.slice (some ⟨b1, 0, none⟩) 10 c1) ∧ (∀ j, j < 10 → ∃ x, W'.cell? ⟨b1, j, none⟩ = some (.string x)) ∧ ∀ j, W'.frozen? ⟨b1, j, none⟩ = false from ⟨(P7g.grown h (fun e => g7ne (Option.some.inj e))).cell 1 rfl, fun j hj => ⟨_, ((unhide q1b).grown h (fun k hk e => hgb1 (by cases hk; exact Option.some.inj e))).cell (k := j) (bAt_get S.once j (by rw [unhide hS1]; exact hj))⟩, fun j => ((unhide q1b).grown h (fun k hk e => hgb1 (by cases hk; exact Option.some.inj e))).frozen j⟩))
    have hG := gB ((Below.refl w6.heap.size w6).drew) (some g)
    have hgl := (unhide hc7).lt
    have hC := (unhide hc7).below ((Below.refl w6.heap.size w6).drew) hgl
    clear p1
    go_region_held3 (fun W => W.cell? ⟨g7, 1, none⟩ = some (.slice (some ⟨b1, 0, none⟩) 10 c1)) (first | exact (unhide KS _ hG).1 | exact (unhide KS _ (gT hG (gB ((Below.refl _ _).alloc (Nat.le_refl _) _) (some g)))).1 | (rw [World.cell?_setCell_far _ _ _ _ b17]; exact (unhide KS _ hG).1) | fail) (first
      | (go_at_call 61; refine (l01Below_any hC hn 10 (by decide) (by decide)).mono ?_; rintro e wB ⟨y1, hy1, rfl, hoB, hC⟩; have y0 : (0 : Int) ≤ (y1 : Int) := (by omega); have y10 : (y1 : Int) < 10 := (by omega); have hG := gT hG (gO hoB); have hyc := hide hy1; (try (obtain ⟨xB, cB⟩ := (unhide KS _ hG).2.1 y1 hy1)); (try (have fB := (unhide KS _ hG).2.2 y1)); clear hoB hy1)
      | (go_at_call 61; have hgx := hC.lt; refine (l01Below_any (hC.below ((Below.refl _ _).alloc (Nat.le_refl _) _) hC.lt) hn 10 (by decide) (by decide)).mono ?_; rintro e wB ⟨y1, hy1, rfl, hoB, hC⟩; have hk0 : w6.drew.heap.size ≠ g := (by show w6.heap.size ≠ g; omega); have hL := num3_on hoB hk0 (num3_b _ _); have y0 : (0 : Int) ≤ (y1 : Int) := (by omega); have y10 : (y1 : Int) < 10 := (by omega); have hG := gT (gT hG (gB ((Below.refl _ _).alloc (Nat.le_refl _) _) (some g))) (gO hoB); have hyc := hide hy1; clear hoB hy1 hgx)
      | (go_at_call 62; refine (l01PickP_any upTo9 hC hn _ 3 3 (by decide) (by decide) hL hk0).mono ?_; rintro e wP ⟨zz, ⟨q, rfl, hq⟩, rfl, hoP, hC⟩; have hG := gT hG (gO hoP); clear hoP)
      | (go_at_call 62; refine (l01PickP_any upTo9 (hC.below ((Below.refl _ _).alloc (Nat.le_refl _) _) hC.lt) hn _ 3 3 (by decide) (by decide) (num3_b _ _) (by have := hC.lt; omega)).mono ?_; rintro e wP ⟨zz, ⟨q, rfl, hq⟩, rfl, hoP, hC⟩; have hG := gT (gT hG (gB ((Below.refl _ _).alloc (Nat.le_refl _) _) (some g))) (gO hoP); clear hoP)
      | (go_at_call 60; refine (l01Text_g hC hn q (by omega)).mono ?_; rintro e wT ⟨lt, hlt, rfl, gT1, hC⟩; have hG := gT hG gT1; (try (obtain ⟨xT, cT⟩ := (unhide KS _ hG).2.1 y1 (unhide hyc))); (try (have fT := (unhide KS _ hG).2.2 y1)); clear gT1))
    all_goals
      generalize ByteArray.mk lt.toArray = tx at *
      have P7i := (P7g.grown hG (fun e => g7ne (Option.some.inj e))).set_other (h := b1) (k := y1) (fun e => b17 e.symm) (.string tx)
      have P4i := (P4g.grown hG (fun e => g4ne (Option.some.inj e))).set_other (h := b1) (k := y1) (fun e => b14 e.symm) (.string tx)
      obtain ⟨G9, hc9⟩ := sto16 hg (unhide G7) hG hC b1 y1 hb1l (.string tx)
      replace G9 := hide G9
      replace hc9 := hide hc9
      have q2d := hide (((unhide q2b).grown hG (fun k hk e => hgb2 (by cases hk; exact Option.some.inj e))).setO b1 y1 (.string tx) (by intro e; exact hne12 (Option.some.inj e).symm))
      have q1d := hide (((unhide q1b).grown hG (fun k hk e => hgb1 (by cases hk; exact Option.some.inj e))).set y1 (.string tx))
      have hset : (S.once.map sv).set y1 (.string tx) = (S.once.set y1 tx).map sv := by rw [List.map_set]; rfl
      rw [hset] at q1d
      clear P7g P4g G7 hc7 q1b q2b hG hC KS hset
      first
        | generalize wT.setCell ⟨b1, y1, none⟩ (.string tx) = W8 at *
        | generalize wB.setCell ⟨b1, y1, none⟩ (.string tx) = W8 at *
      go_wp2
      have p0 := P7i.cell 0 (v := .int .i64 S.leaf) rfl
      have p1 := P7i.cell 1 (v := .slice (some ⟨b1, 0, none⟩) 10 c1) rfl
      have p2 := P7i.cell 2 (v := .slice (some ⟨b2, 0, none⟩) 2 c2) rfl
      have r0 := P4i.cell 0 (v := .int .i64 0) rfl
      have r1 := P4i.cell 1 (v := .slice none 0 0) rfl
      have r2 := P4i.cell 2 (v := .slice none 0 0) rfl
      have f0 := P4i.frozen 0
      have f1 := P4i.frozen 1
      have f2 := P4i.frozen 2
      go_region
      go_wp2
      have hF := hide (fin16 hg hg4l (.int .i64 S.leaf) (.slice (some ⟨b1, 0, none⟩) 10 c1) (.slice (some ⟨b2, 0, none⟩) 2 c2) P4i (unhide G9) (unhide hc9))
      have R1 := hide (RdV.set3 (unhide q1d).rdv g4 (.int .i64 S.leaf) (.slice (some ⟨b1, 0, none⟩) 10 c1) (.slice (some ⟨b2, 0, none⟩) 2 c2) (by intro e; exact b14 (Option.some.inj e)))
      have R2 := hide (RdV.set3 (unhide q2d).rdv g4 (.int .i64 S.leaf) (.slice (some ⟨b1, 0, none⟩) 10 c1) (.slice (some ⟨b2, 0, none⟩) 2 c2) (by intro e; exact b24 (Option.some.inj e)))
      exact bodyPost_ret (results_tt_cb (by exact Try.results32) _ _ _ _ _ _ rfl (show CB _ g4 26 #[(.int .i64 S.leaf), (.slice (some ⟨b1, 0, none⟩) 10 c1), (.slice (some ⟨b2, 0, none⟩) 2 c2)] from (unhide hF).1) Try.underlying26 (by kernel_rfl)) rfl ⟨s, m, _, hs, hm, rfl, ⟨⟨S.leaf, S.once.set y1 tx, S.path⟩, by show (S.once.set y1 tx).length ≤ 10; rw [List.length_set]; exact Nat.le_of_eq (unhide hS1), Nat.le_of_eq (unhide hS2), _, _, rfl, unhide R1, unhide R2, fun k hk => by have e : b1 = k := Option.some.inj hk; omega, fun k hk => by have e : b2 = k := Option.some.inj hk; omega, capv_lit (by have := hcc1; omega), capv_lit (by have := hcc2; omega)⟩, (unhide hF).2.1, (unhide hF).2.2⟩
  by_cases hz2 : z = 2
  · have z0 : ¬ (z : Int) = 0 := by omega
    have z1 : ¬ (z : Int) = 1 := by omega
    have z2 : (z : Int) = 2 := by omega
    clear r0 r1 r2 f0 f1 f2 p0 p1
    go_wp2
    have cX := (unhide q2b).cell (k := 0) (bAt_get S.path 0 (by rw [unhide hS2]; decide))
    have fX := (unhide q2b).frozen 0
    obtain ⟨x0, hx0'⟩ : ∃ x, bAt S.path 0 = x := ⟨_, rfl⟩
    rw [hx0'] at cX
    have KS := hide (fun (W' : World) (h : w6.grownBy W' (some g)) => (show W'.cell? ⟨g7, 2, none⟩ = some (.slice (some ⟨b2, 0, none⟩) 2 c2) ∧ W'.cell? ⟨b2, 0, none⟩ = some (.string x0) ∧ W'.frozen? ⟨b2, 0, none⟩ = false from ⟨(P7g.grown h (fun e => g7ne (Option.some.inj e))).cell 2 rfl, ((unhide q2b).grown h (fun k hk e => hgb2 (by cases hk; exact Option.some.inj e))).cell (k := 0) (by rw [← hx0']; exact bAt_get S.path 0 (by rw [unhide hS2]; decide)), ((unhide q2b).grown h (fun k hk e => hgb2 (by cases hk; exact Option.some.inj e))).frozen 0⟩))
    have hG := gB ((Below.refl w6.heap.size w6).drew) (some g)
    have hC := unhide hc7
    clear cX fX p2
    go_region_held3 (fun W => W.cell? ⟨g7, 2, none⟩ = some (.slice (some ⟨b2, 0, none⟩) 2 c2)) (first | exact (unhide KS _ hG).1 | exact (unhide KS _ (gT hG (gB ((Below.refl _ _).alloc (Nat.le_refl _) _) (some g)))).1 | (rw [World.cell?_setCell_far _ _ _ _ b27]; exact (unhide KS _ hG).1) | fail) (first
      | (go_at_call 62; refine (l01PickP_any upTo9 (hC.below ((Below.refl w6.heap.size w6).drew.alloc (Nat.le_refl _) _) hC.lt) hn _ 3 3 (by decide) (by decide) (num3_c w6.drew _) (by have := hC.lt; show w6.heap.size ≠ g; omega)).mono ?_; rintro e wP ⟨zz, ⟨q, rfl, hq⟩, rfl, hoP, hC⟩; have hG := gT (gT hG (gB ((Below.refl w6.drew.heap.size w6.drew).alloc (Nat.le_refl _) _) (some g))) (gO hoP); clear hoP)
      | (go_at_call 60; refine (l01Text_g hC hn q (by omega)).mono ?_; rintro e wT ⟨lt, hlt, rfl, gT1, hC⟩; have hG := gT hG gT1; have cT := (unhide KS _ hG).2.1; have fT := (unhide KS _ hG).2.2; clear gT1))
    all_goals
      generalize ByteArray.mk lt.toArray = tx at *
      have P7i := (P7g.grown hG (fun e => g7ne (Option.some.inj e))).set_other (h := b2) (k := 0) (fun e => b27 e.symm) (.string tx)
      have P4i := (P4g.grown hG (fun e => g4ne (Option.some.inj e))).set_other (h := b2) (k := 0) (fun e => b24 e.symm) (.string tx)
      have hB8 := (Below.refl w.heap.size wT).setCell (p := ⟨b2, 0, none⟩) hb2l (.string tx)
      have G9 := hide (gTB (gT (unhide G7) hG) hB8)
      have hc9 := hide (hC.below hB8 hg)
      have q1d := hide (((unhide q1b).grown hG (fun k hk e => hgb1 (by cases hk; exact Option.some.inj e))).setO b2 0 (.string tx) (by intro e; exact hne12 (Option.some.inj e)))
      have q2d := hide (((unhide q2b).grown hG (fun k hk e => hgb2 (by cases hk; exact Option.some.inj e))).set 0 (.string tx))
      have hset : (S.path.map sv).set 0 (.string tx) = (S.path.set 0 tx).map sv := by rw [List.map_set]; rfl
      rw [hset] at q2d
      clear cT fT P7g P4g hB8 G7 hc7 q1b q2b hG hC KS hset
      generalize wT.setCell ⟨b2, 0, none⟩ (.string tx) = W8 at *
      go_wp2
      have p0 := P7i.cell 0 (v := .int .i64 S.leaf) rfl
      have p1 := P7i.cell 1 (v := .slice (some ⟨b1, 0, none⟩) 10 c1) rfl
      have p2 := P7i.cell 2 (v := .slice (some ⟨b2, 0, none⟩) 2 c2) rfl
      have r0 := P4i.cell 0 (v := .int .i64 0) rfl
      have r1 := P4i.cell 1 (v := .slice none 0 0) rfl
      have r2 := P4i.cell 2 (v := .slice none 0 0) rfl
      have f0 := P4i.frozen 0
      have f1 := P4i.frozen 1
      have f2 := P4i.frozen 2
      go_region
      go_wp2
      have hF := hide (fin16 hg hg4l (.int .i64 S.leaf) (.slice (some ⟨b1, 0, none⟩) 10 c1) (.slice (some ⟨b2, 0, none⟩) 2 c2) P4i (unhide G9) (unhide hc9))
      have R1 := hide (RdV.set3 (unhide q1d).rdv g4 (.int .i64 S.leaf) (.slice (some ⟨b1, 0, none⟩) 10 c1) (.slice (some ⟨b2, 0, none⟩) 2 c2) (by intro e; exact b14 (Option.some.inj e)))
      have R2 := hide (RdV.set3 (unhide q2d).rdv g4 (.int .i64 S.leaf) (.slice (some ⟨b1, 0, none⟩) 10 c1) (.slice (some ⟨b2, 0, none⟩) 2 c2) (by intro e; exact b24 (Option.some.inj e)))
      exact bodyPost_ret (results_tt_cb (by exact Try.results32) _ _ _ _ _ _ rfl (show CB _ g4 26 #[(.int .i64 S.leaf), (.slice (some ⟨b1, 0, none⟩) 10 c1), (.slice (some ⟨b2, 0, none⟩) 2 c2)] from (unhide hF).1) Try.underlying26 (by kernel_rfl)) rfl ⟨s, m, _, hs, hm, rfl, ⟨⟨S.leaf, S.once, S.path.set 0 tx⟩, Nat.le_of_eq (unhide hS1), by show (S.path.set 0 tx).length ≤ 2; rw [List.length_set]; exact Nat.le_of_eq (unhide hS2), _, _, rfl, unhide R1, unhide R2, fun k hk => by have e : b1 = k := Option.some.inj hk; omega, fun k hk => by have e : b2 = k := Option.some.inj hk; omega, capv_lit (by have := hcc1; omega), capv_lit (by have := hcc2; omega)⟩, (unhide hF).2.1, (unhide hF).2.2⟩
  · have z0 : ¬ (z : Int) = 0 := by omega
    have z1 : ¬ (z : Int) = 1 := by omega
    have z2 : ¬ (z : Int) = 2 := by omega
    have z3 : (z : Int) = 3 := by omega
    have hcc2' : (2 : Int) ≤ (c2 : Int) := by omega
    have u2 := P7g.frozen 2
    have hRD := hide (rd_drop (unhide q2b).rdv (unhide hS2) (by have := ((unhide q2b).lt b2 rfl).2; exact this))
    clear r0 r1 r2 f0 f1 f2
    go_wp2
    have P7i := P7g.set 2 (.slice (some ⟨b2, 1, none⟩) 1 (c2 - 1))
    have P4i := P4g.set_other (h := g7) (k := 2) g47 (.slice (some ⟨b2, 1, none⟩) 1 (c2 - 1))
    have hB8 : Below w.heap.size w6 (w6.setCell ⟨g7, 2, none⟩ (.slice (some ⟨b2, 1, none⟩) 1 (c2 - 1))) := (Below.refl _ _).setCell (p := ⟨g7, 2, none⟩) hg7l _
    have G9 := hide (gTB (unhide G7) hB8)
    have hc9 := hide ((unhide hc7).below hB8 hg)
    have q1d := hide ((unhide q1b).setO g7 2 (.slice (some ⟨b2, 1, none⟩) 1 (c2 - 1)) (by intro e; exact b17 (Option.some.inj e)))
    have q2d := hide ((unhide hRD).setO g7 2 (.slice (some ⟨b2, 1, none⟩) 1 (c2 - 1)) (by intro e; exact b27 (Option.some.inj e)))
    clear p0 p1 p2 u2 P7g P4g hB8 G7 hc7 q1b q2b hRD
    generalize w6.setCell ⟨g7, 2, none⟩ (.slice (some ⟨b2, 1, none⟩) 1 (c2 - 1)) = W8 at *
    have p0 := P7i.cell 0 (v := .int .i64 S.leaf) rfl
    have p1 := P7i.cell 1 (v := .slice (some ⟨b1, 0, none⟩) 10 c1) rfl
    have p2 := P7i.cell 2 (v := .slice (some ⟨b2, 1, none⟩) 1 (c2 - 1)) rfl
    have r0 := P4i.cell 0 (v := .int .i64 0) rfl
    have r1 := P4i.cell 1 (v := .slice none 0 0) rfl
    have r2 := P4i.cell 2 (v := .slice none 0 0) rfl
    have f0 := P4i.frozen 0
    have f1 := P4i.frozen 1
    have f2 := P4i.frozen 2
    go_region
    go_wp2
    have hF := hide (fin16 hg hg4l (.int .i64 S.leaf) (.slice (some ⟨b1, 0, none⟩) 10 c1) (.slice (some ⟨b2, 1, none⟩) 1 (c2 - 1)) P4i (unhide G9) (unhide hc9))
    have R1 := hide (RdV.set3 (unhide q1d).rdv g4 (.int .i64 S.leaf) (.slice (some ⟨b1, 0, none⟩) 10 c1) (.slice (some ⟨b2, 1, none⟩) 1 (c2 - 1)) (by intro e; exact b14 (Option.some.inj e)))
    have R2 := hide (RdV.set3 (unhide q2d) g4 (.int .i64 S.leaf) (.slice (some ⟨b1, 0, none⟩) 10 c1) (.slice (some ⟨b2, 1, none⟩) 1 (c2 - 1)) (by intro e; exact b24 (Option.some.inj e)))
    exact bodyPost_ret (results_tt_cb (by exact Try.results32) _ _ _ _ _ _ rfl (show CB _ g4 26 #[(.int .i64 S.leaf), (.slice (some ⟨b1, 0, none⟩) 10 c1), (.slice (some ⟨b2, 1, none⟩) 1 (c2 - 1))] from (unhide hF).1) Try.underlying26 (by kernel_rfl)) rfl ⟨s, m, _, hs, hm, rfl, ⟨⟨S.leaf, S.once, S.path.drop 1⟩, Nat.le_of_eq (unhide hS1), by show (S.path.drop 1).length ≤ 2; rw [List.length_drop]; have := unhide hS2; omega, _, _, rfl, unhide R1, unhide R2, fun k hk => by have e : b1 = k := Option.some.inj hk; omega, fun k hk => by have e : b2 = k := Option.some.inj hk; omega, capv_lit (by have := hcc1; omega), capv_lit (by have := hcc2; omega)⟩, (unhide hF).2.1, (unhide hF).2.2⟩
end Go.Proofs.Ytjgnjjphankhnaa

/- The laws FnExactPublicOf, FnExactSigOk, FnExactCheckSig, FnExactSigText, walked over the loaded program; what the project's functions answer are premises. -/
namespace Go.Proofs.Ytjgnjjphankhnaa
open Go.RowKit
theorem RdSg.open {w : World} {v : Value} {s : Sg} (h : RdSg w v s) : ∃ a1 n1 c1 a2 n2 c2, v = .agg #[.int .i64 s.leaf, .slice a1 n1 c1, .slice a2 n2 c2] := by
  obtain ⟨v1, v2, rfl, h1, h2, -⟩ := h
  obtain ⟨a1, c1, rfl⟩ := h1.shape
  obtain ⟨a2, c2, rfl⟩ := h2.shape
  exact ⟨_, _, _, _, _, _, rfl⟩
/-- What is asked of a signature's texts, that they may be reckoned with. -/
def okSg (s : Sg) : Prop := (∀ x ∈ s.once, x.size ≤ maxLen) ∧ (∀ x ∈ s.path, x.size ≤ maxLen) ∧ s.once.length ≤ maxLen ∧ s.path.length ≤ maxLen
set_option maxRecDepth 20000 in
set_option maxHeartbeats 800000 in
theorem lawPublicOf_any (s : ByteArray) (CI : s.size ≤ 1048576 → ∀ W : World, Calls Try.prog 25 #[.string s] W fun e w' => e = .returned (.string (pubO s)) ∧ Below W.heap.size W w') (w : World) :
    Calls Try.prog 5 #[.string s] w fun x w' => x = .returned (.bool true) ∧ Below w.heap.size w w' := by
  by_cases h1 : (1048576 : Int) < (s.size : Int)
  · go_enter Try.func5, Try.ntmps5
    go_wp2
    go_ret
    exact ⟨rfl, Below.refl _ _⟩
  have CS := hide (fun W => specPublicOf_any s (by omega) W)
  replace CI := hide (CI (by omega))
  generalize pubO s = p at *
  go_enter Try.func5, Try.ntmps5
  go_wp2_with fail
  refine (unhide CS w).mono ?_
  rintro e w1 ⟨rfl, hb1⟩
  clear CS
  go_wp2_with fail
  refine (unhide CI w1).mono ?_
  rintro e w2 ⟨rfl, hb2⟩
  have T := hb1.trans (hb2.mono hb1.size)
  clear CI hb1 hb2
  go_wp2
  go_ret
  exact ⟨rfl, T⟩
end Go.Proofs.Ytjgnjjphankhnaa

/- A drawn text, spoilt, over the loaded program. -/
namespace Go.Proofs.Ytjgnjjphankhnaa
open Go.RowKit
theorem cut_h9 (T : ByteArray) (j : Nat) (w : World) (h2 : j ≤ T.size) : (Instr.slice 9 (.string T) none (some (.int .i64 (j : Int))) none).run Try.prog w = .ok (.string (T.extract 0 j)) w := by
  rw [run_slice_string_h w 9 T Try.underlying9 .i64 (j : Int) (by omega) (by omega)]
  rfl
theorem cut_l9 (T : ByteArray) (i : Nat) (w : World) (h2 : i ≤ T.size) : (Instr.slice 9 (.string T) (some (.int .i64 (i : Int))) none none).run Try.prog w = .ok (.string (T.extract i T.size)) w := by
  rw [run_slice_string_l w 9 T Try.underlying9 .i64 (i : Int) (by omega) (by omega)]
  rfl
set_option maxRecDepth 20000 in
set_option maxHeartbeats 1000000 in
theorem spoilt9_any {w : World} {base g n c : Nat} {o : Option Addr} (h : Cur w base g o n c) (hn : n ≤ 1048576) (s : ByteArray) (hs : s.size ≤ 1000) :
    Calls Try.prog 42 #[.pointer (some ⟨g, 0, none⟩), .string s] w fun e w' => ∃ t : ByteArray, t.size ≤ 1001 ∧ e = .returned (.string t) ∧ Below base w w' := by
  have hlo := h.lo
  have H := hide h
  clear h
  go_enter Try.func42, Try.ntmps42
  go_wp2_with fail
  refine (l01Below_any (unhide H) hn 12 (by omega) (by omega)).mono ?_
  rintro e w1 ⟨x, hx, rfl, ho1, hc1⟩
  have hb1 := ho1.below hlo
  replace hc1 := hide hc1
  clear ho1 H
  by_cases h0 : x = 0
  · have h0' : (x : Int) = 0 := by omega
    go_wp2_with fail
    refine (l01Text_any (unhide hc1) hn 1 (by omega)).mono ?_
    rintro e w2 ⟨l, hl, rfl, hb2, _⟩
    have HB := hide (hb1.trans hb2)
    clear hb1 hb2
    have hls : (⟨l.toArray⟩ : ByteArray).size = 1 := by show l.toArray.size = 1; simpa using hl
    generalize (⟨l.toArray⟩ : ByteArray) = t1 at *
    go_wp2
    go_ret
    refine ⟨_, ?_, rfl, unhide HB⟩
    rw [ByteArray.size_append]; omega
  · have h0' : ¬ (x : Int) = 0 := by omega
    by_cases h1 : x = 1
    · have h1' : (x : Int) = 1 := by omega
      obtain ⟨m, hm⟩ : ∃ m, m = s.size + 1 := ⟨_, rfl⟩
      have em : IntKind.i64.wrap ((s.size : Int) + 1) = (m : Int) := by rw [IntKind.wrap_i64]; omega
      have C := hide (l01Below_any (unhide hc1) hn m (by omega) (by omega))
      replace hm := hide hm
      go_wp2_with fail
      refine (unhide C).mono ?_
      rintro e w2 ⟨y, hy, rfl, ho2, _⟩
      have HB := hide (hb1.trans (ho2.below hlo))
      have hys : y ≤ s.size := by have := unhide hm; omega
      have hsl := cut_h9 s y w2 hys
      have hxs : (s.extract 0 y).size = y := by rw [ByteArray.size_extract]; omega
      clear hb1 ho2
      have hys' : (y : Int) ≤ (s.size : Int) := by omega
      go_wp2
      go_ret
      exact ⟨_, by rw [hxs]; omega, rfl, unhide HB⟩
    · have h1' : ¬ (x : Int) = 1 := by omega
      by_cases h23 : x = 2 ∨ x = 3
      · by_cases hz : 0 < s.size
        · have hz' : (0 : Int) < (s.size : Int) := by omega
          have C := hide (l01Below_any (unhide hc1) hn s.size (by omega) (by omega))
          have key : ∀ X : Int, (X = 2 ∨ X = 3) → X = (x : Int) → True := fun _ _ _ => trivial
          clear key
          rcases h23 with rfl | rfl
          all_goals (
            go_wp2_with fail
            refine (unhide C).mono ?_
            rintro e w2 ⟨i, hi, rfl, ho2, hc2⟩
            have hb2 := hb1.trans (ho2.below hlo)
            obtain ⟨j, hj⟩ : ∃ j, j = i + 1 := ⟨_, rfl⟩
            have ej : IntKind.i64.wrap ((i : Int) + 1) = (j : Int) := by rw [IntKind.wrap_i64]; omega
            have hi' : (i : Int) ≤ (s.size : Int) := by omega
            have hj' : (j : Int) ≤ (s.size : Int) := by omega
            have hsl1 := fun V => cut_h9 s i V (by omega)
            have hsl2 := fun V => cut_l9 s j V (by omega)
            have hx1 : (s.extract 0 i).size = i := by rw [ByteArray.size_extract]; omega
            have hx2 : (s.extract j s.size).size = s.size - j := by rw [ByteArray.size_extract]; omega
            have hc2d := hide (hc2.below ((Below.refl w2.heap.size w2).drew) hc2.lt)
            clear hc2
            replace hj := hide hj
            replace hb2 := hide hb2
            clear ho2 hb1
            go_wp2
            go_region_with (first | (go_at_call 60; refine (l01Text_any (unhide hc2d) hn 1 (by omega)).mono ?_; rintro e w3 ⟨l, hl, rfl, hb3, _⟩; have hls : (⟨l.toArray⟩ : ByteArray).size = 1 := by (show l.toArray.size = 1; simpa using hl)))
            all_goals (
              have HB := hide ((unhide hb2).drew.trans hb3)
              clear hb3
              go_wp2
              go_ret
              refine ⟨_, ?_, rfl, unhide HB⟩
              rw [ByteArray.size_append, ByteArray.size_append, hx1, hx2, hls]
              have := unhide hj
              omega))
        · have hz' : ¬ (0 : Int) < (s.size : Int) := by omega
          rcases h23 with rfl | rfl
          all_goals (
            replace hb1 := hide hb1
            go_wp2
            go_ret
            exact ⟨s, by omega, rfl, unhide hb1⟩)
      · have h2' : ¬ (x : Int) = 2 := by omega
        have h3' : ¬ (x : Int) = 3 := by omega
        replace hb1 := hide hb1
        go_wp2
        go_ret
        exact ⟨s, by omega, rfl, unhide hb1⟩
end Go.Proofs.Ytjgnjjphankhnaa

/- Draws for the law on signatures that are checked, over the loaded program. -/
namespace Go.Proofs.Ytjgnjjphankhnaa
open Go.RowKit
theorem DrwG.open {w : World} {B : Nat} {v : Value} (h : DrwG w B v) : ∃ lf a1 n1 c1 a2 n2 c2, v = .agg #[.int .i64 lf, .slice a1 n1 c1, .slice a2 n2 c2] := by
  obtain ⟨S, _, _, hr⟩ := h.rd
  obtain ⟨a1, n1, c1, a2, n2, c2, rfl⟩ := hr.open
  exact ⟨_, _, _, _, _, _, _, rfl⟩
theorem DrwG.below {w w' : World} {B : Nat} {v : Value} (h : DrwG w B v) (hb : Below w.heap.size w w') : DrwG w' B v := by
  obtain ⟨S, h1, h2, v1, v2, e, r1, r2, l1, l2⟩ := h
  exact ⟨S, h1, h2, v1, v2, e, r1.below hb, r2.below hb, l1, l2⟩
theorem DrwG.grown {w w' : World} {B g : Nat} {v : Value} (h : DrwG w B v) (hG : w.grownBy w' (some g)) (hg : g < B) : DrwG w' B v := by
  obtain ⟨S, h1, h2, v1, v2, e, r1, r2, l1, l2⟩ := h
  exact ⟨S, h1, h2, v1, v2, e, r1.grown hG (fun k hk e => by have := l1 k hk; have := Option.some.inj e; omega), r2.grown hG (fun k hk e => by have := l2.1 k hk; have := Option.some.inj e; omega), l1, l2⟩
set_option maxRecDepth 20000 in
set_option maxHeartbeats 800000 in
theorem drawReadSig_any (w : World) (o : Option Addr) (n c : Nat) (hs : Src w w.heap.size o n) (hn : n ≤ 1048576) :
    Calls Try.prog 13 #[.slice o n c] w fun e w' => ∃ t : ByteArray, t.size ≤ 1001 ∧ e = .returned (.string t) ∧ Below w.heap.size w w' := by
  have HS := hide hs
  clear hs
  go_enter Try.func13, Try.ntmps13
  go_wp2_with fail
  refine (l01New_any w o n c (unhide HS) hn).mono ?_
  rintro e w1 ⟨rfl, hb1, hc1⟩
  obtain ⟨g, hg⟩ : ∃ g, g = w.heap.size := ⟨_, rfl⟩
  rw [← hg] at hc1 ⊢
  have hgle : w.heap.size ≤ g := by omega
  clear HS hg
  go_wp2_with fail
  refine (l16Sig_any hc1 hn).mono ?_
  rintro e w2 ⟨s, m, v, hs9, hm9, rfl, hD, h2, hc2⟩
  have hb2 := hb1.grown h2 hb1.size (fun k hk => by cases hk; exact hgle)
  obtain ⟨S, k1, k2, hr⟩ := hD.rd
  obtain ⟨a1, n1, c1, a2, n2, c2, rfl⟩ := hr.open
  have htz : (sgT S).size ≤ 1000 := by
    cases ho : sgOk S with
    | true => rw [sgT_size ho]; omega
    | false => unfold sgT; rw [ho]; exact Nat.zero_le _
  replace hr := hide hr
  clear hc1 hb1 h2
  go_wp2_with fail
  obtain ⟨W2, hW, P6, hB2, hs2⟩ := one_cb w2 #[.int .i64 S.leaf, .slice a1 n1 c1, .slice a2 n2 c2] 26
  rw [hW]
  clear hW
  have hc3 := hc2.below hB2 hc2.lt
  have hb3 := hb2.trans (hB2.mono hb2.size)
  refine (specSigText_any S _ W2 ((unhide hr).below hB2) (by omega) (by omega)).mono ?_
  rintro e w4 ⟨rfl, hb4⟩
  have hc4 := hc3.below hb4 hc3.lt
  have hb5 := hb3.trans (hb4.mono hb3.size)
  clear hc2 hc3 hb2 hb3 hb4 P6 hB2 hr
  go_wp2_with fail
  refine (spoilt9_any hc4 hn (sgT S) htz).mono ?_
  rintro e w5 ⟨t, ht, rfl, hb6⟩
  have hlo := hc4.lo
  have hb7 := hb5.trans (hb6.mono (by omega))
  clear hc4 hb5 hb6
  go_wp2
  go_ret
  exact ⟨t, ht, rfl, hb7⟩
theorem fin16b {w W : World} {g4 : Nat} {T : TypeId} {x0 x1 x2 : Value} (hg4 : w.heap.size ≤ g4) (a0 a1 a2 : Value) (P4 : CB W g4 T #[x0, x1, x2]) (G : Below w.heap.size w W) :
    CB (((W.setCell ⟨g4, 0, none⟩ a0).setCell ⟨g4, 1, none⟩ a1).setCell ⟨g4, 2, none⟩ a2) g4 T #[a0, a1, a2] ∧ Below w.heap.size w (((W.setCell ⟨g4, 0, none⟩ a0).setCell ⟨g4, 1, none⟩ a1).setCell ⟨g4, 2, none⟩ a2) :=
  ⟨((P4.set 0 a0).set 1 a1).set 2 a2, ((G.setCell (p := ⟨g4, 0, none⟩) hg4 a0).setCell (p := ⟨g4, 1, none⟩) hg4 a1).setCell (p := ⟨g4, 2, none⟩) hg4 a2⟩
theorem DrwG.set3 {w : World} {B g4 : Nat} {v : Value} (h : DrwG w B v) (hg : g4 < B) (a0 a1 a2 : Value) : DrwG (((w.setCell ⟨g4, 0, none⟩ a0).setCell ⟨g4, 1, none⟩ a1).setCell ⟨g4, 2, none⟩ a2) B v :=
  ((h.grown (tS0 w g4 0 a0) hg).grown (tS0 _ g4 1 a1) hg).grown (tS0 _ g4 2 a2) hg
theorem DrwG.drew {w : World} {B : Nat} {v : Value} (h : DrwG w B v) : DrwG w.drew B v := h.below (Below.refl _ _).drew
theorem pubO_size (s : ByteArray) : (pubO s).size ≤ 4 := by
  unfold pubO rootB
  rw [if_pos (lvsO_len s)]
  exact Nat.le_of_eq (bAt_four (lvs_four _ (lvsO_size s) 2) 0 (by rw [lvs_len _ (lvsO_len s) 2]; decide))
set_option maxRecDepth 20000 in
set_option maxHeartbeats 1600000 in
theorem drawCheckSig_any (w : World) (o : Option Addr) (n c : Nat) (hs : Src w w.heap.size o n) (hn : n ≤ 1048576) :
    Calls Try.prog 8 #[.slice o n c] w fun e w' => ∃ (p m : ByteArray) (v : Value), p.size ≤ 9 ∧ m.size ≤ 10 ∧ e = .returned (.tuple #[.string p, .string m, v]) ∧ (∃ S : Sg, S.once.length ≤ 10 ∧ S.path.length ≤ 2 ∧ RdSg w' v S) ∧ Below w.heap.size w w' := by
  have HS := hide (fun W (h : Below w.heap.size w W) => ((hs.below h (Nat.le_refl _)).up h.size))
  clear hs
  go_enter Try.func8, Try.ntmps8
  go_wp2_with fail
  obtain ⟨W, hW, P4, hB, hs1⟩ := one_cb w #[.int .i64 0, .slice none 0 0, .slice none 0 0] 26
  rw [hW]
  clear hW
  obtain ⟨g4, hg4⟩ : ∃ x, x = w.heap.size := ⟨_, rfl⟩
  rw [← hg4] at P4 ⊢
  have hg4l : w.heap.size ≤ g4 := by omega
  refine (l01New_any W o n c (unhide HS W hB) hn).mono ?_
  rintro e w1 ⟨rfl, hb1, hc1⟩
  obtain ⟨g, hg⟩ : ∃ g, g = W.heap.size := ⟨_, rfl⟩
  rw [← hg] at hc1 ⊢
  have hgle : w.heap.size ≤ g := by omega
  have g4ne : g ≠ g4 := by omega
  have P4a := P4.step hb1
  have hb1' := hB.trans (hb1.mono hB.size)
  clear HS hg hg4 hs1 hb1 hB P4
  have hg1 := hc1.lt
  have hg41 := P4a.lt
  go_wp2_with fail
  refine (l16Sig_any hc1 hn).mono ?_
  rintro e w2 ⟨s, m, v, hs9, hm9, rfl, hD, h2, hc2⟩
  have hb2 := hb1'.grown h2 hb1'.size (fun k hk => by cases hk; exact hgle)
  have P4b := P4a.grown h2 (fun e => g4ne (Option.some.inj e))
  obtain ⟨lf, a1, n1, c1, a2, n2, c2, rfl⟩ := hD.open
  have hB1 : g < w1.heap.size ∧ g4 < w1.heap.size := ⟨hg1, hg41⟩
  obtain ⟨B, hBB⟩ : ∃ B, B = w1.heap.size := ⟨_, rfl⟩
  rw [← hBB] at hD hB1
  replace hD := hide hD
  clear hc1 hb1' h2 P4a hg1 hg41 hBB
  go_wp2_with fail
  obtain ⟨W2, hW, P8, hB2, hs2⟩ := one_cb w2 #[.int .i64 lf, .slice a1 n1 c1, .slice a2 n2 c2] 26
  rw [hW]
  clear hW
  have hc3 := hc2.below hB2 hc2.lt
  have hb3 := hb2.trans (hB2.mono hb2.size)
  have P4c := P4b.step hB2
  have r3 := hide ((unhide hD).below hB2)
  have g8ne : g ≠ w2.heap.size := by have := hc2.lt; omega
  have g48 : g4 ≠ w2.heap.size := by have := P4b.lt; omega
  obtain ⟨g8, hg8⟩ : ∃ x, x = w2.heap.size := ⟨_, rfl⟩
  rw [← hg8] at P8 g8ne g48 ⊢
  clear hc2 hb2 hB2 hs2 hD P4b hg8
  refine (l01Once_any hc3 hn 6 (by decide) (by decide)).mono ?_
  rintro e w3 ⟨b3, rfl, ho3, hc4⟩
  have hb4 := hb3.grown (gO ho3) hb3.size (fun k hk => by cases hk; exact hgle)
  have P4d := P4c.grown (gO ho3) (fun e => g4ne (Option.some.inj e))
  have P8d := P8.grown (gO ho3) (fun e => g8ne (Option.some.inj e))
  have r4 := hide ((unhide r3).grown (gO ho3) hB1.1)
  clear hc3 hb3 P4c P8 r3 ho3
  obtain ⟨m2, hm2, hmz⟩ : ∃ m2 : ByteArray, m2 = (if b3 = true then m ++ ⟨#[120]⟩ else m) ∧ m2.size ≤ 10 := by
    refine ⟨_, rfl, ?_⟩
    split
    · rw [ByteArray.size_append]; show m.size + 1 ≤ 10; omega
    · omega
  cases b3 with
  | true =>
    have e2 : m ++ ⟨#[120]⟩ = m2 := by rw [hm2]; rfl
    have hadd : ¬ 9223372036854775807 < m.size + 1 := by omega
    have hadd2 : m.size + 1 ≤ 9223372036854775807 := by omega
    clear hm2
    go_wp2_with fail
    refine (l01Once_any hc4 hn 8 (by decide) (by decide)).mono ?_
    rintro e w5 ⟨b5, rfl, ho5, hc5⟩
    have hb6 := hb4.grown (gO ho5) hb4.size (fun k hk => by cases hk; exact hgle)
    have P4e := P4d.grown (gO ho5) (fun e => g4ne (Option.some.inj e))
    have P8e := P8d.grown (gO ho5) (fun e => g8ne (Option.some.inj e))
    have r5 := hide ((unhide r4).grown (gO ho5) hB1.1)
    clear hc4 hb4 P4d P8d r4 ho5 hc5
    cases b5 with
    | true =>
      have p0 := P8e.cell 0 (v := .int .i64 lf) rfl
      have p1 := P8e.cell 1 (v := .slice a1 n1 c1) rfl
      have p2 := P8e.cell 2 (v := .slice a2 n2 c2) rfl
      have q0 := P4e.cell 0 (v := .int .i64 0) rfl
      have q1 := P4e.cell 1 (v := .slice none 0 0) rfl
      have q2 := P4e.cell 2 (v := .slice none 0 0) rfl
      have f0 := P4e.frozen 0
      have f1 := P4e.frozen 1
      have f2 := P4e.frozen 2
      go_wp2
      go_region
      go_wp2
      have hF := hide (fin16b hg4l (.int .i64 lf) (.slice a1 n1 c1) (.slice a2 n2 c2) P4e hb6)
      have hR := hide (((unhide r5).set3 hB1.2 (.int .i64 lf) (.slice a1 n1 c1) (.slice a2 n2 c2)).drew)
      exact bodyPost_ret (results_tt_cb (by exact Try.results8) _ _ _ _ _ _ rfl (show CB _ g4 26 #[.int .i64 lf, .slice a1 n1 c1, .slice a2 n2 c2] from (unhide hF).1) Try.underlying26 (by kernel_rfl)) rfl ⟨⟨#[97, 98, 99, 100]⟩, m2, _, by decide, hmz, rfl, (unhide hR).rd, (unhide hF).2.drew⟩
    | false =>
      have CP := hide (fun (W' : World) => specPublicOf_any s (by omega) W')
      have hpz := pubO_size s
      generalize pubO s = pb at *
      have KS := hide (fun (W' : World) (h : Below w5.heap.size w5 W') => (show (W'.cell? ⟨g8, 0, none⟩ = some (.int .i64 lf) ∧ W'.cell? ⟨g8, 1, none⟩ = some (.slice a1 n1 c1) ∧ W'.cell? ⟨g8, 2, none⟩ = some (.slice a2 n2 c2)) from ⟨(P8e.step h).cell 0 rfl, (P8e.step h).cell 1 rfl, (P8e.step h).cell 2 rfl⟩))
      have HT0 := (Below.refl w5.heap.size w5).drew
      go_wp2
      go_region_held3 (fun W => W.cell? ⟨g8, 0, none⟩ = some (.int .i64 lf) ∧ W.cell? ⟨g8, 1, none⟩ = some (.slice a1 n1 c1) ∧ W.cell? ⟨g8, 2, none⟩ = some (.slice a2 n2 c2)) (first | exact unhide KS _ HT0 | exact unhide KS _ hT1 | (refine ⟨?_, ?_, ?_⟩ <;> (rw [World.cell?_setCell_far _ _ _ _ g48, World.cell?_setCell_far _ _ _ _ g48, World.cell?_setCell_far _ _ _ _ g48]; first | exact (unhide KS _ hT1).1 | exact (unhide KS _ hT1).2.1 | exact (unhide KS _ hT1).2.2)) | fail) (first
        | (go_at_call 24; refine (unhide CP _).mono ?_; rintro e w7 ⟨rfl, hb7⟩; have hT1 := HT0.trans (hb7.mono HT0.size); have q0 := (P4e.step hT1).cell 0 (v := .int .i64 0) rfl; have q1 := (P4e.step hT1).cell 1 (v := .slice none 0 0) rfl; have q2 := (P4e.step hT1).cell 2 (v := .slice none 0 0) rfl; have f0 := (P4e.step hT1).frozen 0; have f1 := (P4e.step hT1).frozen 1; have f2 := (P4e.step hT1).frozen 2; clear hb7))
      all_goals
        clear q0 q1 q2 f0 f1 f2 KS HT0
        have hF := hide (fin16b hg4l (.int .i64 lf) (.slice a1 n1 c1) (.slice a2 n2 c2) (P4e.step hT1) (hb6.trans (hT1.mono hb6.size)))
        have hR := hide (((unhide r5).below hT1).set3 hB1.2 (.int .i64 lf) (.slice a1 n1 c1) (.slice a2 n2 c2))
        go_wp2
        exact bodyPost_ret (results_tt_cb (by exact Try.results8) _ _ _ _ _ _ rfl (show CB _ g4 26 #[.int .i64 lf, .slice a1 n1 c1, .slice a2 n2 c2] from (unhide hF).1) Try.underlying26 (by kernel_rfl)) rfl ⟨pb, m2, _, by omega, hmz, rfl, (unhide hR).rd, (unhide hF).2⟩
  | false =>
    have e2 : m = m2 := by rw [hm2]; rfl
    subst e2
    clear hm2
    go_wp2_with fail
    refine (l01Once_any hc4 hn 8 (by decide) (by decide)).mono ?_
    rintro e w5 ⟨b5, rfl, ho5, hc5⟩
    have hb6 := hb4.grown (gO ho5) hb4.size (fun k hk => by cases hk; exact hgle)
    have P4e := P4d.grown (gO ho5) (fun e => g4ne (Option.some.inj e))
    have P8e := P8d.grown (gO ho5) (fun e => g8ne (Option.some.inj e))
    have r5 := hide ((unhide r4).grown (gO ho5) hB1.1)
    clear hc4 hb4 P4d P8d r4 ho5 hc5
    cases b5 with
    | true =>
      have p0 := P8e.cell 0 (v := .int .i64 lf) rfl
      have p1 := P8e.cell 1 (v := .slice a1 n1 c1) rfl
      have p2 := P8e.cell 2 (v := .slice a2 n2 c2) rfl
      have q0 := P4e.cell 0 (v := .int .i64 0) rfl
      have q1 := P4e.cell 1 (v := .slice none 0 0) rfl
      have q2 := P4e.cell 2 (v := .slice none 0 0) rfl
      have f0 := P4e.frozen 0
      have f1 := P4e.frozen 1
      have f2 := P4e.frozen 2
      go_wp2
      go_region
      go_wp2
      have hF := hide (fin16b hg4l (.int .i64 lf) (.slice a1 n1 c1) (.slice a2 n2 c2) P4e hb6)
      have hR := hide (((unhide r5).set3 hB1.2 (.int .i64 lf) (.slice a1 n1 c1) (.slice a2 n2 c2)).drew)
      exact bodyPost_ret (results_tt_cb (by exact Try.results8) _ _ _ _ _ _ rfl (show CB _ g4 26 #[.int .i64 lf, .slice a1 n1 c1, .slice a2 n2 c2] from (unhide hF).1) Try.underlying26 (by kernel_rfl)) rfl ⟨⟨#[97, 98, 99, 100]⟩, m, _, by decide, hmz, rfl, (unhide hR).rd, (unhide hF).2.drew⟩
    | false =>
      have CP := hide (fun (W' : World) => specPublicOf_any s (by omega) W')
      have hpz := pubO_size s
      generalize pubO s = pb at *
      have KS := hide (fun (W' : World) (h : Below w5.heap.size w5 W') => (show (W'.cell? ⟨g8, 0, none⟩ = some (.int .i64 lf) ∧ W'.cell? ⟨g8, 1, none⟩ = some (.slice a1 n1 c1) ∧ W'.cell? ⟨g8, 2, none⟩ = some (.slice a2 n2 c2)) from ⟨(P8e.step h).cell 0 rfl, (P8e.step h).cell 1 rfl, (P8e.step h).cell 2 rfl⟩))
      have HT0 := (Below.refl w5.heap.size w5).drew
      go_wp2
      go_region_held3 (fun W => W.cell? ⟨g8, 0, none⟩ = some (.int .i64 lf) ∧ W.cell? ⟨g8, 1, none⟩ = some (.slice a1 n1 c1) ∧ W.cell? ⟨g8, 2, none⟩ = some (.slice a2 n2 c2)) (first | exact unhide KS _ HT0 | exact unhide KS _ hT1 | (refine ⟨?_, ?_, ?_⟩ <;> (rw [World.cell?_setCell_far _ _ _ _ g48, World.cell?_setCell_far _ _ _ _ g48, World.cell?_setCell_far _ _ _ _ g48]; first | exact (unhide KS _ hT1).1 | exact (unhide KS _ hT1).2.1 | exact (unhide KS _ hT1).2.2)) | fail) (first
        | (go_at_call 24; refine (unhide CP _).mono ?_; rintro e w7 ⟨rfl, hb7⟩; have hT1 := HT0.trans (hb7.mono HT0.size); have q0 := (P4e.step hT1).cell 0 (v := .int .i64 0) rfl; have q1 := (P4e.step hT1).cell 1 (v := .slice none 0 0) rfl; have q2 := (P4e.step hT1).cell 2 (v := .slice none 0 0) rfl; have f0 := (P4e.step hT1).frozen 0; have f1 := (P4e.step hT1).frozen 1; have f2 := (P4e.step hT1).frozen 2; clear hb7))
      all_goals
        clear q0 q1 q2 f0 f1 f2 KS HT0
        have hF := hide (fin16b hg4l (.int .i64 lf) (.slice a1 n1 c1) (.slice a2 n2 c2) (P4e.step hT1) (hb6.trans (hT1.mono hb6.size)))
        have hR := hide (((unhide r5).below hT1).set3 hB1.2 (.int .i64 lf) (.slice a1 n1 c1) (.slice a2 n2 c2))
        go_wp2
        exact bodyPost_ret (results_tt_cb (by exact Try.results8) _ _ _ _ _ _ rfl (show CB _ g4 26 #[.int .i64 lf, .slice a1 n1 c1, .slice a2 n2 c2] from (unhide hF).1) Try.underlying26 (by kernel_rfl)) rfl ⟨pb, m, _, by omega, hmz, rfl, (unhide hR).rd, (unhide hF).2⟩
end Go.Proofs.Ytjgnjjphankhnaa

/- Trees of trees by the given model: public texts, what is checked, indexes, over the loaded program. -/
namespace Go.Proofs.Ytjgnjjphankhnaa
open Go.RowKit
set_option maxRecDepth 20000 in
set_option maxHeartbeats 400000 in
theorem specLow_any (s : ByteArray) (p : Int) (hs : s.size ≤ 1048576) (w : World) :
    Calls Try.prog 94 #[.string s, .int .i64 p] w fun e w' => e = .returned (.string (lowB s p)) ∧ Below w.heap.size w w' := by
  have CB0 := hide (fun W => specByteY_any p W)
  have HE := hide (show s ++ oneY p ++ ⟨#[108]⟩ = lowB s p from rfl)
  have za := oneY_size p
  generalize oneY p = y at *
  have h1 : ¬ 9223372036854775807 < s.size + y.size := by omega
  have h2 : ¬ 9223372036854775807 < (s ++ y).size + 1 := by rw [ByteArray.size_append]; omega
  have h3 : (s ++ y).size + 1 ≤ 9223372036854775807 := by rw [ByteArray.size_append]; omega
  have h4 : s.size + y.size ≤ 9223372036854775807 := by omega
  have h5 : (s ++ y).size = s.size + y.size := ByteArray.size_append
  replace za := hide za
  go_enter Try.func94, Try.ntmps94
  go_wp2_with fail
  refine (unhide CB0 w).mono ?_
  rintro e w1 ⟨rfl, hb1⟩
  clear CB0
  go_wp2
  go_ret
  exact ⟨by rw [← unhide HE]; rfl, hb1⟩
def shHy (h : Hy) : Prop := (h.top.once.length ≤ 2000000 ∧ h.top.path.length ≤ 2000000) ∧ h.low.once.length ≤ 2000000 ∧ h.low.path.length ≤ 2000000
set_option maxRecDepth 20000 in
set_option maxHeartbeats 800000 in
theorem specHyperIndex_any (h : Hy) (v : Value) (w : World) (hr : RdHy w v h) (hn : shHy h) :
    Calls Try.prog 23 #[v] w fun e w' => e = .returned (.int .i64 (hidx h)) ∧ Below w.heap.size w w' := by
  obtain ⟨a1, m1, c1, a2, m2, c2, a3, m3, c3, a4, m4, c4, rfl⟩ := hr.open
  obtain ⟨p1, p2⟩ := hr.parts
  have C1 := hide (fun (W : World) (hb : Below w.heap.size w W) => specSigOk_any h.top _ W (p1.below hb) hn.1.1 hn.1.2)
  have C2 := hide (fun (W : World) (hb : Below w.heap.size w W) => specSigOk_any h.low _ W (p2.below hb) hn.2.1 hn.2.2)
  cases o1 : sgOk h.top with
  | true =>
    rw [o1] at C1
    cases o2 : sgOk h.low with
    | true =>
      rw [o2] at C2
      have HE := hide (show hidx h = 4 * h.top.leaf + h.low.leaf by unfold hidx bothSg; rw [o1, o2]; rfl)
      rw [unhide HE]
      have q1 := (sgOk_shape o1).1
      have q2 := (sgOk_shape o2).1
      generalize h.top.leaf = lt at *
      generalize h.low.leaf = ll at *
      obtain ⟨x, hx⟩ : ∃ x : Int, x = 4 * lt := ⟨_, rfl⟩
      obtain ⟨y, hy⟩ : ∃ y : Int, y = 4 * lt + ll := ⟨_, rfl⟩
      have t1 : IntKind.i64.wrap (4 * lt) = x := by rw [IntKind.wrap_i64]; omega
      have t2 : IntKind.i64.wrap (x + ll) = y := by rw [IntKind.wrap_i64]; omega
      rw [← hy]
      replace hx := hide hx; replace hy := hide hy
      clear hr p1 p2 hn HE o1 o2 q1 q2
      go_enter Try.func23, Try.ntmps23
      go_wp2_with fail
      obtain ⟨W, hW, hP, hB, hs⟩ := one_cb w #[.int .i64 lt, .slice a1 m1 c1, .slice a2 m2 c2, .string h.root, .int .i64 ll, .slice a3 m3 c3, .slice a4 m4 c4] 37
      rw [hW]
      clear hW
      refine (unhide C1 W hB).mono ?_
      rintro e w1 ⟨rfl, hb1⟩
      have T1 := hB.trans (hb1.mono hB.size)
      have hP1 := hP.step hb1
      have x4 := hP1.cell 4 (v := .int .i64 ll) rfl
      have x5 := hP1.cell 5 (v := .slice a3 m3 c3) rfl
      have x6 := hP1.cell 6 (v := .slice a4 m4 c4) rfl
      clear hb1 hB hP C1
      go_wp2_with fail
      refine (unhide C2 w1 T1).mono ?_
      rintro e w2 ⟨rfl, hb2⟩
      have T2 := T1.trans (hb2.mono T1.size)
      have hP2 := hP1.step hb2
      have x0 := hP2.cell 0 (v := .int .i64 lt) rfl
      have x4 := hP2.cell 4 (v := .int .i64 ll) rfl
      clear hb2 T1 hP1 C2 x5 x6
      go_wp2
      go_ret
      exact ⟨rfl, T2⟩
    | false =>
      rw [o2] at C2
      have HE := hide (show hidx h = -1 by unfold hidx bothSg; rw [o1, o2]; rfl)
      rw [unhide HE]
      clear hr p1 p2 hn HE o1 o2
      go_enter Try.func23, Try.ntmps23
      go_wp2_with fail
      obtain ⟨W, hW, hP, hB, hs⟩ := one_cb w #[.int .i64 h.top.leaf, .slice a1 m1 c1, .slice a2 m2 c2, .string h.root, .int .i64 h.low.leaf, .slice a3 m3 c3, .slice a4 m4 c4] 37
      rw [hW]
      clear hW
      refine (unhide C1 W hB).mono ?_
      rintro e w1 ⟨rfl, hb1⟩
      have T1 := hB.trans (hb1.mono hB.size)
      have hP1 := hP.step hb1
      have x4 := hP1.cell 4 (v := .int .i64 h.low.leaf) rfl
      have x5 := hP1.cell 5 (v := .slice a3 m3 c3) rfl
      have x6 := hP1.cell 6 (v := .slice a4 m4 c4) rfl
      clear hb1 hB hP C1
      go_wp2_with fail
      refine (unhide C2 w1 T1).mono ?_
      rintro e w2 ⟨rfl, hb2⟩
      have T2 := T1.trans (hb2.mono T1.size)
      clear hb2 T1 hP1 C2 x4 x5 x6
      go_wp2
      go_ret
      exact ⟨rfl, T2⟩
  | false =>
    rw [o1] at C1
    have HE := hide (show hidx h = -1 by unfold hidx bothSg; rw [o1]; rfl)
    rw [unhide HE]
    clear hr p1 p2 hn HE o1 C2
    go_enter Try.func23, Try.ntmps23
    go_wp2_with fail
    obtain ⟨W, hW, hP, hB, hs⟩ := one_cb w #[.int .i64 h.top.leaf, .slice a1 m1 c1, .slice a2 m2 c2, .string h.root, .int .i64 h.low.leaf, .slice a3 m3 c3, .slice a4 m4 c4] 37
    rw [hW]
    clear hW
    refine (unhide C1 W hB).mono ?_
    rintro e w1 ⟨rfl, hb1⟩
    have T1 := hB.trans (hb1.mono hB.size)
    clear hb1 hB hP C1
    go_wp2
    go_ret
    exact ⟨rfl, T1⟩
end Go.Proofs.Ytjgnjjphankhnaa

/- Trees of trees by the given model: signatures, over the loaded program. -/
namespace Go.Proofs.Ytjgnjjphankhnaa
open Go.RowKit
set_option maxRecDepth 20000 in
set_option maxHeartbeats 1600000 in
theorem specHyperSign_any (s : ByteArray) (i : Int) (m : ByteArray) (hs : s.size ≤ 1048576) (hm : m.size ≤ 1048576) (w : World) :
    Calls Try.prog 76 #[.string s, .int .i64 i, .string m] w fun e w' => (∃ v, e = .returned (.tuple #[v, .bool (decide (0 ≤ i ∧ i ≤ 15))]) ∧ OwnHy w' w.heap.size v (hsgnS s i m)) ∧ Below w.heap.size w w' := by
  have C0 := hide (fun W => inb9 i 0 15 W)
  by_cases h : 0 ≤ i ∧ i ≤ 15
  · obtain ⟨q, hq⟩ : ∃ q : Int, q = i / 4 := ⟨_, rfl⟩
    obtain ⟨r, hr⟩ : ∃ r : Int, r = i % 4 := ⟨_, rfl⟩
    have t1 : i.tdiv 4 = q := by rw [Int.tdiv_eq_ediv_of_nonneg h.1]; omega
    have t1' : i / 4 = q := hq.symm
    have t2 : i.tmod 4 = r := by rw [Int.tmod_eq_emod_of_nonneg h.1]; omega
    have t2' : i % 4 = r := hr.symm
    have t3 : IntKind.i64.wrap q = q := by rw [IntKind.wrap_i64]; omega
    have t4 : IntKind.i64.wrap r = r := by rw [IntKind.wrap_i64]; omega
    have hq3 : 0 ≤ q ∧ q ≤ 3 := by omega
    have hr3 : 0 ≤ r ∧ r ≤ 3 := by omega
    have hlz : (lowB s q).size ≤ 2000000 := by unfold lowB; rw [ByteArray.size_append, ByteArray.size_append, oneY_size]; show s.size + 1 + 1 ≤ _; omega
    have htz : (topB s).size ≤ 2000000 := by unfold topB; rw [ByteArray.size_append]; show s.size + 1 ≤ _; omega
    have hrz : (pubO (lowB s q)).size ≤ 1048576 := by rw [pubO_four]; omega
    have C1 := hide (fun W => specLow_any s q hs W)
    have C2 := hide (fun W => specPublicOf_any (lowB s q) hlz W)
    have C3 := hide (fun W => specSignAt_any (lowB s q) r m hlz hm W)
    have C4 := hide (fun W => specSignAt_any (topB s) q (pubO (lowB s q)) htz hrz W)
    rw [decide_eq_true hr3] at C3
    rw [decide_eq_true hq3] at C4
    have ES := hide (show hsgnS s i m = ⟨sgnS (topB s) q (pubO (lowB s q)), pubO (lowB s q), sgnS (lowB s q) r m⟩ by rw [hsgn_is h, hq, hr])
    rw [unhide ES, decide_eq_true h]
    rw [decide_eq_true h] at C0
    have ET := hide (show s ++ ⟨#[116]⟩ = topB s from rfl)
    rw [← unhide ET] at C4 ⊢
    have h1 : ¬ 9223372036854775807 < s.size + 1 := by omega
    have h2 : s.size + 1 ≤ 9223372036854775807 := by omega
    have hl1 := sgnS_leaf (lowB s q) r m hr3
    have hl2 := sgnS_leaf (s ++ ⟨#[116]⟩) q (pubO (lowB s q)) hq3
    generalize sgnS (s ++ ⟨#[116]⟩) q (pubO (lowB s q)) = ST at *
    generalize sgnS (lowB s q) r m = SL at *
    generalize pubO (lowB s q) = ro at *
    generalize lowB s q = lo at *
    replace hq := hide hq; replace hr := hide hr
    clear ES h hq3 hr3 hlz htz hrz ET
    go_enter Try.func76, Try.ntmps76
    go_wp2_with fail
    obtain ⟨W, hW, hR, hB, hs1⟩ := one_cb w #[.int .i64 0, .slice none 0 0, .slice none 0 0, .string ⟨#[]⟩, .int .i64 0, .slice none 0 0, .slice none 0 0] 37
    rw [hW]
    clear hW
    refine (unhide C0 W).mono ?_
    rintro e w1 ⟨rfl, hw1⟩
    have hw2 := hw1.symm
    subst hw2
    clear hw1 C0
    go_wp2_with fail
    refine (unhide C1 W).mono ?_
    rintro e w2 ⟨rfl, hb2⟩
    have T2 := hB.trans (hb2.mono hB.size)
    have hR2 := hR.step hb2
    clear hb2 hB hR C1
    go_wp2_with fail
    refine (unhide C2 w2).mono ?_
    rintro e w3 ⟨rfl, hb3⟩
    have T3 := T2.trans (hb3.mono T2.size)
    have hR3 := hR2.step hb3
    clear hb3 T2 hR2 C2
    go_wp2_with fail
    obtain ⟨W3, hW, hO, hB3, hs3⟩ := one_cb w3 #[.int .i64 0, .slice none 0 0, .slice none 0 0, .string ro, .int .i64 0, .slice none 0 0, .slice none 0 0] 37
    rw [hW]
    clear hW
    have T4 := T3.trans (hB3.mono T3.size)
    have hR4 := hR3.step hB3
    have g69 : w.heap.size ≠ w3.heap.size := by have := hR3.lt; omega
    have hlo9 : w.heap.size ≤ w3.heap.size := T3.size
    obtain ⟨g9, hg9⟩ : ∃ x, x = w3.heap.size := ⟨_, rfl⟩
    rw [← hg9] at hO g69 hlo9 ⊢
    clear T3 hR3 hB3 hs3 hg9
    refine (unhide C3 W3).mono ?_
    rintro e w5 ⟨⟨v5, rfl, o5⟩, hb5⟩
    obtain ⟨b3, k3, e3, b4, k4, e4, rfl⟩ := o5.open
    rw [hl1] at o5 ⊢
    have T5 := T4.trans (hb5.mono T4.size)
    have hR5 := hR4.step hb5
    have hO5 := hO.step hb5
    have of5 := hide (OwnSg.offs (lf := r) o5 hO5 (by decide))
    have lo5 := hide (OwnSg.bounds (lf := r) o5)
    have y4 := hO5.cell 4 (v := .int .i64 0) rfl
    have y5 := hO5.cell 5 (v := .slice none 0 0) rfl
    have y6 := hO5.cell 6 (v := .slice none 0 0) rfl
    have y3 := hO5.cell 3 (v := .string ro) rfl
    have f4 := hO5.frozen 4
    have f5 := hO5.frozen 5
    have f6 := hO5.frozen 6
    have G6 := gSet (gSet (gSet (gR9 w5 (some g9)) 4 (.int .i64 r)) 5 (.slice b3 k3 e3)) 6 (.slice b4 k4 e4)
    have T6 := hide (T5.grown G6 T5.size (fun k hk => by cases hk; exact hlo9))
    have hR6 := hide (hR5.grown G6 (fun e => g69 (Option.some.inj e).symm))
    have hO6 := hide (((hO5.set 4 (.int .i64 r)).set 5 (.slice b3 k3 e3)).set 6 (.slice b4 k4 e4))
    have o6 := hide (OwnSg.grownO (lf := r) o5 G6 (unhide of5).1 (unhide of5).2)
    have hs56 := G6.size
    have hsT4 := T4.size
    replace o5 := hide o5
    clear hb5 T4 hR4 hO hR5 hO5 C3 of5 T5 G6
    go_wp2_with fail
    generalize ((w5.setCell ⟨g9, 4, none⟩ (.int .i64 r)).setCell ⟨g9, 5, none⟩ (.slice b3 k3 e3)).setCell ⟨g9, 6, none⟩ (.slice b4 k4 e4) = W6 at *
    refine (unhide C4 W6).mono ?_
    rintro e w7 ⟨⟨v7, rfl, o7⟩, hb7⟩
    obtain ⟨b1, k1, e1, b2, k2, e2, rfl⟩ := o7.open
    rw [hl2] at o7 ⊢
    have T7 := (unhide T6).trans (hb7.mono (unhide T6).size)
    have hR7 := (unhide hR6).step hb7
    have hO7 := (unhide hO6).step hb7
    have o8 := hide ((unhide o6).below hb7)
    have ap := hide (show ∀ k, ((Value.slice b1 k1 e1).ownBlock = some k ∨ (Value.slice b2 k2 e2).ownBlock = some k) → (Value.slice b3 k3 e3).ownBlock ≠ some k ∧ (Value.slice b4 k4 e4).ownBlock ≠ some k from fun k hk => by
      have h1 := (OwnSg.bounds (lf := q) o7 k hk).1
      exact ⟨fun e => by have h2 := (unhide lo5 k (.inl e)).2; omega, fun e => by have h2 := (unhide lo5 k (.inr e)).2; omega⟩)
    have of7 := hide (OwnSg.offs (lf := q) o7 hO7 (by decide))
    have of7r := hide (OwnSg.offs (lf := q) o7 hR7 (by decide))
    have of8 := hide (OwnSg.offs (lf := r) (unhide o8) hO7 (by decide))
    have of8r := hide (OwnSg.offs (lf := r) (unhide o8) hR7 (by decide))
    have y0 := hO7.cell 0 (v := .int .i64 0) rfl
    have y1 := hO7.cell 1 (v := .slice none 0 0) rfl
    have y2 := hO7.cell 2 (v := .slice none 0 0) rfl
    have y3 := hO7.cell 3 (v := .string ro) rfl
    have y4 := hO7.cell 4 (v := .int .i64 r) rfl
    have y5 := hO7.cell 5 (v := .slice b3 k3 e3) rfl
    have y6 := hO7.cell 6 (v := .slice b4 k4 e4) rfl
    have f0 := hO7.frozen 0
    have f1 := hO7.frozen 1
    have f2 := hO7.frozen 2
    have G8 := gSet (gSet (gSet (gR9 w7 (some g9)) 0 (.int .i64 q)) 1 (.slice b1 k1 e1)) 2 (.slice b2 k2 e2)
    have hR8 := hide (hR7.grown G8 (fun e => g69 (Option.some.inj e).symm))
    have T8 := hide (T7.grown G8 T7.size (fun k hk => by cases hk; exact hlo9))
    have o9 := hide (OwnSg.grownO (lf := q) o7 G8 (unhide of7).1 (unhide of7).2)
    have o10 := hide (OwnSg.grownO (lf := r) (unhide o8) G8 (unhide of8).1 (unhide of8).2)
    have r0 := hR7.cell 0 (v := .int .i64 0) rfl
    have r1 := hR7.cell 1 (v := .slice none 0 0) rfl
    have r2 := hR7.cell 2 (v := .slice none 0 0) rfl
    have r3 := hR7.cell 3 (v := .string ⟨#[]⟩) rfl
    have r4 := hR7.cell 4 (v := .int .i64 0) rfl
    have r5 := hR7.cell 5 (v := .slice none 0 0) rfl
    have r6 := hR7.cell 6 (v := .slice none 0 0) rfl
    have z0 := hR7.frozen 0
    have z1 := hR7.frozen 1
    have z2 := hR7.frozen 2
    have z3 := hR7.frozen 3
    have z4 := hR7.frozen 4
    have z5 := hR7.frozen 5
    have z6 := hR7.frozen 6
    have hs7 := T7.size
    have hs6 := hide (unhide T6).size
    replace o7 := hide o7
    clear hb7 T6 hR6 hO6 o6 C4 hO7 hR7 T7 G8 lo5 of7 of8 f4 f5 f6
    go_wp2
    have G9 := gSet (gSet (gSet (gSet (gSet (gSet (gSet (gR9 (((w7.setCell ⟨g9, 0, none⟩ (.int .i64 q)).setCell ⟨g9, 1, none⟩ (.slice b1 k1 e1)).setCell ⟨g9, 2, none⟩ (.slice b2 k2 e2)) (some w.heap.size)) 0 (.int .i64 q)) 1 (.slice b1 k1 e1)) 2 (.slice b2 k2 e2)) 3 (.string ro)) 4 (.int .i64 r)) 5 (.slice b3 k3 e3)) 6 (.slice b4 k4 e4)
    have hF := hide ((((((((unhide hR8).set 0 (.int .i64 q)).set 1 (.slice b1 k1 e1)).set 2 (.slice b2 k2 e2)).set 3 (.string ro)).set 4 (.int .i64 r)).set 5 (.slice b3 k3 e3)).set 6 (.slice b4 k4 e4))
    have o11 := hide (OwnSg.grownO (lf := q) (unhide o9) G9 (unhide of7r).1 (unhide of7r).2)
    have o12 := hide (OwnSg.grownO (lf := r) (unhide o10) G9 (unhide of8r).1 (unhide of8r).2)
    have T9 := hide ((unhide T8).grown G9 (unhide T8).size (fun k hk => by cases hk; exact Nat.le_refl _))
    refine bodyPost_ret (results_cb_tmp (by exact Try.results76) _ _ _ _ _ _ rfl (unhide hF) Try.underlying37 (by kernel_rfl)) rfl ⟨⟨_, rfl, _, _, _, _, by show _ = hyv ST.leaf _ _ _ SL.leaf _ _; rw [hl1, hl2]; rfl, ?_, ?_, unhide ap⟩, unhide T9⟩
    · show OwnSg _ _ (sgv ST.leaf _ _) ST
      rw [hl2]
      exact (unhide o11).low (unhide hs6)
    · show OwnSg _ _ (sgv SL.leaf _ _) SL
      rw [hl1]
      exact (unhide o12).low hsT4
  · have ES := hide (show hsgnS s i m = ⟨noSg, ⟨#[]⟩, noSg⟩ by unfold hsgnS; rw [if_neg h])
    rw [unhide ES, decide_eq_false h]
    rw [decide_eq_false h] at C0
    clear ES h
    go_enter Try.func76, Try.ntmps76
    go_wp2_with fail
    obtain ⟨W, hW, hR, hB, hs1⟩ := one_cb w #[.int .i64 0, .slice none 0 0, .slice none 0 0, .string ⟨#[]⟩, .int .i64 0, .slice none 0 0, .slice none 0 0] 37
    rw [hW]
    clear hW
    refine (unhide C0 W).mono ?_
    rintro e w1 ⟨rfl, hw1⟩
    have hw2 := hw1.symm
    subst hw2
    clear hw1 C0
    have r0 := hR.cell 0 (v := .int .i64 0) rfl
    have r1 := hR.cell 1 (v := .slice none 0 0) rfl
    have r2 := hR.cell 2 (v := .slice none 0 0) rfl
    have r3 := hR.cell 3 (v := .string ⟨#[]⟩) rfl
    have r4 := hR.cell 4 (v := .int .i64 0) rfl
    have r5 := hR.cell 5 (v := .slice none 0 0) rfl
    have r6 := hR.cell 6 (v := .slice none 0 0) rfl
    have z0 := hR.frozen 0
    have z1 := hR.frozen 1
    have z2 := hR.frozen 2
    have z3 := hR.frozen 3
    have z4 := hR.frozen 4
    have z5 := hR.frozen 5
    have z6 := hR.frozen 6
    go_wp2
    have G9 := gSet (gSet (gSet (gSet (gSet (gSet (gSet (gR9 W (some w.heap.size)) 0 (.int .i64 0)) 1 (.slice none 0 0)) 2 (.slice none 0 0)) 3 (.string ⟨#[]⟩)) 4 (.int .i64 0)) 5 (.slice none 0 0)) 6 (.slice none 0 0)
    have hF := hide (((((((hR.set 0 (.int .i64 0)).set 1 (.slice none 0 0)).set 2 (.slice none 0 0)).set 3 (.string ⟨#[]⟩)).set 4 (.int .i64 0)).set 5 (.slice none 0 0)).set 6 (.slice none 0 0))
    have T9 := hide (hB.grown G9 hB.size (fun k hk => by cases hk; exact Nat.le_refl _))
    exact bodyPost_ret (results_cb_tmp (by exact Try.results76) _ _ _ _ _ _ rfl (unhide hF) Try.underlying37 (by kernel_rfl)) rfl ⟨⟨_, rfl, _, _, _, _, rfl, ⟨_, _, rfl, OwnV.nil _ _ _, OwnV.nil _ _ _, fun k hk => by cases hk⟩, ⟨_, _, rfl, OwnV.nil _ _ _, OwnV.nil _ _ _, fun k hk => by cases hk⟩, fun k hk => by rcases hk with hk | hk <;> cases hk⟩, unhide T9⟩
end Go.Proofs.Ytjgnjjphankhnaa

