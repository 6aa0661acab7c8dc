/- Merged: Tre1, Tre2, Dpt, Cbx, ChI1, TrI1, TrI2, TrI3, TrI4. -/
import Derived.Test.YtljjajbkaffofauMga1
import Derived.Test.YtljjajbkaffofauMga2
import Derived.Test.YtljjajbkaffofauMga3
import Derived.Test.YtljjajbkaffofauMga4
import Derived.Test.YtljjajbkaffofauMga5
import Derived.Test.YtljjajbkaffofauMga6
import Derived.Laws.Rows
import Derived.Laws.ResultCell
import Derived.Deep.RegionHeld3
/- Trees by the given model: nodes and levels, over the loaded program. -/
namespace Go.Proofs.Ytljjajbkaffofau
open Go.RowKit
theorem bAt_getT (l : List ByteArray) (k : Nat) (h : k < l.length) : (l.map sv)[k]? = some (.string (bAt l k)) := by
  rw [sv_get l k h]
  unfold bAt
  rw [List.getD_eq_getElem?_getD, List.getElem?_eq_getElem h]
  rfl
theorem bAt_sizeT (l : List ByteArray) (k n : Nat) (hn : ∀ x ∈ l, x.size ≤ n) : (bAt l k).size ≤ n := by
  unfold bAt
  rw [List.getD_eq_getElem?_getD]
  cases h : l[k]? with
  | none => exact Nat.zero_le _
  | some x => exact hn x (List.mem_of_getElem? h)
def preT (f : Nat → ByteArray) (k : Nat) : List ByteArray := (List.range k).map f
theorem preT_len (f : Nat → ByteArray) (k : Nat) : (preT f k).length = k := by unfold preT; rw [List.length_map, List.length_range]
theorem preT_succ (f : Nat → ByteArray) (k : Nat) : preT f (k + 1) = preT f k ++ [f k] := by unfold preT; rw [List.range_succ, List.map_append]; rfl
set_option maxRecDepth 20000 in
set_option maxHeartbeats 800000 in
theorem specNode_any (level place : Int) (a b : ByteArray) (ha : a.size ≤ 1048576) (hb : b.size ≤ 1048576) (w : World) :
    Calls Try.prog 20 #[.int .i64 level, .int .i64 place, .string a, .string b] w fun e w' => e = .returned (.string (nodeB level place a b)) ∧ Below w.heap.size w w' := by
  have CB := hide (fun z W => specByteY_any z W)
  have CC := hide (fun W => specChop_any (oneY level ++ oneY place ++ a ++ b ++ ⟨#[110]⟩) (by rw [ByteArray.size_append, ByteArray.size_append, ByteArray.size_append, ByteArray.size_append, oneY_size, oneY_size]; show 1 + 1 + a.size + b.size + 1 ≤ _; omega) W)
  have HN := hide (show chopB (oneY level ++ oneY place ++ a ++ b ++ ⟨#[110]⟩) = nodeB level place a b from rfl)
  rw [unhide HN] at CC
  have za := oneY_size level
  have zb := oneY_size place
  have c1 := hide (unhide CB level)
  have c2 := hide (unhide CB place)
  generalize nodeB level place a b = R at *
  generalize oneY level = ya at *
  generalize oneY place = yb at *
  have za' : ya.size ≤ 1 := by omega
  have zb' : yb.size ≤ 1 := by omega
  replace za := hide za; replace zb := hide zb
  clear CB HN
  go_enter Try.func20, Try.ntmps20
  go_wp2_with fail
  refine (unhide c1 w).mono ?_
  rintro e w1 ⟨rfl, hb1⟩
  go_wp2_with fail
  refine (unhide c2 w1).mono ?_
  rintro e w2 ⟨rfl, hb2⟩
  have hB2 := hb1.trans (hb2.mono hb1.size)
  go_wp2_with fail
  refine (unhide CC w2).mono ?_
  rintro e w3 ⟨rfl, hb3⟩
  have hB3 := hB2.trans (hb3.mono hB2.size)
  go_wp2
  go_ret
  exact ⟨rfl, hB3⟩
set_option maxRecDepth 20000 in
set_option maxHeartbeats 800000 in
theorem specLevelUp_any (level : Int) (l : List ByteArray) (v : Value) (w : World) (hr : RdV w v (l.map sv)) (hl : ∀ x ∈ l, x.size ≤ 1048576) (hn : l.length ≤ 1048576) :
    Calls Try.prog 22 #[.int .i64 level, v] w fun e w' => (∃ v', e = .returned v' ∧ OwnV w' w.heap.size 9 v' ((lvL level l).map sv)) ∧ Below w.heap.size w w' := by
  obtain ⟨i0, hi, hz0, hz1, hz2⟩ := info_parts infoTxt
  obtain ⟨a, c, rfl, hc⟩ := hr.open
  rw [List.length_map]
  clear hr
  obtain ⟨n, hnn⟩ : ∃ n, l.length = n := ⟨_, rfl⟩
  obtain ⟨h, hh⟩ : ∃ h, h = n / 2 := ⟨_, rfl⟩
  have EL := hide (show lvL level l = preT (lvN level l) h by rw [hh, ← hnn]; rfl)
  rw [unhide EL]
  have CN := hide (show ∀ (k : Nat) W, Calls Try.prog 20 #[.int .i64 level, .int .i64 (k : Int), .string (bAt l (2 * k)), .string (bAt l (2 * k + 1))] W fun e w' => e = .returned (.string (lvN level l k)) ∧ Below W.heap.size W w' from fun k W => specNode_any level (k : Int) _ _ (bAt_sizeT l _ _ hl) (bAt_sizeT l _ _ hl) W)
  have HC := hide (fun k (hk : k < n) => hc k _ (bAt_getT l k (by rw [hnn]; exact hk)))
  rw [hnn] at hn ⊢
  generalize lvN level l = F at *
  replace hnn := hide hnn
  have hh2 := hide (show 2 * h ≤ n ∧ n ≤ 2 * h + 1 by omega)
  have hhb : h ≤ 1048576 := by omega
  replace hh := hide hh
  clear EL hc
  have ho0 : OwnV (w.alloc (.cells #[] 9)) w.heap.size 9 (.slice (some ⟨w.heap.size, 0, none⟩) 0 0) ((preT F 0).map sv) := World.ownsRow_made w #[] 0 (Nat.le_refl _) (by decide) (by simp)
  replace ho0 := hide ho0
  have hb0 := (Below.refl w.heap.size w).alloc (Nat.le_refl _) (.cells #[] 9)
  go_enter Try.func22, Try.ntmps22
  go_wp2
  go_loopw [5, 6] (fun tv ti wr => ∃ k : Nat, k ≤ h ∧ ti = .int .i64 (k : Int) ∧ Hid (OwnV wr w.heap.size 9 tv ((preT F k).map sv)) ∧ Below w.heap.size w wr) (fun _ ti _ => h - (intOf ti).toNat)
  case atStart => exact ⟨0, by omega, rfl, ho0, hb0⟩
  case round =>
    clear ho0 hb0
    obtain ⟨k, hk, rfl, HO, hB⟩ := hrel
    have hkb : k ≤ 1048576 := by omega
    have hsz := hB.size
    by_cases hlt : k < h
    · obtain ⟨p, hp⟩ : ∃ p, p = 2 * k := ⟨_, rfl⟩
      obtain ⟨q, hq⟩ : ∃ q, q = 2 * k + 1 := ⟨_, rfl⟩
      have hqn : q < n := by have := (unhide hh2).1; omega
      have hk' : (q : Int) < (n : Int) := by omega
      have hk2 : (p : Int) < (n : Int) := by omega
      have hk0 : (0 : Int) ≤ (p : Int) := by omega
      have hk1 : (0 : Int) ≤ (q : Int) := by omega
      have e1 : 2 * (k : Int) = (p : Int) := by omega
      have e2 : (p : Int) + 1 = (q : Int) := by omega
      have w1 : IntKind.i64.wrap (2 * (k : Int)) = (p : Int) := by rw [IntKind.wrap_i64]; omega
      have w2 : IntKind.i64.wrap ((p : Int) + 1) = (q : Int) := by rw [IntKind.wrap_i64]; omega
      have w3 : IntKind.i64.wrap (p : Int) = (p : Int) := by rw [IntKind.wrap_i64]; omega
      have w4 : IntKind.i64.wrap (q : Int) = (q : Int) := by rw [IntKind.wrap_i64]; omega
      obtain ⟨g, o, rfl, hg, d1⟩ := unhide HC p (by omega)
      obtain ⟨g', o', he, hg', d1'⟩ := unhide HC q (by omega)
      obtain ⟨rfl, rfl, _⟩ := Addr.mk.inj (Option.some.inj he)
      have c0 := hide (unhide CN k)
      rw [← hq, ← hp] at c0
      have KS := hide (fun (W : World) (h : Below w.heap.size w W) => (⟨(h.cell (p := ⟨g, o + p, none⟩) hg).trans d1, (h.cell (p := ⟨g, o + q, none⟩) hg).trans d1'⟩ : W.cell? ⟨g, o + p, none⟩ = some (.string (bAt l p)) ∧ W.cell? ⟨g, o + q, none⟩ = some (.string (bAt l q))))
      obtain ⟨d2, d3⟩ := unhide KS _ hB
      replace hp := hide hp; replace hq := hide hq
      have HP := hide (preT_succ F k)
      have hl1 : ((preT F k).map sv).length + 1 ≤ maxLen := by rw [List.length_map, preT_len]; unfold maxLen; omega
      have hl2 : (((preT F k).map sv).length + 1) * 16 ≤ 140737488355328 := by rw [List.length_map, preT_len]; omega
      generalize bAt l p = xa at *
      generalize bAt l q = xb at *
      generalize F k = fk at *
      replace hl1 := hide hl1; replace hl2 := hide hl2
      clear HC CN d1 d1' he
      go_wp2
      go_region_held3 (fun W => W.cell? ⟨g, o + p, none⟩ = some (.string xa) ∧ W.cell? ⟨g, o + q, none⟩ = some (.string xb)) (first | exact ⟨d2, d3⟩ | exact (unhide KS) _ hB5 | exact (unhide KS) _ hB4 | exact (unhide KS) _ (hB4.alloc hB4.size _) | fail) (first
        | (refine step_append_u (w := w4) (u := .string fk) rfl rfl rfl (.tmp 16) (.tmp 31) 22 rfl w.heap.size w.heap.size i0 (.string ⟨#[]⟩) 16 Try.underlying22 hi hz0 hz1 hz2 rfl _ _ rfl (by exact hO4) rfl (unhide hl1) (unhide hl2) (Nat.le_refl _) (by exact hB4.size) hB4 ?_; intro v' w5 hown5 hB5)
        | (go_at_call 20; refine (unhide c0 _).mono ?_; rintro e w4 ⟨rfl, hb4⟩; have hO4 := OwnV.below (w := wr.drew) (unhide HO) hb4; have hB4 := (hB.drew).trans (hb4.mono hB.size)))
      all_goals
        have hown6 := hide (show OwnV w5 w.heap.size 9 v' ((preT F (k + 1)).map sv) by rw [unhide HP, List.map_append]; exact hown5)
        clear hown5 hO4 d2 d3 KS HO
        go_wp2
        exact ⟨⟨k + 1, by omega, by go_num, hown6, hB5⟩, by simp [intOf]; omega⟩
    · have hk' : ¬ 2 * (k : Int) + 1 < (n : Int) := by have := unhide hh2; omega
      obtain rfl : k = h := by omega
      clear HC
      go_wp2
      go_ret
      exact ⟨⟨_, rfl, unhide HO⟩, hB⟩
end Go.Proofs.Ytljjajbkaffofau

/- Trees by the given model: roots and paths, over the loaded program. -/
namespace Go.Proofs.Ytljjajbkaffofau
open Go.RowKit
theorem OwnV.loW {w : World} {base : Nat} {e : TypeId} {v : Value} {xs : List Value} (h : OwnV w base e v xs) : ∀ k, v.ownBlock = some k → base ≤ k ∧ k < w.heap.size := fun k hk => World.ownsRow.lt h k hk
theorem RdV.loW {w : World} {v : Value} {xs : List Value} (h : RdV w v xs) (hn : 0 < xs.length) : ∀ k, v.ownBlock = some k → k < w.heap.size := by
  intro k hk
  rcases h with ⟨_, _, _, h⟩ | ⟨g, o, c, rfl, _, hg, _⟩
  · rw [h] at hn; exact absurd hn (Nat.lt_irrefl _)
  · have : g = k := Option.some.inj hk
    omega
theorem lvs_len2 (l : List ByteArray) (hl : l.length = 4) (k : Nat) (hk : k ≤ 2) : (k = 0 ∧ (lvs l k).length = 4) ∨ (k = 1 ∧ (lvs l k).length = 2) ∨ (k = 2 ∧ (lvs l k).length = 1) := by
  have h := lvs_len l hl k
  rcases show k = 0 ∨ k = 1 ∨ k = 2 by omega with rfl | rfl | rfl
  · exact .inl ⟨rfl, h⟩
  · exact .inr (.inl ⟨rfl, h⟩)
  · exact .inr (.inr ⟨rfl, h⟩)
theorem levelUp_lvs (l : List ByteArray) (hl : l.length = 4) (hs : ∀ x ∈ l, x.size ≤ 1048576) (k : Nat) (hk : k < 2) (W : World) (v : Value) (hr : RdV W v ((lvs l k).map sv)) :
    Calls Try.prog 22 #[.int .i64 ((k + 1 : Nat) : Int), v] W fun e w' => (∃ v', e = .returned v' ∧ OwnV w' W.heap.size 9 v' ((lvs l (k + 1)).map sv)) ∧ Below W.heap.size W w' := by
  have h := specLevelUp_any ((k + 1 : Nat) : Int) (lvs l k) v W hr (lvs_size l _ (by omega) hs k) (by rcases lvs_len2 l hl k (by omega) with ⟨_, h⟩ | ⟨_, h⟩ | ⟨_, h⟩ <;> omega)
  exact h
set_option maxRecDepth 20000 in
set_option maxHeartbeats 800000 in
theorem specRootOf_any (l : List ByteArray) (v : Value) (w : World) (hr : RdV w v (l.map sv)) (hs : ∀ x ∈ l, x.size ≤ 1048576) :
    Calls Try.prog 24 #[v] w fun e w' => e = .returned (.string (rootB l)) ∧ Below w.heap.size w w' := by
  obtain ⟨a, c, rfl, -⟩ := hr.open
  rw [List.length_map] at hr ⊢
  by_cases h4 : l.length = 4
  · have ER := hide (show rootB l = bAt (lvs l 2) 0 by unfold rootB; rw [if_pos h4])
    rw [unhide ER]
    have CL := hide (fun k hk W v hr => levelUp_lvs l h4 hs k hk W v hr)
    have HR := hide (show RdV w (.slice a l.length c) ((lvs l 0).map sv) from hr)
    have hl2 : (lvs l 2).length = 1 := lvs_len l h4 2
    have HE := hide (show ∀ W u, RdV W u ((lvs l 2).map sv) → ∃ g o c, u = .slice (some ⟨g, o, none⟩) 1 c ∧ W.cell? ⟨g, o, none⟩ = some (.string (bAt (lvs l 2) 0)) from fun W u h => by
      obtain ⟨a, c, rfl, hc⟩ := h.open
      rw [List.length_map, hl2]
      obtain ⟨g, o, rfl, _, d⟩ := hc 0 _ (bAt_getT (lvs l 2) 0 (by omega))
      exact ⟨g, o, c, rfl, d⟩)
    rw [h4] at HR ⊢
    generalize bAt (lvs l 2) 0 = R at *
    clear hr ER
    replace h4 := hide h4; replace hl2 := hide hl2
    go_enter Try.func24, Try.ntmps24
    go_wp2
    go_loopw [0, 3] (fun tl ti wr => ∃ k : Nat, k ≤ 2 ∧ ti = .int .i64 ((k + 1 : Nat) : Int) ∧ Hid (RdV wr tl ((lvs l k).map sv)) ∧ Below w.heap.size w wr) (fun _ ti _ => 5 - (intOf ti).toNat)
    case atStart => exact ⟨0, by omega, rfl, HR, Below.refl _ _⟩
    case round =>
      clear HR
      obtain ⟨k, hk, rfl, HR, hB⟩ := hrel
      by_cases hlt : k < 2
      · have hk' : ((k + 1 : Nat) : Int) ≤ 2 := by omega
        have c1 := hide (unhide CL k hlt wr u0 (unhide HR))
        clear HR CL HE
        go_wp2_with fail
        refine (unhide c1).mono ?_
        rintro e w1 ⟨⟨v', rfl, ho⟩, hb1⟩
        have hB1 := hB.trans (hb1.mono hB.size)
        have HR1 := hide ho.rdv
        clear hb1 hB ho c1
        go_wp2
        exact ⟨⟨k + 1, by omega, by go_num, HR1, hB1⟩, by simp [intOf]; omega⟩
      · have hk' : ¬ ((k + 1 : Nat) : Int) ≤ 2 := by omega
        obtain rfl : k = 2 := by omega
        obtain ⟨g, o, c', rfl, d⟩ := unhide HE wr _ (unhide HR)
        clear HR CL HE
        go_wp2
        go_ret
        exact ⟨rfl, hB⟩
  · have ER := hide (show rootB l = ⟨#[]⟩ by unfold rootB; rw [if_neg h4])
    rw [unhide ER]
    have h4' : ¬ (l.length : Int) = 4 := by omega
    clear hr
    go_enter Try.func24, Try.ntmps24
    go_wp2
    go_ret
    exact ⟨rfl, Below.refl _ _⟩
theorem sib_lt (l : List ByteArray) (hl : l.length = 4) (leaf k : Nat) (h : leaf < 4) (hk : k < 2) : sibN (leaf / 2 ^ k) < (lvs l k).length ∧ leaf / 2 ^ k < 4 := by
  unfold sibN
  rcases lvs_len2 l hl k (by omega) with ⟨rfl, e⟩ | ⟨rfl, e⟩ | ⟨rfl, e⟩
  · rw [e, Nat.pow_zero, Nat.div_one]
    split <;> omega
  · rw [e, Nat.pow_one]
    split <;> omega
  · omega
end Go.Proofs.Ytljjajbkaffofau

/- Parts put behind one another, and their digest, over the loaded program. -/
namespace Go.Proofs.Ytljjajbkaffofau
open Go.RowKit
theorem join_flat (xs : List (List UInt8)) : Lib.join xs [] = xs.flatten := by
  unfold Lib.join
  induction xs with
  | nil => rfl
  | cons x xs ih =>
    cases xs with
    | nil => simp [List.intercalate]
    | cons y ys =>
      have e : [].intercalate (x :: y :: ys) = x ++ ([] ++ [].intercalate (y :: ys)) := by simp [List.intercalate, List.intersperse]
      rw [e, ih]
      rfl
theorem barr_eq {a b : ByteArray} (h : a.data.toList = b.data.toList) : a = b := ByteArray.ext (Array.toList_inj.1 h)
set_option maxRecDepth 20000 in
set_option maxHeartbeats 400000 in
theorem digParts_any (bk o c n : Nat) (xs : List ByteArray) (hn : xs.length = n) (T : ByteArray) (hT : T.data.toList = (xs.map (·.data.toList)).flatten) (hTs : T.size ≤ 4000000) (w : World) (hcells : ∀ (j : Nat) x, xs[j]? = some x → w.cell? ⟨bk, o + j, none⟩ = some (.string x)) (hbk : bk < w.heap.size) (hcap : n ≤ c) (hN : n ≤ 1000) :
    Calls Try.prog 45 #[.slice (some ⟨bk, o, none⟩) n c] w fun e w' => e = .returned (.string (digB T)) ∧ Below w.heap.size w w' := by
  subst hn
  have hj : (⟨(Lib.join (xs.map (·.data.toList)) (⟨#[]⟩ : ByteArray).data.toList).toArray⟩ : ByteArray) = T := by
    apply barr_eq
    rw [hT]
    exact join_flat _
  have hz : (Lib.join (xs.map (·.data.toList)) (⟨#[]⟩ : ByteArray).data.toList).length ≤ 140737488355328 := by
    have e : (Lib.join (xs.map (·.data.toList)) (⟨#[]⟩ : ByteArray).data.toList) = T.data.toList := by rw [← hj]
    rw [e]
    show T.size ≤ _
    omega
  have CJ := hide (Try.strings_Join bk o c xs ⟨#[]⟩ w hcells hbk (by omega) hcap hz)
  rw [hj] at CJ
  have CD := hide (fun W => implDigest_any T hTs W)
  rw [show endV (blocksW first8 T 0 (T.size / 64)) (T.extract (64 * (T.size / 64)) T.size) T.size = digB T from rfl] at CD
  clear hz hj hT hcells
  generalize digB T = d at *
  go_enter Try.func45, Try.ntmps45
  go_wp2_with fail
  refine (unhide CJ).mono ?_
  rintro e w1 ⟨rfl, hb1⟩
  go_wp2_with fail
  refine ((unhide CD) w1).mono ?_
  rintro e w2 ⟨rfl, hb2⟩
  have hb12 := hb1.trans (hb2.mono hb1.size)
  clear hb1 hb2
  go_wp2
  go_ret
  exact ⟨rfl, hb12⟩
end Go.Proofs.Ytljjajbkaffofau

/- Laws of no program: a block that holds a variable of several cells. -/
namespace Go.Proofs.Ytljjajbkaffofau
open Go.RowKit
/-- Block g is a variable that holds these cells. -/
def CB (w : World) (g : Nat) (T : TypeId) (cs : Array Value) : Prop := w.heap[g]? = some (.cells cs T (0, 0))
theorem CB.lt {w : World} {g : Nat} {T : TypeId} {cs : Array Value} (h : CB w g T cs) : g < w.heap.size := by
  rcases Nat.lt_or_ge g w.heap.size with h1 | h1
  · exact h1
  · unfold CB at h
    rw [Array.getElem?_eq_none h1] at h; cases h
theorem CB.below {w w' : World} {g B : Nat} {T : TypeId} {cs : Array Value} (h : CB w g T cs) (hb : Below B w w') (hg : g < B) : CB w' g T cs := by
  unfold CB at h ⊢
  rw [hb.block g hg]; exact h
theorem CB.step {w w' : World} {g : Nat} {T : TypeId} {cs : Array Value} (h : CB w g T cs) (hb : Below w.heap.size w w') : CB w' g T cs := h.below hb h.lt
theorem CB.grown {w w' : World} {g : Nat} {r : Option Nat} {T : TypeId} {cs : Array Value} (hA : CB w g T cs) (hG : w.grownBy w' r) (hne : r ≠ some g) : CB w' g T cs := by
  have h := hG.block g hA.lt (fun e => hne e.symm)
  unfold CB at hA ⊢
  rw [h]
  exact hA
theorem CB.cell {w : World} {g : Nat} {T : TypeId} {cs : Array Value} (h : CB w g T cs) (k : Nat) {v : Value} (hv : cs[k]? = some v) : w.cell? ⟨g, k, none⟩ = some v := by
  rw [cell_of_row w g k _ T (0, 0) h]
  exact hv
theorem CB.frozen {w : World} {g : Nat} {T : TypeId} {cs : Array Value} (h : CB w g T cs) (k : Nat) : w.frozen? ⟨g, k, none⟩ = false := frozen_of_row w g k _ T h
theorem CB.set {w : World} {g : Nat} {T : TypeId} {cs : Array Value} (h : CB w g T cs) (k : Nat) (v : Value) : CB (w.setCell ⟨g, k, none⟩ v) g T (cs.setIfInBounds k v) := by
  unfold CB
  rw [heap_setCell_same w g k _ T v h]
theorem CB.set_other {w : World} {g h k : Nat} {T : TypeId} {cs : Array Value} (hA : CB w g T cs) (hne : g ≠ h) (v : Value) : CB (w.setCell ⟨h, k, none⟩ v) g T cs := by
  unfold CB at hA ⊢
  rw [Below.heap_setCell _ _ _ g hne]
  exact hA
theorem CB.alloc {w : World} {g : Nat} {T : TypeId} {cs : Array Value} (h : CB w g T cs) (o : Obj) : CB (w.alloc o) g T cs := by
  have hl := h.lt
  unfold CB at h ⊢
  rw [heap_alloc_old w o hl]
  exact h
theorem CB.new (w : World) (cs : Array Value) (T : TypeId) : CB (w.alloc (.cells cs T)) w.heap.size T cs := by
  unfold CB
  exact heap_alloc_new w _
theorem CB.off {w : World} {g base : Nat} {T e : TypeId} {cs : Array Value} {v : Value} {xs : List Value} (hA : CB w g T cs) (ho : OwnV w base e v xs) (hT : T ≠ e) : v.ownBlock ≠ some g := by
  intro hv
  rcases ho.2 with ⟨h1, _⟩ | ⟨g', cap, cur, h1, _, h3, _⟩
  · rw [h1] at hv; cases hv
  · rw [h1] at hv
    have hv' : (some g' : Option Nat) = some g := hv
    have hg : g' = g := Option.some.inj hv'
    subst hg
    unfold CB at hA
    rw [hA] at h3
    have h4 := Option.some.inj h3
    injection h4 with h5 h6
    exact hT h6
theorem tS0 (w : World) (g o : Nat) (u : Value) : w.grownBy (w.setCell ⟨g, o, none⟩ u) (some g) := ⟨rfl, rfl, rfl, by simp, fun k _ hk => RowKit.Below.heap_setCell _ _ _ _ (fun e => hk (by rw [e]))⟩
theorem OwnV.setO {w : World} {base : Nat} {e : TypeId} {v : Value} {xs : List Value} (h : OwnV w base e v xs) (g k : Nat) (u : Value) (hne : v.ownBlock ≠ some g) : OwnV (w.setCell ⟨g, k, none⟩ u) base e v xs := h.grown (tS0 w g k u) fun j hj e => hne (by rw [hj, e])
theorem results_cb {P : Program} {fn : Func} {p : Tmp} {ty : TypeId} (h : fn.results = #[.cell p ty]) (tmps : Array Value) (w : World) (g : Nat) (T : TypeId) (cs : Array Value) (fs : Array Field)
    (hp : tmps.getD p undef = .pointer (some ⟨g, 0, none⟩)) (hA : CB w g T cs) (hu : P.underlying ty = some (.struct fs)) (hi : (P.info? ty).map (·.size) = some cs.size) :
    (results fn tmps).run P w = .ok (.agg cs) w :=
  results_cell_row h tmps w g T _ (0, 0) _ hp hA hu rfl hi
theorem results_cb_tmp {P : Program} {fn : Func} {p u : Tmp} {ty : TypeId} (h : fn.results = #[.cell p ty, .tmp u]) (tmps : Array Value) (w : World) (g : Nat) (T : TypeId) (cs : Array Value) (fs : Array Field)
    (hp : tmps.getD p undef = .pointer (some ⟨g, 0, none⟩)) (hA : CB w g T cs) (hu : P.underlying ty = some (.struct fs)) (hi : (P.info? ty).map (·.size) = some cs.size) :
    (results fn tmps).run P w = .ok (.tuple #[.agg cs, tmps.getD u undef]) w := by
  rw [results_cell_tmp h, hp]
  simp [asAddr, Result.andThen, run_loadVar_row w g T ty cs (0, 0) (.struct fs) hA hu rfl hi]
theorem one_cb (w : World) (c1 : Array Value) (T1 : TypeId) : ∃ W, w.alloc (.cells c1 T1) = W ∧ CB W w.heap.size T1 c1 ∧ Below w.heap.size w W ∧ w.heap.size < W.heap.size := by
  refine ⟨_, rfl, CB.new w c1 T1, (Below.refl _ w).alloc (Nat.le_refl _) _, by simp⟩
theorem two_cb (w : World) (c1 c2 : Array Value) (T1 T2 : TypeId) : ∃ W, (w.alloc (.cells c1 T1)).alloc (.cells c2 T2) = W ∧ CB W w.heap.size T1 c1 ∧ CB W (w.heap.size + 1) T2 c2 ∧ Below w.heap.size w W ∧ w.heap.size + 1 < W.heap.size := by
  obtain ⟨W, hW, hA, hb, hlt⟩ := one_cb w c1 T1
  rw [hW]
  have hs : W.heap.size = w.heap.size + 1 := by rw [← hW]; simp
  refine ⟨_, rfl, hA.alloc _, ?_, hb.alloc (by omega) _, by simp; omega⟩
  have h := CB.new W c2 T2
  rw [hs] at h
  exact h
theorem three_cb (w : World) (c1 c2 c3 : Array Value) (T1 T2 T3 : TypeId) : ∃ W, ((w.alloc (.cells c1 T1)).alloc (.cells c2 T2)).alloc (.cells c3 T3) = W ∧ CB W w.heap.size T1 c1 ∧ CB W (w.heap.size + 1) T2 c2 ∧ CB W (w.heap.size + 1 + 1) T3 c3 ∧ Below w.heap.size w W ∧ w.heap.size + 1 + 1 < W.heap.size := by
  obtain ⟨W, hW, hA, hA2, hb, hlt⟩ := two_cb w c1 c2 T1 T2
  rw [hW]
  have hs : W.heap.size = w.heap.size + 1 + 1 := by rw [← hW]; simp
  refine ⟨_, rfl, hA.alloc _, hA2.alloc _, ?_, hb.alloc (by omega) _, by simp; omega⟩
  have h := CB.new W c3 T3
  rw [hs] at h
  exact h
end Go.Proofs.Ytljjajbkaffofau

/- Chains by the project's own functions: bytes, what is chopped, a step, chains, over the loaded program. -/
namespace Go.Proofs.Ytljjajbkaffofau
open Go.RowKit
theorem below_grown14 {w w' : World} (hb : Below w.heap.size w w') (g : Nat) : w.grownBy w' (some g) := ⟨hb.os, hb.tape, hb.output, hb.size, fun k hk _ => hb.block k hk⟩
set_option maxRecDepth 20000 in
set_option maxHeartbeats 400000 in
theorem implByteY_any (z : Int) (w : World) :
    Calls Try.prog 37 #[.int .i64 z] w fun e w' => e = .returned (.string (oneY z)) ∧ Below w.heap.size w w' := by
  have hx := b256_lt z
  have E := hide (show oneY z = ⟨#[UInt8.ofNat (b256 z)]⟩ from rfl)
  rw [unhide E]
  have ew : IntKind.u8.wrap z = (b256 z : Int) := by rw [IntKind.wrap_u8]; unfold b256; omega
  have ew8 : z % 256 = (b256 z : Int) := by unfold b256; omega
  generalize b256 z = x at *
  have hcv := conv_oneY w x hx
  have hb : Below w.heap.size w (w.alloc (.cells #[.int .u8 (x : Int)] 5)) := (Below.refl w.heap.size w).alloc (Nat.le_refl _) _
  go_enter Try.func37, Try.ntmps37
  go_wp2
  go_ret
  exact ⟨rfl, hb⟩
set_option maxRecDepth 20000 in
set_option maxHeartbeats 400000 in
theorem chopParts_any (bk o c n : Nat) (xs : List ByteArray) (hn : xs.length = n) (T : ByteArray) (hT : T.data.toList = (xs.map (·.data.toList)).flatten) (hTs : T.size ≤ 4000000) (w : World) (hcells : ∀ (j : Nat) x, xs[j]? = some x → w.cell? ⟨bk, o + j, none⟩ = some (.string x)) (hbk : bk < w.heap.size) (hcap : n ≤ c) (hN : n ≤ 1000) :
    Calls Try.prog 36 #[.slice (some ⟨bk, o, none⟩) n c] w fun e w' => e = .returned (.string (chopB T)) ∧ Below w.heap.size w w' := by
  have C := hide (digParts_any bk o c n xs hn T hT hTs w hcells hbk hcap hN)
  have hz : (digB T).size = 32 := digB_size0 _
  have E := hide (show chopB T = (digB T).extract 0 4 from rfl)
  rw [unhide E]
  have hz' : (4 : Int) ≤ ((digB T).size : Int) := by omega
  generalize digB T = d at *
  replace hz := hide hz
  clear hcells hT
  go_enter Try.func36, Try.ntmps36
  go_wp2_with fail
  refine (unhide C).mono ?_
  rintro e w1 ⟨rfl, hb1⟩
  go_wp2
  go_ret
  exact ⟨rfl, hb1⟩
theorem row_texts (w : World) (xs : List ByteArray) (T : TypeId) : ∀ (j : Nat) x, xs[j]? = some x → (w.alloc (.cells (xs.map Value.string).toArray T)).cell? ⟨w.heap.size, 0 + j, none⟩ = some (.string x) := by
  intro j x hx
  rw [Nat.zero_add, cell_of_row _ w.heap.size j _ T (0, 0) (heap_alloc_new w _)]
  simp [hx]
theorem chop4_any (a b c d : ByteArray) (ha : a.size ≤ 2000000) (hb : b.size ≤ 1) (hc : c.size ≤ 1) (hd : d.size ≤ 1100000) (w : World) :
    Calls Try.prog 36 #[.slice (some ⟨w.heap.size, 0, none⟩) 4 4] (w.alloc (.cells #[.string a, .string b, .string c, .string d] 9)) fun e w' => e = .returned (.string (chopB (a ++ b ++ c ++ d))) ∧ Below w.heap.size w w' := by
  have h := chopParts_any w.heap.size 0 4 4 [a, b, c, d] rfl (a ++ b ++ c ++ d) (by simp [ByteArray.data_append, Array.toList_append]) (by rw [ByteArray.size_append, ByteArray.size_append, ByteArray.size_append]; omega) (w.alloc (.cells #[.string a, .string b, .string c, .string d] 9)) (row_texts w [a, b, c, d] 9) (by simp) (Nat.le_refl _) (by omega)
  refine h.mono ?_
  rintro e w1 ⟨rfl, hb1⟩
  exact ⟨rfl, ((Below.refl w.heap.size w).alloc (Nat.le_refl _) _).trans (hb1.mono (by simp))⟩
set_option maxRecDepth 20000 in
set_option maxHeartbeats 400000 in
theorem implChop_any (s : ByteArray) (hs : s.size ≤ 4000000) (w : World) :
    Calls Try.prog 43 #[.string s] w fun e w' => e = .returned (.string (chopB s)) ∧ Below w.heap.size w w' := by
  have C := hide (chopParts_any w.heap.size 0 1 1 [s] rfl s (by simp) hs (w.alloc (.cells #[.string s] 9)) (row_texts w [s] 9) (by simp) (Nat.le_refl _) (by omega))
  have hb0 : Below w.heap.size w (w.alloc (.cells #[.string s] 9)) := (Below.refl w.heap.size w).alloc (Nat.le_refl _) _
  generalize chopB s = d at *
  go_enter Try.func43, Try.ntmps43
  go_wp2_with fail
  refine (unhide C).mono ?_
  rintro e w1 ⟨rfl, hb1⟩
  have hb01 := hb0.trans (hb1.mono hb0.size)
  clear hb0 hb1 C
  go_wp2
  go_ret
  exact ⟨rfl, hb01⟩
abbrev plC (a b c : Int) : Array Value := #[.int .i64 a, .int .i64 b, .int .i64 c]
set_option maxRecDepth 20000 in
set_option maxHeartbeats 1000000 in
theorem chainStep_any (g : Nat) (a b c : Int) (x : ByteArray) (hx : x.size ≤ 1048576) (w : World) (hC : CB w g 65 (plC a b c)) :
    Calls Try.prog 51 #[.pointer (some ⟨g, 0, none⟩), .string x] w fun e w' => e = .returned (.string (chopB (oneY a ++ oneY b ++ oneY c ++ x))) ∧ CB w' g 65 (plC a b (IntKind.i64.wrap (c + 1))) ∧ w.grownBy w' (some g) := by
  obtain ⟨c', hc'⟩ : ∃ c', IntKind.i64.wrap (c + 1) = c' := ⟨_, rfl⟩
  have hc2 : wrap64 (c + 1) = c' := (IntWalk.i64_left (c + 1)).symm.trans hc'
  rw [hc']
  have hg := hC.lt
  have c0 := hC.cell 0 rfl
  have c1 := hC.cell 1 rfl
  have c2 := hC.cell 2 rfl
  have KS := hide (fun (W : World) (h : Below w.heap.size w W) => (⟨(h.cell (p := ⟨g, 0, none⟩) hg).trans c0, (h.cell (p := ⟨g, 1, none⟩) hg).trans c1, (h.cell (p := ⟨g, 2, none⟩) hg).trans c2⟩ : W.cell? ⟨g, 0, none⟩ = some (.int .i64 a) ∧ W.cell? ⟨g, 1, none⟩ = some (.int .i64 b) ∧ W.cell? ⟨g, 2, none⟩ = some (.int .i64 c)))
  have CY := hide (fun z W => implByteY_any z W)
  have CC := hide (fun W => chop4_any (oneY a) (oneY b) (oneY c) x (by rw [oneY_size]; omega) (by rw [oneY_size]; omega) (by rw [oneY_size]; omega) (by omega) W)
  generalize chopB (oneY a ++ oneY b ++ oneY c ++ x) = q at *
  obtain ⟨Y, hY⟩ : ∃ Y : Int → ByteArray, Y = oneY := ⟨_, rfl⟩
  rw [← hY] at CY CC
  clear hY
  have HC := hide hC
  clear hC
  go_enter Try.func51, Try.ntmps51
  go_wp2
  go_region_held3 (fun W => W.cell? ⟨g, 0, none⟩ = some (.int .i64 a) ∧ W.cell? ⟨g, 1, none⟩ = some (.int .i64 b) ∧ W.cell? ⟨g, 2, none⟩ = some (.int .i64 c)) (first | exact ⟨c0, c1, c2⟩ | exact (unhide KS) _ hB4 | exact (unhide KS) _ hB3 | exact (unhide KS) _ hB2 | exact (unhide KS) _ hB1 | exact (unhide KS) _ (hB3.alloc (by have := hB3.size; omega) _) | fail) (first
    | (go_at_call 37; have hB2' := hB2; refine ((unhide CY) _ _).mono ?_; rintro e w3 ⟨rfl, hb3⟩; have hB3 : Below w.heap.size w w3 := hB2.trans (hb3.mono hB2.size))
    | (go_at_call 37; have hB1' := hB1; refine ((unhide CY) _ _).mono ?_; rintro e w2 ⟨rfl, hb2⟩; have hB2 : Below w.heap.size w w2 := hB1.trans (hb2.mono hB1.size))
    | (go_at_call 37; refine ((unhide CY) _ _).mono ?_; rintro e w1 ⟨rfl, hb1⟩; have hB1 : Below w.heap.size w w1 := (Below.refl _ w).drew.trans hb1)
    | (go_at_call 36; refine ((unhide CC) _).mono ?_; rintro e w4 ⟨rfl, hb4⟩; have hB4 : Below w.heap.size w w4 := hB3.trans (hb4.mono hB3.size))
    | fail)
  all_goals
    obtain ⟨d0, d1, d2⟩ := (unhide KS) _ hB4
    have HC4 := (unhide HC).below hB4 hg
    have f2 := HC4.frozen 2
    have HC5 := hide (HC4.set 2 (.int .i64 c'))
    have G5 := hide (grownBy_trans (below_grown14 hB4 g) (tS0 w4 g 2 (.int .i64 c')))
    clear hb1 hb2 hb3 hb4 hB1 hB2 hB3 hB4 KS c0 c1 c2 HC HC4 CY CC
    go_wp2
    go_ret
    exact ⟨rfl, unhide HC5, unhide G5⟩
/-- Where a chain stands behind k steps. -/
def frK (c : Int) : Nat → Int
  | 0 => c
  | k + 1 => IntKind.i64.wrap (frK c k + 1)
theorem frK_mod (c : Int) (k : Nat) : (frK c k) % 256 = (c.tmod 256 + (k : Int)) % 256 := by
  induction k with
  | zero =>
    show c % 256 = _
    have e := @Int.tmod_eq_emod c 256
    split at e
    · rw [e]; omega
    · have e2 : c.tmod 256 = c % 256 - 256 := e
      rw [e2]; omega
  | succ k ih =>
    show (IntKind.i64.wrap (frK c k + 1)) % 256 = _
    rw [IntKind.wrap_i64]
    generalize c.tmod 256 = r at *
    generalize frK c k = f at *
    omega
theorem frK_one (c : Int) (k : Nat) : oneY (frK c k) = oneY (c.tmod 256 + (k : Int)) := by
  unfold oneY b256
  rw [frK_mod]
set_option maxRecDepth 20000 in
set_option maxHeartbeats 1000000 in
theorem repeated_any (g : Nat) (a b c d : Int) (x : ByteArray) (hx : x.size ≤ 1048576) (hd : d ≤ 15) (w : World) (hC : CB w g 65 (plC a b c)) :
    Calls Try.prog 50 #[.func (Fn.func 51) #[.pointer (some ⟨g, 0, none⟩)] #[], .string x, .int .i64 d] w fun e w' => e = .returned (.string (chnB x a b c d.toNat)) ∧ w.grownBy w' (some g) := by
  have HN := hide (show ∀ k, chopB (oneY a ++ oneY b ++ oneY (frK c k) ++ chnB x a b c k) = chnB x a b c (k + 1) from fun k => by rw [frK_one]; rfl)
  have HS := hide (fun k => chnB_size x a b c k hx)
  have H0 := hide (show chnB x a b c 0 = x from rfl)
  have HF0 := hide (show frK c 0 = c from rfl)
  have HFn := hide (show ∀ k, IntKind.i64.wrap (frK c k + 1) = frK c (k + 1) from fun k => rfl)
  have CSt := hide (fun (k : Nat) (W : World) (h : CB W g 65 (plC a b (frK c k))) => chainStep_any g a b (frK c k) (chnB x a b c k) (unhide HS k) W h)
  simp only [unhide HN, unhide HFn] at CSt
  have HC := hide hC
  clear hC HN HFn HS
  generalize chnB x a b c = F at *
  generalize frK c = R at *
  go_enter Try.func50, Try.ntmps50
  go_wp2
  go_loopw [1, 8] (fun tx ti wr => ∃ k : Nat, k ≤ d.toNat ∧ ti = .int .i64 (k : Int) ∧ tx = .string (F k) ∧ Hid (CB wr g 65 (plC a b (R k))) ∧ Hid (w.grownBy wr (some g))) (fun _ ti _ => 20 - (intOf ti).toNat)
  case atStart => exact ⟨0, Nat.zero_le _, rfl, by rw [unhide H0], by rw [unhide HF0]; exact HC, hide (World.grownBy.refl w _)⟩
  case round =>
    clear HC
    obtain ⟨k, hk, rfl, rfl, HM, HG⟩ := hrel
    by_cases hlt : (k : Int) < d
    · have C := hide (unhide CSt k wr (unhide HM))
      have hk15 : k < 15 := by omega
      obtain ⟨f2, hf2⟩ : ∃ f2, f2 = F (k + 1) := ⟨_, rfl⟩
      rw [← hf2] at C
      replace hf2 := hide hf2
      generalize F k = fk at *
      clear CSt
      go_wp2_with (go_at_call 51; refine (unhide C).mono ?_; rintro e w1 ⟨rfl, hA1, hg1⟩)
      go_roundw
      case rel => exact ⟨k + 1, by omega, by go_num, by rw [unhide hf2], hide hA1, hide (grownBy_trans (unhide HG) hg1)⟩
      case measure => simp [intOf]; omega
    · have hkk := hide (show d.toNat = k by omega)
      go_wp2
      go_ret
      rw [unhide hkk]
      exact ⟨rfl, unhide HG⟩
set_option maxRecDepth 20000 in
theorem stringsClone14_any (s : ByteArray) (w : World) (hs : s.size ≤ 4000000) :
    Calls Try.prog 52 #[.string s] w fun e w' => e = .returned (.string s) ∧ Below w.heap.size w w' := by
  have hlim : s.size ≤ 281474976710656 := by omega
  have C := hide (Try.stringslite_Clone s w hlim)
  go_enter Try.func52, Try.ntmps52
  go_wp2_with fail
  refine (unhide C).mono ?_
  rintro e w2 ⟨rfl, hb2⟩
  go_wp2
  go_ret
  exact ⟨rfl, hb2⟩
theorem grown_below14 {a b c : World} {g : Nat} (h : Below a.heap.size a b) (k : b.grownBy c (some g)) (hg : a.heap.size ≤ g) : Below a.heap.size a c :=
  ⟨k.os.trans h.os, k.tape.trans h.tape, k.output.trans h.output, Nat.le_trans h.size k.size, fun q hq => (k.block q (Nat.lt_of_lt_of_le hq h.size) (fun e => by have := Option.some.inj e; omega)).trans (h.block q hq)⟩
set_option maxRecDepth 20000 in
set_option maxHeartbeats 1000000 in
theorem implChain_any (x : ByteArray) (a b c d : Int) (hx : x.size ≤ 1048576) (w : World) :
    Calls Try.prog 42 #[.string x, .int .i64 a, .int .i64 b, .int .i64 c, .int .i64 d] w fun e w' => e = .returned (.string (chnB x a b c (stepsN d))) ∧ Below w.heap.size w w' := by
  have CCl := hide (fun W => stringsClone14_any x W (by omega))
  have hst : stepsN d = (if d ≤ 15 then d else 15).toNat := by unfold stepsN; split <;> rfl
  obtain ⟨m, hm⟩ : ∃ m : Int, m = if d ≤ 15 then d else 15 := ⟨_, rfl⟩
  have hm15 : m ≤ 15 := by rw [hm]; split <;> omega
  rw [← hm] at hst
  have hmin : min d 15 = m := by rw [hm]; split <;> omega
  have hmin2 : (if d ≤ 15 then d else 15) = m := hm.symm
  have CR := hide (fun (g : Nat) (W : World) (h : CB W g 65 (plC a b c)) => repeated_any g a b c m x hx hm15 W h)
  rw [hst]
  generalize chnB x a b c m.toNat = q at *
  obtain ⟨W, hW, hC, hb, hlt⟩ := one_cb w (plC a b c) 65
  replace hst := hide hst
  replace hm := hide hm
  go_enter Try.func42, Try.ntmps42
  go_wp2_with fail
  refine (unhide CCl W).mono ?_
  rintro e w1 ⟨rfl, hb1⟩
  have hC1 := hC.below hb1 hlt
  have hB1 := hb.trans (hb1.mono hb.size)
  clear hb hb1 hC hW
  go_wp2_with fail
  refine (unhide CR _ w1 hC1).mono ?_
  rintro e w2 ⟨rfl, hg2⟩
  have hB2 := grown_below14 hB1 hg2 (Nat.le_refl _)
  clear hg2 hB1 hC1
  go_wp2
  go_ret
  exact ⟨rfl, hB2⟩
end Go.Proofs.Ytljjajbkaffofau

/- Trees by the project's own functions: nodes that know who stands beside and above, over the loaded program. -/
namespace Go.Proofs.Ytljjajbkaffofau
open Go.RowKit
theorem chop5_any (a b c d f : ByteArray) (ha : a.size ≤ 1) (hb : b.size ≤ 1) (hc : c.size ≤ 1048576) (hd : d.size ≤ 1048576) (hf : f.size ≤ 1) (w : World) :
    Calls Try.prog 36 #[.slice (some ⟨w.heap.size, 0, none⟩) 5 5] (w.alloc (.cells #[.string a, .string b, .string c, .string d, .string f] 9)) fun e w' => e = .returned (.string (chopB (a ++ b ++ c ++ d ++ f))) ∧ Below w.heap.size w w' := by
  have h := chopParts_any w.heap.size 0 5 5 [a, b, c, d, f] rfl (a ++ b ++ c ++ d ++ f) (by simp [ByteArray.data_append, Array.toList_append]) (by rw [ByteArray.size_append, ByteArray.size_append, ByteArray.size_append, ByteArray.size_append]; omega) (w.alloc (.cells #[.string a, .string b, .string c, .string d, .string f] 9)) (row_texts w [a, b, c, d, f] 9) (by simp) (Nat.le_refl _) (by omega)
  refine h.mono ?_
  rintro e w1 ⟨rfl, hb1⟩
  exact ⟨rfl, ((Below.refl w.heap.size w).alloc (Nat.le_refl _) _).trans (hb1.mono (by simp))⟩
set_option maxRecDepth 20000 in
set_option maxHeartbeats 800000 in
theorem implNode_any (level place : Int) (a b : ByteArray) (ha : a.size ≤ 1048576) (hb : b.size ≤ 1048576) (w : World) :
    Calls Try.prog 21 #[.int .i64 level, .int .i64 place, .string a, .string b] w fun e w' => e = .returned (.string (nodeB level place a b)) ∧ Below w.heap.size w w' := by
  have c1 := hide (fun W => implByteY_any level W)
  have c2 := hide (fun W => implByteY_any place W)
  have CC := hide (fun W => chop5_any (oneY level) (oneY place) a b ⟨#[110]⟩ (by rw [oneY_size]; omega) (by rw [oneY_size]; omega) ha hb (by show 1 ≤ 1; omega) W)
  have HN := hide (show chopB (oneY level ++ oneY place ++ a ++ b ++ ⟨#[110]⟩) = nodeB level place a b from rfl)
  rw [unhide HN] at CC
  generalize nodeB level place a b = R at *
  generalize oneY level = ya at *
  generalize oneY place = yb at *
  clear HN
  go_enter Try.func21, Try.ntmps21
  go_wp2_with fail
  refine (unhide c1 w).mono ?_
  rintro e w1 ⟨rfl, hb1⟩
  go_wp2_with fail
  refine (unhide c2 w1).mono ?_
  rintro e w2 ⟨rfl, hb2⟩
  have hB2 := hb1.trans (hb2.mono hb1.size)
  go_wp2_with fail
  refine (unhide CC w2).mono ?_
  rintro e w3 ⟨rfl, hb3⟩
  have hB3 := hB2.trans (hb3.mono hB2.size)
  go_wp2
  go_ret
  exact ⟨rfl, hB3⟩
/-- What a call leaves of the older blocks: all but those in S. -/
def KpS (S : Nat → Prop) (w w' : World) : Prop := w'.os = w.os ∧ w'.tape = w.tape ∧ w'.output = w.output ∧ w.heap.size ≤ w'.heap.size ∧ ∀ k, k < w.heap.size → ¬ S k → w'.heap[k]? = w.heap[k]?
theorem KpS.refl (S : Nat → Prop) (w : World) : KpS S w w := ⟨rfl, rfl, rfl, Nat.le_refl _, fun _ _ _ => rfl⟩
theorem KpS.trans {S : Nat → Prop} {a b c : World} (h : KpS S a b) (k : KpS S b c) : KpS S a c :=
  ⟨k.1.trans h.1, k.2.1.trans h.2.1, k.2.2.1.trans h.2.2.1, Nat.le_trans h.2.2.2.1 k.2.2.2.1, fun i hi hs => (k.2.2.2.2 i (Nat.lt_of_lt_of_le hi h.2.2.2.1) hs).trans (h.2.2.2.2 i hi hs)⟩
theorem KpS.mono {S T : Nat → Prop} {a b : World} (h : KpS S a b) (hst : ∀ k, k < a.heap.size → S k → T k) : KpS T a b :=
  ⟨h.1, h.2.1, h.2.2.1, h.2.2.2.1, fun i hi hs => h.2.2.2.2 i hi fun hS => hs (hst i hi hS)⟩
theorem KpS.trans2 {S T : Nat → Prop} {a b c : World} (h : KpS S a b) (k : KpS T b c) (hst : ∀ i, i < a.heap.size → T i → S i) : KpS S a c :=
  ⟨k.1.trans h.1, k.2.1.trans h.2.1, k.2.2.1.trans h.2.2.1, Nat.le_trans h.2.2.2.1 k.2.2.2.1, fun i hi hs => (k.2.2.2.2 i (Nat.lt_of_lt_of_le hi h.2.2.2.1) fun hT => hs (hst i hi hT)).trans (h.2.2.2.2 i hi hs)⟩
theorem KpS.size {S : Nat → Prop} {a b : World} (h : KpS S a b) : a.heap.size ≤ b.heap.size := h.2.2.2.1
theorem below_kps {a b : World} (h : Below a.heap.size a b) (S : Nat → Prop) : KpS S a b := ⟨h.os, h.tape, h.output, h.size, fun k hk _ => h.block k hk⟩
theorem KpS.set {S : Nat → Prop} {a b : World} (h : KpS S a b) (g o : Nat) (u : Value) (hg : g < a.heap.size → S g) : KpS S a (b.setCell ⟨g, o, none⟩ u) :=
  ⟨h.1, h.2.1, h.2.2.1, by have := h.size; simpa using this, fun k hk hs => (RowKit.Below.heap_setCell _ _ _ _ (fun e => hs (by have e2 : k = g := e; rw [e2]; exact hg (by rw [← e2]; exact hk)))).trans (h.2.2.2.2 k hk hs)⟩
theorem KpS.below {S : Nat → Prop} {a b : World} (h : KpS S a b) (B : Nat) (hB : B ≤ a.heap.size) (hS : ∀ k, k < B → ¬ S k) : Below B a b :=
  ⟨h.1, h.2.1, h.2.2.1, h.size, fun k hk => h.2.2.2.2 k (Nat.lt_of_lt_of_le hk hB) (hS k hk)⟩
theorem CB.kps {w w' : World} {g : Nat} {T : TypeId} {cs : Array Value} {S : Nat → Prop} (h : CB w g T cs) (hb : KpS S w w') (hg : ¬ S g) : CB w' g T cs := by
  unfold CB
  rw [hb.2.2.2.2 g h.lt hg]
  exact h
theorem OwnV.kps {w w' : World} {base : Nat} {e : TypeId} {v : Value} {xs : List Value} {S : Nat → Prop} (h : OwnV w base e v xs) (hb : KpS S w w') (hB : ∀ g, v.ownBlock = some g → ¬ S g) : OwnV w' base e v xs := by
  have hlt := h.lt
  refine ⟨h.1, ?_⟩
  rcases h.2 with hn | ⟨g, cap, cur, rfl, hbg, hgg, rest⟩
  · exact .inl hn
  · refine .inr ⟨g, cap, cur, rfl, hbg, ?_, rest⟩
    rw [hb.2.2.2.2 g (hlt g rfl).2 (hB g rfl)]
    exact hgg
/-- A pointer to a node, and a node's cells. -/
def pv (g : Nat) : Value := .pointer (some ⟨g, 0, none⟩)
def nilP : Value := .pointer none
abbrev tn (s : ByteArray) (b u : Value) : Array Value := #[.string s, b, u]
def gAt (gs : List Nat) (i : Nat) : Nat := gs.getD i 0
theorem gAt_get (gs : List Nat) (i : Nat) (h : i < gs.length) : (gs.map pv)[i]? = some (pv (gAt gs i)) := by
  unfold gAt
  rw [List.getElem?_map, List.getD_eq_getElem?_getD, List.getElem?_eq_getElem h]
  rfl
theorem gAt_mem (gs : List Nat) (i : Nat) (h : i < gs.length) : gAt gs i ∈ gs := by
  unfold gAt
  rw [List.getD_eq_getElem?_getD, List.getElem?_eq_getElem h]
  exact List.getElem_mem h
theorem gAt_of_mem (gs : List Nat) (g : Nat) (h : g ∈ gs) : ∃ i, i < gs.length ∧ gAt gs i = g := by
  obtain ⟨i, hi, e⟩ := List.getElem_of_mem h
  refine ⟨i, hi, ?_⟩
  unfold gAt
  rw [List.getD_eq_getElem?_getD, List.getElem?_eq_getElem hi]
  exact e
theorem gAt_inj (gs : List Nat) (hn : gs.Nodup) (i j : Nat) (hi : i < gs.length) (hj : j < gs.length) (h : gAt gs i = gAt gs j) : i = j := by
  unfold gAt at h
  rw [List.getD_eq_getElem?_getD, List.getElem?_eq_getElem hi, List.getD_eq_getElem?_getD, List.getElem?_eq_getElem hj] at h
  exact (List.getElem_inj hn).1 h
theorem gAt_app_lt (gs : List Nat) (g i : Nat) (h : i < gs.length) : gAt (gs ++ [g]) i = gAt gs i := by
  unfold gAt
  rw [List.getD_eq_getElem?_getD, List.getElem?_append_left h, ← List.getD_eq_getElem?_getD]
theorem gAt_app_new (gs : List Nat) (g : Nat) : gAt (gs ++ [g]) gs.length = g := by
  unfold gAt
  rw [List.getD_eq_getElem?_getD, List.getElem?_append_right (Nat.le_refl _), Nat.sub_self]
  rfl
/-- The row that is filled as far as k. -/
def filG (gs : List Nat) (m : Nat) : List Value := gs.map pv ++ List.replicate (m - gs.length) nilP
theorem filG_len (gs : List Nat) (m : Nat) (h : gs.length ≤ m) : (filG gs m).length = m := by unfold filG; rw [List.length_append, List.length_map, List.length_replicate]; omega
theorem filG_set (gs : List Nat) (m k : Nat) (hk : gs.length = k) (h : k < m) (g : Nat) : (filG gs m).set k (pv g) = filG (gs ++ [g]) m := by
  subst hk
  unfold filG
  rw [List.set_append, if_neg (by rw [List.length_map]; omega), List.length_map, Nat.sub_self, List.map_append, List.length_append, List.append_assoc]
  congr 1
  obtain ⟨r, hr⟩ : ∃ r, m - gs.length = r + 1 := ⟨m - gs.length - 1, by omega⟩
  rw [hr, show m - (gs.length + [g].length) = r by show m - (gs.length + 1) = r; omega, List.replicate_succ, List.set_cons_zero]
  rfl
theorem filG_full (gs : List Nat) (m : Nat) (h : gs.length = m) : filG gs m = gs.map pv := by unfold filG; rw [h, Nat.sub_self, List.replicate_zero, List.append_nil]
theorem madeP (n : Nat) : (madeCells nilP.cells (n * 1)).toList = filG [] n := by
  unfold madeCells filG
  apply List.ext_getElem?
  intro j
  rw [Array.toList_map, Array.toList_range, List.map_nil, List.nil_append, List.getElem?_map, List.getElem?_replicate, Nat.mul_one]
  by_cases hj : j < n
  · rw [List.getElem?_range hj, if_pos (by show j < n - 0; omega)]
    show some ((#[nilP] : Array Value)[j % 1]!) = _
    rw [Nat.mod_one]; rfl
  · rw [List.getElem?_eq_none (by simp; omega), if_neg (by show ¬ j < n - 0; omega)]; rfl
theorem infoPtr : (Try.prog.info? 52).map (fun i => (i.zero, i.size, i.bytes)) = some (some (.pointer none), 1, 8) := by kernel_rfl
/-- A row of nodes with these texts, all of the call's own. -/
def Nds (w : World) (base : Nat) (v : Value) (gs : List Nat) (l : List ByteArray) : Prop :=
  OwnV w base 52 v (gs.map pv) ∧ gs.length = l.length ∧ gs.Nodup ∧ ∀ i, i < l.length → base ≤ gAt gs i ∧ ∃ b u, CB w (gAt gs i) 54 (tn (bAt l i) b u)
theorem Nds.low {w : World} {base base' : Nat} {v : Value} {gs : List Nat} {l : List ByteArray} (h : Nds w base v gs l) (hb : base' ≤ base) : Nds w base' v gs l :=
  ⟨h.1.low hb, h.2.1, h.2.2.1, fun i hi => ⟨Nat.le_trans hb (h.2.2.2 i hi).1, (h.2.2.2 i hi).2⟩⟩
theorem Nds.mem {w : World} {base : Nat} {v : Value} {gs : List Nat} {l : List ByteArray} (h : Nds w base v gs l) (g : Nat) (hg : g ∈ gs) : base ≤ g ∧ g < w.heap.size := by
  obtain ⟨i, hi, rfl⟩ := gAt_of_mem gs g hg
  obtain ⟨h1, b, u, h2⟩ := h.2.2.2 i (by rw [← h.2.1]; exact hi)
  exact ⟨h1, h2.lt⟩
theorem Nds.off {w : World} {base : Nat} {v : Value} {gs : List Nat} {l : List ByteArray} (h : Nds w base v gs l) (g : Nat) (hg : g ∈ gs) : v.ownBlock ≠ some g := by
  obtain ⟨i, hi, rfl⟩ := gAt_of_mem gs g hg
  obtain ⟨h1, b, u, h2⟩ := h.2.2.2 i (by rw [← h.2.1]; exact hi)
  exact h2.off h.1 (by decide)
end Go.Proofs.Ytljjajbkaffofau

/- Trees by the project's own functions: two nodes joined, rows of nodes, over the loaded program. -/
namespace Go.Proofs.Ytljjajbkaffofau
open Go.RowKit
theorem tn_up (s : ByteArray) (b u x : Value) : (tn s b u).setIfInBounds 2 x = tn s b x := by rfl
theorem tn_beside (s : ByteArray) (b u x : Value) : (tn s b u).setIfInBounds 1 x = tn s x u := by rfl
/-- What is left behind two nodes that were joined. -/
def JPost (w w' : World) (gl gr : Nat) (a b q : ByteArray) (g : Nat) : Prop :=
  w.heap.size ≤ g ∧ CB w' g 54 (tn q nilP nilP) ∧ CB w' gl 54 (tn a (pv gr) (pv g)) ∧ CB w' gr 54 (tn b (pv gl) (pv g)) ∧ KpS (fun k => k = gl ∨ k = gr) w w'
set_option maxRecDepth 20000 in
set_option maxHeartbeats 1000000 in
theorem joined_any (level place : Int) (gl gr : Nat) (a b : ByteArray) (ha : a.size ≤ 1048576) (hb : b.size ≤ 1048576) (bl ul br ur : Value) (hne : gl ≠ gr) (w : World) (hL : CB w gl 54 (tn a bl ul)) (hR : CB w gr 54 (tn b br ur)) :
    Calls Try.prog 46 #[.int .i64 level, .int .i64 place, pv gl, pv gr] w fun e w' => ∃ g, e = .returned (pv g) ∧ JPost w w' gl gr a b (nodeB level place a b) g := by
  have CN := hide (fun W => implNode_any level place a b ha hb W)
  generalize nodeB level place a b = q at *
  have hlg := hL.lt
  have hrg := hR.lt
  have c0 : w.cell? ⟨gl, 0, none⟩ = some (.string a) := hL.cell 0 rfl
  have c1 : w.cell? ⟨gr, 0, none⟩ = some (.string b) := hR.cell 0 rfl
  have KS := hide (fun (W : World) (h : Below w.heap.size w W) => (⟨(h.cell (p := ⟨gl, 0, none⟩) hlg).trans c0, (h.cell (p := ⟨gr, 0, none⟩) hrg).trans c1⟩ : W.cell? ⟨gl, 0, none⟩ = some (.string a) ∧ W.cell? ⟨gr, 0, none⟩ = some (.string b)))
  have HL := hide hL
  have HR := hide hR
  clear hL hR
  show Calls Try.prog 46 #[.int .i64 level, .int .i64 place, .pointer (some ⟨gl, 0, none⟩), .pointer (some ⟨gr, 0, none⟩)] w _
  go_enter Try.func46, Try.ntmps46
  go_wp2
  go_region_held3 (fun W => W.cell? ⟨gl, 0, none⟩ = some (.string a) ∧ W.cell? ⟨gr, 0, none⟩ = some (.string b)) (first | exact ⟨c0, c1⟩ | exact (unhide KS) _ hB1 | exact (unhide KS) _ (hB1.alloc hB1.size _) | fail) (first
    | (go_at_call 21; refine ((unhide CN) _).mono ?_; rintro e w1 ⟨rfl, hb1⟩; have hB1 : Below w.heap.size w w1 := (Below.refl _ w).drew.trans hb1)
    | fail)
  all_goals
    obtain ⟨W, hW, hC, hbW, hsW⟩ := one_cb w1 (tn q nilP nilP) 54
    have HL1 := ((unhide HL).below hB1 hlg).below hbW (Nat.lt_of_lt_of_le hlg hB1.size)
    have HR1 := ((unhide HR).below hB1 hrg).below hbW (Nat.lt_of_lt_of_le hrg hB1.size)
    have hk0 := (below_kps (hB1.trans (hbW.mono hB1.size)) (fun k => k = gl ∨ k = gr))
    have hgs : w.heap.size ≤ w1.heap.size := hB1.size
    have hW2 : w1.alloc (.cells #[.string q, .pointer none, .pointer none] 54) = W := hW
    rw [hW2]
    clear hW hW2 hb1 KS CN c0 c1 HL HR
    have hne1 : w1.heap.size ≠ gl := by omega
    have hne2 : w1.heap.size ≠ gr := by omega
    generalize w1.heap.size = g at *
    have A1 := HL1.set 2 (pv g)
    rw [tn_up] at A1
    have A2 := A1.set_other (h := gr) (k := 2) hne (pv g)
    have A3 := A2.set 1 (pv gr)
    rw [tn_beside] at A3
    have A4 := A3.set_other (h := gr) (k := 1) hne (pv gl)
    have B1 := HR1.set_other (h := gl) (k := 2) (Ne.symm hne) (pv g)
    have B2 := B1.set 2 (pv g)
    rw [tn_up] at B2
    have B3 := B2.set_other (h := gl) (k := 1) (Ne.symm hne) (pv gr)
    have B4 := B3.set 1 (pv gl)
    rw [tn_beside] at B4
    have D4 := (((hC.set_other (h := gl) (k := 2) hne1 (pv g)).set_other (h := gr) (k := 2) hne2 (pv g)).set_other (h := gl) (k := 1) hne1 (pv gr)).set_other (h := gr) (k := 1) hne2 (pv gl)
    have K4 := (((hk0.set gl 2 (pv g) (fun _ => .inl rfl)).set gr 2 (pv g) (fun _ => .inr rfl)).set gl 1 (pv gr) (fun _ => .inl rfl)).set gr 1 (pv gl) (fun _ => .inr rfl)
    have f1 : W.frozen? ⟨gl, 2, none⟩ = false := HL1.frozen 2
    have f1r : W.frozen? ⟨gr, 2, none⟩ = false := HR1.frozen 2
    have f1a : W.frozen? ⟨gl, 1, none⟩ = false := HL1.frozen 1
    have f1b : W.frozen? ⟨gr, 1, none⟩ = false := HR1.frozen 1
    have f2 := B1.frozen 2
    have f3 := A2.frozen 1
    have f4 := B3.frozen 1
    have e1 : W.cell? ⟨gl, 2, none⟩ = some ul := HL1.cell 2 rfl
    have e1r : W.cell? ⟨gr, 2, none⟩ = some ur := HR1.cell 2 rfl
    have e1a : W.cell? ⟨gl, 1, none⟩ = some bl := HL1.cell 1 rfl
    have e1b : W.cell? ⟨gr, 1, none⟩ = some br := HR1.cell 1 rfl
    have e2 := B1.cell 2 (v := ur) rfl
    have e3 := A2.cell 1 (v := bl) rfl
    have e4 := B3.cell 1 (v := br) rfl
    have JP := hide (show JPost w _ gl gr a b q g from ⟨hgs, D4, A4, B4, K4⟩)
    unfold pv at JP f2 f3 f4 e2 e3 e4
    clear D4 A4 B4 K4 A1 A2 A3 B1 B2 B3 hk0 HL1 HR1 hC
    go_wp2
    go_ret
    exact ⟨g, rfl, unhide JP⟩
end Go.Proofs.Ytljjajbkaffofau

/- Trees by the project's own functions: a row of nodes out of texts, over the loaded program. -/
namespace Go.Proofs.Ytljjajbkaffofau
open Go.RowKit
/-- The nodes that are made so far. -/
def Ndk (w : World) (base : Nat) (gs : List Nat) (l : List ByteArray) (k : Nat) : Prop :=
  gs.length = k ∧ gs.Nodup ∧ ∀ i, i < k → base ≤ gAt gs i ∧ CB w (gAt gs i) 54 (tn (bAt l i) nilP nilP)
theorem Ndk.mem {w : World} {base : Nat} {gs : List Nat} {l : List ByteArray} {k : Nat} (h : Ndk w base gs l k) (g : Nat) (hg : g ∈ gs) : base ≤ g ∧ g < w.heap.size := by
  obtain ⟨i, hi, rfl⟩ := gAt_of_mem gs g hg
  obtain ⟨h1, h2⟩ := h.2.2 i (by rw [← h.1]; exact hi)
  exact ⟨h1, h2.lt⟩
theorem nodup_app (gs : List Nat) (g : Nat) (h : gs.Nodup) (hg : g ∉ gs) : (gs ++ [g]).Nodup := by
  rw [List.nodup_append]
  refine ⟨h, by simp, ?_⟩
  intro a ha b hb e
  rw [List.mem_singleton] at hb
  exact hg (by rw [← hb, ← e]; exact ha)
theorem Ndk.next {w w' : World} {base : Nat} {gs : List Nat} {l : List ByteArray} {k : Nat} (h : Ndk w base gs l k) (g : Nat) (hg : w.heap.size ≤ g) (hb : base ≤ w.heap.size) (hS : ∀ q ∈ gs, w'.heap[q]? = w.heap[q]?) (hn : CB w' g 54 (tn (bAt l k) nilP nilP)) : Ndk w' base (gs ++ [g]) l (k + 1) := by
  refine ⟨by rw [List.length_append, h.1]; rfl, nodup_app gs g h.2.1 (fun hm => by have := (h.mem g hm).2; omega), ?_⟩
  intro i hi
  by_cases e : i = k
  · subst e
    have e2 : gAt (gs ++ [g]) i = g := by rw [← h.1]; exact gAt_app_new gs g
    rw [e2]
    exact ⟨by omega, hn⟩
  · have hlt : i < gs.length := by rw [h.1]; omega
    rw [gAt_app_lt gs g i hlt]
    obtain ⟨h1, h2⟩ := h.2.2 i (by omega)
    refine ⟨h1, ?_⟩
    unfold CB
    rw [hS _ (gAt_mem gs i hlt)]
    exact h2
theorem Ndk.nds {w : World} {base : Nat} {gs : List Nat} {l : List ByteArray} {v : Value} (h : Ndk w base gs l l.length) (ho : OwnV w base 52 v (gs.map pv)) : Nds w base v gs l :=
  ⟨ho, h.1, h.2.1, fun i hi => ⟨(h.2.2 i hi).1, nilP, nilP, (h.2.2 i hi).2⟩⟩
set_option maxRecDepth 20000 in
set_option maxHeartbeats 1000000 in
theorem nodesOf_any (l : List ByteArray) (v : Value) (w : World) (hr : RdV w v (l.map sv)) (hn : l.length ≤ 1048576) :
    Calls Try.prog 39 #[v] w fun e w' => (∃ v', e = .returned v' ∧ ∃ gs, Nds w' w.heap.size v' gs l) ∧ Below w.heap.size w w' := by
  obtain ⟨i0, hi, hz0, hz1, hz2⟩ := info_parts infoPtr
  obtain ⟨a, c, rfl, hc⟩ := hr.open
  rw [List.length_map]
  clear hr
  obtain ⟨n, hnn⟩ : ∃ n, l.length = n := ⟨_, rfl⟩
  have HC := hide (fun k (hk : k < n) => hc k _ (bAt_getT l k (by rw [hnn]; exact hk)))
  have HN := hide (fun (W : World) (u : Value) (gs : List Nat) (h : Ndk W w.heap.size gs l n) (ho : OwnV W w.heap.size 52 u (gs.map pv)) => (show Nds W w.heap.size u gs l from (by rw [← hnn] at h; exact h.nds ho)))
  rw [hnn] at hn ⊢
  replace hnn := hide hnn
  clear hc
  go_enter Try.func39, Try.ntmps39
  go_wp2_with (at_make; refine wpList_make_full _ rfl _ _ 49 rfl w.heap.size 52 i0 (.pointer none) 1 Try.underlying49 hi hz0 hz1 _ _ _ _ n rfl rfl rfl rfl (by rw [hz2]; omega) (by unfold maxLen; omega) (Nat.le_refl _) ?_; intro w1 hown1 hgrow1)
  have hr0 : OwnV w1 w.heap.size 52 (.slice (some ⟨w.heap.size, 0, none⟩) n n) (filG [] n) := by
    have h := madeP n
    unfold nilP at h
    rw [h] at hown1
    unfold OwnV
    rw [filG_len [] n (Nat.zero_le _)]
    exact hown1
  have hb0 : Below w.heap.size w w1 := (Below.refl w.heap.size w).grown hgrow1 (Nat.le_refl _) (fun k hk => by cases hk)
  clear hown1 hgrow1
  go_loopw [11] (fun ti wr => ∃ (k : Nat) (gs : List Nat), k ≤ n ∧ ti = .int .i64 k ∧ Hid (OwnV wr w.heap.size 52 (.slice (some ⟨w.heap.size, 0, none⟩) n n) (filG gs n)) ∧ Hid (Ndk wr w.heap.size gs l k) ∧ Below w.heap.size w wr ∧ w.heap.size < wr.heap.size) (fun ti _ => n - (intOf ti).toNat)
  case atStart => exact ⟨0, [], Nat.zero_le _, rfl, hide hr0, hide ⟨rfl, List.nodup_nil, fun i hi => absurd hi (Nat.not_lt_zero _)⟩, hb0, (hr0.lt _ rfl).2⟩
  case round =>
    obtain ⟨k, gs, hk, rfl, HO, HK, hb, hszz⟩ := hrel
    clear hr0 hb0
    by_cases hlt : k < n
    · have hk' : (k : Int) < (n : Int) := by omega
      have hk0 : (0 : Int) ≤ (k : Int) := by omega
      obtain ⟨g, o, rfl, hg, d1⟩ := unhide HC k hlt
      have d2 := (hb.cell (p := ⟨g, o + k, none⟩) hg).trans d1
      obtain ⟨x, hx⟩ : ∃ x, x = bAt l k := ⟨_, rfl⟩
      rw [← hx] at d2
      clear d1 HC HN
      obtain ⟨W, hW, hCn, hbW, hsW⟩ := one_cb wr (tn x nilP nilP) 54
      have hO1 := (unhide HO).below hbW
      have hOl := hO1.len
      obtain ⟨u, hu⟩ : ∃ u, (filG gs n)[k]? = some u := ⟨_, List.getElem?_eq_getElem (by have h := filG_len gs n (by rw [(unhide HK).1]; exact hk); omega)⟩
      have cu := hO1.cell hu
      have cz := hO1.frozen k
      have ho2 := hO1.set k (pv wr.heap.size)
      rw [filG_set gs n k (unhide HK).1 hlt] at ho2
      have hne : wr.heap.size ≠ w.heap.size := by omega
      have hk2 : Ndk (W.setCell ⟨w.heap.size, k, none⟩ (pv wr.heap.size)) w.heap.size (gs ++ [wr.heap.size]) l (k + 1) := by
        have hM := (unhide HK).mem
        refine (unhide HK).next wr.heap.size (Nat.le_refl _) (Nat.le_of_lt hszz) ?_ ?_
        · intro q hq
          have hq2 := hM q hq
          have hoff : q ≠ w.heap.size := by
            intro e
            obtain ⟨i, hi1, hi2⟩ := gAt_of_mem gs q hq
            have hcb := ((unhide HK).2.2 i (by rw [← (unhide HK).1]; exact hi1)).2
            rw [hi2, e] at hcb
            exact (hcb.off (unhide HO) (by decide)) rfl
          rw [RowKit.Below.heap_setCell _ _ _ _ hoff]
          exact hbW.block q hq2.2
        · rw [← hx]
          exact hCn.set_other hne _
      have hB2 := (hb.trans (hbW.mono hb.size)).setCell (p := ⟨w.heap.size, k, none⟩) (Nat.le_refl _) (pv wr.heap.size)
      have hs2 : w.heap.size < W.heap.size := by omega
      replace ho2 := hide ho2; replace hk2 := hide hk2; replace hu := hide hu; replace hOl := hide hOl
      have hW2 : wr.alloc (.cells #[.string x, .pointer none, .pointer none] 54) = W := hW
      replace hx := hide hx
      clear hCn hW hO1 HO HK
      unfold pv at ho2 hk2 hB2
      go_wp2
      exact ⟨⟨k + 1, gs ++ [wr.heap.size], by omega, by go_num, ho2, hk2, hB2, by simpa using hs2⟩, by simp [intOf]; omega⟩
    · have hkn : k = n := by omega
      have hk' : ¬ (k : Int) < (n : Int) := by omega
      have hN := hide (unhide HN wr _ gs (by rw [← hkn]; exact unhide HK) (by have h := unhide HO; rw [filG_full gs n (by rw [(unhide HK).1, hkn])] at h; exact h))
      clear HC HN HO HK
      go_wp2
      go_ret
      exact ⟨⟨_, rfl, gs, unhide hN⟩, hb⟩
end Go.Proofs.Ytljjajbkaffofau

/- Trees by the project's own functions: the nodes above a row of nodes, over the loaded program. -/
namespace Go.Proofs.Ytljjajbkaffofau
open Go.RowKit
/-- Each two of gs stand beside each other, and below one of gs'. -/
def Lnk (w : World) (gs gs' : List Nat) (l : List ByteArray) (m : Nat) : Prop :=
  ∀ i, i < m → CB w (gAt gs (2 * i)) 54 (tn (bAt l (2 * i)) (pv (gAt gs (2 * i + 1))) (pv (gAt gs' i))) ∧ CB w (gAt gs (2 * i + 1)) 54 (tn (bAt l (2 * i + 1)) (pv (gAt gs (2 * i))) (pv (gAt gs' i)))
def AInv (w wr : World) (base : Nat) (v : Value) (gs : List Nat) (l : List ByteArray) (level : Int) (k : Nat) (gs' : List Nat) : Prop :=
  Ndk wr w.heap.size gs' (lvL level l) k ∧ Lnk wr gs gs' l k ∧ (∀ i, 2 * k ≤ i → i < l.length → ∃ b u, CB wr (gAt gs i) 54 (tn (bAt l i) b u)) ∧ OwnV wr base 52 v (gs.map pv) ∧ KpS (fun q => q ∈ gs) w wr
theorem AInv.next {w wr w2 : World} {base : Nat} {v : Value} {gs gs' : List Nat} {l : List ByteArray} {level : Int} {k m g : Nat} (hN : Nds w base v gs l) (h : AInv w wr base v gs l level k gs') (hk : k < l.length / 2)
    (hrow : OwnV wr w.heap.size 52 (.slice (some ⟨w.heap.size, 0, none⟩) m m) (filG gs' m))
    (hJ : JPost wr w2 (gAt gs (2 * k)) (gAt gs (2 * k + 1)) (bAt l (2 * k)) (bAt l (2 * k + 1)) (lvN level l k) g) :
    AInv w (w2.setCell ⟨w.heap.size, k, none⟩ (pv g)) base v gs l level (k + 1) (gs' ++ [g]) ∧ OwnV w2 w.heap.size 52 (.slice (some ⟨w.heap.size, 0, none⟩) m m) (filG gs' m) ∧ OwnV w2 base 52 v (gs.map pv) := by
  obtain ⟨hn1, hn2, hn3, hn4⟩ := hN
  obtain ⟨h1, h2, h3, h4, h5⟩ := h
  obtain ⟨j1, j2, j3, j4, j5⟩ := hJ
  have hN : Nds w base v gs l := ⟨hn1, hn2, hn3, hn4⟩
  have hlen : 2 * k + 1 < l.length := by omega
  have hsz := h5.size
  have hlt : w.heap.size < wr.heap.size := (hrow.lt _ rfl).2
  have hgl := hN.mem _ (gAt_mem gs (2 * k) (by omega))
  have hgr := hN.mem _ (gAt_mem gs (2 * k + 1) (by omega))
  have hinj := fun i j hi hj => gAt_inj gs hn3 i j hi hj
  have hgsN : ∀ i, i < gs.length → gAt gs i ≠ w.heap.size := fun i hi e => by have := (hN.mem _ (gAt_mem gs i hi)).2; omega
  have keep : ∀ q T cs, CB wr q T cs → q ≠ gAt gs (2 * k) → q ≠ gAt gs (2 * k + 1) → q ≠ w.heap.size → CB (w2.setCell ⟨w.heap.size, k, none⟩ (pv g)) q T cs := fun q T cs hc e1 e2 e3 =>
    (hc.kps j5 (fun e => e.elim e1 e2)).set_other e3 _
  have hrow2 : OwnV w2 w.heap.size 52 (.slice (some ⟨w.heap.size, 0, none⟩) m m) (filG gs' m) := hrow.kps j5 (fun q hq e => by
    have : w.heap.size = q := Option.some.inj hq
    rcases e with e | e <;> omega)
  have hv2 : OwnV w2 base 52 v (gs.map pv) := h4.kps j5 (by
    intro q hq e
    rcases e with e | e
    · exact hN.off _ (gAt_mem gs (2 * k) (by omega)) (by rw [← e]; exact hq)
    · exact hN.off _ (gAt_mem gs (2 * k + 1) (by omega)) (by rw [← e]; exact hq))
  refine ⟨⟨?_, ?_, ?_, ?_, ?_⟩, hrow2, hv2⟩
  · refine h1.next g j1 (by omega) ?_ ?_
    · intro q hq
      have hq2 := h1.mem q hq
      have hoff : q ≠ w.heap.size := by
        intro e
        obtain ⟨i, hi1, hi2⟩ := gAt_of_mem gs' q hq
        have hcb := (h1.2.2 i (by rw [← h1.1]; exact hi1)).2
        rw [hi2, e] at hcb
        exact (hcb.off hrow (by decide)) rfl
      rw [RowKit.Below.heap_setCell _ _ _ _ hoff]
      exact j5.2.2.2.2 q hq2.2 (fun e => by rcases e with e | e <;> omega)
    · rw [lvL_at level l k hk]
      exact j2.set_other (by omega) _
  · intro i hi
    have hl' := h1.1
    by_cases e : i = k
    · subst e
      have e2 : gAt (gs' ++ [g]) i = g := by rw [← hl']; exact gAt_app_new gs' g
      rw [e2]
      exact ⟨j3.set_other (hgsN _ (by omega)) _, j4.set_other (hgsN _ (by omega)) _⟩
    · have hik : i < k := by omega
      rw [gAt_app_lt gs' g i (by omega)]
      obtain ⟨c1, c2⟩ := h2 i hik
      exact ⟨keep _ _ _ c1 (fun e => by have := hinj _ _ (by omega) (by omega) e; omega) (fun e => by have := hinj _ _ (by omega) (by omega) e; omega) (hgsN _ (by omega)), keep _ _ _ c2 (fun e => by have := hinj _ _ (by omega) (by omega) e; omega) (fun e => by have := hinj _ _ (by omega) (by omega) e; omega) (hgsN _ (by omega))⟩
  · intro i hi hil
    obtain ⟨b, u, c1⟩ := h3 i (by omega) hil
    exact ⟨b, u, keep _ _ _ c1 (fun e => by have := hinj _ _ (by omega) (by omega) e; omega) (fun e => by have := hinj _ _ (by omega) (by omega) e; omega) (hgsN _ (by omega))⟩
  · refine hv2.setO _ _ _ ?_
    intro e
    have := (hn1.lt _ e).2
    omega
  · refine (h5.trans2 j5 ?_).set _ _ _ (fun e => absurd e (Nat.lt_irrefl _))
    intro i _ e
    rcases e with e | e
    · subst e; exact gAt_mem gs _ (by omega)
    · subst e; exact gAt_mem gs _ (by omega)
theorem lvN_at (level : Int) (l : List ByteArray) (i : Nat) : lvN level l i = nodeB level (i : Int) (bAt l (2 * i)) (bAt l (2 * i + 1)) := rfl
theorem Nds.row {w : World} {base n : Nat} {v : Value} {gs : List Nat} {l : List ByteArray} (h : Nds w base v gs l) (hl : l.length = n) (hn : 0 < n) : ∃ gv c, v = .slice (some ⟨gv, 0, none⟩) n c ∧ gv < w.heap.size := by
  have ho := h.1
  have hgl := h.2.1
  rcases ho.2 with ⟨_, h2⟩ | ⟨g, cap, cur, h1, h2, h3, rest⟩
  · rw [List.length_map] at h2; omega
  · refine ⟨g, cap, by rw [h1, List.length_map, hgl, hl], (ho.lt g (by rw [h1]; rfl)).2⟩
theorem Nds.shape {w : World} {base : Nat} {v : Value} {gs : List Nat} {l : List ByteArray} (h : Nds w base v gs l) : ∃ a c, v = .slice a l.length c := by
  obtain ⟨a, c, e⟩ := h.1.shape
  rw [List.length_map, h.2.1] at e
  exact ⟨a, c, e⟩
set_option maxRecDepth 20000 in
set_option maxHeartbeats 1000000 in
theorem nodesAbove_any (level : Int) (l : List ByteArray) (gs : List Nat) (base : Nat) (v : Value) (w : World) (hN : Nds w base v gs l) (hs : ∀ x ∈ l, x.size ≤ 1048576) (hn : l.length ≤ 1048576) :
    Calls Try.prog 38 #[.int .i64 level, v] w fun e w' => ∃ v', e = .returned v' ∧ ∃ gs', Nds w' w.heap.size v' gs' (lvL level l) ∧ Lnk w' gs gs' l (l.length / 2) ∧ KpS (fun q => q ∈ gs) w w' := by
  obtain ⟨i0, hi, hz0, hz1, hz2⟩ := info_parts infoPtr
  obtain ⟨n, hnn⟩ : ∃ n, l.length = n := ⟨_, rfl⟩
  obtain ⟨m, hm⟩ : ∃ m, m = n / 2 := ⟨_, rfl⟩
  obtain ⟨a, c, rfl⟩ := hN.shape
  have CJ := hide (show ∀ (k : Nat) W (bl ul br ur : Value), k < m → CB W (gAt gs (2 * k)) 54 (tn (bAt l (2 * k)) bl ul) → CB W (gAt gs (2 * k + 1)) 54 (tn (bAt l (2 * k + 1)) br ur) → Calls Try.prog 46 #[.int .i64 level, .int .i64 (k : Int), pv (gAt gs (2 * k)), pv (gAt gs (2 * k + 1))] W fun e w' => ∃ g, e = .returned (pv g) ∧ JPost W w' (gAt gs (2 * k)) (gAt gs (2 * k + 1)) (bAt l (2 * k)) (bAt l (2 * k + 1)) (lvN level l k) g from
    fun k W bl ul br ur hk h1 h2 => joined_any level (k : Int) _ _ _ _ (bAt_sizeT l _ _ hs) (bAt_sizeT l _ _ hs) bl ul br ur (fun e => by have := gAt_inj gs hN.2.2.1 _ _ (by rw [hN.2.1]; omega) (by rw [hN.2.1]; omega) e; omega) W h1 h2)
  have HA := hide (fun (wr w2 : World) (k : Nat) (gs' : List Nat) (g : Nat) (h : AInv w wr base (.slice a l.length c) gs l level k gs') (hk : k < m) hrow hJ => AInv.next (m := m) (g := g) (w2 := w2) hN h (by rw [hnn, ← hm]; exact hk) hrow hJ)
  have HE := hide (show ∀ (wr : World) (gs' : List Nat), AInv w wr base (.slice a l.length c) gs l level m gs' → OwnV wr w.heap.size 52 (.slice (some ⟨w.heap.size, 0, none⟩) m m) (filG gs' m) → Nds wr w.heap.size (.slice (some ⟨w.heap.size, 0, none⟩) m m) gs' (lvL level l) ∧ Lnk wr gs gs' l (l.length / 2) ∧ KpS (fun q => q ∈ gs) w wr from fun wr gs' h ho => by
    have hll : (lvL level l).length = m := by rw [lvL_len, hnn, hm]
    have h1 := h.1
    have h2 := h.2.1
    rw [filG_full gs' m h1.1] at ho
    rw [← hll] at h1
    refine ⟨h1.nds ho, ?_, h.2.2.2.2⟩
    rw [hnn, ← hm]
    exact h2)
  have H0 := hide (show ∀ w1, Below w.heap.size w w1 → AInv w w1 base (.slice a l.length c) gs l level 0 [] from fun w1 hb => ⟨⟨rfl, List.nodup_nil, fun i hi => absurd hi (Nat.not_lt_zero _)⟩, fun i hi => absurd hi (Nat.not_lt_zero _), fun i _ hil => by
      obtain ⟨_, b, u, h⟩ := hN.2.2.2 i hil
      exact ⟨b, u, h.step hb⟩, hN.1.below hb, below_kps hb _⟩)
  have HR := hide (show ∀ k, k < m → ∃ gv, a = some ⟨gv, 0, none⟩ ∧ ∀ W, OwnV W base 52 (.slice a l.length c) (gs.map pv) → W.cell? ⟨gv, 2 * k, none⟩ = some (pv (gAt gs (2 * k))) ∧ W.cell? ⟨gv, 2 * k + 1, none⟩ = some (pv (gAt gs (2 * k + 1))) from fun k hk => by
    obtain ⟨gv, cc, e, _⟩ := hN.row hnn (by omega)
    obtain ⟨rfl, _, rfl⟩ := Value.slice.inj e
    exact ⟨gv, rfl, fun W ho => ⟨ho.cell (gAt_get gs _ (by rw [hN.2.1]; omega)), ho.cell (gAt_get gs _ (by rw [hN.2.1]; omega))⟩⟩)
  rw [hnn] at hn HA HE H0 HR ⊢
  have hm2 : 2 * m ≤ n := by omega
  have hmb : m ≤ 1048576 := by omega
  have hq : (n : Int) / 2 = (m : Int) := by omega
  have hq2 : (n : Int).tdiv 2 = (m : Int) := by rw [Int.tdiv_eq_ediv_of_nonneg (by omega)]; omega
  rw [← hm] at HE ⊢
  replace hnn := hide hnn
  replace hm := hide hm
  clear hN hs
  go_enter Try.func38, Try.ntmps38
  go_wp2_with (at_make; refine wpList_make_full _ rfl _ _ 49 rfl w.heap.size 52 i0 (.pointer none) 1 Try.underlying49 hi hz0 hz1 _ _ _ _ m rfl rfl rfl rfl (by rw [hz2]; omega) (by unfold maxLen; omega) (Nat.le_refl _) ?_; intro w1 hown1 hgrow1)
  have hr0 : OwnV w1 w.heap.size 52 (.slice (some ⟨w.heap.size, 0, none⟩) m m) (filG [] m) := by
    have h := madeP m
    unfold nilP at h
    rw [h] at hown1
    unfold OwnV
    rw [filG_len [] m (Nat.zero_le _)]
    exact hown1
  have hb0 : Below w.heap.size w w1 := (Below.refl w.heap.size w).grown hgrow1 (Nat.le_refl _) (fun k hk => by cases hk)
  have ha0 := hide (unhide H0 w1 hb0)
  clear hown1 hgrow1 H0 hb0
  go_loopw [13] (fun ti wr => ∃ (k : Nat) (gs' : List Nat), k ≤ m ∧ ti = .int .i64 k ∧ Hid (OwnV wr w.heap.size 52 (.slice (some ⟨w.heap.size, 0, none⟩) m m) (filG gs' m)) ∧ Hid (AInv w wr base (.slice a n c) gs l level k gs')) (fun ti _ => m - (intOf ti).toNat)
  case atStart => exact ⟨0, [], Nat.zero_le _, rfl, hide hr0, ha0⟩
  case round =>
    obtain ⟨k, gs', hk, rfl, HO, HI⟩ := hrel
    clear hr0 ha0
    by_cases hlt : k < m
    · have hk' : (k : Int) < (m : Int) := by omega
      have hk0 : (0 : Int) ≤ (k : Int) := by omega
      obtain ⟨gv, rfl, hcl⟩ := unhide HR k hlt
      obtain ⟨p, hp⟩ : ∃ p, p = 2 * k := ⟨_, rfl⟩
      obtain ⟨q, hqq⟩ : ∃ q, q = 2 * k + 1 := ⟨_, rfl⟩
      have hp1 : (p : Int) < (n : Int) := by omega
      have hq1 : (q : Int) < (n : Int) := by omega
      have hp0 : (0 : Int) ≤ (p : Int) := by omega
      have hq0 : (0 : Int) ≤ (q : Int) := by omega
      have e1 : 2 * (k : Int) = (p : Int) := by omega
      have e2 : (p : Int) + 1 = (q : Int) := by omega
      have u1 : IntKind.i64.wrap (2 * (k : Int)) = (p : Int) := by rw [IntKind.wrap_i64]; omega
      have u2 : IntKind.i64.wrap ((p : Int) + 1) = (q : Int) := by rw [IntKind.wrap_i64]; omega
      have u3 : IntKind.i64.wrap (p : Int) = (p : Int) := by rw [IntKind.wrap_i64]; omega
      have u4 : IntKind.i64.wrap (q : Int) = (q : Int) := by rw [IntKind.wrap_i64]; omega
      obtain ⟨hi1, hi2, hi3, hi4, hi5⟩ := unhide HI
      have hkn : 2 * k + 1 < l.length := by rw [unhide hnn]; omega
      obtain ⟨bl, ul, HL⟩ := hi3 (2 * k) (Nat.le_refl _) (by omega)
      obtain ⟨br, ur, HRr⟩ := hi3 (2 * k + 1) (by omega) hkn
      have KS := hide (fun (W : World) (h : OwnV W base 52 (.slice (some ⟨gv, 0, none⟩) n c) (gs.map pv)) => hcl W h)
      have cj := hide (fun W h1 h2 => unhide CJ k W bl ul br ur hlt h1 h2)
      have hx := hide (fun w2 g hJ => unhide HA wr w2 k gs' g (unhide HI) hlt (unhide HO) hJ)
      have HFs := hide (fun g => filG_set gs' m k hi1.1 hlt g)
      have hfl := hide (filG_len gs' m (by rw [hi1.1]; exact hk))
      obtain ⟨d1, d2⟩ := unhide KS _ hi4
      rw [← hqq, ← hp] at KS cj hx
      rw [← hp] at d1
      rw [← hqq] at d2
      rw [← hp] at HL
      rw [← hqq] at HRr
      have hsw := hide (show w.heap.size < wr.heap.size from ((unhide HO).lt _ rfl).2)
      obtain ⟨uu, huu⟩ : ∃ uu, (filG gs' m)[k]? = some uu := ⟨_, List.getElem?_eq_getElem (by rw [unhide hfl]; exact hlt)⟩
      generalize lvN level l k = fk at *
      generalize bAt l p = xa at *
      generalize bAt l q = xb at *
      generalize gAt gs p = gl at *
      generalize gAt gs q = gr at *
      replace HL := hide HL; replace HRr := hide HRr; replace hp := hide hp; replace hqq := hide hqq; replace huu := hide huu
      unfold pv at d1 d2 cj KS
      clear hi1 hi2 hi3 hi4 hi5 HI CJ HA HE HR hcl hkn
      go_wp2
      go_region_held3 (fun W => W.cell? ⟨gv, p, none⟩ = some (.pointer (some ⟨gl, 0, none⟩)) ∧ W.cell? ⟨gv, q, none⟩ = some (.pointer (some ⟨gr, 0, none⟩))) (first | exact ⟨d1, d2⟩ | exact ⟨d3, d4⟩ | exact ⟨d5, d6⟩ | fail) (first
        | (go_at_call 46; refine (unhide cj _ (by exact unhide HL) (by exact unhide HRr)).mono ?_; rintro e w2 ⟨g, rfl, hJ⟩; obtain ⟨n1, n2, n3⟩ := unhide hx w2 g (by exact hJ); obtain ⟨d3, d4⟩ := unhide KS _ n3; have cu := n2.cell (unhide huu); have cz := n2.frozen k; have ho2 := n2.set k (pv g); rw [unhide HFs] at ho2; obtain ⟨d5, d6⟩ := unhide KS _ n1.2.2.2.1)
        | fail)
      all_goals
        replace ho2 := hide ho2
        replace n1 := hide n1
        unfold pv at ho2 n1
        clear n2 n3 d1 d2 d3 d4 d5 d6 hJ hx cj KS HL HRr HO HFs
        go_wp2
        exact ⟨⟨k + 1, gs' ++ [g], by omega, by go_num, ho2, n1⟩, by simp [intOf]; omega⟩
    · have hkn : k = m := by omega
      have hk' : ¬ (k : Int) < (m : Int) := by omega
      obtain ⟨r1, r2, r3⟩ := unhide HE wr gs' (by rw [← hkn]; exact unhide HI) (unhide HO)
      replace r1 := hide r1; replace r2 := hide r2; replace r3 := hide r3
      clear HE HO HI HR CJ HA
      go_wp2
      go_ret
      exact ⟨_, rfl, gs', unhide r1, unhide r2, unhide r3⟩
end Go.Proofs.Ytljjajbkaffofau

