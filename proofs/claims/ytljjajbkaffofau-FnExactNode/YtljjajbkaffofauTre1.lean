/- Trees by the given model: nodes and levels, over the loaded program. -/
import Derived.Test.YtljjajbkaffofauTre0
import Derived.Test.YtljjajbkaffofauChn4
import Derived.Test.YtljjajbkaffofauTxs
import Derived.Test.YtljjajbkaffofauRws
namespace Go.Proofs.Ytljjajbkaffofau
open Go.RowKit
theorem bAt_getT (l : List ByteArray) (k : Nat) (h : k < l.length) : (l.map sv)[k]? = some (.string (bAt l k)) := by
  rw [sv_get l k h]
  unfold bAt
  rw [List.getD_eq_getElem?_getD, List.getElem?_eq_getElem h]
  rfl
theorem bAt_sizeT (l : List ByteArray) (k n : Nat) (hn : ∀ x ∈ l, x.size ≤ n) : (bAt l k).size ≤ n := by
  unfold bAt
  rw [List.getD_eq_getElem?_getD]
  cases h : l[k]? with
  | none => exact Nat.zero_le _
  | some x => exact hn x (List.mem_of_getElem? h)
def preT (f : Nat → ByteArray) (k : Nat) : List ByteArray := (List.range k).map f
theorem preT_len (f : Nat → ByteArray) (k : Nat) : (preT f k).length = k := by unfold preT; rw [List.length_map, List.length_range]
theorem preT_succ (f : Nat → ByteArray) (k : Nat) : preT f (k + 1) = preT f k ++ [f k] := by unfold preT; rw [List.range_succ, List.map_append]; rfl
set_option maxRecDepth 20000 in
set_option maxHeartbeats 800000 in
theorem specNode_any (level place : Int) (a b : ByteArray) (ha : a.size ≤ 1048576) (hb : b.size ≤ 1048576) (w : World) :
    Calls Try.prog 20 #[.int .i64 level, .int .i64 place, .string a, .string b] w fun e w' => e = .returned (.string (nodeB level place a b)) ∧ Below w.heap.size w w' := by
  have CB := hide (fun z W => specByteY_any z W)
  have CC := hide (fun W => specChop_any (oneY level ++ oneY place ++ a ++ b ++ ⟨#[110]⟩) (by rw [ByteArray.size_append, ByteArray.size_append, ByteArray.size_append, ByteArray.size_append, oneY_size, oneY_size]; show 1 + 1 + a.size + b.size + 1 ≤ _; omega) W)
  have HN := hide (show chopB (oneY level ++ oneY place ++ a ++ b ++ ⟨#[110]⟩) = nodeB level place a b from rfl)
  rw [unhide HN] at CC
  have za := oneY_size level
  have zb := oneY_size place
  have c1 := hide (unhide CB level)
  have c2 := hide (unhide CB place)
  generalize nodeB level place a b = R at *
  generalize oneY level = ya at *
  generalize oneY place = yb at *
  have za' : ya.size ≤ 1 := by omega
  have zb' : yb.size ≤ 1 := by omega
  replace za := hide za; replace zb := hide zb
  clear CB HN
  go_enter Try.func20, Try.ntmps20
  go_wp2_with fail
  refine (unhide c1 w).mono ?_
  rintro e w1 ⟨rfl, hb1⟩
  go_wp2_with fail
  refine (unhide c2 w1).mono ?_
  rintro e w2 ⟨rfl, hb2⟩
  have hB2 := hb1.trans (hb2.mono hb1.size)
  go_wp2_with fail
  refine (unhide CC w2).mono ?_
  rintro e w3 ⟨rfl, hb3⟩
  have hB3 := hB2.trans (hb3.mono hB2.size)
  go_wp2
  go_ret
  exact ⟨rfl, hB3⟩
set_option maxRecDepth 20000 in
set_option maxHeartbeats 800000 in
theorem specLevelUp_any (level : Int) (l : List ByteArray) (v : Value) (w : World) (hr : RdV w v (l.map sv)) (hl : ∀ x ∈ l, x.size ≤ 1048576) (hn : l.length ≤ 1048576) :
    Calls Try.prog 22 #[.int .i64 level, v] w fun e w' => (∃ v', e = .returned v' ∧ OwnV w' w.heap.size 9 v' ((lvL level l).map sv)) ∧ Below w.heap.size w w' := by
  obtain ⟨i0, hi, hz0, hz1, hz2⟩ := info_parts infoTxt
  obtain ⟨a, c, rfl, hc⟩ := hr.open
  rw [List.length_map]
  clear hr
  obtain ⟨n, hnn⟩ : ∃ n, l.length = n := ⟨_, rfl⟩
  obtain ⟨h, hh⟩ : ∃ h, h = n / 2 := ⟨_, rfl⟩
  have EL := hide (show lvL level l = preT (lvN level l) h by rw [hh, ← hnn]; rfl)
  rw [unhide EL]
  have CN := hide (show ∀ (k : Nat) W, Calls Try.prog 20 #[.int .i64 level, .int .i64 (k : Int), .string (bAt l (2 * k)), .string (bAt l (2 * k + 1))] W fun e w' => e = .returned (.string (lvN level l k)) ∧ Below W.heap.size W w' from fun k W => specNode_any level (k : Int) _ _ (bAt_sizeT l _ _ hl) (bAt_sizeT l _ _ hl) W)
  have HC := hide (fun k (hk : k < n) => hc k _ (bAt_getT l k (by rw [hnn]; exact hk)))
  rw [hnn] at hn ⊢
  generalize lvN level l = F at *
  replace hnn := hide hnn
  have hh2 := hide (show 2 * h ≤ n ∧ n ≤ 2 * h + 1 by omega)
  have hhb : h ≤ 1048576 := by omega
  replace hh := hide hh
  clear EL hc
  have ho0 : OwnV (w.alloc (.cells #[] 9)) w.heap.size 9 (.slice (some ⟨w.heap.size, 0, none⟩) 0 0) ((preT F 0).map sv) := World.ownsRow_made w #[] 0 (Nat.le_refl _) (by decide) (by simp)
  replace ho0 := hide ho0
  have hb0 := (Below.refl w.heap.size w).alloc (Nat.le_refl _) (.cells #[] 9)
  go_enter Try.func22, Try.ntmps22
  go_wp2
  go_loopw [5, 6] (fun tv ti wr => ∃ k : Nat, k ≤ h ∧ ti = .int .i64 (k : Int) ∧ Hid (OwnV wr w.heap.size 9 tv ((preT F k).map sv)) ∧ Below w.heap.size w wr) (fun _ ti _ => h - (intOf ti).toNat)
  case atStart => exact ⟨0, by omega, rfl, ho0, hb0⟩
  case round =>
    clear ho0 hb0
    obtain ⟨k, hk, rfl, HO, hB⟩ := hrel
    have hkb : k ≤ 1048576 := by omega
    have hsz := hB.size
    by_cases hlt : k < h
    · obtain ⟨p, hp⟩ : ∃ p, p = 2 * k := ⟨_, rfl⟩
      obtain ⟨q, hq⟩ : ∃ q, q = 2 * k + 1 := ⟨_, rfl⟩
      have hqn : q < n := by have := (unhide hh2).1; omega
      have hk' : (q : Int) < (n : Int) := by omega
      have hk2 : (p : Int) < (n : Int) := by omega
      have hk0 : (0 : Int) ≤ (p : Int) := by omega
      have hk1 : (0 : Int) ≤ (q : Int) := by omega
      have e1 : 2 * (k : Int) = (p : Int) := by omega
      have e2 : (p : Int) + 1 = (q : Int) := by omega
      have w1 : IntKind.i64.wrap (2 * (k : Int)) = (p : Int) := by rw [IntKind.wrap_i64]; omega
      have w2 : IntKind.i64.wrap ((p : Int) + 1) = (q : Int) := by rw [IntKind.wrap_i64]; omega
      have w3 : IntKind.i64.wrap (p : Int) = (p : Int) := by rw [IntKind.wrap_i64]; omega
      have w4 : IntKind.i64.wrap (q : Int) = (q : Int) := by rw [IntKind.wrap_i64]; omega
      obtain ⟨g, o, rfl, hg, d1⟩ := unhide HC p (by omega)
      obtain ⟨g', o', he, hg', d1'⟩ := unhide HC q (by omega)
      obtain ⟨rfl, rfl, _⟩ := Addr.mk.inj (Option.some.inj he)
      have c0 := hide (unhide CN k)
      rw [← hq, ← hp] at c0
      have KS := hide (fun (W : World) (h : Below w.heap.size w W) => (⟨(h.cell (p := ⟨g, o + p, none⟩) hg).trans d1, (h.cell (p := ⟨g, o + q, none⟩) hg).trans d1'⟩ : W.cell? ⟨g, o + p, none⟩ = some (.string (bAt l p)) ∧ W.cell? ⟨g, o + q, none⟩ = some (.string (bAt l q))))
      obtain ⟨d2, d3⟩ := unhide KS _ hB
      replace hp := hide hp; replace hq := hide hq
      have HP := hide (preT_succ F k)
      have hl1 : ((preT F k).map sv).length + 1 ≤ maxLen := by rw [List.length_map, preT_len]; unfold maxLen; omega
      have hl2 : (((preT F k).map sv).length + 1) * 16 ≤ 140737488355328 := by rw [List.length_map, preT_len]; omega
      generalize bAt l p = xa at *
      generalize bAt l q = xb at *
      generalize F k = fk at *
      replace hl1 := hide hl1; replace hl2 := hide hl2
      clear HC CN d1 d1' he
      go_wp2
      go_region_held3 (fun W => W.cell? ⟨g, o + p, none⟩ = some (.string xa) ∧ W.cell? ⟨g, o + q, none⟩ = some (.string xb)) (first | exact ⟨d2, d3⟩ | exact (unhide KS) _ hB5 | exact (unhide KS) _ hB4 | exact (unhide KS) _ (hB4.alloc hB4.size _) | fail) (first
        | (refine step_append_u (w := w4) (u := .string fk) rfl rfl rfl (.tmp 16) (.tmp 31) 22 rfl w.heap.size w.heap.size i0 (.string ⟨#[]⟩) 16 Try.underlying22 hi hz0 hz1 hz2 rfl _ _ rfl (by exact hO4) rfl (unhide hl1) (unhide hl2) (Nat.le_refl _) (by exact hB4.size) hB4 ?_; intro v' w5 hown5 hB5)
        | (go_at_call 20; refine (unhide c0 _).mono ?_; rintro e w4 ⟨rfl, hb4⟩; have hO4 := OwnV.below (w := wr.drew) (unhide HO) hb4; have hB4 := (hB.drew).trans (hb4.mono hB.size)))
      all_goals
        have hown6 := hide (show OwnV w5 w.heap.size 9 v' ((preT F (k + 1)).map sv) by rw [unhide HP, List.map_append]; exact hown5)
        clear hown5 hO4 d2 d3 KS HO
        go_wp2
        exact ⟨⟨k + 1, by omega, by go_num, hown6, hB5⟩, by simp [intOf]; omega⟩
    · have hk' : ¬ 2 * (k : Int) + 1 < (n : Int) := by have := unhide hh2; omega
      obtain rfl : k = h := by omega
      clear HC
      go_wp2
      go_ret
      exact ⟨⟨_, rfl, unhide HO⟩, hB⟩
end Go.Proofs.Ytljjajbkaffofau
