/- Chains by the given model: keys for once, their public half, signatures, what is found, over the loaded program. -/
import Derived.Test.YtljjajbkaffofauChn2
import Derived.Test.YtljjajbkaffofauTxs
import Derived.Test.YtljjajbkaffofauRws
import Derived.Deep.QuietTactic
namespace Go.Proofs.Ytljjajbkaffofau
open Go.RowKit
def preS (f : Nat → ByteArray) (k : Nat) : List ByteArray := (List.range k).map f
theorem preS_len (f : Nat → ByteArray) (k : Nat) : (preS f k).length = k := by unfold preS; rw [List.length_map, List.length_range]
theorem preS_succ (f : Nat → ByteArray) (k : Nat) : preS f (k + 1) = preS f k ++ [f k] := by unfold preS; rw [List.range_succ, List.map_append]; rfl
theorem bAt_get (l : List ByteArray) (k : Nat) (h : k < l.length) : (l.map sv)[k]? = some (.string (bAt l k)) := by
  rw [sv_get l k h]
  unfold bAt
  rw [List.getD_eq_getElem?_getD, List.getElem?_eq_getElem h]
  rfl
theorem bAt_size (l : List ByteArray) (k n : Nat) (h : k < l.length) (hn : ∀ x ∈ l, x.size ≤ n) : (bAt l k).size ≤ n := by
  unfold bAt
  rw [List.getD_eq_getElem?_getD, List.getElem?_eq_getElem h]
  exact hn _ (List.getElem_mem h)
set_option maxRecDepth 20000 in
set_option maxHeartbeats 800000 in
theorem specOncePublic_any (l : List ByteArray) (leaf : Int) (v : Value) (w : World) (hr : RdV w v (l.map sv)) (hl : ∀ x ∈ l, x.size ≤ 1048576) :
    Calls Try.prog 10 #[v, .int .i64 leaf] w fun e w' => e = .returned (.string (onceP l leaf)) ∧ Below w.heap.size w w' := by
  obtain ⟨a, c, rfl, hc⟩ := hr.open
  rw [List.length_map]
  clear hr
  by_cases h10 : l.length = 10
  · have EP := hide (show onceP l leaf = chopB (catC (fun i => chnB (bAt l i) leaf (i : Int) 0 15) 10) by unfold onceP; rw [if_pos h10])
    rw [unhide EP]
    have CH := hide (fun (i : Nat) (hi : i < 10) W => specChain_any (bAt l i) leaf (i : Int) 0 15 (bAt_size l i _ (by omega) hl) W)
    rw [show stepsN 15 = 15 from rfl] at CH
    have h4 := hide (show ∀ i : Nat, (chnB (bAt l i) leaf (i : Int) 0 15).size ≤ 4 from fun i => Nat.le_of_eq (chopB_size _))
    obtain ⟨f, hf⟩ : ∃ f : Nat → ByteArray, f = fun i => chnB (bAt l i) leaf (i : Int) 0 15 := ⟨_, rfl⟩
    have CH2 := hide (show ∀ (i : Nat), i < 10 → ∀ W, Calls Try.prog 26 #[.string (bAt l i), .int .i64 leaf, .int .i64 (i : Int), .int .i64 0, .int .i64 15] W fun e w' => e = .returned (.string (f i)) ∧ Below W.heap.size W w' from fun i hi W => by rw [hf]; exact unhide CH i hi W)
    have h4' := hide (show ∀ i, (f i).size ≤ 4 from fun i => by rw [hf]; exact unhide h4 i)
    rw [← hf] at EP ⊢
    have hcl := hide (fun k => catC_le f 4 k (unhide h4'))
    have CC := hide (fun W => specChop_any (catC f 10) (by have := unhide hcl 10; omega) W)
    have Hs := hide (show ∀ k, catC f (k + 1) = catC f k ++ f k from fun k => rfl)
    have H0 := hide (show catC f 0 = ⟨#[]⟩ from rfl)
    generalize chopB (catC f 10) = R at *
    generalize catC f = cat at *
    rw [h10]
    replace h10 := hide h10; replace hf := hide hf
    clear CH h4 EP
    go_enter Try.func10, Try.ntmps10
    go_wp2
    go_loopw [5, 6] (fun tx ti wr => ∃ k : Nat, k ≤ 10 ∧ ti = .int .i64 (k : Int) ∧ tx = .string (cat k) ∧ Below w.heap.size w wr) (fun _ ti _ => 10 - (intOf ti).toNat)
    case atStart => exact ⟨0, by omega, rfl, by rw [unhide H0], Below.refl _ _⟩
    case round =>
      obtain ⟨k, hk, rfl, rfl, hB⟩ := hrel
      by_cases hlt : k < 10
      · have hk' : (k : Int) < 10 := by omega
        have hk0 : (0 : Int) ≤ (k : Int) := by omega
        obtain ⟨g, o, rfl, hg, d1⟩ := hc k _ (bAt_get l k (by rw [unhide h10]; exact hlt))
        have d2 := (hB.cell (p := ⟨g, o + k, none⟩) hg).trans d1
        have c1 := hide (unhide CH2 k hlt)
        have HC := hide (unhide Hs k)
        have z1 := unhide hcl k
        have z1' : (cat k).size ≤ 1000 := by omega
        have z2 := unhide h4' k
        generalize bAt l k = x at *
        generalize f k = y at *
        replace z1 := hide z1
        clear hc d1
        go_wp2_with fail
        refine (unhide c1 wr).mono ?_
        rintro e w1 ⟨rfl, hb1⟩
        have hB1 := hB.trans (hb1.mono hB.size)
        clear hb1 hB c1 d2
        go_wp2
        exact ⟨⟨k + 1, by omega, by go_num, by rw [unhide HC], hB1⟩, by simp [intOf]; omega⟩
      · have hk' : ¬ (k : Int) < 10 := by omega
        obtain rfl : k = 10 := by omega
        clear hc
        go_wp2_with fail
        refine (unhide CC wr).mono ?_
        rintro e w1 ⟨rfl, hb1⟩
        have hB1 := hB.trans (hb1.mono hB.size)
        clear hb1 hB CC
        go_wp2
        go_ret
        exact ⟨rfl, hB1⟩
  · have EP := hide (show onceP l leaf = ⟨#[]⟩ by unfold onceP; rw [if_neg h10])
    rw [unhide EP]
    have h10' : ¬ (l.length : Int) = 10 := by omega
    clear hc
    go_enter Try.func10, Try.ntmps10
    go_wp2
    go_ret
    exact ⟨rfl, Below.refl _ _⟩
end Go.Proofs.Ytljjajbkaffofau
