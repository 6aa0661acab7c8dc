/- Trees by the given model: roots and paths, over the loaded program. -/
import Derived.Test.YtljjajbkaffofauTre1
import Derived.Test.YtljjajbkaffofauApg
namespace Go.Proofs.Ytljjajbkaffofau
open Go.RowKit
theorem OwnV.loW {w : World} {base : Nat} {e : TypeId} {v : Value} {xs : List Value} (h : OwnV w base e v xs) : ∀ k, v.ownBlock = some k → base ≤ k ∧ k < w.heap.size := fun k hk => World.ownsRow.lt h k hk
theorem RdV.loW {w : World} {v : Value} {xs : List Value} (h : RdV w v xs) (hn : 0 < xs.length) : ∀ k, v.ownBlock = some k → k < w.heap.size := by
  intro k hk
  rcases h with ⟨_, _, _, h⟩ | ⟨g, o, c, rfl, _, hg, _⟩
  · rw [h] at hn; exact absurd hn (Nat.lt_irrefl _)
  · have : g = k := Option.some.inj hk
    omega
theorem lvs_len2 (l : List ByteArray) (hl : l.length = 4) (k : Nat) (hk : k ≤ 2) : (k = 0 ∧ (lvs l k).length = 4) ∨ (k = 1 ∧ (lvs l k).length = 2) ∨ (k = 2 ∧ (lvs l k).length = 1) := by
  have h := lvs_len l hl k
  rcases show k = 0 ∨ k = 1 ∨ k = 2 by omega with rfl | rfl | rfl
  · exact .inl ⟨rfl, h⟩
  · exact .inr (.inl ⟨rfl, h⟩)
  · exact .inr (.inr ⟨rfl, h⟩)
theorem levelUp_lvs (l : List ByteArray) (hl : l.length = 4) (hs : ∀ x ∈ l, x.size ≤ 1048576) (k : Nat) (hk : k < 2) (W : World) (v : Value) (hr : RdV W v ((lvs l k).map sv)) :
    Calls Try.prog 22 #[.int .i64 ((k + 1 : Nat) : Int), v] W fun e w' => (∃ v', e = .returned v' ∧ OwnV w' W.heap.size 9 v' ((lvs l (k + 1)).map sv)) ∧ Below W.heap.size W w' := by
  have h := specLevelUp_any ((k + 1 : Nat) : Int) (lvs l k) v W hr (lvs_size l _ (by omega) hs k) (by rcases lvs_len2 l hl k (by omega) with ⟨_, h⟩ | ⟨_, h⟩ | ⟨_, h⟩ <;> omega)
  exact h
set_option maxRecDepth 20000 in
set_option maxHeartbeats 800000 in
theorem specRootOf_any (l : List ByteArray) (v : Value) (w : World) (hr : RdV w v (l.map sv)) (hs : ∀ x ∈ l, x.size ≤ 1048576) :
    Calls Try.prog 24 #[v] w fun e w' => e = .returned (.string (rootB l)) ∧ Below w.heap.size w w' := by
  obtain ⟨a, c, rfl, -⟩ := hr.open
  rw [List.length_map] at hr ⊢
  by_cases h4 : l.length = 4
  · have ER := hide (show rootB l = bAt (lvs l 2) 0 by unfold rootB; rw [if_pos h4])
    rw [unhide ER]
    have CL := hide (fun k hk W v hr => levelUp_lvs l h4 hs k hk W v hr)
    have HR := hide (show RdV w (.slice a l.length c) ((lvs l 0).map sv) from hr)
    have hl2 : (lvs l 2).length = 1 := lvs_len l h4 2
    have HE := hide (show ∀ W u, RdV W u ((lvs l 2).map sv) → ∃ g o c, u = .slice (some ⟨g, o, none⟩) 1 c ∧ W.cell? ⟨g, o, none⟩ = some (.string (bAt (lvs l 2) 0)) from fun W u h => by
      obtain ⟨a, c, rfl, hc⟩ := h.open
      rw [List.length_map, hl2]
      obtain ⟨g, o, rfl, _, d⟩ := hc 0 _ (bAt_getT (lvs l 2) 0 (by omega))
      exact ⟨g, o, c, rfl, d⟩)
    rw [h4] at HR ⊢
    generalize bAt (lvs l 2) 0 = R at *
    clear hr ER
    replace h4 := hide h4; replace hl2 := hide hl2
    go_enter Try.func24, Try.ntmps24
    go_wp2
    go_loopw [0, 3] (fun tl ti wr => ∃ k : Nat, k ≤ 2 ∧ ti = .int .i64 ((k + 1 : Nat) : Int) ∧ Hid (RdV wr tl ((lvs l k).map sv)) ∧ Below w.heap.size w wr) (fun _ ti _ => 5 - (intOf ti).toNat)
    case atStart => exact ⟨0, by omega, rfl, HR, Below.refl _ _⟩
    case round =>
      clear HR
      obtain ⟨k, hk, rfl, HR, hB⟩ := hrel
      by_cases hlt : k < 2
      · have hk' : ((k + 1 : Nat) : Int) ≤ 2 := by omega
        have c1 := hide (unhide CL k hlt wr u0 (unhide HR))
        clear HR CL HE
        go_wp2_with fail
        refine (unhide c1).mono ?_
        rintro e w1 ⟨⟨v', rfl, ho⟩, hb1⟩
        have hB1 := hB.trans (hb1.mono hB.size)
        have HR1 := hide ho.rdv
        clear hb1 hB ho c1
        go_wp2
        exact ⟨⟨k + 1, by omega, by go_num, HR1, hB1⟩, by simp [intOf]; omega⟩
      · have hk' : ¬ ((k + 1 : Nat) : Int) ≤ 2 := by omega
        obtain rfl : k = 2 := by omega
        obtain ⟨g, o, c', rfl, d⟩ := unhide HE wr _ (unhide HR)
        clear HR CL HE
        go_wp2
        go_ret
        exact ⟨rfl, hB⟩
  · have ER := hide (show rootB l = ⟨#[]⟩ by unfold rootB; rw [if_neg h4])
    rw [unhide ER]
    have h4' : ¬ (l.length : Int) = 4 := by omega
    clear hr
    go_enter Try.func24, Try.ntmps24
    go_wp2
    go_ret
    exact ⟨rfl, Below.refl _ _⟩
theorem sib_lt (l : List ByteArray) (hl : l.length = 4) (leaf k : Nat) (h : leaf < 4) (hk : k < 2) : sibN (leaf / 2 ^ k) < (lvs l k).length ∧ leaf / 2 ^ k < 4 := by
  unfold sibN
  rcases lvs_len2 l hl k (by omega) with ⟨rfl, e⟩ | ⟨rfl, e⟩ | ⟨rfl, e⟩
  · rw [e, Nat.pow_zero, Nat.div_one]
    split <;> omega
  · rw [e, Nat.pow_one]
    split <;> omega
  · omega
end Go.Proofs.Ytljjajbkaffofau
