/- Laws of no program: an append of one value to a row of the call's own, and which blocks stay; rows of unlike kinds lie in unlike blocks. -/
import Derived.Test.YtecononlghjepawRows1
namespace Go.Proofs.Ytecononlghjepaw
open Go.RowKit
theorem wpList_append_grow {P : Program} {w : World} {ops : Array Oper} {rest : List Oper} {o : Oper} {a : Act} {Q : Exit → Act → World → Prop} (hgd : o.guard = none) (s x : Operand) (t : TypeId)
    (ho : o.op = .call { callee := .builtin .append, args := #[s, x], argTypes := #[t, t] })
    (base : Nat) (e : TypeId) (i : TypeInfo) (z : Value) (nb : Nat) (ht : P.underlying t = some (.slice e)) (hi : P.info? e = some i) (hz : i.zero = some z) (hsize : i.size = 1) (hby : i.bytes = nb) (hzs : z.cells.size = 1)
    (v : Value) (xs : List Value) (hs : a.eval s = v) (hown : OwnV w base e v xs) (u : Value) (h1 : u.oneCell' = true) (hx : a.eval x = .slice (some ⟨w.heap.size, 0, none⟩) 1 1)
    (h63 : xs.length + 1 ≤ maxLen) (hbytes : (xs.length + 1) * nb ≤ 140737488355328) (hbase : base ≤ w.heap.size)
    (h : ∀ v' w', OwnV w' base e v' (xs ++ [u]) → (w.alloc (.cells #[u] e)).grownBy w' v.ownBlock → wpList P ops Q rest (a.put o.dst v') w') :
    wpList P ops Q (o :: rest) a (w.alloc (.cells #[u] e)) :=
  wpList_plain hgd fun _ hK => by
    refine wp_append_own (w.alloc (.cells #[u] e)) s x t ho base e i z 1 nb ht hi hz hsize hby hzs (by decide) v xs.length xs hs (hown.alloc _) ⟨w.heap.size, 0, none⟩ 1 1 [u] hx rfl (fun j y hy => ?_) (by intro y hy; simp only [List.mem_singleton] at hy; subst hy; exact h1) h63 hbytes (by simp; omega) ?_
    · have hadd : (⟨w.heap.size, 0, none⟩ : Addr).add j = ⟨w.heap.size, j, none⟩ := by unfold Addr.add; split <;> simp_all
      rw [hadd, cell_of_row _ w.heap.size j _ e (0, 0) (heap_alloc_new w _)]
      simpa using hy
    · intro v' w' h2 h3 _
      exact hK _ _ (h v' w' (by unfold OwnV; simpa using h2) h3)
theorem OwnV.apart {w : World} {b1 b2 : Nat} {e1 e2 : TypeId} {v1 v2 : Value} {x1 x2 : List Value} (h1 : OwnV w b1 e1 v1 x1) (h2 : OwnV w b2 e2 v2 x2) (he : e1 ≠ e2) (k : Nat) (hk : v1.ownBlock = some k) : v2.ownBlock ≠ some k := by
  intro hv
  rcases h1.2 with ⟨a1, _⟩ | ⟨g, cap, cur, a1, _, a3, _⟩
  · rw [a1] at hk; cases hk
  · rcases h2.2 with ⟨c1, _⟩ | ⟨g', cap', cur', c1, _, c3, _⟩
    · rw [c1] at hv; cases hv
    · rw [a1] at hk
      rw [c1] at hv
      have hk' : (some g : Option Nat) = some k := hk
      have hv' : (some g' : Option Nat) = some k := hv
      have e1' := Option.some.inj hk'
      have e2' := Option.some.inj hv'
      subst e1' e2'
      rw [a3] at c3
      have h4 := Option.some.inj c3
      injection h4 with h5 h6
      exact he h6
end Go.Proofs.Ytecononlghjepaw
