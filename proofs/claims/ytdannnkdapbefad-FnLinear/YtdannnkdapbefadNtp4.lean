/- Ntt by the given model, over the loaded program. -/
import Derived.Test.YtdannnkdapbefadNtp3
namespace Go.Proofs.Ytdannnkdapbefad
open Go.RowKit
theorem wpList_copy9 {P : Program} {w : World} {ops : Array Oper} {rest : List Oper} {o : Oper} {a : Act} {Q : Exit → Act → World → Prop} (hgd : o.guard = none) (s x : Operand) (t : TypeId)
    (ho : o.op = .call { callee := .builtin .append, args := #[s, x], argTypes := #[t, t] })
    (e : TypeId) (i : TypeInfo) (z : Value) (nb : Nat) (ht : P.underlying t = some (.slice e)) (hi : P.info? e = some i) (hz : i.zero = some z) (hsize : i.size = 1) (hby : i.bytes = nb) (hzs : z.cells.size = 1)
    (hs : a.eval s = .slice (some ⟨w.heap.size, 0, none⟩) 0 0) (g off n c : Nat) (news : List Value) (hx : a.eval x = .slice (some ⟨g, off, none⟩) n c) (hg : g < w.heap.size) (hc : ∀ j u, news[j]? = some u → w.cell? ⟨g, off + j, none⟩ = some u) (hn : news.length = n) (h1 : ∀ u ∈ news, u.oneCell' = true)
    (h63 : n ≤ maxLen) (hbytes : n * nb ≤ 140737488355328)
    (h : ∀ v' w', OwnV w' w.heap.size e v' news → Below w.heap.size w w' → wpList P ops Q rest (a.put o.dst v') w') :
    wpList P ops Q (o :: rest) a (w.alloc (.cells #[] e)) := by
  have hE : (w.alloc (.cells #[] e)).ownsRow w.heap.size e 1 (.slice (some ⟨w.heap.size, 0, none⟩) 0 0) 0 [] := World.ownsRow_made w #[] 0 (Nat.le_refl _) (by decide) (by simp)
  have hb0 : Below w.heap.size w (w.alloc (.cells #[] e)) := (Below.refl w.heap.size w).alloc (Nat.le_refl _) _
  refine wpList_append_own (w.alloc (.cells #[] e)) hgd s x t ho w.heap.size e i z 1 nb ht hi hz hsize hby hzs (by decide) _ 0 [] hs hE ⟨g, off, none⟩ n c news hx (by rw [hn, Nat.mul_one]) (fun j u hu => ?_) h1 (by omega) (by rw [Nat.zero_add]; exact hbytes) (by simp) ?_
  · have hadd : (⟨g, off, none⟩ : Addr).add j = ⟨g, off + j, none⟩ := by unfold Addr.add; split <;> simp_all
    rw [hadd, hb0.cell (p := ⟨g, off + j, none⟩) hg]
    exact hc j u hu
  intro v' w' h2 h3 _
  refine h v' w' (by unfold OwnV; rw [hn]; simpa using h2) ?_
  exact hb0.grown h3 (by simp) (fun k hk => by simp [Value.ownBlock] at hk; omega)
theorem one_iv (l : List Int) : ∀ u ∈ l.map iv, u.oneCell' = true := by
  intro u hu
  obtain ⟨x, _, rfl⟩ := List.mem_map.1 hu
  rfl
theorem sz_facts (i : Nat) (h : i < 7) : 2 ≤ sz i ∧ sz i ≤ 128 ∧ sz (i + 1) = sz i / 2 ∧ sz (i + 1) < sz i ∧ 2 ^ (i + 1) = 2 ^ i + 2 ^ i ∧ 2 ^ i ≤ 64 ∧ 1 ≤ 2 ^ i ∧ 128 / sz i = 2 ^ i := by
  match i, h with
  | 0, _ => decide
  | 1, _ => decide
  | 2, _ => decide
  | 3, _ => decide
  | 4, _ => decide
  | 5, _ => decide
  | 6, _ => decide
  | i + 7, h => exact absurd h (by omega)
theorem blk_facts {s : Nat} (hs : Sz s) (b : Nat) : (2 * b * s < 256 ↔ b < 128 / s) ∧ 2 * (b + 1) * s = 2 * b * s + 2 * s ∧ (b < 128 / s → 2 * b * s + 2 * s ≤ 256) ∧ (b ≤ 128 / s → 2 * b * s ≤ 256) := by
  rcases hs with rfl | rfl | rfl | rfl | rfl | rfl | rfl <;> omega
end Go.Proofs.Ytdannnkdapbefad
