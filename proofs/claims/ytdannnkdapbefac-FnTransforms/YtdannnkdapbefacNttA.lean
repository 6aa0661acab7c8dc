/- Transforms by the project: factors, copies, halves and pairs, over the loaded program. -/
import Derived.Test.YtdannnkdapbefacNtp5
import Derived.Test.YtdannnkdapbefacNtp6
import Derived.Test.YtdannnkdapbefacPlyC
import Derived.Test.YtdannnkdapbefacPlyF
import Derived.Laws.CopyOwn
namespace Go.Proofs.Ytdannnkdapbefac
open Go.RowKit
/-- A row of the call's own whose room ends with it: its block holds just its cells. -/
theorem OwnV.full {w : World} {base g n : Nat} {e : TypeId} {xs : List Value} (h : OwnV w base e (.slice (some ⟨g, 0, none⟩) n n) xs) : base ≤ g ∧ n ≤ maxLen ∧ xs.length = n ∧ w.heap[g]? = some (.cells xs.toArray e (0, 0)) := by
  rcases h.2 with ⟨h1, _⟩ | ⟨g', cap, cur, h1, hb, h2, h3, h4, h5, h6⟩
  · cases h1
  · simp only [Value.slice.injEq, Option.some.injEq, Addr.mk.injEq] at h1
    obtain ⟨⟨e0, _⟩, e1, e2⟩ := h1
    subst e0
    have hc : cur = xs.toArray := by
      rw [← h6, List.take_of_length_le (by rw [Array.length_toList]; omega)]
    rw [← hc]
    exact ⟨hb, by omega, e1.symm, h2⟩
theorem ownV_of_full {w : World} {base g n : Nat} {e : TypeId} {xs : List Value} (hb : base ≤ g) (hm : n ≤ maxLen) (hl : xs.length = n) (h : w.heap[g]? = some (.cells xs.toArray e (0, 0))) : OwnV w base e (.slice (some ⟨g, 0, none⟩) n n) xs := by
  refine ⟨by rw [Nat.mul_one], .inr ⟨g, n, xs.toArray, by rw [hl], hb, h, by omega, hm, by simp [hl], ?_⟩⟩
  simp
theorem splice_all {α : Type} (L cs : List α) (h : L.length = cs.length) : splice L 0 cs = cs := by
  unfold splice
  rw [List.take_zero, List.nil_append, List.drop_eq_nil_of_le (by omega), List.append_nil]
theorem blockFactor_any (k : Nat) (hk : k < 128) (w : World) :
    Calls Try.prog 57 #[.int .i64 (k : Int)] w fun e w' => e = .returned (.int .i64 (zt k)) ∧ w' = w := by
  obtain ⟨T1, T2⟩ := zt_turn k hk
  have C1 := hide (implTurn7_w (k : Int) w)
  have C2 := hide (implPowQ_w 17 (t7 k : Int) w)
  rw [T1] at C1
  rw [T2] at C2
  generalize zt k = Z at *
  generalize (t7 k : Int) = tz at *
  clear T1 T2
  go_enter Try.func57, Try.ntmps57
  go_wp2_with fail
  refine (unhide C1).mono ?_
  rintro e w2 ⟨rfl, rfl⟩
  go_wp2_with fail
  refine (unhide C2).mono ?_
  rintro e w2 ⟨rfl, rfl⟩
  go_wp2
  go_ret
  exact ⟨rfl, rfl⟩
set_option maxRecDepth 20000 in
theorem copied_any (l : List Int) (va : Value) (w : World) (la : l.length = 256) (ra : RdV w va (l.map iv)) :
    Calls Try.prog 54 #[va] w fun e w' => e = .returned (.slice (some ⟨w.heap.size, 0, none⟩) 256 256) ∧ OwnV w' w.heap.size 3 (.slice (some ⟨w.heap.size, 0, none⟩) 256 256) (l.map iv) ∧ Below w.heap.size w w' := by
  obtain ⟨i0, hi, hz0, hz1, hz2⟩ := info_parts infoInt
  obtain ⟨a1, c1, rfl, hc1⟩ := ra.open
  rw [List.length_map, la]
  obtain ⟨g1, o1, rfl, hg1, _⟩ := hc1 0 _ (get_iv l 0 (by omega))
  have hcc := hide (show ∀ W, Below w.heap.size w W → ∀ j u, (l.map iv)[j]? = some u → W.cell? ((⟨g1, o1, none⟩ : Addr).add j) = some u from fun W hW j u hu => by
    obtain ⟨g', o', he, _, hd⟩ := hc1 j u hu
    cases he
    have hadd : (⟨g1, o1, none⟩ : Addr).add j = ⟨g1, o1 + j, none⟩ := by unfold Addr.add; split <;> simp_all
    rw [hadd, hW.cell (p := ⟨g1, o1 + j, none⟩) hg1]
    exact hd)
  have hsz : (Try.prog.info? 3).map (·.size) = some 1 := by rw [hi]; exact congrArg some hz1
  obtain ⟨cs, hcs⟩ : ∃ cs, cs = l.map iv := ⟨_, rfl⟩
  have hcl : cs.length = 256 := by rw [hcs, List.length_map]; exact la
  have ho := hide (show ∀ v ∈ cs, v.oneCell' = true by rw [hcs]; exact one_iv l)
  rw [← hcs] at hcc ⊢
  clear ra hc1 hcs
  go_enter Try.func54, Try.ntmps54
  go_wp2_with (first
    | (at_make; refine wpList_make_full _ rfl _ _ 33 rfl w.heap.size 3 i0 (.int .i64 0) 1 Try.underlying33 hi hz0 hz1 _ _ _ _ 256 rfl rfl rfl rfl (by rw [hz2]; omega) (by unfold maxLen; omega) (Nat.le_refl _) ?_; intro w1 hown1 hgrow1
       have hb0 : Below w.heap.size w w1 := (Below.refl w.heap.size w).grown hgrow1 (Nat.le_refl _) (fun k hk => by cases hk)
       have hr0 : OwnV w1 w.heap.size 3 (.slice (some ⟨w.heap.size, 0, none⟩) 256 256) ((List.replicate 256 0).map iv) := by
         rw [madeI] at hown1
         unfold OwnV
         simpa [iv] using hown1
       obtain ⟨f1, f2, f3, f4⟩ := hr0.full
       generalize (List.replicate 256 0).map iv = zs at *
       clear hown1 hgrow1 hr0)
    | (refine wpList_copy_splice rfl (.tmp 7) (.tmp 8) 33 33 rfl 3 Try.underlying33 hsz _ _ 256 256 256 c1 rfl rfl w.heap.size 0 zs _ f4 cs (hcl.trans (by decide)) (fun _ => ⟨rfl, _, rfl, unhide hcc _ hb0⟩) (by omega) (unhide ho) w.heap.size w hb0 (Nat.le_refl _) ?_; intro w2 hO2 hb2))
  rw [splice_all _ _ (by rw [f3, hcl])] at hO2
  have hO3 := hide (ownV_of_full (base := w.heap.size) (Nat.le_refl _) f2 hcl (unhide hO2))
  clear hO2 f4
  go_ret
  exact ⟨rfl, unhide hO3, hb2⟩
set_option maxRecDepth 20000 in
theorem halves_any (g st s md en : Nat) (w : World) (h1 : md = st + s) (h2 : en = md + s) (h3 : en ≤ 256) (h4 : 1 ≤ s) :
    Calls Try.prog 55 #[.slice (some ⟨g, 0, none⟩) 256 256, .int .i64 (st : Int), .int .i64 (s : Int)] w fun e w' => e = .returned (.tuple #[.slice (some ⟨g, st, none⟩) s s, .slice (some ⟨g, md, none⟩) s s]) ∧ ∃ q, w' = w.drewN q := by
  obtain ⟨s2, hs2⟩ : ∃ s2, s2 = 2 * s := ⟨_, rfl⟩
  have w1 : IntKind.i64.wrap ((st : Int) + (s : Int)) = (md : Int) := by rw [IntKind.wrap_i64]; omega
  have w2 : IntKind.i64.wrap (2 * (s : Int)) = (s2 : Int) := by rw [IntKind.wrap_i64]; omega
  have w3 : IntKind.i64.wrap ((st : Int) + (s2 : Int)) = (en : Int) := by rw [IntKind.wrap_i64]; omega
  have a1 : (0 : Int) ≤ (st : Int) := by omega
  have a2 : (st : Int) ≤ (md : Int) := by omega
  have a3 : (md : Int) ≤ (en : Int) := by omega
  have a4 : (en : Int) ≤ 256 := by omega
  have a5 : (md : Int) ≤ 256 := by omega
  have a6 : (0 : Int) ≤ (md : Int) := by omega
  have a7 : (0 : Int) ≤ (en : Int) := by omega
  have b1 : md - st = s := by omega
  have b2 : en - md = s := by omega
  have b3 : ¬ md = st := by omega
  have b4 : ¬ en = md := by omega
  have b5 : ¬ s = 0 := by omega
  have b6 : st < md := by omega
  have b7 : md < en := by omega
  replace h1 := hide h1; replace h2 := hide h2; replace hs2 := hide hs2
  go_enter Try.func55, Try.ntmps55
  go_wp2
  go_quiet (fail)
  go_wp2
  go_ret2
  exact ⟨rfl, _, rfl⟩
end Go.Proofs.Ytdannnkdapbefac
