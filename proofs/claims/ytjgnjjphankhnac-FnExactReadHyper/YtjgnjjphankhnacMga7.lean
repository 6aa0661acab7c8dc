/- Merged: Chn2, Apg, Rws, Chn3, Chn4, Tre1, Tre2, Sig1, Sig2. -/
import Derived.Test.YtjgnjjphankhnacMga1
import Derived.Test.YtjgnjjphankhnacMga2
import Derived.Test.YtjgnjjphankhnacMga3
import Derived.Test.YtjgnjjphankhnacMga4
import Derived.Test.YtjgnjjphankhnacMga5
import Derived.Test.YtjgnjjphankhnacMga6
import Derived.Deep.RegionHeld3
import Derived.BigQuiet
import Derived.Deep.QuietTactic
/- Chains by the given model: digits, over the loaded program. -/
namespace Go.Proofs.Ytjgnjjphankhnac
open Go.RowKit
theorem byA_at (s : ByteArray) (i : Nat) (h : i < s.size) : (s[i]'h).toNat = byA s i := by
  unfold byA
  have hd : i < s.data.size := h
  unfold Array.getD
  rw [dif_pos hd]
  rfl
theorem dgN_pair (s : ByteArray) (k : Nat) : dgN s (2 * k) = byA s k / 16 ∧ dgN s (2 * k + 1) = byA s k % 16 := by
  unfold dgN
  constructor
  · rw [if_pos (by omega), show 2 * k / 2 = k by omega]
  · rw [if_neg (by omega), show (2 * k + 1) / 2 = k by omega]
theorem wpList_append_two14 {P : Program} {w : World} {ops : Array Oper} {rest : List Oper} {o : Oper} {a : Act} {Q : Exit → Act → World → Prop} (hgd : o.guard = none) (s x : Operand) (t : TypeId)
    (ho : o.op = .call { callee := .builtin .append, args := #[s, x], argTypes := #[t, t] })
    (base : Nat) (e : TypeId) (i : TypeInfo) (z : Value) (nb : Nat) (ht : P.underlying t = some (.slice e)) (hi : P.info? e = some i) (hz : i.zero = some z) (hsize : i.size = 1) (hby : i.bytes = nb) (hzs : z.cells.size = 1)
    (v : Value) (xs : List Value) (hs : a.eval s = v) (hown : OwnV w base e v xs) (x1 x2 : Int) (hx : a.eval x = .slice (some ⟨w.heap.size, 0, none⟩) 2 2)
    (h63 : xs.length + 2 ≤ maxLen) (hbytes : (xs.length + 2) * nb ≤ 140737488355328) (hbase : base ≤ w.heap.size) {w0 : World} (hB : Below base w0 w)
    (h : ∀ v' w', OwnV w' base e v' (xs ++ [.int .i64 x1, .int .i64 x2]) → Below base w0 w' → wpList P ops Q rest (a.put o.dst v') w') :
    wpList P ops Q (o :: rest) a (w.alloc (.cells #[.int .i64 x1, .int .i64 x2] e)) :=
  wpList_plain hgd fun K hK =>
    wp_append_vals s x t ho base base e i z nb ht hi hz hsize hby hzs v xs hs (hown.alloc _) w.heap.size #[.int .i64 x1, .int .i64 x2] (heap_alloc_new w _) [.int .i64 x1, .int .i64 x2] rfl (by intro u hu; simp only [List.mem_cons, List.not_mem_nil, or_false] at hu; rcases hu with rfl | rfl <;> rfl) 2 2 rfl hx h63 hbytes (Nat.le_refl _) (by simp; omega) (hB.alloc hbase _) (fun v' w' h1 h2 => hK _ _ (h v' w' h1 h2))
set_option maxRecDepth 20000 in
set_option maxHeartbeats 1000000 in
theorem specDigits_any (m : ByteArray) (hm : m.size ≤ 4000000) (w : World) :
    Calls Try.prog 52 #[.string m] w fun e w' => (∃ v, e = .returned v ∧ OwnV w' w.heap.size 3 v ((digL m).map iv)) ∧ Below w.heap.size w w' := by
  obtain ⟨i0, hi, hz0, hz1, hz2⟩ := info_parts infoInt
  have C := hide (specChop_any m hm w)
  have hs4 := chopB_size m
  have ED := hide (show digL m = preL (fun i => (dgN (chopB m) i : Int)) 8 ++ [((lfN (chopB m) 4 / 16 : Nat) : Int), ((lfN (chopB m) 4 % 16 : Nat) : Int)] from rfl)
  generalize chopB m = s at *
  obtain ⟨f, hf⟩ : ∃ f : Nat → Int, f = fun i => (dgN s i : Int) := ⟨_, rfl⟩
  rw [← hf] at ED
  have hs4' : (s.size : Int) = 4 := by omega
  replace hf := hide hf
  go_enter Try.func52, Try.ntmps52
  go_wp2_with fail
  refine (unhide C).mono ?_
  rintro e w1 ⟨rfl, hb1⟩
  have hsz1 := hb1.size
  have hb2 := hb1.alloc hsz1 (.cells #[] 3)
  have ho0 : OwnV (w1.alloc (.cells #[] 3)) w.heap.size 3 (.slice (some ⟨w1.heap.size, 0, none⟩) 0 0) ((preL f (2 * 0)).map iv) := World.ownsRow_made w1 #[] 0 hsz1 (by decide) (by simp)
  replace ho0 := hide ho0
  clear C hb1
  go_wp2
  go_loopw [4, 5, 6] (fun tv ts ti wr => ∃ (k : Nat) (q : Nat), k ≤ 4 ∧ ti = .int .i64 (k : Int) ∧ ts = .int .i64 (q : Int) ∧ Hid (q = lfN s k) ∧ Hid (OwnV wr w.heap.size 3 tv ((preL f (2 * k)).map iv)) ∧ Below w.heap.size w wr) (fun _ _ ti _ => 4 - (intOf ti).toNat)
  case atStart => exact ⟨0, 0, by omega, rfl, rfl, hide rfl, ho0, hb2⟩
  case round =>
    clear ho0 hb2
    obtain ⟨k, q, hk, rfl, rfl, hq, HO, hB⟩ := hrel
    have hsz := hB.size
    by_cases hlt : k < 4
    · have hk' : (k : Int) < 4 := by omega
      have hk0 : (0 : Int) ≤ (k : Int) := by omega
      have hks : k < s.size := by omega
      have hby := byA_at s k hks
      have hbl := byA_lt s k
      have hdp := dgN_pair s k
      have HL := hide (show lfN s (k + 1) = lfN s k + 30 - byA s k / 16 - byA s k % 16 from rfl)
      have hql := lfN_le s k
      rw [← unhide hq] at HL hql
      have HP := hide (pre_two f k)
      have HF : f (2 * k) = ((byA s k / 16 : Nat) : Int) ∧ f (2 * k + 1) = ((byA s k % 16 : Nat) : Int) := by
        rw [unhide hf]
        exact ⟨congrArg (fun n : Nat => (n : Int)) hdp.1, congrArg (fun n : Nat => (n : Int)) hdp.2⟩
      rw [HF.1, HF.2] at HP
      obtain ⟨b, hb⟩ : ∃ b, b = byA s k := ⟨_, rfl⟩
      rw [← hb] at hby hbl HL HP
      obtain ⟨x1, hx1⟩ : ∃ x : Nat, x = b / 16 := ⟨_, rfl⟩
      obtain ⟨x2, hx2⟩ : ∃ x : Nat, x = b % 16 := ⟨_, rfl⟩
      rw [← hx1, ← hx2] at HL HP
      have q1 : (b : Int).tdiv 16 = (x1 : Int) := by rw [Int.tdiv_eq_ediv_of_nonneg (by omega)]; omega
      have q1' : (b : Int) / 16 = (x1 : Int) := by omega
      have q2 : (b : Int).tmod 16 = (x2 : Int) := by rw [Int.tmod_eq_emod_of_nonneg (by omega)]; omega
      have q2' : (b : Int) % 16 = (x2 : Int) := by omega
      have q3 : IntKind.i64.wrap (x1 : Int) = (x1 : Int) := by rw [IntKind.wrap_i64]; omega
      have q4 : IntKind.i64.wrap (x2 : Int) = (x2 : Int) := by rw [IntKind.wrap_i64]; omega
      have q5 : IntKind.i64.wrap (b : Int) = (b : Int) := by rw [IntKind.wrap_i64]; omega
      obtain ⟨y1, hy1⟩ : ∃ y : Nat, y = q + 30 := ⟨_, rfl⟩
      obtain ⟨y2, hy2⟩ : ∃ y : Nat, y + x1 = y1 := ⟨y1 - x1, by omega⟩
      obtain ⟨y3, hy3⟩ : ∃ y : Nat, y + x2 = y2 := ⟨y2 - x2, by omega⟩
      have q6 : IntKind.i64.wrap ((q : Int) + 30) = (y1 : Int) := by rw [IntKind.wrap_i64]; omega
      have q7 : IntKind.i64.wrap ((y1 : Int) - (x1 : Int)) = (y2 : Int) := by rw [IntKind.wrap_i64]; omega
      have q8 : IntKind.i64.wrap ((y2 : Int) - (x2 : Int)) = (y3 : Int) := by rw [IntKind.wrap_i64]; omega
      have HQ := hide (show y3 = lfN s (k + 1) by have := unhide HL; omega)
      have hl1 : ((preL f (2 * k)).map iv).length + 2 ≤ maxLen := by rw [List.length_map, preL_len]; unfold maxLen; omega
      have hl2 : (((preL f (2 * k)).map iv).length + 2) * 8 ≤ 140737488355328 := by rw [List.length_map, preL_len]; omega
      have hix : ∀ h : k < s.size, (s[k]'h).toNat = b := fun h => hby
      replace hl1 := hide hl1; replace hl2 := hide hl2; replace hb := hide hb; replace hx1 := hide hx1; replace hx2 := hide hx2; replace hy1 := hide hy1; replace hy2 := hide hy2; replace hy3 := hide hy3; replace HF := hide HF; replace hdp := hide hdp; replace hby := hide hby
      clear HL hql
      go_wp2
      go_region_held3 (fun _ => True) (trivial) (first
        | (refine step_append_w9 (w := wr.drew) (x1 := (x1 : Int)) (x2 := (x2 : Int)) (e := 3) rfl rfl (.tmp 14) (.tmp 25) 65 rfl w.heap.size w.heap.size i0 (.int .i64 0) 8 Try.underlying65 hi hz0 hz1 hz2 rfl _ _ rfl (by exact unhide HO) rfl (unhide hl1) (unhide hl2) (Nat.le_refl _) (by exact hsz) (by exact hB.drew) ?_; intro v' w2 hown2 hb2))
      all_goals
        have hown3 := hide (show OwnV w2 w.heap.size 3 v' ((preL f (2 * (k + 1))).map iv) by rw [unhide HP, List.map_append]; exact hown2)
        clear hown2 HP HO hB hsz
        go_wp2
        go_quiet (fail)
        go_wp2
        exact ⟨⟨k + 1, y3, by omega, by go_num, by first | rfl | trivial, HQ, hide (unhide hown3), bDN hb2 _⟩, by simp [intOf]; omega⟩
    · have hk' : ¬ (k : Int) < 4 := by omega
      obtain rfl : k = 4 := by omega
      have hql := lfN_le s 4
      rw [← unhide hq] at hql ED
      obtain ⟨x1, hx1⟩ : ∃ x : Nat, x = q / 16 := ⟨_, rfl⟩
      obtain ⟨x2, hx2⟩ : ∃ x : Nat, x = q % 16 := ⟨_, rfl⟩
      rw [← hx1, ← hx2] at ED
      have q1 : (q : Int).tdiv 16 = (x1 : Int) := by rw [Int.tdiv_eq_ediv_of_nonneg (by omega)]; omega
      have q1' : (q : Int) / 16 = (x1 : Int) := by omega
      have q2 : (q : Int).tmod 16 = (x2 : Int) := by rw [Int.tmod_eq_emod_of_nonneg (by omega)]; omega
      have q2' : (q : Int) % 16 = (x2 : Int) := by omega
      have q3 : IntKind.i64.wrap (x1 : Int) = (x1 : Int) := by rw [IntKind.wrap_i64]; omega
      have q4 : IntKind.i64.wrap (x2 : Int) = (x2 : Int) := by rw [IntKind.wrap_i64]; omega
      have hl1 : ((preL f (2 * 4)).map iv).length + 2 ≤ maxLen := by rw [List.length_map, preL_len]; unfold maxLen; omega
      have hl2 : (((preL f (2 * 4)).map iv).length + 2) * 8 ≤ 140737488355328 := by rw [List.length_map, preL_len]; omega
      replace hl1 := hide hl1; replace hl2 := hide hl2; replace hx1 := hide hx1; replace hx2 := hide hx2
      clear hql
      go_wp2_with (at_builtin; refine wpList_append_two14 (w := wr) rfl (.tmp 41) (.tmp 46) 65 rfl w.heap.size 3 i0 (.int .i64 0) 8 Try.underlying65 hi hz0 hz1 hz2 rfl u4 _ (by rfl) (unhide HO) (x1 : Int) (x2 : Int) rfl (unhide hl1) (unhide hl2) hsz hB ?_; intro v' w2 hown2 hb2)
      have hown3 := hide (show OwnV w2 w.heap.size 3 v' ((digL m).map iv) by rw [unhide ED, List.map_append]; exact hown2)
      clear hown2 HO
      go_ret
      exact ⟨⟨_, rfl, unhide hown3⟩, hb2⟩
end Go.Proofs.Ytjgnjjphankhnac

/- Laws of no program: an append of one value to a row of the call's own, and which blocks stay; rows of unlike kinds lie in unlike blocks. -/
namespace Go.Proofs.Ytjgnjjphankhnac
open Go.RowKit
theorem wpList_append_grow {P : Program} {w : World} {ops : Array Oper} {rest : List Oper} {o : Oper} {a : Act} {Q : Exit → Act → World → Prop} (hgd : o.guard = none) (s x : Operand) (t : TypeId)
    (ho : o.op = .call { callee := .builtin .append, args := #[s, x], argTypes := #[t, t] })
    (base : Nat) (e : TypeId) (i : TypeInfo) (z : Value) (nb : Nat) (ht : P.underlying t = some (.slice e)) (hi : P.info? e = some i) (hz : i.zero = some z) (hsize : i.size = 1) (hby : i.bytes = nb) (hzs : z.cells.size = 1)
    (v : Value) (xs : List Value) (hs : a.eval s = v) (hown : OwnV w base e v xs) (u : Value) (h1 : u.oneCell' = true) (hx : a.eval x = .slice (some ⟨w.heap.size, 0, none⟩) 1 1)
    (h63 : xs.length + 1 ≤ maxLen) (hbytes : (xs.length + 1) * nb ≤ 140737488355328) (hbase : base ≤ w.heap.size)
    (h : ∀ v' w', OwnV w' base e v' (xs ++ [u]) → (w.alloc (.cells #[u] e)).grownBy w' v.ownBlock → wpList P ops Q rest (a.put o.dst v') w') :
    wpList P ops Q (o :: rest) a (w.alloc (.cells #[u] e)) :=
  wpList_plain hgd fun _ hK => by
    refine wp_append_own (w.alloc (.cells #[u] e)) s x t ho base e i z 1 nb ht hi hz hsize hby hzs (by decide) v xs.length xs hs (hown.alloc _) ⟨w.heap.size, 0, none⟩ 1 1 [u] hx rfl (fun j y hy => ?_) (by intro y hy; simp only [List.mem_singleton] at hy; subst hy; exact h1) h63 hbytes (by simp; omega) ?_
    · have hadd : (⟨w.heap.size, 0, none⟩ : Addr).add j = ⟨w.heap.size, j, none⟩ := by unfold Addr.add; split <;> simp_all
      rw [hadd, cell_of_row _ w.heap.size j _ e (0, 0) (heap_alloc_new w _)]
      simpa using hy
    · intro v' w' h2 h3 _
      exact hK _ _ (h v' w' (by unfold OwnV; simpa using h2) h3)
theorem OwnV.apart {w : World} {b1 b2 : Nat} {e1 e2 : TypeId} {v1 v2 : Value} {x1 x2 : List Value} (h1 : OwnV w b1 e1 v1 x1) (h2 : OwnV w b2 e2 v2 x2) (he : e1 ≠ e2) (k : Nat) (hk : v1.ownBlock = some k) : v2.ownBlock ≠ some k := by
  intro hv
  rcases h1.2 with ⟨a1, _⟩ | ⟨g, cap, cur, a1, _, a3, _⟩
  · rw [a1] at hk; cases hk
  · rcases h2.2 with ⟨c1, _⟩ | ⟨g', cap', cur', c1, _, c3, _⟩
    · rw [c1] at hv; cases hv
    · rw [a1] at hk
      rw [c1] at hv
      have hk' : (some g : Option Nat) = some k := hk
      have hv' : (some g' : Option Nat) = some k := hv
      have e1' := Option.some.inj hk'
      have e2' := Option.some.inj hv'
      subst e1' e2'
      rw [a3] at c3
      have h4 := Option.some.inj c3
      injection h4 with h5 h6
      exact he h6
end Go.Proofs.Ytjgnjjphankhnac

/- Laws of no program: a row of rows of numbers that the call itself owns, or that is only read. -/
namespace Go.Proofs.Ytjgnjjphankhnac
open Go.RowKit
/-- A row of the call's own whose values are rows of numbers of the call's own. -/
def OwnR (w : World) (base : Nat) (T I : TypeId) (v : Value) (L : List (List Int)) : Prop :=
  ∃ vs : List Value, OwnV w base T v vs ∧ vs.length = L.length ∧ ∀ (i : Nat) (u : Value) (l : List Int), vs[i]? = some u → L[i]? = some l → OwnV w base I u (l.map iv)
/-- A row that is read, whose values are rows of numbers. -/
def RdR (w : World) (v : Value) (L : List (List Int)) : Prop :=
  ∃ vs : List Value, RdV w v vs ∧ vs.length = L.length ∧ ∀ (i : Nat) (u : Value) (l : List Int), vs[i]? = some u → L[i]? = some l → RdV w u (l.map iv)
theorem OwnR.below {w w' : World} {base : Nat} {T I : TypeId} {v : Value} {L : List (List Int)} (h : OwnR w base T I v L) (hb : Below w.heap.size w w') : OwnR w' base T I v L := by
  obtain ⟨vs, h1, h2, h3⟩ := h
  exact ⟨vs, h1.below hb, h2, fun i u l hu hl => (h3 i u l hu hl).below hb⟩
theorem OwnR.low {w : World} {base base' : Nat} {T I : TypeId} {v : Value} {L : List (List Int)} (h : OwnR w base T I v L) (hb : base' ≤ base) : OwnR w base' T I v L := by
  obtain ⟨vs, h1, h2, h3⟩ := h
  exact ⟨vs, h1.low hb, h2, fun i u l hu hl => (h3 i u l hu hl).low hb⟩
theorem OwnR.rd {w : World} {base : Nat} {T I : TypeId} {v : Value} {L : List (List Int)} (h : OwnR w base T I v L) : RdR w v L := by
  obtain ⟨vs, h1, h2, h3⟩ := h
  exact ⟨vs, h1.rdv, h2, fun i u l hu hl => (h3 i u l hu hl).rdv⟩
theorem RdR.below {w w' : World} {v : Value} {L : List (List Int)} (h : RdR w v L) (hb : Below w.heap.size w w') : RdR w' v L := by
  obtain ⟨vs, h1, h2, h3⟩ := h
  exact ⟨vs, h1.below hb, h2, fun i u l hu hl => (h3 i u l hu hl).below hb⟩
theorem OwnR.made (w : World) (T I : TypeId) : OwnR (w.alloc (.cells #[] T)) w.heap.size T I (.slice (some ⟨w.heap.size, 0, none⟩) 0 0) [] :=
  ⟨[], World.ownsRow_made w #[] 0 (Nat.le_refl _) (by decide) (by simp), rfl, fun i u l hu _ => by simp at hu⟩
theorem OwnR.shape {w : World} {base : Nat} {T I : TypeId} {v : Value} {L : List (List Int)} (h : OwnR w base T I v L) : ∃ a c, v = .slice a L.length c := by
  obtain ⟨vs, h1, h2, _⟩ := h
  rw [← h2]
  exact h1.shape
theorem RdR.shape {w : World} {v : Value} {L : List (List Int)} (h : RdR w v L) : ∃ a c, v = .slice a L.length c := by
  obtain ⟨vs, h1, h2, _⟩ := h
  rw [← h2]
  exact h1.shape
theorem RdR.open {w : World} {v : Value} {L : List (List Int)} (h : RdR w v L) : ∃ a c, v = .slice a L.length c ∧ ∀ (j : Nat) (l : List Int), L[j]? = some l → ∃ g o u, a = some ⟨g, o, none⟩ ∧ g < w.heap.size ∧ w.cell? ⟨g, o + j, none⟩ = some u ∧ RdV w u (l.map iv) := by
  obtain ⟨vs, h1, h2, h3⟩ := h
  obtain ⟨a, c, rfl, hc⟩ := h1.open
  refine ⟨a, c, by rw [h2], fun j l hl => ?_⟩
  have hj : j < vs.length := by rw [h2]; exact (List.getElem?_eq_some_iff.mp hl).1
  obtain ⟨g, o, e1, e2, e3⟩ := hc j _ (List.getElem?_eq_getElem hj)
  exact ⟨g, o, _, e1, e2, e3, h3 j _ l (List.getElem?_eq_getElem hj) hl⟩
/-- A row appended to a row of rows. -/
theorem wpList_append_row {P : Program} {w : World} {ops : Array Oper} {rest : List Oper} {o : Oper} {a : Act} {Q : Exit → Act → World → Prop} (hgd : o.guard = none) (s x : Operand) (t : TypeId)
    (ho : o.op = .call { callee := .builtin .append, args := #[s, x], argTypes := #[t, t] })
    (base : Nat) (T I : TypeId) (hTI : I ≠ T) (i : TypeInfo) (z : Value) (nb : Nat) (ht : P.underlying t = some (.slice T)) (hi : P.info? T = some i) (hz : i.zero = some z) (hsize : i.size = 1) (hby : i.bytes = nb) (hzs : z.cells.size = 1)
    (v : Value) (L : List (List Int)) (hs : a.eval s = v) (hown : OwnR w base T I v L) (u : Value) (l : List Int) (hu : OwnV w base I u (l.map iv)) (hx : a.eval x = .slice (some ⟨w.heap.size, 0, none⟩) 1 1)
    (hlen : L.length ≤ 1000) (hnb : nb ≤ 1000) {w0 : World} {B : Nat} (hB : Below B w0 w) (hBb : B ≤ base) (hbase : base ≤ w.heap.size)
    (h : ∀ v' w', OwnR w' base T I v' (L ++ [l]) → OwnV w' base I u (l.map iv) → Below B w0 w' → wpList P ops Q rest (a.put o.dst v') w') :
    wpList P ops Q (o :: rest) a (w.alloc (.cells #[u] T)) := by
  obtain ⟨vs, h1, h2, h3⟩ := hown
  have h1u : u.oneCell' = true := by
    obtain ⟨a1, c1, rfl⟩ := hu.shape
    rfl
  refine wpList_append_grow hgd s x t ho base T i z nb ht hi hz hsize hby hzs v vs hs h1 u h1u hx (by rw [h2]; unfold maxLen; omega) (by rw [h2]; exact Nat.le_trans (Nat.mul_le_mul (show L.length + 1 ≤ 1001 by omega) hnb) (by decide)) hbase ?_
  intro v' w' ho' hg'
  have hne : ∀ y ys, OwnV w base I y ys → ∀ n, y.ownBlock = some n → v.ownBlock ≠ some n := fun y ys hy n hn => hy.apart h1 hTI n hn
  refine h v' w' ⟨vs ++ [u], ho', by rw [List.length_append, List.length_append, h2]; rfl, fun j y m hy hm => ?_⟩ ((hu.alloc _).grown hg' (hne _ _ hu)) ?_
  · by_cases hj : j < vs.length
    · rw [List.getElem?_append_left hj] at hy
      rw [List.getElem?_append_left (by omega)] at hm
      exact ((h3 j y m hy hm).alloc _).grown hg' (hne y _ (h3 j y m hy hm))
    · have hje : j = vs.length := by
        have := (List.getElem?_eq_some_iff.mp hy).1
        rw [List.length_append] at this
        simp at this
        omega
      subst hje
      rw [List.getElem?_append_right (Nat.le_refl _), Nat.sub_self] at hy
      rw [List.getElem?_append_right (by omega), show vs.length - L.length = 0 by omega] at hm
      have e1 : u = y := by simpa using hy
      have e2 : l = m := by simpa using hm
      subst e1 e2
      exact (hu.alloc _).grown hg' (hne _ _ hu)
  · exact (hB.alloc (Nat.le_trans hBb hbase) (.cells #[u] T)).grown hg' (by simp; omega) (fun n hn => Nat.le_trans hBb (h1.lt n hn).1)
/-- A value appended to a row of the call's own. -/
theorem wpList_append_val {P : Program} {w : World} {ops : Array Oper} {rest : List Oper} {o : Oper} {a : Act} {Q : Exit → Act → World → Prop} (hgd : o.guard = none) (s x : Operand) (t : TypeId)
    (ho : o.op = .call { callee := .builtin .append, args := #[s, x], argTypes := #[t, t] })
    (base : Nat) (T : TypeId) (i : TypeInfo) (z : Value) (nb : Nat) (ht : P.underlying t = some (.slice T)) (hi : P.info? T = some i) (hz : i.zero = some z) (hsize : i.size = 1) (hby : i.bytes = nb) (hzs : z.cells.size = 1)
    (v : Value) (xs : List Value) (hs : a.eval s = v) (hown : OwnV w base T v xs) (u : Value) (h1 : u.oneCell' = true) (hx : a.eval x = .slice (some ⟨w.heap.size, 0, none⟩) 1 1)
    (hlen : xs.length ≤ 1000) (hnb : nb ≤ 1000) {w0 : World} {B : Nat} (hB : Below B w0 w) (hBb : B ≤ base) (hbase : base ≤ w.heap.size)
    (h : ∀ v' w', OwnV w' base T v' (xs ++ [u]) → Below B w0 w' → wpList P ops Q rest (a.put o.dst v') w') :
    wpList P ops Q (o :: rest) a (w.alloc (.cells #[u] T)) := by
  refine wpList_append_grow hgd s x t ho base T i z nb ht hi hz hsize hby hzs v xs hs hown u h1 hx (by unfold maxLen; omega) (Nat.le_trans (Nat.mul_le_mul (show xs.length + 1 ≤ 1001 by omega) hnb) (by decide)) hbase ?_
  intro v' w' ho' hg'
  exact h v' w' ho' ((hB.alloc (Nat.le_trans hBb hbase) (.cells #[u] T)).grown hg' (by simp; omega) (fun n hn => Nat.le_trans hBb (hown.lt n hn).1))
/-- A piece of a row of rows is read. -/
theorem OwnR.cut {w : World} {base g n c : Nat} {T I : TypeId} {L : List (List Int)} (h : OwnR w base T I (.slice (some ⟨g, 0, none⟩) n c) L) (k m c' : Nat) (L' : List (List Int)) (hm : L'.length = m) (h0 : 0 < m) (hL : ∀ (j : Nat) (l : List Int), L'[j]? = some l → L[k + j]? = some l) : RdR w (.slice (some ⟨g, k, none⟩) m c') L' := by
  obtain ⟨vs, h1, h2, h3⟩ := h
  have hkm : k + m ≤ vs.length := by
    have hx : m - 1 < L'.length := by omega
    have := (List.getElem?_eq_some_iff.mp (hL (m - 1) _ (List.getElem?_eq_getElem hx))).1
    omega
  have hg : ∀ (j : Nat) (x : Value), ((vs.drop k).take m)[j]? = some x → vs[k + j]? = some x := fun j x hx => by
    rw [List.getElem?_take] at hx
    split at hx
    · rw [List.getElem?_drop] at hx; exact hx
    · cases hx
  have hl : ((vs.drop k).take m).length = m := by rw [List.length_take, List.length_drop]; omega
  exact ⟨(vs.drop k).take m, .inr ⟨g, k, c', by rw [hl], by omega, (h1.lt g rfl).2, fun j x hx => h1.cell (hg j x hx)⟩, by rw [hl, hm], fun i u l hu hl' => (h3 (k + i) u l (hg i u hu) (hL i l hl')).rdv⟩
theorem OwnR.some {w : World} {base n c : Nat} {a : Option Addr} {T I : TypeId} {L : List (List Int)} (h : OwnR w base T I (.slice a n c) L) (hn : 0 < n) : ∃ g, a = some ⟨g, 0, none⟩ ∧ base ≤ g ∧ g < w.heap.size ∧ L.length ≤ c := by
  obtain ⟨vs, h1, h2, _⟩ := h
  rcases h1.2 with ⟨e, _⟩ | ⟨g, cap, cur, e, hb, hgr, hc, _⟩
  · simp only [Value.slice.injEq] at e; omega
  · simp only [Value.slice.injEq] at e
    obtain ⟨rfl, rfl, rfl⟩ := e
    exact ⟨g, rfl, hb, (Array.getElem?_eq_some_iff.1 hgr).1, by omega⟩
def preR (f : Nat → List Int) (k : Nat) : List (List Int) := (List.range k).map f
theorem preR_len (f : Nat → List Int) (k : Nat) : (preR f k).length = k := by unfold preR; rw [List.length_map, List.length_range]
theorem preR_succ (f : Nat → List Int) (k : Nat) : preR f (k + 1) = preR f k ++ [f k] := by unfold preR; rw [List.range_succ, List.map_append]; rfl
theorem preR_get (f : Nat → List Int) (k i : Nat) (h : i < k) : (preR f k)[i]? = some (f i) := by
  unfold preR
  rw [List.getElem?_map, List.getElem?_range h]
  rfl
end Go.Proofs.Ytjgnjjphankhnac

/- Chains by the given model: keys for once, their public half, signatures, what is found, over the loaded program. -/
namespace Go.Proofs.Ytjgnjjphankhnac
open Go.RowKit
def preS (f : Nat → ByteArray) (k : Nat) : List ByteArray := (List.range k).map f
theorem preS_len (f : Nat → ByteArray) (k : Nat) : (preS f k).length = k := by unfold preS; rw [List.length_map, List.length_range]
theorem preS_succ (f : Nat → ByteArray) (k : Nat) : preS f (k + 1) = preS f k ++ [f k] := by unfold preS; rw [List.range_succ, List.map_append]; rfl
theorem bAt_get (l : List ByteArray) (k : Nat) (h : k < l.length) : (l.map sv)[k]? = some (.string (bAt l k)) := by
  rw [sv_get l k h]
  unfold bAt
  rw [List.getD_eq_getElem?_getD, List.getElem?_eq_getElem h]
  rfl
theorem bAt_size (l : List ByteArray) (k n : Nat) (h : k < l.length) (hn : ∀ x ∈ l, x.size ≤ n) : (bAt l k).size ≤ n := by
  unfold bAt
  rw [List.getD_eq_getElem?_getD, List.getElem?_eq_getElem h]
  exact hn _ (List.getElem_mem h)
end Go.Proofs.Ytjgnjjphankhnac

/- Chains by the given model: signatures for once, what is found, over the loaded program. -/
namespace Go.Proofs.Ytjgnjjphankhnac
open Go.RowKit
theorem step_append_u {P : Program} {w W : World} {ops : Array Oper} {o : Oper} {a : Act} {K : Act → World → Prop} {Q : Exit → Act → World → Prop} {E : Prop} {e : TypeId} {u : Value} (h1 : u.oneCell' = true) (hW : W = w.alloc (.cells #[u] e)) (hg : o.guard = none) (s y : Operand) (t : TypeId)
    (ho : o.op = .call { callee := .builtin .append, args := #[s, y], argTypes := #[t, t] })
    (base B : Nat) (i : TypeInfo) (z : Value) (nb : Nat) (ht : P.underlying t = some (.slice e)) (hi : P.info? e = some i) (hz : i.zero = some z) (hsize : i.size = 1) (hby : i.bytes = nb) (hzs : z.cells.size = 1)
    (v : Value) (xs : List Value) (hs : a.eval s = v) (hown : OwnV w base e v xs)
    (hx : a.eval y = .slice (some ⟨w.heap.size, 0, none⟩) 1 1)
    (h63 : xs.length + 1 ≤ maxLen) (hbytes : (xs.length + 1) * nb ≤ 140737488355328) (hB : B ≤ base) (hbase : base ≤ w.heap.size) {w00 : World} (hbel : Below B w00 w)
    (h : ∀ v' w', OwnV w' base e v' (xs ++ [u]) → Below B w00 w' → K (a.put o.dst v') w') :
    if Region.wanted o (yielded ops a.tmps) = true then Oper.wp P o a W K Q else E := by
  subst hW
  have hw : Region.wanted o (yielded ops a.tmps) = true := by simp [Region.wanted, hg]
  rw [if_pos hw]
  exact wp_append_vals s y t ho base B e i z nb ht hi hz hsize hby hzs v xs hs (hown.alloc _) w.heap.size #[u] (heap_alloc_new w _) [u] rfl (by intro y hy; simp only [List.mem_singleton] at hy; subst hy; exact h1) 1 1 rfl hx h63 hbytes hB (by simp; omega) (hbel.alloc (by omega) _) h
theorem step_append_gu {P : Program} {w W : World} {ops : Array Oper} {o : Oper} {a : Act} {K : Act → World → Prop} {Q : Exit → Act → World → Prop} {E : Prop} {e : TypeId} {u : Value} (h1 : u.oneCell' = true) (hW : W = w.alloc (.cells #[u] e)) (hg : o.guard = none) (s y : Operand) (t : TypeId)
    (ho : o.op = .call { callee := .builtin .append, args := #[s, y], argTypes := #[t, t] })
    (base : Nat) (i : TypeInfo) (z : Value) (nb : Nat) (ht : P.underlying t = some (.slice e)) (hi : P.info? e = some i) (hz : i.zero = some z) (hsize : i.size = 1) (hby : i.bytes = nb) (hzs : z.cells.size = 1)
    (v : Value) (xs : List Value) (hs : a.eval s = v) (hown : OwnV w base e v xs)
    (hx : a.eval y = .slice (some ⟨w.heap.size, 0, none⟩) 1 1)
    (h63 : xs.length + 1 ≤ maxLen) (hbytes : (xs.length + 1) * nb ≤ 140737488355328) (hbase : base ≤ w.heap.size)
    (h : ∀ v' w', OwnV w' base e v' (xs ++ [u]) → (w.alloc (.cells #[u] e)).grownBy w' v.ownBlock → K (a.put o.dst v') w') :
    if Region.wanted o (yielded ops a.tmps) = true then Oper.wp P o a W K Q else E := by
  subst hW
  have hw : Region.wanted o (yielded ops a.tmps) = true := by simp [Region.wanted, hg]
  rw [if_pos hw]
  refine wp_append_own (w.alloc (.cells #[u] e)) s y t ho base e i z 1 nb ht hi hz hsize hby hzs (by decide) v xs.length xs hs (hown.alloc _) ⟨w.heap.size, 0, none⟩ 1 1 [u] hx rfl (fun j q hq => ?_) (by intro q hq; simp only [List.mem_singleton] at hq; subst hq; exact h1) h63 hbytes (by simp; omega) ?_
  · have hadd : (⟨w.heap.size, 0, none⟩ : Addr).add j = ⟨w.heap.size, j, none⟩ := by unfold Addr.add; split <;> simp_all
    rw [hadd, cell_of_row _ w.heap.size j _ e (0, 0) (heap_alloc_new w _)]
    simpa using hq
  · intro v' w' h2 h3 _
    exact h v' w' (by unfold OwnV; simpa using h2) h3
theorem digL_get (m : ByteArray) (i : Nat) (h : i < 10) : ((digL m).map iv)[i]? = some (.int .i64 (dgAt m i : Int)) := by
  rw [List.getElem?_map, digL_at m i h]
  rfl
theorem steps_dg (m : ByteArray) (i : Nat) : stepsN (dgAt m i : Int) = dgAt m i ∧ stepsN ((15 - dgAt m i : Nat) : Int) = 15 - dgAt m i := by
  have h := dgAt_le m i
  unfold stepsN
  constructor
  · rw [if_pos (by omega), Int.toNat_natCast]
  · rw [if_pos (by omega), Int.toNat_natCast]
theorem chn_le (x : ByteArray) (leaf chain frm : Int) (k : Nat) : (chnB x leaf chain frm k).size ≤ 4 + x.size := by
  cases k with
  | zero => show x.size ≤ _; omega
  | succ k => show (chopB _).size ≤ _; rw [chopB_size]; omega
theorem catC_sum (l : List ByteArray) (f : Nat → ByteArray) (h : ∀ i, (f i).size ≤ 4 + (bAt l i).size) (k : Nat) (hk : k ≤ l.length) : (catC f k).size ≤ 4 * k + sumS (l.take k) := by
  induction k with
  | zero => exact Nat.zero_le _
  | succ k ih =>
    have h1 := ih (by omega)
    have h2 := h k
    have h3 := sumS_take l k (by omega)
    have h4 : bAt l k = l[k]'(by omega) := by
      unfold bAt
      rw [List.getD_eq_getElem?_getD, List.getElem?_eq_getElem (show k < l.length by omega)]
      rfl
    rw [h4] at h2
    show (catC f k ++ f k).size ≤ _
    rw [ByteArray.size_append]
    omega
theorem sumS_le (l : List ByteArray) (n : Nat) (h : sumS l ≤ n) : ∀ x ∈ l, x.size ≤ n := by
  intro x hx
  obtain ⟨k, hk, rfl⟩ := List.mem_iff_getElem.1 hx
  exact Nat.le_trans (sumS_at l k hk) h
set_option maxRecDepth 20000 in
set_option maxHeartbeats 1000000 in
theorem specOnceFound_any (l : List ByteArray) (leaf : Int) (m : ByteArray) (v : Value) (w : World) (hr : RdV w v (l.map sv)) (hl : sumS l ≤ 1048576) (hm : m.size ≤ 1048576) :
    Calls Try.prog 36 #[v, .int .i64 leaf, .string m] w fun e w' => e = .returned (.string (onceF l leaf m)) ∧ Below w.heap.size w w' := by
  obtain ⟨a, c, rfl, hc⟩ := hr.open
  rw [List.length_map]
  clear hr
  by_cases h10 : l.length = 10
  · have EP := hide (show onceF l leaf m = chopB (catC (fun i => chnB (bAt l i) leaf (i : Int) (dgAt m i : Int) (15 - dgAt m i)) 10) by unfold onceF; rw [if_pos h10])
    rw [unhide EP]
    have hl2 := sumS_le l _ hl
    obtain ⟨f, hf⟩ : ∃ f : Nat → ByteArray, f = fun i => chnB (bAt l i) leaf (i : Int) (dgAt m i : Int) (15 - dgAt m i) := ⟨_, rfl⟩
    have CH2 := hide (show ∀ (i : Nat), i < 10 → ∀ W, Calls Try.prog 53 #[.string (bAt l i), .int .i64 leaf, .int .i64 (i : Int), .int .i64 (dgAt m i : Int), .int .i64 ((15 - dgAt m i : Nat) : Int)] W fun e w' => e = .returned (.string (f i)) ∧ Below W.heap.size W w' from fun i hi W => by rw [hf]; have h := specChain_any (bAt l i) leaf (i : Int) (dgAt m i : Int) ((15 - dgAt m i : Nat) : Int) (bAt_size l i _ (by omega) hl2) W; rw [(steps_dg m i).2] at h; exact h)
    have hfs : ∀ i, (f i).size ≤ 4 + (bAt l i).size := fun i => by rw [hf]; exact chn_le _ _ _ _ _
    have hcl := hide (show ∀ k, k ≤ 10 → (catC f k).size ≤ 1048616 from fun k hk => by
      have h1 := catC_sum l f hfs k (by omega)
      have h2 : sumS (l.take k) ≤ sumS l := by
        have : ∀ (q : List ByteArray) (j : Nat), sumS (q.take j) ≤ sumS q := fun q => by
          induction q with
          | nil => intro j; rw [List.take_nil]; exact Nat.le_refl _
          | cons x xs ih =>
            intro j
            cases j with
            | zero => exact Nat.zero_le _
            | succ j => have := ih j; show x.size + sumS (xs.take j) ≤ x.size + sumS xs; omega
        exact this l k
      omega)
    have hfz := hide (show ∀ i, i < 10 → (f i).size ≤ 1048580 from fun i hi => by have h1 := hfs i; have h2 := bAt_size l i _ (by omega) hl2; omega)
    rw [← hf]
    have CC := hide (fun W => specChop_any (catC f 10) (by have := unhide hcl 10 (by omega); omega) W)
    have Hs := hide (show ∀ k, catC f (k + 1) = catC f k ++ f k from fun k => rfl)
    have H0 := hide (show catC f 0 = ⟨#[]⟩ from rfl)
    generalize chopB (catC f 10) = R at *
    generalize catC f = cat at *
    have CD := hide (fun W => specDigits_any m (by omega) W)
    have DG := hide (fun k (h : k < 10) => digL_get m k h)
    have DL := hide (fun k => dgAt_le m k)
    have dl := digL_len m
    generalize digL m = D at *
    rw [h10]
    replace h10 := hide h10; replace hf := hide hf; replace dl := hide dl
    clear EP hfs
    go_enter Try.func36, Try.ntmps36
    go_wp2_with fail
    refine (unhide CD w).mono ?_
    rintro e w1 ⟨⟨vd, rfl, od⟩, hbd⟩
    obtain ⟨ad, cd, rfl, hcd⟩ := od.rdv.open
    have hdl : (D.map iv).length = 10 := by rw [List.length_map]; exact unhide dl
    rw [hdl]
    have KS := hide (fun (k : Nat) (hk : k < 10) (W : World) (h : Below w1.heap.size w1 W) => (show ∃ g o g' o', a = some ⟨g, o, none⟩ ∧ ad = some ⟨g', o', none⟩ ∧ W.cell? ⟨g, o + k, none⟩ = some (.string (bAt l k)) ∧ W.cell? ⟨g', o' + k, none⟩ = some (.int .i64 (dgAt m k : Int)) from by
      obtain ⟨g, o, e1, e2, e3⟩ := hc k _ (bAt_get l k (by rw [unhide h10]; exact hk))
      obtain ⟨g', o', i1, i2, i3⟩ := hcd k _ (unhide DG k hk)
      have hT : Below w.heap.size w W := hbd.trans (h.mono hbd.size)
      exact ⟨g, o, g', o', e1, i1, (hT.cell (p := ⟨g, o + k, none⟩) e2).trans e3, (h.cell (p := ⟨g', o' + k, none⟩) i2).trans i3⟩))
    clear od CD hdl hc DG hcd
    go_wp2
    go_loopw [8, 9] (fun tx ti wr => ∃ k : Nat, k ≤ 10 ∧ ti = .int .i64 (k : Int) ∧ tx = .string (cat k) ∧ Below w1.heap.size w1 wr) (fun _ ti _ => 10 - (intOf ti).toNat)
    case atStart => exact ⟨0, by omega, rfl, by rw [unhide H0], Below.refl _ _⟩
    case round =>
      obtain ⟨k, hk, rfl, rfl, hB⟩ := hrel
      have hsz := hB.size
      by_cases hlt : k < 10
      · have hk' : (k : Int) < 10 := by omega
        have hk0 : (0 : Int) ≤ (k : Int) := by omega
        obtain ⟨g, o, g', o', rfl, rfl, d1, d2⟩ := unhide KS k hlt wr hB
        have KS2 := hide (fun (W : World) (h : Below w1.heap.size w1 W) => (show W.cell? ⟨g, o + k, none⟩ = some (.string (bAt l k)) ∧ W.cell? ⟨g', o' + k, none⟩ = some (.int .i64 (dgAt m k : Int)) from by
          obtain ⟨_, _, _, _, e1, e2, e3, e4⟩ := unhide KS k hlt W h
          cases e1
          cases e2
          exact ⟨e3, e4⟩))
        have c1 := hide (unhide CH2 k hlt)
        have HC := hide (unhide Hs k)
        have z1 := unhide hcl k hk
        have z2 := unhide hfz k hlt
        have dle := unhide DL k
        generalize bAt l k = x at *
        obtain ⟨dz, hdz⟩ : ∃ z, z = dgAt m k := ⟨_, rfl⟩
        rw [← hdz] at d2 KS2 c1 dle
        obtain ⟨dy, hdy⟩ : ∃ z, z = 15 - dz := ⟨_, rfl⟩
        rw [← hdy] at c1
        have q1 : IntKind.i64.wrap (15 - (dz : Int)) = (dy : Int) := by rw [IntKind.wrap_i64]; omega
        generalize f k = y at *
        have hadd : ¬ 9223372036854775807 < (cat k).size + y.size := by omega
        have hadd2 : (cat k).size + y.size ≤ 9223372036854775807 := by omega
        replace hdz := hide hdz; replace hdy := hide hdy
        clear KS CH2
        go_wp2
        go_region_held3 (fun W => W.cell? ⟨g, o + k, none⟩ = some (.string x) ∧ W.cell? ⟨g', o' + k, none⟩ = some (.int .i64 (dz : Int))) (first | exact ⟨d1, d2⟩ | exact (unhide KS2) _ hB4 | fail) (first
          | (go_at_call 53; refine (unhide c1 _).mono ?_; rintro e w4 ⟨rfl, hb4⟩; have hB4 := (hB.drew).trans (hb4.mono hB.size)))
        all_goals
          clear d1 d2 KS2
          go_wp2
          exact ⟨⟨k + 1, by omega, by go_num, by rw [unhide HC], hB4⟩, by simp [intOf]; omega⟩
      · have hk' : ¬ (k : Int) < 10 := by omega
        obtain rfl : k = 10 := by omega
        clear KS
        go_wp2_with fail
        refine (unhide CC wr).mono ?_
        rintro e w5 ⟨rfl, hb5⟩
        have hB5 := hbd.trans ((hB.trans (hb5.mono hB.size)).mono hbd.size)
        clear hb5 hB CC
        go_wp2
        go_ret
        exact ⟨rfl, hB5⟩
  · have EP := hide (show onceF l leaf m = ⟨#[]⟩ by unfold onceF; rw [if_neg h10])
    rw [unhide EP]
    have h10' : ¬ (l.length : Int) = 10 := by omega
    clear hc
    go_enter Try.func36, Try.ntmps36
    go_wp2
    go_ret
    exact ⟨rfl, Below.refl _ _⟩
end Go.Proofs.Ytjgnjjphankhnac

/- Trees by the given model: nodes and levels, over the loaded program. -/
namespace Go.Proofs.Ytjgnjjphankhnac
open Go.RowKit
theorem bAt_getT (l : List ByteArray) (k : Nat) (h : k < l.length) : (l.map sv)[k]? = some (.string (bAt l k)) := by
  rw [sv_get l k h]
  unfold bAt
  rw [List.getD_eq_getElem?_getD, List.getElem?_eq_getElem h]
  rfl
theorem bAt_sizeT (l : List ByteArray) (k n : Nat) (hn : ∀ x ∈ l, x.size ≤ n) : (bAt l k).size ≤ n := by
  unfold bAt
  rw [List.getD_eq_getElem?_getD]
  cases h : l[k]? with
  | none => exact Nat.zero_le _
  | some x => exact hn x (List.mem_of_getElem? h)
def preT (f : Nat → ByteArray) (k : Nat) : List ByteArray := (List.range k).map f
theorem preT_len (f : Nat → ByteArray) (k : Nat) : (preT f k).length = k := by unfold preT; rw [List.length_map, List.length_range]
theorem preT_succ (f : Nat → ByteArray) (k : Nat) : preT f (k + 1) = preT f k ++ [f k] := by unfold preT; rw [List.range_succ, List.map_append]; rfl
set_option maxRecDepth 20000 in
set_option maxHeartbeats 800000 in
theorem specNode_any (level place : Int) (a b : ByteArray) (ha : a.size ≤ 1048576) (hb : b.size ≤ 1048576) (w : World) :
    Calls Try.prog 51 #[.int .i64 level, .int .i64 place, .string a, .string b] w fun e w' => e = .returned (.string (nodeB level place a b)) ∧ Below w.heap.size w w' := by
  have CB := hide (fun z W => specByteY_any z W)
  have CC := hide (fun W => specChop_any (oneY level ++ oneY place ++ a ++ b ++ ⟨#[110]⟩) (by rw [ByteArray.size_append, ByteArray.size_append, ByteArray.size_append, ByteArray.size_append, oneY_size, oneY_size]; show 1 + 1 + a.size + b.size + 1 ≤ _; omega) W)
  have HN := hide (show chopB (oneY level ++ oneY place ++ a ++ b ++ ⟨#[110]⟩) = nodeB level place a b from rfl)
  rw [unhide HN] at CC
  have za := oneY_size level
  have zb := oneY_size place
  have c1 := hide (unhide CB level)
  have c2 := hide (unhide CB place)
  generalize nodeB level place a b = R at *
  generalize oneY level = ya at *
  generalize oneY place = yb at *
  have za' : ya.size ≤ 1 := by omega
  have zb' : yb.size ≤ 1 := by omega
  replace za := hide za; replace zb := hide zb
  clear CB HN
  go_enter Try.func51, Try.ntmps51
  go_wp2_with fail
  refine (unhide c1 w).mono ?_
  rintro e w1 ⟨rfl, hb1⟩
  go_wp2_with fail
  refine (unhide c2 w1).mono ?_
  rintro e w2 ⟨rfl, hb2⟩
  have hB2 := hb1.trans (hb2.mono hb1.size)
  go_wp2_with fail
  refine (unhide CC w2).mono ?_
  rintro e w3 ⟨rfl, hb3⟩
  have hB3 := hB2.trans (hb3.mono hB2.size)
  go_wp2
  go_ret
  exact ⟨rfl, hB3⟩
end Go.Proofs.Ytjgnjjphankhnac

/- Trees by the given model: roots and paths, over the loaded program. -/
namespace Go.Proofs.Ytjgnjjphankhnac
open Go.RowKit
theorem OwnV.loW {w : World} {base : Nat} {e : TypeId} {v : Value} {xs : List Value} (h : OwnV w base e v xs) : ∀ k, v.ownBlock = some k → base ≤ k ∧ k < w.heap.size := fun k hk => World.ownsRow.lt h k hk
theorem RdV.loW {w : World} {v : Value} {xs : List Value} (h : RdV w v xs) (hn : 0 < xs.length) : ∀ k, v.ownBlock = some k → k < w.heap.size := by
  intro k hk
  rcases h with ⟨_, _, _, h⟩ | ⟨g, o, c, rfl, _, hg, _⟩
  · rw [h] at hn; exact absurd hn (Nat.lt_irrefl _)
  · have : g = k := Option.some.inj hk
    omega
theorem lvs_len2 (l : List ByteArray) (hl : l.length = 4) (k : Nat) (hk : k ≤ 2) : (k = 0 ∧ (lvs l k).length = 4) ∨ (k = 1 ∧ (lvs l k).length = 2) ∨ (k = 2 ∧ (lvs l k).length = 1) := by
  have h := lvs_len l hl k
  rcases show k = 0 ∨ k = 1 ∨ k = 2 by omega with rfl | rfl | rfl
  · exact .inl ⟨rfl, h⟩
  · exact .inr (.inl ⟨rfl, h⟩)
  · exact .inr (.inr ⟨rfl, h⟩)
theorem sib_lt (l : List ByteArray) (hl : l.length = 4) (leaf k : Nat) (h : leaf < 4) (hk : k < 2) : sibN (leaf / 2 ^ k) < (lvs l k).length ∧ leaf / 2 ^ k < 4 := by
  unfold sibN
  rcases lvs_len2 l hl k (by omega) with ⟨rfl, e⟩ | ⟨rfl, e⟩ | ⟨rfl, e⟩
  · rw [e, Nat.pow_zero, Nat.div_one]
    split <;> omega
  · rw [e, Nat.pow_one]
    split <;> omega
  · omega
set_option maxRecDepth 20000 in
set_option maxHeartbeats 800000 in
theorem specRootBy_any (x : ByteArray) (leaf : Int) (path : List ByteArray) (v : Value) (w : World) (hx : x.size ≤ 1048576) (hr : RdV w v (path.map sv)) (hs : ∀ x ∈ path, x.size ≤ 1048576) :
    Calls Try.prog 35 #[.string x, .int .i64 leaf, v] w fun e w' => e = .returned (.string (rootBy x leaf path)) ∧ Below w.heap.size w w' := by
  have C1 := hide (fun W => inb9 leaf 0 3 W)
  obtain ⟨a, c, rfl, hc⟩ := hr.open
  rw [List.length_map]
  clear hr
  by_cases h2 : path.length = 2
  · by_cases hlf : 0 ≤ leaf ∧ leaf ≤ 3
    · rw [decide_eq_true hlf] at C1
      obtain ⟨m, rfl⟩ : ∃ m : Nat, leaf = (m : Int) := ⟨leaf.toNat, by omega⟩
      have hm : m < 4 := by omega
      have ER := hide (show rootBy x (m : Int) path = rbB x m path 2 by unfold rootBy; rw [if_pos ⟨h2, hlf⟩, Int.toNat_natCast])
      rw [unhide ER]
      have HN := hide (show ∀ k, rbB x m path (k + 1) = stpB ((k + 1 : Nat) : Int) (m / 2 ^ k) (rbB x m path k) (bAt path k) from fun k => rfl)
      have HC := hide (fun k (hk : k < 2) => hc k _ (bAt_getT path k (by omega)))
      have HZ := hide (fun k => rbB_size x m path k _ (show 4 ≤ 1048576 by omega) hx)
      have HP := hide (fun k => bAt_sizeT path k _ hs)
      rw [h2]
      clear hc
      replace h2 := hide h2
      go_enter Try.func35, Try.ntmps35
      go_wp2_with fail
      refine (unhide C1 _).mono ?_
      rintro e w1 ⟨rfl, hw1⟩
      have hw1' := hw1.symm
      subst hw1'
      clear hw1
      go_wp2
      go_loopw [0, 1, 7] (fun tx tf ti wr => ∃ k y : Nat, k ≤ 2 ∧ ti = .int .i64 ((k + 1 : Nat) : Int) ∧ tf = .int .i64 (y : Int) ∧ Hid (y = m / 2 ^ k) ∧ tx = .string (rbB x m path k) ∧ Below w.heap.size w wr) (fun _ _ ti _ => 5 - (intOf ti).toNat)
      case atStart => exact ⟨0, m, by omega, rfl, rfl, hide (by rw [Nat.pow_zero, Nat.div_one]), rfl, Below.refl _ _⟩
      case round =>
        obtain ⟨k, y, hk, rfl, rfl, hy, rfl, hB⟩ := hrel
        by_cases hlt : k < 2
        · have hk' : ((k + 1 : Nat) : Int) ≤ 2 := by omega
          have hk2 : (k : Int) < 2 := by omega
          have hk0 : (0 : Int) ≤ (k : Int) := by omega
          have hkk : ((k + 1 : Nat) : Int) - 1 = (k : Int) := by omega
          have hy4 : y < 4 := by rw [unhide hy]; exact Nat.lt_of_le_of_lt (Nat.div_le_self _ _) hm
          obtain ⟨g, o, rfl, hg, d1⟩ := unhide HC k hlt
          have d2 := (hB.cell (p := ⟨g, o + k, none⟩) hg).trans d1
          obtain ⟨y2, hy2⟩ : ∃ y2, y2 = y / 2 := ⟨_, rfl⟩
          have HY := hide (show y2 = m / 2 ^ (k + 1) by rw [hy2, unhide hy, Nat.div_div_eq_div_mul, Nat.pow_succ])
          have v1' : (y : Int) / 2 = (y2 : Int) := by omega
          have v1 : (y : Int).tdiv 2 = (y2 : Int) := by rw [Int.tdiv_eq_ediv_of_nonneg (by omega)]; omega
          have HX := hide (unhide HN k)
          rw [← unhide hy] at HX
          have hxk := unhide HZ k
          have hpk := unhide HP k
          obtain ⟨R0, hR⟩ : ∃ R0, R0 = rbB x m path (k + 1) := ⟨_, rfl⟩
          replace hR := hide hR.symm
          generalize rbB x m path k = xk at *
          generalize bAt path k = pk at *
          rw [unhide hR] at HX
          clear HC HN HZ HP d1
          by_cases hodd : y % 2 = 1
          · have ho1' : (y : Int) % 2 = 1 := by omega
            have ho1 : (y : Int).tmod 2 = 1 := by rw [Int.tmod_eq_emod_of_nonneg (by omega)]; omega
            have ES := hide (show stpB ((k + 1 : Nat) : Int) y xk pk = nodeB ((k + 1 : Nat) : Int) (y2 : Int) pk xk by unfold stpB; rw [if_pos hodd, ← hy2])
            have c1 := hide (fun W => specNode_any ((k + 1 : Nat) : Int) (y2 : Int) pk xk hpk hxk W)
            rw [← unhide ES, ← unhide HX] at c1
            replace hodd := hide hodd; replace hy2 := hide hy2
            clear ES HX
            go_wp2_with fail
            refine (unhide c1 wr).mono ?_
            rintro e w1 ⟨rfl, hb1⟩
            have hB1 := hB.trans (hb1.mono hB.size)
            clear hb1 hB c1
            go_wp2
            exact ⟨⟨k + 1, y2, by omega, by go_num, by first | rfl | trivial, HY, by rw [unhide hR], hB1⟩, by simp [intOf]; omega⟩
          · have ho1' : (y : Int) % 2 = 0 := by omega
            have ho1 : (y : Int).tmod 2 = 0 := by rw [Int.tmod_eq_emod_of_nonneg (by omega)]; omega
            have ES := hide (show stpB ((k + 1 : Nat) : Int) y xk pk = nodeB ((k + 1 : Nat) : Int) (y2 : Int) xk pk by unfold stpB; rw [if_neg hodd, ← hy2])
            have c1 := hide (fun W => specNode_any ((k + 1 : Nat) : Int) (y2 : Int) xk pk hxk hpk W)
            rw [← unhide ES, ← unhide HX] at c1
            replace hodd := hide hodd; replace hy2 := hide hy2
            clear ES HX
            go_wp2_with fail
            refine (unhide c1 wr).mono ?_
            rintro e w1 ⟨rfl, hb1⟩
            have hB1 := hB.trans (hb1.mono hB.size)
            clear hb1 hB c1
            go_wp2
            exact ⟨⟨k + 1, y2, by omega, by go_num, by first | rfl | trivial, HY, by rw [unhide hR], hB1⟩, by simp [intOf]; omega⟩
        · have hk' : ¬ ((k + 1 : Nat) : Int) ≤ 2 := by omega
          obtain rfl : k = 2 := by omega
          clear HC
          go_wp2
          go_ret
          exact ⟨rfl, hB⟩
    · rw [decide_eq_false hlf] at C1
      have ER := hide (show rootBy x leaf path = ⟨#[]⟩ by unfold rootBy; rw [if_neg (fun h => hlf h.2)])
      rw [unhide ER, h2]
      clear hc
      go_enter Try.func35, Try.ntmps35
      go_wp2_with fail
      refine (unhide C1 _).mono ?_
      rintro e w1 ⟨rfl, hw1⟩
      have hw1' := hw1.symm
      subst hw1'
      clear hw1
      go_wp2
      go_ret
      exact ⟨rfl, Below.refl _ _⟩
  · have ER := hide (show rootBy x leaf path = ⟨#[]⟩ by unfold rootBy; rw [if_neg (fun h => h2 h.1)])
    rw [unhide ER]
    have h2' : ¬ (path.length : Int) = 2 := by omega
    clear hc
    go_enter Try.func35, Try.ntmps35
    go_wp2
    go_ret
    exact ⟨rfl, Below.refl _ _⟩
end Go.Proofs.Ytjgnjjphankhnac

/- Keys of a tree by the given model: leaves, public texts, signatures, over the loaded program. -/
namespace Go.Proofs.Ytjgnjjphankhnac
open Go.RowKit
end Go.Proofs.Ytjgnjjphankhnac

/- Keys of a tree by the given model: whether a signature is right, over the loaded program. -/
namespace Go.Proofs.Ytjgnjjphankhnac
open Go.RowKit
set_option maxRecDepth 20000 in
set_option maxHeartbeats 800000 in
theorem specSigOk_any (s : Sg) (v : Value) (w : World) (hr : RdSg w v s) (n1 : s.once.length ≤ 2000000) (n2 : s.path.length ≤ 2000000) :
    Calls Try.prog 25 #[v] w fun e w' => e = .returned (.bool (sgOk s)) ∧ Below w.heap.size w w' := by
  obtain ⟨lf, l1, l2⟩ := s
  obtain ⟨v1, v2, rfl, r1, r2, -⟩ := hr
  have C0 := hide (fun W => inb9 lf 0 3 W)
  obtain ⟨a1, c1, rfl, hc1⟩ := r1.open
  obtain ⟨a2, c2, rfl, hc2⟩ := r2.open
  clear r1 r2
  replace hc1 : ∀ k, k < l1.length → ∃ g o, a1 = some ⟨g, o, none⟩ ∧ g < w.heap.size ∧ w.cell? ⟨g, o + k, none⟩ = some (.string (bAt l1 k)) := fun k hk => hc1 k _ (bAt_get l1 k hk)
  replace hc2 : ∀ k, k < l2.length → ∃ g o, a2 = some ⟨g, o, none⟩ ∧ g < w.heap.size ∧ w.cell? ⟨g, o + k, none⟩ = some (.string (bAt l2 k)) := fun k hk => hc2 k _ (bAt_get l2 k hk)
  unfold sgv
  show Calls _ _ #[.agg #[.int .i64 lf, .slice a1 (l1.map sv).length c1, .slice a2 (l2.map sv).length c2]] _ _
  rw [List.length_map, List.length_map]
  by_cases h : 0 ≤ lf ∧ lf ≤ 3
  · rw [decide_eq_true h] at C0
    by_cases h1 : l1.length = 10
    · by_cases h2 : l2.length = 2
      · have E1 := hide (fun (h3 : ∀ k, k < 10 → (bAt l1 k).size = 4) (h4 : ∀ k, k < 2 → (bAt l2 k).size = 4) => show sgOk ⟨lf, l1, l2⟩ = true from sgOk_of ⟨h, h1, h2⟩ (four_bAt (l := l1) fun k hk => h3 k (by omega)) (four_bAt (l := l2) fun k hk => h4 k (by omega)))
        have E2 := hide (fun k (hk : k < 10) (hx : ¬ (bAt l1 k).size = 4) => show sgOk ⟨lf, l1, l2⟩ = false from sgOk_no2 (four_no (l := l1) k (by omega) hx))
        have E3 := hide (fun k (hk : k < 2) (hx : ¬ (bAt l2 k).size = 4) => show sgOk ⟨lf, l1, l2⟩ = false from sgOk_no3 (four_no (l := l2) k (by omega) hx))
        rw [h1] at hc1 ⊢
        rw [h2] at hc2 ⊢
        generalize sgOk ⟨lf, l1, l2⟩ = R at *
        generalize bAt l1 = F1 at *
        generalize bAt l2 = F2 at *
        clear h h1 h2 n1 n2
        go_enter Try.func25, Try.ntmps25
        go_wp2_with fail
        obtain ⟨W, hW, hP, hB, hs1⟩ := one_cb w #[.int .i64 lf, .slice a1 10 c1, .slice a2 2 c2] 29
        rw [hW]
        clear hW
        refine (unhide C0 W).mono ?_
        rintro e w1 ⟨rfl, hw1⟩
        have hw2 := hw1.symm
        subst hw2
        clear hw1 C0
        have p1 := hP.cell 1 (v := .slice a1 10 c1) rfl
        have p2 := hP.cell 2 (v := .slice a2 2 c2) rfl
        replace hP := hide hP
        go_wp2
        go_loopw [3] (fun ti wr => ∃ k : Nat, k ≤ 10 ∧ ti = .int .i64 (k : Int) ∧ Hid (∀ j, j < k → (F1 j).size = 4) ∧ wr = W) (fun ti _ => 10 - (intOf ti).toNat)
        case atStart => exact ⟨0, by omega, rfl, hide (fun j hj => absurd hj (by omega)), rfl⟩
        case round =>
          obtain ⟨k, hk, rfl, HK, hw⟩ := hrel
          have hw' := hw.symm
          subst hw'
          clear hw
          by_cases hlt : k < 10
          · have hk' : (k : Int) < 10 := by omega
            obtain ⟨g, o, rfl, hg, d1⟩ := hc1 k hlt
            replace d1 := (hB.cell (p := ⟨g, o + k, none⟩) hg).trans d1
            by_cases hx : (F1 k).size = 4
            · have HK2 := hide (show ∀ j, j < k + 1 → (F1 j).size = 4 from fun j hj => by
                by_cases e : j = k
                · rw [e]; exact hx
                · exact unhide HK j (by omega))
              generalize F1 k = told at d1 hx
              clear hc1 hc2 HK
              go_wp2
              exact ⟨⟨k + 1, by omega, by go_num, HK2, by first | rfl | trivial⟩, by simp [intOf]; omega⟩
            · have E := hide (unhide E2 k hlt hx)
              have hx' : ¬ ((F1 k).size : Int) = 4 := by omega
              generalize F1 k = told at d1 hx'
              clear hc1 hc2 HK E1 E2 E3 hx
              go_wp2
              go_ret
              exact ⟨by rw [unhide E]; rfl, hB⟩
          · have hk' : ¬ (k : Int) < 10 := by omega
            have HK2 := hide (show ∀ j, j < 10 → (F1 j).size = 4 from fun j hj => unhide HK j (by omega))
            clear hc1 HK
            go_wp2
            go_loopw [4] (fun ti wr => ∃ k : Nat, k ≤ 2 ∧ ti = .int .i64 (k : Int) ∧ Hid (∀ j, j < k → (F2 j).size = 4) ∧ wr = W) (fun ti _ => 2 - (intOf ti).toNat)
            case atStart => exact ⟨0, by omega, rfl, hide (fun j hj => absurd hj (by omega)), rfl⟩
            case round =>
              obtain ⟨k, hk, rfl, HK, hw⟩ := hrel
              have hw' := hw.symm
              subst hw'
              clear hw
              by_cases hlt2 : k < 2
              · have hk2 : (k : Int) < 2 := by omega
                obtain ⟨g, o, rfl, hg, d1⟩ := hc2 k hlt2
                replace d1 := (hB.cell (p := ⟨g, o + k, none⟩) hg).trans d1
                by_cases hx : (F2 k).size = 4
                · have HK3 := hide (show ∀ j, j < k + 1 → (F2 j).size = 4 from fun j hj => by
                    by_cases e : j = k
                    · rw [e]; exact hx
                    · exact unhide HK j (by omega))
                  generalize F2 k = told at d1 hx
                  clear hc2 HK
                  go_wp2
                  exact ⟨⟨k + 1, by omega, by go_num, HK3, by first | rfl | trivial⟩, by simp [intOf]; omega⟩
                · have E := hide (unhide E3 k hlt2 hx)
                  have hx' : ¬ ((F2 k).size : Int) = 4 := by omega
                  generalize F2 k = told at d1 hx'
                  clear hc2 HK E1 E2 E3 hx
                  go_wp2
                  go_ret
                  exact ⟨by rw [unhide E]; rfl, hB⟩
              · have hk2 : ¬ (k : Int) < 2 := by omega
                have E := hide (unhide E1 (unhide HK2) (fun j hj => unhide HK j (by omega)))
                clear hc2 HK HK2 E1 E2 E3
                go_wp2
                go_ret
                exact ⟨by rw [unhide E]; rfl, hB⟩
      · have E := hide (show sgOk ⟨lf, l1, l2⟩ = false from sgOk_no1 fun x => h2 x.2.2)
        rw [unhide E, h1]
        have h2' : ¬ (l2.length : Int) = 2 := by omega
        generalize l2.length = m2 at *
        clear E h hc1 hc2 h2
        go_enter Try.func25, Try.ntmps25
        go_wp2_with fail
        obtain ⟨W, hW, hP, hB, hs1⟩ := one_cb w #[.int .i64 lf, .slice a1 10 c1, .slice a2 m2 c2] 29
        rw [hW]
        clear hW
        refine (unhide C0 W).mono ?_
        rintro e w1 ⟨rfl, hw1⟩
        have hw2 := hw1.symm
        subst hw2
        clear hw1 C0
        have p1 := hP.cell 1 (v := .slice a1 10 c1) rfl
        have p2 := hP.cell 2 (v := .slice a2 m2 c2) rfl
        go_wp2
        go_ret
        exact ⟨rfl, hB⟩
    · have E := hide (show sgOk ⟨lf, l1, l2⟩ = false from sgOk_no1 fun x => h1 x.2.1)
      rw [unhide E]
      have h1' : ¬ (l1.length : Int) = 10 := by omega
      generalize l1.length = m1 at *
      generalize l2.length = m2 at *
      clear E h hc1 hc2 h1
      go_enter Try.func25, Try.ntmps25
      go_wp2_with fail
      obtain ⟨W, hW, hP, hB, hs1⟩ := one_cb w #[.int .i64 lf, .slice a1 m1 c1, .slice a2 m2 c2] 29
      rw [hW]
      clear hW
      refine (unhide C0 W).mono ?_
      rintro e w1 ⟨rfl, hw1⟩
      have hw2 := hw1.symm
      subst hw2
      clear hw1 C0
      have p1 := hP.cell 1 (v := .slice a1 m1 c1) rfl
      go_wp2
      go_ret
      exact ⟨rfl, hB⟩
  · have E := hide (show sgOk ⟨lf, l1, l2⟩ = false from sgOk_no1 fun x => h x.1)
    rw [unhide E]
    rw [decide_eq_false h] at C0
    generalize l1.length = m1 at *
    generalize l2.length = m2 at *
    clear E h hc1 hc2
    go_enter Try.func25, Try.ntmps25
    go_wp2_with fail
    obtain ⟨W, hW, hP, hB, hs1⟩ := one_cb w #[.int .i64 lf, .slice a1 m1 c1, .slice a2 m2 c2] 29
    rw [hW]
    clear hW
    refine (unhide C0 W).mono ?_
    rintro e w1 ⟨rfl, hw1⟩
    have hw2 := hw1.symm
    subst hw2
    clear hw1 C0
    go_wp2
    go_ret
    exact ⟨rfl, hB⟩
theorem same_txt (a b : ByteArray) : (a.toList == b.toList) = decide (a = b) := by
  have e : ∀ x : ByteArray, x.toList = x.data.toList := fun x => ByteArray.toList_eq x
  by_cases h : a = b
  · subst h
    rw [decide_eq_true rfl]
    exact beq_self_eq_true _
  · rw [decide_eq_false h]
    apply beq_false_of_ne
    rw [e, e]
    exact fun h2 => h (ByteArray.ext (Array.toList_inj.1 h2))
theorem sumS_four (l : List ByteArray) (h : ∀ x ∈ l, x.size = 4) : sumS l = 4 * l.length := by
  induction l with
  | nil => rfl
  | cons x xs ih =>
    show x.size + sumS xs = 4 * (xs.length + 1)
    rw [h x (by simp), ih fun y hy => h y (by simp [hy])]
    omega
theorem onceF_size (l : List ByteArray) (leaf : Int) (m : ByteArray) : (onceF l leaf m).size ≤ 4 := by
  unfold onceF
  split
  · rw [chopB_size]; omega
  · show 0 ≤ 4; omega
set_option maxRecDepth 20000 in
set_option maxHeartbeats 800000 in
theorem specCheckSig_any (p m : ByteArray) (s : Sg) (v : Value) (w : World) (hr : RdSg w v s) (n1 : s.once.length ≤ 2000000) (n2 : s.path.length ≤ 2000000) (hm : m.size ≤ 1048576) :
    Calls Try.prog 21 #[.string p, .string m, v] w fun e w' => e = .returned (.bool (chkB p m s)) ∧ Below w.heap.size w w' := by
  have C0 := hide (fun (W : World) (h : Below w.heap.size w W) => specSigOk_any s v W (hr.below h) n1 n2)
  obtain ⟨lf, l1, l2⟩ := s
  obtain ⟨v1, v2, rfl, r1, r2, -⟩ := hr
  cases ho : sgOk ⟨lf, l1, l2⟩ with
  | true =>
    rw [ho] at C0
    have f1 := sgOk_once ho
    have f2 := sgOk_path ho
    obtain ⟨_, k1, k2⟩ := sgOk_shape ho
    have C1 := hide (fun (W : World) (h : Below w.heap.size w W) => specOnceFound_any l1 lf m v1 W (r1.below h) (by rw [sumS_four l1 (four_yes f1)]; have : l1.length = 10 := k1; omega) hm)
    have C2 := hide (fun (W : World) (h : Below w.heap.size w W) => specRootBy_any (onceF l1 lf m) lf l2 v2 W (by have := onceF_size l1 lf m; omega) (r2.below h) (fun x hx => by rw [four_yes f2 x hx]; omega))
    have EC := hide (show chkB p m ⟨lf, l1, l2⟩ = decide (rootBy (onceF l1 lf m) lf l2 = p) by unfold chkB fndB; rw [ho]; rfl)
    rw [unhide EC]
    obtain ⟨a1, c1, rfl⟩ := r1.shape
    obtain ⟨a2, c2, rfl⟩ := r2.shape
    unfold sgv at C0 ⊢
    generalize onceF l1 lf m = fo at *
    generalize rootBy fo lf l2 = ro at *
    clear r1 r2 n1 n2 k1 k2 f1 f2 ho EC
    show Calls _ _ #[_, _, .agg #[.int .i64 lf, .slice a1 (l1.map sv).length c1, .slice a2 (l2.map sv).length c2]] _ _
    generalize ((Sg.mk lf l1 l2).once.map sv).length = k1 at *
    generalize ((Sg.mk lf l1 l2).path.map sv).length = k2 at *
    go_enter Try.func21, Try.ntmps21
    go_wp2_with fail
    obtain ⟨W, hW, hP, hB, hs1⟩ := one_cb w #[.int .i64 lf, .slice a1 k1 c1, .slice a2 k2 c2] 29
    rw [hW]
    clear hW
    have KS := hide (fun (W' : World) (h : Below W.heap.size W W') => (show W'.cell? ⟨w.heap.size, 0, none⟩ = some (.int .i64 lf) ∧ W'.cell? ⟨w.heap.size, 1, none⟩ = some (.slice a1 k1 c1) ∧ W'.cell? ⟨w.heap.size, 2, none⟩ = some (.slice a2 k2 c2) from ⟨(hP.step h).cell 0 rfl, (hP.step h).cell 1 rfl, (hP.step h).cell 2 rfl⟩))
    have C0' := hide (fun (W' : World) (h : Below W.heap.size W W') => unhide C0 W' (hB.trans (h.mono hB.size)))
    have C1' := hide (fun (W' : World) (h : Below W.heap.size W W') => unhide C1 W' (hB.trans (h.mono hB.size)))
    have C2' := hide (fun (W' : World) (h : Below W.heap.size W W') => unhide C2 W' (hB.trans (h.mono hB.size)))
    have HT0 := (Below.refl W.heap.size W).drew
    clear C0 C1 C2 hP
    go_region_held3 (fun W => W.cell? ⟨w.heap.size, 0, none⟩ = some (.int .i64 lf) ∧ W.cell? ⟨w.heap.size, 1, none⟩ = some (.slice a1 k1 c1) ∧ W.cell? ⟨w.heap.size, 2, none⟩ = some (.slice a2 k2 c2)) (first | exact unhide KS _ HT0 | exact unhide KS _ hT1 | exact unhide KS _ hT2 | exact unhide KS _ hT3 | fail) (first
      | (go_at_call 25; refine (unhide C0' _ HT0).mono ?_; rintro e w1 ⟨rfl, hb1⟩; have hT1 := HT0.trans (hb1.mono HT0.size); clear hb1)
      | (go_at_call 36; refine (unhide C1' _ hT1).mono ?_; rintro e w2 ⟨rfl, hb2⟩; have hT2 := hT1.trans (hb2.mono hT1.size); clear hb2)
      | (go_at_call 35; refine (unhide C2' _ hT2).mono ?_; rintro e w3 ⟨rfl, hb3⟩; have hT3 := hT2.trans (hb3.mono hT2.size); clear hb3))
    all_goals
      have hF := hB.trans (hT3.mono hB.size)
      clear C0' C1' C2' KS hT1 hT2 HT0
      go_wp2
      go_ret
      exact ⟨by show Ending.returned (.bool (ro.toList == p.toList)) = _; rw [same_txt], hF⟩
  | false =>
    rw [ho] at C0
    have EC := hide (show chkB p m ⟨lf, l1, l2⟩ = false by unfold chkB; rw [ho]; rfl)
    rw [unhide EC]
    obtain ⟨a1, c1, rfl⟩ := r1.shape
    obtain ⟨a2, c2, rfl⟩ := r2.shape
    unfold sgv at C0 ⊢
    clear r1 r2 n1 n2 ho EC
    show Calls _ _ #[_, _, .agg #[.int .i64 lf, .slice a1 (l1.map sv).length c1, .slice a2 (l2.map sv).length c2]] _ _
    generalize ((Sg.mk lf l1 l2).once.map sv).length = k1 at *
    generalize ((Sg.mk lf l1 l2).path.map sv).length = k2 at *
    go_enter Try.func21, Try.ntmps21
    go_wp2_with fail
    obtain ⟨W, hW, hP, hB, hs1⟩ := one_cb w #[.int .i64 lf, .slice a1 k1 c1, .slice a2 k2 c2] 29
    rw [hW]
    clear hW
    have KS := hide (fun (W' : World) (h : Below W.heap.size W W') => (show W'.cell? ⟨w.heap.size, 0, none⟩ = some (.int .i64 lf) ∧ W'.cell? ⟨w.heap.size, 1, none⟩ = some (.slice a1 k1 c1) ∧ W'.cell? ⟨w.heap.size, 2, none⟩ = some (.slice a2 k2 c2) from ⟨(hP.step h).cell 0 rfl, (hP.step h).cell 1 rfl, (hP.step h).cell 2 rfl⟩))
    have C0' := hide (fun (W' : World) (h : Below W.heap.size W W') => unhide C0 W' (hB.trans (h.mono hB.size)))
    have HT0 := (Below.refl W.heap.size W).drew
    clear C0 hP
    refine wp_region_held_drew (S := fun W => W.cell? ⟨w.heap.size, 0, none⟩ = some (.int .i64 lf) ∧ W.cell? ⟨w.heap.size, 1, none⟩ = some (.slice a1 k1 c1) ∧ W.cell? ⟨w.heap.size, 2, none⟩ = some (.slice a2 k2 c2)) (by kernel_rfl) (unhide KS _ HT0) (fun hHeld => ?_)
    refine wpAnyH_take (i := 0) (v := .agg #[.int .i64 lf, .slice a1 k1 c1, .slice a2 k2 c2]) rfl (by kernel_rfl) (by kernel_rfl) (by kernel_rfl) (fun _ _ _ h => h) (Or.inl ⟨by kernel_rfl, fun W hS => by obtain ⟨s0, s1, s2⟩ := hS; go_simp⟩) hHeld ?_
    refine wpAnyH_ready (rs := [1]) (by kernel_rfl) (by simp) ?_
    refine AllReadyH.cons rfl (fun K hK => ?_) AllReadyH.nil
    go_simp
    refine (unhide C0' _ HT0).mono ?_
    rintro e w1 ⟨rfl, hb1⟩
    have hT1 := HT0.trans (hb1.mono HT0.size)
    have hF := hB.trans (hT1.mono hB.size)
    refine hK.out _ _ (unhide KS _ hT1) (fun hHeld => ?_)
    clear hK K hb1 HT0 C0'
    refine wpAnyH_take (i := 2) (v := .bool false) rfl (by kernel_rfl) (by kernel_rfl) (by kernel_rfl) (fun _ _ _ h => h) (Or.inl ⟨by kernel_rfl, fun W hS => by go_simp⟩) hHeld ?_
    refine wpAnyH_take (i := 3) (v := undef) rfl (by kernel_rfl) (by kernel_rfl) (by kernel_rfl) (fun _ _ _ h => h) (Or.inr ⟨by kernel_rfl, rfl⟩) hHeld ?_
    refine wpAnyH_take (i := 4) (v := undef) rfl (by kernel_rfl) (by kernel_rfl) (by kernel_rfl) (fun _ _ _ h => h) (Or.inr ⟨by kernel_rfl, rfl⟩) hHeld ?_
    refine wpAnyH_take (i := 5) (v := undef) rfl (by kernel_rfl) (by kernel_rfl) (by kernel_rfl) (fun _ _ _ h => h) (Or.inr ⟨by kernel_rfl, rfl⟩) hHeld ?_
    refine wpAnyH_take (i := 6) (v := undef) rfl (by kernel_rfl) (by kernel_rfl) (by kernel_rfl) (fun _ _ _ h => h) (Or.inr ⟨by kernel_rfl, rfl⟩) hHeld ?_
    refine wpAnyH_take (i := 7) (v := undef) rfl (by kernel_rfl) (by kernel_rfl) (by kernel_rfl) (fun _ _ _ h => h) (Or.inr ⟨by kernel_rfl, rfl⟩) hHeld ?_
    refine wpAnyH_take (i := 8) (v := undef) rfl (by kernel_rfl) (by kernel_rfl) (by kernel_rfl) (fun _ _ _ h => h) (Or.inr ⟨by kernel_rfl, rfl⟩) hHeld ?_
    refine wpAnyH_take (i := 9) (v := undef) rfl (by kernel_rfl) (by kernel_rfl) (by kernel_rfl) (fun _ _ _ h => h) (Or.inr ⟨by kernel_rfl, rfl⟩) hHeld ?_
    refine wpAnyH_take (i := 10) (v := undef) rfl (by kernel_rfl) (by kernel_rfl) (by kernel_rfl) (fun _ _ _ h => h) (Or.inr ⟨by kernel_rfl, rfl⟩) hHeld ?_
    refine wpAnyH_take (i := 11) (v := undef) rfl (by kernel_rfl) (by kernel_rfl) (by kernel_rfl) (fun _ _ _ h => h) (Or.inr ⟨by kernel_rfl, rfl⟩) hHeld ?_
    refine wpAnyH_take (i := 12) (v := undef) rfl (by kernel_rfl) (by kernel_rfl) (by kernel_rfl) (fun _ _ _ h => h) (Or.inr ⟨by kernel_rfl, rfl⟩) hHeld ?_
    refine wpAnyH_take (i := 13) (v := undef) rfl (by kernel_rfl) (by kernel_rfl) (by kernel_rfl) (fun _ _ _ h => h) (Or.inr ⟨by kernel_rfl, rfl⟩) hHeld ?_
    refine wpAnyH_take (i := 14) (v := undef) rfl (by kernel_rfl) (by kernel_rfl) (by kernel_rfl) (fun _ _ _ h => h) (Or.inr ⟨by kernel_rfl, rfl⟩) hHeld ?_
    refine wpAnyH_take (i := 15) (v := undef) rfl (by kernel_rfl) (by kernel_rfl) (by kernel_rfl) (fun _ _ _ h => h) (Or.inr ⟨by kernel_rfl, rfl⟩) hHeld ?_
    refine wpAnyH_take (i := 16) (v := .bool false) rfl (by kernel_rfl) (by kernel_rfl) (by kernel_rfl) (fun _ _ _ h => h) (Or.inl ⟨by kernel_rfl, fun W hS => by go_simp⟩) hHeld ?_
    refine wpAnyH_take (i := 17) (v := .bool false) rfl (by kernel_rfl) (by kernel_rfl) (by kernel_rfl) (fun _ _ _ h => h) (Or.inl ⟨by kernel_rfl, fun W hS => by go_simp⟩) hHeld ?_
    refine wpAnyH_done (by kernel_rfl) ?_ _
    simp only [Act.put, List.getElem_toArray, List.getElem_cons_zero, List.getElem_cons_succ, List.setIfInBounds_toArray, List.set_cons_zero, List.set_cons_succ]
    clear KS hHeld hT1
    go_wp2
    go_ret
    exact ⟨rfl, hF⟩
end Go.Proofs.Ytjgnjjphankhnac

