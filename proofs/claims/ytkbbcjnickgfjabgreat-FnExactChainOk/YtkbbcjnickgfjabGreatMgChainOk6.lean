/- Merged: Decimal, MarkT, Tmk, Bkh, Bok2, Bok3, Bok4, Bok5, Bok6, Hld. -/
import Derived.Test.YtkbbcjnickgfjabGreatMgChainOk1
import Derived.Test.YtkbbcjnickgfjabGreatMgChainOk2
import Derived.Test.YtkbbcjnickgfjabGreatMgChainOk3
import Derived.Test.YtkbbcjnickgfjabGreatMgChainOk4
import Derived.Test.YtkbbcjnickgfjabGreatMgChainOk5
import Derived.Test.YtkbbcjnickgfjabGreatChecked
import Derived.Deep.DeepCutAuto
import Derived.Deep.RegionHeld3
import Derived.Deep.QuietTactic
import Derived.BigQuiet
/- What spec.Decimal comes to at numbers that are not below 0, over the loaded program. -/
namespace Go.Proofs.YtkbbcjnickgfjabGreat
open Go.RowKit

/-- 'string([]byte{b})' -/
theorem run_string_new {P : Program} (src dst e : TypeId) (hs : P.underlying src = some (.slice e)) (he : P.underlying e = some (.int .u8)) (hd : P.underlying dst = some .string) (W : World) (b : UInt8) :
    (convert src dst (.slice (some ⟨W.heap.size, 0, none⟩) 1 1)).run P (W.alloc (.cells #[.int .u8 (b.toNat : Int)] e)) = .ok (.string ⟨#[b]⟩) (W.alloc (.cells #[.int .u8 (b.toNat : Int)] e)) := by
  have := run_convert_bytes_back (P := P) (W.alloc (.cells #[.int .u8 (b.toNat : Int)] e)) src dst e ⟨W.heap.size, 0, none⟩ 1 [b] hs he hd (fun j hj => by
    have h0 : j = 0 := by simpa using hj
    subst h0
    rw [show (⟨W.heap.size, 0, none⟩ : Addr).add 0 = ⟨W.heap.size, 0, none⟩ from rfl, cell_of_row (W.alloc (.cells #[.int .u8 (b.toNat : Int)] e)) W.heap.size 0 _ e (0, 0) (heap_alloc_new W _)]
    rfl)
  exact this

/-- What stands at the head of a round: the figures that are to come and those that lie ready. -/
def DecAt (n m : Nat) (t : List UInt8) : Prop := t.length ≤ 20 ∧ (if m = 0 then t = decB n else decB m ++ t = decB n)
theorem DecAt.start {n : Nat} (h : n ≠ 0) : DecAt n n [] := ⟨by simp, by rw [if_neg h]; simp⟩
theorem DecAt.next {n m : Nat} {t : List UInt8} (hn : n < 10 ^ 20) (h : DecAt n m t) (hm : m ≠ 0) : DecAt n (m / 10) (fig (m % 10) :: t) := by
  have hlen := (decB_len 19 n hn).2
  have hf : fig (m % 10) = byteOf (48 + m % 10) := by unfold fig; rw [if_pos (by omega)]
  have h2 := h.2
  rw [if_neg hm] at h2
  have key : (if m / 10 = 0 then fig (m % 10) :: t = decB n else decB (m / 10) ++ fig (m % 10) :: t = decB n) := by
    by_cases hs : m < 10
    · rw [if_pos (by omega), hf, show m % 10 = m by omega, ← h2, decB_small hs]
      rfl
    · rw [if_neg (by omega), hf, ← h2, decB_big hs]
      simp
  refine ⟨?_, key⟩
  split at key
  · have := congrArg List.length key
    simp only [List.length_cons] at *
    omega
  · have := congrArg List.length key
    simp only [List.length_cons, List.length_append] at *
    omega
theorem DecAt.done {n m : Nat} {t : List UInt8} (h : DecAt n m t) (hm : m = 0) : t = decB n := by
  have := h.2; rw [if_pos hm] at this; exact this

theorem ret_str {a b : List UInt8} (h : a = b) : Ending.returned (.string ⟨a.toArray⟩) = .returned (.string ⟨b.toArray⟩) := by rw [h]
theorem str_cons (b : UInt8) (t : List UInt8) : Value.string (ByteArray.mk #[b] ++ ByteArray.mk t.toArray) = Value.string ⟨(b :: t).toArray⟩ := by
  show Value.string (ByteArray.mk [b].toArray ++ ByteArray.mk t.toArray) = _
  rw [ByteArray.mk_append_mk]; rfl



end Go.Proofs.YtkbbcjnickgfjabGreat

/- What laws.markText comes to. -/
namespace Go.Proofs.YtkbbcjnickgfjabGreat
open Go.RowKit

/-- The text of a mark. -/
def mkS (k : Nat) : ByteArray := ⟨(109 :: decB k).toArray⟩
theorem fig_ten {m : Nat} (h : m < 10) : fig m = byteOf (48 + m) := by unfold fig; rw [if_pos h]
theorem ret_m {t l : List UInt8} (h : t = l) : Ending.returned (.string (ByteArray.mk #[109] ++ ByteArray.mk t.toArray)) = .returned (.string ⟨(109 :: l).toArray⟩) := by rw [str_cons, h]



end Go.Proofs.YtkbbcjnickgfjabGreat

/- The laws' marks on rows of things of the call's own, and that they are found. -/
namespace Go.Proofs.YtkbbcjnickgfjabGreat
open Go.RowKit
/-- A mark as a bool. -/
def mb3 (q : Nat) : Bool := decide ((q : Int) % 3 = 0)
def mkT0 (q : Nat) : Th := ⟨(q : Int), ((q + 1 : Nat) : Int), mb3 (q + 2), mb3 (q + 3), mb3 (q + 4), mb3 (q + 5), mkS (q + 6), ((q + 7 : Nat) : Int)⟩
theorem mkT0_is (q : Nat) : (⟨((q : Int)), ((q : Int) + 1), (((q : Int) + 1 + 1) % 3 == 0), (((q : Int) + 1 + 1 + 1) % 3 == 0), (((q : Int) + 1 + 1 + 1 + 1) % 3 == 0), (((q : Int) + 1 + 1 + 1 + 1 + 1) % 3 == 0), (mkS (q + 6)), ((q : Int) + 1 + 1 + 1 + 1 + 1 + 1 + 1)⟩ : Th) = mkT0 q := by
  unfold mkT0 mb3
  have e : ∀ z : Int, (z == 0) = decide (z = 0) := fun z => by rw [Bool.eq_iff_iff]; simp
  simp only [e]
  congr 1
def mkT1 (k i : Nat) : Th := mkT0 (k + 8 * i)
def mkT (k n : Nat) : List Th := (List.range n).map (mkT1 k)
theorem mkT_len (k n : Nat) : (mkT k n).length = n := by unfold mkT; simp
theorem mkT_succ (k n : Nat) : mkT k (n + 1) = mkT k n ++ [mkT1 k n] := by unfold mkT; rw [List.range_succ, List.map_append]; rfl
theorem mkT_at (k n i : Nat) (h : i < n) : (mkT k n)[i]? = some (mkT1 k i) := by unfold mkT; simp [h]
theorem mkT_set (k i : Nat) (fs : List Th) (h : i < fs.length) : (mkT k i ++ fs.drop i).set i (mkT1 k i) = mkT k (i + 1) ++ fs.drop (i + 1) := by
  rw [List.drop_eq_getElem_cons h, List.set_append_right _ _ (by rw [mkT_len]; exact Nat.le_refl _), mkT_len, Nat.sub_self, List.set_cons_zero, mkT_succ]
  simp
theorem OwnN.t0 {w : World} {base g n c : Nat} {e : TypeId} {xs : List Th} (h : OwnN thY w base e (.slice (some ⟨g, 0, none⟩) n c) xs) {k : Nat} {x : Th} (hk : xs[k]? = some x) (z : Int) :
    OwnN thY (w.setCell ⟨g, k * 8, none⟩ (.int .i64 z)) base e (.slice (some ⟨g, 0, none⟩) n c) (xs.set k { x with id := z }) :=
  h.set1 hk { x with id := z } 0 (.int .i64 z) (by decide) rfl
theorem OwnN.t1 {w : World} {base g n c : Nat} {e : TypeId} {xs : List Th} (h : OwnN thY w base e (.slice (some ⟨g, 0, none⟩) n c) xs) {k : Nat} {x : Th} (hk : xs[k]? = some x) (z : Int) :
    OwnN thY (w.setCell ⟨g, k * 8 + 1, none⟩ (.int .i64 z)) base e (.slice (some ⟨g, 0, none⟩) n c) (xs.set k { x with kind := z }) :=
  h.set1 hk { x with kind := z } 1 (.int .i64 z) (by decide) rfl
theorem OwnN.t2 {w : World} {base g n c : Nat} {e : TypeId} {xs : List Th} (h : OwnN thY w base e (.slice (some ⟨g, 0, none⟩) n c) xs) {k : Nat} {x : Th} (hk : xs[k]? = some x) (z : Bool) :
    OwnN thY (w.setCell ⟨g, k * 8 + 2, none⟩ (.bool z)) base e (.slice (some ⟨g, 0, none⟩) n c) (xs.set k { x with hid := z }) :=
  h.set1 hk { x with hid := z } 2 (.bool z) (by decide) rfl
theorem OwnN.t3 {w : World} {base g n c : Nat} {e : TypeId} {xs : List Th} (h : OwnN thY w base e (.slice (some ⟨g, 0, none⟩) n c) xs) {k : Nat} {x : Th} (hk : xs[k]? = some x) (z : Bool) :
    OwnN thY (w.setCell ⟨g, k * 8 + 3, none⟩ (.bool z)) base e (.slice (some ⟨g, 0, none⟩) n c) (xs.set k { x with fix := z }) :=
  h.set1 hk { x with fix := z } 3 (.bool z) (by decide) rfl
theorem OwnN.t4 {w : World} {base g n c : Nat} {e : TypeId} {xs : List Th} (h : OwnN thY w base e (.slice (some ⟨g, 0, none⟩) n c) xs) {k : Nat} {x : Th} (hk : xs[k]? = some x) (z : Bool) :
    OwnN thY (w.setCell ⟨g, k * 8 + 4, none⟩ (.bool z)) base e (.slice (some ⟨g, 0, none⟩) n c) (xs.set k { x with sgn := z }) :=
  h.set1 hk { x with sgn := z } 4 (.bool z) (by decide) rfl
theorem OwnN.t5 {w : World} {base g n c : Nat} {e : TypeId} {xs : List Th} (h : OwnN thY w base e (.slice (some ⟨g, 0, none⟩) n c) xs) {k : Nat} {x : Th} (hk : xs[k]? = some x) (z : Bool) :
    OwnN thY (w.setCell ⟨g, k * 8 + 5, none⟩ (.bool z)) base e (.slice (some ⟨g, 0, none⟩) n c) (xs.set k { x with wrp := z }) :=
  h.set1 hk { x with wrp := z } 5 (.bool z) (by decide) rfl
theorem OwnN.t6 {w : World} {base g n c : Nat} {e : TypeId} {xs : List Th} (h : OwnN thY w base e (.slice (some ⟨g, 0, none⟩) n c) xs) {k : Nat} {x : Th} (hk : xs[k]? = some x) (z : ByteArray) :
    OwnN thY (w.setCell ⟨g, k * 8 + 6, none⟩ (.string z)) base e (.slice (some ⟨g, 0, none⟩) n c) (xs.set k { x with val := z }) :=
  h.set1 hk { x with val := z } 6 (.string z) (by decide) rfl
theorem OwnN.t7 {w : World} {base g n c : Nat} {e : TypeId} {xs : List Th} (h : OwnN thY w base e (.slice (some ⟨g, 0, none⟩) n c) xs) {k : Nat} {x : Th} (hk : xs[k]? = some x) (z : Int) :
    OwnN thY (w.setCell ⟨g, k * 8 + 7, none⟩ (.int .i64 z)) base e (.slice (some ⟨g, 0, none⟩) n c) (xs.set k { x with nxt := z }) :=
  h.set1 hk { x with nxt := z } 7 (.int .i64 z) (by decide) rfl
theorem marks6 {P : Program} {F : FuncId} {args : Array Value} {R : Ending → World → Prop} {w : World} {base g n c : Nat} {e : TypeId} {xs : List Th} (h : OwnN thY w base e (.slice (some ⟨g, 0, none⟩) n c) xs) {k : Nat} {x : Th} (hk : xs[k]? = some x) {z0 z1 : Int} {z2 z3 z4 z5 : Bool}
    (K : ∀ W, OwnN thY W base e (.slice (some ⟨g, 0, none⟩) n c) (xs.set k ⟨z0, z1, z2, z3, z4, z5, x.val, x.nxt⟩) → w.grownBy W (some g) → Calls P F args W R) : Calls P F args ((((((w.setCell ⟨g, k * 8, none⟩ (.int .i64 z0)).setCell ⟨g, k * 8 + 1, none⟩ (.int .i64 z1)).setCell ⟨g, k * 8 + 2, none⟩ (.bool z2)).setCell ⟨g, k * 8 + 3, none⟩ (.bool z3)).setCell ⟨g, k * 8 + 4, none⟩ (.bool z4)).setCell ⟨g, k * 8 + 5, none⟩ (.bool z5)) R := by
  have s0 := h.t0 hk z0
  have h0 := set_getN hk { x with id := z0 }
  have s1 := s0.t1 h0 z1
  rw [List.set_set] at s1
  have h1 := set_getN hk { x with id := z0, kind := z1 }
  have s2 := s1.t2 h1 z2
  rw [List.set_set] at s2
  have h2 := set_getN hk { x with id := z0, kind := z1, hid := z2 }
  have s3 := s2.t3 h2 z3
  rw [List.set_set] at s3
  have h3 := set_getN hk { x with id := z0, kind := z1, hid := z2, fix := z3 }
  have s4 := s3.t4 h3 z4
  rw [List.set_set] at s4
  have h4 := set_getN hk { x with id := z0, kind := z1, hid := z2, fix := z3, sgn := z4 }
  have s5 := s4.t5 h4 z5
  rw [List.set_set] at s5
  exact K _ s5 (gT (gT (gT (gT (gT (gS w g _ _) (gS _ g _ _)) (gS _ g _ _)) (gS _ g _ _)) (gS _ g _ _)) (gS _ g _ _))
end Go.Proofs.YtkbbcjnickgfjabGreat

/- The laws' helpers on books. -/
namespace Go.Proofs.YtkbbcjnickgfjabGreat
open Go.RowKit
def bkSz (b : Bk) : Nat := b.wd.size + (b.ths.length + thsSz b.ths) + b.ch.size
/-- How large the texts of a book that comes in may be. -/
def BkTx (b : Bk) : Prop := b.wd.size ≤ maxLen ∧ b.ch.size ≤ maxLen ∧ b.ths.length ≤ maxLen ∧ ∀ x ∈ b.ths, x.val.size ≤ maxLen
set_option maxRecDepth 20000 in
set_option maxHeartbeats 2000000 in
theorem szBook_any (b : Bk) (v : Value) (L : Int) (hL : 0 ≤ L ∧ L ≤ 1048576) (w : World) (hr : RdBk w v b) (hz : BkTx b) :
    Calls Tryz.prog 4 #[v, .int .i64 L] w fun e w' => (∃ z : Int, e = .returned (.int .i64 z) ∧ (z < 0 ∨ z = L - (bkSz b : Int) ∧ 0 ≤ z)) ∧ Below w.heap.size w w' := by
  obtain ⟨wd, tr, ths, la, ch, ct⟩ := b
  obtain ⟨a, n, c, rfl, hn, hu⟩ := hr.open
  obtain ⟨z1, z2, z3, z4⟩ := hz
  dsimp only at hn hu z1 z2 z3 z4
  have C := hide (fun (l : Int) (hl : 0 ≤ l ∧ l ≤ 1048576) W (h : RdN thY W (.slice a n c) ths) => szThingS_any ths (.slice a n c) l hl W h z3 z4)
  unfold maxLen at z1 z2
  unfold bkSz
  dsimp only
  subst hn
  by_cases c1 : L - (wd.size : Int) < 0
  · clear C hu z3 z4
    go_enter Tryz.func4, Tryz.ntmps4
    go_wp2
    go_ret
    exact ⟨⟨-1, rfl, .inl (by decide)⟩, (Below.refl _ w).alloc (Nat.le_refl _) _⟩
  · have hl : 0 ≤ L - (wd.size : Int) ∧ L - (wd.size : Int) ≤ 1048576 := by omega
    clear z3 z4
    replace hu := hide hu
    go_enter Tryz.func4, Tryz.ntmps4
    go_wp2_with fail
    obtain ⟨W, hW, hX, hB, hs1⟩ := one_cb w #[.string wd, .int .i64 tr, .slice a ths.length c, .int .i64 la, .string ch, .int .i64 ct] 24
    rw [hW]
    clear hW
    refine (unhide C _ hl _ ((unhide hu).below hB)).mono ?_
    rintro e w1 ⟨⟨z, rfl, hz⟩, hb1⟩
    have T1 := hB.trans (hb1.mono hB.size)
    have hX1 := hX.step hb1
    clear hb1 hB hX C hu
    have x4 := hX1.cell 4 (v := .string ch) rfl
    rcases hz with hz | ⟨hz, hz0⟩
    · go_wp2
      go_ret
      exact ⟨⟨-1, rfl, .inl (by decide)⟩, T1⟩
    · have hz' : ¬ z < 0 := by omega
      have hz9 : z ≤ 1048576 := by omega
      replace hz := hide hz
      by_cases c2 : z - (ch.size : Int) < 0
      · go_wp2
        go_ret
        exact ⟨⟨-1, rfl, .inl (by decide)⟩, T1⟩
      · go_wp2
        go_ret
        exact ⟨⟨_, rfl, .inr ⟨by have := unhide hz; omega, by omega⟩⟩, T1⟩
theorem bkc_one (wd : ByteArray) (tr : Int) (a : Option Addr) (n c : Nat) (la : Int) (ch : ByteArray) (ct : Int) : (#[.string wd, .int .i64 tr, .slice a n c, .int .i64 la, .string ch, .int .i64 ct] : Array Value).all (·.oneCell') = true := by simp [Value.oneCell']
set_option maxRecDepth 20000 in
set_option maxHeartbeats 2000000 in
theorem toBook_any (b : Bk) (v : Value) (w : World) (hr : RdBk w v b) (hn9 : b.ths.length ≤ 1048576) :
    Calls Tryz.prog 7 #[v] w fun e w' => (∃ a c, e = .returned (bkv b (.slice a b.ths.length c)) ∧ OwnN thY w' w.heap.size 48 (.slice a b.ths.length c) b.ths) ∧ Below w.heap.size w w' := by
  obtain ⟨wd, tr, ths, la, ch, ct⟩ := b
  obtain ⟨a, n, c, rfl, hn, hu⟩ := hr.open
  dsimp only at hn hu hn9
  have C := hide (fun W (h : RdN thY W (.slice a n c) ths) => toThingS_any ths (.slice a n c) W h hn9)
  subst hn
  replace hu := hide hu
  go_enter Tryz.func7, Tryz.ntmps7
  go_wp2_with fail
  obtain ⟨W, hW, hX, hY, hZ, hB, hs1⟩ := three_cb w #[.string wd, .int .i64 tr, .slice a ths.length c, .int .i64 la, .string ch, .int .i64 ct] #[.string ⟨#[]⟩, .int .i64 0, .slice none 0 0, .int .i64 0, .string ⟨#[]⟩, .int .i64 0] #[.string wd, .int .i64 tr, .slice none 0 0, .int .i64 0, .string ⟨#[]⟩, .int .i64 0] 24 31 31
  rw [hW]
  clear hW
  refine (unhide C _ ((unhide hu).below hB)).mono ?_
  rintro e w1 ⟨⟨a1, c1, rfl, ho⟩, hb1⟩
  have T1 := hB.trans (hb1.mono hB.size)
  have hX1 := hX.step hb1
  have hY1 := hY.step hb1
  have hZ1 := hZ.step hb1
  have ho1 := ho.low (base' := w.heap.size + 1 + 1 + 1) (by omega)
  clear hb1 hB hX C hu hY hZ ho
  have x3 : w1.cell? ⟨w.heap.size, 3, none⟩ = some (.int .i64 la) := hX1.cell 3 rfl
  have z1 := hZ1.cell 2 (v := .slice none 0 0) rfl
  have z2 := hZ1.frozen 2
  have hZ2 := hZ1.set 2 (.slice a1 ths.length c1)
  have hX2 := hX1.set_other (h := w.heap.size + 1 + 1) (k := 2) (by omega) (.slice a1 ths.length c1)
  have y3 := hX2.cell 3 (v := .int .i64 la) rfl
  have z3 := hZ2.frozen 3
  have q3 := hZ2.cell 3 (v := .int .i64 0) rfl
  have hZ3 := hZ2.set 3 (.int .i64 la)
  have hX3 := hX2.set_other (h := w.heap.size + 1 + 1) (k := 3) (by omega) (.int .i64 la)
  have y4 := hX3.cell 4 (v := .string ch) rfl
  have z4 := hZ3.frozen 4
  have q4 := hZ3.cell 4 (v := .string ⟨#[]⟩) rfl
  have hZ4 := hZ3.set 4 (.string ch)
  have hX4 := hX3.set_other (h := w.heap.size + 1 + 1) (k := 4) (by omega) (.string ch)
  have y5 := hX4.cell 5 (v := .int .i64 ct) rfl
  have z5 := hZ4.frozen 5
  have q5 := hZ4.cell 5 (v := .int .i64 0) rfl
  have hZ5 := hZ4.set 5 (.int .i64 ct)
  clear hX2 hX3 hX4 hr
  have hZ6 := hide (cb_eq hZ5 (show (#[.string wd, .int .i64 tr, .slice a1 ths.length c1, .int .i64 la, .string ch, .int .i64 ct] : Array Value) = _ from rfl))
  have hY6 := hide ((((hY1.set_other (h := w.heap.size + 1 + 1) (k := 2) (by omega) (.slice a1 ths.length c1)).set_other (h := w.heap.size + 1 + 1) (k := 3) (by omega) (.int .i64 la)).set_other (h := w.heap.size + 1 + 1) (k := 4) (by omega) (.string ch)).set_other (h := w.heap.size + 1 + 1) (k := 5) (by omega) (.int .i64 ct))
  have T2 := hide ((((T1.setCell (p := ⟨w.heap.size + 1 + 1, 2, none⟩) (by show _ ≤ w.heap.size + 1 + 1; omega) (.slice a1 ths.length c1)).setCell (p := ⟨w.heap.size + 1 + 1, 3, none⟩) (by show _ ≤ w.heap.size + 1 + 1; omega) (.int .i64 la)).setCell (p := ⟨w.heap.size + 1 + 1, 4, none⟩) (by show _ ≤ w.heap.size + 1 + 1; omega) (.string ch)).setCell (p := ⟨w.heap.size + 1 + 1, 5, none⟩) (by show _ ≤ w.heap.size + 1 + 1; omega) (.int .i64 ct))
  have ho2 := hide ((((ho1.other (a := ⟨w.heap.size + 1 + 1, 2, none⟩) (by show w.heap.size + 1 + 1 < _; omega) (.slice a1 ths.length c1)).other (a := ⟨w.heap.size + 1 + 1, 3, none⟩) (by show w.heap.size + 1 + 1 < _; omega) (.int .i64 la)).other (a := ⟨w.heap.size + 1 + 1, 4, none⟩) (by show w.heap.size + 1 + 1 < _; omega) (.string ch)).other (a := ⟨w.heap.size + 1 + 1, 5, none⟩) (by show w.heap.size + 1 + 1 < _; omega) (.int .i64 ct))
  clear hZ1 hZ2 hZ3 hZ4 hZ5 hY1 T1 ho1
  clear hX1 hs1
  go_upto_region 8 with fail
  refine wp_gen (fun W5 => CB W5 (w.heap.size + 1 + 1) 31 #[.string wd, .int .i64 tr, .slice a1 ths.length c1, .int .i64 la, .string ch, .int .i64 ct] ∧ CB W5 (w.heap.size + 1) 31 #[.string ⟨#[]⟩, .int .i64 0, .slice none 0 0, .int .i64 0, .string ⟨#[]⟩, .int .i64 0] ∧ Below w.heap.size w W5 ∧ OwnN thY W5 (w.heap.size + 1 + 1 + 1) 48 (.slice a1 ths.length c1) ths) ⟨unhide hZ6, unhide hY6, unhide T2, unhide ho2⟩ ?_
  rintro W5 ⟨hZ7, hY7, T3, ho3⟩
  clear hZ6 hY6 T2 ho2
  go_wp2_with (first
    | (refine wpList_load_row rfl 31 (.tmp 3) rfl (w.heap.size + 1 + 1) rfl 31 #[.string wd, .int .i64 tr, .slice a1 ths.length c1, .int .i64 la, .string ch, .int .i64 ct] (0, 0) _ hZ7 Tryz.underlying31 rfl rfl ?_)
    | (refine wpList_store_row rfl 31 (.tmp 2) (.tmp 23) rfl (w.heap.size + 1) #[.string wd, .int .i64 tr, .slice a1 ths.length c1, .int .i64 la, .string ch, .int .i64 ct] rfl rfl 31 _ hY7 rfl rfl (bkc_one _ _ _ _ _ _ _ _) ?_))
  have hY8 := setRow_heap _ (w.heap.size + 1) _ #[.string wd, .int .i64 tr, .slice a1 ths.length c1, .int .i64 la, .string ch, .int .i64 ct] 31 (0, 0) hY7
  have T4 := Go.below_setRow T3 (show w.heap.size ≤ w.heap.size + 1 by omega) #[.string wd, .int .i64 tr, .slice a1 ths.length c1, .int .i64 la, .string ch, .int .i64 ct]
  have ho4 := ho3.setRow (g := w.heap.size + 1) (by omega) #[.string wd, .int .i64 tr, .slice a1 ths.length c1, .int .i64 la, .string ch, .int .i64 ct]
  exact bodyPost_ret (results_cb (by exact Tryz.results7) _ _ (w.heap.size + 1) 31 _ _ rfl hY8 Tryz.underlying31 rfl) rfl ⟨⟨_, _, rfl, ho4.low (by omega)⟩, T4⟩
set_option maxRecDepth 20000 in
set_option maxHeartbeats 1000000 in
theorem eqBook_any (b : Bk) (v1 v2 : Value) (w : World) (hr1 : RdBk w v1 b) (hr2 : RdBk w v2 b) (hn9 : b.ths.length ≤ 2000000) :
    Calls Tryz.prog 10 #[v1, v2] w fun e w' => e = .returned (.bool true) ∧ Below w.heap.size w w' := by
  obtain ⟨wd, tr, ths, la, ch, ct⟩ := b
  obtain ⟨a1, n1, c1, rfl, hn1, hu1⟩ := hr1.open
  obtain ⟨a2, n2, c2, rfl, hn2, hu2⟩ := hr2.open
  dsimp only at hn1 hu1 hn2 hu2 hn9
  subst hn1 hn2
  have C := hide (fun W (h1 : RdN thY W (.slice a1 ths.length c1) ths) (h2 : RdN thY W (.slice a2 ths.length c2) ths) => eqThingS_any ths (.slice a1 ths.length c1) (.slice a2 ths.length c2) W h1 h2 hn9)
  replace hu1 := hide hu1
  replace hu2 := hide hu2
  clear hr1 hr2
  go_enter Tryz.func10, Tryz.ntmps10
  go_wp2_with fail
  obtain ⟨W, hW, hX, hY, hB, hs1⟩ := two_cb w #[.string wd, .int .i64 tr, .slice a1 ths.length c1, .int .i64 la, .string ch, .int .i64 ct] #[.string wd, .int .i64 tr, .slice a2 ths.length c2, .int .i64 la, .string ch, .int .i64 ct] 31 31
  rw [hW]
  clear hW
  refine (unhide C _ ((unhide hu1).below hB) ((unhide hu2).below hB)).mono ?_
  rintro e w1 ⟨rfl, hb1⟩
  have T1 := hB.trans (hb1.mono hB.size)
  have hX1 := hX.step hb1
  have hY1 := hY.step hb1
  clear hb1 hB hX hY C hu1 hu2
  have x3 := hX1.cell 3 (v := .int .i64 la) rfl
  have x4 := hX1.cell 4 (v := .string ch) rfl
  have x5 := hX1.cell 5 (v := .int .i64 ct) rfl
  have y3 := hY1.cell 3 (v := .int .i64 la) rfl
  have y4 := hY1.cell 4 (v := .string ch) rfl
  have y5 := hY1.cell 5 (v := .int .i64 ct) rfl
  clear hX1 hY1
  go_wp2
  go_ret
  exact ⟨rfl, T1⟩
end Go.Proofs.YtkbbcjnickgfjabGreat

/- A thing held against the zero thing, over the loaded program. -/
namespace Go.Proofs.YtkbbcjnickgfjabGreat
open Go.RowKit
set_option maxRecDepth 20000 in
set_option maxHeartbeats 1600000 in
theorem eqZ (x : Th) (W : World) : (binOp .eql 48 (.agg (thC x)) (.agg #[.int .i64 0, .int .i64 0, .bool false, .bool false, .bool false, .bool false, .string ⟨#[]⟩, .int .i64 0])).run Tryz.prog W = .ok (.bool (thNo x)) W := by
  obtain ⟨id, kind, hid, fix, sgn, wrp, val, nxt⟩ := x
  simp only [thC]
  have HN : thNo ⟨id, kind, hid, fix, sgn, wrp, val, nxt⟩ = (decide (id = 0) && (decide (kind = 0) && (!hid && (!fix && (!sgn && (!wrp && (decide (val = ⟨#[]⟩) && decide (nxt = 0)))))))) := by
    unfold thNo ThNo
    cases hid <;> cases fix <;> cases sgn <;> cases wrp <;> simp
  rw [HN]
  by_cases h1 : id = 0
  · subst h1
    by_cases h2 : kind = 0
    · subst h2
      cases hid <;> cases fix <;> cases sgn <;> cases wrp
      all_goals
        by_cases h3 : val = ⟨#[]⟩
        · subst h3
          by_cases h4 : nxt = 0
          · subst h4; go_simp
          · go_simp
        · have h5 : ¬ val.toList = [] := fun h => h3 (ByteArray.ext (Array.toList_inj.1 (by rw [← ByteArray.toList_eq, h])))
          go_simp
    · go_simp
  · go_simp
end Go.Proofs.YtkbbcjnickgfjabGreat

/- Records by the given model: texts, over the loaded program. -/
namespace Go.Proofs.YtkbbcjnickgfjabGreat
open Go.RowKit
theorem pre21 (k : Nat) (s : ByteArray) : (⟨(byteOf k :: s.data.toList).toArray⟩ : ByteArray) = ⟨#[byteOf k]⟩ ++ s := by
  apply ByteArray.ext
  apply Array.toList_inj.1
  rw [ByteArray.data_append]
  simp
theorem ttB_le (x : Th) : (ttB x).size ≤ 200 := by
  unfold ttB
  split
  · exact thT_le ‹_›
  · exact Nat.zero_le _
set_option maxRecDepth 20000 in
set_option maxHeartbeats 6400000 in
theorem specRecText_any (r : Rc) (w : World) :
    Calls Tryz.prog 33 #[.agg (rcC r)] w fun e w' => e = .returned (.tuple #[.string (rcT r), .bool (rcOk r)]) ∧ Below w.heap.size w w' := by
  obtain ⟨kd, tx, nm, ⟨id, kind, hid, fix, sgn, wrp, val, nxt⟩⟩ := r
  obtain ⟨no, hno⟩ : ∃ b, b = thNo ⟨id, kind, hid, fix, sgn, wrp, val, nxt⟩ := ⟨_, rfl⟩
  obtain ⟨ot, hot⟩ : ∃ b, b = thOk ⟨id, kind, hid, fix, sgn, wrp, val, nxt⟩ := ⟨_, rfl⟩
  have N1 : no = true ↔ ThNo ⟨id, kind, hid, fix, sgn, wrp, val, nxt⟩ := by rw [hno]; unfold thNo; exact decide_eq_true_iff
  have N2 : ot = true ↔ ThOk ⟨id, kind, hid, fix, sgn, wrp, val, nxt⟩ := by rw [hot]; exact thOk_iff _
  have CV := hide (fun (n : Nat) (hn : n ≤ 1000000000) W => l01Var_any n W hn)
  have CI := hide (fun (a b : Int) W => l01In_any nm a b W)
  have CT := hide (fun W => specThingText_any ⟨id, kind, hid, fix, sgn, wrp, val, nxt⟩ W)
  rw [← hot] at CT
  have TB : ot = true → ttB ⟨id, kind, hid, fix, sgn, wrp, val, nxt⟩ = ⟨(thL ⟨id, kind, hid, fix, sgn, wrp, val, nxt⟩).toArray⟩ := fun h => by unfold ttB; rw [← hot, if_pos h]; rfl
  have HT := ttB_le ⟨id, kind, hid, fix, sgn, wrp, val, nxt⟩
  generalize ttB ⟨id, kind, hid, fix, sgn, wrp, val, nxt⟩ = tt at *
  replace HT := hide HT
  have RO := rcOk_iff ⟨kd, tx, nm, ⟨id, kind, hid, fix, sgn, wrp, val, nxt⟩⟩
  have RN := rcOk_not ⟨kd, tx, nm, ⟨id, kind, hid, fix, sgn, wrp, val, nxt⟩⟩
  have RT : rcT ⟨kd, tx, nm, ⟨id, kind, hid, fix, sgn, wrp, val, nxt⟩⟩ = if rcOk ⟨kd, tx, nm, ⟨id, kind, hid, fix, sgn, wrp, val, nxt⟩⟩ = true then ⟨(rcL ⟨kd, tx, nm, ⟨id, kind, hid, fix, sgn, wrp, val, nxt⟩⟩).toArray⟩ else ⟨#[]⟩ := rfl
  unfold RcOk at RO RN
  dsimp only at RO RN
  rw [← N1, ← N2] at RO RN
  unfold rcL at RT
  dsimp only at RT
  generalize thL ⟨id, kind, hid, fix, sgn, wrp, val, nxt⟩ = tl at *
  generalize rcOk ⟨kd, tx, nm, ⟨id, kind, hid, fix, sgn, wrp, val, nxt⟩⟩ = ok at *
  generalize rcT ⟨kd, tx, nm, ⟨id, kind, hid, fix, sgn, wrp, val, nxt⟩⟩ = rt at *
  simp only [rcC]
  replace CT := hide (show ∀ W, Calls Tryz.prog 58 #[.agg #[.int .i64 id, .int .i64 kind, .bool hid, .bool fix, .bool sgn, .bool wrp, .string val, .int .i64 nxt]] W (fun e w' => e = .returned (.tuple #[.string tt, .bool ot]) ∧ Below W.heap.size W w') from unhide CT)
  replace RO := hide RO; replace RN := hide RN; replace RT := hide RT; replace N2 := hide N2; replace TB := hide TB; replace hot := hide hot; replace N1 := hide N1
  have EZ := fun W => eqZ ⟨id, kind, hid, fix, sgn, wrp, val, nxt⟩ W
  rw [← hno] at EZ
  simp only [thC] at EZ
  replace hno := hide hno
  go_enter Tryz.func33, Tryz.ntmps33
  obtain ⟨W, hW, hX, hB, hs1⟩ := one_cb w #[.int .i64 kd, .string tx, .int .i64 nm, .int .i64 id, .int .i64 kind, .bool hid, .bool fix, .bool sgn, .bool wrp, .string val, .int .i64 nxt] 50
  have x0 := hX.cell 0 (v := (.int .i64 _)) rfl
  have x1 := hX.cell 1 (v := (.string _)) rfl
  have x2 := hX.cell 2 (v := (.int .i64 _)) rfl
  have x3 := hX.cell 3 (v := (.int .i64 _)) rfl
  have x4 := hX.cell 4 (v := (.int .i64 _)) rfl
  have x5 := hX.cell 5 (v := (.bool _)) rfl
  have x6 := hX.cell 6 (v := (.bool _)) rfl
  have x7 := hX.cell 7 (v := (.bool _)) rfl
  have x8 := hX.cell 8 (v := (.bool _)) rfl
  have x9 := hX.cell 9 (v := (.string _)) rfl
  have x10 := hX.cell 10 (v := (.int .i64 _)) rfl
  go_upto_region 3 with fail
  clear hW hno N1 hot N2 EZ
  by_cases k1 : kd = 1
  · subst k1
    by_cases c1 : tx.size = 32
    · have c1' : (tx.size : Int) = 32 := by omega
      by_cases c2 : nm = 0
      · cases no with
        | false =>
          have hok : ok = false := (unhide RN).2 (by rintro (⟨q1, q2, q3, q4⟩ | ⟨q1, q2, q3, q4, q5⟩ | ⟨q1, q2, q3, q4⟩ | ⟨q1, q2, q3, q4, q5⟩) <;> first | omega | (simp_all; done) | (exact absurd q1 (by decide)))
          have hrt := unhide RT
          rw [hok, if_neg (by decide)] at hrt
          subst hok
          subst hrt
          clear RO RN RT TB CV CI CT
          go_wp2
          go_ret2
          exact ⟨rfl, hB⟩
        | true =>
          have hok : ok = true := (unhide RO).2 (.inl ⟨rfl, c1, c2, rfl⟩)
          have hrt := unhide RT
          rw [hok, if_pos rfl, if_pos rfl] at hrt
          have hp : (⟨(byteOf (Int.toNat 1) :: tx.data.toList).toArray⟩ : ByteArray) = ⟨#[1]⟩ ++ tx := pre21 1 tx
          rw [hp] at hrt
          subst hok
          subst hrt
          clear hp
          have s1 : ¬ 9223372036854775807 < 1 + tx.size := by omega
          have s2 : 1 + tx.size ≤ 9223372036854775807 := by omega
          replace c1 := hide c1
          clear RO RN RT TB CV CI CT
          go_wp2
          go_ret2
          exact ⟨rfl, hB⟩
      · skip
        have hok : ok = false := (unhide RN).2 (by rintro (⟨q1, q2, q3, q4⟩ | ⟨q1, q2, q3, q4, q5⟩ | ⟨q1, q2, q3, q4⟩ | ⟨q1, q2, q3, q4, q5⟩) <;> first | omega | (simp_all; done) | (exact absurd q1 (by decide)))
        have hrt := unhide RT
        rw [hok, if_neg (by decide)] at hrt
        subst hok
        subst hrt
        clear RO RN RT TB CV CI CT
        go_wp2
        go_ret2
        exact ⟨rfl, hB⟩
    · have c1' : ¬ (tx.size : Int) = 32 := by omega
      have hok : ok = false := (unhide RN).2 (by rintro (⟨q1, q2, q3, q4⟩ | ⟨q1, q2, q3, q4, q5⟩ | ⟨q1, q2, q3, q4⟩ | ⟨q1, q2, q3, q4, q5⟩) <;> first | omega | (simp_all; done) | (exact absurd q1 (by decide)))
      have hrt := unhide RT
      rw [hok, if_neg (by decide)] at hrt
      subst hok
      subst hrt
      clear RO RN RT TB CV CI CT
      go_wp2
      go_ret2
      exact ⟨rfl, hB⟩
  · skip
    by_cases k2 : kd = 2
    · subst k2
      by_cases c1 : tx.size = 0
      · have e1 := size_zero_is c1
        subst e1
        cases no with
        | false =>
          have hok : ok = false := (unhide RN).2 (by rintro (⟨q1, q2, q3, q4⟩ | ⟨q1, q2, q3, q4, q5⟩ | ⟨q1, q2, q3, q4⟩ | ⟨q1, q2, q3, q4, q5⟩) <;> first | omega | (simp_all; done) | (exact absurd q1 (by decide)))
          have hrt := unhide RT
          rw [hok, if_neg (by decide)] at hrt
          subst hok
          subst hrt
          clear RO RN RT TB CV CI CT
          go_wp2
          go_ret2
          exact ⟨rfl, hB⟩
        | true =>
          by_cases c2 : 0 ≤ nm ∧ nm ≤ 3
          · obtain ⟨c2, c3⟩ := c2
            have d1 : decide ((0 : Int) ≤ nm) = true := decide_eq_true c2
            have d2 : decide (nm ≤ (3 : Int)) = true := decide_eq_true c3
            obtain ⟨m, hm⟩ : ∃ m : Nat, nm = (m : Int) := ⟨nm.toNat, by omega⟩
            subst hm
            have hok : ok = true := (unhide RO).2 (.inr (.inl ⟨rfl, rfl, rfl, c2, c3⟩))
            have hrt := unhide RT
            rw [hok, if_pos rfl, if_neg (by decide), if_neg (by decide)] at hrt
            subst hok
            have I1 := hide (unhide CI 0 3)
            have V1 := hide (unhide CV m (by omega))
            rw [d1, d2] at I1
            have hvs : (ByteArray.mk (varB m).toArray).size ≤ 2000 := by show (varB m).toArray.size ≤ 2000; simp; have := (varB_len m).2; omega
            have tn : ((m : Int)).toNat = m := Int.toNat_natCast m
            rw [tn] at hrt
            have hp : (⟨(byteOf (Int.toNat 2) :: varB m).toArray⟩ : ByteArray) = ⟨#[2]⟩ ++ ⟨(varB m).toArray⟩ := pre21 2 ⟨(varB m).toArray⟩
            rw [hp] at hrt
            generalize (ByteArray.mk (varB m).toArray) = vb at *
            subst hrt
            have s1 : ¬ 9223372036854775807 < 1 + vb.size := by omega
            have s2 : 1 + vb.size ≤ 9223372036854775807 := by omega
            clear RO RN RT TB CV CI CT d1 d2 hp tn
            go_wp2_with fail
            refine (unhide I1 _).mono ?_
            rintro e u1 ⟨rfl, hu1⟩
            subst hu1
            go_wp2_with fail
            refine (unhide V1 _).mono ?_
            rintro e u2 ⟨rfl, hb2⟩
            have T2 := hB.trans (hb2.mono hB.size)
            clear I1 V1 hb2
            go_wp2
            go_ret2
            exact ⟨rfl, T2⟩
          · have I1 := hide (unhide CI 0 3)
            have d1 : (decide ((0 : Int) ≤ nm) && decide (nm ≤ (3 : Int))) = false := by
              rw [Bool.and_eq_false_iff]
              rcases Int.lt_or_le nm 0 with q | q
              · exact .inl (decide_eq_false (by omega))
              · exact .inr (decide_eq_false (by omega))
            rw [d1] at I1
            have hok : ok = false := (unhide RN).2 (by rintro (⟨q1, q2, q3, q4⟩ | ⟨q1, q2, q3, q4, q5⟩ | ⟨q1, q2, q3, q4⟩ | ⟨q1, q2, q3, q4, q5⟩) <;> first | omega | (simp_all; done) | (exact absurd q1 (by decide)))
            have hrt := unhide RT
            rw [hok, if_neg (by decide)] at hrt
            subst hok
            subst hrt
            clear RO RN RT TB CV CI CT d1
            go_wp2_with fail
            refine (unhide I1 _).mono ?_
            rintro e u1 ⟨rfl, hu1⟩
            subst hu1
            go_wp2
            go_ret2
            exact ⟨rfl, hB⟩
      · have c1' : ¬ tx.toList = [] := fun h => c1 (by show tx.data.size = 0; rw [← Array.length_toList, ← ByteArray.toList_eq, h]; rfl)
        have hok : ok = false := (unhide RN).2 (by rintro (⟨q1, q2, q3, q4⟩ | ⟨q1, q2, q3, q4, q5⟩ | ⟨q1, q2, q3, q4⟩ | ⟨q1, q2, q3, q4, q5⟩) <;> first | omega | (simp_all; done) | (exact absurd q1 (by decide)))
        have hrt := unhide RT
        rw [hok, if_neg (by decide)] at hrt
        subst hok
        subst hrt
        clear RO RN RT TB CV CI CT
        go_wp2
        go_ret2
        exact ⟨rfl, hB⟩
    · skip
      by_cases k3 : kd = 3
      · subst k3
        cases ot with
        | false =>
          have hok : ok = false := (unhide RN).2 (by rintro (⟨q1, q2, q3, q4⟩ | ⟨q1, q2, q3, q4, q5⟩ | ⟨q1, q2, q3, q4⟩ | ⟨q1, q2, q3, q4, q5⟩) <;> first | omega | (simp_all; done) | (exact absurd q1 (by decide)))
          have hrt := unhide RT
          rw [hok, if_neg (by decide)] at hrt
          subst hok
          subst hrt
          clear RO RN RT TB CV CI
          go_wp2_with fail
          refine (unhide CT W).mono ?_
          rintro e u1 ⟨rfl, hb1⟩
          have T1 := hB.trans (hb1.mono hB.size)
          have hX1 := hX.step hb1
          clear hb1 hB hX x0 x1 x2 x3 x4 x5 x6 x7 x8 x9 x10 CT
          have x0 := hX1.cell 0 (v := (.int .i64 _)) rfl
          have x1 := hX1.cell 1 (v := (.string _)) rfl
          have x2 := hX1.cell 2 (v := (.int .i64 _)) rfl
          have x3 := hX1.cell 3 (v := (.int .i64 _)) rfl
          have x4 := hX1.cell 4 (v := (.int .i64 _)) rfl
          have x5 := hX1.cell 5 (v := (.bool _)) rfl
          have x6 := hX1.cell 6 (v := (.bool _)) rfl
          have x7 := hX1.cell 7 (v := (.bool _)) rfl
          have x8 := hX1.cell 8 (v := (.bool _)) rfl
          have x9 := hX1.cell 9 (v := (.string _)) rfl
          have x10 := hX1.cell 10 (v := (.int .i64 _)) rfl
          go_wp2
          go_ret2
          exact ⟨rfl, T1⟩
        | true =>
          by_cases c1 : tx.size = 0
          · have e1 := size_zero_is c1
            subst e1
            by_cases c2 : nm = 0
            · have hok : ok = true := (unhide RO).2 (.inr (.inr (.inl ⟨rfl, rfl, rfl, c2⟩)))
              have hrt := unhide RT
              rw [hok, if_pos rfl, if_neg (by decide), if_pos rfl] at hrt
              subst hok
              have htt := unhide TB rfl
              have hp : (⟨(byteOf (Int.toNat 3) :: tl).toArray⟩ : ByteArray) = ⟨#[3]⟩ ++ tt := by rw [htt]; exact pre21 3 ⟨tl.toArray⟩
              rw [hp] at hrt
              subst hrt
              have s0 := unhide HT
              have s1 : ¬ 9223372036854775807 < 1 + tt.size := by omega
              have s2 : 1 + tt.size ≤ 9223372036854775807 := by omega
              clear RO RN RT TB CV CI hp htt s0
              go_wp2_with fail
              refine (unhide CT W).mono ?_
              rintro e u1 ⟨rfl, hb1⟩
              have T1 := hB.trans (hb1.mono hB.size)
              have hX1 := hX.step hb1
              clear hb1 hB hX x0 x1 x2 x3 x4 x5 x6 x7 x8 x9 x10 CT
              have x0 := hX1.cell 0 (v := (.int .i64 _)) rfl
              have x1 := hX1.cell 1 (v := (.string _)) rfl
              have x2 := hX1.cell 2 (v := (.int .i64 _)) rfl
              have x3 := hX1.cell 3 (v := (.int .i64 _)) rfl
              have x4 := hX1.cell 4 (v := (.int .i64 _)) rfl
              have x5 := hX1.cell 5 (v := (.bool _)) rfl
              have x6 := hX1.cell 6 (v := (.bool _)) rfl
              have x7 := hX1.cell 7 (v := (.bool _)) rfl
              have x8 := hX1.cell 8 (v := (.bool _)) rfl
              have x9 := hX1.cell 9 (v := (.string _)) rfl
              have x10 := hX1.cell 10 (v := (.int .i64 _)) rfl
              go_wp2
              go_ret2
              exact ⟨rfl, T1⟩
            · skip
              have hok : ok = false := (unhide RN).2 (by rintro (⟨q1, q2, q3, q4⟩ | ⟨q1, q2, q3, q4, q5⟩ | ⟨q1, q2, q3, q4⟩ | ⟨q1, q2, q3, q4, q5⟩) <;> first | omega | (simp_all; done) | (exact absurd q1 (by decide)))
              have hrt := unhide RT
              rw [hok, if_neg (by decide)] at hrt
              subst hok
              subst hrt
              clear RO RN RT TB CV CI
              go_wp2_with fail
              refine (unhide CT W).mono ?_
              rintro e u1 ⟨rfl, hb1⟩
              have T1 := hB.trans (hb1.mono hB.size)
              have hX1 := hX.step hb1
              clear hb1 hB hX x0 x1 x2 x3 x4 x5 x6 x7 x8 x9 x10 CT
              have x0 := hX1.cell 0 (v := (.int .i64 _)) rfl
              have x1 := hX1.cell 1 (v := (.string _)) rfl
              have x2 := hX1.cell 2 (v := (.int .i64 _)) rfl
              have x3 := hX1.cell 3 (v := (.int .i64 _)) rfl
              have x4 := hX1.cell 4 (v := (.int .i64 _)) rfl
              have x5 := hX1.cell 5 (v := (.bool _)) rfl
              have x6 := hX1.cell 6 (v := (.bool _)) rfl
              have x7 := hX1.cell 7 (v := (.bool _)) rfl
              have x8 := hX1.cell 8 (v := (.bool _)) rfl
              have x9 := hX1.cell 9 (v := (.string _)) rfl
              have x10 := hX1.cell 10 (v := (.int .i64 _)) rfl
              go_wp2
              go_ret2
              exact ⟨rfl, T1⟩
          · have c1' : ¬ tx.toList = [] := fun h => c1 (by show tx.data.size = 0; rw [← Array.length_toList, ← ByteArray.toList_eq, h]; rfl)
            have hok : ok = false := (unhide RN).2 (by rintro (⟨q1, q2, q3, q4⟩ | ⟨q1, q2, q3, q4, q5⟩ | ⟨q1, q2, q3, q4⟩ | ⟨q1, q2, q3, q4, q5⟩) <;> first | omega | (simp_all; done) | (exact absurd q1 (by decide)))
            have hrt := unhide RT
            rw [hok, if_neg (by decide)] at hrt
            subst hok
            subst hrt
            clear RO RN RT TB CV CI
            go_wp2_with fail
            refine (unhide CT W).mono ?_
            rintro e u1 ⟨rfl, hb1⟩
            have T1 := hB.trans (hb1.mono hB.size)
            have hX1 := hX.step hb1
            clear hb1 hB hX x0 x1 x2 x3 x4 x5 x6 x7 x8 x9 x10 CT
            have x0 := hX1.cell 0 (v := (.int .i64 _)) rfl
            have x1 := hX1.cell 1 (v := (.string _)) rfl
            have x2 := hX1.cell 2 (v := (.int .i64 _)) rfl
            have x3 := hX1.cell 3 (v := (.int .i64 _)) rfl
            have x4 := hX1.cell 4 (v := (.int .i64 _)) rfl
            have x5 := hX1.cell 5 (v := (.bool _)) rfl
            have x6 := hX1.cell 6 (v := (.bool _)) rfl
            have x7 := hX1.cell 7 (v := (.bool _)) rfl
            have x8 := hX1.cell 8 (v := (.bool _)) rfl
            have x9 := hX1.cell 9 (v := (.string _)) rfl
            have x10 := hX1.cell 10 (v := (.int .i64 _)) rfl
            go_wp2
            go_ret2
            exact ⟨rfl, T1⟩
      · skip
        by_cases k4 : kd = 4
        · subst k4
          by_cases c1 : tx.size = 0
          · have e1 := size_zero_is c1
            subst e1
            cases no with
            | false =>
              have hok : ok = false := (unhide RN).2 (by rintro (⟨q1, q2, q3, q4⟩ | ⟨q1, q2, q3, q4, q5⟩ | ⟨q1, q2, q3, q4⟩ | ⟨q1, q2, q3, q4, q5⟩) <;> first | omega | (simp_all; done) | (exact absurd q1 (by decide)))
              have hrt := unhide RT
              rw [hok, if_neg (by decide)] at hrt
              subst hok
              subst hrt
              clear RO RN RT TB CV CI CT
              go_wp2
              go_ret2
              exact ⟨rfl, hB⟩
            | true =>
              by_cases c2 : 1 ≤ nm ∧ nm ≤ 1000
              · obtain ⟨c2, c3⟩ := c2
                have d1 : decide ((1 : Int) ≤ nm) = true := decide_eq_true c2
                have d2 : decide (nm ≤ (1000 : Int)) = true := decide_eq_true c3
                obtain ⟨m, hm⟩ : ∃ m : Nat, nm = (m : Int) := ⟨nm.toNat, by omega⟩
                subst hm
                have hok : ok = true := (unhide RO).2 (.inr (.inr (.inr ⟨rfl, rfl, rfl, c2, c3⟩)))
                have hrt := unhide RT
                rw [hok, if_pos rfl, if_neg (by decide), if_neg (by decide)] at hrt
                subst hok
                have I1 := hide (unhide CI 1 1000)
                have V1 := hide (unhide CV m (by omega))
                rw [d1, d2] at I1
                have hvs : (ByteArray.mk (varB m).toArray).size ≤ 2000 := by show (varB m).toArray.size ≤ 2000; simp; have := (varB_len m).2; omega
                have tn : ((m : Int)).toNat = m := Int.toNat_natCast m
                rw [tn] at hrt
                have hp : (⟨(byteOf (Int.toNat 4) :: varB m).toArray⟩ : ByteArray) = ⟨#[4]⟩ ++ ⟨(varB m).toArray⟩ := pre21 4 ⟨(varB m).toArray⟩
                rw [hp] at hrt
                generalize (ByteArray.mk (varB m).toArray) = vb at *
                subst hrt
                have s1 : ¬ 9223372036854775807 < 1 + vb.size := by omega
                have s2 : 1 + vb.size ≤ 9223372036854775807 := by omega
                clear RO RN RT TB CV CI CT d1 d2 hp tn
                go_wp2_with fail
                refine (unhide I1 _).mono ?_
                rintro e u1 ⟨rfl, hu1⟩
                subst hu1
                go_wp2_with fail
                refine (unhide V1 _).mono ?_
                rintro e u2 ⟨rfl, hb2⟩
                have T2 := hB.trans (hb2.mono hB.size)
                clear I1 V1 hb2
                go_wp2
                go_ret2
                exact ⟨rfl, T2⟩
              · have I1 := hide (unhide CI 1 1000)
                have d1 : (decide ((1 : Int) ≤ nm) && decide (nm ≤ (1000 : Int))) = false := by
                  rw [Bool.and_eq_false_iff]
                  rcases Int.lt_or_le nm 1 with q | q
                  · exact .inl (decide_eq_false (by omega))
                  · exact .inr (decide_eq_false (by omega))
                rw [d1] at I1
                have hok : ok = false := (unhide RN).2 (by rintro (⟨q1, q2, q3, q4⟩ | ⟨q1, q2, q3, q4, q5⟩ | ⟨q1, q2, q3, q4⟩ | ⟨q1, q2, q3, q4, q5⟩) <;> first | omega | (simp_all; done) | (exact absurd q1 (by decide)))
                have hrt := unhide RT
                rw [hok, if_neg (by decide)] at hrt
                subst hok
                subst hrt
                clear RO RN RT TB CV CI CT d1
                go_wp2_with fail
                refine (unhide I1 _).mono ?_
                rintro e u1 ⟨rfl, hu1⟩
                subst hu1
                go_wp2
                go_ret2
                exact ⟨rfl, hB⟩
          · have c1' : ¬ tx.toList = [] := fun h => c1 (by show tx.data.size = 0; rw [← Array.length_toList, ← ByteArray.toList_eq, h]; rfl)
            have hok : ok = false := (unhide RN).2 (by rintro (⟨q1, q2, q3, q4⟩ | ⟨q1, q2, q3, q4, q5⟩ | ⟨q1, q2, q3, q4⟩ | ⟨q1, q2, q3, q4, q5⟩) <;> first | omega | (simp_all; done) | (exact absurd q1 (by decide)))
            have hrt := unhide RT
            rw [hok, if_neg (by decide)] at hrt
            subst hok
            subst hrt
            clear RO RN RT TB CV CI CT
            go_wp2
            go_ret2
            exact ⟨rfl, hB⟩
        · skip
          have hok : ok = false := (unhide RN).2 (by rintro (⟨q1, q2, q3, q4⟩ | ⟨q1, q2, q3, q4, q5⟩ | ⟨q1, q2, q3, q4⟩ | ⟨q1, q2, q3, q4, q5⟩) <;> first | omega | (simp_all; done) | (exact absurd q1 (by decide)))
          have hrt := unhide RT
          rw [hok, if_neg (by decide)] at hrt
          subst hok
          subst hrt
          clear RO RN RT TB CV CI CT
          go_wp2
          go_ret2
          exact ⟨rfl, hB⟩
end Go.Proofs.YtkbbcjnickgfjabGreat

/- Books by the given model: a new one, a thing of it, whether it is right, a copy, over the loaded program. -/
namespace Go.Proofs.YtkbbcjnickgfjabGreat
open Go.RowKit
theorem ofT_at {xs : List Th} {k : Nat} {x : Th} {id : Int} (h : xs[k]? = some x) (hn : ∀ y ∈ xs.take k, y.id ≠ id) (e : x.id = id) : hasT xs id = true ∧ ofT xs id = x := by
  have hk := (List.getElem?_eq_some_iff.1 h).1
  have e1 : xs = xs.take k ++ x :: xs.drop (k + 1) := by
    conv => lhs; rw [← List.take_append_drop k xs, List.drop_eq_getElem_cons hk]
    rw [(List.getElem?_eq_some_iff.1 h).2]
  have h1 : (xs.take k).find? (fun y => decide (y.id = id)) = none := by
    rw [List.find?_eq_none]
    intro y hy
    simpa using hn y hy
  have h2 : xs.find? (fun y => decide (y.id = id)) = some x := by
    rw [e1, List.find?_append, h1]
    simp [e]
  constructor
  · unfold hasT
    rw [List.any_eq_true]
    exact ⟨x, List.mem_of_getElem? h, by simpa using e⟩
  · unfold ofT
    rw [h2]; rfl
theorem ofT_no {xs : List Th} {id : Int} (hn : ∀ y ∈ xs, y.id ≠ id) : hasT xs id = false ∧ ofT xs id = thZ := by
  have h2 : xs.find? (fun y => decide (y.id = id)) = none := by
    rw [List.find?_eq_none]
    intro y hy
    simpa using hn y hy
  constructor
  · unfold hasT
    rw [List.any_eq_false]
    intro y hy
    simpa using hn y hy
  · unfold ofT
    rw [h2]; rfl
theorem take_snocT {xs : List Th} {k : Nat} {x : Th} (h : xs[k]? = some x) {p : Th → Prop} (h1 : ∀ y ∈ xs.take k, p y) (h2 : p x) : ∀ y ∈ xs.take (k + 1), p y := by
  intro y hy
  rw [List.take_add_one, h] at hy
  rcases List.mem_append.1 hy with q | q
  · exact h1 y q
  · simp at q; rw [q]; exact h2
theorem bk_one (b : Bk) (a : Option Addr) (n c : Nat) : (#[.string b.wd, .int .i64 b.tr, .slice a n c, .int .i64 b.la, .string b.ch, .int .i64 b.ct] : Array Value).all (·.oneCell') = true := bkc_one _ _ _ _ _ _ _ _
set_option maxRecDepth 20000 in
set_option maxHeartbeats 2000000 in
theorem specThingOf_any (b : Bk) (id : Int) (v : Value) (w : World) (hr : RdBk w v b) (hn9 : b.ths.length ≤ 2000000) :
    Calls Tryz.prog 35 #[v, .int .i64 id] w fun e w' => e = .returned (.tuple #[.agg (thC (ofT b.ths id)), .bool (hasT b.ths id)]) ∧ Below w.heap.size w w' := by
  obtain ⟨wd, tr, ths, la, ch, ct⟩ := b
  obtain ⟨a, n, c, rfl, hn, hu⟩ := hr.open
  dsimp only at hn hu hn9 ⊢
  have HN := hide hn.symm
  rw [hn.symm] at hn9
  clear hn hr
  obtain ⟨W, hW, hX, hY, hB, hs1⟩ := two_cb w #[.string wd, .int .i64 tr, .slice a n c, .int .i64 la, .string ch, .int .i64 ct] (thC thZ) 31 48
  have hu1 := hu.below hB
  obtain ⟨a', c', hsl, hc⟩ := hu1.openT
  simp only [Value.slice.injEq] at hsl
  obtain ⟨rfl, hnl, rfl⟩ := hsl
  unfold thC thZ at hW
  dsimp only at hW
  have x2 := hX.cell 2 (v := .slice a n c) rfl
  replace hY := hide hY
  replace hB := hide hB
  replace hnl := hide hnl
  clear hu hu1 hX
  go_enter Tryz.func35, Tryz.ntmps35
  go_upto_region 1 with fail
  first | rw [hW] | skip
  clear hW
  go_wp2
  go_loop [6] (fun ti => ∃ k : Nat, k ≤ n ∧ ti = .int .i64 k ∧ Hid (∀ y ∈ ths.take k, y.id ≠ id)) (fun ti => n - (intOf ti).toNat)
  case atStart => exact ⟨0, Nat.zero_le _, rfl, fun y hy => by simp at hy⟩
  case round =>
    obtain ⟨k, hk, rfl, hno⟩ := hrel
    by_cases hlt : k < n
    · have hk' : k < ths.length := by have := unhide HN; omega
      obtain ⟨f, hf⟩ : ∃ f, ths[k]? = some f := ⟨ths[k], List.getElem?_eq_getElem hk'⟩
      obtain ⟨g, o, rfl, hg, hat⟩ := hc k f hf
      have hlk : (k : Int) < (n : Int) := by omega
      by_cases he : f.id = id
      · have HO := hide (ofT_at hf (unhide hno) he)
        have d0 := hat.th.1
        obtain ⟨f0, hf0⟩ : ∃ f0, f0 = f := ⟨_, rfl⟩
        rw [he] at d0
        replace hat := hide hat
        replace hf := hide hf
        replace he := hide he
        clear hc
        go_upto_region 5 with fail
        go_wp2_with (first
          | (refine wpList_load_n (L := thY) rfl 48 (.tmp 25) rfl g (o + k * 8) rfl f (unhide hat) _ Tryz.underlying48 rfl ?_)
          | (refine wpList_store_row rfl 48 (.tmp 4) (.tmp 26) rfl (w.heap.size + 1) (thC f) rfl rfl 48 _ (unhide hY) rfl rfl (th_one f) ?_))
        have hY8 := setRow_heap _ (w.heap.size + 1) _ (thC f) 48 (0, 0) (unhide hY)
        have T4 := Go.below_setRow (unhide hB) (show w.heap.size ≤ w.heap.size + 1 by omega) (thC f)
        exact bodyPost_ret (results_cb_tmp (by exact Tryz.results35) _ _ (w.heap.size + 1) 48 (thC f) _ rfl hY8 Tryz.underlying48 (th_size f)) rfl ⟨by rw [(unhide HO).1, (unhide HO).2]; rfl, T4⟩
      · have HO := hide (take_snocT (p := fun y => y.id ≠ id) hf (unhide hno) he)
        have d0 := hat.th.1
        clear hc hat hno
        replace hf := hide hf
        have he' : (f.id == id) = false := by simpa using he
        go_wp2
        go_round
        case rel => exact ⟨k + 1, by omega, by go_num, unhide HO⟩
        case measure => simp [intOf]; omega
    · have e2 : ths.take k = ths := List.take_of_length_le (by have := unhide HN; omega)
      rw [e2] at hno
      have HO := hide (ofT_no (unhide hno))
      clear hc hno e2
      go_upto_region 6 with fail
      go_wp2_with (refine wpList_store_row rfl 48 (.tmp 4) (.tmp 27) rfl (w.heap.size + 1) (thC thZ) rfl rfl 48 _ (unhide hY) rfl rfl (th_one thZ) ?_)
      have hY8 := setRow_heap _ (w.heap.size + 1) _ (thC thZ) 48 (0, 0) (unhide hY)
      have T4 := Go.below_setRow (unhide hB) (show w.heap.size ≤ w.heap.size + 1 by omega) (thC thZ)
      exact bodyPost_ret (results_cb_tmp (by exact Tryz.results35) _ _ (w.heap.size + 1) 48 (thC thZ) _ rfl hY8 Tryz.underlying48 (th_size thZ)) rfl ⟨by rw [(unhide HO).1, (unhide HO).2]; rfl, T4⟩
end Go.Proofs.YtkbbcjnickgfjabGreat

/- Books by the given model: what a thing may become, over the loaded program. -/
namespace Go.Proofs.YtkbbcjnickgfjabGreat
open Go.RowKit
set_option maxRecDepth 20000 in
set_option maxHeartbeats 4000000 in
theorem l21Grown_any (x y : Th) (w : World) :
    Calls Tryz.prog 36 #[.agg (thC x), .agg (thC y)] w fun e w' => e = .returned (.bool (grownB x y)) ∧ Below w.heap.size w w' := by
  have HG : grownB x y = decide (x.kind = y.kind ∧ x.val = y.val ∧ x.sgn = y.sgn ∧ x.wrp = y.wrp ∧ x.nxt ≤ y.nxt ∧ (x.hid = true → y.hid = true) ∧ (x.fix = true → y.fix = true)) := rfl
  generalize grownB x y = r at *
  obtain ⟨id, kind, hid, fix, sgn, wrp, val, nxt⟩ := x
  obtain ⟨yi, yk, yh, yf, ys, yw, yv, yn⟩ := y
  dsimp only at HG
  simp only [thC]
  have HV : val = yv ↔ val.toList = yv.toList := ⟨fun h => by rw [h], fun h => ByteArray.ext (Array.toList_inj.1 (by rw [← ByteArray.toList_eq, ← ByteArray.toList_eq, h]))⟩
  replace HG : r = true ↔ (kind = yk ∧ val.toList = yv.toList ∧ sgn = ys ∧ wrp = yw ∧ nxt ≤ yn ∧ (hid = true → yh = true) ∧ (fix = true → yf = true)) := by rw [HG, decide_eq_true_iff, HV]
  clear HV
  replace HG := hide HG
  obtain ⟨W, hW, hX, hY, hB, hs1⟩ := two_cb w #[.int .i64 id, .int .i64 kind, .bool hid, .bool fix, .bool sgn, .bool wrp, .string val, .int .i64 nxt] #[.int .i64 yi, .int .i64 yk, .bool yh, .bool yf, .bool ys, .bool yw, .string yv, .int .i64 yn] 48 48
  have x1 := hX.cell 1 (v := .int .i64 kind) rfl
  have x2 := hX.cell 2 (v := .bool hid) rfl
  have x3 := hX.cell 3 (v := .bool fix) rfl
  have x4 := hX.cell 4 (v := .bool sgn) rfl
  have x5 := hX.cell 5 (v := .bool wrp) rfl
  have x6 := hX.cell 6 (v := .string val) rfl
  have x7 := hX.cell 7 (v := .int .i64 nxt) rfl
  have y1 := hY.cell 1 (v := .int .i64 yk) rfl
  have y2 := hY.cell 2 (v := .bool yh) rfl
  have y3 := hY.cell 3 (v := .bool yf) rfl
  have y4 := hY.cell 4 (v := .bool ys) rfl
  have y5 := hY.cell 5 (v := .bool yw) rfl
  have y6 := hY.cell 6 (v := .string yv) rfl
  have y7 := hY.cell 7 (v := .int .i64 yn) rfl
  clear hX hY
  replace hB := hide hB
  go_enter Tryz.func36, Tryz.ntmps36
  go_upto_region 1 with fail
  first | rw [hW] | skip
  clear hW
  go_wp2
  all_goals
    go_ret
    refine ⟨retB ?_, unhide hB⟩
    rw [Bool.eq_iff_iff, unhide HG]
    clear HG
    simp_all
    try omega
set_option maxRecDepth 20000 in
set_option maxHeartbeats 2000000 in
theorem l21Copy_any (b : Bk) (v : Value) (w : World) (hr : RdBk w v b) (hn9 : b.ths.length ≤ 2000000) :
    Calls Tryz.prog 23 #[v] w fun e w' => (∃ a c, e = .returned (bkv b (.slice a b.ths.length c)) ∧ OwnN thY w' w.heap.size 48 (.slice a b.ths.length c) b.ths) ∧ Below w.heap.size w w' := by
  obtain ⟨i0, hi, hz0, hz1, hz2⟩ := info_parts infoThing
  obtain ⟨wd, tr, ths, la, ch, ct⟩ := b
  obtain ⟨a, n, c, rfl, hn, hu⟩ := hr.open
  dsimp only at hn hu hn9 ⊢
  subst hn
  clear hr
  obtain ⟨W, hW, hX, hY, hB, hs1⟩ := two_cb w #[.string wd, .int .i64 tr, .slice a ths.length c, .int .i64 la, .string ch, .int .i64 ct] #[.string ⟨#[]⟩, .int .i64 0, .slice none 0 0, .int .i64 0, .string ⟨#[]⟩, .int .i64 0] 31 31
  have hu1 := hu.below hB
  go_enter Tryz.func23, Tryz.ntmps23
  go_upto_region 1 with fail
  first | rw [hW] | skip
  clear hW
  have hX2 := hX.alloc (.cells #[] 48)
  have x2 := hX2.cell 2 (v := .slice a ths.length c) rfl
  have ho0 : OwnN thY (W.alloc (.cells #[] 48)) (w.heap.size + 1 + 1) 48 (.slice (some ⟨W.heap.size, 0, none⟩) 0 0) [] := OwnN.lit0 W _ _ (by omega)
  have hub := hu1.alloc (.cells #[] 48)
  have hY2 := hide (hY.alloc (.cells #[] 48))
  have hB2 := hide (hB.alloc hB.size (.cells #[] 48))
  have hl2 : w.heap.size + 1 < (W.alloc (.cells #[] 48)).heap.size := by simp; omega
  go_upto_region 2 with (at_builtin; refine wpList_append_rd (L := thY) rfl (.tmp 3) (.tmp 5) 29 rfl (w.heap.size + 1 + 1) (w.heap.size + 1 + 1) 48 i0 (.agg (thC thZ)) 48 Tryz.underlying29 hi hz0 hz1 hz2 rfl _ [] rfl ho0 _ ths rfl hub ths.length (by simp) hn9 (by decide) (Nat.le_refl _) (by omega) (Below.refl _ _) ?_; intro a1 c1 w1 ho1 hb1 hg1; have hX3 := hX2.below hb1 (by omega); have q2 := hX3.cell 2 (v := .slice a ths.length c) rfl; have f2 := hX3.frozen 2)
  have hX4 := cb_eq (hX3.set 2 (.slice a1 ths.length c1)) (show (#[.string wd, .int .i64 tr, .slice a1 ths.length c1, .int .i64 la, .string ch, .int .i64 ct] : Array Value) = _ from rfl)
  have hY3 := ((unhide hY2).below hb1 (by omega)).set_other (h := w.heap.size) (k := 2) (by omega) (.slice a1 ths.length c1)
  have T3 := ((unhide hB2).trans (hb1.mono (by omega))).setCell (p := ⟨w.heap.size, 2, none⟩) (Nat.le_refl _) (.slice a1 ths.length c1)
  have ho3 := ho1.other (a := ⟨w.heap.size, 2, none⟩) (by show w.heap.size < _; omega) (.slice a1 ths.length c1)
  rw [List.nil_append] at ho3
  refine wp_gen (fun W5 => CB W5 w.heap.size 31 #[.string wd, .int .i64 tr, .slice a1 ths.length c1, .int .i64 la, .string ch, .int .i64 ct] ∧ CB W5 (w.heap.size + 1) 31 #[.string ⟨#[]⟩, .int .i64 0, .slice none 0 0, .int .i64 0, .string ⟨#[]⟩, .int .i64 0] ∧ Below w.heap.size w W5 ∧ OwnN thY W5 (w.heap.size + 1 + 1) 48 (.slice a1 ths.length c1) ths) ⟨hX4, hY3, T3, ho3⟩ ?_
  clear hX4 hY3 T3 ho3 hX3 q2 f2 hX2 hY2 hB2 ho0 hub ho1 hb1 hg1
  rintro W5 ⟨hZ7, hY7, T3, ho3⟩
  go_wp2_with (first
    | (refine wpList_load_row rfl 31 (.tmp 1) rfl w.heap.size rfl 31 #[.string wd, .int .i64 tr, .slice a1 ths.length c1, .int .i64 la, .string ch, .int .i64 ct] (0, 0) _ hZ7 Tryz.underlying31 rfl rfl ?_)
    | (refine wpList_store_row rfl 31 (.tmp 2) (.tmp 8) rfl (w.heap.size + 1) #[.string wd, .int .i64 tr, .slice a1 ths.length c1, .int .i64 la, .string ch, .int .i64 ct] rfl rfl 31 _ hY7 rfl rfl (bkc_one _ _ _ _ _ _ _ _) ?_))
  have hY8 := setRow_heap _ (w.heap.size + 1) _ #[.string wd, .int .i64 tr, .slice a1 ths.length c1, .int .i64 la, .string ch, .int .i64 ct] 31 (0, 0) hY7
  have T4 := Go.below_setRow T3 (show w.heap.size ≤ w.heap.size + 1 by omega) #[.string wd, .int .i64 tr, .slice a1 ths.length c1, .int .i64 la, .string ch, .int .i64 ct]
  have ho4 := ho3.setRow (g := w.heap.size + 1) (by omega) #[.string wd, .int .i64 tr, .slice a1 ths.length c1, .int .i64 la, .string ch, .int .i64 ct]
  exact bodyPost_ret (results_cb (by exact Tryz.results23) _ _ (w.heap.size + 1) 31 _ _ rfl hY8 Tryz.underlying31 rfl) rfl ⟨⟨_, _, rfl, ho4.low (by omega)⟩, T4⟩
end Go.Proofs.YtkbbcjnickgfjabGreat

/- Books by the given model: a thing put into its place, over the loaded program. -/
namespace Go.Proofs.YtkbbcjnickgfjabGreat
open Go.RowKit
theorem filt_yes {xs : List Th} {k : Nat} {f : Th} {p : Th → Bool} (h : xs[k]? = some f) (hp : p f = true) : (xs.take (k + 1)).filter p = (xs.take k).filter p ++ [f] := by
  rw [List.take_add_one, h, List.filter_append]
  simp [hp]
theorem filt_no {xs : List Th} {k : Nat} {f : Th} {p : Th → Bool} (h : xs[k]? = some f) (hp : p f = false) : (xs.take (k + 1)).filter p = (xs.take k).filter p := by
  rw [List.take_add_one, h, List.filter_append]
  simp [hp]
theorem filt_len (xs : List Th) (k : Nat) (p : Th → Bool) : ((xs.take k).filter p).length ≤ k := Nat.le_trans (List.length_filter_le _ _) (List.length_take_le _ _)
set_option maxRecDepth 20000 in
set_option maxHeartbeats 4000000 in
theorem l21Put_any (xs : List Th) (x : Th) (v : Value) (w : World) (hr : RdN thY w v xs) (hn9 : xs.length ≤ 1000000) :
    Calls Tryz.prog 37 #[v, .agg (thC x)] w fun e w' => (∃ u, e = .returned u ∧ OwnN thY w' w.heap.size 48 u (putT xs x)) ∧ Below w.heap.size w w' := by
  obtain ⟨i0, hi, hz0, hz1, hz2⟩ := info_parts infoThing
  obtain ⟨a, c, rfl, hc⟩ := hr.openT
  clear hr
  obtain ⟨n, hnn⟩ : ∃ n, xs.length = n := ⟨_, rfl⟩
  rw [hnn] at hn9 ⊢
  replace hnn := hide hnn
  obtain ⟨P1, hP1⟩ : ∃ P1 : Th → Bool, P1 = fun y => decide (y.id < x.id) := ⟨_, rfl⟩
  obtain ⟨P2, hP2⟩ : ∃ P2 : Th → Bool, P2 = fun y => decide (x.id < y.id) := ⟨_, rfl⟩
  have HP := hide (show putT xs x = xs.filter P1 ++ x :: xs.filter P2 by rw [hP1, hP2]; rfl)
  have Q1 := hide (show ∀ y, P1 y = decide (y.id < x.id) from fun y => by rw [hP1])
  have Q2 := hide (show ∀ y, P2 y = decide (x.id < y.id) from fun y => by rw [hP2])
  clear hP1 hP2
  obtain ⟨x0, hx0⟩ : ∃ y, y = x := ⟨_, rfl⟩
  rw [← hx0] at HP
  obtain ⟨xi, xk, xh, xf, xg, xw, xv, xn⟩ := x
  simp only [thC]
  replace hx0 := hide hx0
  obtain ⟨W, hW, hX, hB, hs1⟩ := one_cb w #[.int .i64 xi, .int .i64 xk, .bool xh, .bool xf, .bool xg, .bool xw, .string xv, .int .i64 xn] 48
  go_enter Tryz.func37, Tryz.ntmps37
  go_upto_region 1 with fail
  first | rw [hW] | skip
  clear hW
  go_upto_region 2 with fail
  refine wp_gen (fun W5 => OwnN thY W5 W.heap.size 48 (.slice (some ⟨W.heap.size, 0, none⟩) 0 0) [] ∧ Below W.heap.size W W5) ⟨OwnN.lit0 W _ _ (by omega), (Below.refl _ W).alloc (Nat.le_refl _) _⟩ ?_
  rintro W5 ⟨ho0, hb0⟩
  have hWs := hB.size
  go_wp2
  go_loopw [5, 6] (fun tl ti wr => ∃ k : Nat, k ≤ n ∧ ti = .int .i64 k ∧ OwnN thY wr W.heap.size 48 tl ((xs.take k).filter P1) ∧ Below W.heap.size W wr) (fun _ ti _ => n - (intOf ti).toNat)
  case atStart => exact ⟨0, Nat.zero_le _, rfl, ho0, hb0⟩
  case round =>
    obtain ⟨k, hk, rfl, ho, hb⟩ := hrel
    clear ho0 hb0
    have hss := hb.size
    have hXr := hX.step hb
    by_cases hlt : k < n
    · have hk' : k < xs.length := by rw [unhide hnn]; exact hlt
      obtain ⟨f, hf⟩ : ∃ f, xs[k]? = some f := ⟨xs[k], List.getElem?_eq_getElem hk'⟩
      obtain ⟨g, o, rfl, hg, hat⟩ := hc k f hf
      have hA := (hat.below hB hg).below hb (by omega)
      obtain ⟨d0, d1, d2, d3, d4, d5, d6, d7⟩ := AtN.th hA
      have e0 := hXr.cell 0 (v := .int .i64 xi) rfl
      have hlk : (k : Int) < (n : Int) := by omega
      have hi0 : (0 : Int) ≤ (k : Int) := by omega
      have q1 := unhide Q1 f
      have HY := hide (fun h => @filt_yes xs k f P1 hf h)
      have HZ := hide (fun h => @filt_no xs k f P1 hf h)
      have hfl : ((xs.take k).filter P1).length ≤ 2000000 := by have := filt_len xs k P1; omega
      replace hf := hide hf
      clear hc hat
      obtain ⟨f0, hf0⟩ : ∃ y, y = f := ⟨_, rfl⟩
      rw [← hf0] at HY HZ
      obtain ⟨id, kind, hid, fix, sgn, wrp, val, nxt⟩ := f
      dsimp only at d0 d1 d2 d3 d4 d5 d6 d7 q1
      replace hf0 := hide hf0
      cases hd : decide (id < xi) with
      | true =>
        rw [hd, ← unhide hf0] at q1
        have E := hide (unhide HY q1)
        clear q1 HY HZ
        have HO := hide ho
        clear ho
        go_wp2
        go_quiet (fail)
        have HO : Hid (OwnN thY (wr.drewN nq) _ _ _ _) := HO
        go_wp2_with (first | (at_builtin; refine wpList_append_n (L := thY) (w := wr.drewN nq) rfl (.tmp 23) (.tmp 28) 29 rfl W.heap.size W.heap.size 48 i0 (.agg (thC thZ)) 48 Tryz.underlying29 hi hz0 hz1 hz2 rfl _ _ (by rfl) (unhide HO) _ ⟨id, kind, hid, fix, sgn, wrp, val, nxt⟩ rfl _ rfl hfl (by decide) (by omega) (by show _ ≤ wr.heap.size; omega) (bDN hb nq) ?_; intro v' w2 ho2 hb2))
        go_roundw
        case rel => exact ⟨k + 1, by omega, by go_num, by rw [unhide E, unhide hf0]; exact ho2, hb2⟩
        case measure => simp [intOf]; omega
      | false =>
        rw [hd, ← unhide hf0] at q1
        have E := hide (unhide HZ q1)
        clear q1 HY HZ
        go_wp2
        go_quiet (fail)
        go_wp2
        go_roundw
        case rel => exact ⟨k + 1, by omega, by go_num, by rw [unhide E]; exact ho, bDN hb nq⟩
        case measure => simp [intOf]; omega
    · have e2 : xs.take k = xs := List.take_of_length_le (by have := unhide hnn; omega)
      rw [e2] at ho
      obtain ⟨x0', x1', x2', x3', x4', x5', x6', x7'⟩ : wr.cell? ⟨w.heap.size, 0, none⟩ = some (.int .i64 xi) ∧ wr.cell? ⟨w.heap.size, 1, none⟩ = some (.int .i64 xk) ∧ wr.cell? ⟨w.heap.size, 2, none⟩ = some (.bool xh) ∧ wr.cell? ⟨w.heap.size, 3, none⟩ = some (.bool xf) ∧ wr.cell? ⟨w.heap.size, 4, none⟩ = some (.bool xg) ∧ wr.cell? ⟨w.heap.size, 5, none⟩ = some (.bool xw) ∧ wr.cell? ⟨w.heap.size, 6, none⟩ = some (.string xv) ∧ wr.cell? ⟨w.heap.size, 7, none⟩ = some (.int .i64 xn) := ⟨hXr.cell 0 rfl, hXr.cell 1 rfl, hXr.cell 2 rfl, hXr.cell 3 rfl, hXr.cell 4 rfl, hXr.cell 5 rfl, hXr.cell 6 rfl, hXr.cell 7 rfl⟩
      have hfl : (xs.filter P1).length ≤ 2000000 := by have h1 := List.length_filter_le P1 xs; have := unhide hnn; omega
      have HO := hide ho
      clear ho e2 Q1
      go_wp2_with (first | (at_builtin; refine wpList_append_n (L := thY) (w := wr) rfl (.tmp 30) (.tmp 32) 29 rfl W.heap.size W.heap.size 48 i0 (.agg (thC thZ)) 48 Tryz.underlying29 hi hz0 hz1 hz2 rfl _ _ (by rfl) (unhide HO) _ ⟨xi, xk, xh, xf, xg, xw, xv, xn⟩ rfl _ rfl hfl (by decide) (by omega) (by omega) hb ?_; intro v' w2 ho2 hb2))
      rw [← unhide hx0] at ho2
      clear x0' x1' x2' x3' x4' x5' x6' x7' HO hb hss hXr hfl
      go_loopw [5, 7] (fun tl ti wr => ∃ k : Nat, k ≤ n ∧ ti = .int .i64 k ∧ OwnN thY wr W.heap.size 48 tl ((xs.filter P1 ++ [x0]) ++ (xs.take k).filter P2) ∧ Below W.heap.size W wr) (fun _ ti _ => n - (intOf ti).toNat)
      case atStart => exact ⟨0, Nat.zero_le _, rfl, by rw [List.take_zero]; simpa using ho2, hb2⟩
      case round =>
        obtain ⟨k, hk, rfl, ho, hb⟩ := hrel
        clear ho2 hb2
        have hss := hb.size
        have hXr := hX.step hb
        by_cases hlt : k < n
        · have hk' : k < xs.length := by rw [unhide hnn]; exact hlt
          obtain ⟨f, hf⟩ : ∃ f, xs[k]? = some f := ⟨xs[k], List.getElem?_eq_getElem hk'⟩
          obtain ⟨g, o, rfl, hg, hat⟩ := hc k f hf
          have hA := (hat.below hB hg).below hb (by omega)
          obtain ⟨d0, d1, d2, d3, d4, d5, d6, d7⟩ := AtN.th hA
          have e0 := hXr.cell 0 (v := .int .i64 xi) rfl
          have hlk : (k : Int) < (n : Int) := by omega
          have hi0 : (0 : Int) ≤ (k : Int) := by omega
          have q1 := unhide Q2 f
          have HY := hide (fun h => @filt_yes xs k f P2 hf h)
          have HZ := hide (fun h => @filt_no xs k f P2 hf h)
          have hfl : ((xs.filter P1 ++ [x0]) ++ (xs.take k).filter P2).length ≤ 2000000 := by have h1 := filt_len xs k P2; have h2 := List.length_filter_le P1 xs; have := unhide hnn; simp only [List.length_append, List.length_cons, List.length_nil]; omega
          replace hf := hide hf
          clear hc hat
          obtain ⟨f0, hf0⟩ : ∃ y, y = f := ⟨_, rfl⟩
          rw [← hf0] at HY HZ
          obtain ⟨id, kind, hid, fix, sgn, wrp, val, nxt⟩ := f
          dsimp only at d0 d1 d2 d3 d4 d5 d6 d7 q1
          replace hf0 := hide hf0
          cases hd : decide (xi < id) with
          | true =>
            rw [hd, ← unhide hf0] at q1
            have E := hide (unhide HY q1)
            clear q1 HY HZ
            have HO := hide ho
            clear ho
            go_wp2
            go_quiet (fail)
            have HO : Hid (OwnN thY (wr.drewN nq) _ _ _ _) := HO
            go_wp2_with (first | (at_builtin; refine wpList_append_n (L := thY) (w := wr.drewN nq) rfl (.tmp 48) (.tmp 53) 29 rfl W.heap.size W.heap.size 48 i0 (.agg (thC thZ)) 48 Tryz.underlying29 hi hz0 hz1 hz2 rfl _ _ (by rfl) (unhide HO) _ ⟨id, kind, hid, fix, sgn, wrp, val, nxt⟩ rfl _ rfl hfl (by decide) (by omega) (by show _ ≤ wr.heap.size; omega) (bDN hb nq) ?_; intro v' w2 ho2 hb2))
            go_roundw
            case rel => exact ⟨k + 1, by omega, by go_num, by rw [unhide E, unhide hf0]; rw [← List.append_assoc]; exact ho2, hb2⟩
            case measure => simp [intOf]; omega
          | false =>
            rw [hd, ← unhide hf0] at q1
            have E := hide (unhide HZ q1)
            clear q1 HY HZ
            go_wp2
            go_quiet (fail)
            go_wp2
            go_roundw
            case rel => exact ⟨k + 1, by omega, by go_num, by rw [unhide E]; exact ho, bDN hb nq⟩
            case measure => simp [intOf]; omega
        · have e2 : xs.take k = xs := List.take_of_length_le (by have := unhide hnn; omega)
          rw [e2] at ho
          have HO := hide ho
          clear ho e2
          go_wp2
          go_ret
          exact ⟨⟨_, rfl, by rw [← unhide hx0, unhide HP]; have h9 := (unhide HO).low (base' := w.heap.size) (by omega); rw [List.append_assoc] at h9; exact h9⟩, hB.trans (hb.mono (by omega))⟩
end Go.Proofs.YtkbbcjnickgfjabGreat

/- Laws of no program: an operation of a drawn region taken first, its slot named. -/
namespace Go.Proofs.YtkbbcjnickgfjabGreat
open Go.RowKit
theorem held_take {P : Program} {md : Region.Mode} {ops : Array Oper} {Q : Exit → Act → World → Prop} {S : World → Prop} {i : Nat} (d : Tmp) {oi : Oper} {v : Value} {fuel : Nat} {listed : Array Bool} {a : Act} {w : World} (hi : ops[i]? = some oi) (hd : oi.dst = some d)
    (hs : Region.noSelect ops = true) (hf : Region.free md ops listed i = true) (hr : (Region.ready md ops listed).contains i = true)
    (hQ : ∀ c a w, Q (.panic c) (a.put oi.dst v) w → Q (.panic c) a w) (hy : YieldsIf P ops S oi v a) (hS : S w)
    (h : wpAnyH P md ops Q S fuel (listed.setIfInBounds i true) (a.put (some d) v) w) : wpAnyH P md ops Q S (fuel + 1) listed a w :=
  wpAnyH_take hi hs hf hr hQ hy hS (by rw [hd]; exact h)
theorem exec_cmp : True := trivial
theorem exec_neq {P : Program} {w : World} {o : Oper} {a : Act} (t : TypeId) (x y : Operand) (ty : TypeId) (ho : o.op = .binOp .neq t x y ty) {vx vy v : Value} (hx : a.eval x = vx) (hy : a.eval y = vy)
    (hg : (eqGuard .neq t x y vx vy).run P w = .ok () w) (hr : (binOp .neq t vx vy).run P w = .ok v w) : (execOp a.eval o).run P w = .ok (.value v) w := by
  simp [execOp, ho, hx, hy, hg, hr, Result.andThen]
/-- Several cells stored into the midst of a variable. -/
theorem wpList_store_cb {P : Program} {ops : Array Oper} {rest : List Oper} {q : Oper} {a : Act} {w : World} {Q : Exit → Act → World → Prop} (hgd : q.guard = none) (ty : TypeId) (p z : Operand) (ho : q.op = .store ty p z)
    {g o : Nat} {T : TypeId} {cs : Array Value} (vs : List Value) (hx : a.eval p = .pointer (some ⟨g, o, none⟩)) (hy : a.eval z = .agg vs.toArray) (hA : CB w g T cs) (hm : o + vs.length ≤ cs.size) (h1 : ∀ v ∈ vs, v.oneCell' = true) (hi : (P.info? ty).map (·.size) = some vs.length)
    (h : ∀ w', CB w' g T (putC cs.toList vs o).toArray → w.grownBy w' (some g) → w'.heap.size = w.heap.size → wpList P ops Q rest (a.put q.dst undef) w') : wpList P ops Q (q :: rest) a w := by
  have hst := run_storeCells_at P g o T vs 0 cs w hA (by omega) h1
  rw [show o + 0 = o from rfl, show cs.toList.take o ++ vs ++ cs.toList.drop (o + vs.length) = putC cs.toList vs o from rfl] at hst
  have hG : w.grownBy (w.setRow g (putC cs.toList vs o).toArray) (some g) := by
    refine ⟨rfl, rfl, rfl, ?_, fun j hj hne => Go.setRow_other w g j _ (fun e => hne (by rw [e]))⟩
    have := Go.setRow_size w g (putC cs.toList vs o).toArray
    omega
  refine wpList_plain hgd fun _ hK => ?_
  unfold Oper.wp execOp
  cases hq : P.info? ty with
  | none => simp [hq] at hi
  | some i =>
    have hs : i.size = vs.length := by simpa [hq] using hi
    have hst' : (storeVar ty ⟨g, o, none⟩ (.agg vs.toArray)).run P w = .ok () (w.setRow g (putC cs.toList vs o).toArray) := by
      simp [storeVar, sizeOf, typeInfo, hq, Value.cells, hs, hst]
    simp only [ho, hx, hy, Instr.storeAt, Instr.sureAddr, Sem.run_bind, Sem.run_pure, Result.andThen_ok, hst']
    exact hK _ _ (h _ (setRow_heap w g _ _ T (0, 0) hA) hG (Go.setRow_size w g _))
end Go.Proofs.YtkbbcjnickgfjabGreat

