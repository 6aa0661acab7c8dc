/- Merged: Mrk, ShaQ, ByY, Files. -/
import Derived.Test.YtljjajbkaffofavMga1
import Derived.Test.YtljjajbkaffofavMga2
import Derived.Test.YtljjajbkaffofavMga3
import Derived.Lib.ConvBytes
import Derived.Test.YtljjajbkaffofavProg
import Derived.Test.YtljjajbkaffofavChecked
import Derived.Deep.RegionHeld3
import Derived.BigQuiet
import Derived.Lib.AppendStr
import Derived.Deep.QuietTactic
/- A row of bytes of the call's own that came of a text: the mark of a conversion lies behind its cells; bytes are appended to it, one by one, with room or without. -/
namespace Go.Proofs.Ytljjajbkaffofav
open Go.RowKit
def MB (w : World) (base : Nat) (e : TypeId) (v : Value) (l : List UInt8) : Prop :=
  ∃ (g cap : Nat) (cur : Array Value) (lo hi : Nat), v = .slice (some ⟨g, 0, none⟩) l.length cap ∧ base ≤ g ∧ w.heap[g]? = some (.cells cur e (lo, hi)) ∧ (∀ j, j < cur.size → ¬ (lo ≤ j ∧ j < hi)) ∧ l.length ≤ cap ∧ cur.size = cap ∧ cur.toList.take l.length = l.map bv
theorem MB.shape {w : World} {base : Nat} {e : TypeId} {v : Value} {l : List UInt8} (h : MB w base e v l) : ∃ g c, v = .slice (some ⟨g, 0, none⟩) l.length c ∧ base ≤ g ∧ g < w.heap.size ∧ l.length ≤ c := by
  obtain ⟨g, cap, cur, lo, hi, h1, h2, h3, _, h5, _⟩ := h
  refine ⟨g, cap, h1, h2, ?_, h5⟩
  rcases Nat.lt_or_ge g w.heap.size with h | h
  · exact h
  · rw [Array.getElem?_eq_none h] at h3; cases h3
theorem MB.keep {w w' : World} {base : Nat} {e : TypeId} {v : Value} {l : List UInt8} (h : MB w base e v l) (hb : ∀ g, v.ownBlock = some g → w'.heap[g]? = w.heap[g]?) : MB w' base e v l := by
  obtain ⟨g, cap, cur, lo, hi, rfl, h2, h3, r⟩ := h
  exact ⟨g, cap, cur, lo, hi, rfl, h2, by rw [hb g rfl]; exact h3, r⟩
theorem MB.below {w w' : World} {base : Nat} {e : TypeId} {v : Value} {l : List UInt8} (h : MB w base e v l) (hb : Below w.heap.size w w') : MB w' base e v l := by
  obtain ⟨g, c, rfl, _, hg, _⟩ := h.shape
  exact h.keep (fun k hk => by simp only [Value.ownBlock, Option.some.injEq] at hk; subst hk; exact hb.block g hg)
theorem MB.cell {w : World} {base g n c : Nat} {e : TypeId} {l : List UInt8} (h : MB w base e (.slice (some ⟨g, 0, none⟩) n c) l) {j : Nat} {b : UInt8} (hj : l[j]? = some b) : w.cell? ⟨g, j, none⟩ = some (bv b) := by
  obtain ⟨g', cap, cur, lo, hi, h1, h2, h3, h4, h5, h6, h7⟩ := h
  simp only [Value.slice.injEq, Option.some.injEq, Addr.mk.injEq] at h1
  obtain ⟨⟨rfl, _⟩, rfl, rfl⟩ := h1
  have hl : j < l.length := (List.getElem?_eq_some_iff.mp hj).1
  have e1 : (cur.toList.take l.length)[j]? = some (bv b) := by rw [h7, List.getElem?_map, hj]; rfl
  rw [List.getElem?_take_of_lt hl] at e1
  simp only [World.cell?, h3]
  simpa using e1
theorem bytes_mb (w : World) (e : TypeId) (s : ByteArray) : MB (Lib.bytesWorld w e s) w.heap.size e (.slice (some ⟨w.heap.size, 0, none⟩) s.size (grownCap w s.size 0 e)) s.data.toList := by
  have hge := grownCap_ge w s.size 0 e
  have hsz : (Lib.bytesCells w e s).size = grownCap w s.size 0 e := by
    simp only [Lib.bytesCells, Array.size_append, Array.size_map, Array.size_replicate]
    show s.size + _ = _
    omega
  refine ⟨w.heap.size, grownCap w s.size 0 e, Lib.bytesCells w e s, _, _, rfl, Nat.le_refl _, Lib.bytesWorld_at_new w e s, fun j hj => by omega, hge, hsz, ?_⟩
  simp only [Lib.bytesCells, Array.toList_append, Array.toList_map]
  rw [List.take_left' (by rw [List.length_map])]
  rfl
theorem bytes_below2 (w : World) (e : TypeId) (s : ByteArray) : Below w.heap.size w (Lib.bytesWorld w e s) :=
  ⟨rfl, rfl, rfl, by rw [Lib.bytesWorld_size]; omega, fun k hk => Lib.bytesWorld_at_old w e s k hk⟩
theorem heap_setCell_at (w : World) (g k : Nat) (cur : Array Value) (e : TypeId) (f : Nat × Nat) (u : Value) (h : w.heap[g]? = some (.cells cur e f)) : (w.setCell ⟨g, k, none⟩ u).heap[g]? = some (.cells (cur.setIfInBounds k u) e f) := by
  simp [World.setCell, Array.getElem?_modify, h]
theorem run_append_mark {P : Program} (w : World) (t ty e : TypeId) (i : TypeInfo) (z : Value) (ht : P.underlying t = some (.slice e)) (hi : P.info? e = some i) (hz : i.zero = some z) (hsize : i.size = 1) (hby : i.bytes = 1) (hzs : z.cells.size = 1)
    (base : Nat) (v : Value) (l : List UInt8) (h : MB w base e v l) (a : Addr) (c : Nat) (b : UInt8) (hx : w.cell? (a.add 0) = some (bv b)) (hlen : l.length + 1 ≤ 140737488355328) (hbase : base ≤ w.heap.size) :
    ∃ v' w', (Builtin.append_ #[t, t] ty #[v, .slice (some a) 1 c]).run P w = .ok v' w' ∧ MB w' base e v' (l ++ [b]) ∧ w.grownBy w' v.ownBlock := by
  have hnews : ∀ j u, [bv b][j]? = some u → w.cell? (a.add j) = some u := by
    intro j u hu
    cases j with
    | zero => simp only [List.getElem?_cons_zero, Option.some.injEq] at hu; subst hu; exact hx
    | succ j => simp at hu
  have hM := h
  obtain ⟨g, cap, cur, lo, hi', rfl, h2, h3, h4, h5, h6, h7⟩ := h
  by_cases hroom : l.length + 1 ≤ cap
  · have hin : l.length < cur.size := by omega
    have hcell : w.cell? ⟨g, l.length, none⟩ = some cur[l.length] := by simp [World.cell?, h3, hin]
    have hfro : w.frozen? ⟨g, l.length, none⟩ = false := by
      have := h4 l.length hin
      simp only [World.frozen?, h3]
      simp
      omega
    have hadd : (⟨g, l.length, none⟩ : Addr).add 0 = ⟨g, l.length, none⟩ := by unfold Addr.add; split <;> simp_all
    have hst : (storeCells ⟨g, l.length, none⟩ [bv b] 0).run P w = .ok () (w.setCell ⟨g, l.length, none⟩ (bv b)) := by
      have h0 : (store ((⟨g, l.length, none⟩ : Addr).add 0) (bv b)).run P w = .ok () (w.setCell ⟨g, l.length, none⟩ (bv b)) := by
        rw [hadd, run_store P w _ (bv b) _ rfl, hcell]
        simp [hfro]
      simp only [storeCells, Sem.run_bind, h0, Result.andThen_ok]
      rfl
    have hf := run_firstCells_some (P := P) w i.size 1 a 1 c [bv b] (by rw [hsize]; rfl) hnews
    have hr : (Builtin.append_ #[t, t] ty #[.slice (some ⟨g, 0, none⟩) l.length cap, .slice (some a) 1 c]).run P w = .ok (.slice (some ⟨g, 0, none⟩) (l.length + 1) cap) (w.setCell ⟨g, l.length, none⟩ (bv b)) := by
      rw [hsize] at hf
      simp [Builtin.append_, run_underlying ht, sizeOf, typeInfo, hi, Builtin.lenOf, hroom, hf, Addr.add_lit, hst, hsize]
    refine ⟨_, _, hr, ⟨g, cap, cur.setIfInBounds l.length (bv b), lo, hi', by rw [List.length_append]; rfl, h2, heap_setCell_at w g _ cur e _ _ h3, by rw [Array.size_setIfInBounds]; exact h4, by rw [List.length_append]; exact hroom, by rw [Array.size_setIfInBounds]; exact h6, ?_⟩, ⟨rfl, rfl, rfl, by simp, fun k _ hk => RowKit.Below.heap_setCell _ _ _ _ (fun e => hk (by simp [Value.ownBlock, e]))⟩⟩
    have hll : l.length < cur.toList.length := by simpa using hin
    rw [List.length_append, List.length_singleton, List.map_append, ← h7, Array.toList_setIfInBounds]
    apply List.ext_getElem?
    intro j
    simp only [List.getElem?_take, List.getElem?_set, List.getElem?_append, List.length_take]
    have hmin : min l.length cur.toList.length = l.length := by omega
    rw [hmin]
    by_cases hj : j < l.length
    · rw [if_pos (by omega), if_neg (by omega), if_pos hj, if_pos hj]
    · by_cases hj2 : j = l.length
      · subst hj2
        rw [if_pos (by omega), if_pos rfl, if_pos hll, if_neg (by omega), Nat.sub_self]
        rfl
      · rw [if_neg (by omega), if_neg (by omega), List.getElem?_eq_none (by simp; omega)]
  · have holds : ∀ j u, (l.map bv)[j]? = some u → w.cell? ((⟨g, 0, none⟩ : Addr).add j) = some u := by
      intro j u hu
      have hadd : (⟨g, 0, none⟩ : Addr).add j = ⟨g, j, none⟩ := by unfold Addr.add; split <;> simp_all
      rw [hadd]
      rw [List.getElem?_map] at hu
      cases hb : l[j]? with
      | none => rw [hb] at hu; cases hu
      | some b' => rw [hb] at hu; cases hu; exact hM.cell hb
    have hr := run_append_grow (P := P) w t ty e i z ht hi hz ⟨g, 0, none⟩ l.length cap (l.map bv) (by rw [hsize, Nat.mul_one, List.length_map]) holds a 1 c [bv b] (by rw [hsize]; rfl) hnews (by omega) (by omega) (growslice_fits (by omega) (by rw [hby, Nat.mul_one]; exact hlen))
    have hge := grownCap_ge w (l.length + 1) cap e
    refine ⟨_, _, hr, ⟨w.heap.size, grownCap w (l.length + 1) cap e, _, 0, 0, by rw [List.length_append]; rfl, hbase, heap_alloc_new w.drew _, fun j _ => by omega, by rw [List.length_append]; exact hge, ?_, ?_⟩, ⟨rfl, rfl, rfl, by simp, fun k hk _ => (((Below.refl w.heap.size w).drew).alloc (Nat.le_refl _) _).block k hk⟩⟩
    · simp only [Array.size_append, List.size_toArray, size_zeroCells, hzs, List.length_map, List.length_singleton]
      omega
    · simp only [Array.toList_append, List.length_append, List.length_singleton, List.map_append, List.map_cons, List.map_nil]
      rw [List.take_left' (by simp)]
theorem wpList_append_mark {P : Program} {w : World} {ops : Array Oper} {rest : List Oper} {o : Oper} {a : Act} {Q : Exit → Act → World → Prop} {e : TypeId} {x : Int} (hgd : o.guard = none) (s y : Operand) (t : TypeId)
    (ho : o.op = .call { callee := .builtin .append, args := #[s, y], argTypes := #[t, t] })
    (base B : Nat) (i : TypeInfo) (z : Value) (ht : P.underlying t = some (.slice e)) (hi : P.info? e = some i) (hz : i.zero = some z) (hsize : i.size = 1) (hby : i.bytes = 1) (hzs : z.cells.size = 1)
    (v : Value) (l : List UInt8) (hs : a.eval s = v) (hown : MB w base e v l) (b : UInt8) (hxb : x = (b.toNat : Int))
    (hx : a.eval y = .slice (some ⟨w.heap.size, 0, none⟩) 1 1)
    (hlen : l.length + 1 ≤ 140737488355328) (hB : B ≤ base) (hbase : base ≤ w.heap.size) {w00 : World} (hbel : Below B w00 w)
    (h : ∀ v' w', MB w' base e v' (l ++ [b]) → Below B w00 w' → wpList P ops Q rest (a.put o.dst v') w') :
    wpList P ops Q (o :: rest) a (w.alloc (.cells #[.int .u8 x] e)) := by
  subst hxb
  refine wpList_plain hgd fun K hK => ?_
  have hM : MB (w.alloc (.cells #[.int .u8 (b.toNat : Int)] e)) base e v l := hown.below ((Below.refl w.heap.size w).alloc (Nat.le_refl _) _)
  have hc : (w.alloc (.cells #[.int .u8 (b.toNat : Int)] e)).cell? ((⟨w.heap.size, 0, none⟩ : Addr).add 0) = some (bv b) := by
    have hadd : (⟨w.heap.size, 0, none⟩ : Addr).add 0 = ⟨w.heap.size, 0, none⟩ := by unfold Addr.add; split <;> simp_all
    rw [hadd, cell_of_row _ w.heap.size 0 #[.int .u8 (b.toNat : Int)] e (0, 0) (heap_alloc_new w _)]
    rfl
  obtain ⟨v', w', hr, h2, h3⟩ := run_append_mark (P := P) (w.alloc (.cells #[.int .u8 (b.toNat : Int)] e)) t o.type e i z ht hi hz hsize hby hzs base v l hM ⟨w.heap.size, 0, none⟩ 1 b hc hlen (by simp; omega)
  unfold Oper.wp execOp
  simp only [ho, resolve, invoke, builtin, Sem.run_bind, Sem.run_pure, Result.andThen_ok, List.map_toArray, List.map_cons, List.map_nil, hs, hx, hr]
  refine hK _ _ (h v' w' h2 ?_)
  refine (hbel.alloc (by omega) _).grown h3 (by simp; omega) ?_
  intro k hk
  obtain ⟨g, c, rfl, hg, _⟩ := hown.shape
  simp only [Value.ownBlock, Option.some.injEq] at hk
  omega
end Go.Proofs.Ytljjajbkaffofav

/- A text ends, by spec, over the loaded program. -/
namespace Go.Proofs.Ytljjajbkaffofav
open Go.RowKit
def bigL (x m : Nat) : List UInt8 := (List.range m).map fun j => byteOf (x / 256 ^ (7 - j) % 256)
theorem bigL_succ (x m : Nat) : bigL x (m + 1) = bigL x m ++ [byteOf (x / 256 ^ (7 - m) % 256)] := by
  unfold bigL; rw [List.range_succ, List.map_append]; rfl
theorem bigL_len (x m : Nat) : (bigL x m).length = m := by simp [bigL]
theorem bigL_all (x : Nat) : bigL x 8 = bytesW (x / 4294967296) ++ bytesW (x % 4294967296) := by
  show [byteOf (x / 72057594037927936 % 256), byteOf (x / 281474976710656 % 256), byteOf (x / 1099511627776 % 256), byteOf (x / 4294967296 % 256), byteOf (x / 16777216 % 256), byteOf (x / 65536 % 256), byteOf (x / 256 % 256), byteOf (x / 1 % 256)] = [byteOf (x / 4294967296 / 16777216 % 256), byteOf (x / 4294967296 / 65536 % 256), byteOf (x / 4294967296 / 256 % 256), byteOf (x / 4294967296 % 256), byteOf (x % 4294967296 / 16777216 % 256), byteOf (x % 4294967296 / 65536 % 256), byteOf (x % 4294967296 / 256 % 256), byteOf (x % 4294967296 % 256)]
  rw [show x / 72057594037927936 % 256 = x / 4294967296 / 16777216 % 256 by omega, show x / 281474976710656 % 256 = x / 4294967296 / 65536 % 256 by omega, show x / 1099511627776 % 256 = x / 4294967296 / 256 % 256 by omega, show x / 16777216 % 256 = x % 4294967296 / 16777216 % 256 by omega, show x / 65536 % 256 = x % 4294967296 / 65536 % 256 by omega, show x / 256 % 256 = x % 4294967296 / 256 % 256 by omega, show x / 1 % 256 = x % 4294967296 % 256 by omega]
theorem endL_big (n : Nat) : endL n = ([byteOf 128] ++ List.replicate (zerosB n) 0) ++ bigL (8 * n) 8 := by
  rw [bigL_all]; unfold endL; rw [List.append_assoc]
theorem slice_text (T : ByteArray) (g n c i j : Nat) {base : Nat} (w : World) (h : MB w base 5 (.slice (some ⟨g, 0, none⟩) n c) T.data.toList) (h1 : i ≤ j) (h2 : j ≤ T.size) : (convert 56 9 (.slice (some ⟨g, i, none⟩) (j - i) (c - i))).run Try.prog w = .ok (.string (T.extract i j)) w := by
  have hl : (T.extract i j).data.toList.length = j - i := by
    show (T.extract i j).size = _
    rw [ByteArray.size_extract]; omega
  have := run_convert_bytes_back (P := Try.prog) w 56 9 5 ⟨g, i, none⟩ (c - i) (T.extract i j).data.toList Try.underlying56 Try.underlying5 Try.underlying9 (fun k hk => by
    have hadd : (⟨g, i, none⟩ : Addr).add k = ⟨g, i + k, none⟩ := by unfold Addr.add; split <;> simp_all
    rw [hadd]
    have e1 : (T.extract i j).data.toList[k]? = T.data.toList[i + k]? := by
      rw [ByteArray.data_extract, Array.toList_extract]
      simp only [List.extract]
      rw [List.getElem?_take_of_lt (by rw [hl] at hk; exact hk), List.getElem?_drop]
    exact h.cell (by rw [← e1, List.getElem?_eq_getElem hk]))
  rw [hl] at this
  exact this
set_option maxRecDepth 20000 in
set_option maxHeartbeats 400000 in
theorem specEnd_yes (a : Hs) (w : World) (h1 : a.st.size ≤ maxLen) (h2 : a.rs.size ≤ 4000000) (hok : okH a = true) :
    Calls Try.prog 45 #[hsv a] w fun e w' => e = .returned (.string (endV (stOf a.st) a.rs a.ct.toNat)) ∧ Below w.heap.size w w' := by
  have CO := hide (fun W => specOk_any a W h1 (by unfold maxLen; omega))
  obtain ⟨i0, hi, hz0, hz1, hz2⟩ := info_parts Try.infoByte
  obtain ⟨q1, q2, q3, q4⟩ := okH_yes hok
  rw [hok] at CO
  obtain ⟨st, rs, ct⟩ := a
  dsimp only at *
  obtain ⟨m, rfl⟩ : ∃ m : Nat, ct = (m : Int) := ⟨ct.toNat, by omega⟩
  rw [show ((m : Int)).toNat = m from rfl]
  have C1 := hide (fun W => specWords_any st 8 q1 (by decide) W)
  have hm : m ≤ 1000000000 := by omega
  have hrm : m % 64 = rs.size := by omega
  unfold hsv at CO ⊢
  dsimp only at CO ⊢
  clear q1 q2 q3 q4 h1 h2 hok
  go_enter Try.func45, Try.ntmps45
  go_wp2_with fail
  obtain ⟨W, hW, hB, hb, hlt⟩ := one_hash w ⟨st, rs, (m : Int)⟩ 65
  dsimp only at hW
  rw [hW]
  clear hW
  refine ((unhide CO) W).mono ?_
  rintro e w1 ⟨rfl, hb1⟩
  have hB1 := hB.step hb1
  have k0 := hB1.c0
  have k1 := hB1.c1
  have k2 := hB1.c2
  dsimp only at k0 k1 k2
  have hl1 := hB1.lt
  have HT1 := hide (hb.trans (hb1.mono (Nat.le_of_lt hlt)))
  replace hB1 := hide hB1
  clear hB hb hb1
  have hconv := Lib.run_convert_string_bytes (P := Try.prog) w1 9 56 5 rs Try.underlying9 Try.underlying56 Try.underlying5
  have hmb := hide (bytes_mb w1 5 rs)
  have hb2 := bytes_below2 w1 5 rs
  have hsz2 : w1.heap.size ≤ (Lib.bytesWorld w1 5 rs).heap.size := hb2.size
  generalize grownCap w1 rs.size 0 5 = cp at *
  generalize Lib.bytesWorld w1 5 rs = w2 at *
  have hln : rs.data.toList.length + 1 ≤ 140737488355328 := by have : rs.data.toList.length = rs.size := rfl; omega
  go_wp2_with (at_builtin; refine wpList_append_mark (w := w2) rfl (.tmp 17) (.tmp 18) 56 rfl w1.heap.size w1.heap.size i0 (.int .u8 0) Try.underlying56 hi hz0 hz1 hz2 rfl _ rs.data.toList rfl (unhide hmb) (byteOf 128) (by decide) rfl hln (Nat.le_refl _) hsz2 hb2 ?_; intro v3 w3 hmb3 hb3)
  replace hmb3 := hide hmb3
  clear hmb hb2 hsz2 hconv hln k1
  have hzl : zerosB m ≤ 63 := by unfold zerosB; omega
  have hze : (rs.size + 1 + zerosB m) % 64 = 56 := by unfold zerosB; omega
  have hzn : ∀ z, z < zerosB m → (rs.size + 1 + z) % 64 ≠ 56 := by intro z hz; unfold zerosB at hz; omega
  have hr64 : rs.size < 64 := by omega
  replace hrm := hide hrm
  have hrl : rs.data.toList.length = rs.size := rfl
  obtain ⟨zz, hzz⟩ : ∃ z, z = zerosB m := ⟨_, rfl⟩
  rw [← hzz] at hzl hze hzn
  go_loopw [3] (fun tv wq => ∃ z : Nat, z ≤ zz ∧ Hid (MB wq w1.heap.size 5 tv ((rs.data.toList ++ [byteOf 128]) ++ List.replicate z 0)) ∧ Below w1.heap.size w1 wq) (fun tv _ => match tv with | .slice _ n _ => rs.size + 1 + zz - n | _ => 0)
  case atStart => exact ⟨0, by omega, by rw [List.replicate_zero, List.append_nil]; exact hmb3, hb3⟩
  case round =>
    clear hmb3 hb3
    obtain ⟨z, hz, HM, hb⟩ := hrel
    have hll : ((rs.data.toList ++ [byteOf 128]) ++ List.replicate z 0).length = rs.size + 1 + z := by simp only [List.length_append, List.length_replicate, List.length_singleton, hrl]
    obtain ⟨g, c, hsh, hg1, hg2, hgc⟩ := (unhide HM).shape
    rw [hll] at hsh
    obtain ⟨n, hn⟩ : ∃ n, n = rs.size + 1 + z := ⟨_, rfl⟩
    rw [← hn] at hsh hll
    subst hsh
    have hnb : n ≤ 200 := by omega
    have et : ((n : Int)).tmod 64 = ((n % 64 : Nat) : Int) := by rw [Int.tmod_eq_emod_of_nonneg (by omega)]; omega
    have et2 : ((n : Int)) % 64 = ((n % 64 : Nat) : Int) := by omega
    have hsz := hb.size
    by_cases hlt : z < zz
    · have hne : ¬ (((n % 64 : Nat) : Int) = 56) := by have := hzn z hlt; rw [← hn] at this; omega
      have hlen : (rs.data.toList ++ [byteOf 128] ++ List.replicate z 0).length + 1 ≤ 140737488355328 := by rw [hll]; omega
      replace hn := hide hn
      generalize n % 64 = r at *
      clear hze hzn hg1 hg2 hgc
      go_wp2_with (at_builtin; refine wpList_append_mark (w := wr) rfl (.tmp 24) (.tmp 25) 56 rfl w1.heap.size w1.heap.size i0 (.int .u8 0) Try.underlying56 hi hz0 hz1 hz2 rfl _ _ rfl (unhide HM) 0 (by decide) rfl hlen (Nat.le_refl _) hsz hb ?_; intro v4 w4 hmb4 hb4)
      rw [List.append_assoc, ← List.replicate_succ'] at hmb4
      obtain ⟨g4, c4, hsh4, _⟩ := hmb4.shape
      have hl5 : (rs.data.toList ++ [byteOf 128] ++ List.replicate (z + 1) (0 : UInt8)).length = rs.size + 1 + (z + 1) := by simp only [List.length_append, List.length_replicate, List.length_singleton, hrl]
      rw [hl5] at hsh4
      subst hsh4
      replace hmb4 := hide hmb4
      clear HM
      go_roundw
      case rel => exact ⟨z + 1, by omega, hmb4, hb4⟩
      case measure => have := unhide hn; simp; omega
    · obtain rfl : z = zz := by omega
      have h56 : n % 64 = 56 := by rw [hn]; exact hze
      rw [h56] at et et2
      have hz56 := hide hze
      clear hze hzn hg1 hg2 hgc h56
      have ek2 := hb.cell (p := ⟨w.heap.size, 2, none⟩) hl1
      rw [k2] at ek2
      obtain ⟨N8, hN8⟩ : ∃ x, x = 8 * m := ⟨_, rfl⟩
      have e8 : IntKind.i64.wrap (8 * (m : Int)) = (N8 : Int) := by rw [IntKind.wrap_i64]; omega
      have hNb : N8 ≤ 8000000000 := by omega
      have HE := hide (show rs.data.toList ++ [byteOf 128] ++ List.replicate z 0 ++ bigL N8 8 = rs.data.toList ++ endL m by rw [endL_big, hN8, hzz, List.append_assoc, List.append_assoc, List.append_assoc])
      have hpl : (rs.data.toList ++ [byteOf 128] ++ List.replicate z (0 : UInt8)).length ≤ 200 := by rw [hll]; exact hnb
      replace HM := hide (show MB wr w1.heap.size 5 (.slice (some ⟨g, 0, none⟩) n c) ((rs.data.toList ++ [byteOf 128] ++ List.replicate z 0) ++ bigL N8 0) by rw [show bigL N8 0 = [] from rfl, List.append_nil]; exact unhide HM)
      generalize rs.data.toList ++ [byteOf 128] ++ List.replicate z (0 : UInt8) = pre at *
      replace hn := hide hn
      replace hN8 := hide hN8
      replace hzz := hide hzz
      go_wp2
      go_loopw [3, 5] (fun tv ti wq => ∃ p : Nat, p ≤ 8 ∧ ti = .int .i64 ((7 : Int) - (p : Int)) ∧ Hid (MB wq w1.heap.size 5 tv (pre ++ bigL N8 p)) ∧ Below w1.heap.size w1 wq) (fun _ ti _ => (intOf ti + 1).toNat)
      case atStart => exact ⟨0, by omega, rfl, HM, hb⟩
      case round =>
        clear HM hb hsz
        obtain ⟨p, hp, rfl, HM, hb⟩ := hrel
        have hsz := hb.size
        by_cases hlt : p < 8
        · obtain ⟨j, hj⟩ : ∃ j, j + p = 7 := ⟨7 - p, by omega⟩
          rw [show (7 : Int) - (p : Int) = (j : Int) by omega]
          have hj0 : (0 : Int) ≤ (j : Int) := by omega
          have hjb : j ≤ 7 := by omega
          have hlen : (pre ++ bigL N8 p).length + 1 ≤ 140737488355328 := by rw [List.length_append, bigL_len]; omega
          have HS := hide (bigL_succ N8 p)
          rw [show 7 - p = j by omega] at HS
          replace hlen := hide hlen
          replace hj := hide hj
          obtain ⟨W7, hW7⟩ : ∃ W, W = wr := ⟨_, rfl⟩
          subst hW7
          go_wp2
          go_loopw [6, 7] (fun tx tk wq => wq = W7 ∧ ∃ q : Nat, q ≤ j ∧ tk = .int .i64 (q : Int) ∧ tx = .int .i64 ((N8 / 256 ^ q : Nat) : Int)) (fun _ tk _ => j - (intOf tk).toNat)
          case atStart => exact ⟨rfl, 0, by omega, rfl, by rw [Nat.pow_zero, Nat.div_one]⟩
          case round =>
            obtain ⟨rfl, q, hq, rfl, rfl⟩ := hrel
            by_cases hqj : q < j
            · have hq1 : (q : Int) < (j : Int) := by omega
              have ep := hide (show N8 / 256 ^ (q + 1) = N8 / 256 ^ q / 256 by rw [Nat.pow_succ, Nat.div_div_eq_div_mul])
              have hyb : N8 / 256 ^ q ≤ 8000000000 := Nat.le_trans (Nat.div_le_self _ _) hNb
              generalize N8 / 256 ^ q = y at *
              have ed : ((y : Int)).tdiv 256 = ((y / 256 : Nat) : Int) := by rw [Int.tdiv_eq_ediv_of_nonneg (by omega)]; omega
              have ed2 : ((y : Int)) / 256 = ((y / 256 : Nat) : Int) := by omega
              generalize y / 256 = y2 at *
              have ew : IntKind.i64.wrap (y2 : Int) = (y2 : Int) := by rw [IntKind.wrap_i64]; omega
              go_wp2
              go_roundw
              case rel => exact ⟨by first | rfl | trivial, q + 1, by omega, by go_num, by rw [unhide ep]⟩
              case measure => simp [intOf]; omega
            · obtain rfl : q = j := by omega
              have hq1 : ¬ (q : Int) < (q : Int) := by omega
              have hyb : N8 / 256 ^ q ≤ 8000000000 := Nat.le_trans (Nat.div_le_self _ _) hNb
              generalize N8 / 256 ^ q = y at *
              have ed : ((y : Int)).tmod 256 = ((y % 256 : Nat) : Int) := by rw [Int.tmod_eq_emod_of_nonneg (by omega)]; omega
              have ed2 : ((y : Int)) % 256 = ((y % 256 : Nat) : Int) := by omega
              have ey : y % 256 < 256 := by omega
              generalize y % 256 = y2 at *
              have ew : IntKind.i64.wrap (y2 : Int) = (y2 : Int) := by rw [IntKind.wrap_i64]; omega
              have ew2 : IntKind.u8.wrap (y2 : Int) = (y2 : Int) := by rw [IntKind.wrap_u8]; omega
              have eb : (y2 : Int) = ((byteOf y2).toNat : Int) := by rw [byteOf_toNat ey]
              replace eb := hide eb
              go_wp2_with (at_builtin; refine wpList_append_mark (w := wr) rfl (.tmp 42) (.tmp 46) 56 rfl w1.heap.size w1.heap.size i0 (.int .u8 0) Try.underlying56 hi hz0 hz1 hz2 rfl _ _ rfl (unhide HM) (byteOf y2) (unhide eb) rfl (unhide hlen) (Nat.le_refl _) hsz hb ?_; intro v4 w4 hmb4 hb4)
              rw [List.append_assoc, ← unhide HS] at hmb4
              replace hmb4 := hide hmb4
              clear HM ed ed2 ew ew2
              go_roundw
              case rel => exact ⟨p + 1, by omega, by have := unhide hj; go_num, hmb4, hb4⟩
              case measure => have := unhide hj; simp [intOf] <;> omega
        · obtain rfl : p = 8 := by omega
          have h70 : ¬ (0 : Int) ≤ 7 - ((8 : Nat) : Int) := by omega
          rw [unhide HE] at HM
          obtain ⟨T, hT⟩ : ∃ T, T = endT rs m := ⟨_, rfl⟩
          have hTl : T.data.toList = rs.data.toList ++ endL m := by rw [hT]; unfold endT; rw [ByteArray.data_append, Array.toList_append]
          rw [← hTl] at HM
          obtain ⟨gt, ct, hsh, _, hgt, hct⟩ := (unhide HM).shape
          rw [show T.data.toList.length = T.size from rfl] at hsh hct
          subst hsh
          have hTs : T.size = n + 8 := by
            have e1 : T.data.toList.length = pre.length + 8 := by rw [hTl, ← unhide HE, List.length_append, bigL_len]
            rw [hll] at e1
            exact e1
          have hT64 : T.size % 64 = 0 := by
            have e1 := unhide hn
            have e2 := unhide hz56
            omega
          have hTb : T.size ≤ 1000 := by omega
          replace hTs := hide hTs
          have ek0 := hb.cell (p := ⟨w.heap.size, 0, none⟩) hl1
          rw [k0] at ek0
          replace hT := hide hT
          clear hTl HE hll
          go_wp2_with fail
          refine ((unhide C1) wr).mono ?_
          rintro e w4 ⟨⟨a8, c8, rfl, hown4⟩, hb4⟩
          obtain ⟨g8, rfl, hg81, hg82⟩ := hown4.some_at (by omega)
          replace hown4 := hide hown4
          have hs4 := hb4.size
          go_wp2_with fail
          refine (specK_any w4).mono ?_
          rintro e w5 ⟨⟨a9, c9, rfl, hown5⟩, hb5⟩
          obtain ⟨g9, rfl, hg91, hg92⟩ := hown5.some_at (by omega)
          have HK := hide (hown5.low (base' := w1.heap.size) (by omega))
          have HS5 := hide (((unhide hown4).low (base' := w1.heap.size) (by omega)).below hb5)
          have HM5 := hide (((unhide HM).below hb4).below hb5)
          have hb6 := (hb.trans (hb4.mono hsz)).trans (hb5.mono (by omega))
          have hs5 := hb6.size
          clear hown5 hown4 HM hb hb4 hb5 ek0
          go_wp2_with fail
          go_loopw [8, 10] (fun tv ti wq => ∃ q : Nat, 64 * q ≤ T.size ∧ ti = .int .i64 ((64 * q : Nat) : Int) ∧ (∃ g c, tv = .slice (some ⟨g, 0, none⟩) 8 c ∧ Hid (OwnV wq w1.heap.size 75 (.slice (some ⟨g, 0, none⟩) 8 c) ((blocksW (stOf st) T 0 q).toL.map u32v))) ∧ Below w5.heap.size w5 wq) (fun _ ti _ => T.size - (intOf ti).toNat)
          case atStart => exact ⟨0, by omega, rfl, ⟨g8, c8, rfl, HS5⟩, Below.refl _ _⟩
          case round =>
            clear HS5
            obtain ⟨q, hq, rfl, ⟨g', c', rfl, HS⟩, hb⟩ := hrel
            obtain ⟨i, hi6⟩ : ∃ i, i = 64 * q := ⟨_, rfl⟩
            rw [← hi6] at hq ⊢
            have hib : i ≤ 1000 := by omega
            obtain ⟨j, hj⟩ : ∃ j, j = i + 64 := ⟨_, rfl⟩
            have ei : IntKind.i64.wrap ((i : Int) + 64) = (j : Int) := by rw [IntKind.wrap_i64]; omega
            have hsz6 := hb.size
            by_cases hlt : i < T.size
            · have hlt' : (i : Int) < (T.size : Int) := by omega
              have hjT : j ≤ T.size := by omega
              have hjc : (j : Int) ≤ (ct : Int) := by omega
              have hij : (i : Int) ≤ (j : Int) := by omega
              have hxs : (T.extract i j).size = 64 := by rw [ByteArray.size_extract]; omega
              have HSt := hide (show blocksW (stOf st) T 0 (q + 1) = roundW (blocksW (stOf st) T 0 q) (T.extract i j) by rw [hj, hi6]; simp only [blocksW, Nat.zero_add])
              have hOk := blocksW_ok (stOf_ok st) T 0 q
              have hKq := hide ((unhide HK).below hb)
              have hcv := slice_text T gt T.size ct i j wr ((unhide HM5).below hb) (by omega) hjT
              rw [show j - i = 64 by omega] at hcv
              generalize T.extract i j = blk at *
              have C5 := hide (specRound_any (blocksW (stOf st) T 0 q) hOk blk hxs g' c' g9 c9 w1.heap.size wr (unhide HS) (unhide hKq))
              replace hi6 := hide hi6
              clear hOk HS hKq hxs hq
              go_wp2_with fail
              refine (unhide C5).mono ?_
              rintro e w7 ⟨⟨g4, c4, rfl, hown7⟩, hb7⟩
              have hown8 := hide (hown7.low (base' := w1.heap.size) (by omega))
              rw [← unhide HSt] at hown8
              have hb8 := hb.trans (hb7.mono hsz6)
              clear hown7 hb7 C5 hcv
              go_wp2
              go_roundw
              case rel => exact ⟨q + 1, by have := unhide hi6; omega, by have := unhide hi6; go_num, ⟨_, _, rfl, hown8⟩, hb8⟩
              case measure => have := unhide hi6; simp [intOf]; omega
            · have hlt' : ¬ (i : Int) < (T.size : Int) := by omega
              have hqe : q = T.size / 64 := by omega
              have HF : Hid (endV (stOf st) rs m = (blocksW (stOf st) T 0 q).text) := hide (by unfold endV; rw [← unhide hT, hqe])
              have hOk := blocksW_ok (stOf_ok st) T 0 q
              have C6 := hide (specBytes_any (blocksW (stOf st) T 0 q).toL (toL_small hOk) (by show 8 ≤ 1000; omega) _ w1.heap.size wr (unhide HS))
              have hbf := (unhide HT1).trans ((hb6.trans (hb.mono hs5)).mono (Nat.le_of_lt hl1))
              replace hi6 := hide hi6
              replace hqe := hide hqe
              clear hb HS hOk
              go_wp2_with fail
              refine (unhide C6).mono ?_
              rintro e w7 ⟨rfl, hb7⟩
              have hbg := hbf.trans (hb7.mono hbf.size)
              clear hb7 hbf
              go_wp2
              go_ret
              exact ⟨by rw [unhide HF]; rfl, hbg⟩
set_option maxRecDepth 20000 in
set_option maxHeartbeats 400000 in
theorem specEnd_any (a : Hs) (w : World) (h1 : a.st.size ≤ maxLen) (h2 : a.rs.size ≤ 4000000) :
    Calls Try.prog 45 #[hsv a] w fun e w' => e = .returned (.string (if okH a = true then endV (stOf a.st) a.rs a.ct.toNat else ⟨#[]⟩)) ∧ Below w.heap.size w w' := by
  by_cases hok : okH a = true
  · rw [if_pos hok]
    exact specEnd_yes a w h1 h2 hok
  · have CO := hide (fun W => specOk_any a W h1 (by unfold maxLen; omega))
    have hok' : okH a = false := by cases h : okH a with | true => exact absurd h hok | false => rfl
    rw [hok'] at CO
    rw [if_neg hok]
    obtain ⟨st, rs, ct⟩ := a
    unfold hsv at CO ⊢
    dsimp only at CO ⊢
    clear h1 h2 hok hok'
    go_enter Try.func45, Try.ntmps45
    go_wp2_with fail
    obtain ⟨W, hW, hB, hb, hlt⟩ := one_hash w ⟨st, rs, ct⟩ 65
    dsimp only at hW
    rw [hW]
    clear hW
    refine ((unhide CO) W).mono ?_
    rintro e w1 ⟨rfl, hb1⟩
    have HT1 := hide (hb.trans (hb1.mono (Nat.le_of_lt hlt)))
    clear hB hb hb1
    go_wp2
    go_ret
    exact ⟨rfl, unhide HT1⟩
theorem word_back (x : Nat) (h : x < 4294967296) : wordN (byteOf (x / 16777216 % 256)).toNat (byteOf (x / 65536 % 256)).toNat (byteOf (x / 256 % 256)).toNat (byteOf (x % 256)).toNat = x := by
  rw [byteOf_toNat (by omega), byteOf_toNat (by omega), byteOf_toNat (by omega), byteOf_toNat (by omega)]
  unfold wordN
  omega
theorem stOf_text {v : V8} (h : v.ok) : stOf v.text = v := by
  obtain ⟨a, b, c, d, e, f, g, k⟩ := v
  obtain ⟨h1, h2, h3, h4, h5, h6, h7, h8⟩ := h
  dsimp only at h1 h2 h3 h4 h5 h6 h7 h8
  have e1 := word_back a h1
  have e2 := word_back b h2
  have e3 := word_back c h3
  have e4 := word_back d h4
  have e5 := word_back e h5
  have e6 := word_back f h6
  have e7 := word_back g h7
  have e8 := word_back k h8
  have t : stOf (V8.mk a b c d e f g k).text = ⟨wordN (byteOf (a / 16777216 % 256)).toNat (byteOf (a / 65536 % 256)).toNat (byteOf (a / 256 % 256)).toNat (byteOf (a % 256)).toNat, wordN (byteOf (b / 16777216 % 256)).toNat (byteOf (b / 65536 % 256)).toNat (byteOf (b / 256 % 256)).toNat (byteOf (b % 256)).toNat, wordN (byteOf (c / 16777216 % 256)).toNat (byteOf (c / 65536 % 256)).toNat (byteOf (c / 256 % 256)).toNat (byteOf (c % 256)).toNat, wordN (byteOf (d / 16777216 % 256)).toNat (byteOf (d / 65536 % 256)).toNat (byteOf (d / 256 % 256)).toNat (byteOf (d % 256)).toNat, wordN (byteOf (e / 16777216 % 256)).toNat (byteOf (e / 65536 % 256)).toNat (byteOf (e / 256 % 256)).toNat (byteOf (e % 256)).toNat, wordN (byteOf (f / 16777216 % 256)).toNat (byteOf (f / 65536 % 256)).toNat (byteOf (f / 256 % 256)).toNat (byteOf (f % 256)).toNat, wordN (byteOf (g / 16777216 % 256)).toNat (byteOf (g / 65536 % 256)).toNat (byteOf (g / 256 % 256)).toNat (byteOf (g % 256)).toNat, wordN (byteOf (k / 16777216 % 256)).toNat (byteOf (k / 65536 % 256)).toNat (byteOf (k / 256 % 256)).toNat (byteOf (k % 256)).toNat⟩ := rfl
  rw [t, e1, e2, e3, e4, e5, e6, e7, e8]
def hNew : Hs := ⟨first8.text, ⟨#[]⟩, 0⟩
def digB (s : ByteArray) : ByteArray := endV (blocksW first8 s 0 (s.size / 64)) (s.extract (64 * (s.size / 64)) s.size) s.size
theorem hNew_ok : okH hNew = true := by
  unfold okH hNew
  rw [V8.text_size]
  decide
theorem moreT_new (s : ByteArray) : moreT hNew s = s := by
  unfold moreT hNew
  apply ByteArray.ext
  rw [ByteArray.data_append]
  show #[] ++ s.data = s.data
  simp
theorem moreH_new (s : ByteArray) : moreH hNew s = ⟨(blocksW first8 s 0 (s.size / 64)).text, s.extract (64 * (s.size / 64)) s.size, (s.size : Int)⟩ := by
  unfold moreH
  rw [moreT_new, show stOf hNew.st = first8 from stOf_text first8_ok, show hNew.ct = 0 from rfl, Int.zero_add]
theorem okH_more {a : Hs} {s : ByteArray} (h : okH a = true) (hc : a.ct + (s.size : Int) ≤ 1000000000) : okH (moreH a s) = true := by
  obtain ⟨q1, q2, q3, q4⟩ := okH_yes h
  unfold okH moreH
  dsimp only
  have hz : ((moreT a s).extract (64 * ((moreT a s).size / 64)) (moreT a s).size).size = (moreT a s).size % 64 := by rw [ByteArray.size_extract]; omega
  have hs : (moreT a s).size = a.rs.size + s.size := by unfold moreT; rw [ByteArray.size_append]
  rw [V8.text_size, hz, hs, decide_eq_true (by omega), decide_eq_true (by omega), decide_eq_true (by omega), decide_eq_true (by omega)]
  rfl
theorem digB_end (s : ByteArray) : endV (stOf (moreH hNew s).st) (moreH hNew s).rs (moreH hNew s).ct.toNat = digB s := by
  rw [moreH_new]
  dsimp only
  rw [stOf_text (blocksW_ok first8_ok s 0 _)]
  rfl
set_option maxRecDepth 20000 in
set_option maxHeartbeats 400000 in
theorem specDigest_any (s : ByteArray) (hs : s.size ≤ 4000000) (w : World) :
    Calls Try.prog 43 #[.string s] w fun e w' => e = .returned (.string (digB s)) ∧ Below w.heap.size w w' := by
  have hc : hNew.ct + (s.size : Int) ≤ 1000000000 := by show (0 : Int) + _ ≤ _; omega
  have C2 := hide (fun W => specMore_yes hNew s W (by rw [show hNew.st.size = 32 from V8.text_size _]; decide) (by decide) hs hNew_ok hc)
  have hz : (moreH hNew s).rs.size ≤ 4000000 := by rw [moreH_new]; dsimp only; rw [ByteArray.size_extract]; omega
  have C3 := hide (fun W => specEnd_yes (moreH hNew s) W (by rw [moreH_new]; dsimp only; rw [V8.text_size]; decide) hz (okH_more hNew_ok hc))
  rw [digB_end] at C3
  clear hc hz
  go_enter Try.func43, Try.ntmps43
  go_wp2_with fail
  refine (specNew_any w).mono ?_
  rintro e w1 ⟨rfl, hb1⟩
  go_wp2_with fail
  refine ((unhide C2) w1).mono ?_
  rintro e w2 ⟨rfl, hb2⟩
  have hb12 := hb1.trans (hb2.mono hb1.size)
  clear hb1 hb2
  go_wp2_with fail
  refine ((unhide C3) w2).mono ?_
  rintro e w3 ⟨rfl, hb3⟩
  have hb13 := hb12.trans (hb3.mono hb12.size)
  clear hb12 hb3
  go_wp2
  go_ret
  exact ⟨rfl, hb13⟩
end Go.Proofs.Ytljjajbkaffofav

/- One byte of a number, by the given model, over the loaded program. -/
namespace Go.Proofs.Ytljjajbkaffofav
open Go.RowKit
def b256 (z : Int) : Nat := (z % 256).toNat
theorem b256_lt (z : Int) : b256 z < 256 := by unfold b256; omega
def oneY (z : Int) : ByteArray := ⟨#[UInt8.ofNat (b256 z)]⟩
theorem conv_oneY (w : World) (x : Nat) (hx : x < 256) : (convert 56 9 (.slice (some ⟨w.heap.size, 0, none⟩) 1 1)).run Try.prog (w.alloc (.cells #[.int .u8 (x : Int)] 5)) = .ok (.string ⟨#[UInt8.ofNat x]⟩) (w.alloc (.cells #[.int .u8 (x : Int)] 5)) := by
  refine run_convert_bytes_back (P := Try.prog) _ 56 9 5 ⟨w.heap.size, 0, none⟩ 1 [UInt8.ofNat x] Try.underlying56 Try.underlying5 Try.underlying9 (fun j hj => ?_)
  have hj0 : j = 0 := by simpa using hj
  subst hj0
  have hadd : (⟨w.heap.size, 0, none⟩ : Addr).add 0 = ⟨w.heap.size, 0, none⟩ := by unfold Addr.add; split <;> simp_all
  rw [hadd, cell_of_row _ w.heap.size 0 _ _ (0, 0) (heap_alloc_new w _)]
  have hb : (UInt8.ofNat x).toNat = x := byteOf_toNat hx
  simp [hb]
set_option maxRecDepth 20000 in
set_option maxHeartbeats 400000 in
theorem specByteY_any (z : Int) (w : World) :
    Calls Try.prog 37 #[.int .i64 z] w fun e w' => e = .returned (.string (oneY z)) ∧ Below w.heap.size w w' := by
  have hx := b256_lt z
  have E := hide (show oneY z = ⟨#[UInt8.ofNat (b256 z)]⟩ from rfl)
  rw [unhide E]
  have hm : (z.tmod 256 = (b256 z : Int)) ∨ (z.tmod 256 < 0 ∧ z.tmod 256 + 256 = (b256 z : Int)) := by
    have e := @Int.tmod_eq_emod z 256
    unfold b256
    split at e
    · left; rw [e]; omega
    · rename_i hn
      right
      have h0 : ¬ 256 ∣ z := fun hd => hn (.inr hd)
      have e2 : z.tmod 256 = z % 256 - 256 := e
      rw [e2]
      omega
  generalize b256 z = x at *
  have ew : IntKind.u8.wrap (x : Int) = (x : Int) := by rw [IntKind.wrap_u8]; omega
  have ew8 : (x : Int) % 256 = (x : Int) := by omega
  have ew2 : IntKind.i64.wrap (x : Int) = (x : Int) := by rw [IntKind.wrap_i64]; omega
  have hcv := conv_oneY w x hx
  have hb : Below w.heap.size w (w.alloc (.cells #[.int .u8 (x : Int)] 5)) := (Below.refl w.heap.size w).alloc (Nat.le_refl _) _
  rcases hm with h | ⟨h1, h2⟩
  · have e3 : ¬ (x : Int) < 0 := by omega
    go_enter Try.func37, Try.ntmps37
    go_wp2
    go_ret
    exact ⟨rfl, hb⟩
  · obtain ⟨t, ht⟩ : ∃ t, t = z.tmod 256 := ⟨_, rfl⟩
    rw [← ht] at h1 h2
    have ht' := ht.symm
    have ew3 : IntKind.i64.wrap t = t := by rw [IntKind.wrap_i64]; omega
    have ew4 : IntKind.i64.wrap (t + 256) = (x : Int) := by rw [h2]; exact ew2
    clear ht
    replace h2 := hide h2
    go_enter Try.func37, Try.ntmps37
    go_wp2
    go_ret
    exact ⟨rfl, hb⟩
end Go.Proofs.Ytljjajbkaffofav

/- Laws of no program: a file as three cells, a row of files that can be read, a row of files of the call's own. -/
namespace Go.Proofs.Ytljjajbkaffofav
open Go.RowKit

theorem bcell {W w1 : World} (hb : Below W.heap.size W w1) : (∀ b o, b < W.heap.size → w1.cell? ⟨b, o, none⟩ = W.cell? ⟨b, o, none⟩) ∧ (∀ b o, b < W.heap.size → w1.frozen? ⟨b, o, none⟩ = W.frozen? ⟨b, o, none⟩) :=
  ⟨fun b o h => hb.cell (p := ⟨b, o, none⟩) h, fun b o h => hb.frozen (p := ⟨b, o, none⟩) h⟩

theorem bDN {B : Nat} {w w' : World} (h : Below B w w') (n : Nat) : Below B w (w'.drewN n) := ⟨h.os, h.tape, h.output, h.size, h.block⟩
theorem bAD (w : World) (o : Obj) (n : Nat) : Below w.heap.size w ((w.alloc o).drewN n) := bDN ((Below.refl _ w).alloc (Nat.le_refl _) _) n
theorem bADT {w w1 : World} {o : Obj} {n : Nat} (h : Below ((w.alloc o).drewN n).heap.size ((w.alloc o).drewN n) w1) : Below w.heap.size w w1 := (bAD w o n).trans (h.mono (by show _ ≤ (w.alloc o).heap.size; simp))
theorem retB {a b : Bool} (h : b = a) : Ending.returned (.bool a) = .returned (.bool b) := by rw [h]

structure Fl where
  nm : ByteArray
  tx : ByteArray
  kp : Int

def flc (f : Fl) : List Value := [.string f.nm, .string f.tx, .int .i64 f.kp]
abbrev flv (f : Fl) : Value := .agg #[.string f.nm, .string f.tx, .int .i64 f.kp]

theorem gB {w w' : World} (hb : Below w.heap.size w w') (r : Option Nat) : w.grownBy w' r := ⟨hb.os, hb.tape, hb.output, hb.size, fun k hk _ => hb.block k hk⟩
theorem gS (w : World) (g o : Nat) (u : Value) : w.grownBy (w.setCell ⟨g, o, none⟩ u) (some g) := ⟨rfl, rfl, rfl, by simp, fun k _ hk => RowKit.Below.heap_setCell _ _ _ _ (fun e => hk (by rw [e]))⟩
theorem gT {a b c : World} {r : Option Nat} (h : a.grownBy b r) (k : b.grownBy c r) : a.grownBy c r :=
  ⟨k.os.trans h.os, k.tape.trans h.tape, k.output.trans h.output, Nat.le_trans h.size k.size, fun i hi hr => (k.block i (Nat.lt_of_lt_of_le hi h.size) hr).trans (h.block i hi hr)⟩
theorem gR (w : World) (r : Option Nat) : w.grownBy w r := ⟨rfl, rfl, rfl, Nat.le_refl _, fun _ _ _ => rfl⟩
theorem gBelow {w w' : World} {r : Option Nat} (h : w.grownBy w' r) {B : Nat} (hB : B ≤ w.heap.size) (hr : ∀ k, r = some k → B ≤ k) : Below B w w' := (Below.refl B w).grown h hB hr

/-- The three cells of a file stand at p. -/
def FlAt (w : World) (g o : Nat) (f : Fl) : Prop :=
  w.cell? ⟨g, o, none⟩ = some (.string f.nm) ∧ w.cell? ⟨g, o + 1, none⟩ = some (.string f.tx) ∧ w.cell? ⟨g, o + 2, none⟩ = some (.int .i64 f.kp)

/-- The slice value v is a row in which the files fs can be read. -/
def RdF (w : World) (v : Value) (fs : List Fl) : Prop :=
  (∃ a c, v = .slice a 0 c ∧ fs = []) ∨ ∃ g o c, v = .slice (some ⟨g, o, none⟩) fs.length c ∧ 0 < fs.length ∧ g < w.heap.size ∧ ∀ j f, fs[j]? = some f → FlAt w g (o + j * 3) f

theorem FlAt.below {w w' : World} {g o : Nat} {f : Fl} (h : FlAt w g o f) {B : Nat} (hb : Below B w w') (hg : g < B) : FlAt w' g o f :=
  ⟨(hb.cell (p := ⟨g, o, none⟩) hg).trans h.1, (hb.cell (p := ⟨g, o + 1, none⟩) hg).trans h.2.1, (hb.cell (p := ⟨g, o + 2, none⟩) hg).trans h.2.2⟩

theorem RdF.below_at {w w' : World} {v : Value} {fs : List Fl} (h : RdF w v fs) {B : Nat} (hb : Below B w w') (hB : ∀ g, v.ownBlock = some g → g < B) : RdF w' v fs := by
  rcases h with h | ⟨g, o, c, rfl, hn, hg, hc⟩
  · exact .inl h
  · exact .inr ⟨g, o, c, rfl, hn, Nat.lt_of_lt_of_le hg hb.size, fun j f hj => (hc j f hj).below hb (hB g rfl)⟩
theorem RdF.below {w w' : World} {v : Value} {fs : List Fl} (h : RdF w v fs) (hb : Below w.heap.size w w') : RdF w' v fs := by
  rcases h with h | ⟨g, o, c, rfl, hn, hg, hc⟩
  · exact .inl h
  · exact .inr ⟨g, o, c, rfl, hn, Nat.lt_of_lt_of_le hg hb.size, fun j f hj => (hc j f hj).below hb hg⟩
theorem RdF.alloc {w : World} {v : Value} {fs : List Fl} (h : RdF w v fs) (o : Obj) : RdF (w.alloc o) v fs := h.below ((Below.refl _ _).alloc (Nat.le_refl _) _)
theorem RdF.drew {w : World} {v : Value} {fs : List Fl} (h : RdF w v fs) : RdF w.drew v fs := h.below (Below.refl _ _).drew
theorem RdF.shape {w : World} {v : Value} {fs : List Fl} (h : RdF w v fs) : ∃ a c, v = .slice a fs.length c := by
  rcases h with ⟨a, c, rfl, rfl⟩ | ⟨g, o, c, rfl, _⟩
  · exact ⟨_, _, rfl⟩
  · exact ⟨_, _, rfl⟩

theorem RdF.open {w : World} {v : Value} {fs : List Fl} (h : RdF w v fs) : ∃ a c, v = .slice a fs.length c ∧ ∀ j f, fs[j]? = some f → ∃ g o, a = some ⟨g, o, none⟩ ∧ g < w.heap.size ∧ FlAt w g (o + j * 3) f := by
  rcases h with ⟨a, c, rfl, rfl⟩ | ⟨g, o, c, rfl, _, hg, hc⟩
  · exact ⟨a, c, rfl, fun j f hj => by simp at hj⟩
  · exact ⟨_, c, rfl, fun j f hj => ⟨g, o, rfl, hg, hc j f hj⟩⟩

/-- The slice value v is a row of files of the call's own (blocks from base on). -/
def OwnF (w : World) (base : Nat) (e : TypeId) (v : Value) (fs : List Fl) : Prop := w.ownsRow base e 3 v fs.length (fs.flatMap flc)

theorem flc_len (fs : List Fl) : (fs.flatMap flc).length = fs.length * 3 := by
  induction fs with
  | nil => rfl
  | cons f r ih => rw [List.flatMap_cons, List.length_append, ih]; simp only [flc, List.length_cons, List.length_nil]; omega
theorem flc_get (fs : List Fl) : ∀ (j : Nat) (f : Fl), fs[j]? = some f → (fs.flatMap flc)[j * 3]? = some (.string f.nm) ∧ (fs.flatMap flc)[j * 3 + 1]? = some (.string f.tx) ∧ (fs.flatMap flc)[j * 3 + 2]? = some (.int .i64 f.kp) := by
  induction fs with
  | nil => intro j f h; simp at h
  | cons x r ih =>
    intro j f h
    cases j with
    | zero =>
      simp only [List.getElem?_cons_zero, Option.some.injEq] at h
      subst h
      simp [flc]
    | succ j =>
      simp only [List.getElem?_cons_succ] at h
      obtain ⟨h1, h2, h3⟩ := ih j f h
      have e : (x :: r).flatMap flc = flc x ++ r.flatMap flc := rfl
      rw [e]
      have hl : (flc x).length = 3 := rfl
      refine ⟨?_, ?_, ?_⟩
      · rw [List.getElem?_append_right (by omega), hl, show (j + 1) * 3 - 3 = j * 3 by omega]; exact h1
      · rw [List.getElem?_append_right (by omega), hl, show (j + 1) * 3 + 1 - 3 = j * 3 + 1 by omega]; exact h2
      · rw [List.getElem?_append_right (by omega), hl, show (j + 1) * 3 + 2 - 3 = j * 3 + 2 by omega]; exact h3

theorem OwnF.below {w w' : World} {base : Nat} {e : TypeId} {v : Value} {fs : List Fl} (h : OwnF w base e v fs) (hb : Below w.heap.size w w') : OwnF w' base e v fs :=
  World.ownsRow.kept (row := none) h ⟨hb.os, hb.tape, hb.output, hb.size, fun k hk _ => hb.block k hk⟩ (by cases hv : v.ownBlock <;> simp)
theorem OwnF.below_at {w w' : World} {base B : Nat} {e : TypeId} {v : Value} {fs : List Fl} (h : OwnF w base e v fs) (hb : Below B w w') (hB : ∀ g, v.ownBlock = some g → g < B) : OwnF w' base e v fs := by
  refine ⟨h.1, ?_⟩
  rcases h.2 with hn | ⟨g, cap, cur, rfl, hbg, hgg, rest⟩
  · exact .inl hn
  · refine .inr ⟨g, cap, cur, rfl, hbg, ?_, rest⟩
    rw [hb.block g (hB g rfl)]
    exact hgg
theorem OwnF.grown {w w' : World} {base : Nat} {e : TypeId} {v : Value} {fs : List Fl} {r : Option Nat} (h : OwnF w base e v fs) (hg : w.grownBy w' r) (hne : ∀ k, v.ownBlock = some k → r ≠ some k) : OwnF w' base e v fs :=
  World.ownsRow.kept h hg (by cases hv : v.ownBlock with
    | none => exact .inl rfl
    | some k => exact .inr (fun e => hne k hv e.symm))
theorem OwnF.alloc {w : World} {base : Nat} {e : TypeId} {v : Value} {fs : List Fl} (h : OwnF w base e v fs) (o : Obj) : OwnF (w.alloc o) base e v fs := World.ownsRow.alloc h o
theorem OwnF.drew {w : World} {base : Nat} {e : TypeId} {v : Value} {fs : List Fl} (h : OwnF w base e v fs) : OwnF w.drew base e v fs := h
theorem OwnF.low {w : World} {base base' : Nat} {e : TypeId} {v : Value} {fs : List Fl} (h : OwnF w base e v fs) (hb : base' ≤ base) : OwnF w base' e v fs := by
  refine ⟨h.1, ?_⟩
  rcases h.2 with hn | ⟨g, cap, cur, rfl, hbg, rest⟩
  · exact .inl hn
  · exact .inr ⟨g, cap, cur, rfl, by omega, rest⟩
theorem OwnF.lt {w : World} {base : Nat} {e : TypeId} {v : Value} {fs : List Fl} (h : OwnF w base e v fs) : ∀ g, v.ownBlock = some g → base ≤ g ∧ g < w.heap.size := World.ownsRow.lt h
theorem OwnF.nil (w : World) (base : Nat) (e : TypeId) : OwnF w base e (.slice none 0 0) [] := World.ownsRow_nil w base e 3

theorem OwnF.rd {w : World} {base : Nat} {e : TypeId} {v : Value} {fs : List Fl} (h : OwnF w base e v fs) : RdF w v fs := by
  rcases h.2 with ⟨h1, h2⟩ | ⟨g, cap, cur, h1, hb, hg, _⟩
  · exact .inl ⟨none, 0, h1, List.eq_nil_of_length_eq_zero h2⟩
  · by_cases hz : fs.length = 0
    · exact .inl ⟨_, cap, by rw [h1, hz], List.eq_nil_of_length_eq_zero hz⟩
    · refine .inr ⟨g, 0, cap, h1, by omega, (Array.getElem?_eq_some_iff.1 hg).1, ?_⟩
      intro j f hj
      have hc := World.ownsRow.cells h (g := g) (by rw [h1]; rfl)
      have hadd : ∀ k, (⟨g, 0, none⟩ : Addr).add k = ⟨g, k, none⟩ := fun k => by unfold Addr.add; split <;> simp_all
      obtain ⟨e1, e2, e3⟩ := flc_get fs j f hj
      have c1 := hc _ _ e1
      have c2 := hc _ _ e2
      have c3 := hc _ _ e3
      rw [hadd] at c1 c2 c3
      exact ⟨by rw [Nat.zero_add]; exact c1, by rw [Nat.zero_add]; exact c2, by rw [Nat.zero_add]; exact c3⟩

theorem OwnF.other {w : World} {base : Nat} {e : TypeId} {v : Value} {fs : List Fl} (h : OwnF w base e v fs) {a : Addr} (ha : a.block < base) (u : Value) : OwnF (w.setCell a u) base e v fs := by
  refine ⟨h.1, ?_⟩
  rcases h.2 with hn | ⟨g, cap, cur, rfl, hbg, hgg, rest⟩
  · exact .inl hn
  · refine .inr ⟨g, cap, cur, rfl, hbg, ?_, rest⟩
    rw [RowKit.Below.heap_setCell _ _ _ _ (by omega)]
    exact hgg

/-- 'out = append(out, f)' on a row of files of the call's own. -/
theorem wp_append_file {P : Program} {W : World} {o : Oper} {a : Act} {K : Act → World → Prop} {Q : Exit → Act → World → Prop} (s x : Operand) (t : TypeId)
    (ho : o.op = .call { callee := .builtin .append, args := #[s, x], argTypes := #[t, t] })
    (base B : Nat) (e : TypeId) (i : TypeInfo) (z : Value) (nb : Nat) (ht : P.underlying t = some (.slice e)) (hi : P.info? e = some i) (hz : i.zero = some z) (hsize : i.size = 3) (hby : i.bytes = nb) (hzs : z.cells.size = 3)
    (v : Value) (fs : List Fl) (hs : a.eval s = v) (hown : OwnF W base e v fs)
    (blk : Nat) (cs : Array Value) (hblk : W.heap[blk]? = some (.cells cs e (0, 0))) (f : Fl) (hcs : cs.toList = flc f) (c : Nat) (hx : a.eval x = .slice (some ⟨blk, 0, none⟩) 1 c)
    (hlen : fs.length ≤ 2000000) (hnb : nb ≤ 1000) (hB : B ≤ base) (hbase : base ≤ W.heap.size) {w00 : World} (hbel : Below B w00 W)
    (h : ∀ v' w', OwnF w' base e v' (fs ++ [f]) → Below B w00 w' → K (a.put o.dst v') w') : o.wp P a W K Q := by
  have hcell : ∀ j u, (flc f)[j]? = some u → W.cell? ((⟨blk, 0, none⟩ : Addr).add j) = some u := by
    intro j u hu
    have hadd : (⟨blk, 0, none⟩ : Addr).add j = ⟨blk, j, none⟩ := by unfold Addr.add; split <;> simp_all
    rw [hadd, cell_of_row W blk j cs e (0, 0) hblk]
    rw [← hcs] at hu
    simpa using hu
  have hmul : (fs.length + 1) * nb ≤ 140737488355328 := Nat.le_trans (Nat.mul_le_mul (show fs.length + 1 ≤ 2000001 by omega) hnb) (by decide)
  refine wp_append_own W s x t ho base e i z 3 nb ht hi hz hsize hby hzs (by decide) v fs.length (fs.flatMap flc) hs hown
    ⟨blk, 0, none⟩ 1 c (flc f) hx rfl hcell (by intro u hu; simp only [flc, List.mem_cons, List.mem_nil_iff, or_false] at hu; rcases hu with rfl | rfl | rfl <;> rfl) (by unfold maxLen; omega) hmul hbase ?_
  intro v' w' h2 h3 _
  refine h v' w' (by unfold OwnF; rw [List.length_append, List.flatMap_append]; simpa using h2) ?_
  refine hbel.grown h3 (by omega) ?_
  intro k hk
  have := (World.ownsRow.lt hown k hk).1
  omega

theorem wpList_append_file {P : Program} {w : World} {ops : Array Oper} {rest : List Oper} {o : Oper} {a : Act} {Q : Exit → Act → World → Prop} (hgd : o.guard = none) (s x : Operand) (t : TypeId)
    (ho : o.op = .call { callee := .builtin .append, args := #[s, x], argTypes := #[t, t] })
    (base B : Nat) (e : TypeId) (i : TypeInfo) (z : Value) (nb : Nat) (ht : P.underlying t = some (.slice e)) (hi : P.info? e = some i) (hz : i.zero = some z) (hsize : i.size = 3) (hby : i.bytes = nb) (hzs : z.cells.size = 3)
    (v : Value) (fs : List Fl) (hs : a.eval s = v) (hown : OwnF w base e v fs)
    (cs : Array Value) (f : Fl) (hcs : cs.toList = flc f) (c : Nat) (hx : a.eval x = .slice (some ⟨w.heap.size, 0, none⟩) 1 c)
    (hlen : fs.length ≤ 2000000) (hnb : nb ≤ 1000) (hB : B ≤ base) (hbase : base ≤ w.heap.size) {w00 : World} (hbel : Below B w00 w)
    (h : ∀ v' w', OwnF w' base e v' (fs ++ [f]) → Below B w00 w' → wpList P ops Q rest (a.put o.dst v') w') :
    wpList P ops Q (o :: rest) a (w.alloc (.cells cs e)) :=
  wpList_plain hgd fun _ hK => wp_append_file s x t ho base B e i z nb ht hi hz hsize hby hzs v fs hs (hown.alloc _) w.heap.size cs (heap_alloc_new w _) f hcs c hx hlen hnb hB (by simp; omega) (hbel.alloc (by omega) _) fun v' w' h2 h3 => hK _ _ (h v' w' h2 h3)

theorem flc_set0 (s : ByteArray) : ∀ (fs : List Fl) (k : Nat) (f : Fl), fs[k]? = some f → (fs.flatMap flc).set (k * 3) (.string s) = (fs.set k { f with nm := s }).flatMap flc
  | [], k, f, h => by simp at h
  | x :: r, 0, f, h => by
    simp only [List.getElem?_cons_zero, Option.some.injEq] at h
    subst h; rfl
  | x :: r, k + 1, f, h => by
    have ih := flc_set0 s r k f (by simpa using h)
    rw [show (k + 1) * 3 = k * 3 + 1 + 1 + 1 by omega]
    show Value.string x.nm :: Value.string x.tx :: Value.int .i64 x.kp :: (r.flatMap flc).set (k * 3) (.string s) = _
    rw [ih]; rfl
theorem flc_set1 (s : ByteArray) : ∀ (fs : List Fl) (k : Nat) (f : Fl), fs[k]? = some f → (fs.flatMap flc).set (k * 3 + 1) (.string s) = (fs.set k { f with tx := s }).flatMap flc
  | [], k, f, h => by simp at h
  | x :: r, 0, f, h => by
    simp only [List.getElem?_cons_zero, Option.some.injEq] at h
    subst h; rfl
  | x :: r, k + 1, f, h => by
    have ih := flc_set1 s r k f (by simpa using h)
    rw [show (k + 1) * 3 + 1 = k * 3 + 1 + 1 + 1 + 1 by omega]
    show Value.string x.nm :: Value.string x.tx :: Value.int .i64 x.kp :: (r.flatMap flc).set (k * 3 + 1) (.string s) = _
    rw [ih]; rfl
theorem flc_set2 (s : Int) : ∀ (fs : List Fl) (k : Nat) (f : Fl), fs[k]? = some f → (fs.flatMap flc).set (k * 3 + 2) (.int .i64 s) = (fs.set k { f with kp := s }).flatMap flc
  | [], k, f, h => by simp at h
  | x :: r, 0, f, h => by
    simp only [List.getElem?_cons_zero, Option.some.injEq] at h
    subst h; rfl
  | x :: r, k + 1, f, h => by
    have ih := flc_set2 s r k f (by simpa using h)
    rw [show (k + 1) * 3 + 2 = k * 3 + 2 + 1 + 1 + 1 by omega]
    show Value.string x.nm :: Value.string x.tx :: Value.int .i64 x.kp :: (r.flatMap flc).set (k * 3 + 2) (.int .i64 s) = _
    rw [ih]; rfl

theorem ownsRow_set {w : World} {base g n c sz : Nat} {e : TypeId} {xs : List Value} (h : w.ownsRow base e sz (.slice (some ⟨g, 0, none⟩) n c) n xs) (k : Nat) (u : Value) :
    (w.setCell ⟨g, k, none⟩ u).ownsRow base e sz (.slice (some ⟨g, 0, none⟩) n c) n (xs.set k u) := by
  refine ⟨by rw [List.length_set]; exact h.1, ?_⟩
  rcases h.2 with ⟨h1, _⟩ | ⟨g', cap, cur, h1, hb, h2, h3, h4, h5, h6⟩
  · cases h1
  · simp only [Value.slice.injEq, Option.some.injEq, Addr.mk.injEq] at h1
    obtain ⟨⟨rfl, _⟩, _, rfl⟩ := h1
    refine .inr ⟨g, c, cur.setIfInBounds k u, rfl, hb, heap_setCell_same w g k cur e u h2, h3, h4, by rw [Array.size_setIfInBounds]; exact h5, ?_⟩
    rw [Array.toList_setIfInBounds, List.take_set, h6]
theorem OwnF.len {w : World} {base n : Nat} {a : Option Addr} {c : Nat} {e : TypeId} {fs : List Fl} (h : OwnF w base e (.slice a n c) fs) : fs.length = n := by
  rcases h.2 with ⟨h1, h2⟩ | ⟨g', cap, cur, h1, _⟩
  · simp only [Value.slice.injEq] at h1; omega
  · simp only [Value.slice.injEq] at h1; exact h1.2.1.symm
theorem OwnF.set0 {w : World} {base g n c : Nat} {e : TypeId} {fs : List Fl} (h : OwnF w base e (.slice (some ⟨g, 0, none⟩) n c) fs) {k : Nat} {f : Fl} (hk : fs[k]? = some f) (s : ByteArray) :
    OwnF (w.setCell ⟨g, k * 3, none⟩ (.string s)) base e (.slice (some ⟨g, 0, none⟩) n c) (fs.set k { f with nm := s }) := by
  have hl := h.len
  unfold OwnF at h ⊢
  rw [List.length_set, ← flc_set0 s fs k f hk]
  rw [hl] at h ⊢
  exact ownsRow_set h _ _
theorem OwnF.set1 {w : World} {base g n c : Nat} {e : TypeId} {fs : List Fl} (h : OwnF w base e (.slice (some ⟨g, 0, none⟩) n c) fs) {k : Nat} {f : Fl} (hk : fs[k]? = some f) (s : ByteArray) :
    OwnF (w.setCell ⟨g, k * 3 + 1, none⟩ (.string s)) base e (.slice (some ⟨g, 0, none⟩) n c) (fs.set k { f with tx := s }) := by
  have hl := h.len
  unfold OwnF at h ⊢
  rw [List.length_set, ← flc_set1 s fs k f hk]
  rw [hl] at h ⊢
  exact ownsRow_set h _ _
theorem OwnF.set2 {w : World} {base g n c : Nat} {e : TypeId} {fs : List Fl} (h : OwnF w base e (.slice (some ⟨g, 0, none⟩) n c) fs) {k : Nat} {f : Fl} (hk : fs[k]? = some f) (s : Int) :
    OwnF (w.setCell ⟨g, k * 3 + 2, none⟩ (.int .i64 s)) base e (.slice (some ⟨g, 0, none⟩) n c) (fs.set k { f with kp := s }) := by
  have hl := h.len
  unfold OwnF at h ⊢
  rw [List.length_set, ← flc_set2 s fs k f hk]
  rw [hl] at h ⊢
  exact ownsRow_set h _ _
theorem set_get {fs : List Fl} {k : Nat} {f : Fl} (h : fs[k]? = some f) (x : Fl) : (fs.set k x)[k]? = some x := by
  rw [List.getElem?_set]
  simp [(List.getElem?_eq_some_iff.1 h).1]
/-- The three cells of one file written. -/
theorem OwnF.set3 {w : World} {base g n c : Nat} {e : TypeId} {fs : List Fl} (h : OwnF w base e (.slice (some ⟨g, 0, none⟩) n c) fs) {k : Nat} (hk : k < n) (x : Fl) :
    OwnF (((w.setCell ⟨g, k * 3, none⟩ (.string x.nm)).setCell ⟨g, k * 3 + 1, none⟩ (.string x.tx)).setCell ⟨g, k * 3 + 2, none⟩ (.int .i64 x.kp)) base e (.slice (some ⟨g, 0, none⟩) n c) (fs.set k x) := by
  have hl := h.len
  have hf := List.getElem?_eq_getElem (show k < fs.length by omega)
  have h1 := h.set0 hf x.nm
  have h2 := h1.set1 (set_get hf _) x.tx
  have h3 := h2.set2 (set_get (set_get hf _) _) x.kp
  rw [List.set_set, List.set_set] at h3
  exact h3
theorem OwnF.rowf {w : World} {base g n c : Nat} {e : TypeId} {fs : List Fl} (h : OwnF w base e (.slice (some ⟨g, 0, none⟩) n c) fs) : ∃ cur, w.heap[g]? = some (.cells cur e (0, 0)) := by
  rcases h.2 with ⟨h1, _⟩ | ⟨g', cap, cur, h1, _, h2, _⟩
  · cases h1
  · simp only [Value.slice.injEq, Option.some.injEq, Addr.mk.injEq] at h1
    obtain ⟨⟨rfl, _⟩, _⟩ := h1
    exact ⟨cur, h2⟩
theorem OwnF.frozen {w : World} {base g n c : Nat} {e : TypeId} {fs : List Fl} (h : OwnF w base e (.slice (some ⟨g, 0, none⟩) n c) fs) (k : Nat) : w.frozen? ⟨g, k, none⟩ = false := by
  obtain ⟨cur, hc⟩ := h.rowf
  exact frozen_of_row w g k cur e hc
theorem OwnF.at {w : World} {base g n c : Nat} {e : TypeId} {fs : List Fl} (h : OwnF w base e (.slice (some ⟨g, 0, none⟩) n c) fs) {k : Nat} {f : Fl} (hf : fs[k]? = some f) : FlAt w g (k * 3) f := by
  have hc := World.ownsRow.cells h (g := g) rfl
  have hadd : ∀ k, (⟨g, 0, none⟩ : Addr).add k = ⟨g, k, none⟩ := fun k => by unfold Addr.add; split <;> simp_all
  obtain ⟨e1, e2, e3⟩ := flc_get fs k _ hf
  have c1 := hc _ _ e1
  have c2 := hc _ _ e2
  have c3 := hc _ _ e3
  rw [hadd] at c1 c2 c3
  exact ⟨c1, c2, c3⟩
theorem OwnF.cells3 {w : World} {base g n c : Nat} {e : TypeId} {fs : List Fl} (h : OwnF w base e (.slice (some ⟨g, 0, none⟩) n c) fs) {k : Nat} (hk : k < n) :
    ∃ f : Fl, fs[k]? = some f ∧ FlAt w g (k * 3) f := by
  have hl := h.len
  have hf := List.getElem?_eq_getElem (show k < fs.length by omega)
  exact ⟨_, hf, h.at hf⟩

def flz : Fl := ⟨ByteArray.empty, ByteArray.empty, 0⟩
theorem madeF (n : Nat) : (madeCells (flv flz).cells (n * 3)).toList = (List.replicate n flz).flatMap flc := by
  have hc : (flv flz).cells = #[.string ByteArray.empty, .string ByteArray.empty, .int .i64 0] := rfl
  rw [hc]
  unfold madeCells
  apply List.ext_getElem?
  intro j
  rw [Array.toList_map, Array.toList_range, List.getElem?_map]
  by_cases hj : j < n * 3
  · rw [List.getElem?_range hj]
    obtain ⟨q, r, rfl, hr⟩ : ∃ q r, j = q * 3 + r ∧ r < 3 := ⟨j / 3, j % 3, by omega, by omega⟩
    have hq : (List.replicate n flz)[q]? = some flz := by rw [List.getElem?_replicate, if_pos (by omega)]
    obtain ⟨e0, e1, e2⟩ := flc_get _ _ _ hq
    have hm : (q * 3 + r) % 3 = r := by omega
    show some (#[Value.string ByteArray.empty, .string ByteArray.empty, .int .i64 0][(q * 3 + r) % 3]!) = _
    rw [hm]
    have hr3 : r = 0 ∨ r = 1 ∨ r = 2 := by omega
    rcases hr3 with rfl | rfl | rfl
    · exact e0.symm
    · exact e1.symm
    · exact e2.symm
  · rw [List.getElem?_eq_none (by simp; omega), List.getElem?_eq_none (by rw [flc_len, List.length_replicate]; omega)]
    rfl
theorem OwnF.made {w : World} {base n : Nat} {e : TypeId} {g : Nat} (h : w.ownsRow base e 3 (.slice (some ⟨g, 0, none⟩) n n) n (madeCells (flv flz).cells (n * 3)).toList) :
    OwnF w base e (.slice (some ⟨g, 0, none⟩) n n) (List.replicate n flz) := by
  rw [madeF] at h
  unfold OwnF
  rw [List.length_replicate]
  exact h
theorem take_fill {fs : List Fl} {k n : Nat} {f : Fl} (hf : fs[k]? = some f) (hn : fs.length = n) :
    (fs.take k ++ List.replicate (n - k) flz).set k f = fs.take (k + 1) ++ List.replicate (n - (k + 1)) flz := by
  have hk : k < fs.length := (List.getElem?_eq_some_iff.1 hf).1
  have hl : (fs.take k).length = k := by rw [List.length_take]; omega
  rw [List.set_append_right _ _ (by omega), hl, Nat.sub_self, show n - k = (n - (k + 1)) + 1 by omega, List.replicate_succ, List.set_cons_zero, List.take_add_one, hf, List.append_assoc]
  rfl
end Go.Proofs.Ytljjajbkaffofav

