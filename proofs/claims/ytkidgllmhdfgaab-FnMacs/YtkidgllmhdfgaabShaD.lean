/- A text's end, by impl, over the loaded program. -/
import Derived.Test.YtkidgllmhdfgaabShaG
namespace Go.Proofs.Ytkidgllmhdfgaab
open Go.RowKit
def endT (rest : ByteArray) (n : Nat) : ByteArray := rest ++ ⟨(endL n).toArray⟩
def endV (v : V8) (rest : ByteArray) (n : Nat) : ByteArray := (blocksW v (endT rest n) 0 ((endT rest n).size / 64)).text
theorem endL_len (n : Nat) : (endL n).length ≤ 72 := by
  unfold endL zerosB
  simp [bytesW]
theorem endT_size (rest : ByteArray) (n : Nat) : (endT rest n).size = rest.size + (endL n).length := by
  unfold endT
  rw [ByteArray.size_append]
  rfl
theorem grown_below {a b c : World} {g : Nat} (h : a.grownBy b (some g)) (k : Below b.heap.size b c) : a.grownBy c (some g) :=
  ⟨k.os.trans h.os, k.tape.trans h.tape, k.output.trans h.output, Nat.le_trans h.size k.size, fun q hq hne => (k.block q (Nat.lt_of_lt_of_le hq h.size)).trans (h.block q hq hne)⟩
theorem below_grown {a b c : World} {g : Nat} (k : Below a.heap.size a b) (h : b.grownBy c (some g)) : a.grownBy c (some g) :=
  ⟨h.os.trans k.os, h.tape.trans k.tape, h.output.trans k.output, Nat.le_trans k.size h.size, fun q hq hne => (h.block q (Nat.lt_of_lt_of_le hq k.size) hne).trans (k.block q hq)⟩
set_option maxRecDepth 20000 in
set_option maxHeartbeats 400000 in
theorem ended_any (v : V8) (hv : v.ok) (rest : ByteArray) (hr : rest.size ≤ 4000000) (n : Nat) (hn : n ≤ 1000000000) (g : Nat) (w : World) (hA : ArrAt w g 50 v.toL) :
    Calls Try.prog 35 #[.pointer (some ⟨g, 0, none⟩), .string rest, .int .i64 (n : Int)] w fun e w' => e = .returned (.string (endV v rest n)) ∧ w.grownBy w' (some g) := by
  have hmf : ∀ (fn : Fn) (first cap : Array Value) (w : World), (Instr.makeFunc fn first cap).run Try.prog w = .ok (.func fn first cap) w := fun _ _ _ _ => rfl
  have hgl := hA.lt
  have HA := hide hA
  clear hA
  have hes := endT_size rest n
  have hel := endL_len n
  have C1 := hide (fun W => ending_any n hn W)
  have C2 := hide (fun g W hW => eachBlock_any v hv (endT rest n) (by omega) g W hW)
  have hOk := hide (blocksW_ok hv (endT rest n) 0 ((endT rest n).size / 64))
  have HV : Hid (endV v rest n = (blocksW v (endT rest n) 0 ((endT rest n).size / 64)).text) := hide rfl
  have HT : Hid (rest ++ ⟨(endL n).toArray⟩ = endT rest n) := hide rfl
  have hls : (⟨(endL n).toArray⟩ : ByteArray).size = (endL n).length := rfl
  generalize (⟨(endL n).toArray⟩ : ByteArray) = eb at *
  go_enter Try.func35, Try.ntmps35
  go_wp2_with fail
  refine ((unhide C1) w).mono ?_
  rintro e w1 ⟨rfl, hb1⟩
  have hA1 := hide ((unhide HA).below hb1 hgl)
  go_wp2_with fail
  rw [unhide HT]
  refine ((unhide C2) g w1 (unhide hA1)).mono ?_
  rintro e w2 ⟨rfl, hA2, hg2⟩
  have hgr := hide (below_grown hb1 hg2)
  clear hb1 hg2 hA1 hes hel hls
  generalize (endT rest n).size / 64 = q at *
  go_wp2_with fail
  refine (inBytes_any _ (unhide hOk) g w2 hA2).mono ?_
  rintro e w3 ⟨rfl, hb3⟩
  rw [← unhide HV]
  go_wp2
  go_ret
  exact ⟨rfl, grown_below (unhide hgr) hb3⟩
theorem grown_new {w w' W : World} {B : Nat} (hb : Below B w W) (h : W.grownBy w' (some B)) (hB : B ≤ W.heap.size) : Below B w w' :=
  hb.grown h hB (fun k hk => by simp only [Option.some.injEq] at hk; omega)
set_option maxRecDepth 20000 in
set_option maxHeartbeats 400000 in
theorem implDigest_any (s : ByteArray) (hs : s.size ≤ 4000000) (w : World) :
    Calls Try.prog 11 #[.string s] w fun e w' => e = .returned (.string (endV (blocksW first8 s 0 (s.size / 64)) (s.extract (64 * (s.size / 64)) s.size) s.size)) ∧ Below w.heap.size w w' := by
  have hmf : ∀ (fn : Fn) (first cap : Array Value) (w : World), (Instr.makeFunc fn first cap).run Try.prog w = .ok (.func fn first cap) w := fun _ _ _ _ => rfl
  have C2 := hide (fun g W hW => eachBlock_any first8 first8_ok s (by omega) g W hW)
  have hrs : (s.extract (64 * (s.size / 64)) s.size).size ≤ 4000000 := by rw [ByteArray.size_extract]; omega
  have C3 := hide (fun g W hW => ended_any (blocksW first8 s 0 (s.size / 64)) (blocksW_ok first8_ok s 0 _) (s.extract (64 * (s.size / 64)) s.size) hrs s.size (by omega) g W hW)
  clear hrs
  generalize hV : endV (blocksW first8 s 0 (s.size / 64)) (s.extract (64 * (s.size / 64)) s.size) s.size = out at *
  generalize s.extract (64 * (s.size / 64)) s.size = rest at *
  generalize blocksW first8 s 0 (s.size / 64) = v2 at *
  clear hV
  go_enter Try.func11, Try.ntmps11
  go_wp2_with fail
  refine (firstState_any _).mono ?_
  rintro e w1 ⟨rfl, hb1⟩
  have H8 := hide (one_z8 w1 50)
  have hs1 := hb1.size
  go_wp2_with (refine wpList_store_arr_as rfl 50 (.tmp 3) (.tmp 5) rfl w1.heap.size _ zeros8 rfl rfl 50 (unhide H8).1 (info8 first8) rfl ?_; intro w2 hA2 _ hB2; have hb2 := (unhide H8).2.trans hB2; clear hB2 H8)
  refine ((unhide C2) _ w2 hA2).mono ?_
  rintro e w3 ⟨rfl, hA3, hg3⟩
  have hs2 := hb2.size
  have hl3 := hA3.lt
  have hb3 := grown_new hb2 hg3 hs2
  have HT3 := hide (hb1.trans (hb3.mono hs1))
  have hs3 := hb3.size
  clear hA2 hg3 hb1 hb2 hb3
  go_wp2_with fail
  refine ((unhide C3) _ w3 hA3).mono ?_
  rintro e w4 ⟨rfl, hg4⟩
  have hb4 := (unhide HT3).grown hg4 (by omega) (fun k hk => by simp only [Option.some.injEq] at hk; omega)
  clear hA3 hg4
  go_wp2
  go_ret
  exact ⟨rfl, hb4⟩
set_option maxRecDepth 20000 in
set_option maxHeartbeats 400000 in
theorem implEnd_any (a : Hs) (w : World) (h1 : a.st.size ≤ maxLen) (h2 : a.rs.size ≤ 4000000) :
    Calls Try.prog 13 #[hsv a] w fun e w' => e = .returned (.string (if okH a = true then endV (stOf a.st) a.rs a.ct.toNat else ⟨#[]⟩)) ∧ Below w.heap.size w w' := by
  have CO := hide (fun W => implOk_any a W h1 (by unfold maxLen; omega))
  by_cases hok : okH a = true
  · obtain ⟨q1, q2, q3, q4⟩ := okH_yes hok
    rw [if_pos hok]
    rw [hok] at CO
    obtain ⟨st, rs, ct⟩ := a
    dsimp only at *
    obtain ⟨m, rfl⟩ : ∃ m : Nat, ct = (m : Int) := ⟨ct.toNat, by omega⟩
    rw [show ((m : Int)).toNat = m from rfl]
    have C1 := hide (fun W => stateIn_any st q1 W)
    have C3 := hide (fun g W hW => ended_any (stOf st) (stOf_ok _) rs h2 m (by omega) g W hW)
    unfold hsv at CO ⊢
    dsimp only at CO ⊢
    clear q1 q2 q3 q4 h1 h2 hok
    go_enter Try.func13, Try.ntmps13
    go_wp2_with fail
    obtain ⟨W, hW, hB, hb, hlt⟩ := one_hash w ⟨st, rs, (m : Int)⟩ 28
    dsimp only at hW
    rw [hW]
    clear hW
    refine ((unhide CO) W).mono ?_
    rintro e w1 ⟨rfl, hb1⟩
    have hB1 := hB.step hb1
    have k0 := hB1.c0
    have k1 := hB1.c1
    have k2 := hB1.c2
    dsimp only at k0 k1 k2
    have hl1 := hB1.lt
    have HT1 := hide (hb.trans (hb1.mono (Nat.le_of_lt hlt)))
    replace hB1 := hide hB1
    clear hB hb hb1
    go_wp2_with fail
    refine ((unhide C1) w1).mono ?_
    rintro e w2 ⟨rfl, hb2⟩
    have hB2 := (unhide hB1).step hb2
    have j1 := hB2.c1
    have j2 := hB2.c2
    dsimp only at j1 j2
    have hl2 := hB2.lt
    have HT2 := hide ((unhide HT1).trans (hb2.mono (Nat.le_of_lt hl1)))
    have H8 := hide (one_z8 w2 50)
    replace hB2 := hide hB2
    clear hb2 k0 k1 k2
    go_wp2_with (refine wpList_store_arr_as rfl 50 _ _ rfl w2.heap.size _ zeros8 rfl rfl 50 (unhide H8).1 (info8 (stOf st)) rfl ?_; intro w3 hA3 _ hB3; have hb3 := (unhide H8).2.trans hB3; have hB3' := (unhide hB2).below hb3 hl2; have i1 := hB3'.c1; have i2 := hB3'.c2; dsimp only at i1 i2; have hl3 := hA3.lt; clear hB3 H8 j1 j2)
    refine ((unhide C3) _ w3 hA3).mono ?_
    rintro e w4 ⟨rfl, hg4⟩
    have hs2 := (unhide HT2).size
    have HT4 := hide ((unhide HT2).trans ((grown_new hb3 hg4 (by omega)).mono hs2))
    clear hA3 hg4 hb3
    go_wp2
    go_ret
    exact ⟨rfl, unhide HT4⟩
  · have hok' : okH a = false := by cases h : okH a with | true => exact absurd h hok | false => rfl
    rw [hok'] at CO
    rw [if_neg hok]
    obtain ⟨st, rs, ct⟩ := a
    unfold hsv at CO ⊢
    dsimp only at CO ⊢
    clear h1 h2 hok hok'
    go_enter Try.func13, Try.ntmps13
    go_wp2_with fail
    obtain ⟨W, hW, hB, hb, hlt⟩ := one_hash w ⟨st, rs, ct⟩ 28
    dsimp only at hW
    rw [hW]
    clear hW
    refine ((unhide CO) W).mono ?_
    rintro e w1 ⟨rfl, hb1⟩
    have HT1 := hide (hb.trans (hb1.mono (Nat.le_of_lt hlt)))
    clear hB hb hb1
    go_wp2
    go_ret
    exact ⟨rfl, unhide HT1⟩
end Go.Proofs.Ytkidgllmhdfgaab
