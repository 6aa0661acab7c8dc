/- A text's end, by impl, over the loaded program. -/
import Derived.Test.YtecbpplocokedaaShaG
namespace Go.Proofs.Ytecbpplocokedaa
open Go.RowKit
def endT (rest : ByteArray) (n : Nat) : ByteArray := rest ++ ⟨(endL n).toArray⟩
def endV (v : V8) (rest : ByteArray) (n : Nat) : ByteArray := (blocksW v (endT rest n) 0 ((endT rest n).size / 64)).text
theorem endL_len (n : Nat) : (endL n).length ≤ 72 := by
  unfold endL zerosB
  simp [bytesW]
theorem endT_size (rest : ByteArray) (n : Nat) : (endT rest n).size = rest.size + (endL n).length := by
  unfold endT
  rw [ByteArray.size_append]
  rfl
theorem grown_below {a b c : World} {g : Nat} (h : a.grownBy b (some g)) (k : Below b.heap.size b c) : a.grownBy c (some g) :=
  ⟨k.os.trans h.os, k.tape.trans h.tape, k.output.trans h.output, Nat.le_trans h.size k.size, fun q hq hne => (k.block q (Nat.lt_of_lt_of_le hq h.size)).trans (h.block q hq hne)⟩
theorem below_grown {a b c : World} {g : Nat} (k : Below a.heap.size a b) (h : b.grownBy c (some g)) : a.grownBy c (some g) :=
  ⟨h.os.trans k.os, h.tape.trans k.tape, h.output.trans k.output, Nat.le_trans k.size h.size, fun q hq hne => (h.block q (Nat.lt_of_lt_of_le hq k.size) hne).trans (k.block q hq)⟩
set_option maxRecDepth 20000 in
set_option maxHeartbeats 400000 in
theorem ended_any (v : V8) (hv : v.ok) (rest : ByteArray) (hr : rest.size ≤ 4000000) (n : Nat) (hn : n ≤ 1000000000) (g : Nat) (w : World) (hA : ArrAt w g 67 v.toL) :
    Calls Try.prog 51 #[.pointer (some ⟨g, 0, none⟩), .string rest, .int .i64 (n : Int)] w fun e w' => e = .returned (.string (endV v rest n)) ∧ w.grownBy w' (some g) := by
  have hmf : ∀ (fn : Fn) (first cap : Array Value) (w : World), (Instr.makeFunc fn first cap).run Try.prog w = .ok (.func fn first cap) w := fun _ _ _ _ => rfl
  have hgl := hA.lt
  have HA := hide hA
  clear hA
  have hes := endT_size rest n
  have hel := endL_len n
  have C1 := hide (fun W => ending_any n hn W)
  have C2 := hide (fun g W hW => eachBlock_any v hv (endT rest n) (by omega) g W hW)
  have hOk := hide (blocksW_ok hv (endT rest n) 0 ((endT rest n).size / 64))
  have HV : Hid (endV v rest n = (blocksW v (endT rest n) 0 ((endT rest n).size / 64)).text) := hide rfl
  have HT : Hid (rest ++ ⟨(endL n).toArray⟩ = endT rest n) := hide rfl
  have hls : (⟨(endL n).toArray⟩ : ByteArray).size = (endL n).length := rfl
  generalize (⟨(endL n).toArray⟩ : ByteArray) = eb at *
  go_enter Try.func51, Try.ntmps51
  go_wp2_with fail
  refine ((unhide C1) w).mono ?_
  rintro e w1 ⟨rfl, hb1⟩
  have hA1 := hide ((unhide HA).below hb1 hgl)
  go_wp2_with fail
  rw [unhide HT]
  refine ((unhide C2) g w1 (unhide hA1)).mono ?_
  rintro e w2 ⟨rfl, hA2, hg2⟩
  have hgr := hide (below_grown hb1 hg2)
  clear hb1 hg2 hA1 hes hel hls
  generalize (endT rest n).size / 64 = q at *
  go_wp2_with fail
  refine (inBytes_any _ (unhide hOk) g w2 hA2).mono ?_
  rintro e w3 ⟨rfl, hb3⟩
  rw [← unhide HV]
  go_wp2
  go_ret
  exact ⟨rfl, grown_below (unhide hgr) hb3⟩
theorem grown_new {w w' W : World} {B : Nat} (hb : Below B w W) (h : W.grownBy w' (some B)) (hB : B ≤ W.heap.size) : Below B w w' :=
  hb.grown h hB (fun k hk => by simp only [Option.some.injEq] at hk; omega)
set_option maxRecDepth 20000 in
set_option maxHeartbeats 400000 in
theorem implDigest_any (s : ByteArray) (hs : s.size ≤ 4000000) (w : World) :
    Calls Try.prog 37 #[.string s] w fun e w' => e = .returned (.string (endV (blocksW first8 s 0 (s.size / 64)) (s.extract (64 * (s.size / 64)) s.size) s.size)) ∧ Below w.heap.size w w' := by
  have hmf : ∀ (fn : Fn) (first cap : Array Value) (w : World), (Instr.makeFunc fn first cap).run Try.prog w = .ok (.func fn first cap) w := fun _ _ _ _ => rfl
  have C2 := hide (fun g W hW => eachBlock_any first8 first8_ok s (by omega) g W hW)
  have hrs : (s.extract (64 * (s.size / 64)) s.size).size ≤ 4000000 := by rw [ByteArray.size_extract]; omega
  have C3 := hide (fun g W hW => ended_any (blocksW first8 s 0 (s.size / 64)) (blocksW_ok first8_ok s 0 _) (s.extract (64 * (s.size / 64)) s.size) hrs s.size (by omega) g W hW)
  clear hrs
  generalize hV : endV (blocksW first8 s 0 (s.size / 64)) (s.extract (64 * (s.size / 64)) s.size) s.size = out at *
  generalize s.extract (64 * (s.size / 64)) s.size = rest at *
  generalize blocksW first8 s 0 (s.size / 64) = v2 at *
  clear hV
  go_enter Try.func37, Try.ntmps37
  go_wp2_with fail
  refine (firstState_any _).mono ?_
  rintro e w1 ⟨rfl, hb1⟩
  have H8 := hide (one_z8 w1 67)
  have hs1 := hb1.size
  go_wp2_with (refine wpList_store_arr_as rfl 67 (.tmp 3) (.tmp 5) rfl w1.heap.size _ zeros8 rfl rfl 67 (unhide H8).1 (info8 first8) rfl ?_; intro w2 hA2 _ hB2; have hb2 := (unhide H8).2.trans hB2; clear hB2 H8)
  refine ((unhide C2) _ w2 hA2).mono ?_
  rintro e w3 ⟨rfl, hA3, hg3⟩
  have hs2 := hb2.size
  have hl3 := hA3.lt
  have hb3 := grown_new hb2 hg3 hs2
  have HT3 := hide (hb1.trans (hb3.mono hs1))
  have hs3 := hb3.size
  clear hA2 hg3 hb1 hb2 hb3
  go_wp2_with fail
  refine ((unhide C3) _ w3 hA3).mono ?_
  rintro e w4 ⟨rfl, hg4⟩
  have hb4 := (unhide HT3).grown hg4 (by omega) (fun k hk => by simp only [Option.some.injEq] at hk; omega)
  clear hA3 hg4
  go_wp2
  go_ret
  exact ⟨rfl, hb4⟩
end Go.Proofs.Ytecbpplocokedaa
