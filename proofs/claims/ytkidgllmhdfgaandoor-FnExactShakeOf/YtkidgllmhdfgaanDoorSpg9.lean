/- The state that has taken a whole text; permutations and digests by the sponge, by impl, over the loaded program. -/
import Derived.Test.YtkidgllmhdfgaanDoorSpg8
import Derived.Test.YtkidgllmhdfgaanDoorShelf
namespace Go.Proofs.YtkidgllmhdfgaanDoor
open Go.RowKit
theorem eachLan_any (m : Nat) (hm0 : 0 < m) (hm : m ≤ 200) (s : ByteArray) (hs : s.size ≤ 10000000) (a : List Nat) (ha : LanesOk a) (g : Nat) (w : World) (hne : 0 ≠ g) (hL : Laid w) (hA : LnAt w g 34 a) :
    Calls Tryd.prog 35 #[.string s, .int .i64 (m : Int), .func (Fn.func 36) #[.pointer (some ⟨g, 0, none⟩)] #[]] w fun e w' => e = .returned (.string (restOf s m)) ∧ LnAt w' g 34 (blocksK a s m (s.size / m)) ∧ w.grownBy w' (some g) := by
  refine (eachBlk_any m hm0 hm s hs g w (fun k W => LnAt W g 34 (blocksK a s m k) ∧ w.grownBy W (some g)) ⟨hA, World.grownBy.refl w _⟩ ?_).mono ?_
  · rintro k W hk ⟨hA1, hG1⟩
    refine (lanesTake_any (blocksK a s m k) (blocksK_ok ha s m k) (s.extract (m * k) (m * k + m)) (by rw [ByteArray.size_extract]; omega) g W hne (hL.grown hG1 hne) hA1).mono ?_
    rintro e w' ⟨rfl, hA2, hG2⟩
    exact ⟨rfl, hA2, grown_tr hG1 hG2⟩
  · rintro e w' ⟨rfl, hA2, hG2⟩
    exact ⟨rfl, hA2, hG2⟩
theorem LnAt.grown {w w' : World} {g h : Nat} {T : TypeId} {l : List Nat} (hA : LnAt w g T l) (hG : w.grownBy w' (some h)) (hne : g ≠ h) : LnAt w' g T l := by
  have hl := hA.lt
  unfold LnAt at hA ⊢
  rw [hG.block g hl (by simpa using hne)]
  exact hA
theorem grown_bel {a b c : World} {g : Nat} (h : a.grownBy b (some g)) (k : Below b.heap.size b c) : a.grownBy c (some g) :=
  ⟨k.os.trans h.os, k.tape.trans h.tape, k.output.trans h.output, Nat.le_trans h.size k.size, fun q hq hne => (k.block q (Nat.lt_of_lt_of_le hq h.size)).trans (h.block q hq hne)⟩
theorem bel_grown {w w' W : World} {B g : Nat} (hb : Below B w W) (h : W.grownBy w' (some g)) (hB : B ≤ W.heap.size) (hg : B ≤ g) : Below B w w' :=
  hb.grown h hB (fun k hk => by simp only [Option.some.injEq] at hk; omega)
set_option maxRecDepth 20000 in
set_option maxHeartbeats 400000 in
theorem lanesOf_any (s : ByteArray) (hs : s.size ≤ 10000000) (m f : Nat) (hm0 : 0 < m) (hm : m ≤ 200) (hf : f < 256) (w : World) (hL : Laid w) :
    Calls Tryd.prog 23 #[.string s, .int .i64 (m : Int), .int .u8 (f : Int)] w fun e w' => e = .returned (aggL (absorbL s m f)) ∧ Below w.heap.size w w' := by
  have hmf : ∀ (fn : Fn) (first cap : Array Value) (w : World), (Instr.makeFunc fn first cap).run Tryd.prog w = .ok (.func fn first cap) w := fun _ _ _ _ => rfl
  have H2 := hide (two_z25 w 34)
  have hlt := hL.lt
  have hne1 : 0 ≠ w.heap.size + 1 := by omega
  have C1 := hide (fun W hL hW => eachLan_any m hm0 hm s hs zeros25 zeros25_ok (w.heap.size + 1) W hne1 hL hW)
  have C2 := hide (fun W => filled_any (restOf s m) m f (restOf_size s m hm0) hm hf W)
  have C3 := hide (fun W hL hW => lanesTake_any (blocksK zeros25 s m (s.size / m)) (blocksK_ok zeros25_ok s m _) (fillT (restOf s m) m f) (by rw [fillT_size _ _ _ (Nat.le_of_lt (restOf_size s m hm0))]; exact hm) (w.heap.size + 1) W hne1 hL hW)
  have hi := hide (info25 (absorbL_ok s m f).1)
  have hzl := hide (show zeros25.length = (absorbL s m f).length by rw [(absorbL_ok s m f).1]; rfl)
  have HS : Hid (takeL (blocksK zeros25 s m (s.size / m)) (fillT (restOf s m) m f) = absorbL s m f) := hide rfl
  rw [unhide HS] at C3
  have HL := hide (hL.below (unhide H2).2.2)
  clear hL
  generalize absorbL s m f = out at *
  generalize fillT (restOf s m) m f = blk at *
  generalize restOf s m = rest at *
  generalize blocksK zeros25 s m (s.size / m) = mid at *
  clear HS
  replace hne1 := hide hne1
  go_enter Tryd.func23, Tryd.ntmps23
  go_wp2_with fail
  refine ((unhide C1) _ (unhide HL) (unhide H2).1).mono ?_
  rintro e w1 ⟨rfl, hA1, hg1⟩
  have hR1 := (unhide H2).2.1.grown hg1 (by omega)
  have hb1 := bel_grown (unhide H2).2.2 hg1 (by simp; omega) (by omega)
  have hL1 := (unhide HL).grown hg1 (unhide hne1)
  have hs1 := hA1.lt
  replace hA1 := hide hA1; replace hR1 := hide hR1; replace hL1 := hide hL1; replace hb1 := hide hb1
  clear H2 hg1 HL
  go_wp2_with fail
  refine ((unhide C2) w1).mono ?_
  rintro e w2 ⟨rfl, hb2⟩
  have hA2 := hide ((unhide hA1).below hb2 hs1)
  have hR2 := hide ((unhide hR1).below hb2 (by omega))
  have hL2 := hide ((unhide hL1).below hb2)
  have hs2 := (unhide hA2).lt
  have hbb2 := hide ((unhide hb1).trans (hb2.mono (by omega)))
  clear hb2 hA1 hR1 hL1 hb1
  go_wp2_with fail
  refine ((unhide C3) w2 (unhide hL2) (unhide hA2)).mono ?_
  rintro e w3 ⟨rfl, hA3, hg3⟩
  have hR3 := hide ((unhide hR2).grown hg3 (by omega))
  have hb3 := hide (bel_grown (unhide hbb2) hg3 (by omega) (by omega))
  replace hA3 := hide hA3
  clear hg3 hA2 hR2 hL2 hbb2
  go_wp2_with (first | (refine wpList_load_lan rfl 34 _ rfl (w.heap.size + 1) rfl 34 out (unhide hA3) _ _ Tryd.underlying34 (unhide hi) ?_) | (refine wpList_store_lan rfl 34 _ _ rfl w.heap.size out zeros25 rfl rfl 34 (unhide hR3) (unhide hi) (unhide hzl) ?_))
  refine bodyPost_ret (v := aggL out) (results_lan Tryd.results23 _ _ w.heap.size 34 _ _ _ rfl ((unhide hR3).setRow _) Tryd.underlying34 (unhide hi)) rfl ⟨rfl, Go.below_setRow (unhide hb3) (Nat.le_refl _) _⟩
theorem clone_all (s : ByteArray) (w : World) (h : s.size ≤ 281474976710656) :
    Calls Tryd.prog 15 #[.string s] w fun e w' => e = .returned (.string s) ∧ Below w.heap.size w w' := by
  go_enter Tryd.func15, Tryd.ntmps15
  go_wp2_with (go_at_call 29; refine (Tryd.stringslite_Clone _ _ h).mono ?_; rintro e w2 ⟨rfl, hb2⟩)
  go_ret
  exact ⟨rfl, hb2⟩
def permT (s : ByteArray) : ByteArray := if s.size = 200 then textN (keccak (lanesS s)) else s
set_option maxRecDepth 20000 in
set_option maxHeartbeats 400000 in
theorem implPermute_any (s : ByteArray) (hs : s.size ≤ 281474976710656) (w : World) (hL : Laid w) :
    Calls Tryd.prog 7 #[.string s] w fun e w' => e = .returned (.string (permT s)) ∧ Below w.heap.size w w' := by
  by_cases h2 : s.size = 200
  · have h2' : (s.size : Int) = 200 := by omega
    unfold permT
    rw [if_pos h2]
    have C1 := hide (fun W => lanesIn_any s (by omega) W)
    have hok := lanesS_ok s
    have hi := hide (info25 hok.1)
    have hzl := hide (show zeros25.length = (lanesS s).length by rw [hok.1]; rfl)
    have C3 := hide (fun g W hne hL hW => permute_any (lanesS s) hok g W hne hL hW)
    have C4 := hide (fun g W hW => lanesBytes_any (keccak (lanesS s)) (keccak_ok hok) g W hW)
    have HL := hide hL
    have hlt := hL.lt
    clear hL hok
    generalize textN (keccak (lanesS s)) = out at *
    generalize keccak (lanesS s) = l2 at *
    generalize lanesS s = l at *
    go_enter Tryd.func7, Tryd.ntmps7
    go_wp2_with fail
    refine ((unhide C1) w).mono ?_
    rintro e w1 ⟨rfl, hb1⟩
    have hL1 := hide ((unhide HL).below hb1)
    have hs1 := hb1.size
    have HZ := hide (one_z25 w1 34)
    replace hb1 := hide hb1
    go_wp2_with (refine wpList_store_lan_as rfl 34 (.tmp 3) (.tmp 10) rfl w1.heap.size l zeros25 rfl rfl 34 (unhide HZ).1 (unhide hi) (unhide hzl) ?_; intro w2 hA2 _ hB2; have hb2 := (unhide HZ).2.trans hB2; clear hB2 HZ)
    have hL2 := (unhide hL1).below hb2
    refine ((unhide C3) _ w2 (by omega) hL2 hA2).mono ?_
    rintro e w3 ⟨rfl, hA3, hg3⟩
    have hs2 := hb2.size
    have hb3 := bel_grown hb2 hg3 hs2 (Nat.le_refl _)
    have HT3 := hide ((unhide hb1).trans (hb3.mono hs1))
    have hs3 := hA3.lt
    clear hA2 hg3 hb1 hb2 hb3 hL1 hL2
    go_wp2_with fail
    refine ((unhide C4) _ w3 hA3).mono ?_
    rintro e w4 ⟨rfl, hb4⟩
    have HT4 := hide ((unhide HT3).trans (hb4.mono (by omega)))
    clear hA3 hb4 HT3
    go_wp2
    go_ret
    exact ⟨rfl, unhide HT4⟩
  · have h2' : ¬ (s.size : Int) = 200 := by omega
    unfold permT
    rw [if_neg h2]
    go_enter Tryd.func7, Tryd.ntmps7
    go_wp2_with (go_at_call 15; refine (clone_all s _ hs).mono ?_; rintro e w2 ⟨rfl, hb2⟩)
    go_ret
    exact ⟨rfl, hb2⟩
set_option maxRecDepth 20000 in
set_option maxHeartbeats 400000 in
theorem implSha3_any (s : ByteArray) (hs : s.size ≤ 10000000) (w : World) (hL : Laid w) :
    Calls Tryd.prog 11 #[.string s] w fun e w' => e = .returned (.string ((textN (absorbL s 136 6)).extract 0 32)) ∧ Below w.heap.size w w' := by
  have C1 := hide (fun W hL => lanesOf_any s hs 136 6 (by decide) (by decide) (by decide) W hL)
  have hok := absorbL_ok s 136 6
  have hi := hide (info25 hok.1)
  have hzl := hide (show zeros25.length = (absorbL s 136 6).length by rw [hok.1]; rfl)
  have C4 := hide (fun g W hW => lanesBytes_any (absorbL s 136 6) hok g W hW)
  have hts := textN_size hok.1
  have HL := hide hL
  clear hL hok
  generalize textN (absorbL s 136 6) = out at *
  generalize absorbL s 136 6 = l at *
  go_enter Tryd.func11, Tryd.ntmps11
  go_wp2_with fail
  refine ((unhide C1) w (unhide HL)).mono ?_
  rintro e w1 ⟨rfl, hb1⟩
  have hs1 := hb1.size
  have HZ := hide (one_z25 w1 34)
  replace hb1 := hide hb1
  go_wp2_with (refine wpList_store_lan_as rfl 34 (.tmp 3) (.tmp 5) rfl w1.heap.size l zeros25 rfl rfl 34 (unhide HZ).1 (unhide hi) (unhide hzl) ?_; intro w2 hA2 _ hB2; have hb2 := (unhide HZ).2.trans hB2; clear hB2 HZ)
  refine ((unhide C4) _ w2 hA2).mono ?_
  rintro e w4 ⟨rfl, hb4⟩
  have hs2 := hb2.size
  have HT4 := hide ((unhide hb1).trans ((hb2.trans (hb4.mono hs2)).mono hs1))
  clear hA2 hb4 hb1 hb2
  go_wp2
  go_ret
  exact ⟨rfl, unhide HT4⟩
end Go.Proofs.YtkidgllmhdfgaanDoor
