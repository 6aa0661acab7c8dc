/- Chains by the given model: keys for once, their public half, signatures, what is found, over the loaded program. -/
import Derived.Test.YtfjfjiolmadbaatChn2
import Derived.Test.YtfjfjiolmadbaatTxs
import Derived.Test.YtfjfjiolmadbaatRws
import Derived.Deep.QuietTactic
namespace Go.Proofs.Ytfjfjiolmadbaat
open Go.RowKit
def preS (f : Nat → ByteArray) (k : Nat) : List ByteArray := (List.range k).map f
theorem preS_len (f : Nat → ByteArray) (k : Nat) : (preS f k).length = k := by unfold preS; rw [List.length_map, List.length_range]
theorem preS_succ (f : Nat → ByteArray) (k : Nat) : preS f (k + 1) = preS f k ++ [f k] := by unfold preS; rw [List.range_succ, List.map_append]; rfl
theorem bAt_get (l : List ByteArray) (k : Nat) (h : k < l.length) : (l.map sv)[k]? = some (.string (bAt l k)) := by
  rw [sv_get l k h]
  unfold bAt
  rw [List.getD_eq_getElem?_getD, List.getElem?_eq_getElem h]
  rfl
theorem bAt_size (l : List ByteArray) (k n : Nat) (h : k < l.length) (hn : ∀ x ∈ l, x.size ≤ n) : (bAt l k).size ≤ n := by
  unfold bAt
  rw [List.getD_eq_getElem?_getD, List.getElem?_eq_getElem h]
  exact hn _ (List.getElem_mem h)
set_option maxRecDepth 20000 in
set_option maxHeartbeats 800000 in
theorem specOnceKeyL_any (s : ByteArray) (leaf : Int) (hs : s.size ≤ 2000000) (w : World) :
    Calls Try.prog 16 #[.string s, .int .i64 leaf] w fun e w' => (∃ v, e = .returned v ∧ OwnV w' w.heap.size 9 v ((keysO s leaf).map sv)) ∧ Below w.heap.size w w' := by
  obtain ⟨i0, hi, hz0, hz1, hz2⟩ := info_parts infoTxt
  have CB := hide (fun z W => specByteY_any z W)
  have CC := hide (fun (i : Nat) W => specChop_any (s ++ oneY leaf ++ oneY (i : Int) ++ ⟨#[111]⟩) (by rw [ByteArray.size_append, ByteArray.size_append, ByteArray.size_append, oneY_size, oneY_size]; show s.size + 1 + 1 + 1 ≤ _; omega) W)
  have HK := hide (show ∀ i : Nat, chopB (s ++ oneY leaf ++ oneY (i : Int) ++ ⟨#[111]⟩) = keyO s leaf i from fun i => rfl)
  have EK := hide (show keysO s leaf = preS (keyO s leaf) 10 from rfl)
  rw [unhide EK]
  generalize keyO s leaf = F at *
  clear EK
  go_enter Try.func16, Try.ntmps16
  have ho0 : OwnV (w.alloc (.cells #[] 9)) w.heap.size 9 (.slice (some ⟨w.heap.size, 0, none⟩) 0 0) ((preS F 0).map sv) := World.ownsRow_made w #[] 0 (Nat.le_refl _) (by decide) (by simp)
  replace ho0 := hide ho0
  have hb0 := (Below.refl w.heap.size w).alloc (Nat.le_refl _) (.cells #[] 9)
  go_wp2
  go_loopw [5, 6] (fun tv ti wr => ∃ k : Nat, k ≤ 10 ∧ ti = .int .i64 (k : Int) ∧ Hid (OwnV wr w.heap.size 9 tv ((preS F k).map sv)) ∧ Below w.heap.size w wr) (fun _ ti _ => 10 - (intOf ti).toNat)
  case atStart => exact ⟨0, by omega, rfl, ho0, hb0⟩
  case round =>
    clear ho0 hb0
    obtain ⟨k, hk, rfl, HO, hB⟩ := hrel
    by_cases hlt : k < 10
    · have hk' : (k : Int) < 10 := by omega
      have za := oneY_size leaf
      have zb := oneY_size (k : Int)
      have c1 := hide (unhide CB leaf)
      have c2 := hide (unhide CB (k : Int))
      have c3 := hide (unhide CC k)
      rw [unhide HK k] at c3
      have HP := hide (preS_succ F k)
      have hpl : ((preS F k).map sv).length ≤ 1000 := by rw [List.length_map, preS_len]; omega
      generalize oneY leaf = ya at *
      generalize oneY (k : Int) = yb at *
      generalize F k = fk at *
      have za' : ya.size ≤ 1 := by omega
      have zb' : yb.size ≤ 1 := by omega
      replace za := hide za; replace zb := hide zb; replace hpl := hide hpl
      clear CB CC
      go_wp2_with fail
      refine (unhide c1 wr).mono ?_
      rintro e w1 ⟨rfl, hb1⟩
      have hB1 := hB.trans (hb1.mono hB.size)
      have HO1 := hide ((unhide HO).below hb1)
      clear hb1 hB c1 HO
      go_wp2_with fail
      refine (unhide c2 w1).mono ?_
      rintro e w2 ⟨rfl, hb2⟩
      have hB2 := hB1.trans (hb2.mono hB1.size)
      have HO2 := hide ((unhide HO1).below hb2)
      clear hb2 hB1 c2 HO1
      go_wp2_with fail
      refine (unhide c3 w2).mono ?_
      rintro e w3 ⟨rfl, hb3⟩
      have hB3 := hB2.trans (hb3.mono hB2.size)
      have HO3 := hide ((unhide HO2).below hb3)
      have hsz3 := hB3.size
      clear hb3 hB2 c3 HO2
      go_wp2_with (at_builtin; refine wpList_append_val (w := w3) rfl (.tmp 12) (.tmp 22) 30 rfl w.heap.size 9 i0 (.string ⟨#[]⟩) 16 Try.underlying30 hi hz0 hz1 hz2 rfl u5 _ (by rfl) (unhide HO3) (.string fk) rfl (by rfl) (unhide hpl) (by decide) hB3 (Nat.le_refl _) hsz3 ?_; intro v' w8 ho8 hB8)
      have ho9 := hide (show OwnV w8 w.heap.size 9 v' ((preS F (k + 1)).map sv) by rw [unhide HP, List.map_append]; exact ho8)
      clear ho8 HO3 HP
      go_wp2
      exact ⟨⟨k + 1, by omega, by go_num, ho9, hB8⟩, by simp [intOf]; omega⟩
    · have hk' : ¬ (k : Int) < 10 := by omega
      obtain rfl : k = 10 := by omega
      go_wp2
      go_ret
      exact ⟨⟨_, rfl, unhide HO⟩, hB⟩
theorem specOnceKey_any (s : ByteArray) (leaf : Int) (hs : s.size ≤ 1048576) (w : World) :
    Calls Try.prog 16 #[.string s, .int .i64 leaf] w fun e w' => (∃ v, e = .returned v ∧ OwnV w' w.heap.size 9 v ((keysO s leaf).map sv)) ∧ Below w.heap.size w w' := specOnceKeyL_any s leaf (by omega) w
end Go.Proofs.Ytfjfjiolmadbaat
