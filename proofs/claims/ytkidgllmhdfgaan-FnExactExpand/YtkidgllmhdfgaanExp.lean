/- Expansions under a key, by impl and spec, over the loaded program. -/
import Derived.Test.YtkidgllmhdfgaanMac3
import Derived.Test.YtkidgllmhdfgaanMrk
import Derived.Lib.AppendStr
namespace Go.Proofs.Ytkidgllmhdfgaan
open Go.RowKit
def oneB (x : Nat) : ByteArray := ⟨#[byteOf x]⟩
def exT (key info : ByteArray) : Nat → ByteArray
  | 0 => ⟨#[]⟩
  | i + 1 => macB key (exT key info i ++ info ++ oneB (i + 1))
def exL (key info : ByteArray) : Nat → List UInt8
  | 0 => []
  | i + 1 => exL key info i ++ (exT key info (i + 1)).data.toList
theorem exT_size (key info : ByteArray) (i : Nat) : (exT key info i).size ≤ 32 := by
  cases i with
  | zero => show 0 ≤ 32; omega
  | succ i => exact Nat.le_of_eq (macB_size _ _)
theorem exL_len (key info : ByteArray) (i : Nat) : (exL key info i).length = 32 * i := by
  induction i with
  | zero => rfl
  | succ i ih =>
    show (exL key info i ++ (exT key info (i + 1)).data.toList).length = _
    rw [List.length_append, ih, show (exT key info (i + 1)).data.toList.length = 32 from macB_size _ _]
    omega
def exB (key info : ByteArray) (n : Nat) : ByteArray := ⟨((exL key info ((n + 31) / 32)).take n).toArray⟩
theorem three_texts (w : World) (a b c : ByteArray) (T : TypeId) : ∀ (j : Nat) x, [a, b, c][j]? = some x → (w.alloc (.cells #[.string a, .string b, .string c] T)).cell? ⟨w.heap.size, j, none⟩ = some (.string x) := by
  intro j x hx
  rw [cell_of_row _ w.heap.size j _ T (0, 0) (heap_alloc_new w _)]
  match j, hx with
  | 0, h => cases h; rfl
  | 1, h => cases h; rfl
  | 2, h => cases h; rfl
  | j + 3, h => simp at h
theorem conv_one (w : World) (x : Nat) (hx : x < 256) : (convert 31 9 (.slice (some ⟨w.heap.size, 0, none⟩) 1 1)).run Try.prog (w.alloc (.cells #[.int .u8 (x : Int)] 5)) = .ok (.string (oneB x)) (w.alloc (.cells #[.int .u8 (x : Int)] 5)) := by
  refine run_convert_bytes_back (P := Try.prog) _ 31 9 5 ⟨w.heap.size, 0, none⟩ 1 [byteOf x] Try.underlying31 Try.underlying5 Try.underlying9 (fun j hj => ?_)
  have hj0 : j = 0 := by simpa using hj
  subst hj0
  have hadd : (⟨w.heap.size, 0, none⟩ : Addr).add 0 = ⟨w.heap.size, 0, none⟩ := by unfold Addr.add; split <;> simp_all
  rw [hadd, cell_of_row _ w.heap.size 0 _ _ (0, 0) (heap_alloc_new w _)]
  simp [byteOf_toNat hx]
theorem exT_flat (a b c : ByteArray) : (a ++ b ++ c).data.toList = ([a, b, c].map (·.data.toList)).flatten := by
  rw [ByteArray.data_append, Array.toList_append, ByteArray.data_append, Array.toList_append]
  simp
set_option maxRecDepth 20000 in
set_option maxHeartbeats 400000 in
theorem implExpand_yes (key info : ByteArray) (hk : key.size ≤ 1048576) (hf : info.size ≤ 1048576) (n : Nat) (hn : n ≤ 8160) (w : World) :
    Calls Try.prog 9 #[.string key, .string info, .int .i64 (n : Int)] w fun e w' => e = .returned (.tuple #[.string (exB key info n), .bool true]) ∧ Below w.heap.size w w' := by
  obtain ⟨i0, hi, hz0, hz1, hz2⟩ := info_parts Try.infoByte
  obtain ⟨c0, hc0⟩ : ∃ c, c = n + 32 := ⟨_, rfl⟩
  have ec : IntKind.i64.wrap ((n : Int) + 32) = (c0 : Int) := by rw [IntKind.wrap_i64]; omega
  have hcb : c0 ≤ 10000 := by omega
  have h1 : ¬ (n : Int) < 0 := by omega
  have h2 : ¬ (8160 : Int) < (n : Int) := by omega
  replace hc0 := hide hc0
  go_enter Try.func9, Try.ntmps9
  go_wp2_with (at_make; refine wpList_make_own _ rfl _ _ 31 rfl w.heap.size 5 i0 (.int .u8 0) 1 Try.underlying31 hi hz0 hz1 _ _ _ c0 rfl rfl (by omega) (by rw [hz2]; omega) (by unfold maxLen; omega) (Nat.le_refl _) ?_; intro w1 hown1 hgrow1)
  have hb0 : Below w.heap.size w w1 := (Below.refl w.heap.size w).grown hgrow1 (Nat.le_refl _) (fun k hk => by cases hk)
  clear hgrow1
  go_loopw [8, 9, 10] (fun tv tl ti wq => ∃ j : Nat, j ≤ (n + 31) / 32 ∧ ti = .int .i64 ((j + 1 : Nat) : Int) ∧ tl = .string (exT key info j) ∧ Hid (OwnB wq w.heap.size 5 tv (exL key info j)) ∧ Below w.heap.size w wq) (fun _ _ ti _ => 1000 - (intOf ti).toNat)
  case atStart => exact ⟨0, by omega, rfl, rfl, hide hown1, hb0⟩
  case round =>
    clear hown1 hb0
    obtain ⟨j, hj, rfl, rfl, HO, hb⟩ := hrel
    have hjl := exL_len key info j
    have hjb : j ≤ 255 := by omega
    obtain ⟨m, hm⟩ : ∃ m, m = 32 * j := ⟨_, rfl⟩
    rw [← hm] at hjl
    by_cases hlt : m < n
    · have hlt' : (m : Int) < (n : Int) := by omega
      obtain ⟨a9, c9, hv9⟩ : ∃ a c, u8 = .slice a m c := by
        have h9 : wr.ownsRow w.heap.size 5 1 u8 (exL key info j).length ((exL key info j).map bv) := unhide HO
        rw [hjl] at h9
        rcases h9.2 with ⟨h, h'⟩ | ⟨g, cap, cur, h, _⟩
        · exact ⟨none, 0, by rw [h, h']⟩
        · exact ⟨_, cap, h⟩
      subst hv9
      obtain ⟨i1, hi1⟩ : ∃ i1, i1 = j + 1 := ⟨_, rfl⟩
      rw [← hi1]
      have hi256 : i1 < 256 := by omega
      have ew : IntKind.u8.wrap (i1 : Int) = (i1 : Int) := by rw [IntKind.wrap_u8]; omega
      have hcv := conv_one wr i1 hi256
      have hTj : exT key info (j + 1) = macB key (exT key info j ++ info ++ oneB i1) := by rw [hi1]; rfl
      have hs0 := exT_size key info j
      have C := hide (macParts_any key hk (wr.alloc (.cells #[.int .u8 (i1 : Int)] 5)).heap.size 3 3 [exT key info j, info, oneB i1] rfl (exT key info j ++ info ++ oneB i1) (exT_flat _ _ _) (by rw [ByteArray.size_append, ByteArray.size_append, show (oneB i1).size = 1 from rfl]; omega) ((wr.alloc (.cells #[.int .u8 (i1 : Int)] 5)).alloc (.cells #[.string (exT key info j), .string info, .string (oneB i1)] 9)) (three_texts _ _ _ _ 9) (by simp) (by omega))
      rw [← hTj, show (wr.alloc (.cells #[.int .u8 (i1 : Int)] 5)).heap.size = wr.heap.size + 1 by simp] at C
      have hbA : Below wr.heap.size wr ((wr.alloc (.cells #[.int .u8 (i1 : Int)] 5)).alloc (.cells #[.string (exT key info j), .string info, .string (oneB i1)] 9)) := ((Below.refl wr.heap.size wr).alloc (Nat.le_refl _) _).alloc (by simp) _
      have hsz := hb.size
      have hTs : (exT key info (j + 1)).size = 32 := macB_size _ _
      have HLs := hide (show exL key info (j + 1) = exL key info j ++ (exT key info (j + 1)).data.toList from rfl)
      generalize oneB i1 = ob at *
      obtain ⟨tn, htn⟩ : ∃ t, t = exT key info (j + 1) := ⟨_, rfl⟩
      rw [← htn] at C hTs HLs hTj
      replace htn := hide htn
      generalize exT key info j = tl at *
      replace hTj := hide hTj
      replace hi1 := hide hi1
      replace hm := hide hm
      go_wp2_with fail
      refine (unhide C).mono ?_
      rintro e w3 ⟨rfl, hb3⟩
      have hb03 := hbA.trans (hb3.mono hbA.size)
      have hown3 : w3.ownsRow w.heap.size 5 1 (.slice a9 m c9) m ((exL key info j).map bv) := by
        have := unhide HO
        unfold OwnB at this
        rw [hjl] at this
        exact World.ownsRow.kept (row := none) this ⟨hb03.os, hb03.tape, hb03.output, hb03.size, fun k hk _ => hb03.block k hk⟩ (by cases hv : (Value.slice a9 m c9).ownBlock <;> simp)
      have hb13 := hb.trans (hb03.mono hsz)
      have hsz3 := hb13.size
      clear hbA hb3 hb03 hb HO C hcv
      replace hown3 := hide hown3
      go_wp2_with (at_builtin; refine Lib.wpList_append_own_string _ rfl (.tmp 35) (.tmp 36) 31 9 rfl w.heap.size 5 i0 Try.underlying31 Try.underlying9 hi hz0 hz1 hz2 _ m _ rfl (unhide hown3) tn rfl (by unfold maxLen; omega) (by omega) hsz3 ?_; intro v4 w4 hown4 hg4 _)
      have hb4 := hb13.grown hg4 hsz3 (fun k hk => ((unhide hown3).lt k hk).1)
      have hown5 : OwnB w4 w.heap.size 5 v4 (exL key info (j + 1)) := by
        unfold OwnB
        rw [unhide HLs, List.length_append, hjl, List.map_append]
        exact hown4
      replace hown5 := hide hown5
      clear hown4 hg4 hown3 hb13 HLs
      go_wp2
      have q1 := unhide hi1
      have q2 := unhide hm
      exact ⟨⟨j + 1, by omega, by go_num, by rw [unhide htn], hown5, hb4⟩, by simp [intOf]; omega⟩
    · have hlt' : ¬ (m : Int) < (n : Int) := by omega
      have hje : j = (n + 31) / 32 := by omega
      have HB := hide (show exB key info n = ⟨((exL key info j).take n).toArray⟩ by unfold exB; rw [hje])
      have h9 : wr.ownsRow w.heap.size 5 1 u8 m ((exL key info j).map bv) := by
        have := unhide HO
        unfold OwnB at this
        rw [hjl] at this
        exact this
      have hnl : ((exL key info j).take n).length = n := by rw [List.length_take, hjl]; omega
      replace hje := hide hje
      replace hm := hide hm
      rcases h9.2 with ⟨hv, hm0⟩ | ⟨g, cap, cur, hv, _, _, hmc, _⟩
      · subst hv
        have hn0 : n = 0 := by omega
        subst hn0
        have hcn := run_convert_bytes_nil (P := Try.prog) wr 31 5 Try.underlying31 Try.underlying5 0 0 9 Try.underlying9
        clear h9 HO
        go_wp2
        refine bodyPost_ret (v := .tuple #[.string ByteArray.empty, .bool true]) (by simp [results, Try.results9, go_sem]) rfl ⟨by rw [unhide HB]; rfl, hb⟩
      · have hcell := h9.cells (g := g) (by rw [hv]; rfl)
        subst hv
        have hcv := run_convert_bytes_back (P := Try.prog) wr 31 9 5 ⟨g, 0, none⟩ cap ((exL key info j).take n) Try.underlying31 Try.underlying5 Try.underlying9 (fun q hq => by
          apply hcell q
          rw [hnl] at hq
          rw [List.getElem?_map, List.getElem_take, List.getElem?_eq_getElem (by omega)]
          rfl)
        rw [hnl] at hcv
        have hnc : (n : Int) ≤ (cap : Int) := by omega
        clear h9 HO hcell
        go_wp2
        refine bodyPost_ret (v := .tuple #[.string ⟨((exL key info j).take n).toArray⟩, .bool true]) (by simp [results, Try.results9, go_sem]) rfl ⟨by rw [unhide HB], hb⟩
set_option maxRecDepth 20000 in
set_option maxHeartbeats 400000 in
theorem implExpand_no (key info : ByteArray) (z : Int) (hz : z < 0 ∨ 8160 < z) (w : World) :
    Calls Try.prog 9 #[.string key, .string info, .int .i64 z] w fun e w' => e = .returned (.tuple #[.string ⟨#[]⟩, .bool false]) ∧ Below w.heap.size w w' := by
  by_cases h1 : z < 0
  · go_enter Try.func9, Try.ntmps9
    go_wp2
    refine bodyPost_ret (v := .tuple #[.string ⟨#[]⟩, .bool false]) (by simp [results, Try.results9, go_sem]) rfl ⟨rfl, Below.refl _ _⟩
  · have h2 : (8160 : Int) < z := by omega
    go_enter Try.func9, Try.ntmps9
    go_wp2
    refine bodyPost_ret (v := .tuple #[.string ⟨#[]⟩, .bool false]) (by simp [results, Try.results9, go_sem]) rfl ⟨rfl, Below.refl _ _⟩
set_option maxRecDepth 20000 in
set_option maxHeartbeats 400000 in
theorem specByte_any (x : Nat) (hx : x < 256) (w : World) :
    Calls Try.prog 16 #[.int .i64 (x : Int)] w fun e w' => e = .returned (.string (oneB x)) ∧ Below w.heap.size w w' := by
  have e1 : (x : Int).tmod 256 = (x : Int) := by rw [Int.tmod_eq_emod_of_nonneg (by omega)]; omega
  have e2 : (x : Int) % 256 = (x : Int) := by omega
  have e3 : ¬ (x : Int) < 0 := by omega
  have ew : IntKind.u8.wrap (x : Int) = (x : Int) := by rw [IntKind.wrap_u8]; omega
  have hcv := conv_one w x hx
  have hb : Below w.heap.size w (w.alloc (.cells #[.int .u8 (x : Int)] 5)) := (Below.refl w.heap.size w).alloc (Nat.le_refl _) _
  go_enter Try.func16, Try.ntmps16
  go_wp2
  go_ret
  exact ⟨rfl, hb⟩
set_option maxRecDepth 20000 in
theorem l01In_true (x lo hi : Int) (h1 : lo ≤ x) (h2 : x ≤ hi) (w : World) :
    Calls Try.prog 15 #[.int .i64 x, .int .i64 lo, .int .i64 hi] w fun e w' => e = .returned (.bool true) ∧ w' = w := by
  go_enter Try.func15, Try.ntmps15
  go_wp2
  go_ret
  exact ⟨by simp, rfl⟩
set_option maxRecDepth 20000 in
set_option maxHeartbeats 400000 in
theorem specExpand_yes (key info : ByteArray) (hk : key.size ≤ 1048576) (hf : info.size ≤ 1048576) (n : Nat) (hn : n ≤ 8160) (w : World) :
    Calls Try.prog 8 #[.string key, .string info, .int .i64 (n : Int)] w fun e w' => e = .returned (.tuple #[.string (exB key info n), .bool true]) ∧ Below w.heap.size w w' := by
  obtain ⟨i0, hi, hz0, hz1, hz2⟩ := info_parts Try.infoByte
  have h1 : (0 : Int) ≤ (n : Int) := by omega
  have h2 : (n : Int) ≤ 8160 := by omega
  go_enter Try.func8, Try.ntmps8
  go_wp2_with (go_at_call 15; refine (l01In_true (n : Int) 0 8160 h1 h2 _).mono ?_; rintro e w1 ⟨rfl, hw1⟩; have hw1' := hw1.symm; subst hw1'; clear hw1)
  go_loopw [8, 9, 10] (fun tv tl ti wq => ∃ j : Nat, j ≤ (n + 31) / 32 ∧ ti = .int .i64 ((j + 1 : Nat) : Int) ∧ tl = .string (exT key info j) ∧ Hid (OwnB wq w.heap.size 5 tv (exL key info j)) ∧ Below w.heap.size w wq) (fun _ _ ti _ => 1000 - (intOf ti).toNat)
  case atStart => exact ⟨0, by omega, rfl, rfl, hide (World.ownsRow_made w #[] 0 (Nat.le_refl _) (by decide) (by simp)), (Below.refl _ _).alloc (Nat.le_refl _) _⟩
  case round =>
    obtain ⟨j, hj, rfl, rfl, HO, hb⟩ := hrel
    have hjl := exL_len key info j
    have hjb : j ≤ 255 := by omega
    obtain ⟨m, hm⟩ : ∃ m, m = 32 * j := ⟨_, rfl⟩
    rw [← hm] at hjl
    by_cases hlt : m < n
    · have hlt' : (m : Int) < (n : Int) := by omega
      obtain ⟨a9, c9, hv9⟩ : ∃ a c, u8 = .slice a m c := by
        have h9 : wr.ownsRow w.heap.size 5 1 u8 (exL key info j).length ((exL key info j).map bv) := unhide HO
        rw [hjl] at h9
        rcases h9.2 with ⟨h, h'⟩ | ⟨g, cap, cur, h, _⟩
        · exact ⟨none, 0, by rw [h, h']⟩
        · exact ⟨_, cap, h⟩
      subst hv9
      obtain ⟨i1, hi1⟩ : ∃ i1, i1 = j + 1 := ⟨_, rfl⟩
      rw [← hi1]
      have hi256 : i1 < 256 := by omega
      have hTj : exT key info (j + 1) = macB key (exT key info j ++ info ++ oneB i1) := by rw [hi1]; rfl
      have hs0 := exT_size key info j
      have hs1 : (oneB i1).size ≤ 1 := Nat.le_refl _
      have CB := hide (fun W => specByte_any i1 hi256 W)
      have hs2 : (exT key info j ++ info).size ≤ 1048700 := by rw [ByteArray.size_append]; omega
      have CM := hide (fun W => specMac_any key (exT key info j ++ info ++ oneB i1) hk (by rw [ByteArray.size_append]; omega) W)
      rw [← hTj] at CM
      have hsz := hb.size
      have hTs : (exT key info (j + 1)).size = 32 := macB_size _ _
      have HLs := hide (show exL key info (j + 1) = exL key info j ++ (exT key info (j + 1)).data.toList from rfl)
      generalize oneB i1 = ob at *
      obtain ⟨tn, htn⟩ : ∃ t, t = exT key info (j + 1) := ⟨_, rfl⟩
      rw [← htn] at CM hTs HLs hTj
      replace htn := hide htn
      generalize exT key info j = tl at *
      replace hTj := hide hTj
      replace hi1 := hide hi1
      replace hm := hide hm
      go_wp2_with fail
      refine ((unhide CB) wr).mono ?_
      rintro e w2 ⟨rfl, hb2⟩
      go_wp2_with fail
      refine ((unhide CM) w2).mono ?_
      rintro e w3 ⟨rfl, hb3⟩
      have hb03 := hb2.trans (hb3.mono hb2.size)
      have hcv := Lib.run_convert_string_bytes (P := Try.prog) w3 9 31 5 tn Try.underlying9 Try.underlying31 Try.underlying5
      have hmb := bytes_mb w3 5 tn
      have hb4 := bytes_below2 w3 5 tn
      generalize grownCap w3 tn.size 0 5 = cp at *
      generalize Lib.bytesWorld w3 5 tn = w4 at *
      have hb04 := hb03.trans (hb4.mono hb03.size)
      have hown4 : w4.ownsRow w.heap.size 5 1 (.slice a9 m c9) m ((exL key info j).map bv) := by
        have := unhide HO
        unfold OwnB at this
        rw [hjl] at this
        exact World.ownsRow.kept (row := none) this ⟨hb04.os, hb04.tape, hb04.output, hb04.size, fun k hk _ => hb04.block k hk⟩ (by cases hv : (Value.slice a9 m c9).ownBlock <;> simp)
      have hb14 := hb.trans (hb04.mono hsz)
      have hsz4 := hb14.size
      have hnews : ∀ q v, (tn.data.toList.map bv)[q]? = some v → w4.cell? ((⟨w3.heap.size, 0, none⟩ : Addr).add q) = some v := by
        intro q v hq
        have hadd : (⟨w3.heap.size, 0, none⟩ : Addr).add q = ⟨w3.heap.size, q, none⟩ := by unfold Addr.add; split <;> simp_all
        rw [hadd]
        rw [List.getElem?_map] at hq
        cases hb' : tn.data.toList[q]? with
        | none => rw [hb'] at hq; cases hq
        | some b' => rw [hb'] at hq; cases hq; exact hmb.cell hb'
      have hone : ∀ v ∈ tn.data.toList.map bv, v.oneCell' = true := by
        intro v hv
        obtain ⟨x, _, rfl⟩ := List.mem_map.1 hv
        rfl
      have hnl2 : (tn.data.toList.map bv).length = tn.size * 1 := by rw [List.length_map, Nat.mul_one]; rfl
      have h63 : m + tn.size ≤ maxLen := by unfold maxLen; omega
      have hbyt : (m + tn.size) * 1 ≤ 140737488355328 := by omega
      clear hmb hb4 hb04 hb03 hb2 hb3 hb HO CB CM
      replace hown4 := hide hown4
      replace hnews := hide hnews
      replace hnl2 := hide hnl2
      replace hTs := hide hTs
      go_wp2_with (at_builtin; refine wpList_append_own w4 rfl (.tmp 29) (.tmp 31) 31 rfl w.heap.size 5 i0 (.int .u8 0) 1 1 Try.underlying31 hi hz0 hz1 hz2 rfl (by decide) _ m _ rfl (unhide hown4) ⟨w3.heap.size, 0, none⟩ tn.size cp (tn.data.toList.map bv) rfl (unhide hnl2) (unhide hnews) hone h63 hbyt hsz4 ?_; intro v5 w5 hown5 hg5 _)
      have hb5 := hb14.grown hg5 hsz4 (fun k hk => ((unhide hown4).lt k hk).1)
      have hown6 : OwnB w5 w.heap.size 5 v5 (exL key info (j + 1)) := by
        unfold OwnB
        rw [unhide HLs, List.length_append, hjl, List.map_append]
        exact hown5
      replace hown6 := hide hown6
      clear hown5 hg5 hown4 hb14 HLs hcv hnews
      go_wp2
      have q1 := unhide hi1
      have q2 := unhide hm
      exact ⟨⟨j + 1, by omega, by go_num, by rw [unhide htn], hown6, hb5⟩, by simp [intOf]; omega⟩
    · have hlt' : ¬ (m : Int) < (n : Int) := by omega
      have hje : j = (n + 31) / 32 := by omega
      have HB := hide (show exB key info n = ⟨((exL key info j).take n).toArray⟩ by unfold exB; rw [hje])
      have h9 : wr.ownsRow w.heap.size 5 1 u8 m ((exL key info j).map bv) := by
        have := unhide HO
        unfold OwnB at this
        rw [hjl] at this
        exact this
      have hnl : ((exL key info j).take n).length = n := by rw [List.length_take, hjl]; omega
      replace hje := hide hje
      replace hm := hide hm
      rcases h9.2 with ⟨hv, hm0⟩ | ⟨g, cap, cur, hv, _, _, hmc, _⟩
      · subst hv
        have hn0 : n = 0 := by omega
        subst hn0
        have hcn := run_convert_bytes_nil (P := Try.prog) wr 31 5 Try.underlying31 Try.underlying5 0 0 9 Try.underlying9
        clear h9 HO
        go_wp2
        refine bodyPost_ret (v := .tuple #[.string ByteArray.empty, .bool true]) (by simp [results, Try.results8, go_sem]) rfl ⟨by rw [unhide HB]; rfl, hb⟩
      · have hcell := h9.cells (g := g) (by rw [hv]; rfl)
        subst hv
        have hcv := run_convert_bytes_back (P := Try.prog) wr 31 9 5 ⟨g, 0, none⟩ cap ((exL key info j).take n) Try.underlying31 Try.underlying5 Try.underlying9 (fun q hq => by
          apply hcell q
          rw [hnl] at hq
          rw [List.getElem?_map, List.getElem_take, List.getElem?_eq_getElem (by omega)]
          rfl)
        rw [hnl] at hcv
        have hnc : (n : Int) ≤ (cap : Int) := by omega
        clear h9 HO hcell
        go_wp2
        refine bodyPost_ret (v := .tuple #[.string ⟨((exL key info j).take n).toArray⟩, .bool true]) (by simp [results, Try.results8, go_sem]) rfl ⟨by rw [unhide HB], hb⟩
set_option maxRecDepth 20000 in
set_option maxHeartbeats 400000 in
theorem specExpand_no (key info : ByteArray) (z : Int) (hz : z < 0 ∨ 8160 < z) (w : World) :
    Calls Try.prog 8 #[.string key, .string info, .int .i64 z] w fun e w' => e = .returned (.tuple #[.string ⟨#[]⟩, .bool false]) ∧ Below w.heap.size w w' := by
  by_cases h1 : z < 0
  · have h1' : ¬ (0 : Int) ≤ z := by omega
    go_enter Try.func8, Try.ntmps8
    go_wp2
    refine bodyPost_ret (v := .tuple #[.string ⟨#[]⟩, .bool false]) (by simp [results, Try.results8, go_sem]) rfl ⟨rfl, Below.refl _ _⟩
  · have h1' : (0 : Int) ≤ z := by omega
    have h2 : ¬ z ≤ (8160 : Int) := by omega
    go_enter Try.func8, Try.ntmps8
    go_wp2
    refine bodyPost_ret (v := .tuple #[.string ⟨#[]⟩, .bool false]) (by simp [results, Try.results8, go_sem]) rfl ⟨rfl, Below.refl _ _⟩
set_option maxRecDepth 20000 in
set_option maxHeartbeats 400000 in
theorem lawExpand_any (a b : ByteArray) (z : Int) (w : World) :
    Calls Try.prog 4 #[.string a, .string b, .int .i64 z] w fun e w' => e = .returned (.bool true) ∧ Below w.heap.size w w' := by
  by_cases h1 : (1048576 : Int) < (a.size : Int)
  · go_enter Try.func4, Try.ntmps4
    go_wp2
    go_ret
    exact ⟨rfl, Below.refl _ _⟩
  by_cases h2 : (1048576 : Int) < (b.size : Int)
  · go_enter Try.func4, Try.ntmps4
    go_wp2
    go_ret
    exact ⟨rfl, Below.refl _ _⟩
  have C : ∃ (d : ByteArray) (t : Bool), (∀ W, Calls Try.prog 8 #[.string a, .string b, .int .i64 z] W fun e w' => e = .returned (.tuple #[.string d, .bool t]) ∧ Below W.heap.size W w') ∧ (∀ W, Calls Try.prog 9 #[.string a, .string b, .int .i64 z] W fun e w' => e = .returned (.tuple #[.string d, .bool t]) ∧ Below W.heap.size W w') := by
    by_cases hz : z < 0 ∨ 8160 < z
    · exact ⟨_, _, fun W => specExpand_no a b z hz W, fun W => implExpand_no a b z hz W⟩
    · obtain ⟨n, rfl⟩ : ∃ n : Nat, z = (n : Int) := ⟨z.toNat, by omega⟩
      exact ⟨_, _, fun W => specExpand_yes a b (by omega) (by omega) n (by omega) W, fun W => implExpand_yes a b (by omega) (by omega) n (by omega) W⟩
  obtain ⟨d, t, C1, C2⟩ := C
  replace C1 := hide C1
  replace C2 := hide C2
  go_enter Try.func4, Try.ntmps4
  go_wp2_with fail
  refine ((unhide C1) w).mono ?_
  rintro e w1 ⟨rfl, hb1⟩
  go_wp2_with fail
  refine ((unhide C2) w1).mono ?_
  rintro e w2 ⟨rfl, hb2⟩
  have hb12 := hb1.trans (hb2.mono hb1.size)
  clear hb1 hb2
  go_wp2
  go_ret
  exact ⟨rfl, hb12⟩
end Go.Proofs.Ytkidgllmhdfgaan
