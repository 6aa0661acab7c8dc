/- What impl.isPrintable and impl.PartsOf come to, over the loaded program. -/
import Derived.Test.YtoghcmcphfmcbajDoorPartsS
import Derived.Test.YtoghcmcphfmcbajDoorShelfF
namespace Go.Proofs.YtoghcmcphfmcbajDoor
open Go.RowKit

/-- Are all of it bytes that may stand in a line? (A name that the walk does not open.) -/
def allPr (l : List UInt8) : Bool := l.all prB

theorem ret_bool {a b : Bool} (h : b = a) : Ending.returned (.bool a) = .returned (.bool b) := by rw [h]

set_option maxHeartbeats 400000 in
theorem printable_any (s : ByteArray) (w : World) (hs : s.size ≤ 1048576) :
    Calls Tryd.prog 14 #[.string s] w fun e w' => e = .returned (.bool (allPr s.data.toList)) ∧ w' = w := by
  go_enter Tryd.func14, Tryd.ntmps14
  go_wp2
  go_loop [3] (fun ti => ∃ i : Nat, i ≤ s.size ∧ ti = .int .i64 i ∧ Hid (∀ c ∈ s.data.toList.take i, prB c = true)) (fun ti => s.size - (intOf ti).toNat)
  case atStart => exact ⟨0, Nat.zero_le _, rfl, hide (by simp)⟩
  case round =>
    obtain ⟨i, his, rfl, hpr⟩ := hrel
    by_cases hlt : i < s.size
    · have hbb : s[i].toNat < 256 := s[i].toNat_lt
      by_cases hp : 32 ≤ s[i].toNat ∧ s[i].toNat ≤ 126
      · have hx : Hid (∀ c ∈ s.data.toList.take (i + 1), prB c = true) := by
          intro c hc
          have := pt_take s 0 i (Nat.zero_le _) hlt
          simp only [List.drop_zero, Nat.sub_zero] at this
          rw [this, List.mem_append] at hc
          rcases hc with h1 | h1
          · exact unhide hpr c h1
          · simp only [List.mem_singleton] at h1; subst h1; exact (pr_iff _).2 hp
        obtain ⟨hp1, hp2⟩ := hp
        go_wp2
        go_round
        case rel => exact ⟨i + 1, by omega, by go_num, hx⟩
        case measure => simp [intOf]; omega
      · have hno : allPr s.data.toList = false := not_pr hlt (by rw [← Bool.not_eq_true, pr_iff]; exact hp)
        have HN := hide hno
        clear hno
        by_cases hc1 : s[i].toNat < 32
        · clear hp
          go_wp2
          go_ret
          exact ⟨ret_bool (unhide HN), rfl⟩
        · have hc2 : 126 < s[i].toNat := by omega
          clear hp
          go_wp2
          go_ret
          exact ⟨ret_bool (unhide HN), rfl⟩
    · have hall : allPr s.data.toList = true := by
        have hl : s.data.toList.length = s.size := rfl
        have := unhide hpr
        rw [List.take_of_length_le (by omega)] at this
        exact List.all_eq_true.2 this
      have HA := hide hall
      clear hall
      go_wp2
      go_ret
      exact ⟨ret_bool (unhide HA), rfl⟩

theorem gSpace : Tryd.prog.globalNamed "strings.asciiSpace" = some 0 := by kernel_rfl

set_option maxRecDepth 20000 in
set_option maxHeartbeats 1000000 in
theorem implParts_any (s : ByteArray) (w : World) (hs : s.size ≤ 1048576) (htab : Lib.TabIs Tryd.prog w "strings.asciiSpace" .u8 Lib.asciiSpaceTab) :
    Calls Tryd.prog 8 #[.string s] w fun e w' => PtEnd s.data.toList w e w' := by
  have hlz : s.data.toList.length = s.size := rfl
  by_cases hlong : (600 : Int) < (s.size : Int)
  · have HN := hide (show ¬ (s.data.toList.length ≤ 600 ∧ s.data.toList.all prB = true ∧ (Lib.fields s.data.toList).length ≤ 10) by omega)
    clear hlz htab
    go_enter Tryd.func8, Tryd.ntmps8
    go_wp2
    go_ret2
    exact PtEnd.no (unhide HN) (OwnV.nil _ _ _) (Below.refl _ _)
  · have hP := fun W => printable_any s W hs
    cases hall : allPr s.data.toList with
    | false =>
      have HN := hide (show ¬ (s.data.toList.length ≤ 600 ∧ s.data.toList.all prB = true ∧ (Lib.fields s.data.toList).length ≤ 10) from fun h => by rw [show s.data.toList.all prB = false from hall] at h; exact absurd h.2.1 (by decide))
      rw [hall] at hP
      have HP := hide hP
      clear hlz htab hP hall
      go_enter Tryd.func8, Tryd.ntmps8
      go_wp2_with (go_at_call 14; refine ((unhide HP) _).mono ?_; rintro e w1 ⟨rfl, rfl⟩)
      go_ret2
      exact PtEnd.no (unhide HN) (OwnV.nil _ _ _) (Below.refl _ _)
    | true =>
      have hascii : ∀ (j : Nat) b, s.data.toList[j]? = some b → b.toNat < 128 := by
        intro j b hj
        have := List.all_eq_true.1 hall b (List.mem_of_getElem? hj)
        rw [pr_iff] at this
        omega
      have hF := Tryd.strings_Fields s w (by omega) hascii htab
      rw [hall] at hP
      have HP := hide hP
      have HAll := hide hall
      have H6 := hide (show s.data.toList.length ≤ 600 by omega)
      have hfe : Hid (∀ fs, fs = Lib.fields s.data.toList → True) := fun _ _ => trivial
      obtain ⟨fs, hfs⟩ : ∃ fs, fs = Lib.fields s.data.toList := ⟨_, rfl⟩
      rw [← hfs] at hF
      have HF := hide hF
      have HFS := hide hfs
      clear hlz htab hP hall hascii hF hfs hfe
      have HFL : Hid (∀ f ∈ fs, f.length ≤ 600) := by
        intro f hf
        rw [unhide HFS] at hf
        have h1 := fieldsGo_mem_len s.data.toList [] f hf
        have h2 := unhide H6
        simp only [List.length_nil] at h1
        omega
      by_cases hten : 10 < fs.length
      · have HN := hide (show ¬ (s.data.toList.length ≤ 600 ∧ s.data.toList.all prB = true ∧ (Lib.fields s.data.toList).length ≤ 10) by rw [← unhide HFS]; omega)
        have hten' : (10 : Int) < (fs.length : Int) := by omega
        go_enter Tryd.func8, Tryd.ntmps8
        go_wp2_with (first
          | (go_at_call 14; refine ((unhide HP) _).mono ?_; rintro e w1 ⟨rfl, rfl⟩)
          | (go_at_call 15; refine (unhide HF).mono ?_; rintro e w1 ⟨rfl, hw⟩; subst hw))
        go_ret2
        exact PtEnd.no (unhide HN) (OwnV.nil _ _ _) ((Below.refl _ _).alloc (Nat.le_refl _) _)
      · have hten' : ¬ (10 : Int) < (fs.length : Int) := by omega
        go_enter Tryd.func8, Tryd.ntmps8
        go_wp2_with (first
          | (go_at_call 14; refine ((unhide HP) _).mono ?_; rintro e w1 ⟨rfl, rfl⟩)
          | (go_at_call 15; refine (unhide HF).mono ?_; rintro e w1 ⟨rfl, hw⟩; subst hw))
        go_loopw [22] (fun ti wr => ∃ k : Nat, k ≤ fs.length ∧ ti = .int .i64 k ∧ OwnV wr w1.heap.size 9 (.slice (some ⟨w1.heap.size, 0, none⟩) fs.length fs.length) (fs.map strv) ∧ Below w1.heap.size w1 wr) (fun ti _ => fs.length - (intOf ti).toNat)
        case atStart =>
          refine ⟨0, Nat.zero_le _, rfl, ?_, (Below.refl _ _).alloc (Nat.le_refl _) _⟩
          refine ⟨by simp, .inr ⟨w1.heap.size, fs.length, (fs.map strv).toArray, by rw [List.length_map], Nat.le_refl _, heap_alloc_new w1 _, by rw [List.length_map]; exact Nat.le_refl _, by unfold maxLen; omega, by simp, by rw [Nat.mul_one]; exact List.take_of_length_le (Nat.le_refl _)⟩⟩
        case round =>
          obtain ⟨k, hk, rfl, hown, hb⟩ := hrel
          have hsz := hb.size
          by_cases hlt : k < fs.length
          · have hxk : (fs.map strv)[k]? = some (strv fs[k]) := by rw [List.getElem?_map, List.getElem?_eq_getElem hlt]; rfl
            have hset : (fs.map strv).set k (strv fs[k]) = fs.map strv := by
              apply List.ext_getElem?
              intro j
              rw [List.getElem?_set]
              split
              · rename_i h; subst h; rw [hxk]; simp [hlt]
              · rfl
            obtain ⟨x, hx⟩ : ∃ x : ByteArray, x = ⟨fs[k].toArray⟩ := ⟨_, rfl⟩
            have hxs : strv fs[k] = .string x := by rw [hx]; rfl
            have hxl : x.size ≤ 281474976710656 := by
              have h1 := unhide HFL fs[k] (List.getElem_mem hlt)
              have h3 : x.size = fs[k].length := by rw [hx]; simp [ByteArray.size]
              omega
            rw [hxs] at hxk hset
            have hc0 := hown.cell hxk
            have HX := hide hxk
            have HS := hide hset
            clear hxk hset hxs hx
            go_wp2_with (first
              | (go_at_call 21; refine (Tryd.stringslite_Clone _ _ hxl).mono ?_; rintro e w2 ⟨rfl, hb2⟩; have hown2 := hown.below hb2; have hc2 := hown2.cell (unhide HX); have hf2 := hown2.frozen k)
              | go_in)
            have hown3 := hown2.set k (.string x)
            rw [unhide HS] at hown3
            go_roundw
            case rel => exact ⟨k + 1, by omega, by go_num, hown3, (hb.trans (hb2.mono hsz)).setCell (Nat.le_refl _) _⟩
            case measure => simp [intOf]; omega
          · have hyes := hide (show s.data.toList.length ≤ 600 ∧ s.data.toList.all prB = true ∧ (Lib.fields s.data.toList).length ≤ 10 from ⟨unhide H6, unhide HAll, by rw [← unhide HFS]; omega⟩)
            go_wp2
            go_ret2
            refine PtEnd.yes (unhide hyes).1 (unhide hyes).2.1 (unhide hyes).2.2 ?_ hb
            rw [← unhide HFS]; exact hown
end Go.Proofs.YtoghcmcphfmcbajDoor
