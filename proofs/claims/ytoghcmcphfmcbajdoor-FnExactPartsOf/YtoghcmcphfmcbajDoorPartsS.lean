/- What spec.PartsOf comes to, over the loaded program. -/
import Derived.Test.YtoghcmcphfmcbajDoorChecked
import Derived.Test.YtoghcmcphfmcbajDoorStrs
import Derived.Test.YtoghcmcphfmcbajDoorPt
namespace Go.Proofs.YtoghcmcphfmcbajDoor
open Go.RowKit

theorem Tryd.infoS : (Tryd.prog.info? 9).map (fun i => (i.zero, i.size, i.bytes)) = some (some (.string ByteArray.empty), 1, 16) := by kernel_rfl

/-- What a call of PartsOf leaves: the parts in a row of its own, and the flag. -/
def PtEnd (l : List UInt8) (w : World) (e : Ending) (w' : World) : Prop := ∃ v, e = .returned (.tuple #[v, .bool (ptRes l).2]) ∧ OwnV w' w.heap.size 9 v ((ptRes l).1.map strv) ∧ Below w.heap.size w w'

theorem PtEnd.no {l : List UInt8} (h : ¬ (l.length ≤ 600 ∧ l.all prB = true ∧ (Lib.fields l).length ≤ 10)) {w w' : World} {v : Value} (ho : OwnV w' w.heap.size 9 v []) (hb : Below w.heap.size w w') : PtEnd l w (.returned (.tuple #[v, .bool false])) w' := by
  refine ⟨v, ?_, ?_, hb⟩
  · rw [ptRes_no h]
  · rw [ptRes_no h]; exact ho
theorem PtEnd.yes {l : List UInt8} (h1 : l.length ≤ 600) (h2 : l.all prB = true) (h3 : (Lib.fields l).length ≤ 10) {w w' : World} {v : Value} (ho : OwnV w' w.heap.size 9 v ((Lib.fields l).map strv)) (hb : Below w.heap.size w w') : PtEnd l w (.returned (.tuple #[v, .bool true])) w' := by
  refine ⟨v, ?_, ?_, hb⟩
  · rw [ptRes_yes h1 h2 h3]
  · rw [ptRes_yes h1 h2 h3]; exact ho
theorem made_nil (w : World) (base : Nat) (hb : base ≤ w.heap.size) : OwnV (w.alloc (.cells #[] 9)) base 9 (.slice (some ⟨w.heap.size, 0, none⟩) 0 0) [] :=
  World.ownsRow_made w #[] 0 hb (by decide) (by simp)

theorem pr_iff (b : UInt8) : prB b = true ↔ 32 ≤ b.toNat ∧ b.toNat ≤ 126 := by simp only [prB, decide_eq_true_eq]

set_option maxRecDepth 20000 in
set_option maxHeartbeats 1000000 in
theorem specParts_any (s : ByteArray) (w : World) (hs : s.size ≤ 1048576) :
    Calls Tryd.prog 7 #[.string s] w fun e w' => PtEnd s.data.toList w e w' := by
  obtain ⟨i0, hi, hz0, hz1, hz2⟩ := info_parts Tryd.infoS
  have hlz : s.data.toList.length = s.size := rfl
  by_cases hlong : (600 : Int) < (s.size : Int)
  · have hno : ¬ (s.data.toList.length ≤ 600 ∧ s.data.toList.all prB = true ∧ (Lib.fields s.data.toList).length ≤ 10) := by omega
    have HN := hide hno
    clear hno hlz
    go_enter Tryd.func7, Tryd.ntmps7
    go_wp2
    go_ret2
    exact PtEnd.no (unhide HN) (made_nil w _ (Nat.le_refl _)) ((Below.refl _ _).alloc (Nat.le_refl _) _)
  · have h600 : s.size ≤ 600 := by omega
    clear hlong
    have HL := hide hlz
    clear hlz
    go_enter Tryd.func7, Tryd.ntmps7
    go_wp2
    go_loopw [4, 5, 6] (fun v tb ti wr => ∃ (i b : Nat) (out : List (List UInt8)), i ≤ s.size + 1 ∧ b ≤ s.size + 1 ∧ out.length ≤ 601 ∧ ti = .int .i64 i ∧ tb = .int .i64 b ∧ OwnV wr w.heap.size 9 v (out.map strv) ∧ Below w.heap.size w wr ∧ Hid (PtAt s i b out ∨ (i = s.size + 1 ∧ s.data.toList.all prB = true ∧ out = Lib.fields s.data.toList)))
      (fun _ _ ti _ => s.size + 1 - (intOf ti).toNat)
    case atStart => exact ⟨0, 0, [], by omega, by omega, by simp, rfl, rfl, made_nil w _ (Nat.le_refl _), (Below.refl _ _).alloc (Nat.le_refl _) _, .inl (PtAt.start s)⟩
    case round =>
      obtain ⟨i, b, out, his, hbs, hout, rfl, rfl, hown, hb, hcase⟩ := hrel
      have hsz := hb.size
      by_cases hlt : i < s.size
      · have hat : PtAt s i b out := by
          rcases unhide hcase with h | ⟨h, _⟩
          · exact h
          · omega
        clear hcase
        have HAT := hide hat
        have hbi := hat.bi
        have hlen := hat.len
        clear hat
        have hle : (i : Int) ≤ (s.size : Int) := by omega
        have hbb : s[i].toNat < 256 := s[i].toNat_lt
        by_cases hp : 32 ≤ s[i].toNat ∧ s[i].toNat ≤ 126
        · have hp' : prB s[i] = true := (pr_iff _).2 hp
          obtain ⟨hp1, hp2⟩ := hp
          by_cases hc : s[i].toNat = 32
          · have hc' : ((s[i].toNat : Int) == 32) = true := by rw [beq_iff_eq]; omega
            by_cases hbl : b < i
            · have hx := hide ((unhide HAT).cut hlt hc hbl)
              have he := hide (extract_strv s b i)
              have h3 : (b : Int) ≤ (i : Int) := by omega
              have h4 : (0 : Int) ≤ (b : Int) := by omega
              clear hc hp'
              go_wp2_with (at_builtin; refine wpList_append_vals rfl (.tmp 48) (.tmp 53) 24 rfl w.heap.size w.heap.size 9 i0 _ 16 Tryd.underlying24 hi hz0 hz1 hz2 rfl _ (out.map strv) rfl hown _ [strv ((s.data.toList.drop b).take (i - b))] (by rw [← unhide he]) (by intro u hu; simp only [List.mem_singleton] at hu; subst hu; rfl) 1 1 rfl rfl (by rw [List.length_map]; unfold maxLen; omega) (by rw [List.length_map]; omega) (Nat.le_refl _) hsz hb ?_; intro v' w1 hown' hb')
              clear hown hb
              go_wp2
              go_roundw
              case rel => exact ⟨i + 1, i + 1, out ++ [(s.data.toList.drop b).take (i - b)], by omega, by omega, by rw [List.length_append]; simp only [List.length_singleton]; omega, by go_num, by go_num, by rw [List.map_append]; exact hown', hb', hide (.inl (unhide hx))⟩
              case measure => simp [intOf]; omega
            · have hx := hide ((unhide HAT).skip hlt hc hbl)
              have hbl' : ¬ (b : Int) < (i : Int) := by omega
              clear hc hp' hbl
              go_wp2
              go_roundw
              case rel => exact ⟨i + 1, i + 1, out, by omega, by omega, by omega, by go_num, by go_num, hown, hb, hide (.inl (unhide hx))⟩
              case measure => simp [intOf]; omega
          · have hx := hide ((unhide HAT).more hlt hp' hc)
            have hc' : ((s[i].toNat : Int) == 32) = false := by rw [beq_eq_false_iff_ne]; omega
            clear hc hp'
            go_wp2
            go_roundw
            case rel => exact ⟨i + 1, b, out, by omega, by omega, by omega, by go_num, by go_num, hown, hb, hide (.inl (unhide hx))⟩
            case measure => simp [intOf]; omega
        · have hp' : prB s[i] = false := by rw [← Bool.not_eq_true, pr_iff]; exact hp
          have hno := hide (show ¬ (s.data.toList.length ≤ 600 ∧ s.data.toList.all prB = true ∧ (Lib.fields s.data.toList).length ≤ 10) from fun h => by
            have := not_pr hlt hp'; rw [h.2.1] at this; cases this)
          by_cases hc1 : s[i].toNat < 32
          · clear hp hp'
            go_wp2
            go_ret2
            exact PtEnd.no (unhide hno) (made_nil wr _ hsz) (hb.alloc hsz _)
          · have hc2 : 126 < s[i].toNat := by omega
            clear hp hp'
            go_wp2
            go_ret2
            exact PtEnd.no (unhide hno) (made_nil wr _ hsz) (hb.alloc hsz _)
      · by_cases hend : i = s.size
        · have hat : PtAt s i b out := by
            rcases unhide hcase with h | ⟨h, _⟩
            · exact h
            · omega
          clear hcase
          obtain ⟨hall, hf1, hf2⟩ := hat.fin hlt
          have hbi := hat.bi
          have hlen := hat.len
          clear hat
          have hle : (i : Int) ≤ (s.size : Int) := by omega
          by_cases hbl : b < i
          · have hx := hide (hf1 hbl)
            have HA := hide hall
            have he := hide (extract_strv s b i)
            have h3 : (b : Int) ≤ (i : Int) := by omega
            have h4 : (0 : Int) ≤ (b : Int) := by omega
            clear hf1 hf2 hall hend
            go_wp2_with (at_builtin; refine wpList_append_vals rfl (.tmp 48) (.tmp 53) 24 rfl w.heap.size w.heap.size 9 i0 _ 16 Tryd.underlying24 hi hz0 hz1 hz2 rfl _ (out.map strv) rfl hown _ [strv ((s.data.toList.drop b).take (i - b))] (by rw [← unhide he]) (by intro u hu; simp only [List.mem_singleton] at hu; subst hu; rfl) 1 1 rfl rfl (by rw [List.length_map]; unfold maxLen; omega) (by rw [List.length_map]; omega) (Nat.le_refl _) hsz hb ?_; intro v' w1 hown' hb')
            clear hown hb
            go_wp2
            go_roundw
            case rel => exact ⟨i + 1, i + 1, out ++ [(s.data.toList.drop b).take (i - b)], by omega, by omega, by rw [List.length_append]; simp only [List.length_singleton]; omega, by go_num, by go_num, by rw [List.map_append]; exact hown', hb', hide (.inr ⟨by omega, unhide HA, unhide hx⟩)⟩
            case measure => simp [intOf]; omega
          · have hx := hide (hf2 hbl)
            have HA := hide hall
            have hbl' : ¬ (b : Int) < (i : Int) := by omega
            clear hf1 hf2 hall hend hbl
            go_wp2
            go_roundw
            case rel => exact ⟨i + 1, i + 1, out, by omega, by omega, by omega, by go_num, by go_num, hown, hb, hide (.inr ⟨by omega, unhide HA, unhide hx⟩)⟩
            case measure => simp [intOf]; omega
        · have hd : i = s.size + 1 ∧ s.data.toList.all prB = true ∧ out = Lib.fields s.data.toList := by
            rcases unhide hcase with h | h
            · have := h.il; omega
            · exact h
          obtain ⟨hi1, hall, ho⟩ := hd
          clear hcase
          have hle : ¬ (i : Int) ≤ (s.size : Int) := by omega
          obtain ⟨va, vc, hv⟩ := hown.shape
          rw [List.length_map] at hv
          subst hv
          by_cases hten : 10 < out.length
          · have hno := hide (show ¬ (s.data.toList.length ≤ 600 ∧ s.data.toList.all prB = true ∧ (Lib.fields s.data.toList).length ≤ 10) from fun h => by rw [← ho] at h; omega)
            have hten' : (10 : Int) < (out.length : Int) := by omega
            clear hi1 hall ho hend
            go_wp2
            go_ret2
            exact PtEnd.no (unhide hno) (made_nil wr _ hsz) (hb.alloc hsz _)
          · have hten' : ¬ (10 : Int) < (out.length : Int) := by omega
            have hyes := hide (show s.data.toList.length ≤ 600 ∧ s.data.toList.all prB = true ∧ (Lib.fields s.data.toList).length ≤ 10 from ⟨by rw [unhide HL]; exact h600, hall, by rw [← ho]; omega⟩)
            have HO := hide ho
            clear hi1 hall ho hend
            go_wp2
            go_ret2
            refine PtEnd.yes (unhide hyes).1 (unhide hyes).2.1 (unhide hyes).2.2 ?_ hb
            rw [← unhide HO]; exact hown
end Go.Proofs.YtoghcmcphfmcbajDoor
