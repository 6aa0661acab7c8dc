/- What spec.ReadDecimal and impl.ReadDecimal come to, over the loaded program; the law of the two, walked. -/
import Derived.Test.YthoeebdibhdeoaaDoorDecimal
namespace Go.Proofs.YthoeebdibhdeoaaDoor
open Go.RowKit

/-- The two results of ReadDecimal. -/
def rdTup : Option Nat → Value
  | none => .tuple #[.int .i64 0, .bool false]
  | some n => .tuple #[.int .i64 (n : Int), .bool true]
theorem rdTup_none {x : Option Nat} (h : x = none) : Ending.returned (.tuple #[.int .i64 0, .bool false]) = .returned (rdTup x) := by subst h; rfl
theorem rdTup_some {x : Option Nat} {n : Nat} (h : x = some n) : Ending.returned (.tuple #[.int .i64 (n : Int), .bool true]) = .returned (rdTup x) := by subst h; rfl

theorem rdB_fig {l : List UInt8} {i : Nat} (hi : i < l.length) (h : isFig l[i] = false) : rdB l = none := by
  unfold rdB
  rw [if_neg]
  intro ⟨h1, _⟩
  rw [List.all_eq_true] at h1
  have := h1 l[i] (List.getElem_mem hi)
  rw [h] at this
  cases this
theorem rdB_big {l : List UInt8} {i : Nat} (h : 1000000000 < valB (l.take i)) : rdB l = none := by
  unfold rdB
  rw [if_neg]
  intro ⟨_, h2, _⟩
  have := valB_append_ge (l.take i) (l.drop i)
  rw [List.take_append_drop] at this
  omega
theorem rdB_plain {l : List UInt8} (h : ¬ plainFigs l) : rdB l = none := by
  unfold rdB
  rw [if_neg]
  intro ⟨h1, _, h3⟩
  rw [List.all_eq_true] at h1
  exact h ((decB_iff h1).1 h3)
theorem rdB_some {l : List UInt8} (hf : ∀ c ∈ l, isFig c = true) (hb : valB l ≤ 1000000000) (hp : plainFigs l) : rdB l = some (valB l) := by
  unfold rdB
  rw [if_pos]
  exact ⟨List.all_eq_true.2 hf, hb, (decB_iff hf).2 hp⟩
theorem rdB_long {l : List UInt8} (h : 10 < l.length) : rdB l = none := by
  by_cases hp : plainFigs l
  · unfold rdB
    rw [if_neg]
    intro ⟨h1, h2, _⟩
    rw [List.all_eq_true] at h1
    cases l with
    | nil => simp at h
    | cons c t =>
      have hc := h1 c (by simp)
      simp only [isFig, decide_eq_true_eq] at hc
      have hh := hp.2 (by omega)
      have h3 : c.toNat ≠ 48 := by
        intro e
        apply hh
        simp only [List.head?_cons, Option.some.injEq]
        apply UInt8.toNat_inj.1; rw [e]; rfl
      have hv := valB_cons_ge c t (by omega)
      have hl : 10 ≤ t.length := by simp at h; omega
      have := Nat.pow_le_pow_right (n := 10) (by decide) hl
      have e10 : 10 ^ 10 = 10000000000 := by decide
      omega
  · exact rdB_plain hp

/-- The figures ahead of the place i are figures, and stand for n. -/
structure RdAt (s : ByteArray) (i n : Nat) : Prop where
  figs : ∀ c ∈ s.data.toList.take i, isFig c = true
  val : n = valB (s.data.toList.take i)
theorem RdAt.start (s : ByteArray) : RdAt s 0 0 := ⟨by simp, by simp [valB_nil]⟩
theorem RdAt.next {s : ByteArray} {i n : Nat} (h : RdAt s i n) (hi : i < s.size) (hc : 48 ≤ s[i].toNat ∧ s[i].toNat ≤ 57) : RdAt s (i + 1) (10 * n + (s[i].toNat - 48)) := by
  refine ⟨?_, ?_⟩
  · intro c hcm
    rw [take_step0 s i hi, List.mem_append] at hcm
    rcases hcm with h1 | h1
    · exact h.figs c h1
    · simp only [List.mem_singleton] at h1
      subst h1
      simp only [isFig, decide_eq_true_eq]
      exact hc
  · rw [take_step0 s i hi, valB_snoc, ← h.val]
theorem RdAt.lt {s : ByteArray} {i n : Nat} (h : RdAt s i n) (hi : i ≤ s.size) : n < 10 ^ i := by
  have := valB_lt _ h.figs
  rw [← h.val, List.length_take] at this
  have hl : s.data.toList.length = s.size := rfl
  rw [hl, Nat.min_eq_left hi] at this
  exact this
theorem RdAt.all {s : ByteArray} {i n : Nat} (h : RdAt s i n) (hi : ¬ i < s.size) : (∀ c ∈ s.data.toList, isFig c = true) ∧ n = valB s.data.toList := by
  have hl : s.data.toList.length = s.size := rfl
  have : s.data.toList.take i = s.data.toList := List.take_of_length_le (by omega)
  have h1 := h.figs
  have h2 := h.val
  rw [this] at h1 h2
  exact ⟨h1, h2⟩
theorem not_fig {s : ByteArray} {i : Nat} (hi : i < s.size) (hc : ¬ (48 ≤ s[i].toNat ∧ s[i].toNat ≤ 57)) : rdB s.data.toList = none := by
  refine rdB_fig (i := i) hi ?_
  show isFig s[i] = false
  simp only [isFig, decide_eq_false_iff_not]
  exact hc


theorem plain_of {s : ByteArray} (h0 : 0 < s.size) (h1 : 1 < s.size → s[0].toNat ≠ 48) : plainFigs s.data.toList := by
  have hl : s.data.toList.length = s.size := rfl
  refine ⟨fun e => by rw [e] at hl; simp at hl; omega, fun h hh => ?_⟩
  have h2 := h1 (by omega)
  have : s.data.toList.head? = some s[0] := by
    rw [List.head?_eq_getElem?, List.getElem?_eq_getElem (by omega)]; rfl
  rw [this] at hh
  simp only [Option.some.injEq] at hh
  rw [hh] at h2
  exact h2 rfl
theorem not_plain {s : ByteArray} (h1 : 1 < s.size) (h2 : s[0].toNat = 48) : ¬ plainFigs s.data.toList := by
  intro hp
  have hl : s.data.toList.length = s.size := rfl
  apply hp.2 (by omega)
  rw [List.head?_eq_getElem?, List.getElem?_eq_getElem (by omega)]
  simp only [Option.some.injEq]
  apply UInt8.toNat_inj.1
  exact h2

set_option maxHeartbeats 1000000 in
theorem implRD_any (s : ByteArray) (w : World) (hs : s.size ≤ 1048576) :
    Calls Tryd.prog 9 #[.string s] w fun e w' => e = .returned (rdTup (rdB s.data.toList)) ∧ Below w.heap.size w w' := by
  by_cases h0 : s.size = 0
  · have hfin := hide (rdB_plain (l := s.data.toList) (fun hp => hp.1 (List.length_eq_zero_iff.1 h0)))
    have h1 : ¬ (1 : Int) < (s.size : Int) := by omega
    have he : s.toList = [] := by rw [ByteArray.toList_eq]; exact List.length_eq_zero_iff.1 h0
    go_enter Tryd.func9, Tryd.ntmps9
    go_wp2
    go_step3
    go_wp2
    try rw [Exit.noGoto_ret]
    go_ret2
    exact ⟨rdTup_none (unhide hfin), Below.refl _ _⟩
  · have hpos : 0 < s.size := by omega
    have hne : (s.toList == []) = false := by
      rw [ByteArray.toList_eq, beq_eq_false_iff_ne]; intro e; apply h0; exact List.length_eq_zero_iff.2 e
    by_cases hz : 1 < s.size ∧ s[0].toNat = 48
    · have hfin := hide (rdB_plain (not_plain hz.1 hz.2))
      have h1 : (1 : Int) < (s.size : Int) := by omega
      have h2 : ((s[0].toNat : Int) == 48) = true := by rw [beq_iff_eq]; omega
      clear hz h0
      go_enter Tryd.func9, Tryd.ntmps9
      go_wp2
      go_step3
      go_wp2
      try rw [Exit.noGoto_ret]
      go_ret2
      exact ⟨rdTup_none (unhide hfin), Below.refl _ _⟩
    · have hp := plain_of hpos (fun h h' => hz ⟨h, h'⟩)
      go_enter Tryd.func9, Tryd.ntmps9
      go_wp2
      go_step3
      go_wp2
      all_goals
        go_step3
        go_wp2
        go_loop [5, 6] (fun tn ti => ∃ i n : Nat, i ≤ s.size ∧ n ≤ 10000000009 ∧ RdAt s i n ∧ tn = .int .i64 n ∧ ti = .int .i64 i) (fun _ ti => s.size - (intOf ti).toNat)
        case atStart => exact ⟨0, 0, Nat.zero_le _, by omega, RdAt.start s, rfl, rfl⟩
        case round =>
          obtain ⟨i, n, his, hnn, hat, rfl, rfl⟩ := hrel
          clear hz h0
          by_cases hlt : i < s.size
          · have hbb : s[i].toNat < 256 := s[i].toNat_lt
            by_cases hc : 48 ≤ s[i].toNat ∧ s[i].toNat ≤ 57
            · by_cases hbig : 1000000000 < n
              · have hfin := hide (rdB_big (l := s.data.toList) (i := i) (by rw [← hat.val]; exact hbig))
                obtain ⟨hc1, hc2⟩ := hc
                have hbig' : (1000000000 : Int) < (n : Int) := by omega
                clear hbig
                go_wp2
                try rw [Exit.noGoto_ret]
                go_ret2
                exact ⟨rdTup_none (unhide hfin), Below.refl _ _⟩
              · have hx := hat.next hlt hc
                obtain ⟨hc1, hc2⟩ := hc
                have hbig' : ¬ (1000000000 : Int) < (n : Int) := by omega
                have hnn' : n ≤ 1000000000 := by omega
                clear hbig
                go_wp2
                go_round
                case rel =>
                  have e1 : (10 : Int) * (n : Int) + ((s[i].toNat : Int) - 48) = ((10 * n + (s[i].toNat - 48) : Nat) : Int) := by omega
                  first
                    | exact ⟨i + 1, Nat.succ_le_of_lt hlt, 10 * n + (s[i].toNat - 48), (by omega : 10 * n + (s[i].toNat - 48) ≤ 10000000009), hx, e1, rfl⟩
                    | (refine ⟨i + 1, 10 * n + (s[i].toNat - 48), Nat.succ_le_of_lt hlt, (by omega : 10 * n + (s[i].toNat - 48) ≤ 10000000009), hx, ?_, rfl⟩; rw [e1])
                case measure => simp [intOf]; omega
            · have hfin := hide (not_fig hlt hc)
              by_cases hc1 : s[i].toNat < 48
              · clear hc
                go_wp2
                try rw [Exit.noGoto_ret]
                go_ret2
                exact ⟨rdTup_none (unhide hfin), Below.refl _ _⟩
              · have hc2 : 57 < s[i].toNat := by omega
                clear hc
                go_wp2
                try rw [Exit.noGoto_ret]
                go_ret2
                exact ⟨rdTup_none (unhide hfin), Below.refl _ _⟩
          · obtain ⟨hf, hv⟩ := hat.all hlt
            have hall : s.data.toList.take s.size = s.data.toList := List.take_of_length_le (Nat.le_refl _)
            by_cases hbig : 1000000000 < n
            · have hfin := hide (rdB_big (l := s.data.toList) (i := s.size) (by rw [hall, ← hv]; exact hbig))
              have hbig' : (1000000000 : Int) < (n : Int) := by omega
              clear hbig hf hv hall
              go_wp2
              try rw [Exit.noGoto_ret]
              go_ret2
              exact ⟨rdTup_none (unhide hfin), Below.refl _ _⟩
            · have hfin := rdB_some hf (by omega) hp
              rw [← hv] at hfin
              have HF := hide hfin
              have hbig' : ¬ (1000000000 : Int) < (n : Int) := by omega
              clear hbig hf hv hall hfin
              go_wp2
              try rw [Exit.noGoto_ret]
              go_ret2
              exact ⟨rdTup_some (unhide HF), Below.refl _ _⟩



end Go.Proofs.YthoeebdibhdeoaaDoor
