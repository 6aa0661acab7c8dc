/- What spec.Hex and impl.Hex come to, over the loaded program. -/
import Derived.Test.YtoghcmcphfmcbajChecked
import Derived.Test.YtoghcmcphfmcbajBase
import Derived.Deep.RegionWith
import Derived.Deep.RegionLaw
import Derived.Deep.RegionHeld3
namespace Go.Proofs.Ytoghcmcphfmcbaj
open Go.RowKit

theorem Try.infoBH : (Try.prog.info? 5).map (fun i => (i.zero, i.size, i.bytes)) = some (some (.int .u8 0), 1, 1) := by kernel_rfl

/-- The figure of a half byte. -/
def fig (n : Nat) : UInt8 := byteOf (if n < 10 then 48 + n else 87 + n)
/-- Two figures for each byte. -/
def hexB (l : List UInt8) : List UInt8 := l.flatMap fun b => [fig (b.toNat / 16), fig (b.toNat % 16)]
theorem fig_toNat {n : Nat} (h : n < 16) : (fig n).toNat = if n < 10 then 48 + n else 87 + n := by
  unfold fig; rw [byteOf_toNat]; split <;> omega
theorem hexB_len (l : List UInt8) : (hexB l).length = 2 * l.length := by
  unfold hexB; induction l with
  | nil => rfl
  | cons a t ih => rw [List.flatMap_cons, List.length_append, ih]; simp; omega
theorem hexB_snoc (l : List UInt8) (b : UInt8) : hexB (l ++ [b]) = hexB l ++ [fig (b.toNat / 16), fig (b.toNat % 16)] := by
  unfold hexB; simp

theorem figure_any (n : Nat) (w : World) (h : n < 16) :
    Calls Try.prog 18 #[.int .i64 n] w fun e w' => e = .returned (.int .u8 (fig n).toNat) ∧ w' = w := by
  rw [fig_toNat h]
  by_cases hlt : n < 10
  · have h' : (n : Int) < 10 := by omega
    rw [if_pos hlt]
    go_enter Try.func18, Try.ntmps18
    go_wp2
    go_ret
    exact ⟨by simp, rfl⟩
  · have h' : ¬ (n : Int) < 10 := by omega
    rw [if_neg hlt]
    go_enter Try.func18, Try.ntmps18
    go_wp2
    go_ret
    exact ⟨by simp; omega, rfl⟩

theorem cs_two {c d : Int} {a b : UInt8} (h : c = (a.toNat : Int)) (h' : d = (b.toNat : Int)) : (#[Value.int .u8 c, Value.int .u8 d] : Array Value).toList = [a, b].map bv := by simp [bv, h, h']

theorem take_step0 (s : ByteArray) (k : Nat) (h : k < s.size) : s.data.toList.take (k + 1) = s.data.toList.take k ++ [s[k]] := by
  rw [List.take_succ_eq_append_getElem (by simpa using h)]; rfl

set_option maxRecDepth 20000 in
set_option maxHeartbeats 400000 in
theorem specHex_any (s : ByteArray) (w : World) (hs : s.size ≤ 20000) :
    Calls Try.prog 9 #[.string s] w fun e w' => e = .returned (.tuple #[.string ⟨(hexB s.data.toList).toArray⟩, .bool true]) ∧ Below w.heap.size w w' := by
  obtain ⟨i0, hi, hz0, hz1, hz2⟩ := info_parts Try.infoBH
  have h0 : ¬ (20000 : Int) < (s.size : Int) := by omega
  go_enter Try.func9, Try.ntmps9
  go_wp2
  go_loopw [4, 5] (fun v i wr => ∃ k : Nat, k ≤ s.size ∧ i = .int .i64 k ∧ OwnB wr w.heap.size 5 v (hexB (s.data.toList.take k)) ∧ Below w.heap.size w wr)
    (fun _ i _ => s.size - (intOf i).toNat)
  case atStart => exact ⟨0, Nat.zero_le _, rfl, World.ownsRow_made w #[] 0 (Nat.le_refl _) (by decide) (by simp), (Below.refl _ _).alloc (Nat.le_refl _) _⟩
  case round =>
    obtain ⟨k, hk, rfl, hown, hb⟩ := hrel
    have hsz := hb.size
    by_cases hlt : k < s.size
    · have hbb : s[k].toNat < 256 := s[k].toNat_lt
      have hx := hexB_snoc (s.data.toList.take k) s[k]
      rw [← take_step0 s k hlt] at hx
      have HX := hide hx
      have hll : (hexB (s.data.toList.take k)).length ≤ 40000 := by rw [hexB_len, List.length_take]; omega
      clear hx
      generalize hexB (s.data.toList.take k) = pre at hown HX hll
      obtain ⟨q, hq⟩ : ∃ q, q = s[k].toNat / 16 := ⟨_, rfl⟩
      obtain ⟨r, hr⟩ : ∃ r, r = s[k].toNat % 16 := ⟨_, rfl⟩
      have e1 : IntKind.i64.wrap (s[k].toNat : Int) = (s[k].toNat : Int) := by rw [IntKind.wrap_i64]; omega
      have e2 : (s[k].toNat : Int).tdiv 16 = (q : Int) := by rw [Int.tdiv_eq_ediv_of_nonneg (by omega)]; omega
      have e3 : (s[k].toNat : Int).tmod 16 = (r : Int) := by rw [Int.tmod_eq_emod_of_nonneg (by omega)]; omega
      have e4 : IntKind.i64.wrap (q : Int) = (q : Int) := by rw [IntKind.wrap_i64]; omega
      have e5 : IntKind.i64.wrap (r : Int) = (r : Int) := by rw [IntKind.wrap_i64]; omega
      have hq16 : q < 16 := by omega
      have hr16 : r < 16 := by omega
      rw [← hq, ← hr] at HX
      clear hq hr
      go_wp2
      go_region_held3 (fun _ => True) (trivial) (first
        | (refine step_append_bytes rfl (.tmp 16) (.tmp 29) 33 rfl w.heap.size w.heap.size 5 i0 Try.underlying33 hi hz0 hz1 hz2 _ pre rfl hown _ [fig q, fig r] (cs_two rfl rfl) 2 2 rfl rfl rfl (by omega) (Nat.le_refl _) hsz hb ?_; intro v' w1 hown' hb')
        | (go_at_call 18; refine (figure_any _ _ (by omega)).mono ?_; rintro e w' ⟨rfl, rfl⟩))
      clear e1 e2 e3 e4 e5
      all_goals
        rw [← unhide HX] at hown'
        clear HX hown hb
        go_wp2
        go_roundw
        case rel => exact ⟨k + 1, by omega, by go_num, hown', hb'⟩
        case measure => simp [intOf]; omega
    · have hke : k = s.size := by omega
      have hall : s.data.toList.take k = s.data.toList := List.take_of_length_le (by rw [hke]; exact Nat.le_refl _)
      rw [hall] at hown
      have hc := run_string_owned (P := Try.prog) wr 33 9 5 w.heap.size _ _ Try.underlying33 Try.underlying5 Try.underlying9 hown
      clear hke hall
      go_wp2
      go_ret2
      exact ⟨rfl, hb⟩
end Go.Proofs.Ytoghcmcphfmcbaj
