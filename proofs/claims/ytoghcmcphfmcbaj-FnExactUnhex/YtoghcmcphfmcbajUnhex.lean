/- What spec.Unhex comes to, over the loaded program. -/
import Derived.Test.YtoghcmcphfmcbajChecked
import Derived.Test.YtoghcmcphfmcbajUh
namespace Go.Proofs.Ytoghcmcphfmcbaj
open Go.RowKit

theorem Try.infoBU : (Try.prog.info? 5).map (fun i => (i.zero, i.size, i.bytes)) = some (some (.int .u8 0), 1, 1) := by kernel_rfl
theorem cs_oneU {c : Int} {b : UInt8} (h : c = (b.toNat : Int)) : (#[Value.int .u8 c] : Array Value).toList = [b].map bv := by simp [bv, h]

theorem halfV_cases {c : Nat} {o : Option Nat} (e : halfV c = o) : (48 ≤ c ∧ c ≤ 57 ∧ o = some (c - 48)) ∨ (97 ≤ c ∧ c ≤ 102 ∧ o = some (c - 87)) ∨ (c < 48 ∧ o = none) ∨ (57 < c ∧ c < 97 ∧ o = none) ∨ (102 < c ∧ o = none) := by
  unfold halfV at e
  split at e
  · exact .inl ⟨by omega, by omega, e.symm⟩
  · split at e
    · exact .inr (.inl ⟨by omega, by omega, e.symm⟩)
    · by_cases h1 : c < 48
      · exact .inr (.inr (.inl ⟨h1, e.symm⟩))
      · by_cases h2 : c < 97
        · exact .inr (.inr (.inr (.inl ⟨by omega, h2, e.symm⟩)))
        · exact .inr (.inr (.inr (.inr ⟨by omega, e.symm⟩)))

theorem ret_int {k : IntKind} {a b : Int} (h : a = b) : Ending.returned (.int k a) = .returned (.int k b) := by rw [h]
theorem ret_ib {k : IntKind} {a b : Int} {c : Bool} (h : a = b) : Ending.returned (.tuple #[.int k a, .bool c]) = .returned (.tuple #[.int k b, .bool c]) := by rw [h]

def l01V (o : Option Nat) : Int := match o with | none => -1 | some h => (h : Int)

theorem value_any (c : Nat) (w : World) (hc : c < 256) :
    Calls Try.prog 19 #[.int .u8 c] w fun e w' => e = .returned (.int .i64 (l01V (halfV c))) ∧ w' = w := by
  rcases halfV_cases (c := c) rfl with ⟨h1, h2, h3⟩ | ⟨h1, h2, h3⟩ | ⟨h1, h3⟩ | ⟨h1, h2, h3⟩ | ⟨h1, h3⟩
  all_goals
    rw [h3]
    clear h3
    simp only [l01V]
    go_enter Try.func19, Try.ntmps19
    go_wp2
    go_ret
    refine ⟨?_, rfl⟩
    first | rfl | exact ret_int (by omega)

def halfT (o : Option Nat) : Value := match o with | none => .tuple #[.int .u8 0, .bool false] | some h => .tuple #[.int .u8 (h : Int), .bool true]

theorem halfByte_any (c : Nat) (w : World) (hc : c < 256) :
    Calls Try.prog 20 #[.int .u8 c] w fun e w' => e = .returned (halfT (halfV c)) ∧ w' = w := by
  rcases halfV_cases (c := c) rfl with ⟨h1, h2, h3⟩ | ⟨h1, h2, h3⟩ | ⟨h1, h3⟩ | ⟨h1, h2, h3⟩ | ⟨h1, h3⟩
  all_goals
    rw [h3]
    clear h3
    simp only [halfT]
    go_enter Try.func20, Try.ntmps20
    go_wp2
    go_ret2
    refine ⟨?_, rfl⟩
    first | rfl | exact ret_ib (by omega)

set_option maxRecDepth 20000 in
set_option maxHeartbeats 1000000 in
theorem specUnhex_any (s : ByteArray) (w : World) (hs : s.size ≤ 40000) (he : s.size % 2 = 0) :
    Calls Try.prog 11 #[.string s] w fun e w' => e = .returned (uhTup (unhexB s.data.toList)) ∧ Below w.heap.size w w' := by
  obtain ⟨i0, hi, hz0, hz1, hz2⟩ := info_parts Try.infoBU
  have h0 : ¬ (40000 : Int) < (s.size : Int) := by omega
  have h1 : ((s.size : Int) % 2 == 0) = true := by rw [beq_iff_eq]; omega
  go_enter Try.func11, Try.ntmps11
  go_wp2
  go_loopw [4, 5] (fun v ti wr => ∃ (i : Nat) (pre : List UInt8), i ≤ s.size ∧ UhAt s i pre ∧ ti = .int .i64 i ∧ OwnB wr w.heap.size 5 v pre ∧ Below w.heap.size w wr)
    (fun _ ti _ => s.size - (intOf ti).toNat)
  case atStart => exact ⟨0, [], Nat.zero_le _, UhAt.start s, rfl, World.ownsRow_made w #[] 0 (Nat.le_refl _) (by decide) (by simp), (Below.refl _ _).alloc (Nat.le_refl _) _⟩
  case round =>
    clear h0 h1
    obtain ⟨i, pre, his, hat, rfl, hown, hb⟩ := hrel
    have hsz := hb.size
    have hpl : pre.length ≤ 40000 := by have := hat.len; omega
    by_cases hlt : i < s.size
    · have hlt2 : i + 1 < s.size := by have := hat.even; omega
      have hlt3 : (i : Int) + 1 < (s.size : Int) := by omega
      have hb1 : s[i].toNat < 256 := s[i].toNat_lt
      have hb2 : s[i + 1].toNat < 256 := s[i + 1].toNat_lt
      have c1 := fun W => value_any s[i].toNat W hb1
      have c2 := fun W => value_any s[i + 1].toNat W hb2
      cases hv1 : halfV s[i].toNat with
      | none =>
        have hfin := hide (hat.fail1 hlt2 hv1)
        rw [hv1] at c1
        simp only [l01V] at c1
        have C1 := hide c1
        have C2 := hide c2
        clear c1 c2 hv1
        go_wp2_with fail
        refine ((unhide C1) _).mono ?_
        rintro e w' ⟨rfl, rfl⟩
        go_wp2_with fail
        refine ((unhide C2) _).mono ?_
        rintro e w' ⟨rfl, rfl⟩
        go_wp2
        go_ret2
        exact ⟨uhTup_none (unhide hfin), hb⟩
      | some a =>
        have ha16 := halfV_lt hv1
        rw [hv1] at c1
        simp only [l01V] at c1
        cases hv2 : halfV s[i + 1].toNat with
        | none =>
          have hfin := hide (hat.fail2 hlt2 hv2)
          rw [hv2] at c2
          simp only [l01V] at c2
          have C1 := hide c1
          have C2 := hide c2
          clear c1 c2 hv1 hv2
          go_wp2_with fail
          refine ((unhide C1) _).mono ?_
          rintro e w' ⟨rfl, rfl⟩
          go_wp2_with fail
          refine ((unhide C2) _).mono ?_
          rintro e w' ⟨rfl, rfl⟩
          go_wp2
          go_ret2
          exact ⟨uhTup_none (unhide hfin), hb⟩
        | some b =>
          have hb16 := halfV_lt hv2
          have hx := hat.next hlt2 hv1 hv2
          rw [hv2] at c2
          simp only [l01V] at c2
          have C1 := hide c1
          have C2 := hide c2
          clear c1 c2 hv1 hv2 hb1 hb2
          have hval : (16 : Int) * (a : Int) + (b : Int) = ((byteOf (16 * a + b)).toNat : Int) := by rw [byteOf_toNat (by omega)]; omega
          have HV := hide hval
          clear hval
          go_wp2_with fail
          refine ((unhide C1) _).mono ?_
          rintro e w' ⟨rfl, rfl⟩
          go_wp2_with fail
          refine ((unhide C2) _).mono ?_
          rintro e w' ⟨rfl, rfl⟩
          go_wp2_with (at_builtin; refine wpList_append_bytes rfl (.tmp 39) (.tmp 45) 33 rfl w.heap.size w.heap.size 5 i0 Try.underlying33 hi hz0 hz1 hz2 _ pre rfl hown _ [byteOf (16 * a + b)] (cs_oneU (unhide HV)) 1 1 rfl rfl (by omega) (Nat.le_refl _) hsz hb ?_; intro v' w1 hown' hb')
          clear hown hb
          go_wp2
          go_roundw
          case rel => exact ⟨i + 2, _, by omega, hx, by go_num, hown', hb'⟩
          case measure => simp [intOf]; omega
    · have hfin := hide (hat.done (by omega))
      have hc := run_string_owned (P := Try.prog) wr 33 9 5 w.heap.size _ _ Try.underlying33 Try.underlying5 Try.underlying9 hown
      go_wp2
      go_ret2
      exact ⟨uhTup_some (unhide hfin), hb⟩
end Go.Proofs.Ytoghcmcphfmcbaj
