/- What a state gives, by impl, over the loaded program. -/
import Derived.Test.YtkidgllmhdfgaanDoorKecG
import Derived.Lib.AppendStr
namespace Go.Proofs.YtkidgllmhdfgaanDoor
open Go.RowKit
theorem ownsRow_grown {w w' : World} {base g : Nat} {e : TypeId} {v : Value} {n : Nat} {xs : List Value} (h : w.ownsRow base e 1 v n xs) (hG : w.grownBy w' (some g)) (hg : g < base) : w'.ownsRow base e 1 v n xs :=
  World.ownsRow.kept (row := some g) h hG (by
    cases hv : v.ownBlock with
    | none => exact .inl rfl
    | some q =>
      have := (h.lt q hv).1
      exact .inr (by simp only [ne_eq, Option.some.injEq]; omega))
theorem grown_own {a b c : World} {g : Nat} {e : TypeId} {v : Value} {n : Nat} {xs : List Value} (h : a.grownBy b (some g)) (ho : b.ownsRow a.heap.size e 1 v n xs) (k : b.grownBy c v.ownBlock) : a.grownBy c (some g) := by
  refine ⟨k.os.trans h.os, k.tape.trans h.tape, k.output.trans h.output, Nat.le_trans h.size k.size, fun q hq hne => ?_⟩
  rw [k.block q (Nat.lt_of_lt_of_le hq h.size) ?_, h.block q hq hne]
  intro hh
  have := (ho.lt q hh.symm).1
  omega
theorem LnAt.own {w w' : World} {g base : Nat} {T e : TypeId} {l : List Nat} {v : Value} {n : Nat} {xs : List Value} (hA : LnAt w g T l) (ho : w.ownsRow base e 1 v n xs) (hG : w.grownBy w' v.ownBlock) (hg : g < base) : LnAt w' g T l := by
  have hl := hA.lt
  unfold LnAt at hA ⊢
  rw [hG.block g hl ?_]
  · exact hA
  · intro hh
    have := (ho.lt g hh.symm).1
    omega
theorem lenV_own {w : World} {base : Nat} {e : TypeId} {v : Value} {n : Nat} {xs : List Value} (ho : w.ownsRow base e 1 v n xs) : lenV v = n := by
  rcases ho.2 with ⟨h, h'⟩ | ⟨g, cap, cur, h, _⟩
  · rw [h, h']; rfl
  · rw [h]; rfl
set_option maxRecDepth 20000 in
set_option maxHeartbeats 400000 in
theorem give_any (a0 : List Nat) (ha0 : LanesOk a0) (p0 n : Nat) (hp0 : p0 ≤ 168) (hn : n ≤ 4000) (g : Nat) (w : World) (hne : 0 ≠ g) (hL : Laid w) (hA : LnAt w g 34 a0) :
    Calls Tryd.prog 24 #[.pointer (some ⟨g, 0, none⟩), .int .i64 (p0 : Int), .int .i64 (n : Int)] w fun e w' => e = .returned (.tuple #[.string ⟨(gvEnd n ⟨a0, p0, []⟩).out.toArray⟩, .int .i64 ((gvEnd n ⟨a0, p0, []⟩).p : Int)]) ∧ LnAt w' g 34 (gvEnd n ⟨a0, p0, []⟩).a ∧ w.grownBy w' (some g) := by
  obtain ⟨i0, hi, hz0, hz1, hz2⟩ := info_parts Tryd.infoByte
  have hgl := hA.lt
  have HL := hide hL
  have HN := hide hne
  have hok0 : Hid (Gv.ok n ⟨a0, p0, []⟩) := hide ⟨ha0, hp0, Nat.zero_le _⟩
  have HA0 := hide hA
  clear hA hL hne
  go_enter Tryd.func24, Tryd.ntmps24
  go_wp2_with (at_make; refine wpList_make_own _ rfl _ _ 48 rfl w.heap.size 5 i0 (.int .u8 0) 1 Tryd.underlying48 hi hz0 hz1 _ _ _ n rfl rfl rfl (by rw [hz2]; omega) (by unfold maxLen; omega) (Nat.le_refl _) ?_; intro w1 hown1 hgrow1)
  have hb0 : Below w.heap.size w w1 := (Below.refl w.heap.size w).grown hgrow1 (Nat.le_refl _) (fun k hk => by cases hk)
  clear hgrow1
  go_loopw [1, 8] (fun tg tv wr => ∃ k : Nat, tg = .int .i64 ((gvRun n ⟨a0, p0, []⟩ k).p : Int) ∧ Hid (k ≤ (gvRun n ⟨a0, p0, []⟩ k).out.length) ∧ Hid (OwnB wr w.heap.size 5 tv (gvRun n ⟨a0, p0, []⟩ k).out) ∧ Hid (LnAt wr g 34 (gvRun n ⟨a0, p0, []⟩ k).a) ∧ Hid (w.grownBy wr (some g))) (fun _ tv _ => n - lenV tv)
  case atStart => exact ⟨0, rfl, hide (Nat.le_refl _), hide hown1, hide ((unhide HA0).below hb0 hgl), hide ⟨hb0.os, hb0.tape, hb0.output, hb0.size, fun q hq _ => hb0.block q hq⟩⟩
  case round =>
    clear hown1 hb0 HA0
    obtain ⟨k, rfl, HK, HO, HA, HG⟩ := hrel
    have hok := gvRun_ok (unhide hok0) k
    have HN1 : Hid (gvRun n ⟨a0, p0, []⟩ (k + 1) = if (gvRun n ⟨a0, p0, []⟩ k).out.length < n then gvStep n (gvRun n ⟨a0, p0, []⟩ k) else gvRun n ⟨a0, p0, []⟩ k) := hide rfl
    have HE : Hid (¬ (gvRun n ⟨a0, p0, []⟩ k).out.length < n → k ≤ n → gvEnd n ⟨a0, p0, []⟩ = gvRun n ⟨a0, p0, []⟩ k) := hide (fun h1 h2 => gvEnd_is h1 h2)
    generalize gvRun n ⟨a0, p0, []⟩ k = cur at *
    obtain ⟨a, p, out⟩ := cur
    obtain ⟨hoa, hop, hol⟩ := hok
    dsimp only at *
    obtain ⟨m, hm⟩ : ∃ m, m = out.length := ⟨_, rfl⟩
    rw [← hm] at hol HK HN1 HE
    have h9 : wr.ownsRow w.heap.size 5 1 u8 m (out.map bv) := by
      have := unhide HO
      unfold OwnB at this
      rw [← hm] at this
      exact this
    obtain ⟨a9, c9, hv9⟩ : ∃ a c, u8 = .slice a m c := by
      rcases h9.2 with ⟨h, h'⟩ | ⟨g, cap, cur, h, _⟩
      · exact ⟨none, 0, by rw [h, h']⟩
      · exact ⟨_, cap, h⟩
    subst hv9
    by_cases hlt : m < n
    · have hlt' : (m : Int) < (n : Int) := by omega
      by_cases h168 : p = 168
      · have h168' : (p : Int) = 168 := by omega
        have HA2 : gvA ⟨a, p, out⟩ = keccak a := by unfold gvA; rw [if_pos h168]
        have HP2 : gvP ⟨a, p, out⟩ = 0 := by unfold gvP; rw [if_pos h168]
        obtain ⟨e9, he9⟩ : ∃ e, e = min 168 (0 + n - m) := ⟨_, rfl⟩
        have heN : gvE n ⟨a, p, out⟩ = e9 := by unfold gvE; rw [HP2, he9]; dsimp only; rw [← hm]
        have heI : min 168 ((n : Int) - (m : Int)) = (e9 : Int) := by omega
        have hokA := gvA_ok (g := ⟨a, p, out⟩) hoa
        rw [HA2] at hokA
        have hTs := textN_size hokA.1
        have C2 := hide (fun W hW => lanesBytes_any (keccak a) hokA g W hW)
        have hsl : ∀ W, (Instr.slice 9 (.string (textN (keccak a))) (some (.int .i64 0)) (some (.int .i64 (e9 : Int))) none).run Tryd.prog W = .ok (.string ((textN (keccak a)).extract 0 e9)) W := fun W => cut_lh (textN (keccak a)) 0 e9 W (by omega) (by omega)
        have hxs : ((textN (keccak a)).extract 0 e9).size = e9 - 0 := by rw [ByteArray.size_extract]; omega
        have hstep : Hid (gvRun n ⟨a0, p0, []⟩ (k + 1) = ⟨keccak a, e9, out ++ ((textN (keccak a)).extract 0 e9).data.toList⟩) := hide (by rw [unhide HN1, if_pos hlt]; unfold gvStep; rw [HA2, HP2, heN])
        have hadv : 0 < e9 ∧ m + (e9 - 0) ≤ n := by omega
        replace h9 := hide h9
        replace he9 := hide he9
        clear HA2 HP2 heN HE HO
        have C1 := hide (fun W hL hW => permute_any a hoa g W (unhide HN) hL hW)
        have HLr := hide ((unhide HL).grown (unhide HG) (unhide HN))
        generalize (textN (keccak a)).extract 0 e9 = x at *
        generalize textN (keccak a) = T at *
        generalize keccak a = A1 at *
        replace hm := hide hm
        go_wp2_with fail
        refine ((unhide C1) wr (unhide HLr) (unhide HA)).mono ?_
        rintro e w2 ⟨rfl, hA2, hg2⟩
        clear C1 HLr
        go_wp2_with fail
        refine ((unhide C2) w2 hA2).mono ?_
        rintro e w3 ⟨rfl, hb3⟩
        have hA3 := hide (hA2.below hb3 hA2.lt)
        have hG3 := hide (grown_bel (grown_tr (unhide HG) hg2) hb3)
        have h93 := hide (World.ownsRow.kept (row := none) (ownsRow_grown (unhide h9) hg2 hgl) ⟨hb3.os, hb3.tape, hb3.output, hb3.size, fun k hk _ => hb3.block k hk⟩ (by cases hv : (Value.slice a9 m c9).ownBlock <;> simp))
        have hs3 := (unhide hG3).size
        clear hA2 hg2 hb3 HA HG h9
        go_wp2_with (at_builtin; refine Lib.wpList_append_own_string _ rfl (.tmp 27) (.tmp 32) 48 9 rfl w.heap.size 5 i0 Tryd.underlying48 Tryd.underlying9 hi hz0 hz1 hz2 _ m _ rfl (unhide h93) x rfl (by unfold maxLen; omega) (by omega) hs3 ?_; intro v4 w4 hown4 hg4 _)
        have hA4 := hide ((unhide hA3).own (unhide h93) hg4 hgl)
        have hG4 := hide (grown_own (unhide hG3) (unhide h93) hg4)
        have hlv := lenV_own hown4
        have hown5 : Hid (OwnB w4 w.heap.size 5 v4 (out ++ x.data.toList)) := hide (by
          unfold OwnB
          rw [List.length_append, ← unhide hm, List.map_append]
          exact hown4)
        clear hown4 hg4 h93 hA3 hG3
        have hx4 : x.data.toList.length = x.size := rfl
        go_wp2
        have q1 := unhide HK
        refine ⟨⟨k + 1, by rw [unhide hstep], hide (by rw [unhide hstep, List.length_append, hx4, ← unhide hm]; omega), by rw [unhide hstep]; exact hown5, by rw [unhide hstep]; exact hA4, hG4⟩, ?_⟩
        show n - lenV v4 < n - m
        rw [hlv]; omega
      · have h168' : ¬ (p : Int) = 168 := by omega
        have HA2 : gvA ⟨a, p, out⟩ = a := by unfold gvA; rw [if_neg h168]
        have HP2 : gvP ⟨a, p, out⟩ = p := by unfold gvP; rw [if_neg h168]
        obtain ⟨e9, he9⟩ : ∃ e, e = min 168 (p + n - m) := ⟨_, rfl⟩
        have heN : gvE n ⟨a, p, out⟩ = e9 := by unfold gvE; rw [HP2, he9]; dsimp only; rw [← hm]
        have heI : min 168 ((p : Int) + (n : Int) - (m : Int)) = (e9 : Int) := by omega
        have hokA := gvA_ok (g := ⟨a, p, out⟩) hoa
        rw [HA2] at hokA
        have hTs := textN_size hokA.1
        have C2 := hide (fun W hW => lanesBytes_any (a) hokA g W hW)
        have hsl : ∀ W, (Instr.slice 9 (.string (textN (a))) (some (.int .i64 (p : Int))) (some (.int .i64 (e9 : Int))) none).run Tryd.prog W = .ok (.string ((textN (a)).extract p e9)) W := fun W => cut_lh (textN (a)) p e9 W (by omega) (by omega)
        have hxs : ((textN (a)).extract p e9).size = e9 - p := by rw [ByteArray.size_extract]; omega
        have hstep : Hid (gvRun n ⟨a0, p0, []⟩ (k + 1) = ⟨a, e9, out ++ ((textN (a)).extract p e9).data.toList⟩) := hide (by rw [unhide HN1, if_pos hlt]; unfold gvStep; rw [HA2, HP2, heN])
        have hadv : p < e9 ∧ m + (e9 - p) ≤ n := by omega
        replace h9 := hide h9
        replace he9 := hide he9
        clear HA2 HP2 heN HE HO
        generalize (textN (a)).extract p e9 = x at *
        generalize textN (a) = T at *
        replace hm := hide hm
        go_wp2_with fail
        refine ((unhide C2) wr (unhide HA)).mono ?_
        rintro e w3 ⟨rfl, hb3⟩
        have hA3 := hide ((unhide HA).below hb3 (unhide HA).lt)
        have hG3 := hide (grown_bel (unhide HG) hb3)
        have h93 := hide (World.ownsRow.kept (row := none) (unhide h9) ⟨hb3.os, hb3.tape, hb3.output, hb3.size, fun k hk _ => hb3.block k hk⟩ (by cases hv : (Value.slice a9 m c9).ownBlock <;> simp))
        have hs3 := (unhide hG3).size
        clear hb3 HA HG h9
        go_wp2_with (at_builtin; refine Lib.wpList_append_own_string _ rfl (.tmp 27) (.tmp 32) 48 9 rfl w.heap.size 5 i0 Tryd.underlying48 Tryd.underlying9 hi hz0 hz1 hz2 _ m _ rfl (unhide h93) x rfl (by unfold maxLen; omega) (by omega) hs3 ?_; intro v4 w4 hown4 hg4 _)
        have hA4 := hide ((unhide hA3).own (unhide h93) hg4 hgl)
        have hG4 := hide (grown_own (unhide hG3) (unhide h93) hg4)
        have hlv := lenV_own hown4
        have hown5 : Hid (OwnB w4 w.heap.size 5 v4 (out ++ x.data.toList)) := hide (by
          unfold OwnB
          rw [List.length_append, ← unhide hm, List.map_append]
          exact hown4)
        clear hown4 hg4 h93 hA3 hG3
        have hx4 : x.data.toList.length = x.size := rfl
        go_wp2
        have q1 := unhide HK
        refine ⟨⟨k + 1, by rw [unhide hstep], hide (by rw [unhide hstep, List.length_append, hx4, ← unhide hm]; omega), by rw [unhide hstep]; exact hown5, by rw [unhide hstep]; exact hA4, hG4⟩, ?_⟩
        show n - lenV v4 < n - m
        rw [hlv]; omega
    · have hlt' : ¬ (m : Int) < (n : Int) := by omega
      have HE2 := (unhide HE) hlt (by have := unhide HK; omega)
      have hown2 : OwnB wr w.heap.size 5 (.slice a9 m c9) out := unhide HO
      have hc := run_string_owned (P := Tryd.prog) wr 48 9 5 w.heap.size (.slice a9 m c9) out Tryd.underlying48 Tryd.underlying5 Tryd.underlying9 hown2
      replace HE2 := hide HE2
      replace hm := hide hm
      replace h9 := hide h9
      replace hown2 := hide hown2
      clear HE
      go_wp2
      go_ret2
      rw [unhide HE2]
      exact ⟨rfl, unhide HA, unhide HG⟩
end Go.Proofs.YtkidgllmhdfgaanDoor
