/- The first hasher, by impl and by spec, over the loaded program. -/
import Derived.Test.YtecbpplocokedaaShaB
import Derived.Test.YtecbpplocokedaaHsh
namespace Go.Proofs.Ytecbpplocokedaa
open Go.RowKit
theorem own_lit (w : World) (e : TypeId) (l : List Nat) (hl : l.length ≤ maxLen) : OwnV (w.alloc (.cells (l.map u32v).toArray e)) w.heap.size e (.slice (some ⟨w.heap.size, 0, none⟩) l.length l.length) (l.map u32v) :=
  ⟨by simp, .inr ⟨w.heap.size, l.length, (l.map u32v).toArray, by simp, Nat.le_refl _, heap_alloc_new w _, by simp, hl, by simp, by simp; exact List.take_of_length_le (by simp)⟩⟩
def zeros8 : List Nat := List.replicate 8 0
set_option maxRecDepth 20000 in
theorem firstState_any (w : World) :
    Calls Try.prog 48 #[] w fun e w' => e = .returned (aggV first8.toL) ∧ Below w.heap.size w w' := by
  have H1 := hide (ArrAt.new w 67 zeros8)
  have hik : (Try.prog.info? 67).map (·.size) = some first8.toL.length := by kernel_rfl
  replace hik := hide hik
  have hb : Below w.heap.size w (w.alloc (.cells (zeros8.map u32v).toArray 67)) := (Below.refl w.heap.size w).alloc (Nat.le_refl _) _
  replace hb := hide hb
  go_enter Try.func48, Try.ntmps48
  go_wp2_with (first | (refine wpList_build_arr rfl 67 _ rfl first8.toL (by kernel_rfl) ?_) | (refine wpList_store_arr rfl 67 _ _ rfl w.heap.size _ zeros8 rfl rfl 67 (unhide H1) (unhide hik) rfl ?_))
  refine bodyPost_ret (v := aggV first8.toL) (results_arr Try.results48 _ _ w.heap.size 67 _ _ _ rfl ((unhide H1).setRow _) Try.underlying67 (unhide hik)) rfl ⟨rfl, Go.below_setRow (unhide hb) (Nat.le_refl _) _⟩
theorem one_z8 (w : World) (T : TypeId) : ArrAt (w.alloc (.cells #[.int .u32 0, .int .u32 0, .int .u32 0, .int .u32 0, .int .u32 0, .int .u32 0, .int .u32 0, .int .u32 0] T)) w.heap.size T zeros8 ∧ Below w.heap.size w (w.alloc (.cells #[.int .u32 0, .int .u32 0, .int .u32 0, .int .u32 0, .int .u32 0, .int .u32 0, .int .u32 0, .int .u32 0] T)) :=
  ⟨ArrAt.new w T zeros8, (Below.refl w.heap.size w).alloc (Nat.le_refl _) _⟩
theorem info8 (v : V8) : (Try.prog.info? 67).map (·.size) = some v.toL.length := by
  have : (Try.prog.info? 67).map (·.size) = some 8 := by kernel_rfl
  exact this
def h0 : Hs := ⟨⟨#[]⟩, ⟨#[]⟩, 0⟩
set_option maxRecDepth 20000 in
set_option maxHeartbeats 400000 in
theorem specFirst_any (w : World) :
    Calls Try.prog 69 #[] w fun e w' => (∃ a c, e = .returned (.slice a 8 c) ∧ OwnV w' w.heap.size 65 (.slice a 8 c) (first8.toL.map u32v)) ∧ Below w.heap.size w w' := by
  go_enter Try.func69, Try.ntmps69
  go_wp2
  go_ret
  exact ⟨⟨_, _, rfl, own_lit w 65 first8.toL (by decide)⟩, (Below.refl _ _).alloc (Nat.le_refl _) _⟩
set_option maxRecDepth 20000 in
set_option maxHeartbeats 400000 in
theorem specNew_any (w : World) :
    Calls Try.prog 55 #[] w fun e w' => e = .returned (hsv ⟨first8.text, ⟨#[]⟩, 0⟩) ∧ Below w.heap.size w w' := by
  go_enter Try.func55, Try.ntmps55
  go_wp2_with fail
  obtain ⟨W, hW, hB, hb, hlt⟩ := one_hash w h0 74
  unfold h0 at hW
  rw [hW]
  clear hW
  refine (specFirst_any _).mono ?_
  rintro e w1 ⟨⟨a, c, rfl, hown⟩, hb1⟩
  have hB1 := hB.step hb1
  have HT1 := hb.trans (hb1.mono (Nat.le_of_lt hlt))
  have hl1 := hB1.lt
  clear hB hb hb1
  replace hB1 := hide hB1
  replace HT1 := hide HT1
  go_wp2_with (go_at_call 68; refine (specBytes_any first8.toL (by decide) (by decide) _ _ _ hown).mono ?_; rintro e w3 ⟨rfl, hb3⟩; have hB3 := (unhide hB1).below hb3 hl1; have k0 := hB3.c0; have k1 := hB3.c1; have k2 := hB3.c2; have f0 := hB3.frozen 0; have f1 := hB3.frozen 1; have f2 := hB3.frozen 2; have hl3 := hB3.lt; have HT3 := hide ((unhide HT1).trans (hb3.mono (Nat.le_of_lt hl1))); clear hb3)
  refine bodyPost_ret (v := hsv ⟨first8.text, ⟨#[]⟩, 0⟩) (results_hash Try.results55 _ _ w.heap.size 74 _ _ rfl (HB.set3 hB3 ⟨first8.text, ⟨#[]⟩, 0⟩) Try.underlying74 (by kernel_rfl)) rfl ⟨rfl, ?_⟩
  exact (((unhide HT3).setCell (p := ⟨w.heap.size, 0, none⟩) (Nat.le_refl _) _).setCell (p := ⟨w.heap.size, 1, none⟩) (Nat.le_refl _) _).setCell (p := ⟨w.heap.size, 2, none⟩) (Nat.le_refl _) _
end Go.Proofs.Ytecbpplocokedaa
