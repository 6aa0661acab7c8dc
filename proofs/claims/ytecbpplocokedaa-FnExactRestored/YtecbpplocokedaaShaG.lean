/- What fills up the last block, by impl, over the loaded program. -/
import Derived.Test.YtecbpplocokedaaShaE
import Derived.Test.YtecbpplocokedaaZer
namespace Go.Proofs.Ytecbpplocokedaa
open Go.RowKit
theorem one_new (w : World) (e : TypeId) (v : Value) : ∀ j u, [v][j]? = some u → (w.alloc (.cells #[v] e)).cell? ((⟨w.heap.size, 0, none⟩ : Addr).add j) = some u := by
  intro j u hj
  cases j with
  | zero =>
    simp only [List.getElem?_cons_zero, Option.some.injEq] at hj
    subst hj
    have h := heap_alloc_new w (.cells #[v] e)
    rw [Addr.add_lit, cell_of_row _ _ _ _ _ _ h]
    rfl
  | succ j => simp at hj
def zerosB (n : Nat) : Nat := 63 - (n + 8) % 64
def endL (n : Nat) : List UInt8 := ((([byteOf 128] ++ List.replicate (zerosB n) 0) ++ bytesW (8 * n / 4294967296)) ++ bytesW (8 * n % 4294967296))
set_option maxRecDepth 20000 in
set_option maxHeartbeats 400000 in
theorem ending_any (n : Nat) (hn : n ≤ 1000000000) (w : World) :
    Calls Try.prog 62 #[.int .i64 (n : Int)] w fun e w' => e = .returned (.string ⟨(endL n).toArray⟩) ∧ Below w.heap.size w w' := by
  obtain ⟨i0, hi, hz0, hz1, hz2⟩ := info_parts Try.infoByte
  have hzn : zerosB n ≤ 63 := by unfold zerosB; omega
  have ez : IntKind.i64.wrap (63 - ((n : Int) + 8) % 64) = (zerosB n : Int) := by rw [IntKind.wrap_i64]; unfold zerosB; omega
  have ez2 : 63 - ((n : Int) + 8) % 64 = (zerosB n : Int) := by unfold zerosB; omega
  have HL : Hid (endL n = ((([byteOf 128] ++ List.replicate (zerosB n) 0) ++ bytesW (8 * n / 4294967296)) ++ bytesW (8 * n % 4294967296))) := hide rfl
  have hx1 : 8 * n / 4294967296 < 4294967296 := by omega
  have hx2 : 8 * n % 4294967296 < 4294967296 := by omega
  have C1 := hide (fun (v : Value) (l : List UInt8) (W : World) => withWord_any (8 * n / 4294967296) hx1 v l w.heap.size W)
  have C2 := hide (fun (v : Value) (l : List UInt8) (W : World) => withWord_any (8 * n % 4294967296) hx2 v l w.heap.size W)
  generalize zerosB n = zz at *
  go_enter Try.func62, Try.ntmps62
  go_wp2_with (first
    | (at_make; refine wpList_make_own _ rfl _ _ 22 rfl w.heap.size 5 i0 (.int .u8 0) 1 Try.underlying22 hi hz0 hz1 _ _ _ 128 rfl rfl (by omega) (by rw [hz2]; omega) (by unfold maxLen; omega) (Nat.le_refl _) ?_; intro w1 hown1 hgrow1)
    | (at_builtin; refine wpList_append_fits _ rfl (.tmp 10) (.tmp 11) 22 rfl w.heap.size 5 i0 1 Try.underlying22 hi hz1 w.heap.size 0 128 [] rfl (World.ownsRow.alloc hown1 _) ⟨w1.heap.size, 0, none⟩ 1 1 [.int .u8 128] rfl rfl (one_new w1 5 (.int .u8 128)) (by intro u hu; simp only [List.mem_singleton] at hu; subst hu; rfl) (by omega) ?_; intro w2 hown2 hgrow2; have hb2 : Below w.heap.size w w2 := (((Below.refl w.heap.size w).grown hgrow1 (Nat.le_refl _) (fun k hk => by cases hk)).alloc hgrow1.size _).grown hgrow2 (by have := hgrow1.size; simp; omega) (fun k hk => by simp only [Option.some.injEq] at hk; omega); have hownB : OwnB w2 w.heap.size 5 (.slice (some ⟨w.heap.size, 0, none⟩) 1 128) [byteOf 128] := hown2; clear hown1 hown2 hgrow1 hgrow2)
    | (at_builtin; refine wpList_append_zeros rfl (.tmp 13) (.tmp 14) 22 3 rfl w.heap.size 5 i0 Try.underlying22 Try.underlying3 hi hz0 hz1 hz2 w.heap.size 1 128 zz [byteOf 128] rfl rfl hownB (by omega) (by omega) ?_; intro w3 hown3 hb3; have hb3' := hb2.trans hb3; clear hownB hb2 hb3)
    | fail)
  have e1 : (8 * (n : Int) / 4294967296) = ((8 * n / 4294967296 : Nat) : Int) := by omega
  have e2 : (8 * (n : Int) % 4294967296) = ((8 * n % 4294967296 : Nat) : Int) := by omega
  rw [e1]
  refine ((unhide C1) _ _ w3 hown3 (by simp; omega) hb3'.size).mono ?_
  rintro e w4 ⟨⟨v4, rfl, hown4⟩, hb4⟩
  have hb4' := hb3'.trans hb4
  clear hown3 hb3' hb4
  replace e1 := hide e1
  replace e2 := hide e2
  go_wp2_with fail
  rw [unhide e2]
  refine ((unhide C2) _ _ w4 hown4 (by simp [bytesW]; omega) hb4'.size).mono ?_
  rintro e w5 ⟨⟨v5, rfl, hown5⟩, hb5⟩
  rw [← unhide HL] at hown5
  have hb5' := hb4'.trans hb5
  clear hown4 hb4' hb5
  have hc := run_string_owned (P := Try.prog) w5 22 9 5 w.heap.size v5 (endL n) Try.underlying22 Try.underlying5 Try.underlying9 hown5
  go_wp2
  go_ret
  exact ⟨rfl, hb5'⟩
end Go.Proofs.Ytecbpplocokedaa
