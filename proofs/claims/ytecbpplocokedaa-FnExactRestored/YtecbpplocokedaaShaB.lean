/- The bytes of words, by impl and by spec, over the loaded program. -/
import Derived.Test.YtecbpplocokedaaShaT
namespace Go.Proofs.Ytecbpplocokedaa
open Go.RowKit
theorem Try.infoByte : (Try.prog.info? 5).map (fun i => (i.zero, i.size, i.bytes)) = some (some (.int .u8 0), 1, 1) := by kernel_rfl
theorem cs_word (x : Nat) (hx : x < 4294967296) : (#[Value.int .u8 ((x : Int) / 16777216), .int .u8 ((x : Int) / 65536 % 256), .int .u8 ((x : Int) / 256 % 256), .int .u8 ((x : Int) % 256)] : Array Value).toList = (bytesW x).map bv := by
  unfold bytesW
  simp only [List.map_cons, List.map_nil, bv]
  rw [byteOf_toNat (by omega), byteOf_toNat (by omega), byteOf_toNat (by omega), byteOf_toNat (by omega)]
  congr 2
  · congr 1; omega
theorem bytes_take (l : List Nat) (k : Nat) (h : k < l.length) : bytesL (l.take (k + 1)) = bytesL (l.take k) ++ bytesW (at_ l k) := by
  rw [List.take_succ_eq_append_getElem h, bytesL_append]
  unfold at_
  rw [List.getD_eq_getElem?_getD, List.getElem?_eq_getElem h]
  show _ ++ (bytesW _ ++ []) = _
  rw [List.append_nil]; rfl
theorem v8_at_lt {v : V8} (h : v.ok) (k : Nat) : at_ v.toL k < 4294967296 := by
  obtain ⟨h1, h2, h3, h4, h5, h6, h7, h8⟩ := h
  apply at_lt
  intro x hx
  simp only [V8.toL, List.mem_cons, List.not_mem_nil, or_false] at hx
  rcases hx with rfl | rfl | rfl | rfl | rfl | rfl | rfl | rfl <;> assumption
set_option maxRecDepth 20000 in
set_option maxHeartbeats 400000 in
theorem withWord_any (x : Nat) (hx : x < 4294967296) (v : Value) (l : List UInt8) (base : Nat) (w : World) (hown : OwnB w base 5 v l) (hl : l.length ≤ 10000) (hbase : base ≤ w.heap.size) :
    Calls Try.prog 73 #[v, .int .u32 (x : Int)] w fun e w' => (∃ v', e = .returned v' ∧ OwnB w' base 5 v' (l ++ bytesW x)) ∧ Below base w w' := by
  obtain ⟨i0, hi, hz0, hz1, hz2⟩ := info_parts Try.infoByte
  have HC := hide (cs_word x hx)
  go_enter Try.func73, Try.ntmps73
  go_wp2_with (at_builtin; refine wpList_append_bytes rfl (.tmp 5) (.tmp 17) 22 rfl base base 5 i0 Try.underlying22 hi hz0 hz1 hz2 _ l rfl hown _ (bytesW x) (by exact unhide HC) 4 4 rfl rfl (by omega) (Nat.le_refl _) hbase (Below.refl _ w) ?_; intro v' w1 hown' hb')
  go_ret
  exact ⟨⟨_, rfl, hown'⟩, hb'⟩
set_option maxRecDepth 20000 in
set_option maxHeartbeats 400000 in
theorem inBytes_any (v : V8) (hv : v.ok) (g : Nat) (w : World) (hA : ArrAt w g 67 v.toL) :
    Calls Try.prog 63 #[.pointer (some ⟨g, 0, none⟩)] w fun e w' => e = .returned (.string v.text) ∧ Below w.heap.size w w' := by
  obtain ⟨i0, hi, hz0, hz1, hz2⟩ := info_parts Try.infoByte
  have HA := hide hA
  have hgl := hA.lt
  clear hA
  go_enter Try.func63, Try.ntmps63
  go_wp2_with (at_make; refine wpList_make_own _ rfl _ _ 22 rfl w.heap.size 5 i0 (.int .u8 0) 1 Try.underlying22 hi hz0 hz1 _ _ _ 32 rfl rfl (by omega) (by rw [hz2]; omega) (by unfold maxLen; omega) (Nat.le_refl _) ?_; intro w1 hown1 hgrow1)
  have hb0 : Below w.heap.size w w1 := (Below.refl w.heap.size w).grown hgrow1 (Nat.le_refl _) (fun k hk => by cases hk)
  clear hgrow1
  go_loopw [3, 8] (fun tv ti wr => ∃ k : Nat, k ≤ 8 ∧ ti = .int .i64 (k : Int) ∧ Hid (OwnB wr w.heap.size 5 tv (bytesL (v.toL.take k))) ∧ Below w.heap.size w wr) (fun _ ti _ => 8 - (intOf ti).toNat)
  case atStart => exact ⟨0, by omega, rfl, hide hown1, hb0⟩
  case round =>
    clear hown1 hb0
    obtain ⟨k, hk, rfl, HO, hb⟩ := hrel
    by_cases hlt : k < 8
    · have hlt' : (k : Int) < 8 := by omega
      have ck := ((unhide HA).below hb hgl).cell k hlt
      have Ig := idx8 g k hlt'
      have hxx := v8_at_lt hv k
      have HB := hide (bytes_take v.toL k hlt)
      have hln : (bytesL (v.toL.take k)).length ≤ 10000 := by rw [bytesL_len]; simp; omega
      have C := hide (fun W (u : Value) (hW : OwnB W w.heap.size 5 u (bytesL (v.toL.take k))) => withWord_any (at_ v.toL k) hxx u _ w.heap.size W hW hln)
      have hsz := hb.size
      generalize at_ v.toL k = x at *
      clear hln
      go_wp2_with (go_at_call 73; refine ((unhide C) _ _ (unhide HO) hsz).mono ?_; rintro e w2 ⟨⟨v', rfl, hown2⟩, hb2⟩)
      rw [← unhide HB] at hown2
      go_roundw
      case rel => exact ⟨k + 1, by omega, by go_num, hide hown2, hb.trans hb2⟩
      case measure => simp [intOf]; omega
    · have hk8 : k = 8 := by omega
      have hown2 : OwnB wr w.heap.size 5 u3 (bytesL v.toL) := by
        have := unhide HO
        rw [hk8] at this
        exact this
      replace hk8 := hide hk8
      have hc := run_string_owned (P := Try.prog) wr 22 9 5 w.heap.size u3 (bytesL v.toL) Try.underlying22 Try.underlying5 Try.underlying9 hown2
      go_wp2
      go_ret
      exact ⟨rfl, hb⟩
theorem OwnV.some_at {w : World} {base n c : Nat} {a : Option Addr} {e : TypeId} {xs : List Value} (h : OwnV w base e (.slice a n c) xs) (hn : 0 < n) : ∃ g, a = some ⟨g, 0, none⟩ ∧ base ≤ g ∧ g < w.heap.size := by
  rcases h.2 with ⟨h1, _⟩ | ⟨g, cap, cur, h1, hb, h2, _⟩
  · simp only [Value.slice.injEq] at h1; omega
  · simp only [Value.slice.injEq] at h1
    refine ⟨g, h1.1, hb, ?_⟩
    rcases Nat.lt_or_ge g w.heap.size with h3 | h3
    · exact h3
    · rw [Array.getElem?_eq_none h3] at h2; cases h2
theorem u32_get {l : List Nat} {k : Nat} (h : k < l.length) : (l.map u32v)[k]? = some (.int .u32 (at_ l k : Int)) := by
  unfold at_
  rw [List.getElem?_map, List.getElem?_eq_getElem h, List.getD_eq_getElem?_getD, List.getElem?_eq_getElem h]
  rfl
set_option maxRecDepth 20000 in
set_option maxHeartbeats 400000 in
theorem specBytes_any (l : List Nat) (hl : ∀ x ∈ l, x < 4294967296) (hn : l.length ≤ 1000) (v : Value) (base : Nat) (w : World) (hown : OwnV w base 65 v (l.map u32v)) :
    Calls Try.prog 68 #[v] w fun e w' => e = .returned (.string ⟨(bytesL l).toArray⟩) ∧ Below w.heap.size w w' := by
  obtain ⟨i0, hi, hz0, hz1, hz2⟩ := info_parts Try.infoByte
  obtain ⟨a, c, rfl⟩ := hown.shape
  have hn2 : (l.map u32v).length = l.length := List.length_map _
  rw [hn2] at hown ⊢
  obtain ⟨n, hnn⟩ : ∃ n, l.length = n := ⟨_, rfl⟩
  rw [hnn] at hown hn ⊢
  clear hn2
  have HOw := hide hown
  have HL := hide hnn
  clear hown hnn
  go_enter Try.func68, Try.ntmps68
  go_wp2
  go_loopw [3, 4] (fun tv ti wr => ∃ k : Nat, k ≤ n ∧ ti = .int .i64 (k : Int) ∧ Hid (OwnB wr w.heap.size 5 tv (bytesL (l.take k))) ∧ Below w.heap.size w wr) (fun _ ti _ => n - (intOf ti).toNat)
  case atStart => exact ⟨0, by omega, rfl, hide (World.ownsRow_made w #[] 0 (Nat.le_refl _) (by decide) (by simp)), (Below.refl _ _).alloc (Nat.le_refl _) _⟩
  case round =>
    obtain ⟨k, hk, rfl, HO, hb⟩ := hrel
    by_cases hlt : k < n
    · obtain ⟨g, rfl, _, hgl⟩ := (unhide HOw).some_at (by omega)
      have hln := unhide HL
      have ck := (hb.cell (p := ⟨g, k, none⟩) hgl).trans ((unhide HOw).cell (u32_get (l := l) (k := k) (by omega)))
      have hxx := at_lt hl k
      have HB := hide (bytes_take l k (by omega))
      have hpl : (bytesL (l.take k)).length ≤ 10000 := by rw [bytesL_len]; simp; omega
      have HC := hide (cs_word (at_ l k) hxx)
      have hown := unhide HO
      have hsz := hb.size
      generalize at_ l k = x at *
      clear hln
      go_wp2_with (at_builtin; refine wpList_append_bytes rfl (.tmp 17) (.tmp 32) 22 rfl w.heap.size w.heap.size 5 i0 Try.underlying22 hi hz0 hz1 hz2 _ _ rfl hown _ (bytesW x) (by exact unhide HC) 4 4 rfl rfl (by omega) (Nat.le_refl _) hsz hb ?_; intro v' w1 hown' hb')
      rw [← unhide HB] at hown'
      go_roundw
      case rel => exact ⟨k + 1, by omega, by go_num, hide hown', hb'⟩
      case measure => simp [intOf]; omega
    · have hkn : k = n := by omega
      have hown2 : OwnB wr w.heap.size 5 u3 (bytesL l) := by
        have := unhide HO
        rw [List.take_of_length_le (by rw [unhide HL]; omega)] at this
        exact this
      replace hkn := hide hkn
      have hc := run_string_owned (P := Try.prog) wr 22 9 5 w.heap.size u3 (bytesL l) Try.underlying22 Try.underlying5 Try.underlying9 hown2
      go_wp2
      go_ret
      exact ⟨rfl, hb⟩
end Go.Proofs.Ytecbpplocokedaa
