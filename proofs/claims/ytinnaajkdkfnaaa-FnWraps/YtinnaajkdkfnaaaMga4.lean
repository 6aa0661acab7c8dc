/- Merged: ShaB, Hsh, ShaH, ShaS, ShaA, ShaR, ShaE. -/
import Derived.Test.YtinnaajkdkfnaaaMga1
import Derived.Test.YtinnaajkdkfnaaaMga2
import Derived.Test.YtinnaajkdkfnaaaMga3
import Derived.Test.YtinnaajkdkfnaaaProg
import Derived.Test.YtinnaajkdkfnaaaChecked
import Derived.Laws.Rows
/- The bytes of words, by impl and by spec, over the loaded program. -/
namespace Go.Proofs.Ytinnaajkdkfnaaa
open Go.RowKit
theorem Try.infoByte : (Try.prog.info? 5).map (fun i => (i.zero, i.size, i.bytes)) = some (some (.int .u8 0), 1, 1) := by kernel_rfl
theorem cs_word (x : Nat) (hx : x < 4294967296) : (#[Value.int .u8 ((x : Int) / 16777216), .int .u8 ((x : Int) / 65536 % 256), .int .u8 ((x : Int) / 256 % 256), .int .u8 ((x : Int) % 256)] : Array Value).toList = (bytesW x).map bv := by
  unfold bytesW
  simp only [List.map_cons, List.map_nil, bv]
  rw [byteOf_toNat (by omega), byteOf_toNat (by omega), byteOf_toNat (by omega), byteOf_toNat (by omega)]
  congr 2
  · congr 1; omega
theorem bytes_take (l : List Nat) (k : Nat) (h : k < l.length) : bytesL (l.take (k + 1)) = bytesL (l.take k) ++ bytesW (at_ l k) := by
  rw [List.take_succ_eq_append_getElem h, bytesL_append]
  unfold at_
  rw [List.getD_eq_getElem?_getD, List.getElem?_eq_getElem h]
  show _ ++ (bytesW _ ++ []) = _
  rw [List.append_nil]; rfl
theorem v8_at_lt {v : V8} (h : v.ok) (k : Nat) : at_ v.toL k < 4294967296 := by
  obtain ⟨h1, h2, h3, h4, h5, h6, h7, h8⟩ := h
  apply at_lt
  intro x hx
  simp only [V8.toL, List.mem_cons, List.not_mem_nil, or_false] at hx
  rcases hx with rfl | rfl | rfl | rfl | rfl | rfl | rfl | rfl <;> assumption
set_option maxRecDepth 20000 in
set_option maxHeartbeats 400000 in
theorem withWord_any (x : Nat) (hx : x < 4294967296) (v : Value) (l : List UInt8) (base : Nat) (w : World) (hown : OwnB w base 5 v l) (hl : l.length ≤ 10000) (hbase : base ≤ w.heap.size) :
    Calls Try.prog 111 #[v, .int .u32 (x : Int)] w fun e w' => (∃ v', e = .returned v' ∧ OwnB w' base 5 v' (l ++ bytesW x)) ∧ Below base w w' := by
  obtain ⟨i0, hi, hz0, hz1, hz2⟩ := info_parts Try.infoByte
  have HC := hide (cs_word x hx)
  go_enter Try.func111, Try.ntmps111
  go_wp2_with (at_builtin; refine wpList_append_bytes rfl (.tmp 5) (.tmp 17) 22 rfl base base 5 i0 Try.underlying22 hi hz0 hz1 hz2 _ l rfl hown _ (bytesW x) (by exact unhide HC) 4 4 rfl rfl (by omega) (Nat.le_refl _) hbase (Below.refl _ w) ?_; intro v' w1 hown' hb')
  go_ret
  exact ⟨⟨_, rfl, hown'⟩, hb'⟩
set_option maxRecDepth 20000 in
set_option maxHeartbeats 400000 in
theorem inBytes_any (v : V8) (hv : v.ok) (g : Nat) (w : World) (hA : ArrAt w g 113 v.toL) :
    Calls Try.prog 106 #[.pointer (some ⟨g, 0, none⟩)] w fun e w' => e = .returned (.string v.text) ∧ Below w.heap.size w w' := by
  obtain ⟨i0, hi, hz0, hz1, hz2⟩ := info_parts Try.infoByte
  have HA := hide hA
  have hgl := hA.lt
  clear hA
  go_enter Try.func106, Try.ntmps106
  go_wp2_with (at_make; refine wpList_make_own _ rfl _ _ 22 rfl w.heap.size 5 i0 (.int .u8 0) 1 Try.underlying22 hi hz0 hz1 _ _ _ 32 rfl rfl (by omega) (by rw [hz2]; omega) (by unfold maxLen; omega) (Nat.le_refl _) ?_; intro w1 hown1 hgrow1)
  have hb0 : Below w.heap.size w w1 := (Below.refl w.heap.size w).grown hgrow1 (Nat.le_refl _) (fun k hk => by cases hk)
  clear hgrow1
  go_loopw [3, 8] (fun tv ti wr => ∃ k : Nat, k ≤ 8 ∧ ti = .int .i64 (k : Int) ∧ Hid (OwnB wr w.heap.size 5 tv (bytesL (v.toL.take k))) ∧ Below w.heap.size w wr) (fun _ ti _ => 8 - (intOf ti).toNat)
  case atStart => exact ⟨0, by omega, rfl, hide hown1, hb0⟩
  case round =>
    clear hown1 hb0
    obtain ⟨k, hk, rfl, HO, hb⟩ := hrel
    by_cases hlt : k < 8
    · have hlt' : (k : Int) < 8 := by omega
      have ck := ((unhide HA).below hb hgl).cell k hlt
      have Ig := idx8 g k hlt'
      have hxx := v8_at_lt hv k
      have HB := hide (bytes_take v.toL k hlt)
      have hln : (bytesL (v.toL.take k)).length ≤ 10000 := by rw [bytesL_len]; simp; omega
      have C := hide (fun W (u : Value) (hW : OwnB W w.heap.size 5 u (bytesL (v.toL.take k))) => withWord_any (at_ v.toL k) hxx u _ w.heap.size W hW hln)
      have hsz := hb.size
      generalize at_ v.toL k = x at *
      clear hln
      go_wp2_with (go_at_call 111; refine ((unhide C) _ _ (unhide HO) hsz).mono ?_; rintro e w2 ⟨⟨v', rfl, hown2⟩, hb2⟩)
      rw [← unhide HB] at hown2
      go_roundw
      case rel => exact ⟨k + 1, by omega, by go_num, hide hown2, hb.trans hb2⟩
      case measure => simp [intOf]; omega
    · have hk8 : k = 8 := by omega
      have hown2 : OwnB wr w.heap.size 5 u3 (bytesL v.toL) := by
        have := unhide HO
        rw [hk8] at this
        exact this
      replace hk8 := hide hk8
      have hc := run_string_owned (P := Try.prog) wr 22 9 5 w.heap.size u3 (bytesL v.toL) Try.underlying22 Try.underlying5 Try.underlying9 hown2
      go_wp2
      go_ret
      exact ⟨rfl, hb⟩
theorem OwnV.some_at {w : World} {base n c : Nat} {a : Option Addr} {e : TypeId} {xs : List Value} (h : OwnV w base e (.slice a n c) xs) (hn : 0 < n) : ∃ g, a = some ⟨g, 0, none⟩ ∧ base ≤ g ∧ g < w.heap.size := by
  rcases h.2 with ⟨h1, _⟩ | ⟨g, cap, cur, h1, hb, h2, _⟩
  · simp only [Value.slice.injEq] at h1; omega
  · simp only [Value.slice.injEq] at h1
    refine ⟨g, h1.1, hb, ?_⟩
    rcases Nat.lt_or_ge g w.heap.size with h3 | h3
    · exact h3
    · rw [Array.getElem?_eq_none h3] at h2; cases h2
theorem u32_get {l : List Nat} {k : Nat} (h : k < l.length) : (l.map u32v)[k]? = some (.int .u32 (at_ l k : Int)) := by
  unfold at_
  rw [List.getElem?_map, List.getElem?_eq_getElem h, List.getD_eq_getElem?_getD, List.getElem?_eq_getElem h]
  rfl
set_option maxRecDepth 20000 in
set_option maxHeartbeats 400000 in
theorem specBytes_any (l : List Nat) (hl : ∀ x ∈ l, x < 4294967296) (hn : l.length ≤ 1000) (v : Value) (base : Nat) (w : World) (hown : OwnV w base 100 v (l.map u32v)) :
    Calls Try.prog 91 #[v] w fun e w' => e = .returned (.string ⟨(bytesL l).toArray⟩) ∧ Below w.heap.size w w' := by
  obtain ⟨i0, hi, hz0, hz1, hz2⟩ := info_parts Try.infoByte
  obtain ⟨a, c, rfl⟩ := hown.shape
  have hn2 : (l.map u32v).length = l.length := List.length_map _
  rw [hn2] at hown ⊢
  obtain ⟨n, hnn⟩ : ∃ n, l.length = n := ⟨_, rfl⟩
  rw [hnn] at hown hn ⊢
  clear hn2
  have HOw := hide hown
  have HL := hide hnn
  clear hown hnn
  go_enter Try.func91, Try.ntmps91
  go_wp2
  go_loopw [3, 4] (fun tv ti wr => ∃ k : Nat, k ≤ n ∧ ti = .int .i64 (k : Int) ∧ Hid (OwnB wr w.heap.size 5 tv (bytesL (l.take k))) ∧ Below w.heap.size w wr) (fun _ ti _ => n - (intOf ti).toNat)
  case atStart => exact ⟨0, by omega, rfl, hide (World.ownsRow_made w #[] 0 (Nat.le_refl _) (by decide) (by simp)), (Below.refl _ _).alloc (Nat.le_refl _) _⟩
  case round =>
    obtain ⟨k, hk, rfl, HO, hb⟩ := hrel
    by_cases hlt : k < n
    · obtain ⟨g, rfl, _, hgl⟩ := (unhide HOw).some_at (by omega)
      have hln := unhide HL
      have ck := (hb.cell (p := ⟨g, k, none⟩) hgl).trans ((unhide HOw).cell (u32_get (l := l) (k := k) (by omega)))
      have hxx := at_lt hl k
      have HB := hide (bytes_take l k (by omega))
      have hpl : (bytesL (l.take k)).length ≤ 10000 := by rw [bytesL_len]; simp; omega
      have HC := hide (cs_word (at_ l k) hxx)
      have hown := unhide HO
      have hsz := hb.size
      generalize at_ l k = x at *
      clear hln
      go_wp2_with (at_builtin; refine wpList_append_bytes rfl (.tmp 17) (.tmp 32) 22 rfl w.heap.size w.heap.size 5 i0 Try.underlying22 hi hz0 hz1 hz2 _ _ rfl hown _ (bytesW x) (by exact unhide HC) 4 4 rfl rfl (by omega) (Nat.le_refl _) hsz hb ?_; intro v' w1 hown' hb')
      rw [← unhide HB] at hown'
      go_roundw
      case rel => exact ⟨k + 1, by omega, by go_num, hide hown', hb'⟩
      case measure => simp [intOf]; omega
    · have hkn : k = n := by omega
      have hown2 : OwnB wr w.heap.size 5 u3 (bytesL l) := by
        have := unhide HO
        rw [List.take_of_length_le (by rw [unhide HL]; omega)] at this
        exact this
      replace hkn := hide hkn
      have hc := run_string_owned (P := Try.prog) wr 22 9 5 w.heap.size u3 (bytesL l) Try.underlying22 Try.underlying5 Try.underlying9 hown2
      go_wp2
      go_ret
      exact ⟨rfl, hb⟩
end Go.Proofs.Ytinnaajkdkfnaaa

/- A hasher, and the laws' helpers on one; whether it is right, by spec and by impl, over the loaded program. -/
namespace Go.Proofs.Ytinnaajkdkfnaaa
open Go.RowKit
set_option linter.unusedVariables false

structure Hs where
  st : ByteArray
  rs : ByteArray
  ct : Int
def hsv (h : Hs) : Value := .agg #[.string h.st, .string h.rs, .int .i64 h.ct]
def okH (h : Hs) : Bool := decide (h.st.size = 32) && (decide (0 ≤ h.ct) && (decide (h.ct ≤ 1000000000) && decide (h.ct % 64 = (h.rs.size : Int))))

theorem okH_no1 {a : Hs} (h : ¬ (a.st.size : Int) = 32) : okH a = false := by
  unfold okH; rw [decide_eq_false (by omega : ¬ a.st.size = 32)]; rfl
theorem okH_no2 {a : Hs} (h : ¬ 0 ≤ a.ct) : okH a = false := by
  unfold okH; rw [decide_eq_false h]; simp
theorem okH_no3 {a : Hs} (h : ¬ a.ct ≤ 1000000000) : okH a = false := by
  unfold okH; rw [decide_eq_false h]; simp
theorem okH_no4 {a : Hs} (h : ¬ a.ct % 64 = (a.rs.size : Int)) : okH a = false := by
  unfold okH; rw [decide_eq_false h]; simp
theorem okH_is {a : Hs} (h1 : (a.st.size : Int) = 32) (h2 : 0 ≤ a.ct) (h3 : a.ct ≤ 1000000000) : okH a = (a.ct % 64 == (a.rs.size : Int)) := by
  unfold okH; rw [decide_eq_true (by omega : a.st.size = 32), decide_eq_true h2, decide_eq_true h3]; rfl
theorem okH_is' {a : Hs} (h1 : (a.st.size : Int) = 32) (h2 : 0 ≤ a.ct) (h3 : a.ct ≤ 1000000000) : okH a = ((a.rs.size : Int) == a.ct % 64) := by
  rw [okH_is h1 h2 h3]; exact Bool.beq_comm
theorem okH_yes {a : Hs} (h : okH a = true) : a.st.size = 32 ∧ 0 ≤ a.ct ∧ a.ct ≤ 1000000000 ∧ a.ct % 64 = (a.rs.size : Int) := by
  unfold okH at h
  simpa using h
/-- Block g is a variable that holds the hasher. -/
def HB (w : World) (g : Nat) (T : TypeId) (a : Hs) : Prop := w.heap[g]? = some (.cells #[.string a.st, .string a.rs, .int .i64 a.ct] T (0, 0))
theorem HB.lt {w : World} {g : Nat} {T : TypeId} {a : Hs} (h : HB w g T a) : g < w.heap.size := by
  rcases Nat.lt_or_ge g w.heap.size with h1 | h1
  · exact h1
  · unfold HB at h
    rw [Array.getElem?_eq_none h1] at h; cases h
theorem HB.below {w w' : World} {g B : Nat} {T : TypeId} {a : Hs} (h : HB w g T a) (hb : Below B w w') (hg : g < B) : HB w' g T a := by
  unfold HB at h ⊢
  rw [hb.block g hg]; exact h
theorem HB.step {w w' : World} {g : Nat} {T : TypeId} {a : Hs} (h : HB w g T a) (hb : Below w.heap.size w w') : HB w' g T a := h.below hb h.lt
theorem HB.c0 {w : World} {g : Nat} {T : TypeId} {a : Hs} (h : HB w g T a) : w.cell? ⟨g, 0, none⟩ = some (.string a.st) := by unfold HB at h; simp [World.cell?, h]
theorem HB.c1 {w : World} {g : Nat} {T : TypeId} {a : Hs} (h : HB w g T a) : w.cell? ⟨g, 1, none⟩ = some (.string a.rs) := by unfold HB at h; simp [World.cell?, h]
theorem HB.c2 {w : World} {g : Nat} {T : TypeId} {a : Hs} (h : HB w g T a) : w.cell? ⟨g, 2, none⟩ = some (.int .i64 a.ct) := by unfold HB at h; simp [World.cell?, h]
theorem HB.frozen {w : World} {g : Nat} {T : TypeId} {a : Hs} (h : HB w g T a) (k : Nat) : w.frozen? ⟨g, k, none⟩ = false := frozen_of_row w g k _ T h
theorem HB.set3 {w : World} {g : Nat} {T : TypeId} {a : Hs} (h : HB w g T a) (b : Hs) : HB (((w.setCell ⟨g, 0, none⟩ (.string b.st)).setCell ⟨g, 1, none⟩ (.string b.rs)).setCell ⟨g, 2, none⟩ (.int .i64 b.ct)) g T b := by
  have e0 := heap_setCell_same w g 0 _ T (.string b.st) h
  have e1 := heap_setCell_same _ g 1 _ T (.string b.rs) e0
  have e2 := heap_setCell_same _ g 2 _ T (.int .i64 b.ct) e1
  unfold HB
  rw [e2]
  rfl
theorem results_hash {P : Program} {fn : Func} {p : Tmp} {ty : TypeId} (h : fn.results = #[.cell p ty]) (tmps : Array Value) (w : World) (g : Nat) (T : TypeId) (a : Hs) (fs : Array Field)
    (hp : tmps.getD p undef = .pointer (some ⟨g, 0, none⟩)) (hA : HB w g T a) (hu : P.underlying ty = some (.struct fs)) (hi : (P.info? ty).map (·.size) = some 3) :
    (results fn tmps).run P w = .ok (hsv a) w :=
  results_cell_row h tmps w g T _ (0, 0) _ hp hA hu rfl hi
theorem one_hash (w : World) (a : Hs) (T : TypeId) : ∃ W, w.alloc (.cells #[.string a.st, .string a.rs, .int .i64 a.ct] T) = W ∧ HB W w.heap.size T a ∧ Below w.heap.size w W ∧ w.heap.size < W.heap.size := by
  refine ⟨_, rfl, ?_, (Below.refl _ w).alloc (Nat.le_refl _) _, by simp⟩
  unfold HB
  exact heap_alloc_new w _
theorem stored_hash (w : World) (T : TypeId) (st rs : ByteArray) (ct : Int) : ∃ W, ((((w.alloc (.cells #[.string ⟨#[]⟩, .string ⟨#[]⟩, .int .i64 0] T)).setCell ⟨w.heap.size, 0, none⟩ (.string st)).setCell ⟨w.heap.size, 1, none⟩ (.string rs)).setCell ⟨w.heap.size, 2, none⟩ (.int .i64 ct)) = W ∧
    HB W w.heap.size T ⟨st, rs, ct⟩ ∧ Below w.heap.size w W ∧ w.heap.size < W.heap.size := by
  obtain ⟨W, hW, hB, hb, hlt⟩ := one_hash w ⟨⟨#[]⟩, ⟨#[]⟩, 0⟩ T
  dsimp only at hW
  rw [hW]
  refine ⟨_, rfl, hB.set3 ⟨st, rs, ct⟩, ?_, by simpa using hlt⟩
  exact ((hb.setCell (p := ⟨w.heap.size, 0, none⟩) (Nat.le_refl _) _).setCell (p := ⟨w.heap.size, 1, none⟩) (Nat.le_refl _) _).setCell (p := ⟨w.heap.size, 2, none⟩) (Nat.le_refl _) _
set_option maxRecDepth 20000 in
set_option maxHeartbeats 800000 in
theorem specOk_any (a : Hs) (w : World) (h1 : a.st.size ≤ maxLen) (h2 : a.rs.size ≤ maxLen) :
    Calls Try.prog 87 #[hsv a] w fun e w' => e = .returned (.bool (okH a)) ∧ Below w.heap.size w w' := by
  unfold maxLen at h1 h2
  unfold hsv
  by_cases c1 : (a.st.size : Int) = 32
  · by_cases c4 : (a.rs.size : Int) < 64
    · by_cases c2 : 0 ≤ a.ct
      · by_cases c3 : a.ct ≤ 1000000000
        · have t : a.ct.tmod 64 = a.ct % 64 := Int.tmod_eq_emod_of_nonneg c2
          go_enter Try.func87, Try.ntmps87
          go_wp2
          go_ret
          exact ⟨by rw [okH_is c1 c2 c3]; rfl, (Below.refl _ _).alloc (Nat.le_refl _) _⟩
        · go_enter Try.func87, Try.ntmps87
          go_wp2
          go_ret
          exact ⟨by rw [okH_no3 (by omega)]; rfl, (Below.refl _ _).alloc (Nat.le_refl _) _⟩
      · go_enter Try.func87, Try.ntmps87
        go_wp2
        go_ret
        exact ⟨by rw [okH_no2 (by omega)]; rfl, (Below.refl _ _).alloc (Nat.le_refl _) _⟩
    · have c5 : ¬ a.ct % 64 = (a.rs.size : Int) := by omega
      go_enter Try.func87, Try.ntmps87
      go_wp2
      go_ret
      exact ⟨by rw [okH_no4 c5]; rfl, (Below.refl _ _).alloc (Nat.le_refl _) _⟩
  · go_enter Try.func87, Try.ntmps87
    go_wp2
    go_ret
    exact ⟨by rw [okH_no1 c1]; rfl, (Below.refl _ _).alloc (Nat.le_refl _) _⟩
end Go.Proofs.Ytinnaajkdkfnaaa

/- The first hasher, by impl and by spec, over the loaded program. -/
namespace Go.Proofs.Ytinnaajkdkfnaaa
open Go.RowKit
theorem own_lit (w : World) (e : TypeId) (l : List Nat) (hl : l.length ≤ maxLen) : OwnV (w.alloc (.cells (l.map u32v).toArray e)) w.heap.size e (.slice (some ⟨w.heap.size, 0, none⟩) l.length l.length) (l.map u32v) :=
  ⟨by simp, .inr ⟨w.heap.size, l.length, (l.map u32v).toArray, by simp, Nat.le_refl _, heap_alloc_new w _, by simp, hl, by simp, by simp; exact List.take_of_length_le (by simp)⟩⟩
def zeros8 : List Nat := List.replicate 8 0
set_option maxRecDepth 20000 in
theorem firstState_any (w : World) :
    Calls Try.prog 93 #[] w fun e w' => e = .returned (aggV first8.toL) ∧ Below w.heap.size w w' := by
  have H1 := hide (ArrAt.new w 113 zeros8)
  have hik : (Try.prog.info? 113).map (·.size) = some first8.toL.length := by kernel_rfl
  replace hik := hide hik
  have hb : Below w.heap.size w (w.alloc (.cells (zeros8.map u32v).toArray 113)) := (Below.refl w.heap.size w).alloc (Nat.le_refl _) _
  replace hb := hide hb
  go_enter Try.func93, Try.ntmps93
  go_wp2_with (first | (refine wpList_build_arr rfl 113 _ rfl first8.toL (by kernel_rfl) ?_) | (refine wpList_store_arr rfl 113 _ _ rfl w.heap.size _ zeros8 rfl rfl 113 (unhide H1) (unhide hik) rfl ?_))
  refine bodyPost_ret (v := aggV first8.toL) (results_arr Try.results93 _ _ w.heap.size 113 _ _ _ rfl ((unhide H1).setRow _) Try.underlying113 (unhide hik)) rfl ⟨rfl, Go.below_setRow (unhide hb) (Nat.le_refl _) _⟩
theorem one_z8 (w : World) (T : TypeId) : ArrAt (w.alloc (.cells #[.int .u32 0, .int .u32 0, .int .u32 0, .int .u32 0, .int .u32 0, .int .u32 0, .int .u32 0, .int .u32 0] T)) w.heap.size T zeros8 ∧ Below w.heap.size w (w.alloc (.cells #[.int .u32 0, .int .u32 0, .int .u32 0, .int .u32 0, .int .u32 0, .int .u32 0, .int .u32 0, .int .u32 0] T)) :=
  ⟨ArrAt.new w T zeros8, (Below.refl w.heap.size w).alloc (Nat.le_refl _) _⟩
theorem info8 (v : V8) : (Try.prog.info? 113).map (·.size) = some v.toL.length := by
  have : (Try.prog.info? 113).map (·.size) = some 8 := by kernel_rfl
  exact this
def h0 : Hs := ⟨⟨#[]⟩, ⟨#[]⟩, 0⟩
set_option maxRecDepth 20000 in
set_option maxHeartbeats 400000 in
theorem specFirst_any (w : World) :
    Calls Try.prog 92 #[] w fun e w' => (∃ a c, e = .returned (.slice a 8 c) ∧ OwnV w' w.heap.size 100 (.slice a 8 c) (first8.toL.map u32v)) ∧ Below w.heap.size w w' := by
  go_enter Try.func92, Try.ntmps92
  go_wp2
  go_ret
  exact ⟨⟨_, _, rfl, own_lit w 100 first8.toL (by decide)⟩, (Below.refl _ _).alloc (Nat.le_refl _) _⟩
set_option maxRecDepth 20000 in
set_option maxHeartbeats 400000 in
theorem specNew_any (w : World) :
    Calls Try.prog 78 #[] w fun e w' => e = .returned (hsv ⟨first8.text, ⟨#[]⟩, 0⟩) ∧ Below w.heap.size w w' := by
  go_enter Try.func78, Try.ntmps78
  go_wp2_with fail
  obtain ⟨W, hW, hB, hb, hlt⟩ := one_hash w h0 94
  unfold h0 at hW
  rw [hW]
  clear hW
  refine (specFirst_any _).mono ?_
  rintro e w1 ⟨⟨a, c, rfl, hown⟩, hb1⟩
  have hB1 := hB.step hb1
  have HT1 := hb.trans (hb1.mono (Nat.le_of_lt hlt))
  have hl1 := hB1.lt
  clear hB hb hb1
  replace hB1 := hide hB1
  replace HT1 := hide HT1
  go_wp2_with (go_at_call 91; refine (specBytes_any first8.toL (by decide) (by decide) _ _ _ hown).mono ?_; rintro e w3 ⟨rfl, hb3⟩; have hB3 := (unhide hB1).below hb3 hl1; have k0 := hB3.c0; have k1 := hB3.c1; have k2 := hB3.c2; have f0 := hB3.frozen 0; have f1 := hB3.frozen 1; have f2 := hB3.frozen 2; have hl3 := hB3.lt; have HT3 := hide ((unhide HT1).trans (hb3.mono (Nat.le_of_lt hl1))); clear hb3)
  refine bodyPost_ret (v := hsv ⟨first8.text, ⟨#[]⟩, 0⟩) (results_hash Try.results78 _ _ w.heap.size 94 _ _ rfl (HB.set3 hB3 ⟨first8.text, ⟨#[]⟩, 0⟩) Try.underlying94 (by kernel_rfl)) rfl ⟨rfl, ?_⟩
  exact (((unhide HT3).setCell (p := ⟨w.heap.size, 0, none⟩) (Nat.le_refl _) _).setCell (p := ⟨w.heap.size, 1, none⟩) (Nat.le_refl _) _).setCell (p := ⟨w.heap.size, 2, none⟩) (Nat.le_refl _) _
end Go.Proofs.Ytinnaajkdkfnaaa

/- The words of a text, and the numbers, by spec, over the loaded program. -/
namespace Go.Proofs.Ytinnaajkdkfnaaa
open Go.RowKit
theorem Try.infoW : (Try.prog.info? 100).map (fun i => (i.zero, i.size, i.bytes)) = some (some (.int .u32 0), 1, 4) := by kernel_rfl
set_option maxRecDepth 20000 in
set_option maxHeartbeats 400000 in
theorem specK_any (w : World) :
    Calls Try.prog 89 #[] w fun e w' => (∃ a c, e = .returned (.slice a 64 c) ∧ OwnV w' w.heap.size 100 (.slice a 64 c) (kTab.map u32v)) ∧ Below w.heap.size w w' := by
  go_enter Try.func89, Try.ntmps89
  go_wp2
  go_ret
  exact ⟨⟨_, _, rfl, own_lit w 100 kTab (by decide)⟩, (Below.refl _ _).alloc (Nat.le_refl _) _⟩
set_option maxRecDepth 20000 in
set_option maxHeartbeats 400000 in
theorem specWords_any (s : ByteArray) (n : Nat) (hs : s.size = 4 * n) (hn : n ≤ 100) (w : World) :
    Calls Try.prog 88 #[.string s] w fun e w' => (∃ a c, e = .returned (.slice a n c) ∧ OwnV w' w.heap.size 100 (.slice a n c) ((wordsN s n).map u32v)) ∧ Below w.heap.size w w' := by
  obtain ⟨i0, hi, hz0, hz1, hz2⟩ := info_parts Try.infoW
  go_enter Try.func88, Try.ntmps88
  go_wp2
  go_loopw [3, 4] (fun tv ti wr => ∃ k : Nat, k ≤ n ∧ ti = .int .i64 ((4 * k : Nat) : Int) ∧ Hid (OwnV wr w.heap.size 100 tv ((wordsN s k).map u32v)) ∧ Below w.heap.size w wr) (fun _ ti _ => 4 * n - (intOf ti).toNat)
  case atStart => exact ⟨0, by omega, rfl, hide (World.ownsRow_made w #[] 0 (Nat.le_refl _) (by decide) (by simp)), (Below.refl _ _).alloc (Nat.le_refl _) _⟩
  case round =>
    obtain ⟨k, hk, rfl, HO, hb⟩ := hrel
    obtain ⟨i, hi4⟩ : ∃ i, i = 4 * k := ⟨_, rfl⟩
    rw [← hi4]
    have HW := hide (wordsN_succ s k)
    have hib : i ≤ 1000 := by omega
    have hwl := wordsN_len s k
    by_cases hlt : k < n
    · have h4 : (i : Int) + 4 ≤ (s.size : Int) := by omega
      have hsz := hb.size
      have hln : ((wordsN s k).map u32v).length = k := by rw [List.length_map]; exact hwl
      have hown := unhide HO
      rw [← hi4] at HW
      have C := hide (specWord_any s i (by omega) (by omega))
      have hm1 : ((wordsN s k).map u32v).length + 1 ≤ maxLen := by rw [hln]; unfold maxLen; omega
      have hm2 : (((wordsN s k).map u32v).length + 1) * 4 ≤ 140737488355328 := by rw [hln]; omega
      replace hm1 := hide hm1
      replace hm2 := hide hm2
      replace hi4 := hide hi4
      clear hwl hln
      generalize wAt s i = x at *
      go_wp2_with (first
        | (go_at_call 98; refine ((unhide C) _).mono ?_; rintro e w1 ⟨rfl, n1, rfl⟩)
        | (at_builtin; refine wpList_append_vals (w := wr.drewN n1) rfl (.tmp 13) (.tmp 17) 107 rfl w.heap.size w.heap.size 100 i0 (.int .u32 0) 4 Try.underlying107 hi hz0 hz1 hz2 rfl _ _ rfl (by exact hown) _ [.int .u32 (x : Int)] rfl (by intro u hu; simp only [List.mem_singleton] at hu; subst hu; rfl) 1 1 rfl rfl (unhide hm1) (unhide hm2) (Nat.le_refl _) hsz (Below.drewN hb n1) ?_; intro v' w2 hown2 hb2))
      have hown3 : OwnV w2 w.heap.size 100 v' ((wordsN s (k + 1)).map u32v) := by
        rw [unhide HW, List.map_append]; exact hown2
      replace hown3 := hide hown3
      clear hown2 hown
      go_roundw
      case rel => exact ⟨k + 1, by omega, by have := unhide hi4; go_num, hown3, hb2⟩
      case measure => have := unhide hi4; simp [intOf]; omega
    · have hkn : k = n := by omega
      have h4 : ¬ (i : Int) + 4 ≤ (s.size : Int) := by omega
      have hown := unhide HO
      rw [hkn] at hown
      obtain ⟨a, c, hv⟩ := hown.shape
      rw [List.length_map, wordsN_len] at hv
      replace hi4 := hide hi4
      replace hkn := hide hkn
      clear hwl
      subst hv
      replace hown := hide hown
      go_wp2
      go_ret
      exact ⟨⟨_, _, rfl, unhide hown⟩, hb⟩
end Go.Proofs.Ytinnaajkdkfnaaa

/- Helps for spec's round: an append of words inside a region that draws; the four turns by one contract. -/
namespace Go.Proofs.Ytinnaajkdkfnaaa
open Go.RowKit
theorem step_append_vals {P : Program} {w W : World} {ops : Array Oper} {o : Oper} {a : Act} {K : Act → World → Prop} {Q : Exit → Act → World → Prop} {E : Prop} (hg : o.guard = none) (s x : Operand) (t : TypeId)
    (ho : o.op = .call { callee := .builtin .append, args := #[s, x], argTypes := #[t, t] })
    (base B : Nat) (e : TypeId) (i : TypeInfo) (z : Value) (nb : Nat) (ht : P.underlying t = some (.slice e)) (hi : P.info? e = some i) (hz : i.zero = some z) (hsize : i.size = 1) (hby : i.bytes = nb) (hzs : z.cells.size = 1)
    (v : Value) (xs : List Value) (hs : a.eval s = v) (hown : OwnV w base e v xs)
    (cs : Array Value) (news : List Value) (hcs : cs.toList = news) (h1 : ∀ u ∈ news, u.oneCell' = true) (m c : Nat) (hm : news.length = m) (hx : a.eval x = .slice (some ⟨w.heap.size, 0, none⟩) m c)
    (hW : W = w.alloc (.cells cs e))
    (h63 : xs.length + m ≤ maxLen) (hbytes : (xs.length + m) * nb ≤ 140737488355328) (hB : B ≤ base) (hbase : base ≤ w.heap.size) {w00 : World} (hbel : Below B w00 w)
    (h : ∀ v' w', OwnV w' base e v' (xs ++ news) → Below B w00 w' → K (a.put o.dst v') w') :
    if Region.wanted o (yielded ops a.tmps) = true then Oper.wp P o a W K Q else E := by
  subst hW
  have hw : Region.wanted o (yielded ops a.tmps) = true := by simp [Region.wanted, hg]
  rw [if_pos hw]
  exact wp_append_vals s x t ho base B e i z nb ht hi hz hsize hby hzs v xs hs (hown.alloc _) w.heap.size cs (heap_alloc_new w _) news hcs h1 m c hm hx h63 hbytes hB (by simp; omega) (hbel.alloc (by omega) _) h
theorem wp_append_vals_cells {P : Program} {W : World} {o : Oper} {a : Act} {K : Act → World → Prop} {Q : Exit → Act → World → Prop} (s x : Operand) (t : TypeId)
    (ho : o.op = .call { callee := .builtin .append, args := #[s, x], argTypes := #[t, t] })
    (base B : Nat) (e : TypeId) (i : TypeInfo) (z : Value) (nb : Nat) (ht : P.underlying t = some (.slice e)) (hi : P.info? e = some i) (hz : i.zero = some z) (hsize : i.size = 1) (hby : i.bytes = nb) (hzs : z.cells.size = 1)
    (g n c0 : Nat) (xs : List Value) (hs : a.eval s = .slice (some ⟨g, 0, none⟩) n c0) (hown : OwnV W base e (.slice (some ⟨g, 0, none⟩) n c0) xs)
    (blk : Nat) (cs : Array Value) (hblk : W.heap[blk]? = some (.cells cs e (0, 0))) (news : List Value) (hcs : cs.toList = news) (h1 : ∀ u ∈ news, u.oneCell' = true) (m c : Nat) (hm : news.length = m) (hx : a.eval x = .slice (some ⟨blk, 0, none⟩) m c)
    (h63 : xs.length + m ≤ maxLen) (hbytes : (xs.length + m) * nb ≤ 140737488355328) (hB : B ≤ base) (hbase : base ≤ W.heap.size) {w00 : World} (hbel : Below B w00 W)
    (h : ∀ v' w', OwnV w' base e v' (xs ++ news) → Below B w00 w' → (∀ k u, xs[k]? = some u → w'.cell? ⟨g, k, none⟩ = some u) → K (a.put o.dst v') w') : o.wp P a W K Q := by
  subst hm
  have hcell : ∀ j u, news[j]? = some u → W.cell? ((⟨blk, 0, none⟩ : Addr).add j) = some u := by
    intro j u hu
    have hadd : (⟨blk, 0, none⟩ : Addr).add j = ⟨blk, j, none⟩ := by unfold Addr.add; split <;> simp_all
    rw [hadd, cell_of_row W blk j cs e (0, 0) hblk]
    rw [← hcs] at hu
    simpa using hu
  have hown2 : W.ownsRow base e i.size (.slice (some ⟨g, 0, none⟩) n c0) xs.length xs := by rw [hsize]; exact hown
  obtain ⟨v', w', hr, h2, h3, _⟩ := run_append_own (P := P) W base t o.type e i z i.size nb ht hi hz rfl hby (by rw [hsize]; exact hzs) (by rw [hsize]; decide) _ xs.length xs hown2 ⟨blk, 0, none⟩ news.length c news (by rw [hsize, Nat.mul_one]) hcell h1 h63 hbytes hbase
  unfold Oper.wp execOp
  simp only [ho, resolve, invoke, builtin, Sem.run_bind, Sem.run_pure, Result.andThen_ok, List.map_toArray, List.map_cons, List.map_nil, hs, hx, hr]
  have h2' : OwnV w' base e v' (xs ++ news) := by unfold OwnV; rw [List.length_append, ← hsize]; exact h2
  refine h v' w' h2' ?_ ?_
  · refine hbel.grown h3 (by omega) ?_
    intro k hk
    have := (hown.lt k hk).1
    omega
  · intro k u hk
    rcases hown.2 with ⟨h1', _⟩ | ⟨g', cap, cur, h1', hbg, hg, hnc, hcm, hsz, htk⟩
    · cases h1'
    simp only [Value.slice.injEq, Option.some.injEq, Addr.mk.injEq] at h1'
    obtain ⟨⟨rfl, _⟩, rfl, rfl⟩ := h1'
    by_cases hroom : xs.length + news.length ≤ c0
    · have hr2 := run_append_room (P := P) W t o.type e i ht hi g xs.length c0 cur hg ⟨blk, 0, none⟩ news.length c news (by rw [hsize, Nat.mul_one]) hcell h1 hroom (by rw [hsize, hsz]; omega)
      rw [hr] at hr2
      injection hr2 with e1 e2
      subst e1
      exact h2'.cell (by rw [List.getElem?_append_left (by exact (List.getElem?_eq_some_iff.mp hk).1)]; exact hk)
    · have holds : ∀ j u, xs[j]? = some u → W.cell? ((⟨g, 0, none⟩ : Addr).add j) = some u := World.ownsRow.cells hown (g := g) rfl
      have hr2 := run_append_grow (P := P) W t o.type e i z ht hi hz ⟨g, 0, none⟩ xs.length c0 xs (by rw [hsize, Nat.mul_one]) holds ⟨blk, 0, none⟩ news.length c news (by rw [hsize, Nat.mul_one]) hcell (by omega) (by simp only [maxLen] at h63; omega) (growslice_fits (by omega) (by rw [hby]; exact hbytes))
      rw [hr] at hr2
      injection hr2 with e1 e2
      rw [e2]
      have hb0 : Below W.heap.size W (W.drew.alloc (.cells (xs.toArray ++ news.toArray ++ Builtin.zeroCells z.cells (grownCap W (xs.length + news.length) c0 e - (xs.length + news.length))) e)) := ((Below.refl W.heap.size W).drew).alloc (Nat.le_refl _) _
      rw [hb0.cell (p := ⟨g, k, none⟩) (by exact (hown.lt g rfl).2)]
      exact hown.cell hk
theorem step_append_vals_cells {P : Program} {w W : World} {ops : Array Oper} {o : Oper} {a : Act} {K : Act → World → Prop} {Q : Exit → Act → World → Prop} {E : Prop} (hg : o.guard = none) (s x : Operand) (t : TypeId)
    (ho : o.op = .call { callee := .builtin .append, args := #[s, x], argTypes := #[t, t] })
    (base B : Nat) (e : TypeId) (i : TypeInfo) (z : Value) (nb : Nat) (ht : P.underlying t = some (.slice e)) (hi : P.info? e = some i) (hz : i.zero = some z) (hsize : i.size = 1) (hby : i.bytes = nb) (hzs : z.cells.size = 1)
    (g n c0 : Nat) (xs : List Value) (hs : a.eval s = .slice (some ⟨g, 0, none⟩) n c0) (hown : OwnV w base e (.slice (some ⟨g, 0, none⟩) n c0) xs)
    (cs : Array Value) (news : List Value) (hcs : cs.toList = news) (h1 : ∀ u ∈ news, u.oneCell' = true) (m c : Nat) (hm : news.length = m) (hx : a.eval x = .slice (some ⟨w.heap.size, 0, none⟩) m c)
    (hW : W = w.alloc (.cells cs e))
    (h63 : xs.length + m ≤ maxLen) (hbytes : (xs.length + m) * nb ≤ 140737488355328) (hB : B ≤ base) (hbase : base ≤ w.heap.size) {w00 : World} (hbel : Below B w00 w)
    (h : ∀ v' w', OwnV w' base e v' (xs ++ news) → Below B w00 w' → (∀ k u, xs[k]? = some u → w'.cell? ⟨g, k, none⟩ = some u) → K (a.put o.dst v') w') :
    if Region.wanted o (yielded ops a.tmps) = true then Oper.wp P o a W K Q else E := by
  subst hW
  have hw : Region.wanted o (yielded ops a.tmps) = true := by simp [Region.wanted, hg]
  rw [if_pos hw]
  exact wp_append_vals_cells s x t ho base B e i z nb ht hi hz hsize hby hzs g n c0 xs hs (hown.alloc _) w.heap.size cs (heap_alloc_new w _) news hcs h1 m c hm hx h63 hbytes hB (by simp; omega) (hbel.alloc (by omega) _) h
theorem step_append_one {P : Program} {w W : World} {ops : Array Oper} {o : Oper} {a : Act} {K : Act → World → Prop} {Q : Exit → Act → World → Prop} {E : Prop} {e : TypeId} {x : Int} (hW : W = w.alloc (.cells #[.int .u32 x] e)) (hg : o.guard = none) (s y : Operand) (t : TypeId)
    (ho : o.op = .call { callee := .builtin .append, args := #[s, y], argTypes := #[t, t] })
    (base B : Nat) (i : TypeInfo) (z : Value) (nb : Nat) (ht : P.underlying t = some (.slice e)) (hi : P.info? e = some i) (hz : i.zero = some z) (hsize : i.size = 1) (hby : i.bytes = nb) (hzs : z.cells.size = 1)
    (g n c0 : Nat) (xs : List Value) (hs : a.eval s = .slice (some ⟨g, 0, none⟩) n c0) (hown : OwnV w base e (.slice (some ⟨g, 0, none⟩) n c0) xs)
    (hx : a.eval y = .slice (some ⟨w.heap.size, 0, none⟩) 1 1)
    (h63 : xs.length + 1 ≤ maxLen) (hbytes : (xs.length + 1) * nb ≤ 140737488355328) (hB : B ≤ base) (hbase : base ≤ w.heap.size) {w00 : World} (hbel : Below B w00 w)
    (h : ∀ v' w', OwnV w' base e v' (xs ++ [.int .u32 x]) → Below B w00 w' → (∀ k u, xs[k]? = some u → w'.cell? ⟨g, k, none⟩ = some u) → K (a.put o.dst v') w') :
    if Region.wanted o (yielded ops a.tmps) = true then Oper.wp P o a W K Q else E :=
  step_append_vals_cells hg s y t ho base B e i z nb ht hi hz hsize hby hzs g n c0 xs hs hown #[.int .u32 x] [.int .u32 x] rfl (by intro u hu; simp only [List.mem_singleton] at hu; subst hu; rfl) 1 1 rfl hx hW h63 hbytes hB hbase hbel h
theorem cell_drew_alloc {w : World} {n : Nat} {o : Obj} {g k : Nat} {u : Value} (h : w.cell? ⟨g, k, none⟩ = some u) (hg : g < w.heap.size) : ((w.drewN n).alloc o).cell? ⟨g, k, none⟩ = some u := by
  have hb : Below w.heap.size w ((w.drewN n).alloc o) := (Below.drewN (Below.refl w.heap.size w) n).alloc (Nat.le_refl _) _
  rw [hb.cell (p := ⟨g, k, none⟩) hg]
  exact h
theorem wpList_copy_vals {P : Program} {w : World} {ops : Array Oper} {rest : List Oper} {o : Oper} {a : Act} {Q : Exit → Act → World → Prop} (hgd : o.guard = none) (s x : Operand) (t : TypeId)
    (ho : o.op = .call { callee := .builtin .append, args := #[s, x], argTypes := #[t, t] })
    (e : TypeId) (i : TypeInfo) (z : Value) (nb : Nat) (ht : P.underlying t = some (.slice e)) (hi : P.info? e = some i) (hz : i.zero = some z) (hsize : i.size = 1) (hby : i.bytes = nb) (hzs : z.cells.size = 1)
    (hs : a.eval s = .slice (some ⟨w.heap.size, 0, none⟩) 0 0) (b g n c : Nat) (news : List Value) (hx : a.eval x = .slice (some ⟨g, 0, none⟩) n c) (hA : OwnV w b e (.slice (some ⟨g, 0, none⟩) n c) news) (hn : news.length = n) (h1 : ∀ u ∈ news, u.oneCell' = true)
    (h63 : n ≤ maxLen) (hbytes : n * nb ≤ 140737488355328)
    (h : ∀ v' w', OwnV w' w.heap.size e v' news → Below w.heap.size w w' → wpList P ops Q rest (a.put o.dst v') w') :
    wpList P ops Q (o :: rest) a (w.alloc (.cells #[] e)) := by
  have hE : (w.alloc (.cells #[] e)).ownsRow w.heap.size e 1 (.slice (some ⟨w.heap.size, 0, none⟩) 0 0) 0 [] := World.ownsRow_made w #[] 0 (Nat.le_refl _) (by decide) (by simp)
  refine wpList_append_own (w.alloc (.cells #[] e)) hgd s x t ho w.heap.size e i z 1 nb ht hi hz hsize hby hzs (by decide) _ 0 [] hs hE ⟨g, 0, none⟩ n c news hx (by rw [hn, Nat.mul_one]) (World.ownsRow.cells (hA.alloc _) (g := g) rfl) h1 (by omega) (by rw [Nat.zero_add]; exact hbytes) (by simp) ?_
  intro v' w' h2 h3 _
  refine h v' w' (by unfold OwnV; rw [hn]; simpa using h2) ?_
  exact ((Below.refl w.heap.size w).alloc (Nat.le_refl _) _).grown h3 (by simp) (fun k hk => by simp [Value.ownBlock] at hk; omega)
/- the eight words, moved up by one from the top down to the place j -/
def shL (l : List Value) (j : Nat) : List Value := l.take (j + 1) ++ (l.drop j).take (7 - j)
theorem shL_all (a b c d e f g h : Value) : shL [a, b, c, d, e, f, g, h] 7 = [a, b, c, d, e, f, g, h] := rfl
theorem shL_none (a b c d e f g h : Value) : shL [a, b, c, d, e, f, g, h] 0 = [a, a, b, c, d, e, f, g] := rfl
theorem shL_set (a b c d e f g h : Value) (j : Nat) (h1 : 0 < j) (h7 : j ≤ 7) : ∃ u, (shL [a, b, c, d, e, f, g, h] j)[j - 1]? = some u ∧ (shL [a, b, c, d, e, f, g, h] j).set j u = shL [a, b, c, d, e, f, g, h] (j - 1) ∧ (u = a ∨ u = b ∨ u = c ∨ u = d ∨ u = e ∨ u = f ∨ u = g) := by
  obtain rfl | rfl | rfl | rfl | rfl | rfl | rfl : j = 1 ∨ j = 2 ∨ j = 3 ∨ j = 4 ∨ j = 5 ∨ j = 6 ∨ j = 7 := by omega
  · exact ⟨a, rfl, rfl, .inl rfl⟩
  · exact ⟨b, rfl, rfl, .inr (.inl rfl)⟩
  · exact ⟨c, rfl, rfl, .inr (.inr (.inl rfl))⟩
  · exact ⟨d, rfl, rfl, .inr (.inr (.inr (.inl rfl)))⟩
  · exact ⟨e, rfl, rfl, .inr (.inr (.inr (.inr (.inl rfl))))⟩
  · exact ⟨f, rfl, rfl, .inr (.inr (.inr (.inr (.inr (.inl rfl)))))⟩
  · exact ⟨g, rfl, rfl, .inr (.inr (.inr (.inr (.inr (.inr rfl)))))⟩
theorem shL_at (a b c d e f g h : Nat) (j : Nat) (h1 : 0 < j) (h7 : j ≤ 7) : ∃ u : Nat, (shL ([a, b, c, d, e, f, g, h].map u32v) j)[j - 1]? = some (.int .u32 (u : Int)) ∧ (shL ([a, b, c, d, e, f, g, h].map u32v) j).set j (.int .u32 (u : Int)) = shL ([a, b, c, d, e, f, g, h].map u32v) (j - 1) := by
  obtain ⟨u, h1, h2, h3⟩ := shL_set (u32v a) (u32v b) (u32v c) (u32v d) (u32v e) (u32v f) (u32v g) (u32v h) j h1 h7
  rcases h3 with rfl | rfl | rfl | rfl | rfl | rfl | rfl
  · exact ⟨a, h1, h2⟩
  · exact ⟨b, h1, h2⟩
  · exact ⟨c, h1, h2⟩
  · exact ⟨d, h1, h2⟩
  · exact ⟨e, h1, h2⟩
  · exact ⟨f, h1, h2⟩
  · exact ⟨g, h1, h2⟩
theorem shL_len (a b c d e f g h : Nat) (j : Nat) (h7 : j ≤ 7) : (shL ([a, b, c, d, e, f, g, h].map u32v) j).length = 8 := by
  unfold shL
  simp
  omega
theorem grown_drew {a b : World} {g : Nat} (h : a.grownBy b (some g)) (n : Nat) : a.grownBy (b.drewN n) (some g) := ⟨h.1, h.2, h.3, h.4, h.5⟩
theorem grown_set {a b : World} {g : Nat} (h : a.grownBy b (some g)) (o : Nat) (u : Value) : a.grownBy (b.setCell ⟨g, o, none⟩ u) (some g) :=
  ⟨h.1, h.2, h.3, by simpa using h.4, fun k hk hne => by
    have e := RowKit.Below.heap_setCell b ⟨g, o, none⟩ u k (fun e => hne (by rw [e]))
    rw [e]; exact h.5 k hk hne⟩
theorem grown_refl (w : World) (g : Nat) : w.grownBy w (some g) := ⟨rfl, rfl, rfl, Nat.le_refl _, fun _ _ _ => rfl⟩
theorem OwnV.grown2 {w w' : World} {base g n c : Nat} {k : Nat} {e : TypeId} {xs : List Value} (h : OwnV w base e (.slice (some ⟨k, 0, none⟩) n c) xs) (hg : w.grownBy w' (some g)) (hne : k ≠ g) : OwnV w' base e (.slice (some ⟨k, 0, none⟩) n c) xs :=
  World.ownsRow.kept h hg (by simp [Value.ownBlock]; omega)
theorem step_append_lone {P : Program} {w W : World} {ops : Array Oper} {o : Oper} {a : Act} {K : Act → World → Prop} {Q : Exit → Act → World → Prop} {E : Prop} {e : TypeId} {x : Int} (hW : W = w.alloc (.cells #[.int .u32 x] e)) (hg : o.guard = none) (s y : Operand) (t : TypeId)
    (ho : o.op = .call { callee := .builtin .append, args := #[s, y], argTypes := #[t, t] })
    (base B : Nat) (i : TypeInfo) (z : Value) (nb : Nat) (ht : P.underlying t = some (.slice e)) (hi : P.info? e = some i) (hz : i.zero = some z) (hsize : i.size = 1) (hby : i.bytes = nb) (hzs : z.cells.size = 1)
    (v : Value) (xs : List Value) (hs : a.eval s = v) (hown : OwnV w base e v xs)
    (hx : a.eval y = .slice (some ⟨w.heap.size, 0, none⟩) 1 1)
    (h63 : xs.length + 1 ≤ maxLen) (hbytes : (xs.length + 1) * nb ≤ 140737488355328) (hB : B ≤ base) (hbase : base ≤ w.heap.size) {w00 : World} (hbel : Below B w00 w)
    (h : ∀ v' w', OwnV w' base e v' (xs ++ [.int .u32 x]) → Below B w00 w' → K (a.put o.dst v') w') :
    if Region.wanted o (yielded ops a.tmps) = true then Oper.wp P o a W K Q else E :=
  step_append_vals hg s y t ho base B e i z nb ht hi hz hsize hby hzs v xs hs hown #[.int .u32 x] [.int .u32 x] rfl (by intro u hu; simp only [List.mem_singleton] at hu; subst hu; rfl) 1 1 rfl hx hW h63 hbytes hB hbase hbel h
theorem plus_take (v u : V8) (k : Nat) (hk : k < 8) : (v.plus u).toL.take (k + 1) = (v.plus u).toL.take k ++ [(at_ v.toL k + at_ u.toL k) % 4294967296] := by
  obtain rfl | rfl | rfl | rfl | rfl | rfl | rfl | rfl : k = 0 ∨ k = 1 ∨ k = 2 ∨ k = 3 ∨ k = 4 ∨ k = 5 ∨ k = 6 ∨ k = 7 := by omega
  all_goals rfl
theorem take_len8 (v : V8) (k : Nat) (hk : k ≤ 8) : ((v.toL.take k).map u32v).length = k := by
  rw [List.length_map, List.length_take, show v.toL.length = 8 from rfl]; omega
def sgV (A : Int) (x : Nat) : Nat := if A = 131072 then sg2 17 19 10 x else if A = 128 then sg2 7 18 3 x else if A = 64 then sg3 6 11 25 x else sg3 2 13 22 x
theorem sgV_a (x : Nat) : sgV 131072 x = sg2 17 19 10 x := by unfold sgV; rw [if_pos rfl]
theorem sgV_b (x : Nat) : sgV 128 x = sg2 7 18 3 x := by unfold sgV; rw [if_neg (by decide), if_pos rfl]
theorem sgV_c (x : Nat) : sgV 64 x = sg3 6 11 25 x := by unfold sgV; rw [if_neg (by decide), if_neg (by decide), if_pos rfl]
theorem sgV_d (x : Nat) : sgV 4 x = sg3 2 13 22 x := by unfold sgV; rw [if_neg (by decide), if_neg (by decide), if_neg (by decide)]
theorem specS_lit (x : Nat) (A B C : Int) (b : Bool) (hx : x < 4294967296) (h : (A = 131072 ∧ B = 524288 ∧ C = 1024 ∧ b = true) ∨ (A = 128 ∧ B = 262144 ∧ C = 8 ∧ b = true) ∨ (A = 64 ∧ B = 2048 ∧ C = 33554432 ∧ b = false) ∨ (A = 4 ∧ B = 8192 ∧ C = 4194304 ∧ b = false)) (w : World) :
    Calls Try.prog 99 #[.int .u32 (x : Int), .int .u32 A, .int .u32 B, .int .u32 C, .bool b] w fun e w' => e = .returned (.int .u32 (sgV A x : Int)) ∧ ∃ n, w' = w.drewN n := by
  rcases h with ⟨rfl, rfl, rfl, rfl⟩ | ⟨rfl, rfl, rfl, rfl⟩ | ⟨rfl, rfl, rfl, rfl⟩ | ⟨rfl, rfl, rfl, rfl⟩
  · rw [sgV_a]; exact specS_a x hx w
  · rw [sgV_b]; exact specS_b x hx w
  · rw [sgV_c]; exact specS_c x hx w
  · rw [sgV_d]; exact specS_d x hx w
end Go.Proofs.Ytinnaajkdkfnaaa

/- A block is mixed in by spec, over the loaded program. -/
namespace Go.Proofs.Ytinnaajkdkfnaaa
open Go.RowKit
set_option maxRecDepth 20000 in
set_option maxHeartbeats 1000000 in
theorem specRound_any (v : V8) (hv : v.ok) (s : ByteArray) (hs : s.size = 64) (ga ca gk ck base : Nat) (w : World) (hA : OwnV w base 100 (.slice (some ⟨ga, 0, none⟩) 8 ca) (v.toL.map u32v)) (hK : OwnV w base 100 (.slice (some ⟨gk, 0, none⟩) 64 ck) (kTab.map u32v)) :
    Calls Try.prog 90 #[.slice (some ⟨ga, 0, none⟩) 8 ca, .slice (some ⟨gk, 0, none⟩) 64 ck, .string s] w fun e w' => (∃ g c, e = .returned (.slice (some ⟨g, 0, none⟩) 8 c) ∧ OwnV w' w.heap.size 100 (.slice (some ⟨g, 0, none⟩) 8 c) ((roundW v s).toL.map u32v)) ∧ Below w.heap.size w w' := by
  obtain ⟨i0, hi, hz0, hz1, hz2⟩ := info_parts Try.infoW
  have HA := hide hA
  have HK := hide hK
  clear hA hK
  go_enter Try.func90, Try.ntmps90
  go_wp2_with (go_at_call 88; refine (specWords_any s 16 (by omega) (by decide) _).mono ?_; rintro e w1 ⟨⟨a1, c1, rfl, hown1⟩, hb1⟩)
  replace hown1 := hide hown1
  go_loopw [7, 8] (fun tv ti wr => ∃ m : Nat, m ≤ 48 ∧ ti = .int .i64 ((16 + m : Nat) : Int) ∧ Hid (OwnV wr w.heap.size 100 tv ((schedN (wordsN s 16) m).map u32v)) ∧ Below w.heap.size w wr) (fun _ ti _ => 64 - (intOf ti).toNat)
  case atStart => exact ⟨0, by omega, rfl, hown1, hb1⟩
  case round =>
    clear hown1 hb1
    obtain ⟨m, hm, rfl, HO, hb⟩ := hrel
    have HL := hide (schedN_len (wordsN s 16) (wordsN_len s 16) m)
    obtain ⟨t, ht⟩ : ∃ t, t = 16 + m := ⟨_, rfl⟩
    rw [← ht] at HL ⊢
    obtain ⟨a, c, hsh⟩ := (unhide HO).shape
    rw [List.length_map, unhide HL] at hsh
    subst hsh
    obtain ⟨g, rfl, hg1, hg2⟩ := (unhide HO).some_at (by omega)
    by_cases hlt : m < 48
    · have htl : t < 64 := by omega
      have htg : 16 ≤ t := by omega
      have hsz := hb.size
      obtain ⟨p2, hp2⟩ : ∃ p, p = t - 2 := ⟨_, rfl⟩
      have y2 := hide (u32_get (l := schedN (wordsN s 16) m) (k := p2) (by rw [unhide HL]; omega))
      have c2 := (unhide HO).cell (u32_get (l := schedN (wordsN s 16) m) (k := p2) (by rw [unhide HL]; omega))
      have e2 : IntKind.i64.wrap ((t : Int) - 2) = (p2 : Int) := by rw [IntKind.wrap_i64]; omega
      have l2 : (p2 : Int) < (t : Int) := by omega
      have x2 := hide (sched_lt s m p2)
      replace hp2 := hide hp2
      obtain ⟨q2, hq2⟩ : ∃ q, q = at_ (schedN (wordsN s 16) m) p2 := ⟨_, rfl⟩
      rw [← hq2] at c2 x2 y2
      replace hq2 := hide hq2
      obtain ⟨p7, hp7⟩ : ∃ p, p = t - 7 := ⟨_, rfl⟩
      have y7 := hide (u32_get (l := schedN (wordsN s 16) m) (k := p7) (by rw [unhide HL]; omega))
      have c7 := (unhide HO).cell (u32_get (l := schedN (wordsN s 16) m) (k := p7) (by rw [unhide HL]; omega))
      have e7 : IntKind.i64.wrap ((t : Int) - 7) = (p7 : Int) := by rw [IntKind.wrap_i64]; omega
      have l7 : (p7 : Int) < (t : Int) := by omega
      have x7 := hide (sched_lt s m p7)
      replace hp7 := hide hp7
      obtain ⟨q7, hq7⟩ : ∃ q, q = at_ (schedN (wordsN s 16) m) p7 := ⟨_, rfl⟩
      rw [← hq7] at c7 x7 y7
      replace hq7 := hide hq7
      obtain ⟨p15, hp15⟩ : ∃ p, p = t - 15 := ⟨_, rfl⟩
      have y15 := hide (u32_get (l := schedN (wordsN s 16) m) (k := p15) (by rw [unhide HL]; omega))
      have c15 := (unhide HO).cell (u32_get (l := schedN (wordsN s 16) m) (k := p15) (by rw [unhide HL]; omega))
      have e15 : IntKind.i64.wrap ((t : Int) - 15) = (p15 : Int) := by rw [IntKind.wrap_i64]; omega
      have l15 : (p15 : Int) < (t : Int) := by omega
      have x15 := hide (sched_lt s m p15)
      replace hp15 := hide hp15
      obtain ⟨q15, hq15⟩ : ∃ q, q = at_ (schedN (wordsN s 16) m) p15 := ⟨_, rfl⟩
      rw [← hq15] at c15 x15 y15
      replace hq15 := hide hq15
      obtain ⟨p16, hp16⟩ : ∃ p, p = t - 16 := ⟨_, rfl⟩
      have y16 := hide (u32_get (l := schedN (wordsN s 16) m) (k := p16) (by rw [unhide HL]; omega))
      have c16 := (unhide HO).cell (u32_get (l := schedN (wordsN s 16) m) (k := p16) (by rw [unhide HL]; omega))
      have e16 : IntKind.i64.wrap ((t : Int) - 16) = (p16 : Int) := by rw [IntKind.wrap_i64]; omega
      have l16 : (p16 : Int) < (t : Int) := by omega
      have x16 := hide (sched_lt s m p16)
      replace hp16 := hide hp16
      obtain ⟨q16, hq16⟩ : ∃ q, q = at_ (schedN (wordsN s 16) m) p16 := ⟨_, rfl⟩
      rw [← hq16] at c16 x16 y16
      replace hq16 := hide hq16
      replace ht := hide ht
      have hln : ((schedN (wordsN s 16) m).map u32v).length = t := by rw [List.length_map]; exact unhide HL
      have hm1 : ((schedN (wordsN s 16) m).map u32v).length + 1 ≤ maxLen := by rw [hln]; unfold maxLen; omega
      have hm2 : (((schedN (wordsN s 16) m).map u32v).length + 1) * 4 ≤ 140737488355328 := by rw [hln]; omega
      replace hm1 := hide hm1
      replace hm2 := hide hm2
      clear hln
      have HC := hide (show OwnV wr w.heap.size 100 (.slice (some ⟨g, 0, none⟩) t c) ((schedN (wordsN s 16) m).map u32v) from unhide HO)
      go_wp2
      go_region_held3 (fun W => W.cell? ⟨g, p2, none⟩ = some (.int .u32 (q2 : Int)) ∧ W.cell? ⟨g, p7, none⟩ = some (.int .u32 (q7 : Int)) ∧ W.cell? ⟨g, p15, none⟩ = some (.int .u32 (q15 : Int)) ∧ W.cell? ⟨g, p16, none⟩ = some (.int .u32 (q16 : Int))) (first | exact ⟨c2, c7, c15, c16⟩ | exact ⟨cell_drew_alloc c2 hg2, cell_drew_alloc c7 hg2, cell_drew_alloc c15 hg2, cell_drew_alloc c16 hg2⟩ | exact ⟨hcl2 _ _ (unhide y2), hcl2 _ _ (unhide y7), hcl2 _ _ (unhide y15), hcl2 _ _ (unhide y16)⟩ | fail) (first
        | (go_at_call 99; refine (specS_lit _ _ _ _ _ (by first | exact unhide x2 | exact unhide x15) (by decide) _).mono ?_; rintro e w1 ⟨rfl, n1, rfl⟩)
        | (refine step_append_one rfl rfl (.tmp 25) (.tmp 51) 107 rfl w.heap.size w.heap.size i0 (.int .u32 0) 4 Try.underlying107 hi hz0 hz1 hz2 rfl g t c _ rfl (by exact unhide HC) rfl (unhide hm1) (unhide hm2) (Nat.le_refl _) (by exact hsz) (by exact Below.drewN hb _) ?_; intro v' w2 hown2 hb2 hcl2))
      have hev : IntKind.u32.wrap (IntKind.u32.wrap (IntKind.u32.wrap ((sgV 131072 q2 : Int) + (q7 : Int)) + (sgV 128 q15 : Int)) + (q16 : Int)) = ((moreW (schedN (wordsN s 16) m) (16 + m) : Nat) : Int) := by
        have et := unhide ht
        rw [unhide hq2, unhide hq7, unhide hq15, unhide hq16, unhide hp2, unhide hp7, unhide hp15, unhide hp16, sgV_a, sgV_b, et]
        unfold moreW
        simp only [IntKind.wrap_u32]
        omega
      have hown3 : OwnV w2 w.heap.size 100 v' ((schedN (wordsN s 16) (m + 1)).map u32v) := by
        rw [hev] at hown2
        rw [show schedN (wordsN s 16) (m + 1) = schedN (wordsN s 16) m ++ [moreW (schedN (wordsN s 16) m) (16 + m)] from rfl, List.map_append]
        exact hown2
      replace hown3 := hide hown3
      clear hown2 hcl2 hev y2 y7 y15 y16 c2 c7 c15 c16 HC
      go_wp2
      go_roundw
      case rel => exact ⟨m + 1, by omega, by have := unhide ht; go_num, hown3, hb2⟩
      case measure => have := unhide ht; simp [intOf]; omega
    · obtain rfl : m = 48 := by omega
      obtain rfl : t = 64 := by omega
      clear hlt hm ht
      replace HL := hide (show ((schedN (wordsN s 16) 48).map u32v).length = 64 by rw [List.length_map]; exact unhide HL)
      obtain ⟨ws, hws⟩ : ∃ ws, ws = schedN (wordsN s 16) 48 := ⟨_, rfl⟩
      rw [← hws] at HO HL
      replace hws := hide hws
      have HA1 := hide ((unhide HA).below hb)
      have h8 : ∀ u ∈ v.toL.map u32v, u.oneCell' = true := by
        intro u hu
        obtain ⟨x, _, rfl⟩ := List.mem_map.1 hu
        rfl
      have ha9 := hb.size
      have hal := ((unhide HA).lt ga rfl).2
      have hkl := ((unhide HK).lt gk rfl).2
      go_wp2_with (at_builtin; refine wpList_copy_vals rfl (.tmp 53) (.tmp 54) 107 rfl 100 i0 (.int .u32 0) 4 Try.underlying107 hi hz0 hz1 hz2 rfl rfl base ga 8 ca _ rfl (unhide HA1) rfl h8 (by decide) (by decide) ?_; intro v4 w4 hown4 hb4)
      obtain ⟨a9, c9, e9⟩ := hown4.shape
      change v4 = .slice a9 8 c9 at e9
      subst e9
      obtain ⟨g9, rfl, h91, h92⟩ := hown4.some_at (by omega)
      replace hown4 := hide (hown4.low ha9)
      have HW4 := hide ((unhide HO).below hb4)
      have HA4 := hide ((unhide HA1).below hb4)
      have HK4 := hide (((unhide HK).below hb).below hb4)
      have hb5 := hb.trans (hb4.mono ha9)
      have hne7 : g ≠ g9 := by omega
      have hnek : gk ≠ g9 := by omega
      have hnea : ga ≠ g9 := by omega
      have hg9 : w.heap.size ≤ g9 := by omega
      clear HA1 HA HK HO hb hb4 h91 h8 hal hkl hg1 hg2
      go_loopw [10] (fun ti wq => ∃ k : Nat, k ≤ 64 ∧ ti = .int .i64 (k : Int) ∧ Hid (OwnV wq w.heap.size 100 (.slice (some ⟨g9, 0, none⟩) 8 c9) ((V8.steps ws k v).toL.map u32v)) ∧ Hid (w4.grownBy wq (some g9))) (fun ti _ => 64 - (intOf ti).toNat)
      case atStart => exact ⟨0, by omega, rfl, hown4, hide (grown_refl _ _)⟩
      case round =>
        obtain ⟨k, hk, rfl, HV, HG⟩ := hrel
        by_cases hlt : k < 64
        · have hk64 : (k : Int) < 64 := by omega
          have HSt := hide (show V8.steps ws (k + 1) v = (V8.steps ws k v).step (at_ kTab k) (at_ ws k) from rfl)
          have hVok := V8.steps_ok hv ws k
          generalize V8.steps ws k v = V at HV HSt hVok
          obtain ⟨b0, b1, b2, b3, b4, b5, b6, b7⟩ := V
          obtain ⟨o0, o1, o2, o3, o4, o5, o6, o7⟩ := hVok
          dsimp only at o0 o1 o2 o3 o4 o5 o6 o7
          have q0 := (unhide HV).cell (k := 0) (u := .int .u32 (b0 : Int)) rfl
          have q1 := (unhide HV).cell (k := 1) (u := .int .u32 (b1 : Int)) rfl
          have q2 := (unhide HV).cell (k := 2) (u := .int .u32 (b2 : Int)) rfl
          have q4 := (unhide HV).cell (k := 4) (u := .int .u32 (b4 : Int)) rfl
          have q5 := (unhide HV).cell (k := 5) (u := .int .u32 (b5 : Int)) rfl
          have q6 := (unhide HV).cell (k := 6) (u := .int .u32 (b6 : Int)) rfl
          have q7 := (unhide HV).cell (k := 7) (u := .int .u32 (b7 : Int)) rfl
          have qk := ((unhide HK4).grown2 (unhide HG) hnek).cell (u32_get (l := kTab) (k := k) hlt)
          have qw := ((unhide HW4).grown2 (unhide HG) hne7).cell (u32_get (l := ws) (k := k) (by have := unhide HL; rw [List.length_map] at this; omega))
          obtain ⟨kk, hkk⟩ : ∃ x, x = at_ kTab k := ⟨_, rfl⟩
          obtain ⟨ww, hww⟩ : ∃ x, x = at_ ws k := ⟨_, rfl⟩
          rw [← hkk, ← hww] at HSt
          rw [← hkk] at qk
          rw [← hww] at qw
          clear hkk hww
          go_wp2
          go_region_held3 (fun W => W.cell? ⟨g9, 0, none⟩ = some (.int .u32 (b0 : Int)) ∧ W.cell? ⟨g9, 1, none⟩ = some (.int .u32 (b1 : Int)) ∧ W.cell? ⟨g9, 2, none⟩ = some (.int .u32 (b2 : Int)) ∧ W.cell? ⟨g9, 5, none⟩ = some (.int .u32 (b5 : Int)) ∧ W.cell? ⟨g9, 6, none⟩ = some (.int .u32 (b6 : Int)) ∧ W.cell? ⟨g9, 7, none⟩ = some (.int .u32 (b7 : Int)) ∧ W.cell? ⟨gk, k, none⟩ = some (.int .u32 (kk : Int)) ∧ W.cell? ⟨g, k, none⟩ = some (.int .u32 (ww : Int))) (first | exact ⟨q0, q1, q2, q5, q6, q7, qk, qw⟩ | fail) (fail)
          go_wp2
          go_region_held3 (fun W => W.cell? ⟨g9, 0, none⟩ = some (.int .u32 (b0 : Int)) ∧ W.cell? ⟨g9, 1, none⟩ = some (.int .u32 (b1 : Int)) ∧ W.cell? ⟨g9, 2, none⟩ = some (.int .u32 (b2 : Int)) ∧ W.cell? ⟨g9, 5, none⟩ = some (.int .u32 (b5 : Int)) ∧ W.cell? ⟨g9, 6, none⟩ = some (.int .u32 (b6 : Int)) ∧ W.cell? ⟨g9, 7, none⟩ = some (.int .u32 (b7 : Int)) ∧ W.cell? ⟨gk, k, none⟩ = some (.int .u32 (kk : Int)) ∧ W.cell? ⟨g, k, none⟩ = some (.int .u32 (ww : Int))) (first | exact ⟨q0, q1, q2, q5, q6, q7, qk, qw⟩ | fail) (first
            | (go_at_call 99; refine (specS_lit _ _ _ _ _ o4 (by decide) _).mono ?_; rintro e w1 ⟨rfl, n1, rfl⟩)
            | fail)
          go_wp2
          go_region_held3 (fun W => W.cell? ⟨g9, 0, none⟩ = some (.int .u32 (b0 : Int)) ∧ W.cell? ⟨g9, 1, none⟩ = some (.int .u32 (b1 : Int)) ∧ W.cell? ⟨g9, 2, none⟩ = some (.int .u32 (b2 : Int)) ∧ W.cell? ⟨g9, 5, none⟩ = some (.int .u32 (b5 : Int)) ∧ W.cell? ⟨g9, 6, none⟩ = some (.int .u32 (b6 : Int)) ∧ W.cell? ⟨g9, 7, none⟩ = some (.int .u32 (b7 : Int)) ∧ W.cell? ⟨gk, k, none⟩ = some (.int .u32 (kk : Int)) ∧ W.cell? ⟨g, k, none⟩ = some (.int .u32 (ww : Int))) (first | exact ⟨q0, q1, q2, q5, q6, q7, qk, qw⟩ | fail) (fail)
          go_wp2_with (go_at_call 99; refine (specS_lit _ _ _ _ _ o0 (by decide) _).mono ?_; rintro e w1 ⟨rfl, n2, rfl⟩)
          have ec1 : IntKind.u32.wrap (4294967295 - (b4 : Int)) = ((4294967295 - b4 : Nat) : Int) := by rw [IntKind.wrap_u32]; omega
          have ech : bits .xor .u32 (bits .and .u32 (b4 : Int) (b5 : Int)) (bits .and .u32 (IntKind.u32.wrap (4294967295 - (b4 : Int))) (b6 : Int)) = ((chN b4 b5 b6 : Nat) : Int) := by
            rw [ec1, u32_and_nat b4 b5 o4 o5, u32_and_nat _ b6 (by omega) o6, u32_xor_nat _ _ (and32 o4) (and32 (by omega))]
            rfl
          have emj : bits .xor .u32 (bits .xor .u32 (bits .and .u32 (b0 : Int) (b1 : Int)) (bits .and .u32 (b0 : Int) (b2 : Int))) (bits .and .u32 (b1 : Int) (b2 : Int)) = ((majN b0 b1 b2 : Nat) : Int) := by
            rw [u32_and_nat b0 b1 o0 o1, u32_and_nat b0 b2 o0 o2, u32_and_nat b1 b2 o1 o2, u32_xor_nat _ _ (and32 o0) (and32 o0), u32_xor_nat _ _ (xor32 (and32 o0) (and32 o0)) (and32 o1)]
            rfl
          rw [ech, emj]
          obtain ⟨T1, hT1⟩ : ∃ x : Nat, x = (V8.mk b0 b1 b2 b3 b4 b5 b6 b7).t1 kk ww := ⟨_, rfl⟩
          obtain ⟨T2, hT2⟩ : ∃ x : Nat, x = (V8.mk b0 b1 b2 b3 b4 b5 b6 b7).t2 := ⟨_, rfl⟩
          have et1 : IntKind.u32.wrap (IntKind.u32.wrap (IntKind.u32.wrap (IntKind.u32.wrap ((b7 : Int) + (sgV 64 b4 : Int)) + (chN b4 b5 b6 : Int)) + (kk : Int)) + (ww : Int)) = (T1 : Int) := by
            rw [hT1, sgV_c, show (V8.mk b0 b1 b2 b3 b4 b5 b6 b7).t1 kk ww = (b7 + sg3 6 11 25 b4 + chN b4 b5 b6 + kk + ww) % 4294967296 from rfl]
            simp only [IntKind.wrap_u32]
            omega
          have et2 : ((sgV 4 b0 : Int) + (majN b0 b1 b2 : Int)) % 4294967296 = (T2 : Int) := by
            rw [hT2, sgV_d, show (V8.mk b0 b1 b2 b3 b4 b5 b6 b7).t2 = (sg3 2 13 22 b0 + majN b0 b1 b2) % 4294967296 from rfl]
            omega
          rw [et1, et2]
          have HSt2 := hide (show V8.steps ws (k + 1) v = V8.mk ((T1 + T2) % 4294967296) b0 b1 b2 ((b3 + T1) % 4294967296) b4 b5 b6 by rw [unhide HSt, hT1, hT2]; rfl)
          clear HSt hT1 hT2 et1 et2 ech emj ec1 q0 q1 q2 q4 q5 q6 q7 qk qw o0 o1 o2 o3 o4 o5 o6 o7
          have HV2 : ∀ n, Hid (OwnV (wr.drewN n) w.heap.size 100 (.slice (some ⟨g9, 0, none⟩) 8 c9) (shL ([b0, b1, b2, b3, b4, b5, b6, b7].map u32v) 7)) := fun _ => HV
          have HG2 : ∀ n, Hid (w4.grownBy (wr.drewN n) (some g9)) := fun n => hide (grown_drew (unhide HG) n)
          replace HV2 := HV2 (1 + (1 + n1) + 1 + n2)
          replace HG2 := HG2 (1 + (1 + n1) + 1 + n2)
          clear HV HG
          generalize wr.drewN (1 + (1 + n1) + 1 + n2) = W5 at *
          go_loopw [16] (fun ti wq => ∃ j : Nat, j ≤ 7 ∧ ti = .int .i64 (j : Int) ∧ Hid (OwnV wq w.heap.size 100 (.slice (some ⟨g9, 0, none⟩) 8 c9) (shL ([b0, b1, b2, b3, b4, b5, b6, b7].map u32v) j)) ∧ Hid (w4.grownBy wq (some g9))) (fun ti _ => (intOf ti).toNat)
          case atStart => exact ⟨7, by omega, rfl, HV2, HG2⟩
          case round =>
            clear HV2 HG2
            obtain ⟨j, hj, rfl, HV, HG⟩ := hrel
            by_cases hj0 : 0 < j
            · obtain ⟨u, hu1, hu2⟩ := shL_at b0 b1 b2 b3 b4 b5 b6 b7 j hj0 hj
              have cp := (unhide HV).cell hu1
              have fj := (unhide HV).frozen j
              have cj := (unhide HV).cell (List.getElem?_eq_getElem (l := shL ([b0, b1, b2, b3, b4, b5, b6, b7].map u32v) j) (i := j) (by rw [shL_len b0 b1 b2 b3 b4 b5 b6 b7 j hj]; omega))
              have HS := hide ((unhide HV).set j (.int .u32 (u : Int)))
              rw [hu2] at HS
              have HG5 := hide (grown_set (unhide HG) j (.int .u32 (u : Int)))
              obtain ⟨p, hp⟩ : ∃ p, p = j - 1 := ⟨_, rfl⟩
              rw [← hp] at cp HS
              have e1 : IntKind.i64.wrap ((j : Int) - 1) = (p : Int) := by rw [IntKind.wrap_i64]; omega
              have l1 : (p : Int) < 8 := by omega
              have l2 : (j : Int) < 8 := by omega
              have l3 : (0 : Int) < (j : Int) := by omega
              replace hp := hide hp
              clear hu1 hu2 HV HG
              go_wp2
              have hp' := unhide hp
              exact ⟨⟨p, by omega, rfl, HS, HG5⟩, by simp [intOf]; omega⟩
            · obtain rfl : j = 0 := by omega
              replace HV := hide (show OwnV wr w.heap.size 100 (.slice (some ⟨g9, 0, none⟩) 8 c9) ([b0, b0, b1, b2, b3, b4, b5, b6].map u32v) from unhide HV)
              have d4 := (unhide HV).cell (k := 4) (u := .int .u32 (b3 : Int)) rfl
              have f4 := (unhide HV).frozen 4
              have HV2 := hide ((unhide HV).set 4 (.int .u32 (((b3 + T1) % 4294967296 : Nat) : Int)))
              have d0 := (unhide HV2).cell (k := 0) (u := .int .u32 (b0 : Int)) rfl
              have f0 := (unhide HV2).frozen 0
              have HV3 := hide ((unhide HV2).set 0 (.int .u32 (((T1 + T2) % 4294967296 : Nat) : Int)))
              have HG3 := hide (grown_set (grown_set (unhide HG) 4 (.int .u32 (((b3 + T1) % 4294967296 : Nat) : Int))) 0 (.int .u32 (((T1 + T2) % 4294967296 : Nat) : Int)))
              have es1 : IntKind.u32.wrap ((b3 : Int) + (T1 : Int)) = (((b3 + T1) % 4294967296 : Nat) : Int) := by rw [IntKind.wrap_u32]; omega
              have es2 : IntKind.u32.wrap ((T1 : Int) + (T2 : Int)) = (((T1 + T2) % 4294967296 : Nat) : Int) := by rw [IntKind.wrap_u32]; omega
              clear HV HV2 HG
              generalize (b3 + T1) % 4294967296 = X4 at *
              generalize (T1 + T2) % 4294967296 = X0 at *
              replace HV3 := hide (show OwnV ((wr.setCell ⟨g9, 4, none⟩ (.int .u32 (X4 : Int))).setCell ⟨g9, 0, none⟩ (.int .u32 (X0 : Int))) w.heap.size 100 (.slice (some ⟨g9, 0, none⟩) 8 c9) ((V8.steps ws (k + 1) v).toL.map u32v) by rw [unhide HSt2]; exact unhide HV3)
              go_wp2
              go_roundw
              case rel => exact ⟨k + 1, by omega, by go_num, HV3, HG3⟩
              case measure => simp [intOf]; omega
        · have hk6 : k = 64 := by omega
          have hk7 : ¬ (k : Int) < 64 := by omega
          replace HV := hide (show OwnV wr w.heap.size 100 (.slice (some ⟨g9, 0, none⟩) 8 c9) ((V8.steps ws 64 v).toL.map u32v) by have := unhide HV; rw [hk6] at this; exact this)
          replace hk6 := hide hk6
          have HSum : Hid (roundW v s = v.plus (V8.steps ws 64 v)) := hide (by rw [unhide hws]; rfl)
          have HA6 := hide ((unhide HA4).grown2 (unhide HG) hnea)
          have hbw : Below w.heap.size w wr := hb5.grown (unhide HG) hb5.size (fun q hq => by cases hq; exact hg9)
          have hwz := hbw.size
          generalize V8.steps ws 64 v = V at HV HSum
          obtain ⟨R, hR⟩ : ∃ R, R = roundW v s := ⟨_, rfl⟩
          rw [← hR] at HSum
          obtain ⟨W6, hW6⟩ : ∃ W, W = wr := ⟨_, rfl⟩
          subst hW6
          have hla := ((unhide HA6).lt ga rfl).2
          have hlv := ((unhide HV).lt g9 rfl).2
          clear HG HW4 HA4 HK4 hb5 hws HL
          go_wp2
          go_loopw [17, 18] (fun tv ti wq => ∃ k : Nat, k ≤ 8 ∧ ti = .int .i64 (k : Int) ∧ Hid (OwnV wq W6.heap.size 100 tv ((R.toL.take k).map u32v)) ∧ Below W6.heap.size W6 wq) (fun _ ti _ => 8 - (intOf ti).toNat)
          case atStart => exact ⟨0, by omega, rfl, hide (World.ownsRow_made W6 #[] 0 (Nat.le_refl _) (by decide) (by simp)), (Below.refl _ _).alloc (Nat.le_refl _) _⟩
          case round =>
            obtain ⟨k, hk, rfl, HO, hb⟩ := hrel
            by_cases hlt : k < 8
            · have hk8 : (k : Int) < 8 := by omega
              have ca0 := (unhide HA6).cell (u32_get (l := v.toL) (k := k) hlt)
              have cv0 := (unhide HV).cell (u32_get (l := V.toL) (k := k) hlt)
              have hpt := hide (plus_take v V k hlt)
              obtain ⟨x, hx⟩ : ∃ x, x = at_ v.toL k := ⟨_, rfl⟩
              obtain ⟨y, hy⟩ : ∃ y, y = at_ V.toL k := ⟨_, rfl⟩
              rw [← hx] at ca0 hpt
              rw [← hy] at cv0 hpt
              rw [← unhide HSum] at hpt
              clear hx hy
              have KS := hide (fun (W : World) (h : Below W6.heap.size W6 W) => (⟨(h.cell (p := ⟨ga, k, none⟩) hla).trans ca0, (h.cell (p := ⟨g9, k, none⟩) hlv).trans cv0⟩ : W.cell? ⟨ga, k, none⟩ = some (.int .u32 (x : Int)) ∧ W.cell? ⟨g9, k, none⟩ = some (.int .u32 (y : Int))))
              obtain ⟨ca, cv⟩ := (unhide KS) _ hb
              have hsz := hb.size
              have hl1 : ((R.toL.take k).map u32v).length + 1 ≤ maxLen := by rw [take_len8 R k hk]; unfold maxLen; omega
              have hl2 : (((R.toL.take k).map u32v).length + 1) * 4 ≤ 140737488355328 := by rw [take_len8 R k hk]; omega
              replace hl1 := hide hl1
              replace hl2 := hide hl2
              clear ca0 cv0
              go_wp2
              go_region_held3 (fun W => W.cell? ⟨ga, k, none⟩ = some (.int .u32 (x : Int)) ∧ W.cell? ⟨g9, k, none⟩ = some (.int .u32 (y : Int))) (first | exact ⟨ca, cv⟩ | exact (unhide KS) _ (hb.drew.alloc hsz _) | exact (unhide KS) _ hb2 | fail) (first
                | (refine step_append_lone (w := wr.drew) (x := IntKind.u32.wrap ((x : Int) + (y : Int))) (e := 100) rfl rfl (.tmp 151) (.tmp 161) 107 rfl W6.heap.size W6.heap.size i0 (.int .u32 0) 4 Try.underlying107 hi hz0 hz1 hz2 rfl _ _ rfl (by exact unhide HO) rfl (unhide hl1) (unhide hl2) (Nat.le_refl _) (by exact hsz) (by exact hb.drew) ?_; intro v' w2 hown2 hb2))
              have hev : IntKind.u32.wrap ((x : Int) + (y : Int)) = (((x + y) % 4294967296 : Nat) : Int) := by rw [IntKind.wrap_u32]; omega
              have hown3 : OwnV w2 W6.heap.size 100 v' ((R.toL.take (k + 1)).map u32v) := by
                rw [hev] at hown2
                rw [unhide hpt, List.map_append]
                exact hown2
              replace hown3 := hide hown3
              clear hown2 hev hpt KS
              go_wp2
              go_roundw
              case rel => exact ⟨k + 1, by omega, by go_num, hown3, hb2⟩
              case measure => simp [intOf]; omega
            · obtain rfl : k = 8 := by omega
              have hown := unhide HO
              obtain ⟨a7, c7, e7⟩ := hown.shape
              rw [take_len8 R 8 (by omega)] at e7
              subst e7
              obtain ⟨g7, rfl, _, _⟩ := hown.some_at (by omega)
              have hfin : OwnV wr w.heap.size 100 (.slice (some ⟨g7, 0, none⟩) 8 c7) ((roundW v s).toL.map u32v) := by rw [← hR]; exact hown.low hwz
              replace hfin := hide hfin
              have hbf := hbw.trans (hb.mono hwz)
              clear hown HO HV HA6 HSum hR
              go_wp2
              go_ret
              exact ⟨⟨_, _, rfl, unhide hfin⟩, hbf⟩
end Go.Proofs.Ytinnaajkdkfnaaa

/- A state out of bytes, and the blocks of a text handed on one by one, by impl, over the loaded program. -/
namespace Go.Proofs.Ytinnaajkdkfnaaa
open Go.RowKit
theorem fill8_set {l : List Nat} {k : Nat} (h : l.length = k) (hk : k < 8) (v : Nat) : (l ++ List.replicate (8 - k) 0).set k v = (l ++ [v]) ++ List.replicate (8 - (k + 1)) 0 := by
  rw [List.set_append_right _ _ (by omega), show 8 - k = (8 - (k + 1)) + 1 by omega, List.replicate_succ, h, Nat.sub_self]
  simp
theorem two_z8 (w : World) (T : TypeId) : ArrAt ((w.alloc (.cells #[.int .u32 0, .int .u32 0, .int .u32 0, .int .u32 0, .int .u32 0, .int .u32 0, .int .u32 0, .int .u32 0] T)).alloc (.cells #[.int .u32 0, .int .u32 0, .int .u32 0, .int .u32 0, .int .u32 0, .int .u32 0, .int .u32 0, .int .u32 0] T)) (w.heap.size + 1) T zeros8 ∧
    ArrAt ((w.alloc (.cells #[.int .u32 0, .int .u32 0, .int .u32 0, .int .u32 0, .int .u32 0, .int .u32 0, .int .u32 0, .int .u32 0] T)).alloc (.cells #[.int .u32 0, .int .u32 0, .int .u32 0, .int .u32 0, .int .u32 0, .int .u32 0, .int .u32 0, .int .u32 0] T)) w.heap.size T zeros8 ∧
    Below w.heap.size w ((w.alloc (.cells #[.int .u32 0, .int .u32 0, .int .u32 0, .int .u32 0, .int .u32 0, .int .u32 0, .int .u32 0, .int .u32 0] T)).alloc (.cells #[.int .u32 0, .int .u32 0, .int .u32 0, .int .u32 0, .int .u32 0, .int .u32 0, .int .u32 0, .int .u32 0] T)) := two_arrs w T zeros8
theorem cut_front (s : ByteArray) (a : Nat) (h : a + 64 ≤ s.size) : (s.extract a s.size).extract 0 64 = s.extract a (a + 64) := by
  rw [ByteArray.extract_extract]
  congr 1
  omega
theorem cut_back (s : ByteArray) (a : Nat) (h : a + 64 ≤ s.size) : (s.extract a s.size).extract 64 (s.extract a s.size).size = s.extract (a + 64) s.size := by
  rw [ByteArray.extract_extract, ByteArray.size_extract]
  congr 1
  omega
theorem grownBy_trans {a b c : World} {g : Nat} (h : a.grownBy b (some g)) (k : b.grownBy c (some g)) : a.grownBy c (some g) :=
  ⟨k.os.trans h.os, k.tape.trans h.tape, k.output.trans h.output, Nat.le_trans h.size k.size, fun q hq hne => (k.block q (Nat.lt_of_lt_of_le hq h.size) hne).trans (h.block q hq hne)⟩
set_option maxRecDepth 20000 in
set_option maxHeartbeats 400000 in
theorem eachBlock_any (v : V8) (hv : v.ok) (s : ByteArray) (hs : s.size ≤ 10000000) (g : Nat) (w : World) (hA : ArrAt w g 113 v.toL) :
    Calls Try.prog 94 #[.string s, .int .i64 64, .func (Fn.func 95) #[.pointer (some ⟨g, 0, none⟩)] #[]] w fun e w' => e = .returned (.string (s.extract (64 * (s.size / 64)) s.size)) ∧ ArrAt w' g 113 (blocksW v s 0 (s.size / 64)).toL ∧ w.grownBy w' (some g) := by
  have HA := hide hA
  clear hA
  have HE := hide (show s = s.extract (64 * 0) s.size by simp)
  go_enter Try.func94, Try.ntmps94
  go_wp2
  go_loopw [0] (fun ti wr => ∃ k : Nat, 64 * k ≤ s.size ∧ ti = .string (s.extract (64 * k) s.size) ∧ Hid (ArrAt wr g 113 (blocksW v s 0 k).toL) ∧ Hid (w.grownBy wr (some g))) (fun ti _ => match ti with | .string t => t.size | _ => 0)
  case atStart => exact ⟨0, by omega, by rw [← unhide HE], HA, hide (World.grownBy.refl w _)⟩
  case round =>
    obtain ⟨k, hk, rfl, HM, HG⟩ := hrel
    have hez : (s.extract (64 * k) s.size).size = s.size - 64 * k := by rw [ByteArray.size_extract]; omega
    by_cases hlt : 64 * k + 64 ≤ s.size
    · have hf := cut_front s (64 * k) hlt
      have hb := cut_back s (64 * k) hlt
      have hz : (s.extract (64 * k) (64 * k + 64)).size = 64 := by rw [ByteArray.size_extract]; omega
      have hn : (s.extract (64 * k + 64) s.size).size + 64 = (s.extract (64 * k) s.size).size := by rw [ByteArray.size_extract, hez]; omega
      have HR := hide (show roundW (blocksW v s 0 k) (s.extract (64 * k) (64 * k + 64)) = blocksW v s 0 (k + 1) by show _ = roundW _ (s.extract (0 + 64 * k) (0 + 64 * k + 64)); rw [Nat.zero_add])
      obtain ⟨t2, ht2⟩ : ∃ t2, t2 = s.extract (64 * (k + 1)) s.size := ⟨_, rfl⟩
      have e2 : s.extract (64 * k + 64) s.size = t2 := by rw [ht2, Nat.mul_add]
      rw [e2] at hb hn
      clear e2
      have HK := hide ht2
      clear ht2
      have h64 : 64 ≤ ((s.extract (64 * k) s.size).size : Int) := by omega
      have hbig : (s.extract (64 * k) s.size).size ≤ 10000000 := by omega
      generalize s.extract (64 * k) s.size = t at *
      generalize s.extract (64 * k) (64 * k + 64) = blk at *
      have C := hide (take_any (blocksW v s 0 k) (blocksW_ok hv s 0 k) blk hz g wr (unhide HM))
      clear hez
      go_wp2_with (go_at_call 95; refine (unhide C).mono ?_; rintro e w1 ⟨rfl, hA1, hg1⟩)
      go_roundw
      case rel => exact ⟨k + 1, by omega, by rw [unhide HK], hide (by rw [← unhide HR]; exact hA1), hide (grownBy_trans (unhide HG) hg1)⟩
      case measure => show t2.size < t.size; omega
    · have hkk := hide (show s.size / 64 = k by omega)
      have h64 : ¬ 64 ≤ ((s.extract (64 * k) s.size).size : Int) := by omega
      have hbig : (s.extract (64 * k) s.size).size ≤ 10000000 := by omega
      obtain ⟨t, ht⟩ : ∃ t, t = s.extract (64 * k) s.size := ⟨_, rfl⟩
      rw [← ht] at h64 hbig ⊢
      replace ht := hide ht
      clear hez HE
      go_wp2
      go_ret
      rw [unhide hkk]
      exact ⟨by rw [← unhide ht]; rfl, unhide HM, unhide HG⟩
end Go.Proofs.Ytinnaajkdkfnaaa

