/- Merged: Lok2, Lok3, Lok4, Trv, Wra0, Lok5, Rvo, Lok6, DrLok. -/
import Derived.Test.YtinnaajkdkfnaaaMga1
import Derived.Test.YtinnaajkdkfnaaaMga2
import Derived.Test.YtinnaajkdkfnaaaMga3
import Derived.Test.YtinnaajkdkfnaaaMga4
import Derived.Test.YtinnaajkdkfnaaaMga5
import Derived.Test.YtinnaajkdkfnaaaMga6
import Derived.Deep.RegionHeld3
import Derived.Laws.IdiomStrings
/- The exclusive or of two texts by the given model, over the loaded program. -/
namespace Go.Proofs.Ytinnaajkdkfnaaa
open Go.RowKit
theorem MB.frozen9 {w : World} {base g n c : Nat} {e : TypeId} {l : List UInt8} (h : MB w base e (.slice (some ⟨g, 0, none⟩) n c) l) {q : Nat} (hq : q < l.length) : w.frozen? ⟨g, q, none⟩ = false := by
  obtain ⟨g', cap, cur, lo, hi, h1, h2, h3, h4, h5, h6, h7⟩ := h
  simp only [Value.slice.injEq, Option.some.injEq, Addr.mk.injEq] at h1
  obtain ⟨⟨rfl, _⟩, rfl, rfl⟩ := h1
  have := h4 q (by omega)
  simp only [World.frozen?, h3]
  simp
  omega
theorem MB.setb9 {w : World} {base g n c : Nat} {e : TypeId} {l : List UInt8} (h : MB w base e (.slice (some ⟨g, 0, none⟩) n c) l) (q x : Nat) (hx : x < 256) : MB (w.setCell ⟨g, q, none⟩ (.int .u8 (x : Int))) base e (.slice (some ⟨g, 0, none⟩) n c) (l.set q (byteOf x)) := by
  obtain ⟨g', cap, cur, lo, hi, h1, h2, h3, h4, h5, h6, h7⟩ := h
  simp only [Value.slice.injEq, Option.some.injEq, Addr.mk.injEq] at h1
  obtain ⟨⟨rfl, _⟩, rfl, rfl⟩ := h1
  refine ⟨g, c, cur.setIfInBounds q (.int .u8 (x : Int)), lo, hi, by rw [List.length_set], h2, heap_setCell_at w g q cur e _ _ h3, by rw [Array.size_setIfInBounds]; exact h4, by rw [List.length_set]; exact h5, by rw [Array.size_setIfInBounds]; exact h6, ?_⟩
  rw [List.length_set, Array.toList_setIfInBounds, List.take_set, h7, List.map_set]
  simp [bv, byteOf_toNat hx]
/-- The first k are mixed, the others still as they were. -/
def xoP (a b : List UInt8) (k : Nat) : List UInt8 := (xoL a b).take k ++ a.drop k
theorem xoP_len (a b : List UInt8) (k : Nat) (h : a.length ≤ b.length) (hk : k ≤ a.length) : (xoP a b k).length = a.length := by
  unfold xoP
  rw [List.length_append, List.length_take, xoL_len a b h, List.length_drop]
  omega
theorem xoP_at (a b : List UInt8) (k : Nat) (h : a.length ≤ b.length) (hk : k < a.length) : (xoP a b k)[k]? = some a[k] := by
  unfold xoP
  rw [List.getElem?_append_right (by rw [List.length_take, xoL_len a b h]; omega), List.length_take, xoL_len a b h, Nat.min_eq_left (by omega), Nat.sub_self, List.getElem?_drop, Nat.add_zero, List.getElem?_eq_getElem hk]
theorem xoP_set (a b : List UInt8) (k : Nat) (h : a.length ≤ b.length) (hk : k < a.length) : (xoP a b k).set k (byteOf (a[k].toNat ^^^ b[k].toNat)) = xoP a b (k + 1) := by
  have hl : k < (xoL a b).length := by rw [xoL_len a b h]; exact hk
  have hv : (xoL a b)[k] = byteOf (a[k].toNat ^^^ b[k].toNat) := by
    have h0 : (xoL a b)[k] = a[k] ^^^ b[k] := List.getElem_zipWith
    rw [h0]
    apply UInt8.toNat_inj.1
    rw [byteOf_toNat (Nat.xor_lt_two_pow (n := 8) a[k].toNat_lt b[k].toNat_lt), UInt8.toNat_xor]
  unfold xoP
  rw [List.set_append_right _ _ (by rw [List.length_take]; omega), List.length_take, Nat.min_eq_left (by omega), Nat.sub_self, List.drop_eq_getElem_cons hk, List.set_cons_zero, ← hv, ← List.take_append_getElem hl, List.append_assoc]
  rfl
theorem xoP_all (a b : List UInt8) (h : a.length ≤ b.length) : xoP a b a.length = xoL a b := by
  unfold xoP
  rw [List.take_of_length_le (by rw [xoL_len a b h]; exact Nat.le_refl _), List.drop_length, List.append_nil]
set_option maxRecDepth 20000 in
set_option maxHeartbeats 800000 in
theorem specXo_any (a b : ByteArray) (hab : a.size ≤ b.size) (hb9 : b.size ≤ 2000000) (w : World) :
    Calls Try.prog 34 #[.string a, .string b] w fun e w' => e = .returned (.string (xoB a b)) ∧ Below w.heap.size w w' := by
  have hconv := Lib.run_convert_string_bytes (P := Try.prog) w 9 22 5 a Try.underlying9 Try.underlying22 Try.underlying5
  have hmb := bytes_mb w 5 a
  have hb1 := bytes_below2 w 5 a
  generalize grownCap w a.size 0 5 = cap at *
  generalize Lib.bytesWorld w 5 a = w1 at *
  have hLL : a.data.toList.length ≤ b.data.toList.length := hab
  have ha0 : a.data.toList.length = a.size := rfl
  have hP0 : MB w1 w.heap.size 5 (.slice (some ⟨w.heap.size, 0, none⟩) a.size cap) (xoP a.data.toList b.data.toList 0) := by
    have : xoP a.data.toList b.data.toList 0 = a.data.toList := rfl
    rw [this]
    exact hmb
  replace hP0 := hide hP0
  clear hmb
  go_enter Try.func34, Try.ntmps34
  go_wp2
  clear hconv
  go_loopw [6] (fun ti wq => ∃ k : Nat, k ≤ a.size ∧ ti = .int .i64 (k : Int) ∧ Hid (MB wq w.heap.size 5 (.slice (some ⟨w.heap.size, 0, none⟩) a.size cap) (xoP a.data.toList b.data.toList k)) ∧ Below w.heap.size w wq) (fun ti _ => 3000000 - (intOf ti).toNat)
  case atStart => exact ⟨0, by omega, rfl, hP0, hb1⟩
  case round =>
    clear hP0 hb1
    obtain ⟨k, hk, rfl, HM, hb⟩ := hrel
    by_cases hlt : k < a.size
    · have hlt' : (k : Int) < (a.size : Int) := by omega
      have hltb : (k : Int) < (b.size : Int) := by omega
      have hk0 : (0 : Int) ≤ (k : Int) := by omega
      have hkl : k < a.data.toList.length := hlt
      have hkb : k < b.data.toList.length := by omega
      have hset := hide (xoP_set a.data.toList b.data.toList k hLL hkl)
      have c0 := (unhide HM).cell (xoP_at a.data.toList b.data.toList k hLL hkl)
      have f0 := (unhide HM).frozen9 (q := k) (by rw [xoP_len _ _ _ hLL (by omega)]; exact hkl)
      obtain ⟨x, hx⟩ : ∃ x, x = a.data.toList[k].toNat := ⟨_, rfl⟩
      obtain ⟨y, hy⟩ : ∃ y, y = b.data.toList[k].toNat := ⟨_, rfl⟩
      have hxl : x < 256 := by rw [hx]; exact a.data.toList[k].toNat_lt
      have hyl : y < 256 := by rw [hy]; exact b.data.toList[k].toNat_lt
      change wr.cell? ⟨w.heap.size, k, none⟩ = some (.int .u8 (a.data.toList[k].toNat : Int)) at c0
      rw [← hx] at c0
      rw [← hx, ← hy] at hset
      have hyb : y = b[k].toNat := hy
      have ex := hide (u8_xor x y hxl hyl)
      have hxy : x ^^^ y < 256 := Nat.xor_lt_two_pow (n := 8) hxl hyl
      have O2 := (unhide HM).setb9 k (x ^^^ y) hxy
      rw [unhide hset] at O2
      replace O2 := hide O2
      have hb2 := hide (hb.setCell (p := ⟨w.heap.size, k, none⟩) (Nat.le_refl _) (.int .u8 ((x ^^^ y : Nat) : Int)))
      replace hyb := hide hyb
      replace hx := hide hx
      replace hy := hide hy
      clear HM hset hb
      go_wp2
      go_region
      all_goals
        go_wp2
        rw [← unhide hyb, unhide ex]
        exact ⟨⟨k + 1, by omega, by go_num, hide ((unhide O2).below (Below.refl _ _).drew), (unhide hb2).drew⟩, by simp [intOf]; omega⟩
    · have hlt' : ¬ (k : Int) < (a.size : Int) := by omega
      obtain rfl : k = a.size := by omega
      have e9 : xoP a.data.toList b.data.toList a.size = xoL a.data.toList b.data.toList := by rw [← ha0]; exact xoP_all _ _ hLL
      rw [e9] at HM
      have hll : (xoL a.data.toList b.data.toList).length = a.size := xoL_len _ _ hLL
      have hcv := run_convert_bytes_back (P := Try.prog) wr 22 9 5 ⟨w.heap.size, 0, none⟩ cap (xoL a.data.toList b.data.toList) Try.underlying22 Try.underlying5 Try.underlying9 (fun j hj => by
        have hadd : (⟨w.heap.size, 0, none⟩ : Addr).add j = ⟨w.heap.size, j, none⟩ := by unfold Addr.add; split <;> simp_all
        rw [hadd]
        exact (unhide HM).cell (List.getElem?_eq_getElem hj))
      rw [hll] at hcv
      rw [show (⟨(xoL a.data.toList b.data.toList).toArray⟩ : ByteArray) = xoB a b from rfl] at hcv
      clear HM
      go_wp2
      go_ret
      exact ⟨rfl, hb⟩
end Go.Proofs.Ytinnaajkdkfnaaa

/- Locking by the given model, over the loaded program. -/
namespace Go.Proofs.Ytinnaajkdkfnaaa
open Go.RowKit
theorem lo_parts {z : Int} {s : ByteArray} (h : loOk z s = true) : ∃ num : Nat, z = (num : Int) ∧ num ≤ 1000000000 ∧ s.size ≤ 8000 := by
  unfold loOk at h
  rw [Bool.and_eq_true] at h
  have h1 : numIn z := of_decide_eq_true h.1
  have h2 : s.size ≤ 8000 := of_decide_eq_true h.2
  unfold numIn at h1
  exact ⟨z.toNat, by omega, by omega, h2⟩
theorem lo_not {z : Int} {s : ByteArray} (h : ¬ loOk z s = true) : (z < 0 ∨ 1000000000 < z) ∨ (8000 : Int) < (s.size : Int) := by
  refine Decidable.by_contra fun hc => h ?_
  unfold loOk
  rw [decide_eq_true (show numIn z by unfold numIn; omega), decide_eq_true (show s.size ≤ 8000 by omega)]
  rfl
set_option maxRecDepth 20000 in
set_option maxHeartbeats 400000 in
theorem specLk_no (key : ByteArray) (z n : Int) (hz : (z < 0 ∨ 1000000000 < z) ∨ (n < 0 ∨ 8000 < n)) (w : World) :
    Calls Try.prog 24 #[.string key, .int .i64 z, .int .i64 n] w fun e w' => e = .returned (.tuple #[.string ⟨#[]⟩, .bool false]) ∧ Below w.heap.size w w' := by
  by_cases h : z < 0 ∨ 1000000000 < z
  · go_enter Try.func24, Try.ntmps24
    go_wp2_with fail
    refine (l01In_no z 0 1000000000 w h).mono ?_
    rintro e w1 ⟨rfl, hw1⟩
    have hw1' := hw1.symm
    subst hw1'
    clear hw1
    go_wp2
    refine bodyPost_ret (v := .tuple #[.string ⟨#[]⟩, .bool false]) (by simp [results, Try.results24, go_sem]) rfl ⟨rfl, Below.refl _ _⟩
  · have h2 : n < 0 ∨ 8000 < n := hz.resolve_left h
    have h3 : 0 ≤ z := by omega
    have h4 : z ≤ 1000000000 := by omega
    go_enter Try.func24, Try.ntmps24
    go_wp2_with fail
    refine (l01In_true z 0 1000000000 h3 h4 w).mono ?_
    rintro e w1 ⟨rfl, hw1⟩
    have hw1' := hw1.symm
    subst hw1'
    clear hw1
    go_wp2_with fail
    refine (l01In_no n 0 8000 w h2).mono ?_
    rintro e w1 ⟨rfl, hw1⟩
    have hw1' := hw1.symm
    subst hw1'
    clear hw1
    go_wp2
    refine bodyPost_ret (v := .tuple #[.string ⟨#[]⟩, .bool false]) (by simp [results, Try.results24, go_sem]) rfl ⟨rfl, Below.refl _ _⟩
theorem specMk_any (key : ByteArray) (hk : key.size ≤ 1048576) (z n : Int) (w : World) :
    Calls Try.prog 24 #[.string key, .int .i64 z, .int .i64 n] w fun e w' => e = .returned (.tuple #[.string (mkB key z n), .bool (mkOk z n)]) ∧ Below w.heap.size w w' := by
  by_cases h : mkOk z n = true
  · have h' := h
    unfold mkOk at h'
    rw [Bool.and_eq_true] at h'
    have h1 : numIn z := of_decide_eq_true h'.1
    have h2 : 0 ≤ n ∧ n ≤ 8000 := of_decide_eq_true h'.2
    unfold numIn at h1
    have := specLk_yes key hk z.toNat (by omega) n.toNat (by omega) w
    rw [show ((z.toNat : Nat) : Int) = z by omega, show ((n.toNat : Nat) : Int) = n by omega] at this
    unfold mkB
    rw [if_pos h, h]
    exact this
  · have hf : mkOk z n = false := by simpa using h
    unfold mkB
    rw [hf]
    refine specLk_no key z n ?_ w
    refine Decidable.by_contra fun hc => h ?_
    unfold mkOk
    rw [decide_eq_true (show numIn z by unfold numIn; omega), decide_eq_true (show 0 ≤ n ∧ n ≤ 8000 by omega)]
    rfl
set_option maxRecDepth 20000 in
set_option maxHeartbeats 800000 in
theorem specLock_any (key : ByteArray) (hk : key.size ≤ 1048576) (z : Int) (s : ByteArray) (hs : s.size ≤ 2000000) (w : World) :
    Calls Try.prog 13 #[.string key, .int .i64 z, .string s] w fun e w' => e = .returned (.tuple #[.string (loB key z s), .bool (loOk z s)]) ∧ Below w.heap.size w w' := by
  by_cases h : loOk z s = true
  · have HE := hide (loB_is (key := key) h)
    obtain ⟨num, rfl, hnum, hz⟩ := lo_parts h
    rw [show ((num : Nat) : Int).toNat = num from rfl] at HE
    rw [h]
    have hx : (xoB s (lkB key num s.size)).size = s.size := xoB_size _ _ (by rw [lkB_size]; exact Nat.le_refl _)
    have ht := tgB_size key num (xoB s (lkB key num s.size))
    have CM := hide (fun W => specLk_yes key hk num hnum s.size hz W)
    have CX := hide (fun W => specXo_any s (lkB key num s.size) (by rw [lkB_size]; exact Nat.le_refl _) (by rw [lkB_size]; omega) W)
    have CT := hide (fun W => specTg_any key hk num hnum (xoB s (lkB key num s.size)) (by omega) W)
    generalize loB key (num : Int) s = out at *
    generalize tgB key num (xoB s (lkB key num s.size)) = tg at *
    generalize xoB s (lkB key num s.size) = x at *
    generalize lkB key num s.size = m at *
    have hxz : x.size ≤ 8000 := by omega
    have htz : tg.size ≤ 16 := by omega
    clear h hx ht
    go_enter Try.func13, Try.ntmps13
    go_wp2_with fail
    refine ((unhide CM) w).mono ?_
    rintro e w1 ⟨rfl, hb1⟩
    go_wp2_with fail
    refine ((unhide CX) w1).mono ?_
    rintro e w2 ⟨rfl, hb2⟩
    have hb12 := hb1.trans (hb2.mono hb1.size)
    go_wp2_with fail
    refine ((unhide CT) w2).mono ?_
    rintro e w3 ⟨rfl, hb3⟩
    have hb := hb12.trans (hb3.mono hb12.size)
    clear hb1 hb2 hb12 hb3 CM CX CT
    go_wp2
    refine bodyPost_ret (v := .tuple #[.string (x ++ tg), .bool true]) (by simp [results, Try.results13, go_sem]) rfl ⟨by rw [unhide HE], hb⟩
  · have hf : loOk z s = false := by simpa using h
    have HE : loB key z s = ⟨#[]⟩ := by unfold loB; rw [hf]; rfl
    rw [HE, hf]
    have CM := hide (fun W => specLk_no key z (s.size : Int) ((lo_not h).imp id Or.inr) W)
    clear h hf HE
    go_enter Try.func13, Try.ntmps13
    go_wp2_with fail
    refine ((unhide CM) w).mono ?_
    rintro e w1 ⟨rfl, hb1⟩
    go_wp2
    refine bodyPost_ret (v := .tuple #[.string ⟨#[]⟩, .bool false]) (by simp [results, Try.results13, go_sem]) rfl ⟨rfl, hb1⟩
end Go.Proofs.Ytinnaajkdkfnaaa

/- Opening by the given model, over the loaded program. -/
namespace Go.Proofs.Ytinnaajkdkfnaaa
open Go.RowKit
set_option maxRecDepth 20000 in
set_option maxHeartbeats 1600000 in
theorem specOpen_any (key : ByteArray) (hk : key.size ≤ 1048576) (z : Int) (t : ByteArray) (ht : t.size ≤ 1048576) (w : World) :
    Calls Try.prog 15 #[.string key, .int .i64 z, .string t] w fun e w' => e = .returned (.tuple #[.string (opB key z t), .bool (opOk key z t)]) ∧ Below w.heap.size w w' := by
  by_cases h16 : (t.size : Int) < 16
  · have hf : opOk key z t = false := by unfold opOk; rw [decide_eq_false (by omega)]; rfl
    have HE : opB key z t = ⟨#[]⟩ := by unfold opB; rw [hf]; rfl
    rw [HE, hf]
    clear HE hf
    go_enter Try.func15, Try.ntmps15
    go_wp2
    refine bodyPost_ret (v := .tuple #[.string ⟨#[]⟩, .bool false]) (by simp [results, Try.results15, go_sem]) rfl ⟨rfl, Below.refl _ _⟩
  have h16' : 16 ≤ t.size := by omega
  have hxs := opX_size h16'
  obtain ⟨d, hd⟩ : ∃ d, d = t.size - 16 := ⟨_, rfl⟩
  rw [← hd] at hxs
  have ew : IntKind.i64.wrap ((t.size : Int) - 16) = (d : Int) := by rw [IntKind.wrap_i64]; omega
  have ew' : (t.size : Int) - 16 = (d : Int) := by omega
  have hdt : (d : Int) ≤ (t.size : Int) := by omega
  have cH := fun (W : World) => (run_slice_string_h W 9 t Try.underlying9 .i64 (d : Int) (by omega) (by omega))
  have cL := fun (W : World) => (run_slice_string_l W 9 t Try.underlying9 .i64 (d : Int) (by omega) (by omega))
  have eX : t.extract 0 d = opX t := by unfold opX; rw [hd]
  have eT : t.extract d t.size = opT t := by unfold opT; rw [hd]
  have E0 := hide (show opOk key z t = (loOk z (opX t) && decide (tgB key z.toNat (opX t) = opT t)) by unfold opOk; rw [decide_eq_true h16', Bool.true_and])
  have E1 := hide (show opB key z t = if opOk key z t = true then xoB (opX t) (lkB key z.toNat (opX t).size) else ⟨#[]⟩ from rfl)
  clear cH cL
  have hmin : min d t.size = d := Nat.min_eq_left (by omega)
  rw [← eX, ← eT] at E0
  rw [← eX] at E1 hxs
  rw [hxs] at E1
  clear eX eT
  cases hlo : loOk z (t.extract 0 d) with
  | false =>
    have CM := hide (fun W => specLk_no key z (d : Int) ((lo_not (show ¬ loOk z (t.extract 0 d) = true by rw [hlo]; exact Bool.false_ne_true)).imp id (fun h => Or.inr (by rw [hxs] at h; exact h))) W)
    have hf : opOk key z t = false := by rw [unhide E0, hlo]; rfl
    rw [unhide E1, hf]
    clear E0 E1 hlo hf hd
    go_enter Try.func15, Try.ntmps15
    go_wp2_with fail
    refine ((unhide CM) w).mono ?_
    rintro e w1 ⟨rfl, hb1⟩
    go_wp2_with fail
    go_region
    go_wp2
    refine bodyPost_ret (v := .tuple #[.string ⟨#[]⟩, .bool false]) (by simp [results, Try.results15, go_sem]) rfl ⟨rfl, hb1.drew⟩
  | true =>
    obtain ⟨num, rfl, hnum, hz⟩ := lo_parts hlo
    rw [show ((num : Nat) : Int).toNat = num from rfl] at E0 E1
    rw [hlo, Bool.true_and] at E0
    have CM := hide (fun W => specLk_yes key hk num hnum d (by omega) W)
    have CT := hide (fun W => specTg_any key hk num hnum (t.extract 0 d) (by omega) W)
    have CS := hide (fun W => specSame_any (tgB key num (t.extract 0 d)) (t.extract d t.size) W)
    have CX := hide (fun W => specXo_any (t.extract 0 d) (lkB key num d) (by rw [lkB_size]; omega) (by rw [lkB_size]; omega) W)
    rw [← unhide E0] at CS
    rw [unhide E1]
    generalize opOk key (num : Int) t = ok at *
    generalize xoB (t.extract 0 d) (lkB key num d) = out at *
    generalize lkB key num d = mk at *
    generalize tgB key num (t.extract 0 d) = tg at *
    clear E0 E1 hlo hd
    go_enter Try.func15, Try.ntmps15
    go_wp2_with fail
    refine ((unhide CM) w).mono ?_
    rintro e w1 ⟨rfl, hb1⟩
    have HT0 := hb1.drew
    clear CM hb1
    go_wp2_with fail
    cases ok with
    | true =>
      go_region_held3 (fun _ => True) (first | trivial | fail) (first
        | (go_at_call 35; refine (unhide CT _).mono ?_; rintro e wA ⟨rfl, hbA⟩; have HT0 := HT0.trans (hbA.mono HT0.size); clear hbA)
        | (go_at_call 38; refine (unhide CS _).mono ?_; rintro e wB ⟨rfl, hbB⟩; have HT0 := HT0.trans (hbB.mono HT0.size); clear hbB))
      all_goals
        clear CT CS
        go_wp2_with fail
        refine (unhide CX _).mono ?_
        rintro e w5 ⟨rfl, hb5⟩
        have hb := HT0.trans (hb5.mono HT0.size)
        clear hb5 CX HT0
        go_wp2
        refine bodyPost_ret (v := .tuple #[.string out, .bool true]) (by simp [results, Try.results15, go_sem]) rfl ⟨rfl, hb⟩
    | false =>
      go_region_held3 (fun _ => True) (first | trivial | fail) (first
        | (go_at_call 35; refine (unhide CT _).mono ?_; rintro e wA ⟨rfl, hbA⟩; have HT0 := HT0.trans (hbA.mono HT0.size); clear hbA)
        | (go_at_call 38; refine (unhide CS _).mono ?_; rintro e wB ⟨rfl, hbB⟩; have HT0 := HT0.trans (hbB.mono HT0.size); clear hbB))
      all_goals
        clear CT CS CX
        go_wp2
        refine bodyPost_ret (v := .tuple #[.string ⟨#[]⟩, .bool false]) (by simp [results, Try.results15, go_sem]) rfl ⟨rfl, HT0⟩
end Go.Proofs.Ytinnaajkdkfnaaa

/- What is written comes back: numbers in bytes. -/
namespace Go.Proofs.Ytinnaajkdkfnaaa
open Go.RowKit
theorem drop_head {s : ByteArray} {i : Nat} {x : UInt8} {t : List UInt8} (h : s.data.toList.drop i = x :: t) : ∃ hi : i < s.size, s[i] = x ∧ s.data.toList.drop (i + 1) = t := by
  have hi : i < s.data.toList.length := by
    rcases Nat.lt_or_ge i s.data.toList.length with h1 | h1
    · exact h1
    · rw [List.drop_eq_nil_of_le h1] at h; cases h
  rw [List.drop_eq_getElem_cons hi] at h
  simp only [List.cons.injEq] at h
  exact ⟨hi, h.1, h.2⟩

theorem read_varB (s : ByteArray) (a : Nat) (rest : List UInt8) : ∀ (f k i u m : Nat), k ≤ f → s.data.toList.drop i = varB k ++ rest → a ≤ i → u = 128 ^ (i - a) → (a < i → 0 < k) → m + k * u ≤ 1000000000 →
    rvRun s a i u m = some (m + k * u, i + (varB k).length) := by
  intro f
  induction f with
  | zero =>
    intro k i u m hk hd ha hu hp hm
    have : k = 0 := by omega
    subst this
    have hia : i = a := by omega
    subst hia
    rw [varB_small (by omega)] at hd
    obtain ⟨hi, hx, _⟩ := drop_head hd
    have hx' : s[i].toNat = 0 := by rw [hx, byteOf_toNat (by omega)]
    rw [rvRun_yes hi (by omega) (by omega) (by rw [hx']; omega), hx', varB_small (by omega)]
    simp
  | succ f ih =>
    intro k i u m hk hd ha hu hp hm
    have h5 : i < a + 5 := by
      rcases Nat.lt_or_ge i (a + 5) with h | h
      · exact h
      · have h1 : 128 ^ 5 ≤ 128 ^ (i - a) := Nat.pow_le_pow_right (by decide) (by omega)
        have h2 : 1 * u ≤ k * u := Nat.mul_le_mul_right u (hp (by omega))
        have h3 : (128 : Nat) ^ 5 = 34359738368 := by decide
        omega
    by_cases hs : k ≤ 127
    · rw [varB_small hs] at hd
      obtain ⟨hi, hx, _⟩ := drop_head hd
      have hx' : s[i].toNat = k := by rw [hx, byteOf_toNat (by omega)]
      have hk128 : k % 128 = k := by omega
      rw [rvRun_yes hi h5 (by omega) (by rw [hx', hk128]; intro hh; rcases hh with ⟨h1, h2⟩ | h1; have := hp h2; omega; omega), hx', hk128, varB_small hs]
      rfl
    · rw [varB_big hs] at hd
      obtain ⟨hi, hx, ht⟩ := drop_head hd
      have hx' : s[i].toNat = k % 128 + 128 := by rw [hx, byteOf_toNat (by omega)]
      have e1 : (k % 128 + 128) % 128 = k % 128 := by omega
      have e2 : k / 128 * (u * 128) = 128 * (k / 128) * u := by rw [← Nat.mul_assoc, Nat.mul_comm, ← Nat.mul_assoc]
      have e3 : m + k % 128 * u + k / 128 * (u * 128) = m + k * u := by
        rw [e2, Nat.add_assoc, ← Nat.add_mul]
        have := Nat.div_add_mod k 128
        rw [show k % 128 + 128 * (k / 128) = k by omega]
      have hr := ih (k / 128) (i + 1) (u * 128) (m + k % 128 * u) (by omega) ht (by omega) (by rw [hu, show i + 1 - a = (i - a) + 1 by omega, Nat.pow_succ]) (by omega) (by rw [e3]; exact hm)
      rw [rvRun_on hi h5 (by omega), hx', e1, hr, e3, varB_big hs]
      simp only [List.length_cons, Option.some.injEq, Prod.mk.injEq, true_and]
      omega

theorem read_var (s : ByteArray) (a n : Nat) (rest : List UInt8) (h : s.data.toList.drop a = varB n ++ rest) (hn : n ≤ 1000000000) : rvRun s a a 1 0 = some (n, a + (varB n).length) := by
  have := read_varB s a rest n n a 1 0 (Nat.le_refl _) h (Nat.le_refl _) (by simp) (by omega) (by omega)
  simpa using this

end Go.Proofs.Ytinnaajkdkfnaaa

/- Texts that are wrapped, reckoned. -/
namespace Go.Proofs.Ytinnaajkdkfnaaa
open Go.RowKit
def zrN (n : Nat) : Nat := (16 - n % 16) % 16
def pdL (s : ByteArray) : List UInt8 := varB s.size ++ s.data.toList
def pdB (s : ByteArray) : ByteArray := ⟨(pdL s ++ List.replicate (zrN (pdL s).length) 0).toArray⟩
theorem varB_two {n : Nat} (h : n ≤ 16383) : (varB n).length ≤ 2 := by
  by_cases h1 : n ≤ 127
  · rw [varB_small h1]; simp
  · rw [varB_big h1, List.length_cons, varB_small (by omega)]
    simp
theorem pdL_len (s : ByteArray) : (pdL s).length = (varB s.size).length + s.size := by
  unfold pdL
  rw [List.length_append]
  rfl
theorem pdB_size (s : ByteArray) : (pdB s).size = (pdL s).length + zrN (pdL s).length := by
  show (pdL s ++ List.replicate (zrN (pdL s).length) 0).toArray.size = _
  rw [List.size_toArray, List.length_append, List.length_replicate]
theorem pdB_even (s : ByteArray) : (pdB s).size % 16 = 0 := by
  rw [pdB_size]
  unfold zrN
  omega
def wrOk (s : ByteArray) : Bool := decide (s.size ≤ 400)
def wrB (key s : ByteArray) : ByteArray := if wrOk s = true then loB key 0 (pdB s) else ⟨#[]⟩
theorem pdB_le {s : ByteArray} (h : wrOk s = true) : (pdB s).size ≤ 420 := by
  have h1 : s.size ≤ 400 := of_decide_eq_true h
  have h2 := varB_two (n := s.size) (by omega)
  rw [pdB_size, pdL_len]
  unfold zrN
  omega
theorem pd_lo {s : ByteArray} (h : wrOk s = true) : loOk 0 (pdB s) = true := by
  have := pdB_le h
  unfold loOk
  rw [decide_eq_true (show numIn 0 by unfold numIn; omega), decide_eq_true (show (pdB s).size ≤ 8000 by omega)]
  rfl
def unTry (key t : ByteArray) : Option ByteArray :=
  match rvRun (opB key 0 t) 0 0 1 0 with
  | none => none
  | some (n, j) => if opOk key 0 t = true ∧ n ≤ (opB key 0 t).size - j ∧ wrOk ((opB key 0 t).extract j (j + n)) = true ∧ wrB key ((opB key 0 t).extract j (j + n)) = t then some ((opB key 0 t).extract j (j + n)) else none
def unOk (key t : ByteArray) : Bool := (unTry key t).isSome
def unB (key t : ByteArray) : ByteArray := (unTry key t).getD ⟨#[]⟩
/-- What is wrapped is unwrapped. -/
theorem un_wr {key s : ByteArray} (h : wrOk s = true) : unTry key (wrB key s) = some s := by
  have hw : wrB key s = loB key 0 (pdB s) := by unfold wrB; rw [if_pos h]
  obtain ⟨e1, e2⟩ := op_lo (key := key) (pd_lo h)
  rw [← hw] at e1 e2
  have hz : s.size ≤ 400 := of_decide_eq_true h
  have hp : (pdB s).data.toList = varB s.size ++ (s.data.toList ++ List.replicate (zrN (pdL s).length) 0) := by
    show pdL s ++ List.replicate (zrN (pdL s).length) 0 = _
    unfold pdL
    rw [List.append_assoc]
  have hr := read_var (pdB s) 0 s.size _ (by rw [List.drop_zero]; exact hp) (by omega)
  have hx : (pdB s).extract (0 + (varB s.size).length) (0 + (varB s.size).length + s.size) = s := by
    apply ByteArray.ext
    apply Array.toList_inj.1
    rw [ByteArray.data_extract, Array.toList_extract, hp, List.extract_eq_take_drop, Nat.zero_add, Nat.add_sub_cancel_left, List.drop_left, List.take_append_of_le_length (show s.size ≤ s.data.toList.length from Nat.le_refl _)]
    exact List.take_of_length_le (show s.data.toList.length ≤ s.size from Nat.le_refl _)
  unfold unTry
  rw [e2, hr]
  show (if _ then _ else _) = _
  rw [hx, if_pos ⟨e1, by rw [pdB_size, pdL_len]; omega, h, rfl⟩]
/-- What is unwrapped was wrapped so. -/
theorem wr_un {key t s : ByteArray} (h : unTry key t = some s) : wrOk s = true ∧ wrB key s = t := by
  unfold unTry at h
  split at h
  · cases h
  · split at h
    next hc => cases h; exact hc.2.2
    · cases h
end Go.Proofs.Ytinnaajkdkfnaaa

/- Texts that are wrapped, by the given model, over the loaded program. -/
namespace Go.Proofs.Ytinnaajkdkfnaaa
open Go.RowKit
theorem wr_facts (s : ByteArray) (hs : s.size ≤ 400) : (pdL s).length ≤ 402 ∧ zrN (pdL s).length ≤ 15 ∧ ((pdL s).length + zrN (pdL s).length) % 16 = 0 ∧ ∀ z, z < zrN (pdL s).length → ((pdL s).length + z) % 16 ≠ 0 := by
  have h2 := varB_two (n := s.size) (by omega)
  rw [pdL_len]
  unfold zrN
  refine ⟨by omega, by omega, by omega, fun z hz => by omega⟩
theorem pdB_is (s : ByteArray) : pdB s = ⟨(pdL s ++ List.replicate (zrN (pdL s).length) 0).toArray⟩ := rfl
set_option maxRecDepth 20000 in
set_option maxHeartbeats 800000 in
theorem specWrap_any (key : ByteArray) (hk : key.size ≤ 1048576) (s : ByteArray) (w : World) :
    Calls Try.prog 21 #[.string key, .string s] w fun e w' => e = .returned (.tuple #[.string (wrB key s), .bool (wrOk s)]) ∧ Below w.heap.size w w' := by
  by_cases h : s.size ≤ 400
  · have ho : wrOk s = true := decide_eq_true h
    have EW := hide (show wrB key s = loB key 0 (pdB s) by unfold wrB; rw [if_pos ho])
    rw [unhide EW, ho]
    have CL := hide (fun W => specLock_any key hk 0 (pdB s) (by have := pdB_le ho; omega) W)
    rw [pd_lo ho] at CL
    have CV := hide (fun W => (show Calls Try.prog 45 #[.int .i64 (s.size : Int)] W fun e w' => e = .returned (.string (vaT s.size)) ∧ Below W.heap.size W w' from l01Var_any s.size W (by omega)))
    obtain ⟨f1, f2, f3, f4⟩ := wr_facts s h
    have hps : (vaT s.size ++ s).data.toList = pdL s := by rw [ByteArray.data_append, Array.toList_append]; rfl
    have hsz : (vaT s.size).size ≤ 5 := vaT_size (by omega)
    have EP := hide (pdB_is s)
    have h' : ¬ (400 : Int) < (s.size : Int) := by omega
    obtain ⟨i0, hi, hz0, hz1, hz2⟩ := info_parts Try.infoByte
    generalize loB key 0 (pdB s) = out at *
    generalize pdB s = pb at *
    generalize pdL s = pl at *
    generalize zrN pl.length = zz at *
    generalize hva : vaT s.size = va at *
    clear hva ho EW
    replace h := hide h
    go_enter Try.func21, Try.ntmps21
    go_wp2_with fail
    refine (unhide CV w).mono ?_
    rintro e w1 ⟨rfl, hb1⟩
    obtain ⟨ps, hps2⟩ : ∃ x, x = va ++ s := ⟨_, rfl⟩
    have hpsz : ps.size = pl.length := by rw [← hps, ← hps2]; rfl
    have hconv := Lib.run_convert_string_bytes (P := Try.prog) w1 9 22 5 ps Try.underlying9 Try.underlying22 Try.underlying5
    have hmb := bytes_mb w1 5 ps
    rw [show ps.data.toList = pl by rw [hps2]; exact hps] at hmb
    have hb2 := bytes_below2 w1 5 ps
    rw [hpsz] at hconv hmb
    generalize grownCap w1 pl.length 0 5 = cp at *
    generalize Lib.bytesWorld w1 5 ps = w2 at *
    replace hmb := hide hmb
    rw [hps2] at hconv
    clear CV hps hps2 hpsz
    go_wp2
    go_loopw [6] (fun tv wq => ∃ z : Nat, z ≤ zz ∧ Hid (MB wq w1.heap.size 5 tv (pl ++ List.replicate z 0)) ∧ Below w1.heap.size w1 wq) (fun tv _ => match tv with | .slice _ n _ => pl.length + zz - n | _ => 0)
    case atStart => exact ⟨0, by omega, by rw [List.replicate_zero, List.append_nil]; exact hmb, hb2⟩
    case round =>
      clear hmb hb2 hconv
      obtain ⟨z, hz, HM, hb⟩ := hrel
      have hll : (pl ++ List.replicate z (0 : UInt8)).length = pl.length + z := by simp only [List.length_append, List.length_replicate]
      obtain ⟨g, c, hsh, hg1, hg2, hgc⟩ := (unhide HM).shape
      rw [hll] at hsh
      obtain ⟨n, hn⟩ : ∃ n, n = pl.length + z := ⟨_, rfl⟩
      rw [← hn] at hsh hll
      subst hsh
      have hnb : n ≤ 500 := by omega
      have et : ((n : Int)).tmod 16 = ((n % 16 : Nat) : Int) := by rw [Int.tmod_eq_emod_of_nonneg (by omega)]; omega
      have et2 : ((n : Int)) % 16 = ((n % 16 : Nat) : Int) := by omega
      have hszr := hb.size
      by_cases hlt : z < zz
      · have hne : ¬ (((n % 16 : Nat) : Int) = 0) := by have := f4 z hlt; rw [← hn] at this; omega
        have hlen : (pl ++ List.replicate z (0 : UInt8)).length + 1 ≤ 140737488355328 := by rw [hll]; omega
        replace hn := hide hn
        generalize n % 16 = r at *
        clear f3 f4 hg1 hg2 hgc
        go_wp2_with (at_builtin; refine wpList_append_mark (w := wr) rfl (.tmp 20) (.tmp 21) 22 rfl w1.heap.size w1.heap.size i0 (.int .u8 0) Try.underlying22 hi hz0 hz1 hz2 rfl _ _ rfl (unhide HM) 0 (by decide) rfl hlen (Nat.le_refl _) hszr hb ?_; intro v4 w4 hmb4 hb4)
        rw [List.append_assoc, ← List.replicate_succ'] at hmb4
        obtain ⟨g4, c4, hsh4, _⟩ := hmb4.shape
        have hl5 : (pl ++ List.replicate (z + 1) (0 : UInt8)).length = pl.length + (z + 1) := by simp only [List.length_append, List.length_replicate]
        rw [hl5] at hsh4
        subst hsh4
        replace hmb4 := hide hmb4
        clear HM
        go_roundw
        case rel => exact ⟨z + 1, by omega, hmb4, hb4⟩
        case measure => have := unhide hn; simp; omega
      · obtain rfl : z = zz := by omega
        have h0 : n % 16 = 0 := by rw [hn]; exact f3
        rw [h0] at et et2
        have hcv := run_convert_bytes_back (P := Try.prog) wr 22 9 5 ⟨g, 0, none⟩ c (pl ++ List.replicate z 0) Try.underlying22 Try.underlying5 Try.underlying9 (fun j hj => by
          have hadd : (⟨g, 0, none⟩ : Addr).add j = ⟨g, j, none⟩ := by unfold Addr.add; split <;> simp_all
          rw [hadd]
          exact (unhide HM).cell (List.getElem?_eq_getElem hj))
        rw [hll, ← unhide EP] at hcv
        have hB := hb1.trans (hb.mono hb1.size)
        have C := hide (unhide CL wr)
        replace hn := hide hn
        clear HM CL EP f3 f4 hg1 hg2 hgc h0 hb
        go_wp2_with fail
        refine (unhide C).mono ?_
        rintro e w5 ⟨rfl, hb5⟩
        have hT := hB.trans (hb5.mono hB.size)
        clear C hcv
        go_wp2
        refine bodyPost_ret (v := .tuple #[.string out, .bool true]) (by simp [results, Try.results21, go_sem]) rfl ⟨rfl, hT⟩
  · have ho : wrOk s = false := decide_eq_false h
    have EW : wrB key s = ⟨#[]⟩ := by unfold wrB; rw [ho]; rfl
    rw [EW, ho]
    have h' : (400 : Int) < (s.size : Int) := by omega
    have hR := Below.refl w.heap.size w
    go_enter Try.func21, Try.ntmps21
    go_wp2
    refine bodyPost_ret (v := .tuple #[.string ⟨#[]⟩, .bool false]) (by simp [results, Try.results21, go_sem]) rfl ⟨rfl, hR⟩
end Go.Proofs.Ytinnaajkdkfnaaa

/- What is read of a number's bytes, reckoned. -/
namespace Go.Proofs.Ytinnaajkdkfnaaa
theorem rvRun_has {s : ByteArray} {a : Nat} : ∀ (f i u n : Nat), s.size - i ≤ f → RvAt s a i u n → a ≤ i → i ≤ s.size → ∀ m j, rvRun s a i u n = some (m, j) →
    i < j ∧ j ≤ s.size ∧ j ≤ a + 5 ∧ m ≤ 1000000000 ∧ varB m = (s.data.toList.drop a).take (j - a) := by
  intro f
  induction f with
  | zero =>
    intro i u n hf _ _ _ m j h
    rw [rvRun_out (by omega)] at h
    cases h
  | succ f ih =>
    intro i u n hf hat ha hi m j h
    by_cases hlt : i < s.size ∧ i < a + 5
    · obtain ⟨h1, h5⟩ := hlt
      by_cases hb : 127 < s[i].toNat
      · rw [rvRun_on h1 h5 hb] at h
        obtain ⟨r1, r2, r3, r4, r5⟩ := ih (i + 1) _ _ (by omega) (hat.next ha h1 h5 hb) (by omega) (by omega) m j h
        exact ⟨by omega, r2, r3, r4, r5⟩
      · by_cases hn : (s[i].toNat = 0 ∧ a < i) ∨ 1000000000 < n + s[i].toNat % 128 * u
        · rw [rvRun_no h1 h5 hb hn] at h
          cases h
        · rw [rvRun_yes h1 h5 hb hn] at h
          simp only [Option.some.injEq, Prod.mk.injEq] at h
          obtain ⟨rfl, rfl⟩ := h
          exact ⟨by omega, by omega, by omega, by omega, (hat.own ha h1 hb).2 (fun x => hn (.inl x))⟩
    · rw [rvRun_out hlt] at h
      cases h

theorem rvRun_own {s : ByteArray} {p m j : Nat} (hp : p ≤ s.size) (h : rvRun s p p 1 0 = some (m, j)) :
    p < j ∧ j ≤ s.size ∧ j ≤ p + 5 ∧ m ≤ 1000000000 ∧ varB m = (s.data.toList.drop p).take (j - p) :=
  rvRun_has (s.size - p) p 1 0 (Nat.le_refl _) (RvAt.start s p) (Nat.le_refl _) hp m j h

end Go.Proofs.Ytinnaajkdkfnaaa

/- Texts that are unwrapped, by the given model, over the loaded program. -/
namespace Go.Proofs.Ytinnaajkdkfnaaa
open Go.RowKit
theorem opB_le (key : ByteArray) (z : Int) (t : ByteArray) : (opB key z t).size ≤ t.size := by
  unfold opB
  split
  next h =>
    have h1 := op_parts h
    rw [xoB_size _ _ (by rw [lkB_size]; exact Nat.le_refl _), opX_size h1.1]
    omega
  · exact Nat.zero_le _
theorem un_none {key t : ByteArray} (h : rvRun (opB key 0 t) 0 0 1 0 = none) : unOk key t = false ∧ unB key t = ⟨#[]⟩ := by
  unfold unOk unB unTry
  rw [h]
  exact ⟨rfl, rfl⟩
theorem un_is {key t : ByteArray} {n j : Nat} (h : rvRun (opB key 0 t) 0 0 1 0 = some (n, j)) : unTry key t = if opOk key 0 t = true ∧ n ≤ (opB key 0 t).size - j ∧ wrOk ((opB key 0 t).extract j (j + n)) = true ∧ wrB key ((opB key 0 t).extract j (j + n)) = t then some ((opB key 0 t).extract j (j + n)) else none := by
  unfold unTry
  rw [h]
theorem un_some {key t : ByteArray} {n j : Nat} (h : rvRun (opB key 0 t) 0 0 1 0 = some (n, j)) (hc : ¬ (opOk key 0 t = true ∧ n ≤ (opB key 0 t).size - j ∧ wrOk ((opB key 0 t).extract j (j + n)) = true ∧ wrB key ((opB key 0 t).extract j (j + n)) = t)) : unOk key t = false ∧ unB key t = ⟨#[]⟩ := by
  unfold unOk unB
  rw [un_is h, if_neg hc]
  exact ⟨rfl, rfl⟩
theorem un_yes {key t : ByteArray} {n j : Nat} (h : rvRun (opB key 0 t) 0 0 1 0 = some (n, j)) (hc : opOk key 0 t = true ∧ n ≤ (opB key 0 t).size - j ∧ wrOk ((opB key 0 t).extract j (j + n)) = true ∧ wrB key ((opB key 0 t).extract j (j + n)) = t) : unOk key t = true ∧ unB key t = (opB key 0 t).extract j (j + n) := by
  unfold unOk unB
  rw [un_is h, if_pos hc]
  exact ⟨rfl, rfl⟩
theorem neStr {a b : ByteArray} (h : ¬ a = b) : (a.toList == b.toList) = false := by
  rw [← beq_toListBytes]
  show (a.data == b.data) = false
  rw [beq_eq_false_iff_ne]
  intro e
  apply h
  cases a
  cases b
  simp_all

theorem one_size (x : UInt8) : (⟨#[x]⟩ : ByteArray).size = 1 := rfl
set_option maxRecDepth 20000 in
set_option maxHeartbeats 1600000 in
theorem specUnwrap_any (key : ByteArray) (hk : key.size ≤ 1048576) (t : ByteArray) (ht : t.size ≤ 1048576) (w : World) :
    Calls Try.prog 23 #[.string key, .string t] w fun e w' => e = .returned (.tuple #[.string (unB key t), .bool (unOk key t)]) ∧ Below w.heap.size w w' := by
  have CO := hide (fun W => specOpen_any key hk 0 t ht W)
  have hol := opB_le key 0 t
  have CR := hide (fun W => specReadVar_yes (opB key 0 t) 0 W (by omega) (by omega))
  cases hr : rvRun (opB key 0 t) 0 0 1 0 with
  | none =>
    obtain ⟨E1, E2⟩ := un_none hr
    rw [E1, E2]
    rw [hr] at CR
    generalize opB key 0 t = o at *
    generalize opOk key 0 t = ok at *
    clear hr E1 E2
    go_enter Try.func23, Try.ntmps23
    go_wp2_with fail
    refine (unhide CO w).mono ?_
    rintro e w1 ⟨rfl, hb1⟩
    go_wp2_with fail
    refine (unhide CR w1).mono ?_
    rintro e w2 ⟨rfl, hb2⟩
    have hT := hb1.trans (hb2.mono hb1.size)
    clear CO CR hb1 hb2
    unfold rvTup
    cases ok with
    | false =>
      go_wp2
      refine bodyPost_ret (v := .tuple #[.string ⟨#[]⟩, .bool false]) (by simp [results, Try.results23, go_sem]) rfl ⟨rfl, hT⟩
    | true =>
      go_wp2
      refine bodyPost_ret (v := .tuple #[.string ⟨#[]⟩, .bool false]) (by simp [results, Try.results23, go_sem]) rfl ⟨rfl, hT⟩
  | some p =>
    obtain ⟨n, j⟩ := p
    obtain ⟨q1, q2, q3, q4, _⟩ := rvRun_own (by omega) hr
    rw [hr] at CR
    have HY := hide (fun hc => un_yes (key := key) (t := t) hr hc)
    have HN := hide (fun hc => un_some (key := key) (t := t) hr hc)
    have CW := hide (fun W => specWrap_any key hk ((opB key 0 t).extract j (j + n)) W)
    have hsl : n ≤ (opB key 0 t).size - j → ∀ W, (Instr.slice 9 (.string (opB key 0 t)) (some (.int .i64 (j : Int))) (some (.int .i64 ((j + n : Nat) : Int))) none).run Try.prog W = .ok (.string ((opB key 0 t).extract j (j + n))) W := fun h W => by
      rw [run_slice_string_if W 9 (opB key 0 t) .i64 .i64 (j : Int) ((j + n : Nat) : Int) Try.underlying9, if_pos (by omega), if_pos (by omega)]
      rfl
    clear hr
    generalize opB key 0 t = o at *
    generalize opOk key 0 t = ok at *
    generalize unOk key t = fin at *
    generalize unB key t = fb at *
    generalize hx : o.extract j (j + n) = x at *
    generalize wrB key x = wb at *
    generalize wrOk x = wo at *
    clear hx
    have hj1 : (0 : Int) ≤ (j : Int) := by omega
    have hj2 : (j : Int) ≤ (o.size : Int) := by omega
    have hoz : (o.size : Int) ≤ 1048576 := by omega
    obtain ⟨rm, hrm⟩ : ∃ r : Nat, r = o.size - j := ⟨_, rfl⟩
    have e1 : IntKind.i64.wrap ((o.size : Int) - (j : Int)) = (rm : Int) := by rw [IntKind.wrap_i64]; omega
    obtain ⟨jn, hjn⟩ : ∃ r : Nat, r = j + n := ⟨_, rfl⟩
    have e2 : IntKind.i64.wrap ((j : Int) + (n : Int)) = (jn : Int) := by rw [IntKind.wrap_i64]; omega
    rw [← hrm] at HY HN hsl
    rw [← hjn] at hsl
    cases ok with
    | false =>
      obtain ⟨rfl, rfl⟩ := unhide HN (fun h => by cases h.1)
      replace hrm := hide hrm; replace hjn := hide hjn
      clear HY HN hsl CW
      go_enter Try.func23, Try.ntmps23
      go_wp2_with fail
      refine (unhide CO w).mono ?_
      rintro e w1 ⟨rfl, hb1⟩
      go_wp2_with fail
      refine (unhide CR w1).mono ?_
      rintro e w2 ⟨rfl, hb2⟩
      have hT := hb1.trans (hb2.mono hb1.size)
      clear CO CR hb1 hb2
      unfold rvTup
      go_wp2
      refine bodyPost_ret (v := .tuple #[.string ⟨#[]⟩, .bool false]) (by simp [results, Try.results23, go_sem]) rfl ⟨rfl, hT⟩
    | true =>
      by_cases hn : n ≤ rm
      · have hsl2 := hsl hn
        have hn' : ¬ (rm : Int) < (n : Int) := by omega
        clear hsl
        cases wo with
        | false =>
          obtain ⟨rfl, rfl⟩ := unhide HN (fun h => by cases h.2.2.1)
          replace hrm := hide hrm; replace hjn := hide hjn
          clear HY HN
          go_enter Try.func23, Try.ntmps23
          go_wp2_with fail
          refine (unhide CO w).mono ?_
          rintro e w1 ⟨rfl, hb1⟩
          go_wp2_with fail
          refine (unhide CR w1).mono ?_
          rintro e w2 ⟨rfl, hb2⟩
          have hT := hb1.trans (hb2.mono hb1.size)
          clear CO CR hb1 hb2
          unfold rvTup
          go_wp2_with fail
          refine (unhide CW w2).mono ?_
          rintro e w3 ⟨rfl, hb3⟩
          have hT3 := hT.trans (hb3.mono hT.size)
          clear CW hT hb3
          go_wp2
          refine bodyPost_ret (v := .tuple #[.string ⟨#[]⟩, .bool false]) (by simp [results, Try.results23, go_sem]) rfl ⟨rfl, hT3⟩
        | true =>
          by_cases hw : wb = t
          · obtain ⟨rfl, rfl⟩ := unhide HY ⟨rfl, hn, rfl, hw⟩
            subst hw
            replace hrm := hide hrm; replace hjn := hide hjn
            clear HY HN
            go_enter Try.func23, Try.ntmps23
            go_wp2_with fail
            refine (unhide CO w).mono ?_
            rintro e w1 ⟨rfl, hb1⟩
            go_wp2_with fail
            refine (unhide CR w1).mono ?_
            rintro e w2 ⟨rfl, hb2⟩
            have hT := hb1.trans (hb2.mono hb1.size)
            clear CO CR hb1 hb2
            unfold rvTup
            go_wp2_with fail
            refine (unhide CW w2).mono ?_
            rintro e w3 ⟨rfl, hb3⟩
            have hT3 := hT.trans (hb3.mono hT.size)
            clear CW hT hb3
            go_wp2
            refine bodyPost_ret (v := .tuple #[.string fb, .bool true]) (by simp [results, Try.results23, go_sem]) rfl ⟨rfl, hT3⟩
          · obtain ⟨rfl, rfl⟩ := unhide HN (fun h => hw h.2.2.2)
            have hne := neStr hw
            replace hrm := hide hrm; replace hjn := hide hjn
            clear HY HN
            go_enter Try.func23, Try.ntmps23
            go_wp2_with fail
            refine (unhide CO w).mono ?_
            rintro e w1 ⟨rfl, hb1⟩
            go_wp2_with fail
            refine (unhide CR w1).mono ?_
            rintro e w2 ⟨rfl, hb2⟩
            have hT := hb1.trans (hb2.mono hb1.size)
            clear CO CR hb1 hb2
            unfold rvTup
            go_wp2_with fail
            refine (unhide CW w2).mono ?_
            rintro e w3 ⟨rfl, hb3⟩
            have hT3 := hT.trans (hb3.mono hT.size)
            clear CW hT hb3
            go_wp2
            refine bodyPost_ret (v := .tuple #[.string ⟨#[]⟩, .bool false]) (by simp [results, Try.results23, go_sem]) rfl ⟨rfl, hT3⟩
      · have hn' : (rm : Int) < (n : Int) := by omega
        obtain ⟨rfl, rfl⟩ := unhide HN (fun h => hn h.2.1)
        replace hrm := hide hrm; replace hjn := hide hjn
        clear HY HN hsl CW
        go_enter Try.func23, Try.ntmps23
        go_wp2_with fail
        refine (unhide CO w).mono ?_
        rintro e w1 ⟨rfl, hb1⟩
        go_wp2_with fail
        refine (unhide CR w1).mono ?_
        rintro e w2 ⟨rfl, hb2⟩
        have hT := hb1.trans (hb2.mono hb1.size)
        clear CO CR hb1 hb2
        unfold rvTup
        go_wp2
        refine bodyPost_ret (v := .tuple #[.string ⟨#[]⟩, .bool false]) (by simp [results, Try.results23, go_sem]) rfl ⟨rfl, hT⟩
end Go.Proofs.Ytinnaajkdkfnaaa

/- The draws of chapter 18, over the loaded program. -/
namespace Go.Proofs.Ytinnaajkdkfnaaa
open Go.RowKit
theorem nums18 (w : World) (T : TypeId) : ∀ j, j < 7 → ∃ z, (w.alloc (.cells #[.int .i64 0, .int .i64 0, .int .i64 5, .int .i64 13, .int .i64 14, .int .i64 15, .int .i64 40] T)).cell? ⟨w.heap.size, j, none⟩ = some (.int .i64 z) ∧ (0 ≤ z ∧ z ≤ 80) := by
  intro j hj
  rw [cell_of_row _ w.heap.size j _ T (0, 0) (heap_alloc_new w _)]
  match j, hj with
  | 0, _ => exact ⟨0, rfl, by decide⟩
  | 1, _ => exact ⟨0, rfl, by decide⟩
  | 2, _ => exact ⟨5, rfl, by decide⟩
  | 3, _ => exact ⟨13, rfl, by decide⟩
  | 4, _ => exact ⟨14, rfl, by decide⟩
  | 5, _ => exact ⟨15, rfl, by decide⟩
  | 6, _ => exact ⟨40, rfl, by decide⟩
  | j + 7, hj => exact absurd hj (by omega)
set_option maxRecDepth 20000 in
set_option maxHeartbeats 400000 in
theorem l18Text_any {w : World} {base g n c : Nat} {o : Option Addr} (h : Cur w base g o n c) (hn : n ≤ 1048576) :
    Calls Try.prog 28 #[.pointer (some ⟨g, 0, none⟩)] w fun e w' => ∃ s : ByteArray, s.size ≤ 100 ∧ e = .returned (.string s) ∧ Below base w w' ∧ Cur w' base g o n c := by
  have hlo := h.lo
  have H := hide h
  clear h
  go_enter Try.func28, Try.ntmps28
  go_wp2_with fail
  refine (l01Below_any (unhide H) hn 9 (by omega) (by omega)).mono ?_
  rintro e w3 ⟨x, hx, rfl, ho3, hc3⟩
  have hb3 := ho3.below hlo
  replace hc3 := hide hc3
  clear ho3 H
  go_wp2_with fail
  refine (l01Text_any (unhide hc3) hn x (by omega)).mono ?_
  rintro e w4 ⟨l, hl, rfl, hb34, hc4⟩
  have hb4 := hb3.trans hb34
  have hgl := hc4.lt
  have H1 := hide (hc4.below ((Below.refl w4.heap.size w4).alloc (Nat.le_refl _) (.cells #[.int .i64 0, .int .i64 0, .int .i64 5, .int .i64 13, .int .i64 14, .int .i64 15, .int .i64 40] 3)) hgl)
  have HN := hide (nums18 w4 3)
  have hb5 : Below base w (w4.alloc (.cells #[.int .i64 0, .int .i64 0, .int .i64 5, .int .i64 13, .int .i64 14, .int .i64 15, .int .i64 40] 3)) := hb4.alloc (by omega) _
  have hne : w4.heap.size ≠ g := by omega
  have hls : (⟨l.toArray⟩ : ByteArray).size ≤ 10 := by show l.length ≤ 10; omega
  generalize (⟨l.toArray⟩ : ByteArray) = tl at *
  clear hb3 hb34 hc3 hc4
  go_wp2_with fail
  generalize w4.alloc (.cells #[.int .i64 0, .int .i64 0, .int .i64 5, .int .i64 13, .int .i64 14, .int .i64 15, .int .i64 40] 3) = w5 at *
  refine (l01PickP_any (fun z => 0 ≤ z ∧ z ≤ 80) (unhide H1) hn w4.heap.size 7 7 (by omega) (by omega) (unhide HN) hne).mono ?_
  rintro e w6 ⟨z, ⟨hz0, hz1⟩, rfl, ho6, hc6⟩
  obtain ⟨m, rfl⟩ : ∃ m : Nat, z = (m : Int) := ⟨z.toNat, by omega⟩
  have hb6 := hb5.trans (ho6.below hlo)
  have hgl6 := hc6.lt
  replace hc6 := hide hc6
  clear hb5 ho6 H1 HN
  go_wp2_with fail
  refine (l01Long0_any m 66 w6 (by omega) (by omega)).mono ?_
  rintro e w7 ⟨l2, hl2, rfl, hb67⟩
  have hc7 := (unhide hc6).below hb67 hgl6
  have hb7 := hb6.trans (hb67.mono (by omega))
  have hls2 : (⟨l2.toArray⟩ : ByteArray).size ≤ 80 := by show l2.length ≤ 80; omega
  generalize (⟨l2.toArray⟩ : ByteArray) = tl2 at *
  clear hb6 hb67 hc6
  go_wp2
  go_ret
  refine ⟨_, ?_, rfl, hb7, hc7⟩
  rw [ByteArray.size_append]
  omega
set_option maxRecDepth 20000 in
set_option maxHeartbeats 400000 in
theorem drawLock_any (w : World) (o : Option Addr) (n c : Nat) (hs : Src w w.heap.size o n) (hn : n ≤ 1048576) :
    Calls Try.prog 10 #[.slice o n c] w fun e w' => ∃ (k : ByteArray) (z : Int) (s : ByteArray), k.size ≤ 200 ∧ s.size ≤ 100 ∧ e = .returned (.tuple #[.string k, .int .i64 z, .string s]) ∧ Below w.heap.size w w' := by
  have HS := hide hs
  clear hs
  go_enter Try.func10, Try.ntmps10
  go_wp2_with fail
  refine (l01New_any w o n c (unhide HS) hn).mono ?_
  rintro e w1 ⟨rfl, hb1, hc1⟩
  replace hc1 := hide hc1
  go_wp2_with fail
  refine (l06Key_any (unhide hc1) hn).mono ?_
  rintro e w2 ⟨k, hk, rfl, hb2, hc2⟩
  have hb12 := hb1.trans hb2
  have hlo := hc2.lo
  replace hc2 := hide hc2
  clear hb1 hb2 hc1
  go_wp2_with fail
  refine (l01Place_v (unhide hc2) hn 300 (by omega) (by omega)).mono ?_
  rintro e w3 ⟨z, rfl, hg3, hc3⟩
  have hb13 := hb12.grown hg3 hb12.size (fun k hk => by cases hk; exact Nat.le_refl _)
  replace hc3 := hide hc3
  clear hb12 hc2 hg3
  go_wp2_with fail
  refine (l18Text_any (unhide hc3) hn).mono ?_
  rintro e w4 ⟨s, hs, rfl, hb4, _⟩
  have hb14 := hb13.trans hb4
  clear hb13 hb4 hc3
  go_wp2
  refine bodyPost_ret (v := .tuple #[.string k, .int .i64 z, .string s]) (by simp [results, Try.results10, go_sem]) rfl ⟨k, z, s, hk, hs, rfl, hb14⟩
theorem loB_le (k : ByteArray) (z : Int) (s : ByteArray) : (loB k z s).size ≤ s.size + 16 := by
  by_cases h : loOk z s = true
  · rw [loB_size h]; exact Nat.le_refl _
  · unfold loB; rw [if_neg h]; exact Nat.zero_le _
theorem wrB_le (k s : ByteArray) : (wrB k s).size ≤ 500 := by
  by_cases h : wrOk s = true
  · unfold wrB
    rw [if_pos h]
    have h1 := loB_le k 0 (pdB s)
    have h2 := pdB_le h
    omega
  · unfold wrB; rw [if_neg h]; exact Nat.zero_le _
set_option maxRecDepth 20000 in
set_option maxHeartbeats 800000 in
theorem drawOpen_any (w : World) (o : Option Addr) (n c : Nat) (hs : Src w w.heap.size o n) (hn : n ≤ 1048576) :
    Calls Try.prog 14 #[.slice o n c] w fun e w' => ∃ (k : ByteArray) (z : Int) (u : ByteArray), k.size ≤ 300 ∧ u.size ≤ 2000 ∧ e = .returned (.tuple #[.string k, .int .i64 z, .string u]) ∧ Below w.heap.size w w' := by
  have HS := hide hs
  clear hs
  go_enter Try.func14, Try.ntmps14
  go_wp2_with fail
  refine (l01New_any w o n c (unhide HS) hn).mono ?_
  rintro e w1 ⟨rfl, hb1, hc1⟩
  replace hc1 := hide hc1
  go_wp2_with fail
  refine (l06Key_any (unhide hc1) hn).mono ?_
  rintro e w2 ⟨k, hk, rfl, hb2, hc2⟩
  have hb12 := hb1.trans hb2
  have hlo := hc2.lo
  replace hc2 := hide hc2
  clear hb1 hb2 hc1
  go_wp2_with fail
  refine (l01Below_any (unhide hc2) hn 300 (by omega) (by omega)).mono ?_
  rintro e w3 ⟨x, hx, rfl, ho3, hc3⟩
  have hb13 := hb12.trans (ho3.below hlo)
  replace hc3 := hide hc3
  clear hb12 hc2 ho3
  go_wp2_with fail
  refine (l18Text_any (unhide hc3) hn).mono ?_
  rintro e w4 ⟨s, hs, rfl, hb4, hc4⟩
  have hb14 := hb13.trans hb4
  have hg4 := hc4.lt
  replace hc4 := hide hc4
  clear hb13 hb4 hc3
  go_wp2_with fail
  refine (specLock_any k (by omega) (x : Int) s (by omega) w4).mono ?_
  rintro e w5 ⟨rfl, hb5⟩
  have hc5 := (unhide hc4).below hb5 hg4
  have hb15 := hb14.trans (hb5.mono (by omega))
  have htz : (loB k (x : Int) s).size ≤ 1000 := by have := loB_le k (x : Int) s; omega
  generalize loB k (x : Int) s = tx at *
  generalize loOk (x : Int) s = tk at *
  replace hc5 := hide hc5
  clear hb14 hb5 hc4 hg4
  go_wp2_with fail
  refine (l01Below_any (unhide hc5) hn 6 (by omega) (by omega)).mono ?_
  rintro e w6 ⟨y, hy, rfl, ho6, hc6⟩
  have hb16 := hb15.trans (ho6.below hlo)
  replace hc6 := hide hc6
  clear hb15 hc5 ho6
  have hy4 : y = 0 ∨ y = 1 ∨ y = 2 ∨ (3 ≤ y) := by omega
  rcases hy4 with h0 | h1 | h2 | h3
  · have d0 : ((y : Int) == 0) = true := by rw [h0]; rfl
    have d0' : (y : Int) = 0 := by omega
    replace h0 := hide h0
    go_wp2_with fail
    refine (spoilt9_any (unhide hc6) hn tx htz).mono ?_
    rintro e w7 ⟨u, hu, rfl, hb7⟩
    have hb17 := hb16.trans hb7
    clear hb16 hb7 hc6
    go_wp2
    refine bodyPost_ret (v := .tuple #[.string k, .int .i64 (x : Int), .string u]) (by simp [results, Try.results14, go_sem]) rfl ⟨k, _, u, by omega, by omega, rfl, hb17⟩
  · have d1 : (y : Int) = 1 := by omega
    replace h1 := hide h1
    go_wp2
    refine bodyPost_ret (v := .tuple #[.string k, .int .i64 ((x : Int) + 1), .string tx]) (by simp [results, Try.results14, go_sem]) rfl ⟨k, _, tx, by omega, by omega, rfl, hb16⟩
  · have d2 : (y : Int) = 2 := by omega
    replace h2 := hide h2
    go_wp2
    refine bodyPost_ret (v := .tuple #[.string (k ++ ⟨#[120]⟩), .int .i64 (x : Int), .string tx]) (by simp [results, Try.results14, go_sem]) rfl ⟨_, _, tx, (by rw [ByteArray.size_append]; show k.size + 1 ≤ 300; omega), by omega, rfl, hb16⟩
  · have e0 : ¬ (y : Int) = 0 := by omega
    have e1 : ¬ (y : Int) = 1 := by omega
    have e2 : ¬ (y : Int) = 2 := by omega
    go_wp2
    refine bodyPost_ret (v := .tuple #[.string k, .int .i64 (x : Int), .string tx]) (by simp [results, Try.results14, go_sem]) rfl ⟨k, _, tx, by omega, by omega, rfl, hb16⟩
set_option maxRecDepth 20000 in
set_option maxHeartbeats 800000 in
theorem drawWrap_any (w : World) (o : Option Addr) (n c : Nat) (hs : Src w w.heap.size o n) (hn : n ≤ 1048576) :
    Calls Try.prog 18 #[.slice o n c] w fun e w' => ∃ (k s : ByteArray), k.size ≤ 200 ∧ s.size ≤ 1000 ∧ e = .returned (.tuple #[.string k, .string s]) ∧ Below w.heap.size w w' := by
  have HS := hide hs
  clear hs
  go_enter Try.func18, Try.ntmps18
  go_wp2_with fail
  refine (l01New_any w o n c (unhide HS) hn).mono ?_
  rintro e w1 ⟨rfl, hb1, hc1⟩
  replace hc1 := hide hc1
  go_wp2_with fail
  refine (l06Key_any (unhide hc1) hn).mono ?_
  rintro e w2 ⟨k, hk, rfl, hb2, hc2⟩
  have hb12 := hb1.trans hb2
  have hlo := hc2.lo
  replace hc2 := hide hc2
  clear hb1 hb2 hc1
  go_wp2_with fail
  refine (l01Once_any (unhide hc2) hn 12 (by omega) (by omega)).mono ?_
  rintro e w3 ⟨b, rfl, ho3, hc3⟩
  have hb13 := hb12.trans (ho3.below hlo)
  replace hc3 := hide hc3
  clear hb12 hc2 ho3
  cases b with
  | true =>
    go_wp2_with fail
    refine (l01Below_any (unhide hc3) hn 2 (by omega) (by omega)).mono ?_
    rintro e w4 ⟨x, hx, rfl, ho4, hc4⟩
    have hb14 := hb13.trans (ho4.below hlo)
    have hg4 := hc4.lt
    obtain ⟨m, hm⟩ : ∃ m, m = 400 + x := ⟨_, rfl⟩
    have em : IntKind.i64.wrap (400 + (x : Int)) = (m : Int) := by rw [IntKind.wrap_i64]; omega
    have hml : m ≤ 500 := by omega
    replace hm := hide hm
    clear hb13 ho4 hc4 hc3
    go_wp2_with fail
    refine (l01Long0_any m 65 w4 (by omega) (by omega)).mono ?_
    rintro e w5 ⟨l, hl, rfl, hb5⟩
    have hb15 := hb14.trans (hb5.mono (by omega))
    have hls : (⟨l.toArray⟩ : ByteArray).size ≤ 1000 := by show l.length ≤ 1000; omega
    generalize (⟨l.toArray⟩ : ByteArray) = s at *
    clear hb14 hb5
    go_wp2
    refine bodyPost_ret (v := .tuple #[.string k, .string s]) (by simp [results, Try.results18, go_sem]) rfl ⟨k, s, hk, hls, rfl, hb15⟩
  | false =>
    go_wp2_with fail
    refine (l18Text_any (unhide hc3) hn).mono ?_
    rintro e w4 ⟨s, hs, rfl, hb4, _⟩
    have hb14 := hb13.trans hb4
    clear hb13 hb4 hc3
    go_wp2
    refine bodyPost_ret (v := .tuple #[.string k, .string s]) (by simp [results, Try.results18, go_sem]) rfl ⟨k, s, hk, by omega, rfl, hb14⟩
set_option maxRecDepth 20000 in
set_option maxHeartbeats 800000 in
theorem drawUnwrap_any (w : World) (o : Option Addr) (n c : Nat) (hs : Src w w.heap.size o n) (hn : n ≤ 1048576) :
    Calls Try.prog 22 #[.slice o n c] w fun e w' => ∃ (k s : ByteArray), k.size ≤ 200 ∧ s.size ≤ 2000 ∧ e = .returned (.tuple #[.string k, .string s]) ∧ Below w.heap.size w w' := by
  have HS := hide hs
  clear hs
  go_enter Try.func22, Try.ntmps22
  go_wp2_with fail
  refine (l01New_any w o n c (unhide HS) hn).mono ?_
  rintro e w1 ⟨rfl, hb1, hc1⟩
  replace hc1 := hide hc1
  go_wp2_with fail
  refine (l06Key_any (unhide hc1) hn).mono ?_
  rintro e w2 ⟨k, hk, rfl, hb2, hc2⟩
  have hb12 := hb1.trans hb2
  have hlo := hc2.lo
  replace hc2 := hide hc2
  clear hb1 hb2 hc1
  go_wp2_with fail
  refine (l18Text_any (unhide hc2) hn).mono ?_
  rintro e w4 ⟨s, hs, rfl, hb4, hc4⟩
  have hb14 := hb12.trans hb4
  have hg4 := hc4.lt
  replace hc4 := hide hc4
  clear hb12 hb4 hc2
  go_wp2_with fail
  refine (specWrap_any k (by omega) s w4).mono ?_
  rintro e w5 ⟨rfl, hb5⟩
  have hc5 := (unhide hc4).below hb5 hg4
  have hb15 := hb14.trans (hb5.mono (by omega))
  have htz : (wrB k s).size ≤ 500 := wrB_le k s
  generalize wrB k s = tx at *
  generalize wrOk s = tk at *
  replace hc5 := hide hc5
  clear hb14 hb5 hc4 hg4
  go_wp2_with fail
  refine (l01Below_any (unhide hc5) hn 6 (by omega) (by omega)).mono ?_
  rintro e w6 ⟨y, hy, rfl, ho6, hc6⟩
  have hb16 := hb15.trans (ho6.below hlo)
  replace hc6 := hide hc6
  clear hb15 hc5 ho6
  have hy4 : y = 0 ∨ y = 1 ∨ (2 ≤ y) := by omega
  rcases hy4 with h0 | h1 | h3
  · have d0' : (y : Int) = 0 := by omega
    replace h0 := hide h0
    go_wp2_with fail
    refine (spoilt9_any (unhide hc6) hn tx (by omega)).mono ?_
    rintro e w7 ⟨u, hu, rfl, hb7⟩
    have hb17 := hb16.trans hb7
    clear hb16 hb7 hc6
    go_wp2
    refine bodyPost_ret (v := .tuple #[.string k, .string u]) (by simp [results, Try.results22, go_sem]) rfl ⟨k, u, hk, by omega, rfl, hb17⟩
  · have d1 : (y : Int) = 1 := by omega
    replace h1 := hide h1
    go_wp2_with fail
    refine (l18Text_any (unhide hc6) hn).mono ?_
    rintro e w7 ⟨s2, hs2, rfl, hb7, hc7⟩
    have hb17 := hb16.trans hb7
    have hg7 := hc7.lt
    clear hb16 hb7 hc6 hc7
    go_wp2_with fail
    refine (specLock_any k (by omega) 0 s2 (by omega) w7).mono ?_
    rintro e w8 ⟨rfl, hb8⟩
    have hb18 := hb17.trans (hb8.mono (by omega))
    have hlz : (loB k 0 s2).size ≤ 1000 := by have := loB_le k 0 s2; omega
    generalize loB k 0 s2 = u at *
    generalize loOk 0 s2 = uk at *
    clear hb17 hb8
    go_wp2
    refine bodyPost_ret (v := .tuple #[.string k, .string u]) (by simp [results, Try.results22, go_sem]) rfl ⟨k, u, hk, by omega, rfl, hb18⟩
  · have e0 : ¬ (y : Int) = 0 := by omega
    have e1 : ¬ (y : Int) = 1 := by omega
    go_wp2
    refine bodyPost_ret (v := .tuple #[.string k, .string tx]) (by simp [results, Try.results22, go_sem]) rfl ⟨k, tx, hk, by omega, rfl, hb16⟩
end Go.Proofs.Ytinnaajkdkfnaaa

