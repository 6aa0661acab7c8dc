/- A text taken block by block, by impl, over the loaded program. -/
import Derived.Test.YtkidgllmhdfgaanDoorSpg7
import Derived.Test.YtkidgllmhdfgaanDoorBar
import Derived.Deep.OwnRows
namespace Go.Proofs.YtkidgllmhdfgaanDoor
open Go.RowKit
set_option maxRecDepth 20000 in
set_option maxHeartbeats 400000 in
theorem filled_any (rest : ByteArray) (n f : Nat) (hr : rest.size < n) (hn : n ≤ 200) (hf : f < 256) (w : World) :
    Calls Tryd.prog 37 #[.string rest, .int .i64 (n : Int), .int .u8 (f : Int)] w fun e w' => e = .returned (.string (fillT rest n f)) ∧ Below w.heap.size w w' := by
  have hmk := run_make_row' (P := Tryd.prog) 48 5 (.int .u8 0) 1 Tryd.underlying48 Tryd.infoByte rfl .i64 .i64 n (by omega) (by omega)
  rw [made_zero] at hmk
  have HR := hide (RB.new w 5 (List.replicate n (0 : UInt8)))
  have HB := hide ((Below.refl w.heap.size w).alloc (Nat.le_refl _) (.cells ((List.replicate n (0 : UInt8)).map bv).toArray 5))
  have hi1 : Hid ((Tryd.prog.info? 5).map (·.size) = some 1) := hide (by kernel_rfl)
  have hrn := hide (Nat.le_of_lt hr)
  obtain ⟨q, hq⟩ : ∃ q, q = n - 1 := ⟨_, rfl⟩
  have eq1 : IntKind.i64.wrap ((n : Int) - 1) = (q : Int) := by rw [IntKind.wrap_i64]; omega
  have hqn : (q : Int) < (n : Int) := by omega
  have hrn' : (rest.size : Int) < (n : Int) := by omega
  have HF : Hid (fillL rest n f = (fill3 rest n f).set q (byteOf (((fill3 rest n f).getD q 0).toNat ^^^ 128))) := hide (by rw [hq]; rfl)
  have h3l := fill3_len rest n f (Nat.le_of_lt hr)
  have H3 : Hid ((rest.data.toList ++ (List.replicate n (0 : UInt8)).drop rest.size).set rest.size (byteOf f) = fill3 rest n f) := hide (by rw [List.drop_replicate]; rfl)
  have hlz : Hid ((List.replicate n (0 : UInt8)).length = n) := hide (by simp)
  have hl2 : Hid ((rest.data.toList ++ (List.replicate n (0 : UInt8)).drop rest.size).length = n) := hide (by simp only [List.length_append, List.length_drop, List.length_replicate]; show rest.size + _ = n; omega)
  generalize List.replicate n (0 : UInt8) = zl at *
  obtain ⟨b, hb⟩ : ∃ b, (fill3 rest n f)[q]? = some b := ⟨_, List.getElem?_eq_getElem (by omega)⟩
  have hbd : (fill3 rest n f).getD q 0 = b := by rw [List.getD_eq_getElem?_getD, hb]; rfl
  rw [hbd] at HF
  have hxb : b.toNat < 256 := b.toNat_lt
  have hxl : b.toNat ^^^ 128 < 256 := Nat.xor_lt_two_pow (n := 8) hxb (by decide)
  have hxo : bits .xor .u8 (b.toNat : Int) 128 = ((b.toNat ^^^ 128 : Nat) : Int) := u8_xor_nat b.toNat 128 hxb (by decide)
  have hll := fillL_len rest n f (Nat.le_of_lt hr)
  unfold fillT
  generalize fillL rest n f = out at *
  generalize fill3 rest n f = l3 at *
  obtain ⟨x, hx⟩ : ∃ x, x = b.toNat ^^^ 128 := ⟨_, rfl⟩
  rw [← hx] at HF hxl hxo
  replace hx := hide hx
  replace hq := hide hq
  go_enter Tryd.func37, Tryd.ntmps37
  have HX : Hid (∀ w2, RB w2 w.heap.size 5 (rest.data.toList ++ zl.drop rest.size) → Below w.heap.size w w2 → ∃ b0 : Value, w2.cell? ⟨w.heap.size, rest.size, none⟩ = some b0 ∧ w2.frozen? ⟨w.heap.size, rest.size, none⟩ = false ∧
      (w2.setCell ⟨w.heap.size, rest.size, none⟩ (.int .u8 (f : Int))).cell? ⟨w.heap.size, q, none⟩ = some (.int .u8 (b.toNat : Int)) ∧ (w2.setCell ⟨w.heap.size, rest.size, none⟩ (.int .u8 (f : Int))).frozen? ⟨w.heap.size, q, none⟩ = false ∧
      (convert 48 9 (.slice (some ⟨w.heap.size, 0, none⟩) n n)).run Tryd.prog ((w2.setCell ⟨w.heap.size, rest.size, none⟩ (.int .u8 (f : Int))).setCell ⟨w.heap.size, q, none⟩ (.int .u8 (x : Int))) = .ok (.string ⟨out.toArray⟩) ((w2.setCell ⟨w.heap.size, rest.size, none⟩ (.int .u8 (f : Int))).setCell ⟨w.heap.size, q, none⟩ (.int .u8 (x : Int))) ∧
      Hid (Below w.heap.size w ((w2.setCell ⟨w.heap.size, rest.size, none⟩ (.int .u8 (f : Int))).setCell ⟨w.heap.size, q, none⟩ (.int .u8 (x : Int))))) := hide (by
    intro w2 hR2 hb2
    obtain ⟨b0, hb0⟩ : ∃ b0, (rest.data.toList ++ zl.drop rest.size)[rest.size]? = some b0 := ⟨_, List.getElem?_eq_getElem (by rw [unhide hl2]; exact hr)⟩
    have hR3 := hR2.set rest.size f hf
    rw [unhide H3] at hR3
    have hR4 := hR3.set q x hxl
    rw [← unhide HF] at hR4
    exact ⟨_, hR2.cell hb0, hR2.frozen _, hR3.cell hb, hR3.frozen q, run_string_owned (P := Tryd.prog) _ 48 9 5 w.heap.size _ out Tryd.underlying48 Tryd.underlying5 Tryd.underlying9 (hR4.own (base := w.heap.size) hll (Nat.le_refl _) (by unfold maxLen; omega)), hide ((hb2.setCell (p := ⟨w.heap.size, rest.size, none⟩) (Nat.le_refl _) (.int .u8 (f : Int))).setCell (p := ⟨w.heap.size, q, none⟩) (Nat.le_refl _) (.int .u8 (x : Int)))⟩)
  have hcp := run_copy_rb (P := Tryd.prog) (w.alloc (.cells (zl.map bv).toArray 5)) 48 9 3 5 w.heap.size n n (zl.map bv).toArray 5 rest Tryd.underlying48 (unhide hi1) (unhide HR) (unhide hrn) (by rw [List.size_toArray, List.length_map, unhide hlz]; exact Nat.le_refl _)
  have eR : (rest.data.toList.map bv ++ (zl.map bv).toArray.toList.drop rest.size) = (rest.data.toList ++ zl.drop rest.size).map bv := by simp [List.map_append, List.map_drop]
  rw [eR] at hcp
  have hR2 : RB ((w.alloc (.cells (zl.map bv).toArray 5)).setRow w.heap.size ((rest.data.toList ++ zl.drop rest.size).map bv).toArray) w.heap.size 5 (rest.data.toList ++ zl.drop rest.size) := setRow_heap _ w.heap.size _ _ 5 (0, 0) (unhide HR)
  have hB2 := Go.below_setRow (unhide HB) (Nat.le_refl w.heap.size) ((rest.data.toList ++ zl.drop rest.size).map bv).toArray
  obtain ⟨b0, c0, f0, c1, f1, hc, hb4⟩ := (unhide HX) _ hR2 hB2
  generalize (w.alloc (.cells (zl.map bv).toArray 5)).setRow w.heap.size ((rest.data.toList ++ zl.drop rest.size).map bv).toArray = w2 at *
  clear HX hR2 hB2 eR
  go_wp2
  go_ret
  exact ⟨rfl, unhide hb4⟩
theorem cutb_front (s : ByteArray) (a m : Nat) (h : a + m ≤ s.size) : (s.extract a s.size).extract 0 m = s.extract a (a + m) := by
  rw [ByteArray.extract_extract]
  congr 1
  omega
theorem cutb_back (s : ByteArray) (a m : Nat) (_ : a + m ≤ s.size) : (s.extract a s.size).extract m (s.extract a s.size).size = s.extract (a + m) s.size := by
  rw [ByteArray.extract_extract, ByteArray.size_extract]
  congr 1
  omega
set_option maxRecDepth 20000 in
set_option maxHeartbeats 400000 in
theorem eachBlk_any (m : Nat) (hm0 : 0 < m) (hm : m ≤ 200) (s : ByteArray) (hs : s.size ≤ 10000000) (g : Nat) (w : World) (St : Nat → World → Prop) (h0 : St 0 w)
    (hstep : ∀ k W, m * k + m ≤ s.size → St k W → Calls Tryd.prog 36 #[.pointer (some ⟨g, 0, none⟩), .string (s.extract (m * k) (m * k + m))] W fun e w' => e = .returned (.tuple #[]) ∧ St (k + 1) w') :
    Calls Tryd.prog 35 #[.string s, .int .i64 (m : Int), .func (Fn.func 36) #[.pointer (some ⟨g, 0, none⟩)] #[]] w fun e w' => e = .returned (.string (s.extract (m * (s.size / m)) s.size)) ∧ St (s.size / m) w' := by
  have H0 := hide h0
  have HST := hide hstep
  clear h0 hstep
  have HE := hide (show s = s.extract (m * 0) s.size by simp)
  go_enter Tryd.func35, Tryd.ntmps35
  go_wp2
  go_loopw [0] (fun ti wr => ∃ k : Nat, m * k ≤ s.size ∧ ti = .string (s.extract (m * k) s.size) ∧ Hid (St k wr)) (fun ti _ => match ti with | .string t => t.size | _ => 0)
  case atStart => exact ⟨0, by omega, by rw [← unhide HE], H0⟩
  case round =>
    clear H0
    obtain ⟨k, hk, rfl, HM⟩ := hrel
    have hez : (s.extract (m * k) s.size).size = s.size - m * k := by rw [ByteArray.size_extract]; omega
    by_cases hlt : m * k + m ≤ s.size
    · have hf := cutb_front s (m * k) m hlt
      have hb := cutb_back s (m * k) m hlt
      have C := hide ((unhide HST) k wr hlt (unhide HM))
      have hn : (s.extract (m * k + m) s.size).size + m = (s.extract (m * k) s.size).size := by rw [ByteArray.size_extract, hez]; omega
      have hk1 : m * (k + 1) = m * k + m := Nat.mul_succ m k
      obtain ⟨t2, ht2⟩ : ∃ t2, t2 = s.extract (m * (k + 1)) s.size := ⟨_, rfl⟩
      have e2 : s.extract (m * k + m) s.size = t2 := by rw [ht2, hk1]
      rw [e2] at hb hn
      clear e2
      have HK := hide ht2
      have HK1 := hide (show m * (k + 1) ≤ s.size by rw [hk1]; exact hlt)
      clear ht2 hk1
      have h64 : (m : Int) ≤ ((s.extract (m * k) s.size).size : Int) := by omega
      have hbig : (s.extract (m * k) s.size).size ≤ 10000000 := by omega
      generalize s.extract (m * k) s.size = t at *
      generalize s.extract (m * k) (m * k + m) = blk at *
      clear hez hlt hk
      go_wp2_with (go_at_call 36; refine (unhide C).mono ?_; rintro e w1 ⟨rfl, hS1⟩)
      go_roundw
      case rel => exact ⟨k + 1, unhide HK1, by rw [unhide HK], hide hS1⟩
      case measure => show t2.size < t.size; omega
    · have hkk := hide (show s.size / m = k by
        apply Nat.div_eq_of_lt_le
        · rw [Nat.mul_comm]; exact hk
        · rw [Nat.add_mul, Nat.one_mul, Nat.mul_comm k m]; omega)
      have h64 : ¬ (m : Int) ≤ ((s.extract (m * k) s.size).size : Int) := by omega
      have hbig : (s.extract (m * k) s.size).size ≤ 10000000 := by omega
      obtain ⟨t, ht⟩ : ∃ t, t = s.extract (m * k) s.size := ⟨_, rfl⟩
      rw [← ht] at h64 hbig ⊢
      replace ht := hide ht
      clear hez HE hlt hk
      go_wp2
      go_ret
      rw [unhide hkk]
      exact ⟨by rw [← unhide ht]; rfl, unhide HM⟩
def blocksK (a : List Nat) (s : ByteArray) (m : Nat) : Nat → List Nat
  | 0 => a
  | k + 1 => takeL (blocksK a s m k) (s.extract (m * k) (m * k + m))
theorem blocksK_ok {a : List Nat} (h : LanesOk a) (s : ByteArray) (m k : Nat) : LanesOk (blocksK a s m k) := by
  induction k with
  | zero => exact h
  | succ k ih => exact takeL_ok ih _
def restOf (s : ByteArray) (m : Nat) : ByteArray := s.extract (m * (s.size / m)) s.size
theorem restOf_size (s : ByteArray) (m : Nat) (h : 0 < m) : (restOf s m).size < m := by
  unfold restOf
  rw [ByteArray.size_extract]
  have := Nat.mod_lt s.size h
  have := Nat.div_add_mod s.size m
  omega
def absorbL (s : ByteArray) (m f : Nat) : List Nat := takeL (blocksK zeros25 s m (s.size / m)) (fillT (restOf s m) m f)
theorem absorbL_ok (s : ByteArray) (m f : Nat) : LanesOk (absorbL s m f) := takeL_ok (blocksK_ok zeros25_ok s m _) _
end Go.Proofs.YtkidgllmhdfgaanDoor
