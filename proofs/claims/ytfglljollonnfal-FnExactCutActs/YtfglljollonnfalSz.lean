/- What laws.szFile, szFileS, szDisk come to. -/
import Derived.Test.YtfglljollonnfalFiles
import Derived.Test.YtfglljollonnfalProg
namespace Go.Proofs.Ytfglljollonnfal
open Go.RowKit

def flSz (f : Fl) : Nat := f.nm.size + f.tx.size
def flsSz : List Fl → Nat
  | [] => 0
  | f :: r => flSz f + flsSz r
theorem flsSz_append (a b : List Fl) : flsSz (a ++ b) = flsSz a + flsSz b := by
  induction a with
  | nil => simp [flsSz]
  | cons f r ih => rw [List.cons_append, flsSz, flsSz, ih]; omega
theorem flsSz_mem {fs : List Fl} {f : Fl} (h : f ∈ fs) : flSz f ≤ flsSz fs := by
  induction fs with
  | nil => cases h
  | cons x r ih =>
    rw [flsSz]
    rcases List.mem_cons.1 h with rfl | h
    · omega
    · have := ih h; omega
theorem flsSz_take {fs : List Fl} {k : Nat} {f : Fl} (h : fs[k]? = some f) : flsSz (fs.take (k + 1)) = flsSz (fs.take k) + flSz f := by
  rw [List.take_add_one, h, flsSz_append]
  simp [flsSz]

set_option maxHeartbeats 400000 in
theorem szFile_any (f : Fl) (l : Nat) (w : World) (h1 : f.nm.size ≤ maxLen) (h2 : f.tx.size ≤ maxLen) (hl : l ≤ 1048576) :
    Calls Try.prog 52 #[flv f, .int .i64 l] w fun e w' => (∃ r : Int, e = .returned (.int .i64 r) ∧ (r = -1 ∨ r = (l : Int) - flSz f ∧ flSz f ≤ l)) ∧ Below w.heap.size w w' := by
  unfold maxLen at h1 h2
  unfold flv
  by_cases c1 : (l : Int) - f.nm.size < 0
  · go_enter Try.func52, Try.ntmps52
    go_wp2
    go_ret
    exact ⟨⟨_, rfl, .inl rfl⟩, (Below.refl _ _).alloc (Nat.le_refl _) _⟩
  · by_cases c2 : (l : Int) - f.nm.size - f.tx.size < 0
    · go_enter Try.func52, Try.ntmps52
      go_wp2
      go_ret
      exact ⟨⟨_, rfl, .inl rfl⟩, (Below.refl _ _).alloc (Nat.le_refl _) _⟩
    · go_enter Try.func52, Try.ntmps52
      go_wp2
      go_ret
      exact ⟨⟨_, rfl, .inr ⟨by unfold flSz; omega, by unfold flSz; omega⟩⟩, (Below.refl _ _).alloc (Nat.le_refl _) _⟩

/-- What the counted size tells. -/
def SzEnd (fs : List Fl) (r : Int) : Prop := r = -1 ∨ ∃ m : Nat, r = m ∧ m + fs.length + flsSz fs = 1048576

set_option maxHeartbeats 1000000 in
theorem szFileS_any (fs : List Fl) (v : Value) (w : World) (hr : RdF w v fs) (hn : fs.length ≤ maxLen) (hz : ∀ f ∈ fs, f.nm.size ≤ maxLen ∧ f.tx.size ≤ maxLen) :
    Calls Try.prog 32 #[v, .int .i64 1048576] w fun e w' => (∃ r : Int, e = .returned (.int .i64 r) ∧ SzEnd fs r) ∧ Below w.heap.size w w' := by
  obtain ⟨a, c, rfl, hc⟩ := hr.open
  have hn' := hn
  unfold maxLen at hn'
  clear hr hn
  obtain ⟨n, hnn⟩ : ∃ n, fs.length = n := ⟨_, rfl⟩
  rw [hnn] at hn' ⊢
  replace hnn := hide hnn
  replace hz := hide hz
  by_cases c1 : (1048576 : Int) - n < 0
  · go_enter Try.func32, Try.ntmps32
    go_wp2
    go_ret
    exact ⟨⟨_, rfl, .inl rfl⟩, Below.refl _ _⟩
  · go_enter Try.func32, Try.ntmps32
    go_wp2
    go_loopw [1, 5] (fun tl ti wr => ∃ k l : Nat, k ≤ n ∧ ti = .int .i64 k ∧ tl = .int .i64 l ∧ Hid (l + n + flsSz (fs.take k) = 1048576) ∧ Below w.heap.size w wr) (fun _ ti _ => n - (intOf ti).toNat)
    case atStart => exact ⟨0, 1048576 - n, Nat.zero_le _, rfl, by go_num, by show _ + _ + flsSz [] = _; simp [flsSz]; omega, Below.refl _ _⟩
    case round =>
      obtain ⟨k, l, hk, rfl, rfl, hsum, hb⟩ := hrel
      by_cases hlt : k < n
      · have hk' : k < fs.length := by rw [unhide hnn]; exact hlt
        obtain ⟨f, hf⟩ : ∃ f, fs[k]? = some f := ⟨fs[k], List.getElem?_eq_getElem hk'⟩
        obtain ⟨g, o, rfl, hg, hat⟩ := hc k f hf
        obtain ⟨c1', c2', c3'⟩ := hat.below hb hg
        have hzf := unhide hz f (List.mem_of_getElem? hf)
        have hl2 : l ≤ 1048576 := by have := unhide hsum; omega
        have HT := hide (flsSz_take hf)
        have hss := hb.size
        replace hf := hide hf
        clear hc hat
        go_wp2_with (go_at_call 52; refine (szFile_any f l _ hzf.1 hzf.2 hl2).mono ?_; rintro e w1 ⟨⟨r, rfl, hr1⟩, hb1⟩)
        · go_ret
          exact ⟨⟨_, rfl, .inl rfl⟩, hb.trans (hb1.mono hss)⟩
        · have hr2 := hr1.resolve_left (by omega)
          go_roundw
          case rel =>
            refine ⟨k + 1, l - flSz f, by omega, by go_num, ?_, ?_, hb.trans (hb1.mono hss)⟩
            · rw [hr2.1]; congr 1; omega
            · have h3 := unhide HT; have h4 := unhide hsum; show _ + _ + _ = _; rw [h3]; omega
          case measure => simp [intOf]; omega
      · have e1 : k = n := by omega
        have e2 : fs.take k = fs := List.take_of_length_le (by rw [unhide hnn]; omega)
        rw [e2] at hsum
        go_wp2
        go_ret
        exact ⟨⟨_, rfl, .inr ⟨l, rfl, by rw [unhide hnn]; exact unhide hsum⟩⟩, hb⟩

set_option maxHeartbeats 400000 in
theorem szDisk_any (fs : List Fl) (v : Value) (w : World) (hr : RdF w v fs) (hn : fs.length ≤ maxLen) (hz : ∀ f ∈ fs, f.nm.size ≤ maxLen ∧ f.tx.size ≤ maxLen) :
    Calls Try.prog 8 #[.agg #[v], .int .i64 1048576] w fun e w' => (∃ r : Int, e = .returned (.int .i64 r) ∧ SzEnd fs r) ∧ Below w.heap.size w w' := by
  have H : Hid (∀ W, RdF W v fs → Calls Try.prog 32 #[v, .int .i64 1048576] W fun e w' => (∃ r : Int, e = .returned (.int .i64 r) ∧ SzEnd fs r) ∧ Below W.heap.size W w') := fun W h => szFileS_any fs v W h hn hz
  obtain ⟨a, c, rfl⟩ := hr.shape
  replace hr := hide hr
  clear hn hz
  go_enter Try.func8, Try.ntmps8
  go_wp2_with (go_at_call 32; refine ((unhide H) _ (by exact (unhide hr).alloc _)).mono ?_; rintro e w1 ⟨⟨r, rfl, hr1⟩, hb1⟩)
  · go_ret
    exact ⟨⟨_, rfl, .inl rfl⟩, ((Below.refl w.heap.size w).alloc (Nat.le_refl _) _).trans (hb1.mono (by simp))⟩
  · go_ret
    exact ⟨⟨_, rfl, hr1⟩, ((Below.refl w.heap.size w).alloc (Nat.le_refl _) _).trans (hb1.mono (by simp))⟩
end Go.Proofs.Ytfglljollonnfal
