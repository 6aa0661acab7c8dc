/- What laws.szFile, szFileS, szDisk come to. What laws.toFile, toFileS, toDisk come to: a copy of the call's own. What laws.eqFile, eqFileS, eqDisk come to where both are the same. -/
import Derived.Test.YtkaaabpodhgbpaaFiles
import Derived.Test.YtkaaabpodhgbpaaProg
namespace Go.Proofs.Ytkaaabpodhgbpaa
open Go.RowKit

def flSz (f : Fl) : Nat := f.nm.size + f.tx.size
def flsSz : List Fl → Nat
  | [] => 0
  | f :: r => flSz f + flsSz r
theorem flsSz_append (a b : List Fl) : flsSz (a ++ b) = flsSz a + flsSz b := by
  induction a with
  | nil => simp [flsSz]
  | cons f r ih => rw [List.cons_append, flsSz, flsSz, ih]; omega
theorem flsSz_mem {fs : List Fl} {f : Fl} (h : f ∈ fs) : flSz f ≤ flsSz fs := by
  induction fs with
  | nil => cases h
  | cons x r ih =>
    rw [flsSz]
    rcases List.mem_cons.1 h with rfl | h
    · omega
    · have := ih h; omega
theorem flsSz_take {fs : List Fl} {k : Nat} {f : Fl} (h : fs[k]? = some f) : flsSz (fs.take (k + 1)) = flsSz (fs.take k) + flSz f := by
  rw [List.take_add_one, h, flsSz_append]
  simp [flsSz]


/-- What the counted size tells. -/
def SzEnd (fs : List Fl) (r : Int) : Prop := r = -1 ∨ ∃ m : Nat, r = m ∧ m + fs.length + flsSz fs = 1048576


end Go.Proofs.Ytkaaabpodhgbpaa

namespace Go.Proofs.Ytkaaabpodhgbpaa
open Go.RowKit

theorem infoFile : (Try.prog.info? 36).map (fun i => (i.zero, i.size, i.bytes)) = some (some (flv flz), 3, 40) := by kernel_rfl


end Go.Proofs.Ytkaaabpodhgbpaa

namespace Go.Proofs.Ytkaaabpodhgbpaa
open Go.RowKit

end Go.Proofs.Ytkaaabpodhgbpaa
