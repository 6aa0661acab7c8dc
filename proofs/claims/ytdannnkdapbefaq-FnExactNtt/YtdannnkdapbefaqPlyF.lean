/- Bits turned by the project, over the loaded program. -/
import Derived.Test.YtdannnkdapbefaqPly2
namespace Go.Proofs.Ytdannnkdapbefaq
open Go.RowKit
def rev8T : ByteArray := ⟨#[0, 128, 64, 192, 32, 160, 96, 224, 16, 144, 80, 208, 48, 176, 112, 240, 8, 136, 72, 200, 40, 168, 104, 232, 24, 152, 88, 216, 56, 184, 120, 248, 4, 132, 68, 196, 36, 164, 100, 228, 20, 148, 84, 212, 52, 180, 116, 244, 12, 140, 76, 204, 44, 172, 108, 236, 28, 156, 92, 220, 60, 188, 124, 252, 2, 130, 66, 194, 34, 162, 98, 226, 18, 146, 82, 210, 50, 178, 114, 242, 10, 138, 74, 202, 42, 170, 106, 234, 26, 154, 90, 218, 58, 186, 122, 250, 6, 134, 70, 198, 38, 166, 102, 230, 22, 150, 86, 214, 54, 182, 118, 246, 14, 142, 78, 206, 46, 174, 110, 238, 30, 158, 94, 222, 62, 190, 126, 254, 1, 129, 65, 193, 33, 161, 97, 225, 17, 145, 81, 209, 49, 177, 113, 241, 9, 137, 73, 201, 41, 169, 105, 233, 25, 153, 89, 217, 57, 185, 121, 249, 5, 133, 69, 197, 37, 165, 101, 229, 21, 149, 85, 213, 53, 181, 117, 245, 13, 141, 77, 205, 45, 173, 109, 237, 29, 157, 93, 221, 61, 189, 125, 253, 3, 131, 67, 195, 35, 163, 99, 227, 19, 147, 83, 211, 51, 179, 115, 243, 11, 139, 75, 203, 43, 171, 107, 235, 27, 155, 91, 219, 59, 187, 123, 251, 7, 135, 71, 199, 39, 167, 103, 231, 23, 151, 87, 215, 55, 183, 119, 247, 15, 143, 79, 207, 47, 175, 111, 239, 31, 159, 95, 223, 63, 191, 127, 255]⟩
set_option maxRecDepth 100000 in
theorem rev8T_at (x : Nat) (hx : x < 128) (h : 2 * x < rev8T.size) : (rev8T[2 * x]'h).toNat = t7 x := by
  have H : allN (fun x => (rev8T.data.getD (2 * x) 0).toNat == t7 x) 128 = true := by decide +kernel
  have h2 := allN_at H x hx
  have h3 : (rev8T.data.getD (2 * x) 0).toNat = t7 x := by simpa using h2
  rw [← h3]
  unfold Array.getD
  rw [dif_pos (show 2 * x < rev8T.data.size from h)]
  rfl
set_option maxRecDepth 100000 in
set_option maxHeartbeats 1000000 in
theorem rev8_any (x : Nat) (hx : x < 128) (w : World) :
    Calls Try.prog 40 #[.int .u8 ((2 * x : Nat) : Int)] w fun e w' => e = .returned (.int .u8 (t7 x : Int)) ∧ w' = w := by
  go_enter Try.func40, Try.ntmps40
  go_wp2
  go_ret
  refine ⟨?_, rfl⟩
  exact congrArg (fun n : Nat => Ending.returned (Value.int .u8 (n : Int))) (rev8T_at x hx (by show 2 * x < 256; omega))
theorem implTurn7_w (z : Int) (W : World) :
    Calls Try.prog 37 #[.int .i64 z] W fun x w' => x = .returned (.int .i64 (turnZ z)) ∧ w' = W := by
  obtain ⟨m, hm⟩ : ∃ m : Nat, (z % 128).toNat = m := ⟨_, rfl⟩
  have hml : m < 128 := by omega
  have ET := hide (show turnZ z = (t7 m : Int) by unfold turnZ; rw [hm])
  have CR := hide (rev8_any m hml W)
  rw [unhide ET]
  have hr := t7_lt m
  have w64 : wrap64 (t7 m : Int) = (t7 m : Int) := by unfold wrap64; omega
  generalize t7 m = r at *
  have w1 : z % 256 * 2 % 256 = ((2 * m : Nat) : Int) := by omega
  rw [Int.natCast_mul] at CR
  go_enter Try.func37, Try.ntmps37
  go_wp2_with fail
  refine (unhide CR).mono ?_
  rintro e w1 ⟨rfl, rfl⟩
  go_wp2
  go_ret
  exact ⟨rfl, rfl⟩
theorem implTurn7_any (z : Int) (W : World) :
    Calls Try.prog 37 #[.int .i64 z] W fun x w' => x = .returned (.int .i64 (turnZ z)) ∧ Below W.heap.size W w' :=
  (implTurn7_w z W).mono fun _ _ ⟨h1, h2⟩ => ⟨h1, by rw [h2]; exact Below.refl _ _⟩
end Go.Proofs.Ytdannnkdapbefaq
