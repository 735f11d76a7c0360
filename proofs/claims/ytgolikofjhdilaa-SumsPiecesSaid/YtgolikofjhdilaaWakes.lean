/-
  The two sums that the document names (wakes), and a sum's bytes, the lowest first.
-/
import Derived.Test.YtgolikofjhdilaaSum
import Derived.Lib.SlBytesConst
namespace Go.Proofs.Ytgolikofjhdilaa
open Go.RowKit

theorem sum_nil : Crc.sum [] = 0 := by decide +kernel
theorem sum_digits : Crc.sum [49, 50, 51, 52, 53, 54, 55, 56, 57] = 3421780262 := by decide +kernel
theorem digits_vals : (vals [49, 50, 51, 52, 53, 54, 55, 56, 57]).toArray = #[.int .u8 49, .int .u8 50, .int .u8 51, .int .u8 52, .int .u8 53, .int .u8 54, .int .u8 55, .int .u8 56, .int .u8 57] := rfl

set_option maxHeartbeats 400000 in
theorem wakes_any (w : World) :
    Calls Try.prog 7 #[] w fun e w' => e = .returned (.bool true) ∧ Below w.heap.size w w' := by
  have kc := fun (w : World) (C : Array Value) (n c : Nat) => Lib.run_convert_bytes_const (P := Try.prog) w 22 5 C n c Try.underlying22 Try.underlying5
  have h0 := Lib.hid (sum_any [] none 0 w By.nil_ (by unfold maxLen; simp))
  go_enter Try.func7, Try.ntmps7
  go_wp2_with fail
  refine h0.out.mono ?_
  rw [sum_nil]
  rintro e w1 ⟨rfl, hw1⟩
  go_wp2_with fail
  rw [← digits_vals]
  have h9 := sum_any [49, 50, 51, 52, 53, 54, 55, 56, 57] (some ⟨w1.heap.size, 0, none⟩) 9 (w1.alloc (.cells (vals [49, 50, 51, 52, 53, 54, 55, 56, 57]).toArray 5 (9, 10)))
    (by
      have h := By.of_row (bs := [49, 50, 51, 52, 53, 54, 55, 56, 57]) (heap_alloc_new w1 (.cells (vals [49, 50, 51, 52, 53, 54, 55, 56, 57]).toArray 5 (9, 10))) (by rfl) (by decide)
      exact h.mono (by simp)) (by unfold maxLen; simp)
  rw [sum_digits] at h9
  refine h9.mono ?_
  rintro e w2 ⟨rfl, hw2⟩
  have hB : Below w.heap.size w w2 := (hw1.alloc hw1.size _).trans (hw2.mono (by have := hw1.size; simp; omega))
  clear h9 hw1 hw2
  go_wp2
  go_ret
  exact ⟨rfl, hB⟩

theorem tail_top (s : Nat) (hs : s < 4294967296) : s / 16777216 % 256 = s / 16777216 := by omega
/-- the four bytes as an array's value -/
def four (s : Nat) : Array Value := (vals (Crc.tail s)).toArray
theorem four_size (s : Nat) : (four s).size = 4 := rfl
theorem four_one (s : Nat) : (four s).all (·.oneCell') = true := Array.all_eq_true_iff_forall_mem.2 fun u hu => vals_one u (by simpa [four] using hu)
theorem four_eq (s : Nat) (hs : s < 4294967296) : #[Value.int .u8 ((s : Int) % 256), .int .u8 ((s : Int) / 256 % 256), .int .u8 ((s : Int) / 65536 % 256), .int .u8 ((s : Int) / 16777216)] = four s := by
  unfold four vals Crc.tail
  rw [tail_top s hs]
  simp

set_option maxHeartbeats 400000 in
theorem lowest_any (s : Nat) (hs : s < 4294967296) (w : World) :
    Calls Try.prog 16 #[.int .u32 (s : Int)] w fun e w' => e = .returned (.agg (four s)) ∧ Below w.heap.size w w' := by
  have HF := Lib.hid (four_eq s hs)
  go_enter Try.func16, Try.ntmps16
  go_wp2
  rw [HF.out]
  exact bodyPost_ret (results_cell_row rfl _ _ w.heap.size 35 (four s) (0, 0) _ rfl (heap_alloc_new w _) Try.underlying35 rfl (by rw [four_size]; kernel_rfl)) rfl ⟨rfl, (Below.refl _ _).alloc (Nat.le_refl _) _⟩
end Go.Proofs.Ytgolikofjhdilaa
