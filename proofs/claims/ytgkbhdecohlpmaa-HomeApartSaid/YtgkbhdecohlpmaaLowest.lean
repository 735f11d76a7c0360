/-
  A sum's bytes, the lowest first, by contract.
-/
import Derived.Test.YtgkbhdecohlpmaaSum
namespace Go.Proofs.Ytgkbhdecohlpmaa
set_option maxRecDepth 100000
open Go.RowKit

theorem tail_top (s : Nat) (hs : s < 4294967296) : s / 16777216 % 256 = s / 16777216 := by omega
/-- the four bytes as an array's value -/
def four (s : Nat) : Array Value := (vals (Crc.tail s)).toArray
theorem four_size (s : Nat) : (four s).size = 4 := rfl
theorem four_one (s : Nat) : (four s).all (·.oneCell') = true := Array.all_eq_true_iff_forall_mem.2 fun u hu => vals_one u (by simpa [four] using hu)
theorem four_eq (s : Nat) (hs : s < 4294967296) : #[Value.int .u8 ((s : Int) % 256), .int .u8 ((s : Int) / 256 % 256), .int .u8 ((s : Int) / 65536 % 256), .int .u8 ((s : Int) / 16777216)] = four s := by
  unfold four vals Crc.tail
  rw [tail_top s hs]
  simp

set_option maxHeartbeats 400000 in
theorem lowest_any (s : Nat) (hs : s < 4294967296) (w : World) :
    Calls Try.prog 41 #[.int .u32 (s : Int)] w fun e w' => e = .returned (.agg (four s)) ∧ Below w.heap.size w w' := by
  have HF := Lib.hid (four_eq s hs)
  go_enter Try.func41, Try.ntmps41
  go_wp2
  rw [HF.out]
  exact bodyPost_ret (results_cell_row rfl _ _ w.heap.size 92 (four s) (0, 0) _ rfl (heap_alloc_new w _) Try.underlying92 rfl (by rw [four_size]; kernel_rfl)) rfl ⟨rfl, (Below.refl _ _).alloc (Nat.le_refl _) _⟩
end Go.Proofs.Ytgkbhdecohlpmaa
