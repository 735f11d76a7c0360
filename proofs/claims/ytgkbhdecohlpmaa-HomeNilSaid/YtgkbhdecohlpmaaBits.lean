/-
  How the walk spells the arithmetic of layer 1, and what it comes to on natural numbers.
-/
import Derived.Test.YtgkbhdecohlpmaaCrc
import Derived.Test.YtgkbhdecohlpmaaBase
namespace Go.Proofs.Ytgkbhdecohlpmaa
set_option maxRecDepth 100000
open Go.RowKit

theorem bits_one (x : Nat) (hx : x < 4294967296) : bits .and .u32 (x : Int) 1 = ((x % 2 : Nat) : Int) := by
  have h := u32_and_nat x 1 hx (by omega)
  rw [nat_mask1] at h
  exact h
theorem bits_low (x : Nat) (hx : x < 4294967296) : bits .and .u32 (x : Int) 15 = ((x % 16 : Nat) : Int) := by
  have h := u32_and_nat x 15 hx (by omega)
  rw [nat_mask4] at h
  exact h
theorem bits_poly (x : Nat) (hx : x < 4294967296) : bits .xor .u32 ((x : Int) / 2) 3988292384 = (((x / 2) ^^^ 3988292384 : Nat) : Int) := by
  have h := u32_xor_nat (x / 2) 3988292384 (by omega) (by omega)
  rw [← h]; rfl
theorem sh_odd (x : Nat) (hx : x < 4294967296) (h : x % 2 = 1) : bits .xor .u32 ((x : Int) / 2) 3988292384 = (Crc.sh x : Nat) := by
  rw [bits_poly x hx]; unfold Crc.sh; rw [if_pos h]
theorem sh_even (x : Nat) (h : ¬ x % 2 = 1) : (x : Int) / 2 = (Crc.sh x : Nat) := by
  unfold Crc.sh; rw [if_neg h]; omega
theorem one_ne (x : Nat) (hx : x < 4294967296) (h : x % 2 = 1) : (bits .and .u32 (x : Int) 1 != 0) = true := by rw [bits_one x hx, h]; rfl
theorem one_ne' (x : Nat) (hx : x < 4294967296) (h : ¬ x % 2 = 1) : (bits .and .u32 (x : Int) 1 != 0) = false := by
  have : x % 2 = 0 := by omega
  rw [bits_one x hx, this]; rfl
theorem one_eq (x : Nat) (hx : x < 4294967296) (h : x % 2 = 1) : (bits .and .u32 (x : Int) 1 == 1) = true := by rw [bits_one x hx, h]; rfl
theorem one_eq' (x : Nat) (hx : x < 4294967296) (h : ¬ x % 2 = 1) : (bits .and .u32 (x : Int) 1 == 1) = false := by
  have : x % 2 = 0 := by omega
  rw [bits_one x hx, this]; rfl
end Go.Proofs.Ytgkbhdecohlpmaa
