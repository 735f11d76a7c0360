/-
  Numbers of w bytes: fits, digits, and back.
-/
import Derived.Test.YtgkbhdecohlpmaaBase
namespace Go.Proofs.Ytgkbhdecohlpmaa
set_option maxRecDepth 100000
open Go.RowKit

/-- is n a number of z bytes? -/
def fits (n z : Int) : Bool := decide (1 ≤ z ∧ z ≤ 6 ∧ 0 ≤ n ∧ n < 2 ^ (8 * z.toNat))
/-- is z a width? -/
def wid (z : Int) : Bool := decide (1 ≤ z ∧ z ≤ 6)
theorem bool_ret {a b : Bool} (h : a = b) : Ending.returned (.bool a) = .returned (.bool b) := by rw [h]

set_option maxHeartbeats 400000 in
theorem isWidth_any (z : Int) (w : World) :
    Calls Try.prog 51 #[.int .i64 z] w fun e w' => e = .returned (.bool (wid z)) ∧ w = w' := by
  have hw : wid z = (decide (1 ≤ z) && decide (z ≤ 6)) := by unfold wid; rw [Bool.eq_iff_iff]; simp
  rw [hw]
  by_cases h1 : 1 ≤ z
  all_goals
    go_enter Try.func51, Try.ntmps51
    go_wp2
    go_ret
    exact ⟨bool_ret (by simp [h1]; try omega), rfl⟩
theorem width_cases {z : Int} (h : 1 ≤ z ∧ z ≤ 6) : z = 1 ∨ z = 2 ∨ z = 3 ∨ z = 4 ∨ z = 5 ∨ z = 6 := by omega
set_option maxHeartbeats 400000 in
theorem fits_any (n z : Int) (w : World) :
    Calls Try.prog 47 #[.int .i64 n, .int .i64 z] w fun e w' => e = .returned (.bool (fits n z)) ∧ w = w' := by
  have hw := Lib.hid (isWidth_any z)
  by_cases h : 1 ≤ z ∧ z ≤ 6
  · have hd : wid z = true := by unfold wid; simp; omega
    rw [hd] at hw
    rcases width_cases h with rfl | rfl | rfl | rfl | rfl | rfl
    all_goals
      clear h hd
      by_cases h0 : 0 ≤ n
      all_goals
        go_enter Try.func47, Try.ntmps47
        go_wp2_with fail
        refine (hw.out _).mono ?_
        rintro e w1 ⟨rfl, rfl⟩
        go_wp2
        go_ret
        exact ⟨bool_ret (by unfold fits; rw [Bool.eq_iff_iff]; simp [h0]; try omega), rfl⟩
  · have hf : fits n z = false := by unfold fits; simp; omega
    have hd : wid z = false := by unfold wid; simp; omega
    rw [hf]
    rw [hd] at hw
    go_enter Try.func47, Try.ntmps47
    go_wp2_with fail
    refine (hw.out _).mono ?_
    rintro e w1 ⟨rfl, rfl⟩
    go_wp2
    go_ret
    exact ⟨rfl, rfl⟩

/-- the digits, the lowest first -/
def dig (n : Nat) : Nat → List Nat
  | 0 => []
  | k + 1 => n % 256 :: dig (n / 256) k
/-- the number that has these digits -/
def num : List Nat → Nat
  | [] => 0
  | b :: t => b + 256 * num t
theorem dig_length (k : Nat) : ∀ n, (dig n k).length = k := by
  induction k with
  | zero => intro n; rfl
  | succ k ih => intro n; simp [dig, ih]
theorem dig_lt (k : Nat) : ∀ n, ∀ x ∈ dig n k, x < 256 := by
  induction k with
  | zero => intro n x h; cases h
  | succ k ih =>
    intro n x h
    rcases List.mem_cons.1 h with rfl | h
    · omega
    · exact ih _ x h
theorem num_dig (k : Nat) : ∀ n, n < 256 ^ k → num (dig n k) = n := by
  induction k with
  | zero => intro n h; simp at h; simp [dig, num, h]
  | succ k ih =>
    intro n h
    rw [Nat.pow_succ] at h
    rw [dig, num, ih _ (by omega)]
    omega
theorem dig_succ (k : Nat) : ∀ n, dig n (k + 1) = dig n k ++ [n / 256 ^ k % 256] := by
  induction k with
  | zero => intro n; simp [dig]
  | succ k ih =>
    intro n
    rw [dig, ih, dig, List.cons_append, Nat.div_div_eq_div_mul, Nat.pow_succ, Nat.mul_comm 256]
theorem num_snoc (b : Nat) : ∀ l : List Nat, num (l ++ [b]) = num l + 256 ^ l.length * b := by
  intro l
  induction l with
  | nil => simp [num]
  | cons a t ih =>
    rw [List.cons_append, num, ih, num, List.length_cons, Nat.pow_succ, Nat.mul_add, ← Nat.add_assoc, Nat.mul_right_comm, Nat.mul_comm (256 ^ t.length * b), Nat.mul_comm 256]
theorem num_lt : ∀ l : List Nat, (∀ x ∈ l, x < 256) → num l < 256 ^ l.length := by
  intro l
  induction l with
  | nil => intro _; simp [num]
  | cons a t ih =>
    intro h
    have h1 := h a (List.mem_cons_self ..)
    have h2 := ih fun x hx => h x (List.mem_cons_of_mem _ hx)
    rw [List.length_cons, Nat.pow_succ, num]
    omega
theorem pow_w (m : Nat) : (2 : Int) ^ (8 * m) = ((256 ^ m : Nat) : Int) := by
  rw [show (256 : Nat) = 2 ^ 8 from rfl, ← Nat.pow_mul]
  exact (Int.natCast_pow 2 (8 * m)).symm
theorem fits_yes {n m : Nat} (h1 : 1 ≤ m) (h6 : m ≤ 6) (hn : n < 256 ^ m) : fits n m = true := by
  unfold fits
  rw [decide_eq_true_eq, Int.toNat_natCast, pow_w]
  omega
theorem fits_of {n z : Int} (h : fits n z = true) : ∃ x m : Nat, n = x ∧ z = m ∧ 1 ≤ m ∧ m ≤ 6 ∧ x < 256 ^ m := by
  unfold fits at h
  rw [decide_eq_true_eq] at h
  obtain ⟨h1, h2, h3, h4⟩ := h
  obtain ⟨x, rfl⟩ := Int.eq_ofNat_of_zero_le h3
  obtain ⟨m, rfl⟩ := Int.eq_ofNat_of_zero_le (show 0 ≤ z by omega)
  rw [Int.toNat_natCast, pow_w] at h4
  exact ⟨x, m, rfl, rfl, by omega, by omega, by omega⟩
theorem pow_le6 {m : Nat} (h : m ≤ 6) : 256 ^ m ≤ 281474976710656 := by
  have := Nat.pow_le_pow_right (show 0 < 256 by omega) h
  exact this
theorem or_hi (k n b : Nat) (hn : n < 256 ^ k) (hb : b < 256) (hk : k < 6) : bits .or .i64 (n : Int) ((b * 256 ^ k : Nat) : Int) = ((n + 256 ^ k * b : Nat) : Int) := by
  have h1 := pow_le6 (show k ≤ 6 by omega)
  have h2 := pow_le6 (show k + 1 ≤ 6 by omega)
  rw [Nat.pow_succ] at h2
  have h3 : b * 256 ^ k ≤ 256 * 256 ^ k := Nat.mul_le_mul_right _ (by omega)
  have e : n ||| b * 256 ^ k = n + 256 ^ k * b := by
    have hp : 256 ^ k = 2 ^ (8 * k) := by rw [show (256 : Nat) = 2 ^ 8 from rfl, ← Nat.pow_mul]
    rw [hp] at hn ⊢
    have := Nat.shiftLeft_add_eq_or_of_lt hn b
    rw [Nat.shiftLeft_eq] at this
    rw [Nat.or_comm, ← this, Nat.add_comm, Nat.mul_comm]
  rw [i64_or_nat _ _ (by omega) (by omega), e]
theorem or_lo (n b : Nat) (hn : n < 1099511627776) (hb : b < 256) : bits .or .i64 ((n * 256 : Nat) : Int) (b : Int) = ((b + 256 * n : Nat) : Int) := by
  have e : n * 256 ||| b = b + 256 * n := by
    have := Nat.shiftLeft_add_eq_or_of_lt (i := 8) hb n
    rw [Nat.shiftLeft_eq] at this
    rw [show n * 256 = n * 2 ^ 8 from rfl, ← this]
    omega
  rw [i64_or_nat _ _ (by omega) (by omega), e]
theorem and_low (n : Nat) (hn : n < 281474976710656) : bits .and .i64 (n : Int) 255 = ((n % 256 : Nat) : Int) := by
  have h := i64_and_nat n 255 (by omega) (by omega)
  rwa [nat_mask8] at h
end Go.Proofs.Ytgkbhdecohlpmaa
