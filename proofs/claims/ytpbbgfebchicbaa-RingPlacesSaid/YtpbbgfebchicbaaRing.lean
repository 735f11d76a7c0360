/-
  Package ring, by contract: bounds, May, Place, Used, Free, Has.
-/
import Derived.Test.YtpbbgfebchicbaaRows
import Derived.WalkKit
import Derived.WalkLawsBesides
import Derived.WalkSpells
import Derived.Lib.Hide
import Derived.Deep.RegionHeld3
import Derived.Deep.DeepCutAuto
namespace Go.Proofs.Ytpbbgfebchicbaa
open Go.RowKit

theorem wr64 {x : Int} (h : -9223372036854775808 ≤ x ∧ x ≤ 9223372036854775807) : IntKind.i64.wrap x = x := by rw [IntKind.wrap_i64]; omega
theorem Try.info33 : (Try.prog.info? 33).map (·.size) = some 2 := by kernel_rfl
/-- two numbers as a value -/
def two (a b : Int) : Value := .agg #[.int .i64 a, .int .i64 b]

theorem sequence_any (w : World) : Calls Try.prog 10 #[] w fun e w' => e = .returned (.agg #[.int .i64 1, .int .i64 1099511627776]) ∧ Below w.heap.size w w' := by
  go_enter Try.func10, Try.ntmps10
  go_wp2
  exact bodyPost_ret (results_cell_row rfl _ _ w.heap.size 33 #[.int .i64 1, .int .i64 1099511627776] (0, 0) _ rfl (heap_alloc_new w _) Try.underlying33 rfl Try.info33) rfl ⟨rfl, (Below.refl _ _).alloc (Nat.le_refl _) _⟩
theorem count_any (w : World) : Calls Try.prog 17 #[] w fun e w' => e = .returned (.agg #[.int .i64 0, .int .i64 24]) ∧ Below w.heap.size w w' := by
  go_enter Try.func17, Try.ntmps17
  go_wp2
  exact bodyPost_ret (results_cell_row rfl _ _ w.heap.size 33 #[.int .i64 0, .int .i64 24] (0, 0) _ rfl (heap_alloc_new w _) Try.underlying33 rfl Try.info33) rfl ⟨rfl, (Below.refl _ _).alloc (Nat.le_refl _) _⟩
theorem has_any (least most n : Int) (w : World) :
    Calls Try.prog 11 #[.agg #[.int .i64 least, .int .i64 most], .int .i64 n] w fun e w' => e = .returned (.bool (decide (least ≤ n) && decide (n ≤ most))) ∧ Below w.heap.size w w' := by
  by_cases h : least ≤ n
  all_goals
    go_enter Try.func11, Try.ntmps11
    go_wp2
    go_ret
    exact ⟨by simp [h]; try omega, (Below.refl _ _).alloc (Nat.le_refl _) _⟩
theorem room_any (t n : Int) (w : World) (h : 1 ≤ t ∧ t ≤ 1099511627776) :
    Calls Try.prog 12 #[.agg #[.int .i64 t, .int .i64 n]] w fun e w' => e = .returned (.agg #[.int .i64 t, .int .i64 (t + 24)]) ∧ Below w.heap.size w w' := by
  have hw : IntKind.i64.wrap (t + 24) = t + 24 := wr64 (by omega)
  go_enter Try.func12, Try.ntmps12
  go_wp2
  exact bodyPost_ret (results_cell_row rfl _ _ (w.heap.size + 1) 33 #[.int .i64 t, .int .i64 (t + 24)] (0, 0) _ rfl (by have := heap_alloc_new (w.alloc (.cells #[.int .i64 t, .int .i64 n] 23)) (.cells #[.int .i64 t, .int .i64 (t + 24)] 33); rw [World.size_alloc] at this; exact this) Try.underlying33 rfl Try.info33) rfl ⟨rfl, ((Below.refl _ _).alloc (Nat.le_refl _) _).alloc (by simp) _⟩
theorem taken_any (t n : Int) (w : World) (h : -1000000000000000000 ≤ n ∧ n ≤ 1000000000000000000) :
    Calls Try.prog 13 #[.agg #[.int .i64 t, .int .i64 n]] w fun e w' => e = .returned (.agg #[.int .i64 t, .int .i64 (n - 1)]) ∧ Below w.heap.size w w' := by
  have hw : IntKind.i64.wrap (n - 1) = n - 1 := wr64 (by omega)
  go_enter Try.func13, Try.ntmps13
  go_wp2
  exact bodyPost_ret (results_cell_row rfl _ _ (w.heap.size + 1) 33 #[.int .i64 t, .int .i64 (n - 1)] (0, 0) _ rfl (by have := heap_alloc_new (w.alloc (.cells #[.int .i64 t, .int .i64 n] 23)) (.cells #[.int .i64 t, .int .i64 (n - 1)] 33); rw [World.size_alloc] at this; exact this) Try.underlying33 rfl Try.info33) rfl ⟨rfl, ((Below.refl _ _).alloc (Nat.le_refl _) _).alloc (by simp) _⟩
theorem many_any (a b : Int) (w : World) (h : -1000000000000000000 ≤ a ∧ a ≤ 1000000000000000000) (h' : -1000000000000000000 ≤ b ∧ b ≤ 1000000000000000000) :
    Calls Try.prog 14 #[.agg #[.int .i64 a, .int .i64 b]] w fun e w' => e = .returned (.int .i64 (b - a + 1)) ∧ Below w.heap.size w w' := by
  have hw : IntKind.i64.wrap (b - a) = b - a := wr64 (by omega)
  have hw' : IntKind.i64.wrap (b - a + 1) = b - a + 1 := wr64 (by omega)
  go_enter Try.func14, Try.ntmps14
  go_wp2
  go_ret
  exact ⟨rfl, (Below.refl _ _).alloc (Nat.le_refl _) _⟩
theorem place_any (n : Int) (w : World) (h : 1 ≤ n ∧ n ≤ 1099511627776) :
    Calls Try.prog 16 #[.int .i64 n, .int .i64 2, .int .i64 24] w fun e w' => e = .returned (.int .i64 (2 + n % 24)) ∧ w' = w := by
  have hm : n.tmod 24 = n % 24 := Int.tmod_eq_emod_of_nonneg (by omega)
  have hw : IntKind.i64.wrap (n % 24) = n % 24 := wr64 (by omega)
  have hw' : IntKind.i64.wrap (2 + n % 24) = 2 + n % 24 := wr64 (by omega)
  go_enter Try.func16, Try.ntmps16
  go_wp2
  go_ret
  exact ⟨rfl, rfl⟩

/-- P5.1: a sequence -/
def seqB (n : Int) : Bool := decide (1 ≤ n) && decide (n ≤ 1099511627776)
/-- P5.1: may it be -/
def mayB (t n : Int) : Bool := seqB t && (decide (t ≤ n) && decide (n ≤ t + 24))
theorem mayB_true {t n : Int} (h : mayB t n = true) : 1 ≤ t ∧ t ≤ 1099511627776 ∧ t ≤ n ∧ n ≤ t + 24 := by
  unfold mayB seqB at h
  simp only [Bool.and_eq_true, decide_eq_true_eq] at h
  omega
def placeR (n : Int) : Value := if seqB n then .tuple #[.int .i64 (2 + n % 24), .int .i64 0] else .tuple #[.int .i64 0, .int .i64 2]
theorem at_place (n : Int) (w : World) : Calls Try.prog 8 #[.int .i64 n] w fun e w' => e = .returned (placeR n) ∧ Below w.heap.size w w' := by
  cases h : seqB n
  · go_enter Try.func8, Try.ntmps8
    go_wp2_with (first
      | (go_at_call 10; refine (sequence_any _).mono ?_; rintro e w1 ⟨rfl, hb1⟩)
      | (go_at_call 11; refine (has_any _ _ _ _).mono ?_; rintro e w2 ⟨rfl, hb2⟩; rw [show (decide (1 ≤ n) && decide (n ≤ 1099511627776)) = false from h]))
    go_ret2
    exact ⟨by unfold placeR; rw [h]; rfl, hb1.trans (hb2.mono hb1.size)⟩
  · have hp := fun w => place_any n w (by unfold seqB at h; simpa using h)
    go_enter Try.func8, Try.ntmps8
    go_wp2_with (first
      | (go_at_call 10; refine (sequence_any _).mono ?_; rintro e w1 ⟨rfl, hb1⟩)
      | (go_at_call 11; refine (has_any _ _ _ _).mono ?_; rintro e w2 ⟨rfl, hb2⟩; rw [show (decide (1 ≤ n) && decide (n ≤ 1099511627776)) = true from h])
      | (go_at_call 16; refine (hp _).mono ?_; rintro e w3 ⟨rfl, rfl⟩))
    go_ret2
    exact ⟨by unfold placeR; rw [h]; rfl, hb1.trans (hb2.mono hb1.size)⟩
end Go.Proofs.Ytpbbgfebchicbaa
