/-
  Arrays of eight integers, and superblocks, compared.
-/
import Derived.Test.YtgkbhdecohlpmaaHSays
import Derived.Test.YtgkbhdecohlpmaaArrays
namespace Go.Proofs.Ytgkbhdecohlpmaa
set_option maxRecDepth 100000
open Go.RowKit
set_option maxRecDepth 100000

def ivals (xs : List Int) : List Value := xs.map fun z => Value.int .i64 z
theorem part_int (w : World) (xs : List Int) (k : Nat) (h : k < xs.length) : (part 3 (ivals xs).toArray (k * 1)).run Try.prog w = .ok (.int .i64 (xs.getD k 0)) w := by
  have hv : (ivals xs)[k]? = some (.int .i64 (xs.getD k 0)) := by
    unfold ivals
    rw [List.getElem?_map, List.getElem?_eq_getElem h, Option.map_some]
    simp [List.getD, h]
  simp [part, isAgg, run_underlying Try.underlying3, hv]
theorem eqItems_ints (d : Nat) (xs ys : List Int) (hy : ys.length = xs.length) : ∀ (n s : Nat) (w : World), s + n ≤ xs.length →
    (Op.eqItems (d + 1) 3 1 (ivals xs).toArray (ivals ys).toArray (List.range' s n)).run Try.prog w = .ok (decide ((xs.drop s).take n = (ys.drop s).take n)) w := by
  intro n
  induction n with
  | zero => intro s w _; simp [Op.eqItems]
  | succ n ih =>
    intro s w hn
    rw [List.range'_succ]
    simp only [Op.eqItems, Sem.run_bind, part_int w xs s (by omega), part_int w ys s (by omega), Result.andThen_ok, run_equalIn_int (P := Try.prog) w d 3 .i64 .i64 _ _ Try.underlying3]
    have gx : xs.getD s 0 = xs[s]'(by omega) := by simp [List.getD, show s < xs.length by omega]
    have gy : ys.getD s 0 = ys[s]'(by omega) := by simp [List.getD, show s < ys.length by omega]
    have ex : (xs.drop s).take (n + 1) = xs.getD s 0 :: (xs.drop (s + 1)).take n := by rw [gx, List.drop_eq_getElem_cons (by omega), List.take_succ_cons]
    have ey : (ys.drop s).take (n + 1) = ys.getD s 0 :: (ys.drop (s + 1)).take n := by rw [gy, List.drop_eq_getElem_cons (by omega), List.take_succ_cons]
    rw [ex, ey]
    clear ex ey gx gy
    generalize xs.getD s 0 = p
    generalize ys.getD s 0 = q
    by_cases h : p = q
    · subst h
      have h1 : (p == p) = true := by simp
      rw [h1]
      simp only [Bool.not_true, Bool.false_eq_true, if_false]
      rw [ih (s + 1) w (by omega)]
      simp
    · have h1 : (p == q) = false := by simp; omega
      rw [h1]
      simp [h]
theorem ints8_same (w : World) (xs ys : List Int) (hx : xs.length = 8) (hy : ys.length = 8) : (Op.equalIn 9999 23 (.agg (ivals xs).toArray) (.agg (ivals ys).toArray)).run Try.prog w = .ok (decide (xs = ys)) w := by
  obtain ⟨i0, hi⟩ : ∃ i0, Try.prog.info? 3 = some i0 := Option.isSome_iff_exists.1 (by kernel_rfl)
  have hcell : Try.prog.cellsOf 3 = 1 := by kernel_rfl
  rw [run_equalIn_array w 9998 _ _ Try.underlying23 hi, hcell, List.range_eq_range', eqItems_ints 9997 xs ys (by omega) 8 0 w (by omega)]
  simp only [List.drop_zero, List.take_of_length_le (Nat.le_of_eq hx), List.take_of_length_le (Nat.le_of_eq hy)]
/-- .. written out -/
theorem ints8_out (w : World) (a0 a1 a2 a3 a4 a5 a6 a7 b0 b1 b2 b3 b4 b5 b6 b7 : Int) :
    (Op.equalIn 9999 23 (.agg #[.int .i64 a0, .int .i64 a1, .int .i64 a2, .int .i64 a3, .int .i64 a4, .int .i64 a5, .int .i64 a6, .int .i64 a7]) (.agg #[.int .i64 b0, .int .i64 b1, .int .i64 b2, .int .i64 b3, .int .i64 b4, .int .i64 b5, .int .i64 b6, .int .i64 b7])).run Try.prog w = .ok (decide ([a0, a1, a2, a3, a4, a5, a6, a7] = [b0, b1, b2, b3, b4, b5, b6, b7])) w :=
  ints8_same w [a0, a1, a2, a3, a4, a5, a6, a7] [b0, b1, b2, b3, b4, b5, b6, b7] rfl rfl
theorem ints8_refl (w : World) (a0 a1 a2 a3 a4 a5 a6 a7 : Int) :
    (Op.equalIn 9999 23 (.agg #[.int .i64 a0, .int .i64 a1, .int .i64 a2, .int .i64 a3, .int .i64 a4, .int .i64 a5, .int .i64 a6, .int .i64 a7]) (.agg #[.int .i64 a0, .int .i64 a1, .int .i64 a2, .int .i64 a3, .int .i64 a4, .int .i64 a5, .int .i64 a6, .int .i64 a7])).run Try.prog w = .ok true w := by
  rw [ints8_out]; simp
end Go.Proofs.Ytgkbhdecohlpmaa
