/-
  Blocks as values, compared; blocks that came in; writes that came in.
-/
import Derived.Test.YtipgphdndleodaaOSays
namespace Go.Proofs.Ytipgphdndleodaa
set_option maxRecDepth 100000
open Go.RowKit
set_option maxRecDepth 100000

theorem part_val (w : World) (xs : List Value) (o : Nat) (h : o + 8 ≤ xs.length) : (part 23 xs.toArray o).run Try.prog w = .ok (.agg ((xs.drop o).take 8).toArray) w := by
  obtain ⟨i, hi, hs⟩ := Option.map_eq_some_iff.1 value_size
  have e : xs.toArray.extract o (o + 8) = ((xs.drop o).take 8).toArray := by
    apply Array.ext'
    simp [List.extract_eq_take_drop]
  simp [part, isAgg, run_underlying Try.underlying23, sizeOf, typeInfo, hi, hs, e]
theorem sum_eight (l : List Nat) : (l.map fun _ => 8).sum = l.length * 8 := by
  induction l with
  | nil => rfl
  | cons x l ih => rw [List.map_cons, List.sum_cons, ih, List.length_cons]; omega
theorem hv_length {h : Int → List Nat} (hh : HFine h) : (hv h).length = 256 := by
  unfold hv
  rw [List.length_flatMap]
  have e : ∀ k ∈ List.range 32, (vals (h ((k : Nat) : Int))).length = 8 := fun k hk => by
    rw [vals_length]; exact (hh k (by omega) (by have := List.mem_range.1 hk; omega)).1
  rw [List.map_congr_left e]
  rfl
theorem hv_part {h : Int → List Nat} (hh : HFine h) : ∀ (n k : Nat), k < n → n ≤ 32 → ((((List.range n).flatMap fun (k : Nat) => vals (h (k : Int))).drop (k * 8)).take 8) = vals (h (k : Int)) := by
  intro n
  induction n with
  | zero => intro k hk; omega
  | succ n ih =>
    intro k hk hn
    have hl : ((List.range n).flatMap fun (k : Nat) => vals (h (k : Int))).length = n * 8 := by
      rw [List.length_flatMap]
      have e : ∀ k ∈ List.range n, (vals (h ((k : Nat) : Int))).length = 8 := fun k hk => by
        rw [vals_length]; exact (hh k (by omega) (by have := List.mem_range.1 hk; omega)).1
      rw [List.map_congr_left e, sum_eight, List.length_range]
    have hk8 : (vals (h ((k : Nat) : Int))).length = 8 := by rw [vals_length]; exact (hh k (by omega) (by omega)).1
    rw [List.range_succ, List.flatMap_append, List.flatMap_singleton]
    rcases Nat.lt_or_ge k n with h1 | h1
    · rw [List.drop_append_of_le_length (by rw [hl]; omega), List.take_append_of_le_length (by rw [List.length_drop, hl]; omega)]
      exact ih k h1 (by omega)
    · obtain rfl : k = n := by omega
      rw [List.drop_append, hl, List.drop_eq_nil_of_le (by rw [hl]; omega), Nat.sub_self, List.drop_zero, List.nil_append, List.take_of_length_le (by omega)]
theorem home_items (d : Nat) {h : Int → List Nat} (hh : HFine h) : ∀ (n s : Nat) (w : World), s + n ≤ 32 →
    (Op.eqItems (d + 1 + 1 + 1) 23 8 (hv h).toArray (hv h).toArray (List.range' s n)).run Try.prog w = .ok true w := by
  intro n
  induction n with
  | zero => intro s w _; simp [Op.eqItems]
  | succ n ih =>
    intro s w hn
    rw [List.range'_succ]
    have hp := part_val w (hv h) (s * 8) (by rw [hv_length hh]; omega)
    rw [show ((hv h).drop (s * 8)).take 8 = vals (h (s : Int)) from hv_part hh 32 s (by omega) (Nat.le_refl _)] at hp
    have hs := (hh s (by omega) (by omega)).1
    simp only [Op.eqItems, Sem.run_bind, hp, Result.andThen_ok, bytes_same_d (d + 1) w 23 8 Try.underlying23 (h (s : Int)) (h (s : Int)) hs hs]
    simp only [decide_true, Bool.not_true, Bool.false_eq_true, if_false]
    exact ih (s + 1) w (by omega)
theorem home_eq (w : World) {h : Int → List Nat} (hh : HFine h) : (binOp .eql 24 (.agg (hv h).toArray) (.agg (hv h).toArray)).run Try.prog w = .ok (.bool true) w := by
  obtain ⟨i, hi, _⟩ := Option.map_eq_some_iff.1 value_size
  have hc : Try.prog.cellsOf 23 = 8 := by kernel_rfl
  rw [run_eql_struct, run_equalIn_array w 9999 _ _ Try.underlying24 hi, hc, List.range_eq_range', home_items 9996 hh 32 0 w (by omega)]
  rfl
end Go.Proofs.Ytipgphdndleodaa
