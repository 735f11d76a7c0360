/-
  Writes, changes and names as values: compared.
-/
import Derived.Test.YtipgphdndleodaaRecv
import Derived.Test.YtipgphdndleodaaArrays
import Derived.Laws.StructEq
namespace Go.Proofs.Ytipgphdndleodaa
open Go.RowKit
set_option maxRecDepth 100000

theorem bytes_same_d (d : Nat) (w : World) (t : TypeId) (n : Nat) (ht : Try.prog.underlying t = some (.array n 5)) (xs ys : List Nat) (hx : xs.length = n) (hy : ys.length = n) : (Op.equalIn (d + 1 + 1) t (.agg (vals xs).toArray) (.agg (vals ys).toArray)).run Try.prog w = .ok (decide (xs = ys)) w := by
  obtain ⟨i0, hi, _, hz1, _⟩ := info_parts Try.info5
  have hcell : Try.prog.cellsOf 5 = 1 := by kernel_rfl
  rw [run_equalIn_array w (d + 1) _ _ ht hi, hcell, List.range_eq_range', eqItems_bytes d xs ys (by omega) n 0 w (by omega)]
  simp only [List.drop_zero, List.take_of_length_le (Nat.le_of_eq hx), List.take_of_length_le (Nat.le_of_eq hy)]
theorem write_parts : (Try.prog.fieldsOf 27).toList.map (fun f => (f.name, f.type, f.offset)) = [("Block", 3, 0), ("Value", 23, 1)] := by kernel_rfl
theorem value_size : (Try.prog.info? 23).map (·.size) = some 8 := by kernel_rfl
theorem two_list {α β : Type} {f : α → β} {l : List α} {a b : β} (h : l.map f = [a, b]) : ∃ x y, l = [x, y] ∧ f x = a ∧ f y = b := by
  match l, h with
  | [x, y], h => simp only [List.map_cons, List.map_nil, List.cons.injEq, and_true] at h; exact ⟨x, y, rfl, h.1, h.2⟩
theorem part_int (w : World) (xs : List Value) (k : Nat) (v : Value) (h : xs[k]? = some v) : (part 3 xs.toArray k).run Try.prog w = .ok v w := by
  simp [part, isAgg, run_underlying Try.underlying3, h]
theorem part_value (w : World) (x : Int × List Nat) (hx : x.2.length = 8) : (part 23 (wrv x).toArray 1).run Try.prog w = .ok (.agg (vals x.2).toArray) w := by
  obtain ⟨i, hi, hs⟩ := Option.map_eq_some_iff.1 value_size
  have he : List.take 8 (wrv x).tail = vals x.2 := List.take_of_length_le (by show (vals x.2).length ≤ 8; rw [vals_length]; omega)
  simp [part, isAgg, run_underlying Try.underlying23, sizeOf, typeInfo, hi, hs, he]
theorem write_same (w : World) (x y : Int × List Nat) (hx : x.2.length = 8) (hy : y.2.length = 8) : (Op.equalIn 10000 27 (.agg (wrv x).toArray) (.agg (wrv y).toArray)).run Try.prog w = .ok (decide (x = y)) w := by
  obtain ⟨f1, f2, hf, e1, e2⟩ := two_list write_parts
  simp only [Prod.mk.injEq] at e1 e2
  obtain ⟨n1, t1, o1⟩ := e1
  obtain ⟨n2, t2, o2⟩ := e2
  rw [run_equalIn_struct w 9999 27 _ _ (by kernel_rfl) (by kernel_rfl), hf]
  simp only [Op.eqFields, n1, t1, o1, n2, t2, o2, Sem.run_bind, Sem.run_ite, Sem.run_pure]
  simp only [part_int w (wrv x) 0 (.int .i64 x.1) rfl, part_int w (wrv y) 0 (.int .i64 y.1) rfl, part_value w x hx, part_value w y hy, Result.andThen_ok,
    run_equalIn_int (P := Try.prog) w 9998 3 .i64 .i64 _ _ Try.underlying3, bytes_same_d 9997 w 23 8 Try.underlying23 x.2 y.2 hx hy]
  obtain ⟨a, b⟩ := x
  obtain ⟨c, d⟩ := y
  by_cases h1 : a = c
  · by_cases h2 : b = d
    · simp [h1, h2, show ("Value" ≠ "_") from by decide]
    · simp [h1, h2, show ("Value" ≠ "_") from by decide]
  · simp [h1]
theorem write_neq (w : World) (x y : Int × List Nat) (hx : x.2.length = 8) (hy : y.2.length = 8) : (binOp .neq 27 (.agg (wrv x).toArray) (.agg (wrv y).toArray)).run Try.prog w = .ok (.bool (!decide (x = y))) w := by
  rw [run_neq_struct, write_same w x y hx hy]
  rfl
theorem three_list {α β : Type} {f : α → β} {l : List α} {a b c : β} (h : l.map f = [a, b, c]) : ∃ x y z, l = [x, y, z] ∧ f x = a ∧ f y = b ∧ f z = c := by
  match l, h with
  | [x, y, z], h => simp only [List.map_cons, List.map_nil, List.cons.injEq, and_true] at h; exact ⟨x, y, z, rfl, h.1, h.2.1, h.2.2⟩
end Go.Proofs.Ytipgphdndleodaa
