/-
  Arrays of bytes of whatever length, as values: compared; loaded in a region that draws its order; a cell and a slot as results.
-/
import Derived.Test.YtgkbhdecohlpmaaParts
namespace Go.Proofs.Ytgkbhdecohlpmaa
set_option maxRecDepth 100000
open Go.RowKit

theorem part_byte (w : World) (xs : List Nat) (k : Nat) (h : k < xs.length) : (part 5 (vals xs).toArray (k * 1)).run Try.prog w = .ok (.int .u8 (xs.getD k 0 : Nat)) w := by
  have hv : (vals xs)[k]? = some (.int .u8 (xs.getD k 0 : Nat)) := by
    unfold vals
    rw [List.getElem?_map, List.getElem?_eq_getElem h, Option.map_some, getD_at _ _ h]
  simp [part, isAgg, run_underlying Try.underlying5, hv]
theorem eqItems_bytes (d : Nat) (xs ys : List Nat) (hy : ys.length = xs.length) : ∀ (n s : Nat) (w : World), s + n ≤ xs.length →
    (Op.eqItems (d + 1) 5 1 (vals xs).toArray (vals ys).toArray (List.range' s n)).run Try.prog w = .ok (decide ((xs.drop s).take n = (ys.drop s).take n)) w := by
  intro n
  induction n with
  | zero => intro s w _; simp [Op.eqItems]
  | succ n ih =>
    intro s w hn
    rw [List.range'_succ]
    simp only [Op.eqItems, Sem.run_bind, part_byte w xs s (by omega), part_byte w ys s (by omega), Result.andThen_ok, run_equalIn_int (P := Try.prog) w d 5 .u8 .u8 _ _ Try.underlying5]
    have ex : (xs.drop s).take (n + 1) = xs.getD s 0 :: (xs.drop (s + 1)).take n := by rw [List.drop_eq_getElem_cons (by omega), List.take_succ_cons, getD_at _ _ (by omega)]
    have ey : (ys.drop s).take (n + 1) = ys.getD s 0 :: (ys.drop (s + 1)).take n := by rw [List.drop_eq_getElem_cons (by omega), List.take_succ_cons, getD_at _ _ (by omega)]
    rw [ex, ey]
    clear ex ey
    generalize xs.getD s 0 = p
    generalize ys.getD s 0 = q
    by_cases h : p = q
    · subst h
      have h1 : ((p : Int) == (p : Int)) = true := by simp
      rw [h1]
      simp only [Bool.not_true, Bool.false_eq_true, if_false]
      rw [ih (s + 1) w (by omega)]
      simp
    · have h1 : ((p : Int) == (q : Int)) = false := by simp; omega
      rw [h1]
      simp [h]
theorem bytes_same_ (w : World) (t : TypeId) (n : Nat) (ht : Try.prog.underlying t = some (.array n 5)) (xs ys : List Nat) (hx : xs.length = n) (hy : ys.length = n) : (Op.equalIn 10000 t (.agg (vals xs).toArray) (.agg (vals ys).toArray)).run Try.prog w = .ok (decide (xs = ys)) w := by
  obtain ⟨i0, hi, _, hz1, _⟩ := info_parts Try.info5
  have hcell : Try.prog.cellsOf 5 = 1 := by kernel_rfl
  rw [run_equalIn_array w 9999 _ _ ht hi, hcell, List.range_eq_range', eqItems_bytes 9998 xs ys (by omega) n 0 w (by omega)]
  simp only [List.drop_zero, List.take_of_length_le (Nat.le_of_eq hx), List.take_of_length_le (Nat.le_of_eq hy)]
theorem bytes_eq (w : World) (t : TypeId) (n : Nat) (ht : Try.prog.underlying t = some (.array n 5)) (xs ys : List Nat) (hx : xs.length = n) (hy : ys.length = n) : (binOp .eql t (.agg (vals xs).toArray) (.agg (vals ys).toArray)).run Try.prog w = .ok (.bool (decide (xs = ys))) w := by
  rw [run_eql_struct, bytes_same_ w t n ht xs ys hx hy]
  rfl
theorem bytes_neq (w : World) (t : TypeId) (n : Nat) (ht : Try.prog.underlying t = some (.array n 5)) (xs ys : List Nat) (hx : xs.length = n) (hy : ys.length = n) : (binOp .neq t (.agg (vals xs).toArray) (.agg (vals ys).toArray)).run Try.prog w = .ok (.bool (!decide (xs = ys))) w := by
  rw [run_neq_struct, bytes_same_ w t n ht xs ys hx hy]
  rfl
section
variable {P : Program}
/-- a load of an array or a struct, in a region that draws its order -/
theorem exec_load_part {ρ : Operand → Value} {o : Oper} {w : World} (ty : TypeId) (x : Operand) (ho : o.op = .load ty x) (g off : Nat) (hx : ρ x = .pointer (some ⟨g, off, none⟩)) (xs : List Value) (d : TypeDesc)
    (hc : ∀ j u, xs[j]? = some u → w.cell? ⟨g, off + j, none⟩ = some u) (hu : P.underlying ty = some d) (hd : (match d with | .struct _ | .array _ _ => true | _ => false) = true) (hi : (P.info? ty).map (·.size) = some xs.length) :
    (execOp ρ o).run P w = .ok (.value (.agg xs.toArray)) w := by
  unfold execOp
  simp only [ho, hx, Instr.loadAt, Instr.sureAddr, Sem.run_bind, Sem.run_pure, Result.andThen_ok, run_load_part w g off ty xs d hc hu hd hi]
/-- results: a cell that holds an array or a struct, and a slot -/
theorem results_cell_tmp {fn : Func} {p u : Tmp} {t : TypeId} (h : fn.results = #[.cell p t, .tmp u]) (tmps : Array Value) (w : World) (g : Nat) (cs : Array Value) (fr : Nat × Nat) (d : TypeDesc)
    (hp : tmps.getD p undef = .pointer (some ⟨g, 0, none⟩)) (hg : w.heap[g]? = some (.cells cs t fr)) (hu : P.underlying t = some d) (hd : (match d with | .struct _ | .array _ _ => true | _ => false) = true) (hi : (P.info? t).map (·.size) = some cs.size) :
    (results fn tmps).run P w = .ok (.tuple #[.agg cs, tmps.getD u undef]) w := by
  have hp' : tmps[p]?.getD undef = .pointer (some ⟨g, 0, none⟩) := by simpa using hp
  simp [results, h, hp', asAddr, run_loadVar_row w g t t cs fr d hg hu hd hi]
end
end Go.Proofs.Ytgkbhdecohlpmaa
