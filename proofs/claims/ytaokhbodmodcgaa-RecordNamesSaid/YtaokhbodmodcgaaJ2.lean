/-
  Texts RefFields, RefNames, joined.
-/
import Derived.Test.YtaokhbodmodcgaaJ1
set_option linter.all false
section
/-
  The document's answer of a record with the fields alone that its kind names.
-/
namespace Go.Proofs.Ytaokhbodmodcgaa
open Go.RowKit
set_option maxRecDepth 100000

theorem Try.sizeR : (Try.prog.info? 29).map (·.size) = some 12 := by kernel_rfl
theorem Try.info12 (k a b c g t s p q n : Int) (y : Bool) (A : Option Addr) (i j : Nat) : (Try.prog.info? 29).map (·.size) = some (#[.int .i8 k, .int .i64 a, .int .i64 b, .int .i64 c, .bool y, .slice A i j, .int .i64 g, .int .i64 t, .int .i64 s, .int .i64 p, .int .i64 q, .int .i64 n] : Array Value).size := Try.sizeR
theorem one12 (k a b c g t s p q n : Int) (y : Bool) (A : Option Addr) (i j : Nat) : (#[.int .i8 k, .int .i64 a, .int .i64 b, .int .i64 c, .bool y, .slice A i j, .int .i64 g, .int .i64 t, .int .i64 s, .int .i64 p, .int .i64 q, .int .i64 n] : Array Value).all (·.oneCell') = true := by simp [Value.oneCell']
theorem size12 (k a b c g t s p q n k' a' b' c' g' t' s' p' q' n' : Int) (y y' : Bool) (A A' : Option Addr) (i j i' j' : Nat) : (#[.int .i8 k, .int .i64 a, .int .i64 b, .int .i64 c, .bool y, .slice A i j, .int .i64 g, .int .i64 t, .int .i64 s, .int .i64 p, .int .i64 q, .int .i64 n] : Array Value).size = (#[.int .i8 k', .int .i64 a', .int .i64 b', .int .i64 c', .bool y', .slice A' i' j', .int .i64 g', .int .i64 t', .int .i64 s', .int .i64 p', .int .i64 q', .int .i64 n'] : Array Value).size := rfl
theorem Try.sizeN : (Try.prog.info? 24).map (·.size) = some 3 := by kernel_rfl
theorem Try.sizeC : (Try.prog.info? 27).map (·.size) = some 2 := by kernel_rfl
theorem Try.size1 : (Try.prog.info? 3).map (·.size) = some 1 := by kernel_rfl
theorem Try.size1b : (Try.prog.info? 4).map (·.size) = some 1 := by kernel_rfl
theorem Try.size1s : (Try.prog.info? 25).map (·.size) = some 1 := by kernel_rfl
section
variable {P : Program}
/-- a store of a single cell into a row that is known -/
theorem run_store_one (w : World) (g : Nat) (t ty : TypeId) (pre post : List Value) (old v : Value) (hg : w.heap[g]? = some (.cells (pre ++ [old] ++ post).toArray t (0, 0))) (hi : (P.info? ty).map (·.size) = some 1) (hc : v.cells = #[v]) (h1 : v.oneCell' = true) :
    (storeVar ty ⟨g, pre.length, none⟩ v).run P w = .ok () (w.setRow g (pre ++ [v] ++ post).toArray) := by
  have := run_storeCells_part (P := P) g t [v] pre.length 0 pre post [old] w hg rfl rfl (fun u hu => by rw [List.mem_singleton.1 hu]; exact h1)
  cases hq : P.info? ty with
  | none => simp [hq] at hi
  | some i =>
    have hs : i.size = 1 := by simpa [hq] using hi
    simp [storeVar, sizeOf, typeInfo, hq, hc, hs] at this ⊢
    exact this
theorem wpList_store_one {ops : Array Oper} {rest : List Oper} {o : Oper} {a : Act} {w : World} {Q : Exit → Act → World → Prop} (hgd : o.guard = none) (ty : TypeId) (x y : Operand) (ho : o.op = .store ty x y)
    (g off : Nat) (hx : a.eval x = .pointer (some ⟨g, off, none⟩)) (v : Value) (hy : a.eval y = v) (t : TypeId) (pre : List Value) (old : Value) (post : List Value)
    (hg : w.heap[g]? = some (.cells (pre ++ [old] ++ post).toArray t (0, 0))) (hoff : pre.length = off) (hi : (P.info? ty).map (·.size) = some 1) (hc : v.cells = #[v]) (h1 : v.oneCell' = true)
    (h : wpList P ops Q rest (a.put o.dst undef) (w.setRow g (pre ++ [v] ++ post).toArray)) : wpList P ops Q (o :: rest) a w :=
  wpList_plain hgd fun _ hK => by
    subst hoff
    unfold Oper.wp execOp
    simp only [ho, hx, hy, Instr.storeAt, Instr.sureAddr, Sem.run_bind, Sem.run_pure, Result.andThen_ok, run_store_one w g t ty pre post old v hg hi hc h1]
    exact hK _ _ h
theorem results_cell_one {fn : Func} {p : Tmp} {t : TypeId} (h : fn.results = #[.cell p t]) (tmps : Array Value) (w : World) (g : Nat) (cs : Array Value) (fr : Nat × Nat) (d : TypeDesc)
    (hp : tmps.getD p undef = .pointer (some ⟨g, 0, none⟩)) (hg : w.heap[g]? = some (.cells cs t fr)) (hu : P.underlying t = some d) (hd : (match d with | .struct _ | .array _ _ => true | _ => false) = true) (hi : (P.info? t).map (·.size) = some cs.size) :
    (results fn tmps).run P w = .ok (.agg cs) w := by
  have hp' : tmps[p]?.getD undef = .pointer (some ⟨g, 0, none⟩) := by simpa using hp
  simp [results, h, hp', asAddr, run_loadVar_row w g t t cs fr d hg hu hd hi]
end
theorem row_lit {w : World} {g : Nat} {t : TypeId} {cs : List Value} (hg : w.heap[g]? = some (.cells cs.toArray t (0, 0))) : ∀ j u, cs[j]? = some u → w.cell? ⟨g, 0 + j, none⟩ = some u := fun j u hu => by
  rw [Nat.zero_add, cell_of_row w g j _ _ _ hg]
  simpa using hu
/-- the writes of a record with its own fields alone -/
def fieldsA (r : Rc) (A : Option Addr) : Option Addr := if r.kind = 1 ∨ r.kind = 2 then A else none
def fieldsC (r : Rc) (c : Nat) : Nat := if r.kind = 1 ∨ r.kind = 2 then c else 0

set_option maxHeartbeats 4000000 in
theorem fields1 (r : Rc) (A : Option Addr) (cc : Nat) (w : World) (hk : r.kind = 1) : Calls Try.prog 32 #[.agg (recv A cc r).toArray] w fun e w' => e = .returned (.agg (recv A cc (fieldsR r)).toArray) ∧ Below w.heap.size w w' := by
  obtain ⟨k, ⟨a, b, c⟩, y, l, g, t, sh, st, tt, n⟩ := r
  simp only at hk
  subst hk
  have HR := Lib.hid (show (recv A cc (fieldsR ⟨1, ⟨a, b, c⟩, y, l, g, t, sh, st, tt, n⟩)).toArray = #[.int .i8 1, .int .i64 a, .int .i64 b, .int .i64 c, .bool false, .slice A l.length cc, .int .i64 0, .int .i64 0, .int .i64 0, .int .i64 0, .int .i64 0, .int .i64 0] from rfl)
  rw [HR.out]
  unfold recv
  simp only
  obtain ⟨w1, hw1⟩ : ∃ w1, w1 = (w.alloc (.cells #[.int .i8 1, .int .i64 a, .int .i64 b, .int .i64 c, .bool y, .slice A l.length cc, .int .i64 g, .int .i64 t, .int .i64 sh, .int .i64 st, .int .i64 tt, .int .i64 n] 29)).alloc (.cells #[.int .i8 0, .int .i64 0, .int .i64 0, .int .i64 0, .bool false, .slice none 0 0, .int .i64 0, .int .i64 0, .int .i64 0, .int .i64 0, .int .i64 0, .int .i64 0] 29) := ⟨_, rfl⟩
  obtain ⟨w2, hw2⟩ : ∃ w2, w2 = w1.alloc (.cells #[.int .i8 1, .int .i64 0, .int .i64 0, .int .i64 0, .bool false, .slice none 0 0, .int .i64 0, .int .i64 0, .int .i64 0, .int .i64 0, .int .i64 0, .int .i64 0] 29) := ⟨_, rfl⟩
  have hz1 : w1.heap.size = w.heap.size + 2 := by rw [hw1]; simp
  have hz2 : w2.heap.size = w.heap.size + 3 := by rw [hw2]; simp [hz1]
  have g0 : w1.heap[w.heap.size]? = some (.cells #[.int .i8 1, .int .i64 a, .int .i64 b, .int .i64 c, .bool y, .slice A l.length cc, .int .i64 g, .int .i64 t, .int .i64 sh, .int .i64 st, .int .i64 tt, .int .i64 n] 29 (0, 0)) := by rw [hw1]; exact (Below.heap_alloc _ _ _ (by simp)).trans (heap_alloc_new w _)
  have g1 : w1.heap[w.heap.size + 1]? = some (.cells #[.int .i8 0, .int .i64 0, .int .i64 0, .int .i64 0, .bool false, .slice none 0 0, .int .i64 0, .int .i64 0, .int .i64 0, .int .i64 0, .int .i64 0, .int .i64 0] 29 (0, 0)) := by
    rw [hw1]
    have h := heap_alloc_new (w.alloc (.cells #[.int .i8 1, .int .i64 a, .int .i64 b, .int .i64 c, .bool y, .slice A l.length cc, .int .i64 g, .int .i64 t, .int .i64 sh, .int .i64 st, .int .i64 tt, .int .i64 n] 29)) (.cells #[.int .i8 0, .int .i64 0, .int .i64 0, .int .i64 0, .bool false, .slice none 0 0, .int .i64 0, .int .i64 0, .int .i64 0, .int .i64 0, .int .i64 0, .int .i64 0] 29)
    rwa [World.size_alloc] at h
  have hc0 : w1.cell? ⟨w.heap.size, 0, none⟩ = some (.int .i8 1) := by rw [cell_of_row w1 _ 0 _ _ _ g0]; rfl
  have r2 : w2.heap[w1.heap.size]? = some (.cells #[.int .i8 1, .int .i64 0, .int .i64 0, .int .i64 0, .bool false, .slice none 0 0, .int .i64 0, .int .i64 0, .int .i64 0, .int .i64 0, .int .i64 0, .int .i64 0] 29 (0, 0)) := by rw [hw2]; exact heap_alloc_new w1 _
  have HS2 := Lib.hid (show w2.heap[w.heap.size]? = some (.cells #[.int .i8 1, .int .i64 a, .int .i64 b, .int .i64 c, .bool y, .slice A l.length cc, .int .i64 g, .int .i64 t, .int .i64 sh, .int .i64 st, .int .i64 tt, .int .i64 n] 29 (0, 0)) ∧ w2.heap[w.heap.size + 1]? = some (.cells #[.int .i8 0, .int .i64 0, .int .i64 0, .int .i64 0, .bool false, .slice none 0 0, .int .i64 0, .int .i64 0, .int .i64 0, .int .i64 0, .int .i64 0, .int .i64 0] 29 (0, 0)) from by rw [hw2]; exact ⟨(Below.heap_alloc _ _ _ (by omega)).trans g0, (Below.heap_alloc _ _ _ (by omega)).trans g1⟩)
  have HB2 := Lib.hid (show Below w.heap.size w w2 by rw [hw2, hw1]; exact (((Below.refl _ w).alloc (Nat.le_refl _) _).alloc (by simp) _).alloc (by simp; omega) _)
  have HW1 := Lib.hid hw1
  have HW2 := Lib.hid hw2
  have HZ := Lib.hid (And.intro hz1 hz2)
  have HS := HS2
  clear hw1 hw2 g0 g1 hz1 hz2
  have c0 : w2.cell? ⟨w.heap.size, 0, none⟩ = some (.int .i8 1) := by rw [cell_of_row w2 _ 0 _ _ _ HS.out.1]; rfl
  have c1 : w2.cell? ⟨w.heap.size, 1, none⟩ = some (.int .i64 a) := by rw [cell_of_row w2 _ 1 _ _ _ HS.out.1]; rfl
  have c2 : w2.cell? ⟨w.heap.size, 2, none⟩ = some (.int .i64 b) := by rw [cell_of_row w2 _ 2 _ _ _ HS.out.1]; rfl
  have c3 : w2.cell? ⟨w.heap.size, 3, none⟩ = some (.int .i64 c) := by rw [cell_of_row w2 _ 3 _ _ _ HS.out.1]; rfl
  have c4 : w2.cell? ⟨w.heap.size, 4, none⟩ = some (.bool y) := by rw [cell_of_row w2 _ 4 _ _ _ HS.out.1]; rfl
  have c5 : w2.cell? ⟨w.heap.size, 5, none⟩ = some (.slice A l.length cc) := by rw [cell_of_row w2 _ 5 _ _ _ HS.out.1]; rfl
  have c6 : w2.cell? ⟨w.heap.size, 6, none⟩ = some (.int .i64 g) := by rw [cell_of_row w2 _ 6 _ _ _ HS.out.1]; rfl
  have c7 : w2.cell? ⟨w.heap.size, 7, none⟩ = some (.int .i64 t) := by rw [cell_of_row w2 _ 7 _ _ _ HS.out.1]; rfl
  have c8 : w2.cell? ⟨w.heap.size, 8, none⟩ = some (.int .i64 sh) := by rw [cell_of_row w2 _ 8 _ _ _ HS.out.1]; rfl
  have c9 : w2.cell? ⟨w.heap.size, 9, none⟩ = some (.int .i64 st) := by rw [cell_of_row w2 _ 9 _ _ _ HS.out.1]; rfl
  have c10 : w2.cell? ⟨w.heap.size, 10, none⟩ = some (.int .i64 tt) := by rw [cell_of_row w2 _ 10 _ _ _ HS.out.1]; rfl
  have c11 : w2.cell? ⟨w.heap.size, 11, none⟩ = some (.int .i64 n) := by rw [cell_of_row w2 _ 11 _ _ _ HS.out.1]; rfl
  go_enter Try.func32, Try.ntmps32
  go_wp2_with (first
    | (rw [← HW1.out])
    | (rw [← HW2.out])
    | (refine wpList_store_part rfl 24 (.tmp 13) (.tmp 12) rfl w1.heap.size 1 rfl [.int .i64 a, .int .i64 b, .int .i64 c] rfl 29 [.int .i8 1] [.int .i64 0, .int .i64 0, .int .i64 0] [.bool false, .slice none 0 0, .int .i64 0, .int .i64 0, .int .i64 0, .int .i64 0, .int .i64 0, .int .i64 0] r2 rfl rfl Try.sizeN (by simp [Value.oneCell']) ?_; obtain ⟨w3, hw3⟩ : ∃ w3, w3 = w2.setRow w1.heap.size #[.int .i8 1, .int .i64 a, .int .i64 b, .int .i64 c, .bool false, .slice none 0 0, .int .i64 0, .int .i64 0, .int .i64 0, .int .i64 0, .int .i64 0, .int .i64 0] := ⟨_, rfl⟩; have r3 : w3.heap[w1.heap.size]? = some (.cells #[.int .i8 1, .int .i64 a, .int .i64 b, .int .i64 c, .bool false, .slice none 0 0, .int .i64 0, .int .i64 0, .int .i64 0, .int .i64 0, .int .i64 0, .int .i64 0] 29 (0, 0)) := (by rw [hw3]; exact setRow_heap _ _ _ _ _ _ r2); have HS3 := Lib.hid (show w3.heap[w.heap.size]? = some (.cells #[.int .i8 1, .int .i64 a, .int .i64 b, .int .i64 c, .bool y, .slice A l.length cc, .int .i64 g, .int .i64 t, .int .i64 sh, .int .i64 st, .int .i64 tt, .int .i64 n] 29 (0, 0)) ∧ w3.heap[w.heap.size + 1]? = some (.cells #[.int .i8 0, .int .i64 0, .int .i64 0, .int .i64 0, .bool false, .slice none 0 0, .int .i64 0, .int .i64 0, .int .i64 0, .int .i64 0, .int .i64 0, .int .i64 0] 29 (0, 0)) from (by rw [hw3]; exact ⟨(setRow_other _ _ _ _ (by have := HZ.out; omega)).trans HS2.out.1, (setRow_other _ _ _ _ (by have := HZ.out; omega)).trans HS2.out.2⟩)); have HB3 := Lib.hid (show Below w.heap.size w w3 from (by rw [hw3]; exact below_setRow HB2.out (by have := HZ.out; omega) _)); change wpList _ _ _ _ _ (w2.setRow w1.heap.size #[.int .i8 1, .int .i64 a, .int .i64 b, .int .i64 c, .bool false, .slice none 0 0, .int .i64 0, .int .i64 0, .int .i64 0, .int .i64 0, .int .i64 0, .int .i64 0]); rw [← hw3]; clear hw3; have c0 : w3.cell? ⟨w.heap.size, 0, none⟩ = some (.int .i8 1) := (by rw [cell_of_row w3 _ 0 _ _ _ HS3.out.1]; rfl); have c1 : w3.cell? ⟨w.heap.size, 1, none⟩ = some (.int .i64 a) := (by rw [cell_of_row w3 _ 1 _ _ _ HS3.out.1]; rfl); have c2 : w3.cell? ⟨w.heap.size, 2, none⟩ = some (.int .i64 b) := (by rw [cell_of_row w3 _ 2 _ _ _ HS3.out.1]; rfl); have c3 : w3.cell? ⟨w.heap.size, 3, none⟩ = some (.int .i64 c) := (by rw [cell_of_row w3 _ 3 _ _ _ HS3.out.1]; rfl); have c4 : w3.cell? ⟨w.heap.size, 4, none⟩ = some (.bool y) := (by rw [cell_of_row w3 _ 4 _ _ _ HS3.out.1]; rfl); have c5 : w3.cell? ⟨w.heap.size, 5, none⟩ = some (.slice A l.length cc) := (by rw [cell_of_row w3 _ 5 _ _ _ HS3.out.1]; rfl); have c6 : w3.cell? ⟨w.heap.size, 6, none⟩ = some (.int .i64 g) := (by rw [cell_of_row w3 _ 6 _ _ _ HS3.out.1]; rfl); have c7 : w3.cell? ⟨w.heap.size, 7, none⟩ = some (.int .i64 t) := (by rw [cell_of_row w3 _ 7 _ _ _ HS3.out.1]; rfl); have c8 : w3.cell? ⟨w.heap.size, 8, none⟩ = some (.int .i64 sh) := (by rw [cell_of_row w3 _ 8 _ _ _ HS3.out.1]; rfl); have c9 : w3.cell? ⟨w.heap.size, 9, none⟩ = some (.int .i64 st) := (by rw [cell_of_row w3 _ 9 _ _ _ HS3.out.1]; rfl); have c10 : w3.cell? ⟨w.heap.size, 10, none⟩ = some (.int .i64 tt) := (by rw [cell_of_row w3 _ 10 _ _ _ HS3.out.1]; rfl); have c11 : w3.cell? ⟨w.heap.size, 11, none⟩ = some (.int .i64 n) := (by rw [cell_of_row w3 _ 11 _ _ _ HS3.out.1]; rfl))
    | (refine wpList_store_one rfl 25 (.tmp 16) (.tmp 15) rfl w1.heap.size 5 rfl (.slice A l.length cc) rfl 29 [.int .i8 1, .int .i64 a, .int .i64 b, .int .i64 c, .bool false] (.slice none 0 0) [.int .i64 0, .int .i64 0, .int .i64 0, .int .i64 0, .int .i64 0, .int .i64 0] r3 rfl Try.size1s rfl rfl ?_; obtain ⟨w4, hw4⟩ : ∃ w4, w4 = w3.setRow w1.heap.size #[.int .i8 1, .int .i64 a, .int .i64 b, .int .i64 c, .bool false, .slice A l.length cc, .int .i64 0, .int .i64 0, .int .i64 0, .int .i64 0, .int .i64 0, .int .i64 0] := ⟨_, rfl⟩; have r4 : w4.heap[w1.heap.size]? = some (.cells #[.int .i8 1, .int .i64 a, .int .i64 b, .int .i64 c, .bool false, .slice A l.length cc, .int .i64 0, .int .i64 0, .int .i64 0, .int .i64 0, .int .i64 0, .int .i64 0] 29 (0, 0)) := (by rw [hw4]; exact setRow_heap _ _ _ _ _ _ r3); have HS4 := Lib.hid (show w4.heap[w.heap.size]? = some (.cells #[.int .i8 1, .int .i64 a, .int .i64 b, .int .i64 c, .bool y, .slice A l.length cc, .int .i64 g, .int .i64 t, .int .i64 sh, .int .i64 st, .int .i64 tt, .int .i64 n] 29 (0, 0)) ∧ w4.heap[w.heap.size + 1]? = some (.cells #[.int .i8 0, .int .i64 0, .int .i64 0, .int .i64 0, .bool false, .slice none 0 0, .int .i64 0, .int .i64 0, .int .i64 0, .int .i64 0, .int .i64 0, .int .i64 0] 29 (0, 0)) from (by rw [hw4]; exact ⟨(setRow_other _ _ _ _ (by have := HZ.out; omega)).trans HS3.out.1, (setRow_other _ _ _ _ (by have := HZ.out; omega)).trans HS3.out.2⟩)); have HB4 := Lib.hid (show Below w.heap.size w w4 from (by rw [hw4]; exact below_setRow HB3.out (by have := HZ.out; omega) _)); change wpList _ _ _ _ _ (w3.setRow w1.heap.size #[.int .i8 1, .int .i64 a, .int .i64 b, .int .i64 c, .bool false, .slice A l.length cc, .int .i64 0, .int .i64 0, .int .i64 0, .int .i64 0, .int .i64 0, .int .i64 0]); rw [← hw4]; clear hw4; have c0 : w4.cell? ⟨w.heap.size, 0, none⟩ = some (.int .i8 1) := (by rw [cell_of_row w4 _ 0 _ _ _ HS4.out.1]; rfl); have c1 : w4.cell? ⟨w.heap.size, 1, none⟩ = some (.int .i64 a) := (by rw [cell_of_row w4 _ 1 _ _ _ HS4.out.1]; rfl); have c2 : w4.cell? ⟨w.heap.size, 2, none⟩ = some (.int .i64 b) := (by rw [cell_of_row w4 _ 2 _ _ _ HS4.out.1]; rfl); have c3 : w4.cell? ⟨w.heap.size, 3, none⟩ = some (.int .i64 c) := (by rw [cell_of_row w4 _ 3 _ _ _ HS4.out.1]; rfl); have c4 : w4.cell? ⟨w.heap.size, 4, none⟩ = some (.bool y) := (by rw [cell_of_row w4 _ 4 _ _ _ HS4.out.1]; rfl); have c5 : w4.cell? ⟨w.heap.size, 5, none⟩ = some (.slice A l.length cc) := (by rw [cell_of_row w4 _ 5 _ _ _ HS4.out.1]; rfl); have c6 : w4.cell? ⟨w.heap.size, 6, none⟩ = some (.int .i64 g) := (by rw [cell_of_row w4 _ 6 _ _ _ HS4.out.1]; rfl); have c7 : w4.cell? ⟨w.heap.size, 7, none⟩ = some (.int .i64 t) := (by rw [cell_of_row w4 _ 7 _ _ _ HS4.out.1]; rfl); have c8 : w4.cell? ⟨w.heap.size, 8, none⟩ = some (.int .i64 sh) := (by rw [cell_of_row w4 _ 8 _ _ _ HS4.out.1]; rfl); have c9 : w4.cell? ⟨w.heap.size, 9, none⟩ = some (.int .i64 st) := (by rw [cell_of_row w4 _ 9 _ _ _ HS4.out.1]; rfl); have c10 : w4.cell? ⟨w.heap.size, 10, none⟩ = some (.int .i64 tt) := (by rw [cell_of_row w4 _ 10 _ _ _ HS4.out.1]; rfl); have c11 : w4.cell? ⟨w.heap.size, 11, none⟩ = some (.int .i64 n) := (by rw [cell_of_row w4 _ 11 _ _ _ HS4.out.1]; rfl))
    | (refine wpList_load_part rfl 29 (.tmp 3) rfl w1.heap.size 0 rfl [.int .i8 1, .int .i64 a, .int .i64 b, .int .i64 c, .bool false, .slice A l.length cc, .int .i64 0, .int .i64 0, .int .i64 0, .int .i64 0, .int .i64 0, .int .i64 0] _ (row_lit r4) Try.underlying29 rfl Try.sizeR ?_)
    | (refine wpList_store_row rfl 29 (.tmp 2) (.tmp 61) rfl (w.heap.size + 1) #[.int .i8 1, .int .i64 a, .int .i64 b, .int .i64 c, .bool false, .slice A l.length cc, .int .i64 0, .int .i64 0, .int .i64 0, .int .i64 0, .int .i64 0, .int .i64 0] rfl rfl 29 #[.int .i8 0, .int .i64 0, .int .i64 0, .int .i64 0, .bool false, .slice none 0 0, .int .i64 0, .int .i64 0, .int .i64 0, .int .i64 0, .int .i64 0, .int .i64 0] HS4.out.2 (Try.info12 _ _ _ _ _ _ _ _ _ _ _ _ _ _) (size12 _ _ _ _ _ _ _ _ _ _ _ _ _ _ _ _ _ _ _ _ _ _ _ _ _ _ _ _) (one12 _ _ _ _ _ _ _ _ _ _ _ _ _ _) ?_))
  exact bodyPost_ret (results_cell_one (t := 29) (p := 2) rfl _ _ (w.heap.size + 1) #[.int .i8 1, .int .i64 a, .int .i64 b, .int .i64 c, .bool false, .slice A l.length cc, .int .i64 0, .int .i64 0, .int .i64 0, .int .i64 0, .int .i64 0, .int .i64 0] (0, 0) _ rfl (setRow_heap _ _ _ _ _ _ HS4.out.2) Try.underlying29 rfl (Try.info12 _ _ _ _ _ _ _ _ _ _ _ _ _ _)) rfl ⟨rfl, below_setRow HB4.out (by omega) _⟩
set_option maxHeartbeats 4000000 in
theorem fields2 (r : Rc) (A : Option Addr) (cc : Nat) (w : World) (hk : r.kind = 2) : Calls Try.prog 32 #[.agg (recv A cc r).toArray] w fun e w' => e = .returned (.agg (recv A cc (fieldsR r)).toArray) ∧ Below w.heap.size w w' := by
  obtain ⟨k, ⟨a, b, c⟩, y, l, g, t, sh, st, tt, n⟩ := r
  simp only at hk
  subst hk
  have HR := Lib.hid (show (recv A cc (fieldsR ⟨2, ⟨a, b, c⟩, y, l, g, t, sh, st, tt, n⟩)).toArray = #[.int .i8 2, .int .i64 a, .int .i64 b, .int .i64 c, .bool false, .slice A l.length cc, .int .i64 g, .int .i64 t, .int .i64 0, .int .i64 0, .int .i64 0, .int .i64 0] from rfl)
  rw [HR.out]
  unfold recv
  simp only
  obtain ⟨w1, hw1⟩ : ∃ w1, w1 = (w.alloc (.cells #[.int .i8 2, .int .i64 a, .int .i64 b, .int .i64 c, .bool y, .slice A l.length cc, .int .i64 g, .int .i64 t, .int .i64 sh, .int .i64 st, .int .i64 tt, .int .i64 n] 29)).alloc (.cells #[.int .i8 0, .int .i64 0, .int .i64 0, .int .i64 0, .bool false, .slice none 0 0, .int .i64 0, .int .i64 0, .int .i64 0, .int .i64 0, .int .i64 0, .int .i64 0] 29) := ⟨_, rfl⟩
  obtain ⟨w2, hw2⟩ : ∃ w2, w2 = w1.alloc (.cells #[.int .i8 2, .int .i64 0, .int .i64 0, .int .i64 0, .bool false, .slice none 0 0, .int .i64 0, .int .i64 0, .int .i64 0, .int .i64 0, .int .i64 0, .int .i64 0] 29) := ⟨_, rfl⟩
  have hz1 : w1.heap.size = w.heap.size + 2 := by rw [hw1]; simp
  have hz2 : w2.heap.size = w.heap.size + 3 := by rw [hw2]; simp [hz1]
  have g0 : w1.heap[w.heap.size]? = some (.cells #[.int .i8 2, .int .i64 a, .int .i64 b, .int .i64 c, .bool y, .slice A l.length cc, .int .i64 g, .int .i64 t, .int .i64 sh, .int .i64 st, .int .i64 tt, .int .i64 n] 29 (0, 0)) := by rw [hw1]; exact (Below.heap_alloc _ _ _ (by simp)).trans (heap_alloc_new w _)
  have g1 : w1.heap[w.heap.size + 1]? = some (.cells #[.int .i8 0, .int .i64 0, .int .i64 0, .int .i64 0, .bool false, .slice none 0 0, .int .i64 0, .int .i64 0, .int .i64 0, .int .i64 0, .int .i64 0, .int .i64 0] 29 (0, 0)) := by
    rw [hw1]
    have h := heap_alloc_new (w.alloc (.cells #[.int .i8 2, .int .i64 a, .int .i64 b, .int .i64 c, .bool y, .slice A l.length cc, .int .i64 g, .int .i64 t, .int .i64 sh, .int .i64 st, .int .i64 tt, .int .i64 n] 29)) (.cells #[.int .i8 0, .int .i64 0, .int .i64 0, .int .i64 0, .bool false, .slice none 0 0, .int .i64 0, .int .i64 0, .int .i64 0, .int .i64 0, .int .i64 0, .int .i64 0] 29)
    rwa [World.size_alloc] at h
  have hc0 : w1.cell? ⟨w.heap.size, 0, none⟩ = some (.int .i8 2) := by rw [cell_of_row w1 _ 0 _ _ _ g0]; rfl
  have r2 : w2.heap[w1.heap.size]? = some (.cells #[.int .i8 2, .int .i64 0, .int .i64 0, .int .i64 0, .bool false, .slice none 0 0, .int .i64 0, .int .i64 0, .int .i64 0, .int .i64 0, .int .i64 0, .int .i64 0] 29 (0, 0)) := by rw [hw2]; exact heap_alloc_new w1 _
  have HS2 := Lib.hid (show w2.heap[w.heap.size]? = some (.cells #[.int .i8 2, .int .i64 a, .int .i64 b, .int .i64 c, .bool y, .slice A l.length cc, .int .i64 g, .int .i64 t, .int .i64 sh, .int .i64 st, .int .i64 tt, .int .i64 n] 29 (0, 0)) ∧ w2.heap[w.heap.size + 1]? = some (.cells #[.int .i8 0, .int .i64 0, .int .i64 0, .int .i64 0, .bool false, .slice none 0 0, .int .i64 0, .int .i64 0, .int .i64 0, .int .i64 0, .int .i64 0, .int .i64 0] 29 (0, 0)) from by rw [hw2]; exact ⟨(Below.heap_alloc _ _ _ (by omega)).trans g0, (Below.heap_alloc _ _ _ (by omega)).trans g1⟩)
  have HB2 := Lib.hid (show Below w.heap.size w w2 by rw [hw2, hw1]; exact (((Below.refl _ w).alloc (Nat.le_refl _) _).alloc (by simp) _).alloc (by simp; omega) _)
  have HW1 := Lib.hid hw1
  have HW2 := Lib.hid hw2
  have HZ := Lib.hid (And.intro hz1 hz2)
  have HS := HS2
  clear hw1 hw2 g0 g1 hz1 hz2
  have c0 : w2.cell? ⟨w.heap.size, 0, none⟩ = some (.int .i8 2) := by rw [cell_of_row w2 _ 0 _ _ _ HS.out.1]; rfl
  have c1 : w2.cell? ⟨w.heap.size, 1, none⟩ = some (.int .i64 a) := by rw [cell_of_row w2 _ 1 _ _ _ HS.out.1]; rfl
  have c2 : w2.cell? ⟨w.heap.size, 2, none⟩ = some (.int .i64 b) := by rw [cell_of_row w2 _ 2 _ _ _ HS.out.1]; rfl
  have c3 : w2.cell? ⟨w.heap.size, 3, none⟩ = some (.int .i64 c) := by rw [cell_of_row w2 _ 3 _ _ _ HS.out.1]; rfl
  have c4 : w2.cell? ⟨w.heap.size, 4, none⟩ = some (.bool y) := by rw [cell_of_row w2 _ 4 _ _ _ HS.out.1]; rfl
  have c5 : w2.cell? ⟨w.heap.size, 5, none⟩ = some (.slice A l.length cc) := by rw [cell_of_row w2 _ 5 _ _ _ HS.out.1]; rfl
  have c6 : w2.cell? ⟨w.heap.size, 6, none⟩ = some (.int .i64 g) := by rw [cell_of_row w2 _ 6 _ _ _ HS.out.1]; rfl
  have c7 : w2.cell? ⟨w.heap.size, 7, none⟩ = some (.int .i64 t) := by rw [cell_of_row w2 _ 7 _ _ _ HS.out.1]; rfl
  have c8 : w2.cell? ⟨w.heap.size, 8, none⟩ = some (.int .i64 sh) := by rw [cell_of_row w2 _ 8 _ _ _ HS.out.1]; rfl
  have c9 : w2.cell? ⟨w.heap.size, 9, none⟩ = some (.int .i64 st) := by rw [cell_of_row w2 _ 9 _ _ _ HS.out.1]; rfl
  have c10 : w2.cell? ⟨w.heap.size, 10, none⟩ = some (.int .i64 tt) := by rw [cell_of_row w2 _ 10 _ _ _ HS.out.1]; rfl
  have c11 : w2.cell? ⟨w.heap.size, 11, none⟩ = some (.int .i64 n) := by rw [cell_of_row w2 _ 11 _ _ _ HS.out.1]; rfl
  go_enter Try.func32, Try.ntmps32
  go_wp2_with (first
    | (rw [← HW1.out])
    | (rw [← HW2.out])
    | (refine wpList_store_part rfl 24 (.tmp 21) (.tmp 20) rfl w1.heap.size 1 rfl [.int .i64 a, .int .i64 b, .int .i64 c] rfl 29 [.int .i8 2] [.int .i64 0, .int .i64 0, .int .i64 0] [.bool false, .slice none 0 0, .int .i64 0, .int .i64 0, .int .i64 0, .int .i64 0, .int .i64 0, .int .i64 0] r2 rfl rfl Try.sizeN (by simp [Value.oneCell']) ?_; obtain ⟨w3, hw3⟩ : ∃ w3, w3 = w2.setRow w1.heap.size #[.int .i8 2, .int .i64 a, .int .i64 b, .int .i64 c, .bool false, .slice none 0 0, .int .i64 0, .int .i64 0, .int .i64 0, .int .i64 0, .int .i64 0, .int .i64 0] := ⟨_, rfl⟩; have r3 : w3.heap[w1.heap.size]? = some (.cells #[.int .i8 2, .int .i64 a, .int .i64 b, .int .i64 c, .bool false, .slice none 0 0, .int .i64 0, .int .i64 0, .int .i64 0, .int .i64 0, .int .i64 0, .int .i64 0] 29 (0, 0)) := (by rw [hw3]; exact setRow_heap _ _ _ _ _ _ r2); have HS3 := Lib.hid (show w3.heap[w.heap.size]? = some (.cells #[.int .i8 2, .int .i64 a, .int .i64 b, .int .i64 c, .bool y, .slice A l.length cc, .int .i64 g, .int .i64 t, .int .i64 sh, .int .i64 st, .int .i64 tt, .int .i64 n] 29 (0, 0)) ∧ w3.heap[w.heap.size + 1]? = some (.cells #[.int .i8 0, .int .i64 0, .int .i64 0, .int .i64 0, .bool false, .slice none 0 0, .int .i64 0, .int .i64 0, .int .i64 0, .int .i64 0, .int .i64 0, .int .i64 0] 29 (0, 0)) from (by rw [hw3]; exact ⟨(setRow_other _ _ _ _ (by have := HZ.out; omega)).trans HS2.out.1, (setRow_other _ _ _ _ (by have := HZ.out; omega)).trans HS2.out.2⟩)); have HB3 := Lib.hid (show Below w.heap.size w w3 from (by rw [hw3]; exact below_setRow HB2.out (by have := HZ.out; omega) _)); change wpList _ _ _ _ _ (w2.setRow w1.heap.size #[.int .i8 2, .int .i64 a, .int .i64 b, .int .i64 c, .bool false, .slice none 0 0, .int .i64 0, .int .i64 0, .int .i64 0, .int .i64 0, .int .i64 0, .int .i64 0]); rw [← hw3]; clear hw3; have c0 : w3.cell? ⟨w.heap.size, 0, none⟩ = some (.int .i8 2) := (by rw [cell_of_row w3 _ 0 _ _ _ HS3.out.1]; rfl); have c1 : w3.cell? ⟨w.heap.size, 1, none⟩ = some (.int .i64 a) := (by rw [cell_of_row w3 _ 1 _ _ _ HS3.out.1]; rfl); have c2 : w3.cell? ⟨w.heap.size, 2, none⟩ = some (.int .i64 b) := (by rw [cell_of_row w3 _ 2 _ _ _ HS3.out.1]; rfl); have c3 : w3.cell? ⟨w.heap.size, 3, none⟩ = some (.int .i64 c) := (by rw [cell_of_row w3 _ 3 _ _ _ HS3.out.1]; rfl); have c4 : w3.cell? ⟨w.heap.size, 4, none⟩ = some (.bool y) := (by rw [cell_of_row w3 _ 4 _ _ _ HS3.out.1]; rfl); have c5 : w3.cell? ⟨w.heap.size, 5, none⟩ = some (.slice A l.length cc) := (by rw [cell_of_row w3 _ 5 _ _ _ HS3.out.1]; rfl); have c6 : w3.cell? ⟨w.heap.size, 6, none⟩ = some (.int .i64 g) := (by rw [cell_of_row w3 _ 6 _ _ _ HS3.out.1]; rfl); have c7 : w3.cell? ⟨w.heap.size, 7, none⟩ = some (.int .i64 t) := (by rw [cell_of_row w3 _ 7 _ _ _ HS3.out.1]; rfl); have c8 : w3.cell? ⟨w.heap.size, 8, none⟩ = some (.int .i64 sh) := (by rw [cell_of_row w3 _ 8 _ _ _ HS3.out.1]; rfl); have c9 : w3.cell? ⟨w.heap.size, 9, none⟩ = some (.int .i64 st) := (by rw [cell_of_row w3 _ 9 _ _ _ HS3.out.1]; rfl); have c10 : w3.cell? ⟨w.heap.size, 10, none⟩ = some (.int .i64 tt) := (by rw [cell_of_row w3 _ 10 _ _ _ HS3.out.1]; rfl); have c11 : w3.cell? ⟨w.heap.size, 11, none⟩ = some (.int .i64 n) := (by rw [cell_of_row w3 _ 11 _ _ _ HS3.out.1]; rfl))
    | (refine wpList_store_one rfl 25 (.tmp 24) (.tmp 23) rfl w1.heap.size 5 rfl (.slice A l.length cc) rfl 29 [.int .i8 2, .int .i64 a, .int .i64 b, .int .i64 c, .bool false] (.slice none 0 0) [.int .i64 0, .int .i64 0, .int .i64 0, .int .i64 0, .int .i64 0, .int .i64 0] r3 rfl Try.size1s rfl rfl ?_; obtain ⟨w4, hw4⟩ : ∃ w4, w4 = w3.setRow w1.heap.size #[.int .i8 2, .int .i64 a, .int .i64 b, .int .i64 c, .bool false, .slice A l.length cc, .int .i64 0, .int .i64 0, .int .i64 0, .int .i64 0, .int .i64 0, .int .i64 0] := ⟨_, rfl⟩; have r4 : w4.heap[w1.heap.size]? = some (.cells #[.int .i8 2, .int .i64 a, .int .i64 b, .int .i64 c, .bool false, .slice A l.length cc, .int .i64 0, .int .i64 0, .int .i64 0, .int .i64 0, .int .i64 0, .int .i64 0] 29 (0, 0)) := (by rw [hw4]; exact setRow_heap _ _ _ _ _ _ r3); have HS4 := Lib.hid (show w4.heap[w.heap.size]? = some (.cells #[.int .i8 2, .int .i64 a, .int .i64 b, .int .i64 c, .bool y, .slice A l.length cc, .int .i64 g, .int .i64 t, .int .i64 sh, .int .i64 st, .int .i64 tt, .int .i64 n] 29 (0, 0)) ∧ w4.heap[w.heap.size + 1]? = some (.cells #[.int .i8 0, .int .i64 0, .int .i64 0, .int .i64 0, .bool false, .slice none 0 0, .int .i64 0, .int .i64 0, .int .i64 0, .int .i64 0, .int .i64 0, .int .i64 0] 29 (0, 0)) from (by rw [hw4]; exact ⟨(setRow_other _ _ _ _ (by have := HZ.out; omega)).trans HS3.out.1, (setRow_other _ _ _ _ (by have := HZ.out; omega)).trans HS3.out.2⟩)); have HB4 := Lib.hid (show Below w.heap.size w w4 from (by rw [hw4]; exact below_setRow HB3.out (by have := HZ.out; omega) _)); change wpList _ _ _ _ _ (w3.setRow w1.heap.size #[.int .i8 2, .int .i64 a, .int .i64 b, .int .i64 c, .bool false, .slice A l.length cc, .int .i64 0, .int .i64 0, .int .i64 0, .int .i64 0, .int .i64 0, .int .i64 0]); rw [← hw4]; clear hw4; have c0 : w4.cell? ⟨w.heap.size, 0, none⟩ = some (.int .i8 2) := (by rw [cell_of_row w4 _ 0 _ _ _ HS4.out.1]; rfl); have c1 : w4.cell? ⟨w.heap.size, 1, none⟩ = some (.int .i64 a) := (by rw [cell_of_row w4 _ 1 _ _ _ HS4.out.1]; rfl); have c2 : w4.cell? ⟨w.heap.size, 2, none⟩ = some (.int .i64 b) := (by rw [cell_of_row w4 _ 2 _ _ _ HS4.out.1]; rfl); have c3 : w4.cell? ⟨w.heap.size, 3, none⟩ = some (.int .i64 c) := (by rw [cell_of_row w4 _ 3 _ _ _ HS4.out.1]; rfl); have c4 : w4.cell? ⟨w.heap.size, 4, none⟩ = some (.bool y) := (by rw [cell_of_row w4 _ 4 _ _ _ HS4.out.1]; rfl); have c5 : w4.cell? ⟨w.heap.size, 5, none⟩ = some (.slice A l.length cc) := (by rw [cell_of_row w4 _ 5 _ _ _ HS4.out.1]; rfl); have c6 : w4.cell? ⟨w.heap.size, 6, none⟩ = some (.int .i64 g) := (by rw [cell_of_row w4 _ 6 _ _ _ HS4.out.1]; rfl); have c7 : w4.cell? ⟨w.heap.size, 7, none⟩ = some (.int .i64 t) := (by rw [cell_of_row w4 _ 7 _ _ _ HS4.out.1]; rfl); have c8 : w4.cell? ⟨w.heap.size, 8, none⟩ = some (.int .i64 sh) := (by rw [cell_of_row w4 _ 8 _ _ _ HS4.out.1]; rfl); have c9 : w4.cell? ⟨w.heap.size, 9, none⟩ = some (.int .i64 st) := (by rw [cell_of_row w4 _ 9 _ _ _ HS4.out.1]; rfl); have c10 : w4.cell? ⟨w.heap.size, 10, none⟩ = some (.int .i64 tt) := (by rw [cell_of_row w4 _ 10 _ _ _ HS4.out.1]; rfl); have c11 : w4.cell? ⟨w.heap.size, 11, none⟩ = some (.int .i64 n) := (by rw [cell_of_row w4 _ 11 _ _ _ HS4.out.1]; rfl))
    | (refine wpList_store_one rfl 3 (.tmp 27) (.tmp 26) rfl w1.heap.size 6 rfl (.int .i64 g) rfl 29 [.int .i8 2, .int .i64 a, .int .i64 b, .int .i64 c, .bool false, .slice A l.length cc] (.int .i64 0) [.int .i64 0, .int .i64 0, .int .i64 0, .int .i64 0, .int .i64 0] r4 rfl Try.size1 rfl rfl ?_; obtain ⟨w5, hw5⟩ : ∃ w5, w5 = w4.setRow w1.heap.size #[.int .i8 2, .int .i64 a, .int .i64 b, .int .i64 c, .bool false, .slice A l.length cc, .int .i64 g, .int .i64 0, .int .i64 0, .int .i64 0, .int .i64 0, .int .i64 0] := ⟨_, rfl⟩; have r5 : w5.heap[w1.heap.size]? = some (.cells #[.int .i8 2, .int .i64 a, .int .i64 b, .int .i64 c, .bool false, .slice A l.length cc, .int .i64 g, .int .i64 0, .int .i64 0, .int .i64 0, .int .i64 0, .int .i64 0] 29 (0, 0)) := (by rw [hw5]; exact setRow_heap _ _ _ _ _ _ r4); have HS5 := Lib.hid (show w5.heap[w.heap.size]? = some (.cells #[.int .i8 2, .int .i64 a, .int .i64 b, .int .i64 c, .bool y, .slice A l.length cc, .int .i64 g, .int .i64 t, .int .i64 sh, .int .i64 st, .int .i64 tt, .int .i64 n] 29 (0, 0)) ∧ w5.heap[w.heap.size + 1]? = some (.cells #[.int .i8 0, .int .i64 0, .int .i64 0, .int .i64 0, .bool false, .slice none 0 0, .int .i64 0, .int .i64 0, .int .i64 0, .int .i64 0, .int .i64 0, .int .i64 0] 29 (0, 0)) from (by rw [hw5]; exact ⟨(setRow_other _ _ _ _ (by have := HZ.out; omega)).trans HS4.out.1, (setRow_other _ _ _ _ (by have := HZ.out; omega)).trans HS4.out.2⟩)); have HB5 := Lib.hid (show Below w.heap.size w w5 from (by rw [hw5]; exact below_setRow HB4.out (by have := HZ.out; omega) _)); change wpList _ _ _ _ _ (w4.setRow w1.heap.size #[.int .i8 2, .int .i64 a, .int .i64 b, .int .i64 c, .bool false, .slice A l.length cc, .int .i64 g, .int .i64 0, .int .i64 0, .int .i64 0, .int .i64 0, .int .i64 0]); rw [← hw5]; clear hw5; have c0 : w5.cell? ⟨w.heap.size, 0, none⟩ = some (.int .i8 2) := (by rw [cell_of_row w5 _ 0 _ _ _ HS5.out.1]; rfl); have c1 : w5.cell? ⟨w.heap.size, 1, none⟩ = some (.int .i64 a) := (by rw [cell_of_row w5 _ 1 _ _ _ HS5.out.1]; rfl); have c2 : w5.cell? ⟨w.heap.size, 2, none⟩ = some (.int .i64 b) := (by rw [cell_of_row w5 _ 2 _ _ _ HS5.out.1]; rfl); have c3 : w5.cell? ⟨w.heap.size, 3, none⟩ = some (.int .i64 c) := (by rw [cell_of_row w5 _ 3 _ _ _ HS5.out.1]; rfl); have c4 : w5.cell? ⟨w.heap.size, 4, none⟩ = some (.bool y) := (by rw [cell_of_row w5 _ 4 _ _ _ HS5.out.1]; rfl); have c5 : w5.cell? ⟨w.heap.size, 5, none⟩ = some (.slice A l.length cc) := (by rw [cell_of_row w5 _ 5 _ _ _ HS5.out.1]; rfl); have c6 : w5.cell? ⟨w.heap.size, 6, none⟩ = some (.int .i64 g) := (by rw [cell_of_row w5 _ 6 _ _ _ HS5.out.1]; rfl); have c7 : w5.cell? ⟨w.heap.size, 7, none⟩ = some (.int .i64 t) := (by rw [cell_of_row w5 _ 7 _ _ _ HS5.out.1]; rfl); have c8 : w5.cell? ⟨w.heap.size, 8, none⟩ = some (.int .i64 sh) := (by rw [cell_of_row w5 _ 8 _ _ _ HS5.out.1]; rfl); have c9 : w5.cell? ⟨w.heap.size, 9, none⟩ = some (.int .i64 st) := (by rw [cell_of_row w5 _ 9 _ _ _ HS5.out.1]; rfl); have c10 : w5.cell? ⟨w.heap.size, 10, none⟩ = some (.int .i64 tt) := (by rw [cell_of_row w5 _ 10 _ _ _ HS5.out.1]; rfl); have c11 : w5.cell? ⟨w.heap.size, 11, none⟩ = some (.int .i64 n) := (by rw [cell_of_row w5 _ 11 _ _ _ HS5.out.1]; rfl))
    | (refine wpList_store_one rfl 3 (.tmp 30) (.tmp 29) rfl w1.heap.size 7 rfl (.int .i64 t) rfl 29 [.int .i8 2, .int .i64 a, .int .i64 b, .int .i64 c, .bool false, .slice A l.length cc, .int .i64 g] (.int .i64 0) [.int .i64 0, .int .i64 0, .int .i64 0, .int .i64 0] r5 rfl Try.size1 rfl rfl ?_; obtain ⟨w6, hw6⟩ : ∃ w6, w6 = w5.setRow w1.heap.size #[.int .i8 2, .int .i64 a, .int .i64 b, .int .i64 c, .bool false, .slice A l.length cc, .int .i64 g, .int .i64 t, .int .i64 0, .int .i64 0, .int .i64 0, .int .i64 0] := ⟨_, rfl⟩; have r6 : w6.heap[w1.heap.size]? = some (.cells #[.int .i8 2, .int .i64 a, .int .i64 b, .int .i64 c, .bool false, .slice A l.length cc, .int .i64 g, .int .i64 t, .int .i64 0, .int .i64 0, .int .i64 0, .int .i64 0] 29 (0, 0)) := (by rw [hw6]; exact setRow_heap _ _ _ _ _ _ r5); have HS6 := Lib.hid (show w6.heap[w.heap.size]? = some (.cells #[.int .i8 2, .int .i64 a, .int .i64 b, .int .i64 c, .bool y, .slice A l.length cc, .int .i64 g, .int .i64 t, .int .i64 sh, .int .i64 st, .int .i64 tt, .int .i64 n] 29 (0, 0)) ∧ w6.heap[w.heap.size + 1]? = some (.cells #[.int .i8 0, .int .i64 0, .int .i64 0, .int .i64 0, .bool false, .slice none 0 0, .int .i64 0, .int .i64 0, .int .i64 0, .int .i64 0, .int .i64 0, .int .i64 0] 29 (0, 0)) from (by rw [hw6]; exact ⟨(setRow_other _ _ _ _ (by have := HZ.out; omega)).trans HS5.out.1, (setRow_other _ _ _ _ (by have := HZ.out; omega)).trans HS5.out.2⟩)); have HB6 := Lib.hid (show Below w.heap.size w w6 from (by rw [hw6]; exact below_setRow HB5.out (by have := HZ.out; omega) _)); change wpList _ _ _ _ _ (w5.setRow w1.heap.size #[.int .i8 2, .int .i64 a, .int .i64 b, .int .i64 c, .bool false, .slice A l.length cc, .int .i64 g, .int .i64 t, .int .i64 0, .int .i64 0, .int .i64 0, .int .i64 0]); rw [← hw6]; clear hw6; have c0 : w6.cell? ⟨w.heap.size, 0, none⟩ = some (.int .i8 2) := (by rw [cell_of_row w6 _ 0 _ _ _ HS6.out.1]; rfl); have c1 : w6.cell? ⟨w.heap.size, 1, none⟩ = some (.int .i64 a) := (by rw [cell_of_row w6 _ 1 _ _ _ HS6.out.1]; rfl); have c2 : w6.cell? ⟨w.heap.size, 2, none⟩ = some (.int .i64 b) := (by rw [cell_of_row w6 _ 2 _ _ _ HS6.out.1]; rfl); have c3 : w6.cell? ⟨w.heap.size, 3, none⟩ = some (.int .i64 c) := (by rw [cell_of_row w6 _ 3 _ _ _ HS6.out.1]; rfl); have c4 : w6.cell? ⟨w.heap.size, 4, none⟩ = some (.bool y) := (by rw [cell_of_row w6 _ 4 _ _ _ HS6.out.1]; rfl); have c5 : w6.cell? ⟨w.heap.size, 5, none⟩ = some (.slice A l.length cc) := (by rw [cell_of_row w6 _ 5 _ _ _ HS6.out.1]; rfl); have c6 : w6.cell? ⟨w.heap.size, 6, none⟩ = some (.int .i64 g) := (by rw [cell_of_row w6 _ 6 _ _ _ HS6.out.1]; rfl); have c7 : w6.cell? ⟨w.heap.size, 7, none⟩ = some (.int .i64 t) := (by rw [cell_of_row w6 _ 7 _ _ _ HS6.out.1]; rfl); have c8 : w6.cell? ⟨w.heap.size, 8, none⟩ = some (.int .i64 sh) := (by rw [cell_of_row w6 _ 8 _ _ _ HS6.out.1]; rfl); have c9 : w6.cell? ⟨w.heap.size, 9, none⟩ = some (.int .i64 st) := (by rw [cell_of_row w6 _ 9 _ _ _ HS6.out.1]; rfl); have c10 : w6.cell? ⟨w.heap.size, 10, none⟩ = some (.int .i64 tt) := (by rw [cell_of_row w6 _ 10 _ _ _ HS6.out.1]; rfl); have c11 : w6.cell? ⟨w.heap.size, 11, none⟩ = some (.int .i64 n) := (by rw [cell_of_row w6 _ 11 _ _ _ HS6.out.1]; rfl))
    | (refine wpList_load_part rfl 29 (.tmp 3) rfl w1.heap.size 0 rfl [.int .i8 2, .int .i64 a, .int .i64 b, .int .i64 c, .bool false, .slice A l.length cc, .int .i64 g, .int .i64 t, .int .i64 0, .int .i64 0, .int .i64 0, .int .i64 0] _ (row_lit r6) Try.underlying29 rfl Try.sizeR ?_)
    | (refine wpList_store_row rfl 29 (.tmp 2) (.tmp 61) rfl (w.heap.size + 1) #[.int .i8 2, .int .i64 a, .int .i64 b, .int .i64 c, .bool false, .slice A l.length cc, .int .i64 g, .int .i64 t, .int .i64 0, .int .i64 0, .int .i64 0, .int .i64 0] rfl rfl 29 #[.int .i8 0, .int .i64 0, .int .i64 0, .int .i64 0, .bool false, .slice none 0 0, .int .i64 0, .int .i64 0, .int .i64 0, .int .i64 0, .int .i64 0, .int .i64 0] HS6.out.2 (Try.info12 _ _ _ _ _ _ _ _ _ _ _ _ _ _) (size12 _ _ _ _ _ _ _ _ _ _ _ _ _ _ _ _ _ _ _ _ _ _ _ _ _ _ _ _) (one12 _ _ _ _ _ _ _ _ _ _ _ _ _ _) ?_))
  exact bodyPost_ret (results_cell_one (t := 29) (p := 2) rfl _ _ (w.heap.size + 1) #[.int .i8 2, .int .i64 a, .int .i64 b, .int .i64 c, .bool false, .slice A l.length cc, .int .i64 g, .int .i64 t, .int .i64 0, .int .i64 0, .int .i64 0, .int .i64 0] (0, 0) _ rfl (setRow_heap _ _ _ _ _ _ HS6.out.2) Try.underlying29 rfl (Try.info12 _ _ _ _ _ _ _ _ _ _ _ _ _ _)) rfl ⟨rfl, below_setRow HB6.out (by omega) _⟩
set_option maxHeartbeats 4000000 in
theorem fields3 (r : Rc) (A : Option Addr) (cc : Nat) (w : World) (hk : r.kind = 3) : Calls Try.prog 32 #[.agg (recv A cc r).toArray] w fun e w' => e = .returned (.agg (recv none 0 (fieldsR r)).toArray) ∧ Below w.heap.size w w' := by
  obtain ⟨k, ⟨a, b, c⟩, y, l, g, t, sh, st, tt, n⟩ := r
  simp only at hk
  subst hk
  have HR := Lib.hid (show (recv none 0 (fieldsR ⟨3, ⟨a, b, c⟩, y, l, g, t, sh, st, tt, n⟩)).toArray = #[.int .i8 3, .int .i64 a, .int .i64 b, .int .i64 c, .bool y, .slice none 0 0, .int .i64 0, .int .i64 0, .int .i64 0, .int .i64 0, .int .i64 0, .int .i64 0] from rfl)
  rw [HR.out]
  unfold recv
  simp only
  obtain ⟨w1, hw1⟩ : ∃ w1, w1 = (w.alloc (.cells #[.int .i8 3, .int .i64 a, .int .i64 b, .int .i64 c, .bool y, .slice A l.length cc, .int .i64 g, .int .i64 t, .int .i64 sh, .int .i64 st, .int .i64 tt, .int .i64 n] 29)).alloc (.cells #[.int .i8 0, .int .i64 0, .int .i64 0, .int .i64 0, .bool false, .slice none 0 0, .int .i64 0, .int .i64 0, .int .i64 0, .int .i64 0, .int .i64 0, .int .i64 0] 29) := ⟨_, rfl⟩
  obtain ⟨w2, hw2⟩ : ∃ w2, w2 = w1.alloc (.cells #[.int .i8 3, .int .i64 0, .int .i64 0, .int .i64 0, .bool false, .slice none 0 0, .int .i64 0, .int .i64 0, .int .i64 0, .int .i64 0, .int .i64 0, .int .i64 0] 29) := ⟨_, rfl⟩
  have hz1 : w1.heap.size = w.heap.size + 2 := by rw [hw1]; simp
  have hz2 : w2.heap.size = w.heap.size + 3 := by rw [hw2]; simp [hz1]
  have g0 : w1.heap[w.heap.size]? = some (.cells #[.int .i8 3, .int .i64 a, .int .i64 b, .int .i64 c, .bool y, .slice A l.length cc, .int .i64 g, .int .i64 t, .int .i64 sh, .int .i64 st, .int .i64 tt, .int .i64 n] 29 (0, 0)) := by rw [hw1]; exact (Below.heap_alloc _ _ _ (by simp)).trans (heap_alloc_new w _)
  have g1 : w1.heap[w.heap.size + 1]? = some (.cells #[.int .i8 0, .int .i64 0, .int .i64 0, .int .i64 0, .bool false, .slice none 0 0, .int .i64 0, .int .i64 0, .int .i64 0, .int .i64 0, .int .i64 0, .int .i64 0] 29 (0, 0)) := by
    rw [hw1]
    have h := heap_alloc_new (w.alloc (.cells #[.int .i8 3, .int .i64 a, .int .i64 b, .int .i64 c, .bool y, .slice A l.length cc, .int .i64 g, .int .i64 t, .int .i64 sh, .int .i64 st, .int .i64 tt, .int .i64 n] 29)) (.cells #[.int .i8 0, .int .i64 0, .int .i64 0, .int .i64 0, .bool false, .slice none 0 0, .int .i64 0, .int .i64 0, .int .i64 0, .int .i64 0, .int .i64 0, .int .i64 0] 29)
    rwa [World.size_alloc] at h
  have hc0 : w1.cell? ⟨w.heap.size, 0, none⟩ = some (.int .i8 3) := by rw [cell_of_row w1 _ 0 _ _ _ g0]; rfl
  have r2 : w2.heap[w1.heap.size]? = some (.cells #[.int .i8 3, .int .i64 0, .int .i64 0, .int .i64 0, .bool false, .slice none 0 0, .int .i64 0, .int .i64 0, .int .i64 0, .int .i64 0, .int .i64 0, .int .i64 0] 29 (0, 0)) := by rw [hw2]; exact heap_alloc_new w1 _
  have HS2 := Lib.hid (show w2.heap[w.heap.size]? = some (.cells #[.int .i8 3, .int .i64 a, .int .i64 b, .int .i64 c, .bool y, .slice A l.length cc, .int .i64 g, .int .i64 t, .int .i64 sh, .int .i64 st, .int .i64 tt, .int .i64 n] 29 (0, 0)) ∧ w2.heap[w.heap.size + 1]? = some (.cells #[.int .i8 0, .int .i64 0, .int .i64 0, .int .i64 0, .bool false, .slice none 0 0, .int .i64 0, .int .i64 0, .int .i64 0, .int .i64 0, .int .i64 0, .int .i64 0] 29 (0, 0)) from by rw [hw2]; exact ⟨(Below.heap_alloc _ _ _ (by omega)).trans g0, (Below.heap_alloc _ _ _ (by omega)).trans g1⟩)
  have HB2 := Lib.hid (show Below w.heap.size w w2 by rw [hw2, hw1]; exact (((Below.refl _ w).alloc (Nat.le_refl _) _).alloc (by simp) _).alloc (by simp; omega) _)
  have HW1 := Lib.hid hw1
  have HW2 := Lib.hid hw2
  have HZ := Lib.hid (And.intro hz1 hz2)
  have HS := HS2
  clear hw1 hw2 g0 g1 hz1 hz2
  have c0 : w2.cell? ⟨w.heap.size, 0, none⟩ = some (.int .i8 3) := by rw [cell_of_row w2 _ 0 _ _ _ HS.out.1]; rfl
  have c1 : w2.cell? ⟨w.heap.size, 1, none⟩ = some (.int .i64 a) := by rw [cell_of_row w2 _ 1 _ _ _ HS.out.1]; rfl
  have c2 : w2.cell? ⟨w.heap.size, 2, none⟩ = some (.int .i64 b) := by rw [cell_of_row w2 _ 2 _ _ _ HS.out.1]; rfl
  have c3 : w2.cell? ⟨w.heap.size, 3, none⟩ = some (.int .i64 c) := by rw [cell_of_row w2 _ 3 _ _ _ HS.out.1]; rfl
  have c4 : w2.cell? ⟨w.heap.size, 4, none⟩ = some (.bool y) := by rw [cell_of_row w2 _ 4 _ _ _ HS.out.1]; rfl
  have c5 : w2.cell? ⟨w.heap.size, 5, none⟩ = some (.slice A l.length cc) := by rw [cell_of_row w2 _ 5 _ _ _ HS.out.1]; rfl
  have c6 : w2.cell? ⟨w.heap.size, 6, none⟩ = some (.int .i64 g) := by rw [cell_of_row w2 _ 6 _ _ _ HS.out.1]; rfl
  have c7 : w2.cell? ⟨w.heap.size, 7, none⟩ = some (.int .i64 t) := by rw [cell_of_row w2 _ 7 _ _ _ HS.out.1]; rfl
  have c8 : w2.cell? ⟨w.heap.size, 8, none⟩ = some (.int .i64 sh) := by rw [cell_of_row w2 _ 8 _ _ _ HS.out.1]; rfl
  have c9 : w2.cell? ⟨w.heap.size, 9, none⟩ = some (.int .i64 st) := by rw [cell_of_row w2 _ 9 _ _ _ HS.out.1]; rfl
  have c10 : w2.cell? ⟨w.heap.size, 10, none⟩ = some (.int .i64 tt) := by rw [cell_of_row w2 _ 10 _ _ _ HS.out.1]; rfl
  have c11 : w2.cell? ⟨w.heap.size, 11, none⟩ = some (.int .i64 n) := by rw [cell_of_row w2 _ 11 _ _ _ HS.out.1]; rfl
  go_enter Try.func32, Try.ntmps32
  go_wp2_with (first
    | (rw [← HW1.out])
    | (rw [← HW2.out])
    | (refine wpList_store_part rfl 24 (.tmp 35) (.tmp 34) rfl w1.heap.size 1 rfl [.int .i64 a, .int .i64 b, .int .i64 c] rfl 29 [.int .i8 3] [.int .i64 0, .int .i64 0, .int .i64 0] [.bool false, .slice none 0 0, .int .i64 0, .int .i64 0, .int .i64 0, .int .i64 0, .int .i64 0, .int .i64 0] r2 rfl rfl Try.sizeN (by simp [Value.oneCell']) ?_; obtain ⟨w3, hw3⟩ : ∃ w3, w3 = w2.setRow w1.heap.size #[.int .i8 3, .int .i64 a, .int .i64 b, .int .i64 c, .bool false, .slice none 0 0, .int .i64 0, .int .i64 0, .int .i64 0, .int .i64 0, .int .i64 0, .int .i64 0] := ⟨_, rfl⟩; have r3 : w3.heap[w1.heap.size]? = some (.cells #[.int .i8 3, .int .i64 a, .int .i64 b, .int .i64 c, .bool false, .slice none 0 0, .int .i64 0, .int .i64 0, .int .i64 0, .int .i64 0, .int .i64 0, .int .i64 0] 29 (0, 0)) := (by rw [hw3]; exact setRow_heap _ _ _ _ _ _ r2); have HS3 := Lib.hid (show w3.heap[w.heap.size]? = some (.cells #[.int .i8 3, .int .i64 a, .int .i64 b, .int .i64 c, .bool y, .slice A l.length cc, .int .i64 g, .int .i64 t, .int .i64 sh, .int .i64 st, .int .i64 tt, .int .i64 n] 29 (0, 0)) ∧ w3.heap[w.heap.size + 1]? = some (.cells #[.int .i8 0, .int .i64 0, .int .i64 0, .int .i64 0, .bool false, .slice none 0 0, .int .i64 0, .int .i64 0, .int .i64 0, .int .i64 0, .int .i64 0, .int .i64 0] 29 (0, 0)) from (by rw [hw3]; exact ⟨(setRow_other _ _ _ _ (by have := HZ.out; omega)).trans HS2.out.1, (setRow_other _ _ _ _ (by have := HZ.out; omega)).trans HS2.out.2⟩)); have HB3 := Lib.hid (show Below w.heap.size w w3 from (by rw [hw3]; exact below_setRow HB2.out (by have := HZ.out; omega) _)); change wpList _ _ _ _ _ (w2.setRow w1.heap.size #[.int .i8 3, .int .i64 a, .int .i64 b, .int .i64 c, .bool false, .slice none 0 0, .int .i64 0, .int .i64 0, .int .i64 0, .int .i64 0, .int .i64 0, .int .i64 0]); rw [← hw3]; clear hw3; have c0 : w3.cell? ⟨w.heap.size, 0, none⟩ = some (.int .i8 3) := (by rw [cell_of_row w3 _ 0 _ _ _ HS3.out.1]; rfl); have c1 : w3.cell? ⟨w.heap.size, 1, none⟩ = some (.int .i64 a) := (by rw [cell_of_row w3 _ 1 _ _ _ HS3.out.1]; rfl); have c2 : w3.cell? ⟨w.heap.size, 2, none⟩ = some (.int .i64 b) := (by rw [cell_of_row w3 _ 2 _ _ _ HS3.out.1]; rfl); have c3 : w3.cell? ⟨w.heap.size, 3, none⟩ = some (.int .i64 c) := (by rw [cell_of_row w3 _ 3 _ _ _ HS3.out.1]; rfl); have c4 : w3.cell? ⟨w.heap.size, 4, none⟩ = some (.bool y) := (by rw [cell_of_row w3 _ 4 _ _ _ HS3.out.1]; rfl); have c5 : w3.cell? ⟨w.heap.size, 5, none⟩ = some (.slice A l.length cc) := (by rw [cell_of_row w3 _ 5 _ _ _ HS3.out.1]; rfl); have c6 : w3.cell? ⟨w.heap.size, 6, none⟩ = some (.int .i64 g) := (by rw [cell_of_row w3 _ 6 _ _ _ HS3.out.1]; rfl); have c7 : w3.cell? ⟨w.heap.size, 7, none⟩ = some (.int .i64 t) := (by rw [cell_of_row w3 _ 7 _ _ _ HS3.out.1]; rfl); have c8 : w3.cell? ⟨w.heap.size, 8, none⟩ = some (.int .i64 sh) := (by rw [cell_of_row w3 _ 8 _ _ _ HS3.out.1]; rfl); have c9 : w3.cell? ⟨w.heap.size, 9, none⟩ = some (.int .i64 st) := (by rw [cell_of_row w3 _ 9 _ _ _ HS3.out.1]; rfl); have c10 : w3.cell? ⟨w.heap.size, 10, none⟩ = some (.int .i64 tt) := (by rw [cell_of_row w3 _ 10 _ _ _ HS3.out.1]; rfl); have c11 : w3.cell? ⟨w.heap.size, 11, none⟩ = some (.int .i64 n) := (by rw [cell_of_row w3 _ 11 _ _ _ HS3.out.1]; rfl))
    | (refine wpList_store_one rfl 4 (.tmp 38) (.tmp 37) rfl w1.heap.size 4 rfl (.bool y) rfl 29 [.int .i8 3, .int .i64 a, .int .i64 b, .int .i64 c] (.bool false) [.slice none 0 0, .int .i64 0, .int .i64 0, .int .i64 0, .int .i64 0, .int .i64 0, .int .i64 0] r3 rfl Try.size1b rfl rfl ?_; obtain ⟨w4, hw4⟩ : ∃ w4, w4 = w3.setRow w1.heap.size #[.int .i8 3, .int .i64 a, .int .i64 b, .int .i64 c, .bool y, .slice none 0 0, .int .i64 0, .int .i64 0, .int .i64 0, .int .i64 0, .int .i64 0, .int .i64 0] := ⟨_, rfl⟩; have r4 : w4.heap[w1.heap.size]? = some (.cells #[.int .i8 3, .int .i64 a, .int .i64 b, .int .i64 c, .bool y, .slice none 0 0, .int .i64 0, .int .i64 0, .int .i64 0, .int .i64 0, .int .i64 0, .int .i64 0] 29 (0, 0)) := (by rw [hw4]; exact setRow_heap _ _ _ _ _ _ r3); have HS4 := Lib.hid (show w4.heap[w.heap.size]? = some (.cells #[.int .i8 3, .int .i64 a, .int .i64 b, .int .i64 c, .bool y, .slice A l.length cc, .int .i64 g, .int .i64 t, .int .i64 sh, .int .i64 st, .int .i64 tt, .int .i64 n] 29 (0, 0)) ∧ w4.heap[w.heap.size + 1]? = some (.cells #[.int .i8 0, .int .i64 0, .int .i64 0, .int .i64 0, .bool false, .slice none 0 0, .int .i64 0, .int .i64 0, .int .i64 0, .int .i64 0, .int .i64 0, .int .i64 0] 29 (0, 0)) from (by rw [hw4]; exact ⟨(setRow_other _ _ _ _ (by have := HZ.out; omega)).trans HS3.out.1, (setRow_other _ _ _ _ (by have := HZ.out; omega)).trans HS3.out.2⟩)); have HB4 := Lib.hid (show Below w.heap.size w w4 from (by rw [hw4]; exact below_setRow HB3.out (by have := HZ.out; omega) _)); change wpList _ _ _ _ _ (w3.setRow w1.heap.size #[.int .i8 3, .int .i64 a, .int .i64 b, .int .i64 c, .bool y, .slice none 0 0, .int .i64 0, .int .i64 0, .int .i64 0, .int .i64 0, .int .i64 0, .int .i64 0]); rw [← hw4]; clear hw4; have c0 : w4.cell? ⟨w.heap.size, 0, none⟩ = some (.int .i8 3) := (by rw [cell_of_row w4 _ 0 _ _ _ HS4.out.1]; rfl); have c1 : w4.cell? ⟨w.heap.size, 1, none⟩ = some (.int .i64 a) := (by rw [cell_of_row w4 _ 1 _ _ _ HS4.out.1]; rfl); have c2 : w4.cell? ⟨w.heap.size, 2, none⟩ = some (.int .i64 b) := (by rw [cell_of_row w4 _ 2 _ _ _ HS4.out.1]; rfl); have c3 : w4.cell? ⟨w.heap.size, 3, none⟩ = some (.int .i64 c) := (by rw [cell_of_row w4 _ 3 _ _ _ HS4.out.1]; rfl); have c4 : w4.cell? ⟨w.heap.size, 4, none⟩ = some (.bool y) := (by rw [cell_of_row w4 _ 4 _ _ _ HS4.out.1]; rfl); have c5 : w4.cell? ⟨w.heap.size, 5, none⟩ = some (.slice A l.length cc) := (by rw [cell_of_row w4 _ 5 _ _ _ HS4.out.1]; rfl); have c6 : w4.cell? ⟨w.heap.size, 6, none⟩ = some (.int .i64 g) := (by rw [cell_of_row w4 _ 6 _ _ _ HS4.out.1]; rfl); have c7 : w4.cell? ⟨w.heap.size, 7, none⟩ = some (.int .i64 t) := (by rw [cell_of_row w4 _ 7 _ _ _ HS4.out.1]; rfl); have c8 : w4.cell? ⟨w.heap.size, 8, none⟩ = some (.int .i64 sh) := (by rw [cell_of_row w4 _ 8 _ _ _ HS4.out.1]; rfl); have c9 : w4.cell? ⟨w.heap.size, 9, none⟩ = some (.int .i64 st) := (by rw [cell_of_row w4 _ 9 _ _ _ HS4.out.1]; rfl); have c10 : w4.cell? ⟨w.heap.size, 10, none⟩ = some (.int .i64 tt) := (by rw [cell_of_row w4 _ 10 _ _ _ HS4.out.1]; rfl); have c11 : w4.cell? ⟨w.heap.size, 11, none⟩ = some (.int .i64 n) := (by rw [cell_of_row w4 _ 11 _ _ _ HS4.out.1]; rfl))
    | (refine wpList_load_part rfl 29 (.tmp 3) rfl w1.heap.size 0 rfl [.int .i8 3, .int .i64 a, .int .i64 b, .int .i64 c, .bool y, .slice none 0 0, .int .i64 0, .int .i64 0, .int .i64 0, .int .i64 0, .int .i64 0, .int .i64 0] _ (row_lit r4) Try.underlying29 rfl Try.sizeR ?_)
    | (refine wpList_store_row rfl 29 (.tmp 2) (.tmp 61) rfl (w.heap.size + 1) #[.int .i8 3, .int .i64 a, .int .i64 b, .int .i64 c, .bool y, .slice none 0 0, .int .i64 0, .int .i64 0, .int .i64 0, .int .i64 0, .int .i64 0, .int .i64 0] rfl rfl 29 #[.int .i8 0, .int .i64 0, .int .i64 0, .int .i64 0, .bool false, .slice none 0 0, .int .i64 0, .int .i64 0, .int .i64 0, .int .i64 0, .int .i64 0, .int .i64 0] HS4.out.2 (Try.info12 _ _ _ _ _ _ _ _ _ _ _ _ _ _) (size12 _ _ _ _ _ _ _ _ _ _ _ _ _ _ _ _ _ _ _ _ _ _ _ _ _ _ _ _) (one12 _ _ _ _ _ _ _ _ _ _ _ _ _ _) ?_))
  exact bodyPost_ret (results_cell_one (t := 29) (p := 2) rfl _ _ (w.heap.size + 1) #[.int .i8 3, .int .i64 a, .int .i64 b, .int .i64 c, .bool y, .slice none 0 0, .int .i64 0, .int .i64 0, .int .i64 0, .int .i64 0, .int .i64 0, .int .i64 0] (0, 0) _ rfl (setRow_heap _ _ _ _ _ _ HS4.out.2) Try.underlying29 rfl (Try.info12 _ _ _ _ _ _ _ _ _ _ _ _ _ _)) rfl ⟨rfl, below_setRow HB4.out (by omega) _⟩
set_option maxHeartbeats 4000000 in
theorem fields4 (r : Rc) (A : Option Addr) (cc : Nat) (w : World) (hk : r.kind = 4) : Calls Try.prog 32 #[.agg (recv A cc r).toArray] w fun e w' => e = .returned (.agg (recv none 0 (fieldsR r)).toArray) ∧ Below w.heap.size w w' := by
  obtain ⟨k, ⟨a, b, c⟩, y, l, g, t, sh, st, tt, n⟩ := r
  simp only at hk
  subst hk
  have HR := Lib.hid (show (recv none 0 (fieldsR ⟨4, ⟨a, b, c⟩, y, l, g, t, sh, st, tt, n⟩)).toArray = #[.int .i8 4, .int .i64 a, .int .i64 b, .int .i64 c, .bool false, .slice none 0 0, .int .i64 0, .int .i64 0, .int .i64 sh, .int .i64 st, .int .i64 tt, .int .i64 0] from rfl)
  rw [HR.out]
  unfold recv
  simp only
  obtain ⟨w1, hw1⟩ : ∃ w1, w1 = (w.alloc (.cells #[.int .i8 4, .int .i64 a, .int .i64 b, .int .i64 c, .bool y, .slice A l.length cc, .int .i64 g, .int .i64 t, .int .i64 sh, .int .i64 st, .int .i64 tt, .int .i64 n] 29)).alloc (.cells #[.int .i8 0, .int .i64 0, .int .i64 0, .int .i64 0, .bool false, .slice none 0 0, .int .i64 0, .int .i64 0, .int .i64 0, .int .i64 0, .int .i64 0, .int .i64 0] 29) := ⟨_, rfl⟩
  obtain ⟨w2, hw2⟩ : ∃ w2, w2 = w1.alloc (.cells #[.int .i8 4, .int .i64 0, .int .i64 0, .int .i64 0, .bool false, .slice none 0 0, .int .i64 0, .int .i64 0, .int .i64 0, .int .i64 0, .int .i64 0, .int .i64 0] 29) := ⟨_, rfl⟩
  have hz1 : w1.heap.size = w.heap.size + 2 := by rw [hw1]; simp
  have hz2 : w2.heap.size = w.heap.size + 3 := by rw [hw2]; simp [hz1]
  have g0 : w1.heap[w.heap.size]? = some (.cells #[.int .i8 4, .int .i64 a, .int .i64 b, .int .i64 c, .bool y, .slice A l.length cc, .int .i64 g, .int .i64 t, .int .i64 sh, .int .i64 st, .int .i64 tt, .int .i64 n] 29 (0, 0)) := by rw [hw1]; exact (Below.heap_alloc _ _ _ (by simp)).trans (heap_alloc_new w _)
  have g1 : w1.heap[w.heap.size + 1]? = some (.cells #[.int .i8 0, .int .i64 0, .int .i64 0, .int .i64 0, .bool false, .slice none 0 0, .int .i64 0, .int .i64 0, .int .i64 0, .int .i64 0, .int .i64 0, .int .i64 0] 29 (0, 0)) := by
    rw [hw1]
    have h := heap_alloc_new (w.alloc (.cells #[.int .i8 4, .int .i64 a, .int .i64 b, .int .i64 c, .bool y, .slice A l.length cc, .int .i64 g, .int .i64 t, .int .i64 sh, .int .i64 st, .int .i64 tt, .int .i64 n] 29)) (.cells #[.int .i8 0, .int .i64 0, .int .i64 0, .int .i64 0, .bool false, .slice none 0 0, .int .i64 0, .int .i64 0, .int .i64 0, .int .i64 0, .int .i64 0, .int .i64 0] 29)
    rwa [World.size_alloc] at h
  have hc0 : w1.cell? ⟨w.heap.size, 0, none⟩ = some (.int .i8 4) := by rw [cell_of_row w1 _ 0 _ _ _ g0]; rfl
  have r2 : w2.heap[w1.heap.size]? = some (.cells #[.int .i8 4, .int .i64 0, .int .i64 0, .int .i64 0, .bool false, .slice none 0 0, .int .i64 0, .int .i64 0, .int .i64 0, .int .i64 0, .int .i64 0, .int .i64 0] 29 (0, 0)) := by rw [hw2]; exact heap_alloc_new w1 _
  have HS2 := Lib.hid (show w2.heap[w.heap.size]? = some (.cells #[.int .i8 4, .int .i64 a, .int .i64 b, .int .i64 c, .bool y, .slice A l.length cc, .int .i64 g, .int .i64 t, .int .i64 sh, .int .i64 st, .int .i64 tt, .int .i64 n] 29 (0, 0)) ∧ w2.heap[w.heap.size + 1]? = some (.cells #[.int .i8 0, .int .i64 0, .int .i64 0, .int .i64 0, .bool false, .slice none 0 0, .int .i64 0, .int .i64 0, .int .i64 0, .int .i64 0, .int .i64 0, .int .i64 0] 29 (0, 0)) from by rw [hw2]; exact ⟨(Below.heap_alloc _ _ _ (by omega)).trans g0, (Below.heap_alloc _ _ _ (by omega)).trans g1⟩)
  have HB2 := Lib.hid (show Below w.heap.size w w2 by rw [hw2, hw1]; exact (((Below.refl _ w).alloc (Nat.le_refl _) _).alloc (by simp) _).alloc (by simp; omega) _)
  have HW1 := Lib.hid hw1
  have HW2 := Lib.hid hw2
  have HZ := Lib.hid (And.intro hz1 hz2)
  have HS := HS2
  clear hw1 hw2 g0 g1 hz1 hz2
  have c0 : w2.cell? ⟨w.heap.size, 0, none⟩ = some (.int .i8 4) := by rw [cell_of_row w2 _ 0 _ _ _ HS.out.1]; rfl
  have c1 : w2.cell? ⟨w.heap.size, 1, none⟩ = some (.int .i64 a) := by rw [cell_of_row w2 _ 1 _ _ _ HS.out.1]; rfl
  have c2 : w2.cell? ⟨w.heap.size, 2, none⟩ = some (.int .i64 b) := by rw [cell_of_row w2 _ 2 _ _ _ HS.out.1]; rfl
  have c3 : w2.cell? ⟨w.heap.size, 3, none⟩ = some (.int .i64 c) := by rw [cell_of_row w2 _ 3 _ _ _ HS.out.1]; rfl
  have c4 : w2.cell? ⟨w.heap.size, 4, none⟩ = some (.bool y) := by rw [cell_of_row w2 _ 4 _ _ _ HS.out.1]; rfl
  have c5 : w2.cell? ⟨w.heap.size, 5, none⟩ = some (.slice A l.length cc) := by rw [cell_of_row w2 _ 5 _ _ _ HS.out.1]; rfl
  have c6 : w2.cell? ⟨w.heap.size, 6, none⟩ = some (.int .i64 g) := by rw [cell_of_row w2 _ 6 _ _ _ HS.out.1]; rfl
  have c7 : w2.cell? ⟨w.heap.size, 7, none⟩ = some (.int .i64 t) := by rw [cell_of_row w2 _ 7 _ _ _ HS.out.1]; rfl
  have c8 : w2.cell? ⟨w.heap.size, 8, none⟩ = some (.int .i64 sh) := by rw [cell_of_row w2 _ 8 _ _ _ HS.out.1]; rfl
  have c9 : w2.cell? ⟨w.heap.size, 9, none⟩ = some (.int .i64 st) := by rw [cell_of_row w2 _ 9 _ _ _ HS.out.1]; rfl
  have c10 : w2.cell? ⟨w.heap.size, 10, none⟩ = some (.int .i64 tt) := by rw [cell_of_row w2 _ 10 _ _ _ HS.out.1]; rfl
  have c11 : w2.cell? ⟨w.heap.size, 11, none⟩ = some (.int .i64 n) := by rw [cell_of_row w2 _ 11 _ _ _ HS.out.1]; rfl
  go_enter Try.func32, Try.ntmps32
  go_wp2_with (first
    | (rw [← HW1.out])
    | (rw [← HW2.out])
    | (refine wpList_store_part rfl 24 (.tmp 43) (.tmp 42) rfl w1.heap.size 1 rfl [.int .i64 a, .int .i64 b, .int .i64 c] rfl 29 [.int .i8 4] [.int .i64 0, .int .i64 0, .int .i64 0] [.bool false, .slice none 0 0, .int .i64 0, .int .i64 0, .int .i64 0, .int .i64 0, .int .i64 0, .int .i64 0] r2 rfl rfl Try.sizeN (by simp [Value.oneCell']) ?_; obtain ⟨w3, hw3⟩ : ∃ w3, w3 = w2.setRow w1.heap.size #[.int .i8 4, .int .i64 a, .int .i64 b, .int .i64 c, .bool false, .slice none 0 0, .int .i64 0, .int .i64 0, .int .i64 0, .int .i64 0, .int .i64 0, .int .i64 0] := ⟨_, rfl⟩; have r3 : w3.heap[w1.heap.size]? = some (.cells #[.int .i8 4, .int .i64 a, .int .i64 b, .int .i64 c, .bool false, .slice none 0 0, .int .i64 0, .int .i64 0, .int .i64 0, .int .i64 0, .int .i64 0, .int .i64 0] 29 (0, 0)) := (by rw [hw3]; exact setRow_heap _ _ _ _ _ _ r2); have HS3 := Lib.hid (show w3.heap[w.heap.size]? = some (.cells #[.int .i8 4, .int .i64 a, .int .i64 b, .int .i64 c, .bool y, .slice A l.length cc, .int .i64 g, .int .i64 t, .int .i64 sh, .int .i64 st, .int .i64 tt, .int .i64 n] 29 (0, 0)) ∧ w3.heap[w.heap.size + 1]? = some (.cells #[.int .i8 0, .int .i64 0, .int .i64 0, .int .i64 0, .bool false, .slice none 0 0, .int .i64 0, .int .i64 0, .int .i64 0, .int .i64 0, .int .i64 0, .int .i64 0] 29 (0, 0)) from (by rw [hw3]; exact ⟨(setRow_other _ _ _ _ (by have := HZ.out; omega)).trans HS2.out.1, (setRow_other _ _ _ _ (by have := HZ.out; omega)).trans HS2.out.2⟩)); have HB3 := Lib.hid (show Below w.heap.size w w3 from (by rw [hw3]; exact below_setRow HB2.out (by have := HZ.out; omega) _)); change wpList _ _ _ _ _ (w2.setRow w1.heap.size #[.int .i8 4, .int .i64 a, .int .i64 b, .int .i64 c, .bool false, .slice none 0 0, .int .i64 0, .int .i64 0, .int .i64 0, .int .i64 0, .int .i64 0, .int .i64 0]); rw [← hw3]; clear hw3; have c0 : w3.cell? ⟨w.heap.size, 0, none⟩ = some (.int .i8 4) := (by rw [cell_of_row w3 _ 0 _ _ _ HS3.out.1]; rfl); have c1 : w3.cell? ⟨w.heap.size, 1, none⟩ = some (.int .i64 a) := (by rw [cell_of_row w3 _ 1 _ _ _ HS3.out.1]; rfl); have c2 : w3.cell? ⟨w.heap.size, 2, none⟩ = some (.int .i64 b) := (by rw [cell_of_row w3 _ 2 _ _ _ HS3.out.1]; rfl); have c3 : w3.cell? ⟨w.heap.size, 3, none⟩ = some (.int .i64 c) := (by rw [cell_of_row w3 _ 3 _ _ _ HS3.out.1]; rfl); have c4 : w3.cell? ⟨w.heap.size, 4, none⟩ = some (.bool y) := (by rw [cell_of_row w3 _ 4 _ _ _ HS3.out.1]; rfl); have c5 : w3.cell? ⟨w.heap.size, 5, none⟩ = some (.slice A l.length cc) := (by rw [cell_of_row w3 _ 5 _ _ _ HS3.out.1]; rfl); have c6 : w3.cell? ⟨w.heap.size, 6, none⟩ = some (.int .i64 g) := (by rw [cell_of_row w3 _ 6 _ _ _ HS3.out.1]; rfl); have c7 : w3.cell? ⟨w.heap.size, 7, none⟩ = some (.int .i64 t) := (by rw [cell_of_row w3 _ 7 _ _ _ HS3.out.1]; rfl); have c8 : w3.cell? ⟨w.heap.size, 8, none⟩ = some (.int .i64 sh) := (by rw [cell_of_row w3 _ 8 _ _ _ HS3.out.1]; rfl); have c9 : w3.cell? ⟨w.heap.size, 9, none⟩ = some (.int .i64 st) := (by rw [cell_of_row w3 _ 9 _ _ _ HS3.out.1]; rfl); have c10 : w3.cell? ⟨w.heap.size, 10, none⟩ = some (.int .i64 tt) := (by rw [cell_of_row w3 _ 10 _ _ _ HS3.out.1]; rfl); have c11 : w3.cell? ⟨w.heap.size, 11, none⟩ = some (.int .i64 n) := (by rw [cell_of_row w3 _ 11 _ _ _ HS3.out.1]; rfl))
    | (refine wpList_store_one rfl 3 (.tmp 46) (.tmp 45) rfl w1.heap.size 8 rfl (.int .i64 sh) rfl 29 [.int .i8 4, .int .i64 a, .int .i64 b, .int .i64 c, .bool false, .slice none 0 0, .int .i64 0, .int .i64 0] (.int .i64 0) [.int .i64 0, .int .i64 0, .int .i64 0] r3 rfl Try.size1 rfl rfl ?_; obtain ⟨w4, hw4⟩ : ∃ w4, w4 = w3.setRow w1.heap.size #[.int .i8 4, .int .i64 a, .int .i64 b, .int .i64 c, .bool false, .slice none 0 0, .int .i64 0, .int .i64 0, .int .i64 sh, .int .i64 0, .int .i64 0, .int .i64 0] := ⟨_, rfl⟩; have r4 : w4.heap[w1.heap.size]? = some (.cells #[.int .i8 4, .int .i64 a, .int .i64 b, .int .i64 c, .bool false, .slice none 0 0, .int .i64 0, .int .i64 0, .int .i64 sh, .int .i64 0, .int .i64 0, .int .i64 0] 29 (0, 0)) := (by rw [hw4]; exact setRow_heap _ _ _ _ _ _ r3); have HS4 := Lib.hid (show w4.heap[w.heap.size]? = some (.cells #[.int .i8 4, .int .i64 a, .int .i64 b, .int .i64 c, .bool y, .slice A l.length cc, .int .i64 g, .int .i64 t, .int .i64 sh, .int .i64 st, .int .i64 tt, .int .i64 n] 29 (0, 0)) ∧ w4.heap[w.heap.size + 1]? = some (.cells #[.int .i8 0, .int .i64 0, .int .i64 0, .int .i64 0, .bool false, .slice none 0 0, .int .i64 0, .int .i64 0, .int .i64 0, .int .i64 0, .int .i64 0, .int .i64 0] 29 (0, 0)) from (by rw [hw4]; exact ⟨(setRow_other _ _ _ _ (by have := HZ.out; omega)).trans HS3.out.1, (setRow_other _ _ _ _ (by have := HZ.out; omega)).trans HS3.out.2⟩)); have HB4 := Lib.hid (show Below w.heap.size w w4 from (by rw [hw4]; exact below_setRow HB3.out (by have := HZ.out; omega) _)); change wpList _ _ _ _ _ (w3.setRow w1.heap.size #[.int .i8 4, .int .i64 a, .int .i64 b, .int .i64 c, .bool false, .slice none 0 0, .int .i64 0, .int .i64 0, .int .i64 sh, .int .i64 0, .int .i64 0, .int .i64 0]); rw [← hw4]; clear hw4; have c0 : w4.cell? ⟨w.heap.size, 0, none⟩ = some (.int .i8 4) := (by rw [cell_of_row w4 _ 0 _ _ _ HS4.out.1]; rfl); have c1 : w4.cell? ⟨w.heap.size, 1, none⟩ = some (.int .i64 a) := (by rw [cell_of_row w4 _ 1 _ _ _ HS4.out.1]; rfl); have c2 : w4.cell? ⟨w.heap.size, 2, none⟩ = some (.int .i64 b) := (by rw [cell_of_row w4 _ 2 _ _ _ HS4.out.1]; rfl); have c3 : w4.cell? ⟨w.heap.size, 3, none⟩ = some (.int .i64 c) := (by rw [cell_of_row w4 _ 3 _ _ _ HS4.out.1]; rfl); have c4 : w4.cell? ⟨w.heap.size, 4, none⟩ = some (.bool y) := (by rw [cell_of_row w4 _ 4 _ _ _ HS4.out.1]; rfl); have c5 : w4.cell? ⟨w.heap.size, 5, none⟩ = some (.slice A l.length cc) := (by rw [cell_of_row w4 _ 5 _ _ _ HS4.out.1]; rfl); have c6 : w4.cell? ⟨w.heap.size, 6, none⟩ = some (.int .i64 g) := (by rw [cell_of_row w4 _ 6 _ _ _ HS4.out.1]; rfl); have c7 : w4.cell? ⟨w.heap.size, 7, none⟩ = some (.int .i64 t) := (by rw [cell_of_row w4 _ 7 _ _ _ HS4.out.1]; rfl); have c8 : w4.cell? ⟨w.heap.size, 8, none⟩ = some (.int .i64 sh) := (by rw [cell_of_row w4 _ 8 _ _ _ HS4.out.1]; rfl); have c9 : w4.cell? ⟨w.heap.size, 9, none⟩ = some (.int .i64 st) := (by rw [cell_of_row w4 _ 9 _ _ _ HS4.out.1]; rfl); have c10 : w4.cell? ⟨w.heap.size, 10, none⟩ = some (.int .i64 tt) := (by rw [cell_of_row w4 _ 10 _ _ _ HS4.out.1]; rfl); have c11 : w4.cell? ⟨w.heap.size, 11, none⟩ = some (.int .i64 n) := (by rw [cell_of_row w4 _ 11 _ _ _ HS4.out.1]; rfl))
    | (refine wpList_store_part rfl 27 (.tmp 49) (.tmp 48) rfl w1.heap.size 9 rfl [.int .i64 st, .int .i64 tt] rfl 29 [.int .i8 4, .int .i64 a, .int .i64 b, .int .i64 c, .bool false, .slice none 0 0, .int .i64 0, .int .i64 0, .int .i64 sh] [.int .i64 0, .int .i64 0] [.int .i64 0] r4 rfl rfl Try.sizeC (by simp [Value.oneCell']) ?_; obtain ⟨w5, hw5⟩ : ∃ w5, w5 = w4.setRow w1.heap.size #[.int .i8 4, .int .i64 a, .int .i64 b, .int .i64 c, .bool false, .slice none 0 0, .int .i64 0, .int .i64 0, .int .i64 sh, .int .i64 st, .int .i64 tt, .int .i64 0] := ⟨_, rfl⟩; have r5 : w5.heap[w1.heap.size]? = some (.cells #[.int .i8 4, .int .i64 a, .int .i64 b, .int .i64 c, .bool false, .slice none 0 0, .int .i64 0, .int .i64 0, .int .i64 sh, .int .i64 st, .int .i64 tt, .int .i64 0] 29 (0, 0)) := (by rw [hw5]; exact setRow_heap _ _ _ _ _ _ r4); have HS5 := Lib.hid (show w5.heap[w.heap.size]? = some (.cells #[.int .i8 4, .int .i64 a, .int .i64 b, .int .i64 c, .bool y, .slice A l.length cc, .int .i64 g, .int .i64 t, .int .i64 sh, .int .i64 st, .int .i64 tt, .int .i64 n] 29 (0, 0)) ∧ w5.heap[w.heap.size + 1]? = some (.cells #[.int .i8 0, .int .i64 0, .int .i64 0, .int .i64 0, .bool false, .slice none 0 0, .int .i64 0, .int .i64 0, .int .i64 0, .int .i64 0, .int .i64 0, .int .i64 0] 29 (0, 0)) from (by rw [hw5]; exact ⟨(setRow_other _ _ _ _ (by have := HZ.out; omega)).trans HS4.out.1, (setRow_other _ _ _ _ (by have := HZ.out; omega)).trans HS4.out.2⟩)); have HB5 := Lib.hid (show Below w.heap.size w w5 from (by rw [hw5]; exact below_setRow HB4.out (by have := HZ.out; omega) _)); change wpList _ _ _ _ _ (w4.setRow w1.heap.size #[.int .i8 4, .int .i64 a, .int .i64 b, .int .i64 c, .bool false, .slice none 0 0, .int .i64 0, .int .i64 0, .int .i64 sh, .int .i64 st, .int .i64 tt, .int .i64 0]); rw [← hw5]; clear hw5; have c0 : w5.cell? ⟨w.heap.size, 0, none⟩ = some (.int .i8 4) := (by rw [cell_of_row w5 _ 0 _ _ _ HS5.out.1]; rfl); have c1 : w5.cell? ⟨w.heap.size, 1, none⟩ = some (.int .i64 a) := (by rw [cell_of_row w5 _ 1 _ _ _ HS5.out.1]; rfl); have c2 : w5.cell? ⟨w.heap.size, 2, none⟩ = some (.int .i64 b) := (by rw [cell_of_row w5 _ 2 _ _ _ HS5.out.1]; rfl); have c3 : w5.cell? ⟨w.heap.size, 3, none⟩ = some (.int .i64 c) := (by rw [cell_of_row w5 _ 3 _ _ _ HS5.out.1]; rfl); have c4 : w5.cell? ⟨w.heap.size, 4, none⟩ = some (.bool y) := (by rw [cell_of_row w5 _ 4 _ _ _ HS5.out.1]; rfl); have c5 : w5.cell? ⟨w.heap.size, 5, none⟩ = some (.slice A l.length cc) := (by rw [cell_of_row w5 _ 5 _ _ _ HS5.out.1]; rfl); have c6 : w5.cell? ⟨w.heap.size, 6, none⟩ = some (.int .i64 g) := (by rw [cell_of_row w5 _ 6 _ _ _ HS5.out.1]; rfl); have c7 : w5.cell? ⟨w.heap.size, 7, none⟩ = some (.int .i64 t) := (by rw [cell_of_row w5 _ 7 _ _ _ HS5.out.1]; rfl); have c8 : w5.cell? ⟨w.heap.size, 8, none⟩ = some (.int .i64 sh) := (by rw [cell_of_row w5 _ 8 _ _ _ HS5.out.1]; rfl); have c9 : w5.cell? ⟨w.heap.size, 9, none⟩ = some (.int .i64 st) := (by rw [cell_of_row w5 _ 9 _ _ _ HS5.out.1]; rfl); have c10 : w5.cell? ⟨w.heap.size, 10, none⟩ = some (.int .i64 tt) := (by rw [cell_of_row w5 _ 10 _ _ _ HS5.out.1]; rfl); have c11 : w5.cell? ⟨w.heap.size, 11, none⟩ = some (.int .i64 n) := (by rw [cell_of_row w5 _ 11 _ _ _ HS5.out.1]; rfl))
    | (refine wpList_load_part rfl 29 (.tmp 3) rfl w1.heap.size 0 rfl [.int .i8 4, .int .i64 a, .int .i64 b, .int .i64 c, .bool false, .slice none 0 0, .int .i64 0, .int .i64 0, .int .i64 sh, .int .i64 st, .int .i64 tt, .int .i64 0] _ (row_lit r5) Try.underlying29 rfl Try.sizeR ?_)
    | (refine wpList_store_row rfl 29 (.tmp 2) (.tmp 61) rfl (w.heap.size + 1) #[.int .i8 4, .int .i64 a, .int .i64 b, .int .i64 c, .bool false, .slice none 0 0, .int .i64 0, .int .i64 0, .int .i64 sh, .int .i64 st, .int .i64 tt, .int .i64 0] rfl rfl 29 #[.int .i8 0, .int .i64 0, .int .i64 0, .int .i64 0, .bool false, .slice none 0 0, .int .i64 0, .int .i64 0, .int .i64 0, .int .i64 0, .int .i64 0, .int .i64 0] HS5.out.2 (Try.info12 _ _ _ _ _ _ _ _ _ _ _ _ _ _) (size12 _ _ _ _ _ _ _ _ _ _ _ _ _ _ _ _ _ _ _ _ _ _ _ _ _ _ _ _) (one12 _ _ _ _ _ _ _ _ _ _ _ _ _ _) ?_))
  exact bodyPost_ret (results_cell_one (t := 29) (p := 2) rfl _ _ (w.heap.size + 1) #[.int .i8 4, .int .i64 a, .int .i64 b, .int .i64 c, .bool false, .slice none 0 0, .int .i64 0, .int .i64 0, .int .i64 sh, .int .i64 st, .int .i64 tt, .int .i64 0] (0, 0) _ rfl (setRow_heap _ _ _ _ _ _ HS5.out.2) Try.underlying29 rfl (Try.info12 _ _ _ _ _ _ _ _ _ _ _ _ _ _)) rfl ⟨rfl, below_setRow HB5.out (by omega) _⟩
set_option maxHeartbeats 4000000 in
theorem fields5 (r : Rc) (A : Option Addr) (cc : Nat) (w : World) (hk : r.kind = 5) : Calls Try.prog 32 #[.agg (recv A cc r).toArray] w fun e w' => e = .returned (.agg (recv none 0 (fieldsR r)).toArray) ∧ Below w.heap.size w w' := by
  obtain ⟨k, ⟨a, b, c⟩, y, l, g, t, sh, st, tt, n⟩ := r
  simp only at hk
  subst hk
  have HR := Lib.hid (show (recv none 0 (fieldsR ⟨5, ⟨a, b, c⟩, y, l, g, t, sh, st, tt, n⟩)).toArray = #[.int .i8 5, .int .i64 a, .int .i64 b, .int .i64 c, .bool false, .slice none 0 0, .int .i64 0, .int .i64 0, .int .i64 0, .int .i64 0, .int .i64 0, .int .i64 0] from rfl)
  rw [HR.out]
  unfold recv
  simp only
  obtain ⟨w1, hw1⟩ : ∃ w1, w1 = (w.alloc (.cells #[.int .i8 5, .int .i64 a, .int .i64 b, .int .i64 c, .bool y, .slice A l.length cc, .int .i64 g, .int .i64 t, .int .i64 sh, .int .i64 st, .int .i64 tt, .int .i64 n] 29)).alloc (.cells #[.int .i8 0, .int .i64 0, .int .i64 0, .int .i64 0, .bool false, .slice none 0 0, .int .i64 0, .int .i64 0, .int .i64 0, .int .i64 0, .int .i64 0, .int .i64 0] 29) := ⟨_, rfl⟩
  obtain ⟨w2, hw2⟩ : ∃ w2, w2 = w1.alloc (.cells #[.int .i8 5, .int .i64 0, .int .i64 0, .int .i64 0, .bool false, .slice none 0 0, .int .i64 0, .int .i64 0, .int .i64 0, .int .i64 0, .int .i64 0, .int .i64 0] 29) := ⟨_, rfl⟩
  have hz1 : w1.heap.size = w.heap.size + 2 := by rw [hw1]; simp
  have hz2 : w2.heap.size = w.heap.size + 3 := by rw [hw2]; simp [hz1]
  have g0 : w1.heap[w.heap.size]? = some (.cells #[.int .i8 5, .int .i64 a, .int .i64 b, .int .i64 c, .bool y, .slice A l.length cc, .int .i64 g, .int .i64 t, .int .i64 sh, .int .i64 st, .int .i64 tt, .int .i64 n] 29 (0, 0)) := by rw [hw1]; exact (Below.heap_alloc _ _ _ (by simp)).trans (heap_alloc_new w _)
  have g1 : w1.heap[w.heap.size + 1]? = some (.cells #[.int .i8 0, .int .i64 0, .int .i64 0, .int .i64 0, .bool false, .slice none 0 0, .int .i64 0, .int .i64 0, .int .i64 0, .int .i64 0, .int .i64 0, .int .i64 0] 29 (0, 0)) := by
    rw [hw1]
    have h := heap_alloc_new (w.alloc (.cells #[.int .i8 5, .int .i64 a, .int .i64 b, .int .i64 c, .bool y, .slice A l.length cc, .int .i64 g, .int .i64 t, .int .i64 sh, .int .i64 st, .int .i64 tt, .int .i64 n] 29)) (.cells #[.int .i8 0, .int .i64 0, .int .i64 0, .int .i64 0, .bool false, .slice none 0 0, .int .i64 0, .int .i64 0, .int .i64 0, .int .i64 0, .int .i64 0, .int .i64 0] 29)
    rwa [World.size_alloc] at h
  have hc0 : w1.cell? ⟨w.heap.size, 0, none⟩ = some (.int .i8 5) := by rw [cell_of_row w1 _ 0 _ _ _ g0]; rfl
  have r2 : w2.heap[w1.heap.size]? = some (.cells #[.int .i8 5, .int .i64 0, .int .i64 0, .int .i64 0, .bool false, .slice none 0 0, .int .i64 0, .int .i64 0, .int .i64 0, .int .i64 0, .int .i64 0, .int .i64 0] 29 (0, 0)) := by rw [hw2]; exact heap_alloc_new w1 _
  have HS2 := Lib.hid (show w2.heap[w.heap.size]? = some (.cells #[.int .i8 5, .int .i64 a, .int .i64 b, .int .i64 c, .bool y, .slice A l.length cc, .int .i64 g, .int .i64 t, .int .i64 sh, .int .i64 st, .int .i64 tt, .int .i64 n] 29 (0, 0)) ∧ w2.heap[w.heap.size + 1]? = some (.cells #[.int .i8 0, .int .i64 0, .int .i64 0, .int .i64 0, .bool false, .slice none 0 0, .int .i64 0, .int .i64 0, .int .i64 0, .int .i64 0, .int .i64 0, .int .i64 0] 29 (0, 0)) from by rw [hw2]; exact ⟨(Below.heap_alloc _ _ _ (by omega)).trans g0, (Below.heap_alloc _ _ _ (by omega)).trans g1⟩)
  have HB2 := Lib.hid (show Below w.heap.size w w2 by rw [hw2, hw1]; exact (((Below.refl _ w).alloc (Nat.le_refl _) _).alloc (by simp) _).alloc (by simp; omega) _)
  have HW1 := Lib.hid hw1
  have HW2 := Lib.hid hw2
  have HZ := Lib.hid (And.intro hz1 hz2)
  have HS := HS2
  clear hw1 hw2 g0 g1 hz1 hz2
  have c0 : w2.cell? ⟨w.heap.size, 0, none⟩ = some (.int .i8 5) := by rw [cell_of_row w2 _ 0 _ _ _ HS.out.1]; rfl
  have c1 : w2.cell? ⟨w.heap.size, 1, none⟩ = some (.int .i64 a) := by rw [cell_of_row w2 _ 1 _ _ _ HS.out.1]; rfl
  have c2 : w2.cell? ⟨w.heap.size, 2, none⟩ = some (.int .i64 b) := by rw [cell_of_row w2 _ 2 _ _ _ HS.out.1]; rfl
  have c3 : w2.cell? ⟨w.heap.size, 3, none⟩ = some (.int .i64 c) := by rw [cell_of_row w2 _ 3 _ _ _ HS.out.1]; rfl
  have c4 : w2.cell? ⟨w.heap.size, 4, none⟩ = some (.bool y) := by rw [cell_of_row w2 _ 4 _ _ _ HS.out.1]; rfl
  have c5 : w2.cell? ⟨w.heap.size, 5, none⟩ = some (.slice A l.length cc) := by rw [cell_of_row w2 _ 5 _ _ _ HS.out.1]; rfl
  have c6 : w2.cell? ⟨w.heap.size, 6, none⟩ = some (.int .i64 g) := by rw [cell_of_row w2 _ 6 _ _ _ HS.out.1]; rfl
  have c7 : w2.cell? ⟨w.heap.size, 7, none⟩ = some (.int .i64 t) := by rw [cell_of_row w2 _ 7 _ _ _ HS.out.1]; rfl
  have c8 : w2.cell? ⟨w.heap.size, 8, none⟩ = some (.int .i64 sh) := by rw [cell_of_row w2 _ 8 _ _ _ HS.out.1]; rfl
  have c9 : w2.cell? ⟨w.heap.size, 9, none⟩ = some (.int .i64 st) := by rw [cell_of_row w2 _ 9 _ _ _ HS.out.1]; rfl
  have c10 : w2.cell? ⟨w.heap.size, 10, none⟩ = some (.int .i64 tt) := by rw [cell_of_row w2 _ 10 _ _ _ HS.out.1]; rfl
  have c11 : w2.cell? ⟨w.heap.size, 11, none⟩ = some (.int .i64 n) := by rw [cell_of_row w2 _ 11 _ _ _ HS.out.1]; rfl
  go_enter Try.func32, Try.ntmps32
  go_wp2_with (first
    | (rw [← HW1.out])
    | (rw [← HW2.out])
    | (refine wpList_store_part rfl 24 (.tmp 54) (.tmp 53) rfl w1.heap.size 1 rfl [.int .i64 a, .int .i64 b, .int .i64 c] rfl 29 [.int .i8 5] [.int .i64 0, .int .i64 0, .int .i64 0] [.bool false, .slice none 0 0, .int .i64 0, .int .i64 0, .int .i64 0, .int .i64 0, .int .i64 0, .int .i64 0] r2 rfl rfl Try.sizeN (by simp [Value.oneCell']) ?_; obtain ⟨w3, hw3⟩ : ∃ w3, w3 = w2.setRow w1.heap.size #[.int .i8 5, .int .i64 a, .int .i64 b, .int .i64 c, .bool false, .slice none 0 0, .int .i64 0, .int .i64 0, .int .i64 0, .int .i64 0, .int .i64 0, .int .i64 0] := ⟨_, rfl⟩; have r3 : w3.heap[w1.heap.size]? = some (.cells #[.int .i8 5, .int .i64 a, .int .i64 b, .int .i64 c, .bool false, .slice none 0 0, .int .i64 0, .int .i64 0, .int .i64 0, .int .i64 0, .int .i64 0, .int .i64 0] 29 (0, 0)) := (by rw [hw3]; exact setRow_heap _ _ _ _ _ _ r2); have HS3 := Lib.hid (show w3.heap[w.heap.size]? = some (.cells #[.int .i8 5, .int .i64 a, .int .i64 b, .int .i64 c, .bool y, .slice A l.length cc, .int .i64 g, .int .i64 t, .int .i64 sh, .int .i64 st, .int .i64 tt, .int .i64 n] 29 (0, 0)) ∧ w3.heap[w.heap.size + 1]? = some (.cells #[.int .i8 0, .int .i64 0, .int .i64 0, .int .i64 0, .bool false, .slice none 0 0, .int .i64 0, .int .i64 0, .int .i64 0, .int .i64 0, .int .i64 0, .int .i64 0] 29 (0, 0)) from (by rw [hw3]; exact ⟨(setRow_other _ _ _ _ (by have := HZ.out; omega)).trans HS2.out.1, (setRow_other _ _ _ _ (by have := HZ.out; omega)).trans HS2.out.2⟩)); have HB3 := Lib.hid (show Below w.heap.size w w3 from (by rw [hw3]; exact below_setRow HB2.out (by have := HZ.out; omega) _)); change wpList _ _ _ _ _ (w2.setRow w1.heap.size #[.int .i8 5, .int .i64 a, .int .i64 b, .int .i64 c, .bool false, .slice none 0 0, .int .i64 0, .int .i64 0, .int .i64 0, .int .i64 0, .int .i64 0, .int .i64 0]); rw [← hw3]; clear hw3; have c0 : w3.cell? ⟨w.heap.size, 0, none⟩ = some (.int .i8 5) := (by rw [cell_of_row w3 _ 0 _ _ _ HS3.out.1]; rfl); have c1 : w3.cell? ⟨w.heap.size, 1, none⟩ = some (.int .i64 a) := (by rw [cell_of_row w3 _ 1 _ _ _ HS3.out.1]; rfl); have c2 : w3.cell? ⟨w.heap.size, 2, none⟩ = some (.int .i64 b) := (by rw [cell_of_row w3 _ 2 _ _ _ HS3.out.1]; rfl); have c3 : w3.cell? ⟨w.heap.size, 3, none⟩ = some (.int .i64 c) := (by rw [cell_of_row w3 _ 3 _ _ _ HS3.out.1]; rfl); have c4 : w3.cell? ⟨w.heap.size, 4, none⟩ = some (.bool y) := (by rw [cell_of_row w3 _ 4 _ _ _ HS3.out.1]; rfl); have c5 : w3.cell? ⟨w.heap.size, 5, none⟩ = some (.slice A l.length cc) := (by rw [cell_of_row w3 _ 5 _ _ _ HS3.out.1]; rfl); have c6 : w3.cell? ⟨w.heap.size, 6, none⟩ = some (.int .i64 g) := (by rw [cell_of_row w3 _ 6 _ _ _ HS3.out.1]; rfl); have c7 : w3.cell? ⟨w.heap.size, 7, none⟩ = some (.int .i64 t) := (by rw [cell_of_row w3 _ 7 _ _ _ HS3.out.1]; rfl); have c8 : w3.cell? ⟨w.heap.size, 8, none⟩ = some (.int .i64 sh) := (by rw [cell_of_row w3 _ 8 _ _ _ HS3.out.1]; rfl); have c9 : w3.cell? ⟨w.heap.size, 9, none⟩ = some (.int .i64 st) := (by rw [cell_of_row w3 _ 9 _ _ _ HS3.out.1]; rfl); have c10 : w3.cell? ⟨w.heap.size, 10, none⟩ = some (.int .i64 tt) := (by rw [cell_of_row w3 _ 10 _ _ _ HS3.out.1]; rfl); have c11 : w3.cell? ⟨w.heap.size, 11, none⟩ = some (.int .i64 n) := (by rw [cell_of_row w3 _ 11 _ _ _ HS3.out.1]; rfl))
    | (refine wpList_load_part rfl 29 (.tmp 3) rfl w1.heap.size 0 rfl [.int .i8 5, .int .i64 a, .int .i64 b, .int .i64 c, .bool false, .slice none 0 0, .int .i64 0, .int .i64 0, .int .i64 0, .int .i64 0, .int .i64 0, .int .i64 0] _ (row_lit r3) Try.underlying29 rfl Try.sizeR ?_)
    | (refine wpList_store_row rfl 29 (.tmp 2) (.tmp 61) rfl (w.heap.size + 1) #[.int .i8 5, .int .i64 a, .int .i64 b, .int .i64 c, .bool false, .slice none 0 0, .int .i64 0, .int .i64 0, .int .i64 0, .int .i64 0, .int .i64 0, .int .i64 0] rfl rfl 29 #[.int .i8 0, .int .i64 0, .int .i64 0, .int .i64 0, .bool false, .slice none 0 0, .int .i64 0, .int .i64 0, .int .i64 0, .int .i64 0, .int .i64 0, .int .i64 0] HS3.out.2 (Try.info12 _ _ _ _ _ _ _ _ _ _ _ _ _ _) (size12 _ _ _ _ _ _ _ _ _ _ _ _ _ _ _ _ _ _ _ _ _ _ _ _ _ _ _ _) (one12 _ _ _ _ _ _ _ _ _ _ _ _ _ _) ?_))
  exact bodyPost_ret (results_cell_one (t := 29) (p := 2) rfl _ _ (w.heap.size + 1) #[.int .i8 5, .int .i64 a, .int .i64 b, .int .i64 c, .bool false, .slice none 0 0, .int .i64 0, .int .i64 0, .int .i64 0, .int .i64 0, .int .i64 0, .int .i64 0] (0, 0) _ rfl (setRow_heap _ _ _ _ _ _ HS3.out.2) Try.underlying29 rfl (Try.info12 _ _ _ _ _ _ _ _ _ _ _ _ _ _)) rfl ⟨rfl, below_setRow HB3.out (by omega) _⟩
set_option maxHeartbeats 4000000 in
theorem fields6 (r : Rc) (A : Option Addr) (cc : Nat) (w : World) (hk : r.kind = 6) : Calls Try.prog 32 #[.agg (recv A cc r).toArray] w fun e w' => e = .returned (.agg (recv none 0 (fieldsR r)).toArray) ∧ Below w.heap.size w w' := by
  obtain ⟨k, ⟨a, b, c⟩, y, l, g, t, sh, st, tt, n⟩ := r
  simp only at hk
  subst hk
  have HR := Lib.hid (show (recv none 0 (fieldsR ⟨6, ⟨a, b, c⟩, y, l, g, t, sh, st, tt, n⟩)).toArray = #[.int .i8 6, .int .i64 0, .int .i64 0, .int .i64 0, .bool false, .slice none 0 0, .int .i64 0, .int .i64 0, .int .i64 0, .int .i64 0, .int .i64 0, .int .i64 n] from rfl)
  rw [HR.out]
  unfold recv
  simp only
  obtain ⟨w1, hw1⟩ : ∃ w1, w1 = (w.alloc (.cells #[.int .i8 6, .int .i64 a, .int .i64 b, .int .i64 c, .bool y, .slice A l.length cc, .int .i64 g, .int .i64 t, .int .i64 sh, .int .i64 st, .int .i64 tt, .int .i64 n] 29)).alloc (.cells #[.int .i8 0, .int .i64 0, .int .i64 0, .int .i64 0, .bool false, .slice none 0 0, .int .i64 0, .int .i64 0, .int .i64 0, .int .i64 0, .int .i64 0, .int .i64 0] 29) := ⟨_, rfl⟩
  obtain ⟨w2, hw2⟩ : ∃ w2, w2 = w1.alloc (.cells #[.int .i8 6, .int .i64 0, .int .i64 0, .int .i64 0, .bool false, .slice none 0 0, .int .i64 0, .int .i64 0, .int .i64 0, .int .i64 0, .int .i64 0, .int .i64 0] 29) := ⟨_, rfl⟩
  have hz1 : w1.heap.size = w.heap.size + 2 := by rw [hw1]; simp
  have hz2 : w2.heap.size = w.heap.size + 3 := by rw [hw2]; simp [hz1]
  have g0 : w1.heap[w.heap.size]? = some (.cells #[.int .i8 6, .int .i64 a, .int .i64 b, .int .i64 c, .bool y, .slice A l.length cc, .int .i64 g, .int .i64 t, .int .i64 sh, .int .i64 st, .int .i64 tt, .int .i64 n] 29 (0, 0)) := by rw [hw1]; exact (Below.heap_alloc _ _ _ (by simp)).trans (heap_alloc_new w _)
  have g1 : w1.heap[w.heap.size + 1]? = some (.cells #[.int .i8 0, .int .i64 0, .int .i64 0, .int .i64 0, .bool false, .slice none 0 0, .int .i64 0, .int .i64 0, .int .i64 0, .int .i64 0, .int .i64 0, .int .i64 0] 29 (0, 0)) := by
    rw [hw1]
    have h := heap_alloc_new (w.alloc (.cells #[.int .i8 6, .int .i64 a, .int .i64 b, .int .i64 c, .bool y, .slice A l.length cc, .int .i64 g, .int .i64 t, .int .i64 sh, .int .i64 st, .int .i64 tt, .int .i64 n] 29)) (.cells #[.int .i8 0, .int .i64 0, .int .i64 0, .int .i64 0, .bool false, .slice none 0 0, .int .i64 0, .int .i64 0, .int .i64 0, .int .i64 0, .int .i64 0, .int .i64 0] 29)
    rwa [World.size_alloc] at h
  have hc0 : w1.cell? ⟨w.heap.size, 0, none⟩ = some (.int .i8 6) := by rw [cell_of_row w1 _ 0 _ _ _ g0]; rfl
  have r2 : w2.heap[w1.heap.size]? = some (.cells #[.int .i8 6, .int .i64 0, .int .i64 0, .int .i64 0, .bool false, .slice none 0 0, .int .i64 0, .int .i64 0, .int .i64 0, .int .i64 0, .int .i64 0, .int .i64 0] 29 (0, 0)) := by rw [hw2]; exact heap_alloc_new w1 _
  have HS2 := Lib.hid (show w2.heap[w.heap.size]? = some (.cells #[.int .i8 6, .int .i64 a, .int .i64 b, .int .i64 c, .bool y, .slice A l.length cc, .int .i64 g, .int .i64 t, .int .i64 sh, .int .i64 st, .int .i64 tt, .int .i64 n] 29 (0, 0)) ∧ w2.heap[w.heap.size + 1]? = some (.cells #[.int .i8 0, .int .i64 0, .int .i64 0, .int .i64 0, .bool false, .slice none 0 0, .int .i64 0, .int .i64 0, .int .i64 0, .int .i64 0, .int .i64 0, .int .i64 0] 29 (0, 0)) from by rw [hw2]; exact ⟨(Below.heap_alloc _ _ _ (by omega)).trans g0, (Below.heap_alloc _ _ _ (by omega)).trans g1⟩)
  have HB2 := Lib.hid (show Below w.heap.size w w2 by rw [hw2, hw1]; exact (((Below.refl _ w).alloc (Nat.le_refl _) _).alloc (by simp) _).alloc (by simp; omega) _)
  have HW1 := Lib.hid hw1
  have HW2 := Lib.hid hw2
  have HZ := Lib.hid (And.intro hz1 hz2)
  have HS := HS2
  clear hw1 hw2 g0 g1 hz1 hz2
  have c0 : w2.cell? ⟨w.heap.size, 0, none⟩ = some (.int .i8 6) := by rw [cell_of_row w2 _ 0 _ _ _ HS.out.1]; rfl
  have c1 : w2.cell? ⟨w.heap.size, 1, none⟩ = some (.int .i64 a) := by rw [cell_of_row w2 _ 1 _ _ _ HS.out.1]; rfl
  have c2 : w2.cell? ⟨w.heap.size, 2, none⟩ = some (.int .i64 b) := by rw [cell_of_row w2 _ 2 _ _ _ HS.out.1]; rfl
  have c3 : w2.cell? ⟨w.heap.size, 3, none⟩ = some (.int .i64 c) := by rw [cell_of_row w2 _ 3 _ _ _ HS.out.1]; rfl
  have c4 : w2.cell? ⟨w.heap.size, 4, none⟩ = some (.bool y) := by rw [cell_of_row w2 _ 4 _ _ _ HS.out.1]; rfl
  have c5 : w2.cell? ⟨w.heap.size, 5, none⟩ = some (.slice A l.length cc) := by rw [cell_of_row w2 _ 5 _ _ _ HS.out.1]; rfl
  have c6 : w2.cell? ⟨w.heap.size, 6, none⟩ = some (.int .i64 g) := by rw [cell_of_row w2 _ 6 _ _ _ HS.out.1]; rfl
  have c7 : w2.cell? ⟨w.heap.size, 7, none⟩ = some (.int .i64 t) := by rw [cell_of_row w2 _ 7 _ _ _ HS.out.1]; rfl
  have c8 : w2.cell? ⟨w.heap.size, 8, none⟩ = some (.int .i64 sh) := by rw [cell_of_row w2 _ 8 _ _ _ HS.out.1]; rfl
  have c9 : w2.cell? ⟨w.heap.size, 9, none⟩ = some (.int .i64 st) := by rw [cell_of_row w2 _ 9 _ _ _ HS.out.1]; rfl
  have c10 : w2.cell? ⟨w.heap.size, 10, none⟩ = some (.int .i64 tt) := by rw [cell_of_row w2 _ 10 _ _ _ HS.out.1]; rfl
  have c11 : w2.cell? ⟨w.heap.size, 11, none⟩ = some (.int .i64 n) := by rw [cell_of_row w2 _ 11 _ _ _ HS.out.1]; rfl
  go_enter Try.func32, Try.ntmps32
  go_wp2_with (first
    | (rw [← HW1.out])
    | (rw [← HW2.out])
    | (refine wpList_store_one rfl 3 (.tmp 60) (.tmp 59) rfl w1.heap.size 11 rfl (.int .i64 n) rfl 29 [.int .i8 6, .int .i64 0, .int .i64 0, .int .i64 0, .bool false, .slice none 0 0, .int .i64 0, .int .i64 0, .int .i64 0, .int .i64 0, .int .i64 0] (.int .i64 0) [] r2 rfl Try.size1 rfl rfl ?_; obtain ⟨w3, hw3⟩ : ∃ w3, w3 = w2.setRow w1.heap.size #[.int .i8 6, .int .i64 0, .int .i64 0, .int .i64 0, .bool false, .slice none 0 0, .int .i64 0, .int .i64 0, .int .i64 0, .int .i64 0, .int .i64 0, .int .i64 n] := ⟨_, rfl⟩; have r3 : w3.heap[w1.heap.size]? = some (.cells #[.int .i8 6, .int .i64 0, .int .i64 0, .int .i64 0, .bool false, .slice none 0 0, .int .i64 0, .int .i64 0, .int .i64 0, .int .i64 0, .int .i64 0, .int .i64 n] 29 (0, 0)) := (by rw [hw3]; exact setRow_heap _ _ _ _ _ _ r2); have HS3 := Lib.hid (show w3.heap[w.heap.size]? = some (.cells #[.int .i8 6, .int .i64 a, .int .i64 b, .int .i64 c, .bool y, .slice A l.length cc, .int .i64 g, .int .i64 t, .int .i64 sh, .int .i64 st, .int .i64 tt, .int .i64 n] 29 (0, 0)) ∧ w3.heap[w.heap.size + 1]? = some (.cells #[.int .i8 0, .int .i64 0, .int .i64 0, .int .i64 0, .bool false, .slice none 0 0, .int .i64 0, .int .i64 0, .int .i64 0, .int .i64 0, .int .i64 0, .int .i64 0] 29 (0, 0)) from (by rw [hw3]; exact ⟨(setRow_other _ _ _ _ (by have := HZ.out; omega)).trans HS2.out.1, (setRow_other _ _ _ _ (by have := HZ.out; omega)).trans HS2.out.2⟩)); have HB3 := Lib.hid (show Below w.heap.size w w3 from (by rw [hw3]; exact below_setRow HB2.out (by have := HZ.out; omega) _)); change wpList _ _ _ _ _ (w2.setRow w1.heap.size #[.int .i8 6, .int .i64 0, .int .i64 0, .int .i64 0, .bool false, .slice none 0 0, .int .i64 0, .int .i64 0, .int .i64 0, .int .i64 0, .int .i64 0, .int .i64 n]); rw [← hw3]; clear hw3; have c0 : w3.cell? ⟨w.heap.size, 0, none⟩ = some (.int .i8 6) := (by rw [cell_of_row w3 _ 0 _ _ _ HS3.out.1]; rfl); have c1 : w3.cell? ⟨w.heap.size, 1, none⟩ = some (.int .i64 a) := (by rw [cell_of_row w3 _ 1 _ _ _ HS3.out.1]; rfl); have c2 : w3.cell? ⟨w.heap.size, 2, none⟩ = some (.int .i64 b) := (by rw [cell_of_row w3 _ 2 _ _ _ HS3.out.1]; rfl); have c3 : w3.cell? ⟨w.heap.size, 3, none⟩ = some (.int .i64 c) := (by rw [cell_of_row w3 _ 3 _ _ _ HS3.out.1]; rfl); have c4 : w3.cell? ⟨w.heap.size, 4, none⟩ = some (.bool y) := (by rw [cell_of_row w3 _ 4 _ _ _ HS3.out.1]; rfl); have c5 : w3.cell? ⟨w.heap.size, 5, none⟩ = some (.slice A l.length cc) := (by rw [cell_of_row w3 _ 5 _ _ _ HS3.out.1]; rfl); have c6 : w3.cell? ⟨w.heap.size, 6, none⟩ = some (.int .i64 g) := (by rw [cell_of_row w3 _ 6 _ _ _ HS3.out.1]; rfl); have c7 : w3.cell? ⟨w.heap.size, 7, none⟩ = some (.int .i64 t) := (by rw [cell_of_row w3 _ 7 _ _ _ HS3.out.1]; rfl); have c8 : w3.cell? ⟨w.heap.size, 8, none⟩ = some (.int .i64 sh) := (by rw [cell_of_row w3 _ 8 _ _ _ HS3.out.1]; rfl); have c9 : w3.cell? ⟨w.heap.size, 9, none⟩ = some (.int .i64 st) := (by rw [cell_of_row w3 _ 9 _ _ _ HS3.out.1]; rfl); have c10 : w3.cell? ⟨w.heap.size, 10, none⟩ = some (.int .i64 tt) := (by rw [cell_of_row w3 _ 10 _ _ _ HS3.out.1]; rfl); have c11 : w3.cell? ⟨w.heap.size, 11, none⟩ = some (.int .i64 n) := (by rw [cell_of_row w3 _ 11 _ _ _ HS3.out.1]; rfl))
    | (refine wpList_load_part rfl 29 (.tmp 3) rfl w1.heap.size 0 rfl [.int .i8 6, .int .i64 0, .int .i64 0, .int .i64 0, .bool false, .slice none 0 0, .int .i64 0, .int .i64 0, .int .i64 0, .int .i64 0, .int .i64 0, .int .i64 n] _ (row_lit r3) Try.underlying29 rfl Try.sizeR ?_)
    | (refine wpList_store_row rfl 29 (.tmp 2) (.tmp 61) rfl (w.heap.size + 1) #[.int .i8 6, .int .i64 0, .int .i64 0, .int .i64 0, .bool false, .slice none 0 0, .int .i64 0, .int .i64 0, .int .i64 0, .int .i64 0, .int .i64 0, .int .i64 n] rfl rfl 29 #[.int .i8 0, .int .i64 0, .int .i64 0, .int .i64 0, .bool false, .slice none 0 0, .int .i64 0, .int .i64 0, .int .i64 0, .int .i64 0, .int .i64 0, .int .i64 0] HS3.out.2 (Try.info12 _ _ _ _ _ _ _ _ _ _ _ _ _ _) (size12 _ _ _ _ _ _ _ _ _ _ _ _ _ _ _ _ _ _ _ _ _ _ _ _ _ _ _ _) (one12 _ _ _ _ _ _ _ _ _ _ _ _ _ _) ?_))
  exact bodyPost_ret (results_cell_one (t := 29) (p := 2) rfl _ _ (w.heap.size + 1) #[.int .i8 6, .int .i64 0, .int .i64 0, .int .i64 0, .bool false, .slice none 0 0, .int .i64 0, .int .i64 0, .int .i64 0, .int .i64 0, .int .i64 0, .int .i64 n] (0, 0) _ rfl (setRow_heap _ _ _ _ _ _ HS3.out.2) Try.underlying29 rfl (Try.info12 _ _ _ _ _ _ _ _ _ _ _ _ _ _)) rfl ⟨rfl, below_setRow HB3.out (by omega) _⟩
set_option maxHeartbeats 4000000 in
theorem fields7 (r : Rc) (A : Option Addr) (cc : Nat) (w : World) (hk : r.kind = 7) : Calls Try.prog 32 #[.agg (recv A cc r).toArray] w fun e w' => e = .returned (.agg (recv none 0 (fieldsR r)).toArray) ∧ Below w.heap.size w w' := by
  obtain ⟨k, ⟨a, b, c⟩, y, l, g, t, sh, st, tt, n⟩ := r
  simp only at hk
  subst hk
  have HR := Lib.hid (show (recv none 0 (fieldsR ⟨7, ⟨a, b, c⟩, y, l, g, t, sh, st, tt, n⟩)).toArray = #[.int .i8 7, .int .i64 0, .int .i64 0, .int .i64 0, .bool false, .slice none 0 0, .int .i64 0, .int .i64 0, .int .i64 0, .int .i64 0, .int .i64 0, .int .i64 n] from rfl)
  rw [HR.out]
  unfold recv
  simp only
  obtain ⟨w1, hw1⟩ : ∃ w1, w1 = (w.alloc (.cells #[.int .i8 7, .int .i64 a, .int .i64 b, .int .i64 c, .bool y, .slice A l.length cc, .int .i64 g, .int .i64 t, .int .i64 sh, .int .i64 st, .int .i64 tt, .int .i64 n] 29)).alloc (.cells #[.int .i8 0, .int .i64 0, .int .i64 0, .int .i64 0, .bool false, .slice none 0 0, .int .i64 0, .int .i64 0, .int .i64 0, .int .i64 0, .int .i64 0, .int .i64 0] 29) := ⟨_, rfl⟩
  obtain ⟨w2, hw2⟩ : ∃ w2, w2 = w1.alloc (.cells #[.int .i8 7, .int .i64 0, .int .i64 0, .int .i64 0, .bool false, .slice none 0 0, .int .i64 0, .int .i64 0, .int .i64 0, .int .i64 0, .int .i64 0, .int .i64 0] 29) := ⟨_, rfl⟩
  have hz1 : w1.heap.size = w.heap.size + 2 := by rw [hw1]; simp
  have hz2 : w2.heap.size = w.heap.size + 3 := by rw [hw2]; simp [hz1]
  have g0 : w1.heap[w.heap.size]? = some (.cells #[.int .i8 7, .int .i64 a, .int .i64 b, .int .i64 c, .bool y, .slice A l.length cc, .int .i64 g, .int .i64 t, .int .i64 sh, .int .i64 st, .int .i64 tt, .int .i64 n] 29 (0, 0)) := by rw [hw1]; exact (Below.heap_alloc _ _ _ (by simp)).trans (heap_alloc_new w _)
  have g1 : w1.heap[w.heap.size + 1]? = some (.cells #[.int .i8 0, .int .i64 0, .int .i64 0, .int .i64 0, .bool false, .slice none 0 0, .int .i64 0, .int .i64 0, .int .i64 0, .int .i64 0, .int .i64 0, .int .i64 0] 29 (0, 0)) := by
    rw [hw1]
    have h := heap_alloc_new (w.alloc (.cells #[.int .i8 7, .int .i64 a, .int .i64 b, .int .i64 c, .bool y, .slice A l.length cc, .int .i64 g, .int .i64 t, .int .i64 sh, .int .i64 st, .int .i64 tt, .int .i64 n] 29)) (.cells #[.int .i8 0, .int .i64 0, .int .i64 0, .int .i64 0, .bool false, .slice none 0 0, .int .i64 0, .int .i64 0, .int .i64 0, .int .i64 0, .int .i64 0, .int .i64 0] 29)
    rwa [World.size_alloc] at h
  have hc0 : w1.cell? ⟨w.heap.size, 0, none⟩ = some (.int .i8 7) := by rw [cell_of_row w1 _ 0 _ _ _ g0]; rfl
  have r2 : w2.heap[w1.heap.size]? = some (.cells #[.int .i8 7, .int .i64 0, .int .i64 0, .int .i64 0, .bool false, .slice none 0 0, .int .i64 0, .int .i64 0, .int .i64 0, .int .i64 0, .int .i64 0, .int .i64 0] 29 (0, 0)) := by rw [hw2]; exact heap_alloc_new w1 _
  have HS2 := Lib.hid (show w2.heap[w.heap.size]? = some (.cells #[.int .i8 7, .int .i64 a, .int .i64 b, .int .i64 c, .bool y, .slice A l.length cc, .int .i64 g, .int .i64 t, .int .i64 sh, .int .i64 st, .int .i64 tt, .int .i64 n] 29 (0, 0)) ∧ w2.heap[w.heap.size + 1]? = some (.cells #[.int .i8 0, .int .i64 0, .int .i64 0, .int .i64 0, .bool false, .slice none 0 0, .int .i64 0, .int .i64 0, .int .i64 0, .int .i64 0, .int .i64 0, .int .i64 0] 29 (0, 0)) from by rw [hw2]; exact ⟨(Below.heap_alloc _ _ _ (by omega)).trans g0, (Below.heap_alloc _ _ _ (by omega)).trans g1⟩)
  have HB2 := Lib.hid (show Below w.heap.size w w2 by rw [hw2, hw1]; exact (((Below.refl _ w).alloc (Nat.le_refl _) _).alloc (by simp) _).alloc (by simp; omega) _)
  have HW1 := Lib.hid hw1
  have HW2 := Lib.hid hw2
  have HZ := Lib.hid (And.intro hz1 hz2)
  have HS := HS2
  clear hw1 hw2 g0 g1 hz1 hz2
  have c0 : w2.cell? ⟨w.heap.size, 0, none⟩ = some (.int .i8 7) := by rw [cell_of_row w2 _ 0 _ _ _ HS.out.1]; rfl
  have c1 : w2.cell? ⟨w.heap.size, 1, none⟩ = some (.int .i64 a) := by rw [cell_of_row w2 _ 1 _ _ _ HS.out.1]; rfl
  have c2 : w2.cell? ⟨w.heap.size, 2, none⟩ = some (.int .i64 b) := by rw [cell_of_row w2 _ 2 _ _ _ HS.out.1]; rfl
  have c3 : w2.cell? ⟨w.heap.size, 3, none⟩ = some (.int .i64 c) := by rw [cell_of_row w2 _ 3 _ _ _ HS.out.1]; rfl
  have c4 : w2.cell? ⟨w.heap.size, 4, none⟩ = some (.bool y) := by rw [cell_of_row w2 _ 4 _ _ _ HS.out.1]; rfl
  have c5 : w2.cell? ⟨w.heap.size, 5, none⟩ = some (.slice A l.length cc) := by rw [cell_of_row w2 _ 5 _ _ _ HS.out.1]; rfl
  have c6 : w2.cell? ⟨w.heap.size, 6, none⟩ = some (.int .i64 g) := by rw [cell_of_row w2 _ 6 _ _ _ HS.out.1]; rfl
  have c7 : w2.cell? ⟨w.heap.size, 7, none⟩ = some (.int .i64 t) := by rw [cell_of_row w2 _ 7 _ _ _ HS.out.1]; rfl
  have c8 : w2.cell? ⟨w.heap.size, 8, none⟩ = some (.int .i64 sh) := by rw [cell_of_row w2 _ 8 _ _ _ HS.out.1]; rfl
  have c9 : w2.cell? ⟨w.heap.size, 9, none⟩ = some (.int .i64 st) := by rw [cell_of_row w2 _ 9 _ _ _ HS.out.1]; rfl
  have c10 : w2.cell? ⟨w.heap.size, 10, none⟩ = some (.int .i64 tt) := by rw [cell_of_row w2 _ 10 _ _ _ HS.out.1]; rfl
  have c11 : w2.cell? ⟨w.heap.size, 11, none⟩ = some (.int .i64 n) := by rw [cell_of_row w2 _ 11 _ _ _ HS.out.1]; rfl
  go_enter Try.func32, Try.ntmps32
  go_wp2_with (first
    | (rw [← HW1.out])
    | (rw [← HW2.out])
    | (refine wpList_store_one rfl 3 (.tmp 60) (.tmp 59) rfl w1.heap.size 11 rfl (.int .i64 n) rfl 29 [.int .i8 7, .int .i64 0, .int .i64 0, .int .i64 0, .bool false, .slice none 0 0, .int .i64 0, .int .i64 0, .int .i64 0, .int .i64 0, .int .i64 0] (.int .i64 0) [] r2 rfl Try.size1 rfl rfl ?_; obtain ⟨w3, hw3⟩ : ∃ w3, w3 = w2.setRow w1.heap.size #[.int .i8 7, .int .i64 0, .int .i64 0, .int .i64 0, .bool false, .slice none 0 0, .int .i64 0, .int .i64 0, .int .i64 0, .int .i64 0, .int .i64 0, .int .i64 n] := ⟨_, rfl⟩; have r3 : w3.heap[w1.heap.size]? = some (.cells #[.int .i8 7, .int .i64 0, .int .i64 0, .int .i64 0, .bool false, .slice none 0 0, .int .i64 0, .int .i64 0, .int .i64 0, .int .i64 0, .int .i64 0, .int .i64 n] 29 (0, 0)) := (by rw [hw3]; exact setRow_heap _ _ _ _ _ _ r2); have HS3 := Lib.hid (show w3.heap[w.heap.size]? = some (.cells #[.int .i8 7, .int .i64 a, .int .i64 b, .int .i64 c, .bool y, .slice A l.length cc, .int .i64 g, .int .i64 t, .int .i64 sh, .int .i64 st, .int .i64 tt, .int .i64 n] 29 (0, 0)) ∧ w3.heap[w.heap.size + 1]? = some (.cells #[.int .i8 0, .int .i64 0, .int .i64 0, .int .i64 0, .bool false, .slice none 0 0, .int .i64 0, .int .i64 0, .int .i64 0, .int .i64 0, .int .i64 0, .int .i64 0] 29 (0, 0)) from (by rw [hw3]; exact ⟨(setRow_other _ _ _ _ (by have := HZ.out; omega)).trans HS2.out.1, (setRow_other _ _ _ _ (by have := HZ.out; omega)).trans HS2.out.2⟩)); have HB3 := Lib.hid (show Below w.heap.size w w3 from (by rw [hw3]; exact below_setRow HB2.out (by have := HZ.out; omega) _)); change wpList _ _ _ _ _ (w2.setRow w1.heap.size #[.int .i8 7, .int .i64 0, .int .i64 0, .int .i64 0, .bool false, .slice none 0 0, .int .i64 0, .int .i64 0, .int .i64 0, .int .i64 0, .int .i64 0, .int .i64 n]); rw [← hw3]; clear hw3; have c0 : w3.cell? ⟨w.heap.size, 0, none⟩ = some (.int .i8 7) := (by rw [cell_of_row w3 _ 0 _ _ _ HS3.out.1]; rfl); have c1 : w3.cell? ⟨w.heap.size, 1, none⟩ = some (.int .i64 a) := (by rw [cell_of_row w3 _ 1 _ _ _ HS3.out.1]; rfl); have c2 : w3.cell? ⟨w.heap.size, 2, none⟩ = some (.int .i64 b) := (by rw [cell_of_row w3 _ 2 _ _ _ HS3.out.1]; rfl); have c3 : w3.cell? ⟨w.heap.size, 3, none⟩ = some (.int .i64 c) := (by rw [cell_of_row w3 _ 3 _ _ _ HS3.out.1]; rfl); have c4 : w3.cell? ⟨w.heap.size, 4, none⟩ = some (.bool y) := (by rw [cell_of_row w3 _ 4 _ _ _ HS3.out.1]; rfl); have c5 : w3.cell? ⟨w.heap.size, 5, none⟩ = some (.slice A l.length cc) := (by rw [cell_of_row w3 _ 5 _ _ _ HS3.out.1]; rfl); have c6 : w3.cell? ⟨w.heap.size, 6, none⟩ = some (.int .i64 g) := (by rw [cell_of_row w3 _ 6 _ _ _ HS3.out.1]; rfl); have c7 : w3.cell? ⟨w.heap.size, 7, none⟩ = some (.int .i64 t) := (by rw [cell_of_row w3 _ 7 _ _ _ HS3.out.1]; rfl); have c8 : w3.cell? ⟨w.heap.size, 8, none⟩ = some (.int .i64 sh) := (by rw [cell_of_row w3 _ 8 _ _ _ HS3.out.1]; rfl); have c9 : w3.cell? ⟨w.heap.size, 9, none⟩ = some (.int .i64 st) := (by rw [cell_of_row w3 _ 9 _ _ _ HS3.out.1]; rfl); have c10 : w3.cell? ⟨w.heap.size, 10, none⟩ = some (.int .i64 tt) := (by rw [cell_of_row w3 _ 10 _ _ _ HS3.out.1]; rfl); have c11 : w3.cell? ⟨w.heap.size, 11, none⟩ = some (.int .i64 n) := (by rw [cell_of_row w3 _ 11 _ _ _ HS3.out.1]; rfl))
    | (refine wpList_load_part rfl 29 (.tmp 3) rfl w1.heap.size 0 rfl [.int .i8 7, .int .i64 0, .int .i64 0, .int .i64 0, .bool false, .slice none 0 0, .int .i64 0, .int .i64 0, .int .i64 0, .int .i64 0, .int .i64 0, .int .i64 n] _ (row_lit r3) Try.underlying29 rfl Try.sizeR ?_)
    | (refine wpList_store_row rfl 29 (.tmp 2) (.tmp 61) rfl (w.heap.size + 1) #[.int .i8 7, .int .i64 0, .int .i64 0, .int .i64 0, .bool false, .slice none 0 0, .int .i64 0, .int .i64 0, .int .i64 0, .int .i64 0, .int .i64 0, .int .i64 n] rfl rfl 29 #[.int .i8 0, .int .i64 0, .int .i64 0, .int .i64 0, .bool false, .slice none 0 0, .int .i64 0, .int .i64 0, .int .i64 0, .int .i64 0, .int .i64 0, .int .i64 0] HS3.out.2 (Try.info12 _ _ _ _ _ _ _ _ _ _ _ _ _ _) (size12 _ _ _ _ _ _ _ _ _ _ _ _ _ _ _ _ _ _ _ _ _ _ _ _ _ _ _ _) (one12 _ _ _ _ _ _ _ _ _ _ _ _ _ _) ?_))
  exact bodyPost_ret (results_cell_one (t := 29) (p := 2) rfl _ _ (w.heap.size + 1) #[.int .i8 7, .int .i64 0, .int .i64 0, .int .i64 0, .bool false, .slice none 0 0, .int .i64 0, .int .i64 0, .int .i64 0, .int .i64 0, .int .i64 0, .int .i64 n] (0, 0) _ rfl (setRow_heap _ _ _ _ _ _ HS3.out.2) Try.underlying29 rfl (Try.info12 _ _ _ _ _ _ _ _ _ _ _ _ _ _)) rfl ⟨rfl, below_setRow HB3.out (by omega) _⟩
set_option maxHeartbeats 4000000 in
theorem fieldsNone (r : Rc) (A : Option Addr) (cc : Nat) (w : World) (hk : ¬ (1 ≤ r.kind ∧ r.kind ≤ 7)) : Calls Try.prog 32 #[.agg (recv A cc r).toArray] w fun e w' => e = .returned (.agg (recv none 0 (fieldsR r)).toArray) ∧ Below w.heap.size w w' := by
  obtain ⟨k, ⟨a, b, c⟩, y, l, g, t, sh, st, tt, n⟩ := r
  simp only at hk
  have k1 : ¬ k = 1 := by omega
  have k2 : ¬ k = 2 := by omega
  have k3 : ¬ k = 3 := by omega
  have k4 : ¬ k = 4 := by omega
  have k5 : ¬ k = 5 := by omega
  have k6 : ¬ k = 6 := by omega
  have k7 : ¬ k = 7 := by omega
  have q1 : (k == 1) = false := by simp [k1]
  have q2 : (k == 2) = false := by simp [k2]
  have q3 : (k == 3) = false := by simp [k3]
  have q4 : (k == 4) = false := by simp [k4]
  have q5 : (k == 5) = false := by simp [k5]
  have q6 : (k == 6) = false := by simp [k6]
  have q7 : (k == 7) = false := by simp [k7]
  have HR := Lib.hid (show (recv none 0 (fieldsR ⟨k, ⟨a, b, c⟩, y, l, g, t, sh, st, tt, n⟩)).toArray = #[.int .i8 k, .int .i64 0, .int .i64 0, .int .i64 0, .bool false, .slice none 0 0, .int .i64 0, .int .i64 0, .int .i64 0, .int .i64 0, .int .i64 0, .int .i64 0] by unfold fieldsR; simp only [k1, k2, k3, k4, k5, k6, k7, or_self, if_false]; rfl)
  clear hk k1 k2 k3 k4 k5 k6 k7
  rw [HR.out]
  unfold recv
  simp only
  obtain ⟨w1, hw1⟩ : ∃ w1, w1 = (w.alloc (.cells #[.int .i8 k, .int .i64 a, .int .i64 b, .int .i64 c, .bool y, .slice A l.length cc, .int .i64 g, .int .i64 t, .int .i64 sh, .int .i64 st, .int .i64 tt, .int .i64 n] 29)).alloc (.cells #[.int .i8 0, .int .i64 0, .int .i64 0, .int .i64 0, .bool false, .slice none 0 0, .int .i64 0, .int .i64 0, .int .i64 0, .int .i64 0, .int .i64 0, .int .i64 0] 29) := ⟨_, rfl⟩
  obtain ⟨w2, hw2⟩ : ∃ w2, w2 = w1.alloc (.cells #[.int .i8 k, .int .i64 0, .int .i64 0, .int .i64 0, .bool false, .slice none 0 0, .int .i64 0, .int .i64 0, .int .i64 0, .int .i64 0, .int .i64 0, .int .i64 0] 29) := ⟨_, rfl⟩
  have hz1 : w1.heap.size = w.heap.size + 2 := by rw [hw1]; simp
  have hz2 : w2.heap.size = w.heap.size + 3 := by rw [hw2]; simp [hz1]
  have g0 : w1.heap[w.heap.size]? = some (.cells #[.int .i8 k, .int .i64 a, .int .i64 b, .int .i64 c, .bool y, .slice A l.length cc, .int .i64 g, .int .i64 t, .int .i64 sh, .int .i64 st, .int .i64 tt, .int .i64 n] 29 (0, 0)) := by rw [hw1]; exact (Below.heap_alloc _ _ _ (by simp)).trans (heap_alloc_new w _)
  have g1 : w1.heap[w.heap.size + 1]? = some (.cells #[.int .i8 0, .int .i64 0, .int .i64 0, .int .i64 0, .bool false, .slice none 0 0, .int .i64 0, .int .i64 0, .int .i64 0, .int .i64 0, .int .i64 0, .int .i64 0] 29 (0, 0)) := by
    rw [hw1]
    have h := heap_alloc_new (w.alloc (.cells #[.int .i8 k, .int .i64 a, .int .i64 b, .int .i64 c, .bool y, .slice A l.length cc, .int .i64 g, .int .i64 t, .int .i64 sh, .int .i64 st, .int .i64 tt, .int .i64 n] 29)) (.cells #[.int .i8 0, .int .i64 0, .int .i64 0, .int .i64 0, .bool false, .slice none 0 0, .int .i64 0, .int .i64 0, .int .i64 0, .int .i64 0, .int .i64 0, .int .i64 0] 29)
    rwa [World.size_alloc] at h
  have hc0 : w1.cell? ⟨w.heap.size, 0, none⟩ = some (.int .i8 k) := by rw [cell_of_row w1 _ 0 _ _ _ g0]; rfl
  have r2 : w2.heap[w1.heap.size]? = some (.cells #[.int .i8 k, .int .i64 0, .int .i64 0, .int .i64 0, .bool false, .slice none 0 0, .int .i64 0, .int .i64 0, .int .i64 0, .int .i64 0, .int .i64 0, .int .i64 0] 29 (0, 0)) := by rw [hw2]; exact heap_alloc_new w1 _
  have HS2 := Lib.hid (show w2.heap[w.heap.size]? = some (.cells #[.int .i8 k, .int .i64 a, .int .i64 b, .int .i64 c, .bool y, .slice A l.length cc, .int .i64 g, .int .i64 t, .int .i64 sh, .int .i64 st, .int .i64 tt, .int .i64 n] 29 (0, 0)) ∧ w2.heap[w.heap.size + 1]? = some (.cells #[.int .i8 0, .int .i64 0, .int .i64 0, .int .i64 0, .bool false, .slice none 0 0, .int .i64 0, .int .i64 0, .int .i64 0, .int .i64 0, .int .i64 0, .int .i64 0] 29 (0, 0)) from by rw [hw2]; exact ⟨(Below.heap_alloc _ _ _ (by omega)).trans g0, (Below.heap_alloc _ _ _ (by omega)).trans g1⟩)
  have HB2 := Lib.hid (show Below w.heap.size w w2 by rw [hw2, hw1]; exact (((Below.refl _ w).alloc (Nat.le_refl _) _).alloc (by simp) _).alloc (by simp; omega) _)
  have HW1 := Lib.hid hw1
  have HW2 := Lib.hid hw2
  have HZ := Lib.hid (And.intro hz1 hz2)
  have HS := HS2
  clear hw1 hw2 g0 g1 hz1 hz2
  have c0 : w2.cell? ⟨w.heap.size, 0, none⟩ = some (.int .i8 k) := by rw [cell_of_row w2 _ 0 _ _ _ HS.out.1]; rfl
  have c1 : w2.cell? ⟨w.heap.size, 1, none⟩ = some (.int .i64 a) := by rw [cell_of_row w2 _ 1 _ _ _ HS.out.1]; rfl
  have c2 : w2.cell? ⟨w.heap.size, 2, none⟩ = some (.int .i64 b) := by rw [cell_of_row w2 _ 2 _ _ _ HS.out.1]; rfl
  have c3 : w2.cell? ⟨w.heap.size, 3, none⟩ = some (.int .i64 c) := by rw [cell_of_row w2 _ 3 _ _ _ HS.out.1]; rfl
  have c4 : w2.cell? ⟨w.heap.size, 4, none⟩ = some (.bool y) := by rw [cell_of_row w2 _ 4 _ _ _ HS.out.1]; rfl
  have c5 : w2.cell? ⟨w.heap.size, 5, none⟩ = some (.slice A l.length cc) := by rw [cell_of_row w2 _ 5 _ _ _ HS.out.1]; rfl
  have c6 : w2.cell? ⟨w.heap.size, 6, none⟩ = some (.int .i64 g) := by rw [cell_of_row w2 _ 6 _ _ _ HS.out.1]; rfl
  have c7 : w2.cell? ⟨w.heap.size, 7, none⟩ = some (.int .i64 t) := by rw [cell_of_row w2 _ 7 _ _ _ HS.out.1]; rfl
  have c8 : w2.cell? ⟨w.heap.size, 8, none⟩ = some (.int .i64 sh) := by rw [cell_of_row w2 _ 8 _ _ _ HS.out.1]; rfl
  have c9 : w2.cell? ⟨w.heap.size, 9, none⟩ = some (.int .i64 st) := by rw [cell_of_row w2 _ 9 _ _ _ HS.out.1]; rfl
  have c10 : w2.cell? ⟨w.heap.size, 10, none⟩ = some (.int .i64 tt) := by rw [cell_of_row w2 _ 10 _ _ _ HS.out.1]; rfl
  have c11 : w2.cell? ⟨w.heap.size, 11, none⟩ = some (.int .i64 n) := by rw [cell_of_row w2 _ 11 _ _ _ HS.out.1]; rfl
  go_enter Try.func32, Try.ntmps32
  go_wp2_with (first
    | (rw [← HW1.out])
    | (rw [← HW2.out])
    | (refine wpList_load_part rfl 29 (.tmp 3) rfl w1.heap.size 0 rfl [.int .i8 k, .int .i64 0, .int .i64 0, .int .i64 0, .bool false, .slice none 0 0, .int .i64 0, .int .i64 0, .int .i64 0, .int .i64 0, .int .i64 0, .int .i64 0] _ (row_lit r2) Try.underlying29 rfl Try.sizeR ?_)
    | (refine wpList_store_row rfl 29 (.tmp 2) (.tmp 61) rfl (w.heap.size + 1) #[.int .i8 k, .int .i64 0, .int .i64 0, .int .i64 0, .bool false, .slice none 0 0, .int .i64 0, .int .i64 0, .int .i64 0, .int .i64 0, .int .i64 0, .int .i64 0] rfl rfl 29 #[.int .i8 0, .int .i64 0, .int .i64 0, .int .i64 0, .bool false, .slice none 0 0, .int .i64 0, .int .i64 0, .int .i64 0, .int .i64 0, .int .i64 0, .int .i64 0] HS2.out.2 (Try.info12 _ _ _ _ _ _ _ _ _ _ _ _ _ _) (size12 _ _ _ _ _ _ _ _ _ _ _ _ _ _ _ _ _ _ _ _ _ _ _ _ _ _ _ _) (one12 _ _ _ _ _ _ _ _ _ _ _ _ _ _) ?_))
  exact bodyPost_ret (results_cell_one (t := 29) (p := 2) rfl _ _ (w.heap.size + 1) #[.int .i8 k, .int .i64 0, .int .i64 0, .int .i64 0, .bool false, .slice none 0 0, .int .i64 0, .int .i64 0, .int .i64 0, .int .i64 0, .int .i64 0, .int .i64 0] (0, 0) _ rfl (setRow_heap _ _ _ _ _ _ HS2.out.2) Try.underlying29 rfl (Try.info12 _ _ _ _ _ _ _ _ _ _ _ _ _ _)) rfl ⟨rfl, below_setRow HB2.out (by omega) _⟩
end Go.Proofs.Ytaokhbodmodcgaa
end

section
/-
  The document's answers of names, stripes, shards, changes.
-/
namespace Go.Proofs.Ytaokhbodmodcgaa
open Go.RowKit
set_option maxRecDepth 100000

set_option maxHeartbeats 2000000 in
theorem named_any (n : Nm) (w : World) : Calls Try.prog 17 #[.agg (nmv n).toArray] w fun e w' => e = .returned (.bool (namedB n)) ∧ Below w.heap.size w w' := by
  obtain ⟨a, b, c⟩ := n
  obtain ⟨w1, hw1⟩ : ∃ w1, w1 = w.alloc (.cells #[.int .i64 a, .int .i64 b, .int .i64 c] 24) := ⟨_, rfl⟩
  have HB := Lib.hid (show Below w.heap.size w w1 by rw [hw1]; exact (Below.refl _ w).alloc (Nat.le_refl _) _)
  have hg : w1.heap[w.heap.size]? = some (.cells #[.int .i64 a, .int .i64 b, .int .i64 c] 24 (0, 0)) := by rw [hw1]; exact heap_alloc_new w _
  have c0 : w1.cell? ⟨w.heap.size, 0, none⟩ = some (.int .i64 a) := by rw [cell_of_row w1 _ 0 _ _ _ hg]; rfl
  have c1 : w1.cell? ⟨w.heap.size, 1, none⟩ = some (.int .i64 b) := by rw [cell_of_row w1 _ 1 _ _ _ hg]; rfl
  have c2 : w1.cell? ⟨w.heap.size, 2, none⟩ = some (.int .i64 c) := by rw [cell_of_row w1 _ 2 _ _ _ hg]; rfl
  obtain ⟨E, hE⟩ : ∃ E, E = namedB ⟨a, b, c⟩ := ⟨_, rfl⟩
  rw [← hE]
  have HW1 := Lib.hid hw1
  clear hg hw1
  unfold namedB at hE
  simp only at hE
  unfold nmv
  by_cases h0 : a ≥ 1
  · by_cases h1 : a ≤ 1048576
    · by_cases h2 : b ≥ 1
      · by_cases h3 : b ≤ 1048576
        · by_cases h4 : c ≥ 1
          · by_cases h5 : c ≤ 1048576
            · have HE := Lib.hid (show E = true by rw [hE]; exact decide_eq_true (by omega))
              clear hE
              go_enter Try.func17, Try.ntmps17
              go_wp2_with (rw [← HW1.out])
              go_ret
              exact ⟨by rw [HE.out]; rfl, HB.out⟩
            · have HE := Lib.hid (show E = false by rw [hE]; exact decide_eq_false (by omega))
              clear hE
              go_enter Try.func17, Try.ntmps17
              go_wp2_with (rw [← HW1.out])
              go_ret
              exact ⟨by rw [HE.out]; rfl, HB.out⟩
          · have HE := Lib.hid (show E = false by rw [hE]; exact decide_eq_false (by omega))
            clear hE
            go_enter Try.func17, Try.ntmps17
            go_wp2_with (rw [← HW1.out])
            go_ret
            exact ⟨by rw [HE.out]; rfl, HB.out⟩
        · have HE := Lib.hid (show E = false by rw [hE]; exact decide_eq_false (by omega))
          clear hE
          go_enter Try.func17, Try.ntmps17
          go_wp2_with (rw [← HW1.out])
          go_ret
          exact ⟨by rw [HE.out]; rfl, HB.out⟩
      · have HE := Lib.hid (show E = false by rw [hE]; exact decide_eq_false (by omega))
        clear hE
        go_enter Try.func17, Try.ntmps17
        go_wp2_with (rw [← HW1.out])
        go_ret
        exact ⟨by rw [HE.out]; rfl, HB.out⟩
    · have HE := Lib.hid (show E = false by rw [hE]; exact decide_eq_false (by omega))
      clear hE
      go_enter Try.func17, Try.ntmps17
      go_wp2_with (rw [← HW1.out])
      go_ret
      exact ⟨by rw [HE.out]; rfl, HB.out⟩
  · have HE := Lib.hid (show E = false by rw [hE]; exact decide_eq_false (by omega))
    clear hE
    go_enter Try.func17, Try.ntmps17
    go_wp2_with (rw [← HW1.out])
    go_ret
    exact ⟨by rw [HE.out]; rfl, HB.out⟩
set_option maxHeartbeats 2000000 in
theorem changed_any (a b : Int) (w : World) : Calls Try.prog 35 #[.agg #[.int .i64 a, .int .i64 b]] w fun e w' => e = .returned (.bool (changedB a b)) ∧ Below w.heap.size w w' := by
  obtain ⟨w1, hw1⟩ : ∃ w1, w1 = w.alloc (.cells #[.int .i64 a, .int .i64 b] 27) := ⟨_, rfl⟩
  have HB := Lib.hid (show Below w.heap.size w w1 by rw [hw1]; exact (Below.refl _ w).alloc (Nat.le_refl _) _)
  have hg : w1.heap[w.heap.size]? = some (.cells #[.int .i64 a, .int .i64 b] 27 (0, 0)) := by rw [hw1]; exact heap_alloc_new w _
  have c0 : w1.cell? ⟨w.heap.size, 0, none⟩ = some (.int .i64 a) := by rw [cell_of_row w1 _ 0 _ _ _ hg]; rfl
  have c1 : w1.cell? ⟨w.heap.size, 1, none⟩ = some (.int .i64 b) := by rw [cell_of_row w1 _ 1 _ _ _ hg]; rfl
  obtain ⟨E, hE⟩ : ∃ E, E = changedB a b := ⟨_, rfl⟩
  rw [← hE]
  have HW1 := Lib.hid hw1
  clear hg hw1
  unfold changedB at hE
  by_cases h0 : a = -1
  · rw [if_pos h0] at hE
    subst h0
    by_cases h1 : b = 0
    · have HE := Lib.hid (show E = true by rw [hE]; exact decide_eq_true h1)
      clear hE
      subst h1
      go_enter Try.func35, Try.ntmps35
      go_wp2_with (rw [← HW1.out])
      go_ret
      exact ⟨by rw [HE.out]; rfl, HB.out⟩
    · have HE := Lib.hid (show E = false by rw [hE]; exact decide_eq_false h1)
      have hq : (b == 0) = false := by simp [h1]
      clear hE h1
      go_enter Try.func35, Try.ntmps35
      go_wp2_with (rw [← HW1.out])
      go_ret
      exact ⟨by rw [HE.out]; rfl, HB.out⟩
  · rw [if_neg h0] at hE
    have hq : (a == -1) = false := by simp [h0]
    by_cases h1 : a ≥ 0
    · by_cases h2 : a < 8
      · by_cases h3 : b ≥ 1
        · by_cases h4 : b ≤ 4
          · have HE := Lib.hid (show E = true by rw [hE]; exact decide_eq_true (by omega))
            clear hE h0
            go_enter Try.func35, Try.ntmps35
            go_wp2_with (rw [← HW1.out])
            go_ret
            exact ⟨by rw [HE.out]; rfl, HB.out⟩
          · have HE := Lib.hid (show E = false by rw [hE]; exact decide_eq_false (by omega))
            clear hE h0
            go_enter Try.func35, Try.ntmps35
            go_wp2_with (rw [← HW1.out])
            go_ret
            exact ⟨by rw [HE.out]; rfl, HB.out⟩
        · have HE := Lib.hid (show E = false by rw [hE]; exact decide_eq_false (by omega))
          clear hE h0
          go_enter Try.func35, Try.ntmps35
          go_wp2_with (rw [← HW1.out])
          go_ret
          exact ⟨by rw [HE.out]; rfl, HB.out⟩
      · have HE := Lib.hid (show E = false by rw [hE]; exact decide_eq_false (by omega))
        clear hE h0
        go_enter Try.func35, Try.ntmps35
        go_wp2_with (rw [← HW1.out])
        go_ret
        exact ⟨by rw [HE.out]; rfl, HB.out⟩
    · have HE := Lib.hid (show E = false by rw [hE]; exact decide_eq_false (by omega))
      clear hE h0
      go_enter Try.func35, Try.ntmps35
      go_wp2_with (rw [← HW1.out])
      go_ret
      exact ⟨by rw [HE.out]; rfl, HB.out⟩
set_option maxHeartbeats 2000000 in
theorem given_any (a b : Int) (w : World) : Calls Try.prog 33 #[.int .i64 a, .int .i64 b] w fun e w' => e = .returned (.bool (givenB a b)) ∧ Below w.heap.size w w' := by
  obtain ⟨E, hE⟩ : ∃ E, E = givenB a b := ⟨_, rfl⟩
  rw [← hE]
  unfold givenB at hE
  by_cases h0 : a ≥ 0
  · by_cases h1 : a ≤ 255
    · by_cases h2 : b ≥ 0
      · by_cases h3 : b ≤ 255
        · obtain ⟨m, rfl⟩ : ∃ m : Nat, a = (m : Int) := ⟨a.toNat, by omega⟩
          obtain ⟨k, rfl⟩ : ∃ k : Nat, b = (k : Int) := ⟨b.toNat, by omega⟩
          have ha : bits .and .i64 (m : Int) (k : Int) = ((m &&& k : Nat) : Int) := i64_and_nat m k (by omega) (by omega)
          rw [Int.toNat_natCast, Int.toNat_natCast] at hE
          obtain ⟨q, hq⟩ : ∃ q, q = m &&& k := ⟨_, rfl⟩
          rw [← hq] at ha hE
          by_cases h4 : q = 0
          · have HE := Lib.hid (show E = true by rw [hE]; exact decide_eq_true ⟨by omega, by omega, by omega, by omega, h4⟩)
            have h5 : ((q : Int) == 0) = true := by simp [h4]
            clear hE hq h4
            go_enter Try.func33, Try.ntmps33
            go_wp2
            go_ret
            exact ⟨by rw [HE.out]; rfl, Below.refl _ _⟩
          · have HE := Lib.hid (show E = false by rw [hE]; exact decide_eq_false fun e => h4 e.2.2.2.2)
            have h5 : ((q : Int) == 0) = false := by rw [beq_eq_false_iff_ne]; omega
            clear hE hq h4
            go_enter Try.func33, Try.ntmps33
            go_wp2
            go_ret
            exact ⟨by rw [HE.out]; rfl, Below.refl _ _⟩
        · have HE := Lib.hid (show E = false by rw [hE]; exact decide_eq_false (by omega))
          clear hE
          go_enter Try.func33, Try.ntmps33
          go_wp2
          go_ret
          exact ⟨by rw [HE.out]; rfl, Below.refl _ _⟩
      · have HE := Lib.hid (show E = false by rw [hE]; exact decide_eq_false (by omega))
        clear hE
        go_enter Try.func33, Try.ntmps33
        go_wp2
        go_ret
        exact ⟨by rw [HE.out]; rfl, Below.refl _ _⟩
    · have HE := Lib.hid (show E = false by rw [hE]; exact decide_eq_false (by omega))
      clear hE
      go_enter Try.func33, Try.ntmps33
      go_wp2
      go_ret
      exact ⟨by rw [HE.out]; rfl, Below.refl _ _⟩
  · have HE := Lib.hid (show E = false by rw [hE]; exact decide_eq_false (by omega))
    clear hE
    go_enter Try.func33, Try.ntmps33
    go_wp2
    go_ret
    exact ⟨by rw [HE.out]; rfl, Below.refl _ _⟩
set_option maxHeartbeats 2000000 in
theorem shards_any (a : Int) (w : World) (hi : I64 a) : Calls Try.prog 34 #[.int .i64 a] w fun e w' => e = .returned (.bool (shardsB a)) ∧ Below w.heap.size w w' := by
  obtain ⟨E, hE⟩ : ∃ E, E = shardsB a := ⟨_, rfl⟩
  rw [← hE]
  unfold shardsB at hE
  unfold I64 at hi
  by_cases h0 : a > 0
  · obtain ⟨m, rfl⟩ : ∃ m : Nat, a = (m : Int) := ⟨a.toNat, by omega⟩
    have ha : bits .and .i64 (m : Int) 1 = ((m % 2 : Nat) : Int) := by
      rw [show (1 : Int) = ((1 : Nat) : Int) from rfl, i64_and_nat m 1 (by omega) (by omega), Nat.and_one_is_mod]
    obtain ⟨q, hq⟩ : ∃ q, q = m % 2 := ⟨_, rfl⟩
    rw [← hq] at ha
    by_cases h1 : q = 0
    · have h5 : ((q : Int) == 0) = true := by simp [h1]
      by_cases h2 : (m : Int) < 32
      · have HE := Lib.hid (show E = true by rw [hE]; exact decide_eq_true (by omega))
        clear hE hq h1 hi
        go_enter Try.func34, Try.ntmps34
        go_wp2
        go_ret
        exact ⟨by rw [HE.out]; rfl, Below.refl _ _⟩
      · have HE := Lib.hid (show E = false by rw [hE]; exact decide_eq_false (by omega))
        clear hE hq h1 hi
        go_enter Try.func34, Try.ntmps34
        go_wp2
        go_ret
        exact ⟨by rw [HE.out]; rfl, Below.refl _ _⟩
    · have HE := Lib.hid (show E = false by rw [hE]; exact decide_eq_false (by omega))
      have h5 : ((q : Int) == 0) = false := by rw [beq_eq_false_iff_ne]; omega
      clear hE hq h1 hi
      go_enter Try.func34, Try.ntmps34
      go_wp2
      go_ret
      exact ⟨by rw [HE.out]; rfl, Below.refl _ _⟩
  · have HE := Lib.hid (show E = false by rw [hE]; exact decide_eq_false (by omega))
    clear hE hi
    go_enter Try.func34, Try.ntmps34
    go_wp2
    go_ret
    exact ⟨by rw [HE.out]; rfl, Below.refl _ _⟩
end Go.Proofs.Ytaokhbodmodcgaa
end
