/-
  Texts Parts, Arrays, HEq, HFacts, HSame, HTwo, HMore, HEarly, HBackA, HBackB, HBackC, HBackD, HBack, Lift, HLift, HDnum, HDnums, HDmay, Num, Put, HDbytes, HDjoin, Bits, Halves, Ref, Sum, Lowest, joined.
-/
import Derived.Maps.RangeWalk
import Derived.Maps.OwnSet
import Derived.Maps.OwnOps
import Derived.Maps.AppendAt
import Derived.ProofKit
import Derived.OpenShut
import Derived.Deep.Slices
import Derived.Carry
import Derived.Deep.QuietTactic
import Derived.BigQuiet
import Derived.BigRegion
import Derived.OwnWalk
import Derived.Laws.AppendOwn
import Derived.Deep.OwnRows
import Derived.Test.YtgkbhdecohlpmaaJ1
set_option linter.all false
section
/-
  A part of a block read and written as one value; what stays while some blocks turn.
-/
namespace Go.Proofs.Ytgkbhdecohlpmaa
set_option maxRecDepth 100000
open Go.RowKit Go.Maps

/-! ### a part of a block -/
section
variable {P : Program}
theorem run_load_part (w : World) (g off : Nat) (ty : TypeId) (xs : List Value) (d : TypeDesc) (hc : ∀ j u, xs[j]? = some u → w.cell? ⟨g, off + j, none⟩ = some u)
    (hu : P.underlying ty = some d) (hd : (match d with | .struct _ | .array _ _ => true | _ => false) = true) (hi : (P.info? ty).map (·.size) = some xs.length) :
    (loadVar ty ⟨g, off, none⟩).run P w = .ok (.agg xs.toArray) w := by
  have hl := run_loadCells_list (P := P) w ⟨g, off, none⟩ xs (fun j v hv => by rw [add_flat]; exact hc j v hv)
  cases hq : P.info? ty with
  | none => simp [hq] at hi
  | some i =>
    have hs : i.size = xs.length := by simpa [hq] using hi
    have hagg : (isAgg ty).run P w = .ok true w := by
      unfold isAgg
      rw [Sem.run_bind, run_underlying hu w]
      cases d <;> simp_all
    simp [loadVar, Sem.run_bind, hagg, sizeOf, typeInfo, hq, hs, hl]
theorem wp_load_part {o : Oper} {a : Act} {w : World} {K : Act → World → Prop} {Q : Exit → Act → World → Prop} (ty : TypeId) (x : Operand) (ho : o.op = .load ty x)
    (g off : Nat) (hx : a.eval x = .pointer (some ⟨g, off, none⟩)) (xs : List Value) (d : TypeDesc) (hc : ∀ j u, xs[j]? = some u → w.cell? ⟨g, off + j, none⟩ = some u)
    (hu : P.underlying ty = some d) (hd : (match d with | .struct _ | .array _ _ => true | _ => false) = true) (hi : (P.info? ty).map (·.size) = some xs.length)
    (h : K (a.put o.dst (.agg xs.toArray)) w) : o.wp P a w K Q := by
  unfold Oper.wp execOp
  simp only [ho, hx, Instr.loadAt, Instr.sureAddr, Sem.run_bind, Sem.run_pure, Result.andThen_ok, run_load_part w g off ty xs d hc hu hd hi]
  exact h
theorem wpList_load_part {ops : Array Oper} {rest : List Oper} {o : Oper} {a : Act} {w : World} {Q : Exit → Act → World → Prop} (hgd : o.guard = none) (ty : TypeId) (x : Operand) (ho : o.op = .load ty x)
    (g off : Nat) (hx : a.eval x = .pointer (some ⟨g, off, none⟩)) (xs : List Value) (d : TypeDesc) (hc : ∀ j u, xs[j]? = some u → w.cell? ⟨g, off + j, none⟩ = some u)
    (hu : P.underlying ty = some d) (hd : (match d with | .struct _ | .array _ _ => true | _ => false) = true) (hi : (P.info? ty).map (·.size) = some xs.length)
    (h : wpList P ops Q rest (a.put o.dst (.agg xs.toArray)) w) : wpList P ops Q (o :: rest) a w :=
  wpList_plain hgd fun _ hK => wp_load_part ty x ho g off hx xs d hc hu hd hi (hK _ _ h)

/-- 'a[i]' of an array of arrays or structs, by value -/
theorem run_index_agg (w : World) (t e : TypeId) (n q i : Nat) (cs : Array Value) (h : P.underlying t = some (.array n e)) (d : TypeDesc) (he : P.underlying e = some d) (hd : (match d with | .struct _ | .array _ _ => true | _ => false) = true)
    (hs : (P.info? e).map (·.size) = some q) (hi : i < n) : (Instr.index t (.agg cs) (.int .i64 (i : Int))).run P w = .ok (.agg (cs.extract (i * q) (i * q + q))) w := by
  have hagg : (isAgg e).run P w = .ok true w := by
    unfold isAgg
    rw [Sem.run_bind, run_underlying he w]
    cases d <;> simp_all
  cases hq : P.info? e with
  | none => simp [hq] at hs
  | some x =>
    have hz : x.size = q := by simpa [hq] using hs
    simp [Instr.index, run_underlying h, asIntOf, hi, part, hagg, sizeOf, typeInfo, hq, hz, go_sem]
/-- 'a[i]' of an array of single cells, by value -/
theorem run_index_cell (w : World) (t e : TypeId) (n i : Nat) (cs : Array Value) (h : P.underlying t = some (.array n e)) (k : IntKind) (he : P.underlying e = some (.int k)) (hs : (P.info? e).map (·.size) = some 1) (hi : i < n) (v : Value) (hv : cs[i]? = some v) :
    (Instr.index t (.agg cs) (.int .i64 (i : Int))).run P w = .ok v w := by
  cases hq : P.info? e with
  | none => simp [hq] at hs
  | some x =>
    have hz : x.size = 1 := by simpa [hq] using hs
    have hagg : (isAgg e).run P w = .ok false w := by
      unfold isAgg
      rw [Sem.run_bind, run_underlying he w]
      rfl
    simp [Instr.index, run_underlying h, asIntOf, hi, part, hagg, sizeOf, typeInfo, hq, hz, hv, go_sem]

theorem run_storeCells_part (g : Nat) (t : TypeId) : ∀ (vs : List Value) (off i : Nat) (pre post old : List Value) (w : World), w.heap[g]? = some (.cells (pre ++ old ++ post).toArray t (0, 0)) → pre.length = off + i → old.length = vs.length →
    (∀ v ∈ vs, v.oneCell' = true) → (storeCells ⟨g, off, none⟩ vs i).run P w = .ok () (w.setRow g (pre ++ vs ++ post).toArray)
  | [], off, i, pre, post, old, w, hg, _, hl, _ => by
    obtain rfl : old = [] := List.eq_nil_of_length_eq_zero (by simpa using hl)
    have := run_storeCells_from (P := P) g t [] (pre ++ [] ++ post).length (pre ++ [] ++ post).toArray w hg (by simp) (by simp)
    simp only [storeCells, List.append_nil] at this ⊢
    rw [List.take_of_length_le (by simp)] at this
    simpa using this
  | v :: rest, off, i, pre, post, old, w, hg, hp, hl, h1 => by
    obtain ⟨y, ys, rfl⟩ : ∃ y ys, old = y :: ys := by
      cases old with
      | nil => simp at hl
      | cons y ys => exact ⟨y, ys, rfl⟩
    have hat : (pre ++ y :: ys ++ post).toArray[off + i]? = some y := by
      rw [← hp]; simp
    have hcell : w.cell? ⟨g, off + i, none⟩ = some y := by rw [cell_of_row w g (off + i) _ _ _ hg]; exact hat
    have hfro := frozen_of_row w g (off + i) _ _ hg
    have hst : (store ((⟨g, off, none⟩ : Addr).add i) v).run P w = .ok () (w.setCell ⟨g, off + i, none⟩ v) := by
      rw [add_flat, run_store P w _ v _ (h1 v (by simp)), hcell]
      simp [hfro]
    have hset : (pre ++ y :: ys ++ post).toArray.setIfInBounds (off + i) v = ((pre ++ [v]) ++ ys ++ post).toArray := by
      rw [← hp]; simp
    have hg2 : (w.setCell ⟨g, off + i, none⟩ v).heap[g]? = some (.cells ((pre ++ [v]) ++ ys ++ post).toArray t (0, 0)) := by
      rw [heap_setCell_same w g (off + i) _ _ v hg, hset]
    have ih := run_storeCells_part g t rest off (i + 1) (pre ++ [v]) post ys (w.setCell ⟨g, off + i, none⟩ v) hg2 (by simp; omega) (by simpa using hl) (fun x hx => h1 x (by simp [hx]))
    simp only [storeCells, Sem.run_bind, hst, Result.andThen_ok, ih]
    rw [setCell_eq_setRow w g (off + i) _ _ _ v hg, setRow_setRow]
    simp

theorem run_store_part (w : World) (g : Nat) (t ty : TypeId) (pre old post xs : List Value) (hg : w.heap[g]? = some (.cells (pre ++ old ++ post).toArray t (0, 0))) (ho : old.length = xs.length)
    (hi : (P.info? ty).map (·.size) = some xs.length) (h1 : ∀ v ∈ xs, v.oneCell' = true) :
    (storeVar ty ⟨g, pre.length, none⟩ (.agg xs.toArray)).run P w = .ok () (w.setRow g (pre ++ xs ++ post).toArray) := by
  have := run_storeCells_part (P := P) g t xs pre.length 0 pre post old w hg rfl ho h1
  cases hq : P.info? ty with
  | none => simp [hq] at hi
  | some i =>
    have hs : xs.length = i.size := by simp [hq] at hi; omega
    simp [storeVar, sizeOf, typeInfo, hq, Value.cells, hs, this]
theorem wp_store_part {o : Oper} {a : Act} {w : World} {K : Act → World → Prop} {Q : Exit → Act → World → Prop} (ty : TypeId) (x y : Operand) (ho : o.op = .store ty x y)
    (g off : Nat) (hx : a.eval x = .pointer (some ⟨g, off, none⟩)) (xs : List Value) (hy : a.eval y = .agg xs.toArray) (t : TypeId) (pre old post : List Value)
    (hg : w.heap[g]? = some (.cells (pre ++ old ++ post).toArray t (0, 0))) (hoff : pre.length = off) (hold : old.length = xs.length) (hi : (P.info? ty).map (·.size) = some xs.length) (h1 : ∀ v ∈ xs, v.oneCell' = true)
    (h : K (a.put o.dst undef) (w.setRow g (pre ++ xs ++ post).toArray)) : o.wp P a w K Q := by
  subst hoff
  unfold Oper.wp execOp
  simp only [ho, hx, hy, Instr.storeAt, Instr.sureAddr, Sem.run_bind, Sem.run_pure, Result.andThen_ok, run_store_part w g t ty pre old post xs hg hold hi h1]
  exact h
theorem wpList_store_part {ops : Array Oper} {rest : List Oper} {o : Oper} {a : Act} {w : World} {Q : Exit → Act → World → Prop} (hgd : o.guard = none) (ty : TypeId) (x y : Operand) (ho : o.op = .store ty x y)
    (g off : Nat) (hx : a.eval x = .pointer (some ⟨g, off, none⟩)) (xs : List Value) (hy : a.eval y = .agg xs.toArray) (t : TypeId) (pre old post : List Value)
    (hg : w.heap[g]? = some (.cells (pre ++ old ++ post).toArray t (0, 0))) (hoff : pre.length = off) (hold : old.length = xs.length) (hi : (P.info? ty).map (·.size) = some xs.length) (h1 : ∀ v ∈ xs, v.oneCell' = true)
    (h : wpList P ops Q rest (a.put o.dst undef) (w.setRow g (pre ++ xs ++ post).toArray)) : wpList P ops Q (o :: rest) a w :=
  wpList_plain hgd fun _ hK => wp_store_part ty x y ho g off hx xs hy t pre old post hg hoff hold hi h1 (hK _ _ h)

/-- a step of a region that draws its order -/
theorem step_of_wp_ {ops : Array Oper} {o : Oper} {a : Act} {w : World} {K : Act → World → Prop} {Q : Exit → Act → World → Prop} {E : Prop} (hgd : o.guard = none) (h : o.wp P a w K Q) : if Region.wanted o (yielded ops a.tmps) = true then Oper.wp P o a w K Q else E := by
  have hw : Region.wanted o (yielded ops a.tmps) = true := by simp [Region.wanted, hgd]
  rw [if_pos hw]
  exact h
theorem wp_value {o : Oper} {a : Act} {w w' : World} {K : Act → World → Prop} {Q : Exit → Act → World → Prop} {v : Value} (hrun : (execOp a.eval o).run P w = .ok (.value v) w') (h : K (a.put o.dst v) w') : o.wp P a w K Q := by
  unfold Oper.wp
  rw [hrun, Oper.upon_value]
  exact h
theorem wp_mapUpdate {o : Oper} {a : Act} {w w' : World} {K : Act → World → Prop} {Q : Exit → Act → World → Prop} (t : TypeId) (m x v : Operand) (hop : o.op = .mapUpdate t m x v) (M key val : Value) (hm : a.eval m = M) (hx : a.eval x = key) (hv : a.eval v = val)
    (hrun : (Instr.mapUpdate t M key val).run P w = .ok () w') (h : K (a.put o.dst undef) w') : o.wp P a w K Q := by
  unfold Oper.wp
  simp [execOp, hop, hm, hx, hv, hrun, Result.andThen]
  exact h
/-- the builtin copy, at a step of a region -/
theorem wp_copy_splice {o : Oper} {a : Act} {w : World} {K : Act → World → Prop} {Q : Exit → Act → World → Prop} (hgd : o.guard = none) (d s : Operand) (dT sT : TypeId)
    (ho : o.op = .call { callee := .builtin .copy, args := #[d, s], argTypes := #[dT, sT] }) (elem : TypeId) (hu : P.underlying dT = some (.slice elem)) (hsz : (P.info? elem).map (·.size) = some 1)
    (dp sp : Option Addr) (dLen dCap sLen sCap : Nat) (hd : a.eval d = .slice dp dLen dCap) (hs : a.eval s = .slice sp sLen sCap)
    (g off : Nat) (cur : List Value) (t : TypeId) (hg : w.heap[g]? = some (.cells cur.toArray t (0, 0))) (cs : List Value) (hn : cs.length = Nat.min sLen dLen)
    (hpos : 0 < cs.length → dp = some ⟨g, off, none⟩ ∧ ∃ ad, sp = some ad ∧ ∀ j v, cs[j]? = some v → w.cell? (ad.add j) = some v)
    (hfit : off + cs.length ≤ cur.length) (h1 : ∀ v ∈ cs, v.oneCell' = true) (B : Nat) (w0 : World) (hb : RowKit.Below B w0 w) (hBg : B ≤ g)
    (h : ∀ w', RowKit.Hid (w'.heap[g]? = some (.cells (splice cur off cs).toArray t (0, 0))) → RowKit.Below B w0 w' → K (a.put o.dst (goInt cs.length)) w') : o.wp P a w K Q := by
  have h2 := step_copy_splice (P := P) (ops := #[]) (Q := Q) (E := True) hgd d s dT sT ho elem hu hsz dp sp dLen dCap sLen sCap hd hs g off cur t hg cs hn hpos hfit h1 B w0 hb hBg h
  rwa [if_pos (by simp [Region.wanted, hgd])] at h2
theorem laid_from : ∀ (vs Z pre : List Value), vs.length ≤ Z.length → List.foldl (fun (cs : Array Value) (x : Value × Nat) => cs.setIfInBounds x.snd x.fst) (pre ++ Z).toArray (vs.zipIdx pre.length) = (pre ++ (vs ++ Z.drop vs.length)).toArray := by
  intro vs
  induction vs with
  | nil => intro Z pre _; simp
  | cons v t ih =>
    intro Z pre h
    cases Z with
    | nil => simp at h
    | cons z r =>
      rw [List.zipIdx_cons, List.foldl_cons]
      have e : (pre ++ z :: r).toArray.setIfInBounds pre.length v = ((pre ++ [v]) ++ r).toArray := by simp
      have hi := ih r (pre ++ [v]) (by simpa using h)
      rw [List.length_append, List.length_singleton] at hi
      rw [e, hi]
      simp
theorem fill_one (xs : List Value) (base : Array Value) (n : Nat) (hn : xs.length = n) (hb : base.size = n) : Instr.fill (fun i => some (i * n, n)) base [(0, .agg xs.toArray)] = some xs.toArray := by
  have h := laid_from xs base.toList [] (by simp; omega)
  rw [List.drop_of_length_le (by simp; omega)] at h
  simp only [Instr.fill, Value.cells, List.size_toArray, hn, hb]
  simp only [Nat.zero_mul, Nat.zero_add, ne_eq, not_true_eq_false, decide_false, Bool.false_or, gt_iff_lt, Nat.lt_irrefl]
  simp at h
  simpa using h
/-- a slice literal of one array -/
theorem run_buildSlice_one (w : World) (t e : TypeId) (i : TypeInfo) (z : Value) (n : Nat) (ht : P.underlying t = some (.slice e)) (hi : P.info? e = some i) (hz : i.zero = some z) (hs : i.size = n) (h0 : 0 < n) (h1 : n ≤ 1000) (xs : List Value) (hx : xs.length = n) :
    (Instr.buildSlice t 1 #[(0, .agg xs.toArray)]).run P w = .ok (.slice (some ⟨w.heap.size, 0, none⟩) 1 1) (w.alloc (.cells xs.toArray e)) := by
  have hf := fill_one xs ((Array.range n).map (z.cells[· % z.cells.size]!)) n hx (by simp)
  have h2 : ¬ 16777216 < n := by omega
  have h3 : ¬ n = 0 := by omega
  simp [Instr.buildSlice, run_underlying ht, sizeOf, typeInfo, zeroValue, hi, hz, hs, h2, h3, hf, newRow]

/-- a new variable of whatever type -/
theorem wp_alloc_any {o : Oper} {a : Act} {w : World} {K : Act → World → Prop} {Q : Exit → Act → World → Prop} (ty : TypeId) (ho : o.op = .alloc ty) (z : Array Value) (hz : (P.info? ty).map (·.zero) = some (some (.agg z)))
    (h : K (a.put o.dst (.pointer (some ⟨w.heap.size, 0, none⟩))) (w.alloc (.cells z ty))) : o.wp P a w K Q := by
  have hzv : (zeroValue ty).run P w = .ok (.agg z) w := by
    cases hq : P.info? ty with
    | none => simp [hq] at hz
    | some i =>
      have hs : i.zero = some (.agg z) := by simpa [hq] using hz
      simp [zeroValue, typeInfo, hq, hs]
  unfold Oper.wp execOp
  simp only [ho, Instr.alloc, Sem.run_bind, hzv, Result.andThen_ok]
  simp [newVar, newRow, Value.cells, go_sem, Result.andThen]
  exact h
theorem wpList_alloc_any {ops : Array Oper} {rest : List Oper} {o : Oper} {a : Act} {w : World} {Q : Exit → Act → World → Prop} (hgd : o.guard = none) (ty : TypeId) (ho : o.op = .alloc ty) (z : Array Value) (hz : (P.info? ty).map (·.zero) = some (some (.agg z)))
    (h : wpList P ops Q rest (a.put o.dst (.pointer (some ⟨w.heap.size, 0, none⟩))) (w.alloc (.cells z ty))) : wpList P ops Q (o :: rest) a w := by
  refine wpList_plain hgd fun _ hK => ?_
  have hzv : (zeroValue ty).run P w = .ok (.agg z) w := by
    cases hq : P.info? ty with
    | none => simp [hq] at hz
    | some i =>
      have hs : i.zero = some (.agg z) := by simpa [hq] using hz
      simp [zeroValue, typeInfo, hq, hs]
  unfold Oper.wp execOp
  simp only [ho, Instr.alloc, Sem.run_bind, hzv, Result.andThen_ok]
  simp [newVar, newRow, Value.cells, go_sem, Result.andThen]
  exact hK _ _ h
end

/-! ### what stays -/
/-- No block has turned but those of S. -/
structure Kept (S : Nat → Prop) (w w' : World) : Prop where
  os : w'.os = w.os
  tape : w'.tape = w.tape
  output : w'.output = w.output
  size : w.heap.size ≤ w'.heap.size
  block : ∀ k, k < w.heap.size → ¬ S k → w'.heap[k]? = w.heap[k]?
section
variable {S S' : Nat → Prop} {a b c w w' : World}
theorem Kept.refl (S : Nat → Prop) (w : World) : Kept S w w := ⟨rfl, rfl, rfl, Nat.le_refl _, fun _ _ _ => rfl⟩
theorem Kept.trans (h : Kept S a b) (k : Kept S' b c) (hs : ∀ i, i < a.heap.size → S' i → S i) : Kept S a c :=
  ⟨k.os.trans h.os, k.tape.trans h.tape, k.output.trans h.output, Nat.le_trans h.size k.size, fun i hi hne => (k.block i (Nat.lt_of_lt_of_le hi h.size) (fun e => hne (hs i hi e))).trans (h.block i hi hne)⟩
theorem Kept.mono (h : Kept S a b) (hs : ∀ i, i < a.heap.size → S i → S' i) : Kept S' a b := ⟨h.os, h.tape, h.output, h.size, fun i hi hne => h.block i hi (fun e => hne (hs i hi e))⟩
theorem Kept.grown (h : Kept S a b) {row : Option Nat} (hg : b.grownBy c row) (hr : ∀ k, row = some k → k < a.heap.size → S k) : Kept S a c :=
  ⟨hg.os.trans h.os, hg.tape.trans h.tape, hg.output.trans h.output, Nat.le_trans h.size hg.size, fun i hi hne => (hg.block i (Nat.lt_of_lt_of_le hi h.size) (fun e => hne (hr i e.symm hi))).trans (h.block i hi hne)⟩
theorem Kept.below (h : Kept S a b) {B : Nat} (_hB : B ≤ b.heap.size) (hw : Below B b c) (hS : a.heap.size ≤ B ∨ ∀ k, B ≤ k → k < a.heap.size → S k) : Kept S a c :=
  ⟨hw.os.trans h.os, hw.tape.trans h.tape, hw.output.trans h.output, Nat.le_trans h.size hw.size, fun i hi hne => (hw.block i (by
    rcases hS with hS | hS
    · omega
    · rcases Nat.lt_or_ge i B with h1 | h1
      · exact h1
      · exact absurd (hS i h1 hi) hne)).trans (h.block i hi hne)⟩
theorem Kept.of_below {B : Nat} (hw : Below B a b) (hB : a.heap.size ≤ B) : Kept S a b := ⟨hw.os, hw.tape, hw.output, hw.size, fun i hi _ => hw.block i (by omega)⟩
theorem Kept.to_below (h : Kept S a b) {B : Nat} (hB : B ≤ a.heap.size) (hs : ∀ k, k < B → ¬ S k) : Below B a b := ⟨h.os, h.tape, h.output, h.size, fun i hi => h.block i (by omega) (hs i hi)⟩
theorem Kept.alloc (h : Kept S a b) (o : Obj) : Kept S a (b.alloc o) := h.grown (World.grownBy_alloc b o none) (fun _ e => by cases e)
theorem Kept.drew (h : Kept S a b) : Kept S a b.drew := ⟨h.os, h.tape, h.output, h.size, h.block⟩
theorem grown_setRow (w : World) (g : Nat) (cs : Array Value) : w.grownBy (w.setRow g cs) (some g) := ⟨rfl, rfl, rfl, by simp, fun k _ hk => setRow_other w g k _ (fun e => hk (by rw [e]))⟩
theorem grown_setCell (w : World) (g j : Nat) (u : Value) : w.grownBy (w.setCell ⟨g, j, none⟩ u) (some g) := only_set (only_refl w (some g)) u
theorem Kept.cell (h : Kept S a b) {p : Addr} (hp : p.block < a.heap.size) (hn : ¬ S p.block) : b.cell? p = a.cell? p := World.cell?_of_block (w := a) (h.block p.block hp hn)
end

end Go.Proofs.Ytgkbhdecohlpmaa
end

section
/-
  Arrays of bytes of whatever length, as values: compared; loaded in a region that draws its order; a cell and a slot as results.
-/
namespace Go.Proofs.Ytgkbhdecohlpmaa
set_option maxRecDepth 100000
open Go.RowKit

theorem part_byte (w : World) (xs : List Nat) (k : Nat) (h : k < xs.length) : (part 5 (vals xs).toArray (k * 1)).run Try.prog w = .ok (.int .u8 (xs.getD k 0 : Nat)) w := by
  have hv : (vals xs)[k]? = some (.int .u8 (xs.getD k 0 : Nat)) := by
    unfold vals
    rw [List.getElem?_map, List.getElem?_eq_getElem h, Option.map_some, getD_at _ _ h]
  simp [part, isAgg, run_underlying Try.underlying5, hv]
theorem eqItems_bytes (d : Nat) (xs ys : List Nat) (hy : ys.length = xs.length) : ∀ (n s : Nat) (w : World), s + n ≤ xs.length →
    (Op.eqItems (d + 1) 5 1 (vals xs).toArray (vals ys).toArray (List.range' s n)).run Try.prog w = .ok (decide ((xs.drop s).take n = (ys.drop s).take n)) w := by
  intro n
  induction n with
  | zero => intro s w _; simp [Op.eqItems]
  | succ n ih =>
    intro s w hn
    rw [List.range'_succ]
    simp only [Op.eqItems, Sem.run_bind, part_byte w xs s (by omega), part_byte w ys s (by omega), Result.andThen_ok, run_equalIn_int (P := Try.prog) w d 5 .u8 .u8 _ _ Try.underlying5]
    have ex : (xs.drop s).take (n + 1) = xs.getD s 0 :: (xs.drop (s + 1)).take n := by rw [List.drop_eq_getElem_cons (by omega), List.take_succ_cons, getD_at _ _ (by omega)]
    have ey : (ys.drop s).take (n + 1) = ys.getD s 0 :: (ys.drop (s + 1)).take n := by rw [List.drop_eq_getElem_cons (by omega), List.take_succ_cons, getD_at _ _ (by omega)]
    rw [ex, ey]
    clear ex ey
    generalize xs.getD s 0 = p
    generalize ys.getD s 0 = q
    by_cases h : p = q
    · subst h
      have h1 : ((p : Int) == (p : Int)) = true := by simp
      rw [h1]
      simp only [Bool.not_true, Bool.false_eq_true, if_false]
      rw [ih (s + 1) w (by omega)]
      simp
    · have h1 : ((p : Int) == (q : Int)) = false := by simp; omega
      rw [h1]
      simp [h]
theorem bytes_same_ (w : World) (t : TypeId) (n : Nat) (ht : Try.prog.underlying t = some (.array n 5)) (xs ys : List Nat) (hx : xs.length = n) (hy : ys.length = n) : (Op.equalIn 10000 t (.agg (vals xs).toArray) (.agg (vals ys).toArray)).run Try.prog w = .ok (decide (xs = ys)) w := by
  obtain ⟨i0, hi, _, hz1, _⟩ := info_parts Try.info5
  have hcell : Try.prog.cellsOf 5 = 1 := by kernel_rfl
  rw [run_equalIn_array w 9999 _ _ ht hi, hcell, List.range_eq_range', eqItems_bytes 9998 xs ys (by omega) n 0 w (by omega)]
  simp only [List.drop_zero, List.take_of_length_le (Nat.le_of_eq hx), List.take_of_length_le (Nat.le_of_eq hy)]
theorem bytes_eq (w : World) (t : TypeId) (n : Nat) (ht : Try.prog.underlying t = some (.array n 5)) (xs ys : List Nat) (hx : xs.length = n) (hy : ys.length = n) : (binOp .eql t (.agg (vals xs).toArray) (.agg (vals ys).toArray)).run Try.prog w = .ok (.bool (decide (xs = ys))) w := by
  rw [run_eql_struct, bytes_same_ w t n ht xs ys hx hy]
  rfl
theorem bytes_neq (w : World) (t : TypeId) (n : Nat) (ht : Try.prog.underlying t = some (.array n 5)) (xs ys : List Nat) (hx : xs.length = n) (hy : ys.length = n) : (binOp .neq t (.agg (vals xs).toArray) (.agg (vals ys).toArray)).run Try.prog w = .ok (.bool (!decide (xs = ys))) w := by
  rw [run_neq_struct, bytes_same_ w t n ht xs ys hx hy]
  rfl
section
variable {P : Program}
/-- a load of an array or a struct, in a region that draws its order -/
theorem exec_load_part {ρ : Operand → Value} {o : Oper} {w : World} (ty : TypeId) (x : Operand) (ho : o.op = .load ty x) (g off : Nat) (hx : ρ x = .pointer (some ⟨g, off, none⟩)) (xs : List Value) (d : TypeDesc)
    (hc : ∀ j u, xs[j]? = some u → w.cell? ⟨g, off + j, none⟩ = some u) (hu : P.underlying ty = some d) (hd : (match d with | .struct _ | .array _ _ => true | _ => false) = true) (hi : (P.info? ty).map (·.size) = some xs.length) :
    (execOp ρ o).run P w = .ok (.value (.agg xs.toArray)) w := by
  unfold execOp
  simp only [ho, hx, Instr.loadAt, Instr.sureAddr, Sem.run_bind, Sem.run_pure, Result.andThen_ok, run_load_part w g off ty xs d hc hu hd hi]
/-- results: a cell that holds an array or a struct, and a slot -/
theorem results_cell_tmp {fn : Func} {p u : Tmp} {t : TypeId} (h : fn.results = #[.cell p t, .tmp u]) (tmps : Array Value) (w : World) (g : Nat) (cs : Array Value) (fr : Nat × Nat) (d : TypeDesc)
    (hp : tmps.getD p undef = .pointer (some ⟨g, 0, none⟩)) (hg : w.heap[g]? = some (.cells cs t fr)) (hu : P.underlying t = some d) (hd : (match d with | .struct _ | .array _ _ => true | _ => false) = true) (hi : (P.info? t).map (·.size) = some cs.size) :
    (results fn tmps).run P w = .ok (.tuple #[.agg cs, tmps.getD u undef]) w := by
  have hp' : tmps[p]?.getD undef = .pointer (some ⟨g, 0, none⟩) := by simpa using hp
  simp [results, h, hp', asAddr, run_loadVar_row w g t t cs fr d hg hu hd hi]
end
end Go.Proofs.Ytgkbhdecohlpmaa
end

section
/-
  Arrays of eight integers, and superblocks, compared.
-/
namespace Go.Proofs.Ytgkbhdecohlpmaa
set_option maxRecDepth 100000
open Go.RowKit
set_option maxRecDepth 100000

def ivals (xs : List Int) : List Value := xs.map fun z => Value.int .i64 z
theorem part_int (w : World) (xs : List Int) (k : Nat) (h : k < xs.length) : (part 3 (ivals xs).toArray (k * 1)).run Try.prog w = .ok (.int .i64 (xs.getD k 0)) w := by
  have hv : (ivals xs)[k]? = some (.int .i64 (xs.getD k 0)) := by
    unfold ivals
    rw [List.getElem?_map, List.getElem?_eq_getElem h, Option.map_some]
    simp [List.getD, h]
  simp [part, isAgg, run_underlying Try.underlying3, hv]
theorem eqItems_ints (d : Nat) (xs ys : List Int) (hy : ys.length = xs.length) : ∀ (n s : Nat) (w : World), s + n ≤ xs.length →
    (Op.eqItems (d + 1) 3 1 (ivals xs).toArray (ivals ys).toArray (List.range' s n)).run Try.prog w = .ok (decide ((xs.drop s).take n = (ys.drop s).take n)) w := by
  intro n
  induction n with
  | zero => intro s w _; simp [Op.eqItems]
  | succ n ih =>
    intro s w hn
    rw [List.range'_succ]
    simp only [Op.eqItems, Sem.run_bind, part_int w xs s (by omega), part_int w ys s (by omega), Result.andThen_ok, run_equalIn_int (P := Try.prog) w d 3 .i64 .i64 _ _ Try.underlying3]
    have gx : xs.getD s 0 = xs[s]'(by omega) := by simp [List.getD, show s < xs.length by omega]
    have gy : ys.getD s 0 = ys[s]'(by omega) := by simp [List.getD, show s < ys.length by omega]
    have ex : (xs.drop s).take (n + 1) = xs.getD s 0 :: (xs.drop (s + 1)).take n := by rw [gx, List.drop_eq_getElem_cons (by omega), List.take_succ_cons]
    have ey : (ys.drop s).take (n + 1) = ys.getD s 0 :: (ys.drop (s + 1)).take n := by rw [gy, List.drop_eq_getElem_cons (by omega), List.take_succ_cons]
    rw [ex, ey]
    clear ex ey gx gy
    generalize xs.getD s 0 = p
    generalize ys.getD s 0 = q
    by_cases h : p = q
    · subst h
      have h1 : (p == p) = true := by simp
      rw [h1]
      simp only [Bool.not_true, Bool.false_eq_true, if_false]
      rw [ih (s + 1) w (by omega)]
      simp
    · have h1 : (p == q) = false := by simp; omega
      rw [h1]
      simp [h]
theorem ints8_same (w : World) (xs ys : List Int) (hx : xs.length = 8) (hy : ys.length = 8) : (Op.equalIn 9999 23 (.agg (ivals xs).toArray) (.agg (ivals ys).toArray)).run Try.prog w = .ok (decide (xs = ys)) w := by
  obtain ⟨i0, hi⟩ : ∃ i0, Try.prog.info? 3 = some i0 := Option.isSome_iff_exists.1 (by kernel_rfl)
  have hcell : Try.prog.cellsOf 3 = 1 := by kernel_rfl
  rw [run_equalIn_array w 9998 _ _ Try.underlying23 hi, hcell, List.range_eq_range', eqItems_ints 9997 xs ys (by omega) 8 0 w (by omega)]
  simp only [List.drop_zero, List.take_of_length_le (Nat.le_of_eq hx), List.take_of_length_le (Nat.le_of_eq hy)]
/-- .. written out -/
theorem ints8_out (w : World) (a0 a1 a2 a3 a4 a5 a6 a7 b0 b1 b2 b3 b4 b5 b6 b7 : Int) :
    (Op.equalIn 9999 23 (.agg #[.int .i64 a0, .int .i64 a1, .int .i64 a2, .int .i64 a3, .int .i64 a4, .int .i64 a5, .int .i64 a6, .int .i64 a7]) (.agg #[.int .i64 b0, .int .i64 b1, .int .i64 b2, .int .i64 b3, .int .i64 b4, .int .i64 b5, .int .i64 b6, .int .i64 b7])).run Try.prog w = .ok (decide ([a0, a1, a2, a3, a4, a5, a6, a7] = [b0, b1, b2, b3, b4, b5, b6, b7])) w :=
  ints8_same w [a0, a1, a2, a3, a4, a5, a6, a7] [b0, b1, b2, b3, b4, b5, b6, b7] rfl rfl
theorem ints8_refl (w : World) (a0 a1 a2 a3 a4 a5 a6 a7 : Int) :
    (Op.equalIn 9999 23 (.agg #[.int .i64 a0, .int .i64 a1, .int .i64 a2, .int .i64 a3, .int .i64 a4, .int .i64 a5, .int .i64 a6, .int .i64 a7]) (.agg #[.int .i64 a0, .int .i64 a1, .int .i64 a2, .int .i64 a3, .int .i64 a4, .int .i64 a5, .int .i64 a6, .int .i64 a7])).run Try.prog w = .ok true w := by
  rw [ints8_out]; simp
end Go.Proofs.Ytgkbhdecohlpmaa
end

section
/-
  What a disk holds behind writes of homes and superblocks.
-/
namespace Go.Proofs.Ytgkbhdecohlpmaa
set_option maxRecDepth 100000
open Go.RowKit Dk
set_option maxRecDepth 100000

theorem newest_write (d : Dk.Dk) (n : Nat) (bs : List Nat) (k : Nat) : (d.write n bs).newest k = if k = n then Dk.padded bs else d.newest k := by
  unfold Dk.Dk.newest Dk.Dk.write
  simp only [Dk.upd]
  by_cases h : k = n
  · subst h
    rw [if_pos rfl, if_pos rfl, List.getLast?_concat]; rfl
  · rw [if_neg h, if_neg h]
theorem newest_fresh (k : Nat) : Dk.fresh.newest k = List.replicate 64 0 := rfl
theorem put_ok0 {z : Int} {n : Nat} (h : putHE z n = 0) : 0 ≤ z ∧ z < 8 ∧ n = 4 := by
  unfold putHE at h
  split at h
  · assumption
  · omega
theorem put_code (z : Int) (n : Nat) : putHE z n = 0 ∨ putHE z n = 2 := by unfold putHE; split <;> simp
theorem supAt_put (d : Dk.Dk) (z : Int) (l : List (List Nat)) : supAt (putD d z l) = supAt d := by
  unfold putD
  split
  · unfold supAt
    rw [newest_write, newest_write, if_neg (by omega), if_neg (by omega)]
  · rfl
/-- the first superblock of a disk that has none -/
theorem supAt_first {d : Dk.Dk} {s : Sup} (h0 : d.newest 0 = List.replicate 64 0) (h1 : d.newest 1 = List.replicate 64 0) (hm : s.map.length = 8) : supAt (putSD d s) = some (if mayP s then s else firstS) := by
  unfold putSD
  by_cases h : mayP s
  · rw [if_pos h, if_pos h]
    unfold supAt
    rw [newest_write, newest_write]
    have hg := h.1
    rcases (show s.gen % 2 = 0 ∨ s.gen % 2 = 1 by omega) with e | e
    · rw [e, if_pos (by decide), if_neg (by decide), h1]
      have := read_sup h hm 0 e
      unfold supSec at this
      unfold getSp
      rw [this, read_zero]
    · rw [e, if_neg (by decide), if_pos (by decide), h0]
      have := read_sup h hm 1 e
      unfold supSec at this
      unfold getSp
      rw [this, read_zero]
  · rw [if_neg h, if_neg h]
    unfold supAt
    rw [h0, h1, get_first]
theorem home_newest (d : Dk.Dk) {z : Int} {l : List (List Nat)} (hv : VFine l) (h : putHE z l.length = 0) : readHm ((putD d z l).newest (26 + z.toNat)) = some l := by
  unfold putD
  rw [if_pos h, newest_write, if_pos rfl]
  exact home_back ⟨(put_ok0 h).2.2, hv⟩
theorem putS_home (d : Dk.Dk) (s : Sup) (n : Nat) : (putSD d s).newest (26 + n) = d.newest (26 + n) := by
  unfold putSD
  split
  · rename_i h
    have hg := h.1
    rw [newest_write, if_neg (by omega)]
  · rfl
theorem put_other (d : Dk.Dk) {z : Int} {l : List (List Nat)} {n : Nat} (h : n ≠ 26 + z.toNat) : (putD d z l).newest n = d.newest n := by
  unfold putD
  split
  · rw [newest_write, if_neg h]
  · rfl
theorem write_few {d : Dk.Dk} {L : Nat} (h : ∀ n, n < 34 → (d.cache n).length ≤ L) (n : Nat) (bs : List Nat) : ∀ k, k < 34 → ((d.write n bs).cache k).length ≤ L + 1 := fun k hk => Dk.write_len d n bs (h k hk)
theorem put_fewL {d : Dk.Dk} {L : Nat} (h : ∀ n, n < 34 → (d.cache n).length ≤ L) (z : Int) (l : List (List Nat)) : ∀ k, k < 34 → ((putD d z l).cache k).length ≤ L + 1 := fun k hk => by
  unfold putD
  split
  · exact write_few h _ _ k hk
  · have := h k hk; omega
theorem putS_few {d : Dk.Dk} {L : Nat} (h : ∀ n, n < 34 → (d.cache n).length ≤ L) (s : Sup) : ∀ k, k < 34 → ((putSD d s).cache k).length ≤ L + 1 := fun k hk => by
  unfold putSD
  split
  · exact write_few h _ _ k hk
  · have := h k hk; omega
theorem fresh_few : ∀ n, n < 34 → (Dk.fresh.cache n).length ≤ 0 := fun _ _ => by simp [Dk.fresh]
theorem put_up (d : Dk.Dk) (z : Int) (l : List (List Nat)) : (putD d z l).down = d.down := by unfold putD; split <;> rfl
theorem putS_up (d : Dk.Dk) (s : Sup) : (putSD d s).down = d.down := by unfold putSD; split <;> rfl
theorem Held.mk0 {w W : World} {S : Nat → Prop} {a : Nat} {d : Dk.Dk} (h : Mine w W S a d) : Held w W S a d [] := ⟨h, fun _ hx => by cases hx⟩
theorem Held.by_ {w W : World} {S : Nat → Prop} {a : Nat} {d : Dk.Dk} {L : List (Nat × Obj)} {A : Option Addr} {bs : List Nat} (h : Held w W S a d L) (hy : By w w.heap.size A bs) : By W W.heap.size A bs := (hy.below h.mine.keeps (Nat.le_refl _)).mono h.mine.keeps.size
theorem fresh_held (w : World) (cs : Array Value) (t : TypeId) (fr : Nat × Nat) : Calls Try.prog 7 #[] (w.alloc (.cells cs t fr)) fun e w' =>
    e = .returned (.pointer (some ⟨w.heap.size + 1, 0, none⟩)) ∧ ∃ S, Held w w' S (w.heap.size + 1) Dk.fresh [(w.heap.size, .cells cs t fr)] := by
  have hz : (w.alloc (.cells cs t fr)).heap.size = w.heap.size + 1 := by simp
  refine (fresh_mine (w.alloc (.cells cs t fr)) (w.alloc (.cells cs t fr)) (Below.refl _ _)).mono fun e w' ⟨he, S, hm⟩ => ?_
  rw [hz] at he hm
  have h0 : Below w.heap.size w (w.alloc (.cells cs t fr)) := (Below.refl _ w).alloc (Nat.le_refl _) _
  refine ⟨he, S, ⟨hm.disk, fun k hk => ?_, h0.trans (hm.keeps.mono (by omega))⟩, fun x hx => ?_⟩
  · have := hm.new k hk; omega
  · obtain rfl := List.mem_singleton.1 hx
    refine ⟨fun h1 => by have := hm.new _ h1; simp only at this; omega, ?_⟩
    exact (hm.keeps.block _ (by simp)).trans (heap_alloc_new' w _)
theorem ifI {p : Prop} [Decidable p] {x y : Int} : (if p then x else y) = x ∨ (if p then x else y) = y := by split <;> simp
theorem sup_eq_refl (w : World) (g t o i b a0 a1 a2 a3 a4 a5 a6 a7 : Int) : (binOp .eql 25 (.agg #[.int .i64 g, .int .i64 t, .int .i64 o, .int .i64 i, .int .i64 b, .int .i64 a0, .int .i64 a1, .int .i64 a2, .int .i64 a3, .int .i64 a4, .int .i64 a5, .int .i64 a6, .int .i64 a7]) (.agg #[.int .i64 g, .int .i64 t, .int .i64 o, .int .i64 i, .int .i64 b, .int .i64 a0, .int .i64 a1, .int .i64 a2, .int .i64 a3, .int .i64 a4, .int .i64 a5, .int .i64 a6, .int .i64 a7])).run Try.prog w = .ok (.bool true) w := by
  have h8 := ints8_refl w a0 a1 a2 a3 a4 a5 a6 a7
  have x0 : (g == g) = true := by simp
  have x1 : (t == t) = true := by simp
  have x2 : (o == o) = true := by simp
  have x3 : (i == i) = true := by simp
  have x4 : (b == b) = true := by simp
  go_simp
theorem first_fine : firstS.Fine := ⟨rfl, by unfold firstS Sup.ints zeros8; simp only [List.replicate, List.mem_cons, List.not_mem_nil, or_false]; intro z hz; omega⟩
/-- what a disk's first superblock is, and PutSuper's answer with it -/
theorem put_sup {d : Dk.Dk} {s : Sup} (h0 : d.newest 0 = List.replicate 64 0) (h1 : d.newest 1 = List.replicate 64 0) (hs : s.Fine) :
    ∃ (ev : Int) (g t o i b a0 a1 a2 a3 a4 a5 a6 a7 : Int), (if mayP s then (0 : Int) else 2) = ev ∧ supAt (putSD d s) = some ⟨g, t, o, i, b, [a0, a1, a2, a3, a4, a5, a6, a7]⟩ ∧
      (ev = 0 ∨ (ev = 2 ∧ g = 0 ∧ t = 1 ∧ o = 0 ∧ i = 0 ∧ b = 1 ∧ a0 = 0 ∧ a1 = 0 ∧ a2 = 0 ∧ a3 = 0 ∧ a4 = 0 ∧ a5 = 0 ∧ a6 = 0 ∧ a7 = 0)) := by
  have e := supAt_first h0 h1 hs.1
  by_cases h : mayP s
  · rw [if_pos h] at e
    obtain ⟨a0, a1, a2, a3, a4, a5, a6, a7, hx⟩ := sup_map hs
    obtain ⟨g, t, o, i, b, m⟩ := s
    simp only at hx
    subst hx
    exact ⟨0, g, t, o, i, b, a0, a1, a2, a3, a4, a5, a6, a7, by rw [if_pos h], e, Or.inl rfl⟩
  · rw [if_neg h] at e
    exact ⟨2, 0, 1, 0, 0, 1, 0, 0, 0, 0, 0, 0, 0, 0, by rw [if_neg h], e, Or.inr (by simp)⟩
end Go.Proofs.Ytgkbhdecohlpmaa
end

section
/-
  The document's SameValues, of blocks that are the same.
-/
namespace Go.Proofs.Ytgkbhdecohlpmaa
set_option maxRecDepth 100000
open Go.RowKit

/-- the eight cells of a block -/
theorem By.eight {w : World} {B b off : Nat} {bs : List Nat} {k n : Nat} (h : By w B (some ⟨b, off, none⟩) bs) (hn : bs.length = 8 * n) (hk : k < n) : ∀ j, j < 8 → w.cell? ⟨b, off + k * 8 + j, none⟩ = some (.int .u8 (bs.getD (k * 8 + j) 0 : Nat)) := by
  intro j hj
  obtain ⟨b', off', e, _, hc⟩ := h.at_ (by omega)
  obtain ⟨rfl, rfl⟩ : b = b' ∧ off = off' := by simpa using e
  rw [Nat.add_assoc]
  exact hc _ (by omega)
theorem neq_same (w : World) (x0 x1 x2 x3 x4 x5 x6 x7 : Nat) : (binOp .neq 49 (.agg #[.int .u8 (x0 : Int), .int .u8 (x1 : Int), .int .u8 (x2 : Int), .int .u8 (x3 : Int), .int .u8 (x4 : Int), .int .u8 (x5 : Int), .int .u8 (x6 : Int), .int .u8 (x7 : Int)]) (.agg #[.int .u8 (x0 : Int), .int .u8 (x1 : Int), .int .u8 (x2 : Int), .int .u8 (x3 : Int), .int .u8 (x4 : Int), .int .u8 (x5 : Int), .int .u8 (x6 : Int), .int .u8 (x7 : Int)])).run Try.prog w = .ok (.bool false) w := by
  have h := bytes_neq w 49 8 Try.underlying49 [x0, x1, x2, x3, x4, x5, x6, x7] [x0, x1, x2, x3, x4, x5, x6, x7] rfl rfl
  rw [decide_eq_true rfl] at h
  exact h
set_option maxHeartbeats 1000000 in
theorem samev_any (bs : List Nat) (n : Nat) (hn : bs.length = 8 * n) (A B : Option Addr) (c d : Nat) (w : World) (hA : By w w.heap.size A bs) (hB : By w w.heap.size B bs) (hl : n ≤ 1000000) :
    Calls Try.prog 10 #[.slice A n c, .slice B n d] w fun e w' => e = .returned (.bool true) ∧ Below w.heap.size w w' := by
  have HA := Lib.hid hA
  have HB := Lib.hid hB
  clear hA hB
  go_enter Try.func10, Try.ntmps10
  go_wp2
  go_loopw [5] (fun i wr => ∃ k : Nat, k ≤ n ∧ i = .int .i64 k ∧ Below w.heap.size w wr) (fun i _ => n - (intOf i).toNat)
  case atStart => exact ⟨0, by omega, rfl, Below.refl _ _⟩
  case round =>
    obtain ⟨k, hk, rfl, hb⟩ := hrel
    by_cases hlt : k < n
    · obtain ⟨b, off, rfl, hbw, _⟩ := HA.out.at_ (by omega)
      obtain ⟨b', off', rfl, hbw', _⟩ := HB.out.at_ (by omega)
      have c0 := (HA.out.below hb (Nat.le_refl _)).eight hn hlt
      have d0 := (HB.out.below hb (Nat.le_refl _)).eight hn hlt
      have a0 := c0 0 (by omega)
      have a1 := c0 1 (by omega)
      have a2 := c0 2 (by omega)
      have a3 := c0 3 (by omega)
      have a4 := c0 4 (by omega)
      have a5 := c0 5 (by omega)
      have a6 := c0 6 (by omega)
      have a7 := c0 7 (by omega)
      have b0 := d0 0 (by omega)
      have b1 := d0 1 (by omega)
      have b2 := d0 2 (by omega)
      have b3 := d0 3 (by omega)
      have b4 := d0 4 (by omega)
      have b5 := d0 5 (by omega)
      have b6 := d0 6 (by omega)
      have b7 := d0 7 (by omega)
      clear c0 d0
      rw [Nat.add_zero] at a0 b0
      generalize bs.getD (k * 8 + 0) 0 = x0 at *
      generalize bs.getD (k * 8 + 1) 0 = x1 at *
      generalize bs.getD (k * 8 + 2) 0 = x2 at *
      generalize bs.getD (k * 8 + 3) 0 = x3 at *
      generalize bs.getD (k * 8 + 4) 0 = x4 at *
      generalize bs.getD (k * 8 + 5) 0 = x5 at *
      generalize bs.getD (k * 8 + 6) 0 = x6 at *
      generalize bs.getD (k * 8 + 7) 0 = x7 at *
      have hq := fun w => neq_same w x0 x1 x2 x3 x4 x5 x6 x7
      have HBW := Lib.hid hb
      clear hb
      go_wp2_with fail
      go_region
      go_wp2
      go_roundw
      case rel => exact ⟨k + 1, by omega, by go_num, HBW.out.drew⟩
      case measure => simp [intOf]; omega
    · obtain rfl : k = n := by omega
      go_wp2
      go_ret
      exact ⟨rfl, hb⟩

end Go.Proofs.Ytgkbhdecohlpmaa
end

section
/-
  Two superblocks in turn, and a crash.
-/
namespace Go.Proofs.Ytgkbhdecohlpmaa
set_option maxRecDepth 100000
open Go.RowKit Dk
set_option maxRecDepth 100000

theorem sup_one {d : Dk.Dk} {a : Sup} (ha : mayP a) (hm : a.map.length = 8) (h1 : d.newest (a.gen % 2).toNat = supSec a) (h2 : d.newest ((a.gen + 1) % 2).toNat = List.replicate 64 0) : supAt d = some a := by
  have hg := ha.1
  unfold supAt getSp
  rcases (show a.gen % 2 = 0 ∨ a.gen % 2 = 1 by omega) with e | e
  · rw [e] at h1
    rw [show (a.gen + 1) % 2 = 1 by omega] at h2
    have h1' : d.newest 0 = supSec a := h1
    have h2' : d.newest 1 = List.replicate 64 0 := h2
    rw [h1', h2', read_sup ha hm 0 e, read_zero]
  · rw [e] at h1
    rw [show (a.gen + 1) % 2 = 0 by omega] at h2
    have h1' : d.newest 1 = supSec a := h1
    have h2' : d.newest 0 = List.replicate 64 0 := h2
    rw [h1', h2', read_sup ha hm 1 e, read_zero]
theorem sup_two {d : Dk.Dk} {a b : Sup} (ha : mayP a) (hb : mayP b) (hma : a.map.length = 8) (hmb : b.map.length = 8) (hg : b.gen = a.gen + 1) (h1 : d.newest (a.gen % 2).toNat = supSec a) (h2 : d.newest (b.gen % 2).toNat = supSec b) : supAt d = some b := by
  have hga := ha.1
  unfold supAt getSp
  rcases (show a.gen % 2 = 0 ∨ a.gen % 2 = 1 by omega) with e | e
  · have e2 : b.gen % 2 = 1 := by omega
    rw [e] at h1
    rw [e2] at h2
    have h1' : d.newest 0 = supSec a := h1
    have h2' : d.newest 1 = supSec b := h2
    rw [h1', h2', read_sup ha hma 0 e, read_sup hb hmb 1 e2]
    simp only
    rw [if_pos (by omega)]
  · have e2 : b.gen % 2 = 0 := by omega
    rw [e] at h1
    rw [e2] at h2
    have h1' : d.newest 1 = supSec a := h1
    have h2' : d.newest 0 = supSec b := h2
    rw [h1', h2', read_sup ha hma 1 e, read_sup hb hmb 0 e2]
    simp only
    rw [if_neg (by omega)]
/-- the disks of HomeBack -/
def bk2 (z : Int) (l : List (List Nat)) (a : Sup) : Dk.Dk := (putSD (putD Dk.fresh z l) a).flush
def bk3 (z : Int) (l : List (List Nat)) (a b : Sup) : Dk.Dk := putSD (bk2 z l a) b
def bk4 (z : Int) (l : List (List Nat)) (a b : Sup) (plan : List (Int × Int)) : Dk.Dk := { (bk3 z l a b).crash plan with down := false }
theorem newest_flush (d : Dk.Dk) (k : Nat) : d.flush.newest k = d.newest k := rfl
theorem bk2_new {z : Int} {l : List (List Nat)} {a : Sup} (ha : mayP a) : (bk2 z l a).newest (a.gen % 2).toNat = supSec a ∧ (bk2 z l a).newest ((a.gen + 1) % 2).toNat = List.replicate 64 0 := by
  have hg := ha.1
  unfold bk2 putSD
  rw [if_pos ha, newest_flush, newest_flush, newest_write, newest_write, if_pos rfl, if_neg (by omega)]
  refine ⟨rfl, ?_⟩
  rw [put_other _ (by omega)]; rfl
theorem bk2_sup {z : Int} {l : List (List Nat)} {a : Sup} (ha : mayP a) (hm : a.map.length = 8) : supAt (bk2 z l a) = some a := sup_one ha hm (bk2_new ha).1 (bk2_new ha).2
theorem bk3_sup {z : Int} {l : List (List Nat)} {a b : Sup} (ha : mayP a) (hb : mayP b) (hma : a.map.length = 8) (hmb : b.map.length = 8) (hg : b.gen = a.gen + 1) : supAt (bk3 z l a b) = some b := by
  have h0 := ha.1
  refine sup_two ha hb hma hmb hg ?_ ?_
  · unfold bk3 putSD
    rw [if_pos hb, newest_write, if_neg (by omega)]
    exact (bk2_new ha).1
  · unfold bk3 putSD
    rw [if_pos hb, newest_write, if_pos rfl]; rfl
theorem bk3_cache {z : Int} {l : List (List Nat)} {a b : Sup} (hb : mayP b) (n : Nat) : (bk3 z l a b).cache n = if n = (b.gen % 2).toNat then [supSec b] else [] := by
  unfold bk3 putSD
  rw [if_pos hb]
  show Dk.upd _ _ _ n = _
  unfold Dk.upd
  by_cases h : n = (b.gen % 2).toNat
  · rw [if_pos h, if_pos h]; rfl
  · rw [if_neg h, if_neg h]; rfl
theorem bk3_dur {z : Int} {l : List (List Nat)} {a b : Sup} (n : Nat) : (bk3 z l a b).dur n = (bk2 z l a).newest n := by
  unfold bk3 putSD
  split <;> rfl
theorem bk4_lost {z : Int} {l : List (List Nat)} {a b : Sup} (ha : mayP a) (hma : a.map.length = 8) : supAt (bk4 z l a b []) = some a := by
  have h : ∀ n, (bk4 z l a b []).newest n = (bk2 z l a).newest n := fun n => bk3_dur n
  exact sup_one ha hma (by rw [h]; exact (bk2_new ha).1) (by rw [h]; exact (bk2_new ha).2)
theorem bk4_kept {z : Int} {l : List (List Nat)} {a b : Sup} (ha : mayP a) (hb : mayP b) (hma : a.map.length = 8) (hmb : b.map.length = 8) (hg : b.gen = a.gen + 1) : supAt (bk4 z l a b [(b.gen % 2, 1)]) = some b := by
  have h0 := ha.1
  have hk : Dk.keptL (bk3 z l a b).cache [(b.gen % 2, 1)] [] = [((b.gen % 2).toNat, supSec b)] := by
    unfold Dk.keptL
    rw [if_pos ⟨by show (0 : Int) ≤ b.gen % 2; omega, by show b.gen % 2 < 34; omega, by simp⟩, bk3_cache hb, if_pos rfl, if_pos ⟨by show (1 : Int) ≤ 1; omega, by show (1 : Int) ≤ 1; omega⟩]
    rfl
  have h : ∀ n, (bk4 z l a b [(b.gen % 2, 1)]).newest n = if n = (b.gen % 2).toNat then supSec b else (bk2 z l a).newest n := fun n => by
    show ((Dk.keptL (bk3 z l a b).cache [(b.gen % 2, 1)] []).foldl Dk.stepS (bk3 z l a b).dur) n = _
    rw [hk]
    show Dk.upd _ _ _ n = _
    unfold Dk.upd
    by_cases e : n = (b.gen % 2).toNat
    · rw [if_pos e, if_pos e]
    · rw [if_neg e, if_neg e]; exact bk3_dur n
  refine sup_two ha hb hma hmb hg ?_ ?_
  · rw [h, if_neg (by omega)]
    exact (bk2_new ha).1
  · rw [h, if_pos rfl]
end Go.Proofs.Ytgkbhdecohlpmaa
end

section
/-
  What HomeBack's walk wants beside the facts: blocks beside a disk that turn, superblocks compared.
-/
namespace Go.Proofs.Ytgkbhdecohlpmaa
set_option maxRecDepth 100000
open Go.RowKit Dk
set_option maxRecDepth 100000

/-- a disk is made where blocks lie that stay -/
theorem fresh_held' {w W0 : World} {L : List (Nat × Obj)} (h0 : Below w.heap.size w W0) (hL : ∀ x ∈ L, W0.heap[x.1]? = some x.2) : Calls Try.prog 7 #[] W0 fun e w' =>
    e = .returned (.pointer (some ⟨W0.heap.size, 0, none⟩)) ∧ ∃ S, Held w w' S W0.heap.size Dk.fresh L := by
  refine (fresh_mine W0 W0 (Below.refl _ _)).mono fun e w' ⟨he, S, hm⟩ => ?_
  refine ⟨he, S, ⟨hm.disk, fun k hk => Nat.le_trans h0.size (hm.new k hk), h0.trans (hm.keeps.mono h0.size)⟩, fun x hx => ?_⟩
  have h1 := lt_of_obj (hL x hx)
  exact ⟨fun h2 => by have := hm.new _ h2; omega, (hm.keeps.block _ h1).trans (hL x hx)⟩
/-- a block beside the disk turns -/
theorem Held.turn {w W W' : World} {S : Nat → Prop} {a : Nat} {d : Dk.Dk} {L L' : List (Nat × Obj)} {g : Nat} (h : Held w W S a d L) (hg : W.grownBy W' (some g)) (hz : W.heap.size ≤ W'.heap.size) (hn : ¬ S g) (hw : w.heap.size ≤ g) (hL : ∀ x ∈ L', ¬ S x.1 ∧ W'.heap[x.1]? = some x.2) : Held w W' S a d L' :=
  ⟨⟨h.mine.disk.keep (fun k hk => hg.block k (h.mine.disk.old k hk) (fun e => hn (by rw [← Option.some.inj e]; exact hk))) hz, h.mine.new, h.mine.keeps.grown hg h.mine.keeps.size (fun k e => by cases e; exact hw)⟩, hL⟩
theorem sup_neq_refl (w : World) (g t o i b a0 a1 a2 a3 a4 a5 a6 a7 : Int) : (binOp .neq 25 (.agg #[.int .i64 g, .int .i64 t, .int .i64 o, .int .i64 i, .int .i64 b, .int .i64 a0, .int .i64 a1, .int .i64 a2, .int .i64 a3, .int .i64 a4, .int .i64 a5, .int .i64 a6, .int .i64 a7]) (.agg #[.int .i64 g, .int .i64 t, .int .i64 o, .int .i64 i, .int .i64 b, .int .i64 a0, .int .i64 a1, .int .i64 a2, .int .i64 a3, .int .i64 a4, .int .i64 a5, .int .i64 a6, .int .i64 a7])).run Try.prog w = .ok (.bool false) w := by
  have h8 := ints8_refl w a0 a1 a2 a3 a4 a5 a6 a7
  have x0 : (g == g) = true := by simp
  have x1 : (t == t) = true := by simp
  have x2 : (o == o) = true := by simp
  have x3 : (i == i) = true := by simp
  have x4 : (b == b) = true := by simp
  go_simp
/-- superblocks of two generations differ -/
theorem sup_eq_gen (w : World) (g g' t t' o o' i i' b b' a0 a1 a2 a3 a4 a5 a6 a7 c0 c1 c2 c3 c4 c5 c6 c7 : Int) (hg : g ≠ g') : (binOp .eql 25 (.agg #[.int .i64 g, .int .i64 t, .int .i64 o, .int .i64 i, .int .i64 b, .int .i64 a0, .int .i64 a1, .int .i64 a2, .int .i64 a3, .int .i64 a4, .int .i64 a5, .int .i64 a6, .int .i64 a7]) (.agg #[.int .i64 g', .int .i64 t', .int .i64 o', .int .i64 i', .int .i64 b', .int .i64 c0, .int .i64 c1, .int .i64 c2, .int .i64 c3, .int .i64 c4, .int .i64 c5, .int .i64 c6, .int .i64 c7])).run Try.prog w = .ok (.bool false) w := by
  have x0 : (g == g') = false := by simp [hg]
  go_simp
end Go.Proofs.Ytgkbhdecohlpmaa
end

section
/-
  HomeBack, by contract, where the first superblock may not be, or has no next generation.
-/
namespace Go.Proofs.Ytgkbhdecohlpmaa
set_option maxRecDepth 100000
open Go.RowKit Dk
set_option maxRecDepth 100000

set_option maxHeartbeats 8000000 in
theorem hback_early (C : Calls9) (x : Int) (l : List (List Nat)) (A : Option Addr) (c : Nat) (s r : Sup) (keep : Bool) (w : World)
    (hx : -9223372036854775808 ≤ x ∧ x ≤ 9223372036854775807) (hl : VFine l) (hA : By w w.heap.size A l.flatten) (hlc : l.length ≤ c) (hc : c ≤ maxLen) (hs : s.Fine) (hr : r.Fine)
    (hbad : ¬ mayP s ∨ 1099511627776 ≤ s.gen) :
    Calls Try.prog 3 #[.int .i64 x, .slice A l.length c, .agg s.cells, .agg r.cells, .bool keep] w fun e w' => e = .returned (.bool true) ∧ Below w.heap.size w w' := by
  obtain ⟨y0, y1, y2, y3, y4, y5, y6, y7, hx8⟩ := sup_map hs
  obtain ⟨z0, z1, z2, z3, z4, z5, z6, z7, hz8⟩ := sup_map hr
  obtain ⟨g1, t1, o1, i1, b1, m1⟩ := s
  obtain ⟨g2, t2, o2, i2, b2, m2⟩ := r
  simp only at hx8 hz8
  subst hx8 hz8
  have HC := Lib.hid C
  have HAr := Lib.hid (And.intro hA (And.intro hl hs))
  have HLe := Lib.hid (And.intro hlc (And.intro hc hx))
  have HBad := Lib.hid hbad
  rw [sup_cells, sup_cells]
  have hb0 := ((Below.refl w.heap.size w).alloc (Nat.le_refl _) (.cells #[.int .i64 g1, .int .i64 t1, .int .i64 o1, .int .i64 i1, .int .i64 b1, .int .i64 y0, .int .i64 y1, .int .i64 y2, .int .i64 y3, .int .i64 y4, .int .i64 y5, .int .i64 y6, .int .i64 y7] 25 (0, 0))).alloc (by simp) (.cells #[.int .i64 g2, .int .i64 t2, .int .i64 o2, .int .i64 i2, .int .i64 b2, .int .i64 z0, .int .i64 z1, .int .i64 z2, .int .i64 z3, .int .i64 z4, .int .i64 z5, .int .i64 z6, .int .i64 z7] 25 (0, 0))
  have q1 := heap_alloc_new' w (.cells #[.int .i64 g1, .int .i64 t1, .int .i64 o1, .int .i64 i1, .int .i64 b1, .int .i64 y0, .int .i64 y1, .int .i64 y2, .int .i64 y3, .int .i64 y4, .int .i64 y5, .int .i64 y6, .int .i64 y7] 25 (0, 0))
  have q2 := heap_alloc_new' (w.alloc (.cells #[.int .i64 g1, .int .i64 t1, .int .i64 o1, .int .i64 i1, .int .i64 b1, .int .i64 y0, .int .i64 y1, .int .i64 y2, .int .i64 y3, .int .i64 y4, .int .i64 y5, .int .i64 y6, .int .i64 y7] 25 (0, 0))) (.cells #[.int .i64 g2, .int .i64 t2, .int .i64 o2, .int .i64 i2, .int .i64 b2, .int .i64 z0, .int .i64 z1, .int .i64 z2, .int .i64 z3, .int .i64 z4, .int .i64 z5, .int .i64 z6, .int .i64 z7] 25 (0, 0))
  have q3 := (heap_alloc_old' (w.alloc (.cells #[.int .i64 g1, .int .i64 t1, .int .i64 o1, .int .i64 i1, .int .i64 b1, .int .i64 y0, .int .i64 y1, .int .i64 y2, .int .i64 y3, .int .i64 y4, .int .i64 y5, .int .i64 y6, .int .i64 y7] 25 (0, 0))) (.cells #[.int .i64 g2, .int .i64 t2, .int .i64 o2, .int .i64 i2, .int .i64 b2, .int .i64 z0, .int .i64 z1, .int .i64 z2, .int .i64 z3, .int .i64 z4, .int .i64 z5, .int .i64 z6, .int .i64 z7] 25 (0, 0)) _ (lt_of_obj q1)).trans q1
  rw [show (w.alloc (.cells #[.int .i64 g1, .int .i64 t1, .int .i64 o1, .int .i64 i1, .int .i64 b1, .int .i64 y0, .int .i64 y1, .int .i64 y2, .int .i64 y3, .int .i64 y4, .int .i64 y5, .int .i64 y6, .int .i64 y7] 25 (0, 0))).heap.size = w.heap.size + 1 by simp] at q2
  have H0 := Lib.hid (fresh_held' (L := [(w.heap.size, .cells #[.int .i64 g1, .int .i64 t1, .int .i64 o1, .int .i64 i1, .int .i64 b1, .int .i64 y0, .int .i64 y1, .int .i64 y2, .int .i64 y3, .int .i64 y4, .int .i64 y5, .int .i64 y6, .int .i64 y7] 25 (0, 0)), (w.heap.size + 1, .cells #[.int .i64 g2, .int .i64 t2, .int .i64 o2, .int .i64 i2, .int .i64 b2, .int .i64 z0, .int .i64 z1, .int .i64 z2, .int .i64 z3, .int .i64 z4, .int .i64 z5, .int .i64 z6, .int .i64 z7] 25 (0, 0))]) hb0 (fun y hy => by
    rcases List.mem_cons.1 hy with rfl | hy
    · exact q3
    · obtain rfl := List.mem_singleton.1 hy; exact q2))
  rw [show ((w.alloc (.cells #[.int .i64 g1, .int .i64 t1, .int .i64 o1, .int .i64 i1, .int .i64 b1, .int .i64 y0, .int .i64 y1, .int .i64 y2, .int .i64 y3, .int .i64 y4, .int .i64 y5, .int .i64 y6, .int .i64 y7] 25 (0, 0))).alloc (.cells #[.int .i64 g2, .int .i64 t2, .int .i64 o2, .int .i64 i2, .int .i64 b2, .int .i64 z0, .int .i64 z1, .int .i64 z2, .int .i64 z3, .int .i64 z4, .int .i64 z5, .int .i64 z6, .int .i64 z7] 25 (0, 0))).heap.size = w.heap.size + 2 by simp] at H0
  clear C hA hl hs hr hlc hc hx hbad hb0 q1 q2 q3
  go_enter Try.func3, Try.ntmps3
  go_wp2_with fail
  refine H0.out.mono ?_
  rintro e w1 ⟨rfl, S1, h1⟩
  have M1 := Lib.hid h1
  have H1 := Lib.hid (HC.out.put w1 S1 _ Dk.fresh x l A c h1.mine.disk rfl (fun n hn => by simp [Dk.fresh]) HAr.out.2.1 (h1.by_ HAr.out.1) HLe.out.1 HLe.out.2.1 HLe.out.2.2)
  clear h1 H0
  rcases put_code x l.length with he | he
  · have HE := Lib.hid he
    rw [he] at H1
    clear he
    go_wp2_with fail
    refine H1.out.mono ?_
    rintro e w2 ⟨rfl, hg⟩
    obtain ⟨S2, h2⟩ := M1.out.step hg
    have M2 := Lib.hid h2
    have hx0 := put_ok0 HE.out
    have H2 := Lib.hid (HC.out.get w2 S2 _ _ x.toNat h2.mine.disk (by rw [put_up]; rfl) (by omega))
    rw [home_newest _ HAr.out.2.1 HE.out, Int.toNat_of_nonneg hx0.1] at H2
    have hl4 : l.length = 4 := hx0.2.2
    clear h2 hg H1 M1 hx0
    go_wp2_with fail
    refine H2.out.mono ?_
    rintro e w3 ⟨A3, c3, rfl, hy3, _, _, hb3⟩
    have h3 := M2.out.below hb3
    have M3 := Lib.hid h3
    have H3 := Lib.hid (samev_any l.flatten 4 (by rw [flat_len8 l fun v hv => (HAr.out.2.1 v hv).1, hl4]) A3 A c3 c w3 hy3 (h3.by_ HAr.out.1) (by omega))
    rw [show ((some l).getD []).length = 4 from hl4]
    clear h3 hy3 hb3 H2 M2 hl4
    go_wp2_with fail
    refine H3.out.mono ?_
    rintro e w4 ⟨rfl, hb4⟩
    have M4 := Lib.hid (M3.out.below hb4)
    clear hb4 H3 M3
    obtain ⟨ce0, ce1, ce2, ce3, ce4, ce5, ce6, ce7, ce8, ce9, ce10, ce11, ce12⟩ := cells13 (M4.out.keeps _ List.mem_cons_self).2
    have HMay := Lib.hid (HC.out.may ⟨g1, t1, o1, i1, b1, [y0, y1, y2, y3, y4, y5, y6, y7]⟩ w4 HAr.out.2.2)
    rw [sup_cells] at HMay
    by_cases hm : mayP ⟨g1, t1, o1, i1, b1, [y0, y1, y2, y3, y4, y5, y6, y7]⟩
    · have hge : 1099511627776 ≤ g1 := by
        rcases HBad.out with h | h
        · exact absurd hm h
        · exact h
      rw [decide_eq_true hm] at HMay
      have HMy := Lib.hid hm
      clear hm
      go_wp2_with fail
      refine HMay.out.mono ?_
      rintro e v1 ⟨rfl, hv1⟩
      have N1 := Lib.hid (M4.out.below hv1)
      have K2 := Lib.hid (HC.out.puts v1 _ _ _ ⟨g1, t1, o1, i1, b1, [y0, y1, y2, y3, y4, y5, y6, y7]⟩ N1.out.mine.disk (by rw [put_up]; rfl) (fun n hn => by have := put_fewL fresh_few x l n hn; omega) HAr.out.2.2)
      rw [sup_cells, if_pos HMy.out] at K2
      clear hv1 HMay ce0 ce1 ce2 ce3 ce4 ce5 ce6 ce7 ce8 ce9 ce10 ce11 ce12
      obtain ⟨ce0, ce1, ce2, ce3, ce4, ce5, ce6, ce7, ce8, ce9, ce10, ce11, ce12⟩ := cells13 (N1.out.keeps _ List.mem_cons_self).2
      go_wp2_with fail
      refine K2.out.mono ?_
      rintro e v2 ⟨rfl, hg2⟩
      obtain ⟨T2, t2'⟩ := N1.out.step hg2
      have N2 := Lib.hid t2'
      have K3 := Lib.hid (HC.out.may ⟨g1, t1, o1, i1, b1, [y0, y1, y2, y3, y4, y5, y6, y7]⟩ v2 HAr.out.2.2)
      rw [sup_cells, decide_eq_true HMy.out] at K3
      clear hg2 t2' K2 ce0 ce1 ce2 ce3 ce4 ce5 ce6 ce7 ce8 ce9 ce10 ce11 ce12
      obtain ⟨ce0, ce1, ce2, ce3, ce4, ce5, ce6, ce7, ce8, ce9, ce10, ce11, ce12⟩ := cells13 (N2.out.keeps _ List.mem_cons_self).2
      go_wp2_with fail
      refine K3.out.mono ?_
      rintro e v3 ⟨rfl, hv3⟩
      have N3 := Lib.hid (N2.out.below hv3)
      clear hv3 K3 ce0 ce1 ce2 ce3 ce4 ce5 ce6 ce7 ce8 ce9 ce10 ce11 ce12
      go_wp2_with fail
      refine (wakes9_of HC.out _).mono ?_
      rintro e v4 ⟨rfl, hv4⟩
      go_wp2
      go_ret
      exact ⟨rfl, (N3.out.below hv4).mine.keeps⟩
    · rw [decide_eq_false hm] at HMay
      have HMy := Lib.hid hm
      clear hm
      go_wp2_with fail
      refine HMay.out.mono ?_
      rintro e v1 ⟨rfl, hv1⟩
      have N1 := Lib.hid (M4.out.below hv1)
      have K2 := Lib.hid (HC.out.puts v1 _ _ _ ⟨g1, t1, o1, i1, b1, [y0, y1, y2, y3, y4, y5, y6, y7]⟩ N1.out.mine.disk (by rw [put_up]; rfl) (fun n hn => by have := put_fewL fresh_few x l n hn; omega) HAr.out.2.2)
      rw [sup_cells, if_neg HMy.out] at K2
      clear hv1 HMay ce0 ce1 ce2 ce3 ce4 ce5 ce6 ce7 ce8 ce9 ce10 ce11 ce12
      obtain ⟨ce0, ce1, ce2, ce3, ce4, ce5, ce6, ce7, ce8, ce9, ce10, ce11, ce12⟩ := cells13 (N1.out.keeps _ List.mem_cons_self).2
      go_wp2_with fail
      refine K2.out.mono ?_
      rintro e v2 ⟨rfl, hg2⟩
      obtain ⟨T2, t2'⟩ := N1.out.step hg2
      have N2 := Lib.hid t2'
      have K3 := Lib.hid (HC.out.may ⟨g1, t1, o1, i1, b1, [y0, y1, y2, y3, y4, y5, y6, y7]⟩ v2 HAr.out.2.2)
      rw [sup_cells, decide_eq_false HMy.out] at K3
      clear hg2 t2' K2 ce0 ce1 ce2 ce3 ce4 ce5 ce6 ce7 ce8 ce9 ce10 ce11 ce12
      obtain ⟨ce0, ce1, ce2, ce3, ce4, ce5, ce6, ce7, ce8, ce9, ce10, ce11, ce12⟩ := cells13 (N2.out.keeps _ List.mem_cons_self).2
      go_wp2_with fail
      refine K3.out.mono ?_
      rintro e v3 ⟨rfl, hv3⟩
      have N3 := Lib.hid (N2.out.below hv3)
      clear hv3 K3 ce0 ce1 ce2 ce3 ce4 ce5 ce6 ce7 ce8 ce9 ce10 ce11 ce12
      go_wp2_with fail
      refine (wakes9_of HC.out _).mono ?_
      rintro e v4 ⟨rfl, hv4⟩
      go_wp2
      go_ret
      exact ⟨rfl, (N3.out.below hv4).mine.keeps⟩
  · rw [he] at H1
    clear he
    go_wp2_with fail
    refine H1.out.mono ?_
    rintro e w4 ⟨rfl, hg⟩
    obtain ⟨S2, h2⟩ := M1.out.step hg
    have M4 := Lib.hid h2
    clear h2 hg H1 M1
    obtain ⟨ce0, ce1, ce2, ce3, ce4, ce5, ce6, ce7, ce8, ce9, ce10, ce11, ce12⟩ := cells13 (M4.out.keeps _ List.mem_cons_self).2
    have HMay := Lib.hid (HC.out.may ⟨g1, t1, o1, i1, b1, [y0, y1, y2, y3, y4, y5, y6, y7]⟩ w4 HAr.out.2.2)
    rw [sup_cells] at HMay
    by_cases hm : mayP ⟨g1, t1, o1, i1, b1, [y0, y1, y2, y3, y4, y5, y6, y7]⟩
    · have hge : 1099511627776 ≤ g1 := by
        rcases HBad.out with h | h
        · exact absurd hm h
        · exact h
      rw [decide_eq_true hm] at HMay
      have HMy := Lib.hid hm
      clear hm
      go_wp2_with fail
      refine HMay.out.mono ?_
      rintro e v1 ⟨rfl, hv1⟩
      have N1 := Lib.hid (M4.out.below hv1)
      have K2 := Lib.hid (HC.out.puts v1 _ _ _ ⟨g1, t1, o1, i1, b1, [y0, y1, y2, y3, y4, y5, y6, y7]⟩ N1.out.mine.disk (by rw [put_up]; rfl) (fun n hn => by have := put_fewL fresh_few x l n hn; omega) HAr.out.2.2)
      rw [sup_cells, if_pos HMy.out] at K2
      clear hv1 HMay ce0 ce1 ce2 ce3 ce4 ce5 ce6 ce7 ce8 ce9 ce10 ce11 ce12
      obtain ⟨ce0, ce1, ce2, ce3, ce4, ce5, ce6, ce7, ce8, ce9, ce10, ce11, ce12⟩ := cells13 (N1.out.keeps _ List.mem_cons_self).2
      go_wp2_with fail
      refine K2.out.mono ?_
      rintro e v2 ⟨rfl, hg2⟩
      obtain ⟨T2, t2'⟩ := N1.out.step hg2
      have N2 := Lib.hid t2'
      have K3 := Lib.hid (HC.out.may ⟨g1, t1, o1, i1, b1, [y0, y1, y2, y3, y4, y5, y6, y7]⟩ v2 HAr.out.2.2)
      rw [sup_cells, decide_eq_true HMy.out] at K3
      clear hg2 t2' K2 ce0 ce1 ce2 ce3 ce4 ce5 ce6 ce7 ce8 ce9 ce10 ce11 ce12
      obtain ⟨ce0, ce1, ce2, ce3, ce4, ce5, ce6, ce7, ce8, ce9, ce10, ce11, ce12⟩ := cells13 (N2.out.keeps _ List.mem_cons_self).2
      go_wp2_with fail
      refine K3.out.mono ?_
      rintro e v3 ⟨rfl, hv3⟩
      have N3 := Lib.hid (N2.out.below hv3)
      clear hv3 K3 ce0 ce1 ce2 ce3 ce4 ce5 ce6 ce7 ce8 ce9 ce10 ce11 ce12
      go_wp2_with fail
      refine (wakes9_of HC.out _).mono ?_
      rintro e v4 ⟨rfl, hv4⟩
      go_wp2
      go_ret
      exact ⟨rfl, (N3.out.below hv4).mine.keeps⟩
    · rw [decide_eq_false hm] at HMay
      have HMy := Lib.hid hm
      clear hm
      go_wp2_with fail
      refine HMay.out.mono ?_
      rintro e v1 ⟨rfl, hv1⟩
      have N1 := Lib.hid (M4.out.below hv1)
      have K2 := Lib.hid (HC.out.puts v1 _ _ _ ⟨g1, t1, o1, i1, b1, [y0, y1, y2, y3, y4, y5, y6, y7]⟩ N1.out.mine.disk (by rw [put_up]; rfl) (fun n hn => by have := put_fewL fresh_few x l n hn; omega) HAr.out.2.2)
      rw [sup_cells, if_neg HMy.out] at K2
      clear hv1 HMay ce0 ce1 ce2 ce3 ce4 ce5 ce6 ce7 ce8 ce9 ce10 ce11 ce12
      obtain ⟨ce0, ce1, ce2, ce3, ce4, ce5, ce6, ce7, ce8, ce9, ce10, ce11, ce12⟩ := cells13 (N1.out.keeps _ List.mem_cons_self).2
      go_wp2_with fail
      refine K2.out.mono ?_
      rintro e v2 ⟨rfl, hg2⟩
      obtain ⟨T2, t2'⟩ := N1.out.step hg2
      have N2 := Lib.hid t2'
      have K3 := Lib.hid (HC.out.may ⟨g1, t1, o1, i1, b1, [y0, y1, y2, y3, y4, y5, y6, y7]⟩ v2 HAr.out.2.2)
      rw [sup_cells, decide_eq_false HMy.out] at K3
      clear hg2 t2' K2 ce0 ce1 ce2 ce3 ce4 ce5 ce6 ce7 ce8 ce9 ce10 ce11 ce12
      obtain ⟨ce0, ce1, ce2, ce3, ce4, ce5, ce6, ce7, ce8, ce9, ce10, ce11, ce12⟩ := cells13 (N2.out.keeps _ List.mem_cons_self).2
      go_wp2_with fail
      refine K3.out.mono ?_
      rintro e v3 ⟨rfl, hv3⟩
      have N3 := Lib.hid (N2.out.below hv3)
      clear hv3 K3 ce0 ce1 ce2 ce3 ce4 ce5 ce6 ce7 ce8 ce9 ce10 ce11 ce12
      go_wp2_with fail
      refine (wakes9_of HC.out _).mono ?_
      rintro e v4 ⟨rfl, hv4⟩
      go_wp2
      go_ret
      exact ⟨rfl, (N3.out.below hv4).mine.keeps⟩
end Go.Proofs.Ytgkbhdecohlpmaa
end

section
/-
  HomeBack, by contract, where the first superblock may be and has a next generation: Put answers OK, keep false.
-/
namespace Go.Proofs.Ytgkbhdecohlpmaa
set_option maxRecDepth 100000
open Go.RowKit Dk
set_option maxRecDepth 100000

set_option maxHeartbeats 8000000 in
theorem hback_a (C : Calls9) (x : Int) (l : List (List Nat)) (A : Option Addr) (c : Nat) (s r : Sup) (w : World)
    (hx : -9223372036854775808 ≤ x ∧ x ≤ 9223372036854775807) (hl : VFine l) (hA : By w w.heap.size A l.flatten) (hlc : l.length ≤ c) (hc : c ≤ maxLen) (hs : s.Fine) (hr : r.Fine)
    (hbad : mayP s ∧ s.gen < 1099511627776) (he : putHE x l.length = 0) :
    Calls Try.prog 3 #[.int .i64 x, .slice A l.length c, .agg s.cells, .agg r.cells, .bool false] w fun e w' => e = .returned (.bool true) ∧ Below w.heap.size w w' := by
  obtain ⟨y0, y1, y2, y3, y4, y5, y6, y7, hx8⟩ := sup_map hs
  obtain ⟨z0, z1, z2, z3, z4, z5, z6, z7, hz8⟩ := sup_map hr
  obtain ⟨g1, t1, o1, i1, b1, m1⟩ := s
  obtain ⟨g2, t2, o2, i2, b2, m2⟩ := r
  simp only at hx8 hz8
  subst hx8 hz8
  have HC := Lib.hid C
  have HAr := Lib.hid (And.intro hA (And.intro hl hs))
  have HFr := Lib.hid hr
  have HLe := Lib.hid (And.intro hlc (And.intro hc hx))
  have HBad := Lib.hid hbad
  have HE := Lib.hid he
  rw [sup_cells, sup_cells]
  have hb0 := ((Below.refl w.heap.size w).alloc (Nat.le_refl _) (.cells #[.int .i64 g1, .int .i64 t1, .int .i64 o1, .int .i64 i1, .int .i64 b1, .int .i64 y0, .int .i64 y1, .int .i64 y2, .int .i64 y3, .int .i64 y4, .int .i64 y5, .int .i64 y6, .int .i64 y7] 25 (0, 0))).alloc (by simp) (.cells #[.int .i64 g2, .int .i64 t2, .int .i64 o2, .int .i64 i2, .int .i64 b2, .int .i64 z0, .int .i64 z1, .int .i64 z2, .int .i64 z3, .int .i64 z4, .int .i64 z5, .int .i64 z6, .int .i64 z7] 25 (0, 0))
  have q1 := heap_alloc_new' w (.cells #[.int .i64 g1, .int .i64 t1, .int .i64 o1, .int .i64 i1, .int .i64 b1, .int .i64 y0, .int .i64 y1, .int .i64 y2, .int .i64 y3, .int .i64 y4, .int .i64 y5, .int .i64 y6, .int .i64 y7] 25 (0, 0))
  have q2 := heap_alloc_new' (w.alloc (.cells #[.int .i64 g1, .int .i64 t1, .int .i64 o1, .int .i64 i1, .int .i64 b1, .int .i64 y0, .int .i64 y1, .int .i64 y2, .int .i64 y3, .int .i64 y4, .int .i64 y5, .int .i64 y6, .int .i64 y7] 25 (0, 0))) (.cells #[.int .i64 g2, .int .i64 t2, .int .i64 o2, .int .i64 i2, .int .i64 b2, .int .i64 z0, .int .i64 z1, .int .i64 z2, .int .i64 z3, .int .i64 z4, .int .i64 z5, .int .i64 z6, .int .i64 z7] 25 (0, 0))
  have q3 := (heap_alloc_old' (w.alloc (.cells #[.int .i64 g1, .int .i64 t1, .int .i64 o1, .int .i64 i1, .int .i64 b1, .int .i64 y0, .int .i64 y1, .int .i64 y2, .int .i64 y3, .int .i64 y4, .int .i64 y5, .int .i64 y6, .int .i64 y7] 25 (0, 0))) (.cells #[.int .i64 g2, .int .i64 t2, .int .i64 o2, .int .i64 i2, .int .i64 b2, .int .i64 z0, .int .i64 z1, .int .i64 z2, .int .i64 z3, .int .i64 z4, .int .i64 z5, .int .i64 z6, .int .i64 z7] 25 (0, 0)) _ (lt_of_obj q1)).trans q1
  rw [show (w.alloc (.cells #[.int .i64 g1, .int .i64 t1, .int .i64 o1, .int .i64 i1, .int .i64 b1, .int .i64 y0, .int .i64 y1, .int .i64 y2, .int .i64 y3, .int .i64 y4, .int .i64 y5, .int .i64 y6, .int .i64 y7] 25 (0, 0))).heap.size = w.heap.size + 1 by simp] at q2
  have H0 := Lib.hid (fresh_held' (L := [(w.heap.size, .cells #[.int .i64 g1, .int .i64 t1, .int .i64 o1, .int .i64 i1, .int .i64 b1, .int .i64 y0, .int .i64 y1, .int .i64 y2, .int .i64 y3, .int .i64 y4, .int .i64 y5, .int .i64 y6, .int .i64 y7] 25 (0, 0)), (w.heap.size + 1, .cells #[.int .i64 g2, .int .i64 t2, .int .i64 o2, .int .i64 i2, .int .i64 b2, .int .i64 z0, .int .i64 z1, .int .i64 z2, .int .i64 z3, .int .i64 z4, .int .i64 z5, .int .i64 z6, .int .i64 z7] 25 (0, 0))]) hb0 (fun y hy => by
    rcases List.mem_cons.1 hy with rfl | hy
    · exact q3
    · obtain rfl := List.mem_singleton.1 hy; exact q2))
  rw [show ((w.alloc (.cells #[.int .i64 g1, .int .i64 t1, .int .i64 o1, .int .i64 i1, .int .i64 b1, .int .i64 y0, .int .i64 y1, .int .i64 y2, .int .i64 y3, .int .i64 y4, .int .i64 y5, .int .i64 y6, .int .i64 y7] 25 (0, 0))).alloc (.cells #[.int .i64 g2, .int .i64 t2, .int .i64 o2, .int .i64 i2, .int .i64 b2, .int .i64 z0, .int .i64 z1, .int .i64 z2, .int .i64 z3, .int .i64 z4, .int .i64 z5, .int .i64 z6, .int .i64 z7] 25 (0, 0))).heap.size = w.heap.size + 2 by simp] at H0
  clear C hA hl hs hr hlc hc hx hbad he hb0 q1 q2 q3
  go_enter Try.func3, Try.ntmps3
  go_wp2_with fail
  refine H0.out.mono ?_
  rintro e w1 ⟨rfl, S1, h1⟩
  have M1 := Lib.hid h1
  have H1 := Lib.hid (HC.out.put w1 S1 _ Dk.fresh x l A c h1.mine.disk rfl (fun n hn => by simp [Dk.fresh]) HAr.out.2.1 (h1.by_ HAr.out.1) HLe.out.1 HLe.out.2.1 HLe.out.2.2)
  clear h1 H0
  rw [HE.out] at H1
  go_wp2_with fail
  refine H1.out.mono ?_
  rintro e w2 ⟨rfl, hg⟩
  obtain ⟨S2, h2⟩ := M1.out.step hg
  have M2 := Lib.hid h2
  have hx0 := put_ok0 HE.out
  have H2 := Lib.hid (HC.out.get w2 S2 _ _ x.toNat h2.mine.disk (by rw [put_up]; rfl) (by omega))
  rw [home_newest _ HAr.out.2.1 HE.out, Int.toNat_of_nonneg hx0.1] at H2
  have hl4 : l.length = 4 := hx0.2.2
  clear h2 hg H1 M1 hx0
  go_wp2_with fail
  refine H2.out.mono ?_
  rintro e w3 ⟨A3, c3, rfl, hy3, _, _, hb3⟩
  have h3 := M2.out.below hb3
  have M3 := Lib.hid h3
  have H3 := Lib.hid (samev_any l.flatten 4 (by rw [flat_len8 l fun v hv => (HAr.out.2.1 v hv).1, hl4]) A3 A c3 c w3 hy3 (h3.by_ HAr.out.1) (by omega))
  rw [show ((some l).getD []).length = 4 from hl4]
  clear h3 hy3 hb3 H2 M2 hl4
  go_wp2_with fail
  refine H3.out.mono ?_
  rintro e w4 ⟨rfl, hb4⟩
  have M4 := Lib.hid (M3.out.below hb4)
  clear hb4 H3 M3
  obtain ⟨ce0, ce1, ce2, ce3, ce4, ce5, ce6, ce7, ce8, ce9, ce10, ce11, ce12⟩ := cells13 (M4.out.keeps _ List.mem_cons_self).2
  have HMay := Lib.hid (HC.out.may ⟨g1, t1, o1, i1, b1, [y0, y1, y2, y3, y4, y5, y6, y7]⟩ w4 HAr.out.2.2)
  rw [sup_cells] at HMay
  rw [decide_eq_true HBad.out.1] at HMay
  have hge : ¬ (1099511627776 ≤ g1) := by have h9 : g1 < 1099511627776 := HBad.out.2; omega
  have hg0 : 0 ≤ g1 := HBad.out.1.1.1
  have hwr : IntKind.i64.wrap (g1 + 1) = g1 + 1 := by rw [IntKind.wrap_i64]; omega
  go_wp2_with fail
  refine HMay.out.mono ?_
  rintro e v1 ⟨rfl, hv1⟩
  have N1 := Lib.hid (M4.out.below hv1)
  clear hv1 HMay ce0 ce1 ce2 ce3 ce4 ce5 ce6 ce7 ce8 ce9 ce10 ce11 ce12
  obtain ⟨ce0, ce1, ce2, ce3, ce4, ce5, ce6, ce7, ce8, ce9, ce10, ce11, ce12⟩ := cells13 (N1.out.keeps _ List.mem_cons_self).2
  have HSn := Lib.hid (show Sup.Fine ⟨g1 + 1, t2, o2, i2, b2, [z0, z1, z2, z3, z4, z5, z6, z7]⟩ from ⟨rfl, fun z hz => by
    have h8 := HFr.out.2
    have h9 : g1 < 1099511627776 := HBad.out.2
    unfold Sup.ints at hz h8
    rcases List.mem_cons.1 hz with rfl | hz
    · show -9223372036854775808 ≤ g1 + 1 ∧ g1 + 1 ≤ 9223372036854775807; omega
    · exact h8 z (List.mem_cons_of_mem _ hz)⟩)
  have hrb := (N1.out.keeps _ (List.mem_cons_of_mem _ List.mem_cons_self)).2
  have hcb := cell_of_row v1 (w.heap.size + 1) 0 _ _ _ hrb
  have hfb := frozen_of_row v1 (w.heap.size + 1) 0 _ _ hrb
  change v1.cell? ⟨w.heap.size + 1, 0, none⟩ = some (.int .i64 g2) at hcb
  have hq5 := heap_setCell_same v1 (w.heap.size + 1) 0 _ _ (.int .i64 (g1 + 1)) hrb
  have N5 := Lib.hid (N1.out.turn (W' := (v1.setCell ⟨w.heap.size + 1, 0, none⟩ (.int .i64 (g1 + 1)))) (L' := [(w.heap.size, .cells #[.int .i64 g1, .int .i64 t1, .int .i64 o1, .int .i64 i1, .int .i64 b1, .int .i64 y0, .int .i64 y1, .int .i64 y2, .int .i64 y3, .int .i64 y4, .int .i64 y5, .int .i64 y6, .int .i64 y7] 25 (0, 0)), (w.heap.size + 1, .cells #[.int .i64 (g1 + 1), .int .i64 t2, .int .i64 o2, .int .i64 i2, .int .i64 b2, .int .i64 z0, .int .i64 z1, .int .i64 z2, .int .i64 z3, .int .i64 z4, .int .i64 z5, .int .i64 z6, .int .i64 z7] 25 (0, 0))]) (grown_setCell v1 (w.heap.size + 1) 0 (.int .i64 (g1 + 1))) (by simp [World.setCell]) (N1.out.keeps _ (List.mem_cons_of_mem _ List.mem_cons_self)).1 (by omega) (fun y hy => by
    rcases List.mem_cons.1 hy with rfl | hy
    · exact ⟨(N1.out.keeps _ List.mem_cons_self).1, (Below.heap_setCell v1 _ _ _ (by simp)).trans (N1.out.keeps _ List.mem_cons_self).2⟩
    · obtain rfl := List.mem_singleton.1 hy
      exact ⟨(N1.out.keeps _ (List.mem_cons_of_mem _ List.mem_cons_self)).1, hq5⟩))
  have K2 := Lib.hid (HC.out.puts (v1.setCell ⟨w.heap.size + 1, 0, none⟩ (.int .i64 (g1 + 1))) _ _ _ ⟨g1, t1, o1, i1, b1, [y0, y1, y2, y3, y4, y5, y6, y7]⟩ N5.out.mine.disk (by rw [put_up]; rfl) (fun n hn => by have := put_fewL fresh_few x l n hn; omega) HAr.out.2.2)
  rw [sup_cells, if_pos HBad.out.1] at K2
  clear hq5 hrb
  go_wp2_with fail
  refine K2.out.mono ?_
  rintro e v2 ⟨rfl, hg2⟩
  obtain ⟨T2, t2'⟩ := N5.out.step hg2
  have N2 := Lib.hid t2'
  have K3 := Lib.hid (flush_ok t2'.mine.disk (by rw [putS_up, put_up]; rfl))
  clear hg2 t2' K2 N1 N5 hcb hfb ce0 ce1 ce2 ce3 ce4 ce5 ce6 ce7 ce8 ce9 ce10 ce11 ce12
  go_wp2_with fail
  refine K3.out.mono ?_
  rintro e v3 ⟨rfl, hg3⟩
  obtain ⟨T3, t3'⟩ := N2.out.step hg3
  have N3 := Lib.hid (show Held w v3 T3 _ (bk2 x l ⟨g1, t1, o1, i1, b1, [y0, y1, y2, y3, y4, y5, y6, y7]⟩) _ from t3')
  have hup2 : (bk2 x l ⟨g1, t1, o1, i1, b1, [y0, y1, y2, y3, y4, y5, y6, y7]⟩).down = false := by show (putSD (putD Dk.fresh x l) ⟨g1, t1, o1, i1, b1, [y0, y1, y2, y3, y4, y5, y6, y7]⟩).down = false; rw [putS_up, put_up]; rfl
  have K4 := Lib.hid (HC.out.gets v3 T3 _ (bk2 x l ⟨g1, t1, o1, i1, b1, [y0, y1, y2, y3, y4, y5, y6, y7]⟩) t3'.mine.disk hup2)
  rw [bk2_sup HBad.out.1 rfl] at K4
  clear hg3 t3' K3 N2
  go_wp2_with fail
  refine K4.out.mono ?_
  rintro e v4 ⟨r4, rfl, _, hr4, hv4⟩
  obtain rfl := hr4 _ rfl
  rw [sup_cells]
  have N4 := Lib.hid ((N3.out.below hv4).push #[.int .i64 g1, .int .i64 t1, .int .i64 o1, .int .i64 i1, .int .i64 b1, .int .i64 y0, .int .i64 y1, .int .i64 y2, .int .i64 y3, .int .i64 y4, .int .i64 y5, .int .i64 y6, .int .i64 y7] 25 (0, 0))
  clear hr4 K4
  have hlt4 : w.heap.size + 1 < v4.heap.size := lt_of_obj ((N3.out.below hv4).keeps _ (List.mem_cons_of_mem _ List.mem_cons_self)).2
  clear hv4 N3
  generalize hxb : v4.heap.size = xb at N4 hlt4
  have HXb := Lib.hid (show w.heap.size + 1 < xb ∧ w.heap.size ≤ xb from ⟨hlt4, by omega⟩)
  clear hlt4
  obtain ⟨W4, hW4⟩ : ∃ W4, W4 = v4.alloc (.cells #[.int .i64 g1, .int .i64 t1, .int .i64 o1, .int .i64 i1, .int .i64 b1, .int .i64 y0, .int .i64 y1, .int .i64 y2, .int .i64 y3, .int .i64 y4, .int .i64 y5, .int .i64 y6, .int .i64 y7] 25 (0, 0)) := ⟨_, rfl⟩
  rw [← hW4] at N4
  have qn := ints8_refl W4 y0 y1 y2 y3 y4 y5 y6 y7
  have x0 : (g1 == g1) = true := by simp
  have x1 : (t1 == t1) = true := by simp
  have x2 : (o1 == o1) = true := by simp
  have x3 : (i1 == i1) = true := by simp
  have x4 : (b1 == b1) = true := by simp
  obtain ⟨cf0, cf1, cf2, cf3, cf4, cf5, cf6, cf7, cf8, cf9, cf10, cf11, cf12⟩ := cells13 (N4.out.keeps _ List.mem_cons_self).2
  obtain ⟨ce0, ce1, ce2, ce3, ce4, ce5, ce6, ce7, ce8, ce9, ce10, ce11, ce12⟩ := cells13 (N4.out.keeps _ (List.mem_cons_of_mem _ List.mem_cons_self)).2
  rw [hW4] at qn cf0 cf1 cf2 cf3 cf4 cf5 cf6 cf7 cf8 cf9 cf10 cf11 cf12 ce0 ce1 ce2 ce3 ce4 ce5 ce6 ce7 ce8 ce9 ce10 ce11 ce12
  rw [← hxb] at cf0 cf1 cf2 cf3 cf4 cf5 cf6 cf7 cf8 cf9 cf10 cf11 cf12
  have K5 := Lib.hid (HC.out.puts W4 T3 _ (bk2 x l ⟨g1, t1, o1, i1, b1, [y0, y1, y2, y3, y4, y5, y6, y7]⟩) ⟨g1 + 1, t2, o2, i2, b2, [z0, z1, z2, z3, z4, z5, z6, z7]⟩ N4.out.mine.disk hup2 (fun n hn => by simp [bk2, Dk.Dk.flush]) HSn.out)
  rw [sup_cells] at K5
  obtain ⟨cg0, cg1, cg2, cg3, cg4, cg5, cg6, cg7, cg8, cg9, cg10, cg11, cg12⟩ := cells13 (N4.out.keeps _ (List.mem_cons_of_mem _ (List.mem_cons_of_mem _ List.mem_cons_self))).2
  rw [hW4] at cg0 cg1 cg2 cg3 cg4 cg5 cg6 cg7 cg8 cg9 cg10 cg11 cg12 K5
  by_cases hmb : mayP ⟨g1 + 1, t2, o2, i2, b2, [z0, z1, z2, z3, z4, z5, z6, z7]⟩
  rotate_left
  · rw [if_neg hmb] at K5
    go_wp2_with fail
    refine K5.out.mono ?_
    rintro e v5 ⟨rfl, hg5⟩
    rw [← hW4] at hg5
    obtain ⟨T5, t5'⟩ := N4.out.step hg5
    have N5 := Lib.hid t5'
    have K6 := Lib.hid (HC.out.may ⟨g1 + 1, t2, o2, i2, b2, [z0, z1, z2, z3, z4, z5, z6, z7]⟩ v5 HSn.out)
    rw [sup_cells, decide_eq_false hmb] at K6
    clear hg5 t5' K5 qn cf0 cf1 cf2 cf3 cf4 cf5 cf6 cf7 cf8 cf9 cf10 cf11 cf12 ce0 ce1 ce2 ce3 ce4 ce5 ce6 ce7 ce8 ce9 ce10 ce11 ce12 cg0 cg1 cg2 cg3 cg4 cg5 cg6 cg7 cg8 cg9 cg10 cg11 cg12
    obtain ⟨cg0, cg1, cg2, cg3, cg4, cg5, cg6, cg7, cg8, cg9, cg10, cg11, cg12⟩ := cells13 (N5.out.keeps _ (List.mem_cons_of_mem _ (List.mem_cons_of_mem _ List.mem_cons_self))).2
    go_wp2_with fail
    refine K6.out.mono ?_
    rintro e v6 ⟨rfl, hv6⟩
    have N6 := Lib.hid (N5.out.below hv6)
    clear hv6 K6 cg0 cg1 cg2 cg3 cg4 cg5 cg6 cg7 cg8 cg9 cg10 cg11 cg12
    go_wp2_with fail
    refine (wakes9_of HC.out _).mono ?_
    rintro e v7 ⟨rfl, hv7⟩
    go_wp2
    go_ret
    exact ⟨rfl, (N6.out.below hv7).mine.keeps⟩
  rw [if_pos hmb] at K5
  have HMb := Lib.hid hmb
  clear hmb
  go_wp2_with fail
  refine K5.out.mono ?_
  rintro e v5 ⟨rfl, hg5⟩
  rw [← hW4] at hg5
  obtain ⟨T5, t5'⟩ := N4.out.step hg5
  have N5 := Lib.hid (show Held w v5 T5 _ (bk3 x l ⟨g1, t1, o1, i1, b1, [y0, y1, y2, y3, y4, y5, y6, y7]⟩ ⟨g1 + 1, t2, o2, i2, b2, [z0, z1, z2, z3, z4, z5, z6, z7]⟩) _ from t5')
  have hup3 : (bk3 x l ⟨g1, t1, o1, i1, b1, [y0, y1, y2, y3, y4, y5, y6, y7]⟩ ⟨g1 + 1, t2, o2, i2, b2, [z0, z1, z2, z3, z4, z5, z6, z7]⟩).down = false := by show (putSD (bk2 x l ⟨g1, t1, o1, i1, b1, [y0, y1, y2, y3, y4, y5, y6, y7]⟩) ⟨g1 + 1, t2, o2, i2, b2, [z0, z1, z2, z3, z4, z5, z6, z7]⟩).down = false; rw [putS_up]; exact hup2
  have K6 := Lib.hid (HC.out.gets v5 T5 _ (bk3 x l ⟨g1, t1, o1, i1, b1, [y0, y1, y2, y3, y4, y5, y6, y7]⟩ ⟨g1 + 1, t2, o2, i2, b2, [z0, z1, z2, z3, z4, z5, z6, z7]⟩) t5'.mine.disk hup3)
  rw [bk3_sup HBad.out.1 HMb.out rfl rfl rfl] at K6
  clear hg5 t5' K5 N4 qn cf0 cf1 cf2 cf3 cf4 cf5 cf6 cf7 cf8 cf9 cf10 cf11 cf12 ce0 ce1 ce2 ce3 ce4 ce5 ce6 ce7 ce8 ce9 ce10 ce11 ce12 cg0 cg1 cg2 cg3 cg4 cg5 cg6 cg7 cg8 cg9 cg10 cg11 cg12
  go_wp2_with fail
  refine K6.out.mono ?_
  rintro e v6 ⟨r6, rfl, _, hr6, hv6⟩
  obtain rfl := hr6 _ rfl
  rw [sup_cells]
  have N6 := Lib.hid (N5.out.below hv6)
  have HX6 := Lib.hid (N5.out.below hv6 |>.keeps _ List.mem_cons_self).2
  have HI := Lib.hid (show (Try.prog.info? 25).map (·.size) = some (#[.int .i64 (g1 + 1), .int .i64 t2, .int .i64 o2, .int .i64 i2, .int .i64 b2, .int .i64 z0, .int .i64 z1, .int .i64 z2, .int .i64 z3, .int .i64 z4, .int .i64 z5, .int .i64 z6, .int .i64 z7] : Array Value).size by kernel_rfl)
  have HZ := Lib.hid (show (#[.int .i64 g1, .int .i64 t1, .int .i64 o1, .int .i64 i1, .int .i64 b1, .int .i64 y0, .int .i64 y1, .int .i64 y2, .int .i64 y3, .int .i64 y4, .int .i64 y5, .int .i64 y6, .int .i64 y7] : Array Value).size = (#[.int .i64 (g1 + 1), .int .i64 t2, .int .i64 o2, .int .i64 i2, .int .i64 b2, .int .i64 z0, .int .i64 z1, .int .i64 z2, .int .i64 z3, .int .i64 z4, .int .i64 z5, .int .i64 z6, .int .i64 z7] : Array Value).size from rfl)
  have HO := Lib.hid (show (#[.int .i64 (g1 + 1), .int .i64 t2, .int .i64 o2, .int .i64 i2, .int .i64 b2, .int .i64 z0, .int .i64 z1, .int .i64 z2, .int .i64 z3, .int .i64 z4, .int .i64 z5, .int .i64 z6, .int .i64 z7] : Array Value).all (·.oneCell') = true by simp [Value.oneCell'])
  have N7 := Lib.hid (N6.out.turn (W' := v6.setRow xb #[.int .i64 (g1 + 1), .int .i64 t2, .int .i64 o2, .int .i64 i2, .int .i64 b2, .int .i64 z0, .int .i64 z1, .int .i64 z2, .int .i64 z3, .int .i64 z4, .int .i64 z5, .int .i64 z6, .int .i64 z7]) (L' := [(xb, .cells #[.int .i64 (g1 + 1), .int .i64 t2, .int .i64 o2, .int .i64 i2, .int .i64 b2, .int .i64 z0, .int .i64 z1, .int .i64 z2, .int .i64 z3, .int .i64 z4, .int .i64 z5, .int .i64 z6, .int .i64 z7] 25 (0, 0)), (w.heap.size, .cells #[.int .i64 g1, .int .i64 t1, .int .i64 o1, .int .i64 i1, .int .i64 b1, .int .i64 y0, .int .i64 y1, .int .i64 y2, .int .i64 y3, .int .i64 y4, .int .i64 y5, .int .i64 y6, .int .i64 y7] 25 (0, 0)), (w.heap.size + 1, .cells #[.int .i64 (g1 + 1), .int .i64 t2, .int .i64 o2, .int .i64 i2, .int .i64 b2, .int .i64 z0, .int .i64 z1, .int .i64 z2, .int .i64 z3, .int .i64 z4, .int .i64 z5, .int .i64 z6, .int .i64 z7] 25 (0, 0))]) (grown_setRow v6 xb #[.int .i64 (g1 + 1), .int .i64 t2, .int .i64 o2, .int .i64 i2, .int .i64 b2, .int .i64 z0, .int .i64 z1, .int .i64 z2, .int .i64 z3, .int .i64 z4, .int .i64 z5, .int .i64 z6, .int .i64 z7]) (by simp [World.setRow]) (N6.out.keeps _ List.mem_cons_self).1 HXb.out.2 (fun y hy => by
    rcases List.mem_cons.1 hy with rfl | hy
    · exact ⟨(N6.out.keeps _ List.mem_cons_self).1, setRow_heap _ _ _ _ _ _ HX6.out⟩
    · have h1 := N6.out.keeps y (List.mem_cons_of_mem _ hy)
      refine ⟨h1.1, (setRow_other _ _ _ _ (fun e => ?_)).trans h1.2⟩
      rcases List.mem_cons.1 hy with rfl | hy
      · have := HXb.out.1; simp only at e; omega
      · obtain rfl := List.mem_singleton.1 hy
        have := HXb.out.1; simp only at e; omega))
  clear hv6 hr6 K6 N5
  obtain ⟨cf0, cf1, cf2, cf3, cf4, cf5, cf6, cf7, cf8, cf9, cf10, cf11, cf12⟩ := cells13 (N7.out.keeps _ List.mem_cons_self).2
  obtain ⟨cg0, cg1, cg2, cg3, cg4, cg5, cg6, cg7, cg8, cg9, cg10, cg11, cg12⟩ := cells13 (N7.out.keeps _ (List.mem_cons_of_mem _ (List.mem_cons_of_mem _ List.mem_cons_self))).2
  have qn := ints8_refl (v6.setRow xb #[.int .i64 (g1 + 1), .int .i64 t2, .int .i64 o2, .int .i64 i2, .int .i64 b2, .int .i64 z0, .int .i64 z1, .int .i64 z2, .int .i64 z3, .int .i64 z4, .int .i64 z5, .int .i64 z6, .int .i64 z7]) z0 z1 z2 z3 z4 z5 z6 z7
  have x0 : (g1 + 1 == g1 + 1) = true := by simp
  have x1 : (t2 == t2) = true := by simp
  have x2 : (o2 == o2) = true := by simp
  have x3 : (i2 == i2) = true := by simp
  have x4 : (b2 == b2) = true := by simp
  go_wp2_with (refine wpList_store_row rfl 25 _ _ rfl xb #[.int .i64 (g1 + 1), .int .i64 t2, .int .i64 o2, .int .i64 i2, .int .i64 b2, .int .i64 z0, .int .i64 z1, .int .i64 z2, .int .i64 z3, .int .i64 z4, .int .i64 z5, .int .i64 z6, .int .i64 z7] rfl rfl 25 #[.int .i64 g1, .int .i64 t1, .int .i64 o1, .int .i64 i1, .int .i64 b1, .int .i64 y0, .int .i64 y1, .int .i64 y2, .int .i64 y3, .int .i64 y4, .int .i64 y5, .int .i64 y6, .int .i64 y7] HX6.out HI.out HZ.out HO.out ?_)
  clear qn x0 x1 x2 x3 x4 cf0 cf1 cf2 cf3 cf4 cf5 cf6 cf7 cf8 cf9 cf10 cf11 cf12 HX6
  obtain ⟨W7, hW7⟩ : ∃ W7, W7 = v6.setRow xb #[.int .i64 (g1 + 1), .int .i64 t2, .int .i64 o2, .int .i64 i2, .int .i64 b2, .int .i64 z0, .int .i64 z1, .int .i64 z2, .int .i64 z3, .int .i64 z4, .int .i64 z5, .int .i64 z6, .int .i64 z7] := ⟨_, rfl⟩
  rw [← hW7] at N7
  have hmod : (g1 + 1).tmod 2 = (g1 + 1) % 2 := Int.tmod_eq_emod_of_nonneg (by omega)
  have K8 := Lib.hid (crash_ok (d := bk3 x l ⟨g1, t1, o1, i1, b1, [y0, y1, y2, y3, y4, y5, y6, y7]⟩ ⟨g1 + 1, t2, o2, i2, b2, [z0, z1, z2, z3, z4, z5, z6, z7]⟩) N7.out.mine.disk hup3 (fun n hn => by rw [bk3_cache HMb.out]; split <;> simp) (A := none) (cap := 0) (plan := []) (fun h => absurd h (by simp)) (by simp) (by simp))
  rw [hW7] at K8
  have N7' := Lib.hid (hW7 ▸ N7.out)
  go_wp2_with fail
  refine K8.out.mono ?_
  rintro e v8 ⟨rfl, hg8⟩
  obtain ⟨T8, t8'⟩ := N7'.out.step hg8
  have N8 := Lib.hid t8'
  have K9 := Lib.hid (up_any t8'.mine.disk)
  rw [show ((bk3 x l ⟨g1, t1, o1, i1, b1, [y0, y1, y2, y3, y4, y5, y6, y7]⟩ ⟨g1 + 1, t2, o2, i2, b2, [z0, z1, z2, z3, z4, z5, z6, z7]⟩).crash []).down = true from rfl, if_pos rfl] at K9
  clear hg8 t8' K8
  go_wp2_with fail
  refine K9.out.mono ?_
  rintro e v9 ⟨rfl, hg9⟩
  obtain ⟨T9, t9'⟩ := N8.out.step hg9
  have N9 := Lib.hid (show Held w v9 T9 _ (bk4 x l ⟨g1, t1, o1, i1, b1, [y0, y1, y2, y3, y4, y5, y6, y7]⟩ ⟨g1 + 1, t2, o2, i2, b2, [z0, z1, z2, z3, z4, z5, z6, z7]⟩ []) _ from t9')
  have K10 := Lib.hid (HC.out.gets v9 T9 _ (bk4 x l ⟨g1, t1, o1, i1, b1, [y0, y1, y2, y3, y4, y5, y6, y7]⟩ ⟨g1 + 1, t2, o2, i2, b2, [z0, z1, z2, z3, z4, z5, z6, z7]⟩ []) t9'.mine.disk rfl)
  rw [bk4_lost HBad.out.1 rfl] at K10
  clear hg9 t9' K9 N8
  go_wp2_with fail
  refine K10.out.mono ?_
  rintro e v10 ⟨r10, rfl, _, hr10, hv10⟩
  obtain rfl := hr10 _ rfl
  rw [sup_cells]
  have N10 := Lib.hid (N9.out.below hv10)
  have HX10 := Lib.hid (N10.out.keeps _ List.mem_cons_self).2
  clear hv10 hr10 K10 N9
  have HI := Lib.hid (show (Try.prog.info? 25).map (·.size) = some (#[.int .i64 g1, .int .i64 t1, .int .i64 o1, .int .i64 i1, .int .i64 b1, .int .i64 y0, .int .i64 y1, .int .i64 y2, .int .i64 y3, .int .i64 y4, .int .i64 y5, .int .i64 y6, .int .i64 y7] : Array Value).size by kernel_rfl)
  have HO := Lib.hid (show (#[.int .i64 g1, .int .i64 t1, .int .i64 o1, .int .i64 i1, .int .i64 b1, .int .i64 y0, .int .i64 y1, .int .i64 y2, .int .i64 y3, .int .i64 y4, .int .i64 y5, .int .i64 y6, .int .i64 y7] : Array Value).all (·.oneCell') = true by simp [Value.oneCell'])
  have N11 := Lib.hid (N10.out.turn (W' := v10.setRow xb #[.int .i64 g1, .int .i64 t1, .int .i64 o1, .int .i64 i1, .int .i64 b1, .int .i64 y0, .int .i64 y1, .int .i64 y2, .int .i64 y3, .int .i64 y4, .int .i64 y5, .int .i64 y6, .int .i64 y7]) (L' := [(xb, .cells #[.int .i64 g1, .int .i64 t1, .int .i64 o1, .int .i64 i1, .int .i64 b1, .int .i64 y0, .int .i64 y1, .int .i64 y2, .int .i64 y3, .int .i64 y4, .int .i64 y5, .int .i64 y6, .int .i64 y7] 25 (0, 0)), (w.heap.size, .cells #[.int .i64 g1, .int .i64 t1, .int .i64 o1, .int .i64 i1, .int .i64 b1, .int .i64 y0, .int .i64 y1, .int .i64 y2, .int .i64 y3, .int .i64 y4, .int .i64 y5, .int .i64 y6, .int .i64 y7] 25 (0, 0)), (w.heap.size + 1, .cells #[.int .i64 (g1 + 1), .int .i64 t2, .int .i64 o2, .int .i64 i2, .int .i64 b2, .int .i64 z0, .int .i64 z1, .int .i64 z2, .int .i64 z3, .int .i64 z4, .int .i64 z5, .int .i64 z6, .int .i64 z7] 25 (0, 0))]) (grown_setRow v10 xb #[.int .i64 g1, .int .i64 t1, .int .i64 o1, .int .i64 i1, .int .i64 b1, .int .i64 y0, .int .i64 y1, .int .i64 y2, .int .i64 y3, .int .i64 y4, .int .i64 y5, .int .i64 y6, .int .i64 y7]) (by simp [World.setRow]) (N10.out.keeps _ List.mem_cons_self).1 HXb.out.2 (fun y hy => by
    rcases List.mem_cons.1 hy with rfl | hy
    · exact ⟨(N10.out.keeps _ List.mem_cons_self).1, setRow_heap _ _ _ _ _ _ HX10.out⟩
    · have h1 := N10.out.keeps y (List.mem_cons_of_mem _ hy)
      refine ⟨h1.1, (setRow_other _ _ _ _ (fun e => ?_)).trans h1.2⟩
      rcases List.mem_cons.1 hy with rfl | hy
      · have := HXb.out.1; simp only at e; omega
      · obtain rfl := List.mem_singleton.1 hy
        have := HXb.out.1; simp only at e; omega))
  clear N10
  obtain ⟨cf0, cf1, cf2, cf3, cf4, cf5, cf6, cf7, cf8, cf9, cf10, cf11, cf12⟩ := cells13 (N11.out.keeps _ List.mem_cons_self).2
  obtain ⟨ce0, ce1, ce2, ce3, ce4, ce5, ce6, ce7, ce8, ce9, ce10, ce11, ce12⟩ := cells13 (N11.out.keeps _ (List.mem_cons_of_mem _ List.mem_cons_self)).2
  obtain ⟨cg0, cg1, cg2, cg3, cg4, cg5, cg6, cg7, cg8, cg9, cg10, cg11, cg12⟩ := cells13 (N11.out.keeps _ (List.mem_cons_of_mem _ (List.mem_cons_of_mem _ List.mem_cons_self))).2
  have qn := ints8_refl (v10.setRow xb #[.int .i64 g1, .int .i64 t1, .int .i64 o1, .int .i64 i1, .int .i64 b1, .int .i64 y0, .int .i64 y1, .int .i64 y2, .int .i64 y3, .int .i64 y4, .int .i64 y5, .int .i64 y6, .int .i64 y7]) y0 y1 y2 y3 y4 y5 y6 y7; have x0 : (g1 == g1) = true := (by simp); have x1 : (t1 == t1) = true := (by simp); have x2 : (o1 == o1) = true := (by simp); have x3 : (i1 == i1) = true := (by simp); have x4 : (b1 == b1) = true := (by simp); have xn : (g1 == g1 + 1) = false := (by simp; omega)
  go_wp2_with (refine wpList_store_row rfl 25 _ _ rfl xb #[.int .i64 g1, .int .i64 t1, .int .i64 o1, .int .i64 i1, .int .i64 b1, .int .i64 y0, .int .i64 y1, .int .i64 y2, .int .i64 y3, .int .i64 y4, .int .i64 y5, .int .i64 y6, .int .i64 y7] rfl rfl 25 #[.int .i64 (g1 + 1), .int .i64 t2, .int .i64 o2, .int .i64 i2, .int .i64 b2, .int .i64 z0, .int .i64 z1, .int .i64 z2, .int .i64 z3, .int .i64 z4, .int .i64 z5, .int .i64 z6, .int .i64 z7] HX10.out HI.out rfl HO.out ?_)
  refine (wakes9_of HC.out _).mono ?_
  rintro e v12 ⟨rfl, hv12⟩
  go_wp2
  go_ret
  exact ⟨rfl, (N11.out.below hv12).mine.keeps⟩
end Go.Proofs.Ytgkbhdecohlpmaa
end

section
/-
  HomeBack, by contract, where the first superblock may be and has a next generation: Put answers OK, keep true.
-/
namespace Go.Proofs.Ytgkbhdecohlpmaa
set_option maxRecDepth 100000
open Go.RowKit Dk
set_option maxRecDepth 100000

set_option maxHeartbeats 8000000 in
theorem hback_b (C : Calls9) (x : Int) (l : List (List Nat)) (A : Option Addr) (c : Nat) (s r : Sup) (w : World)
    (hx : -9223372036854775808 ≤ x ∧ x ≤ 9223372036854775807) (hl : VFine l) (hA : By w w.heap.size A l.flatten) (hlc : l.length ≤ c) (hc : c ≤ maxLen) (hs : s.Fine) (hr : r.Fine)
    (hbad : mayP s ∧ s.gen < 1099511627776) (he : putHE x l.length = 0) :
    Calls Try.prog 3 #[.int .i64 x, .slice A l.length c, .agg s.cells, .agg r.cells, .bool true] w fun e w' => e = .returned (.bool true) ∧ Below w.heap.size w w' := by
  obtain ⟨y0, y1, y2, y3, y4, y5, y6, y7, hx8⟩ := sup_map hs
  obtain ⟨z0, z1, z2, z3, z4, z5, z6, z7, hz8⟩ := sup_map hr
  obtain ⟨g1, t1, o1, i1, b1, m1⟩ := s
  obtain ⟨g2, t2, o2, i2, b2, m2⟩ := r
  simp only at hx8 hz8
  subst hx8 hz8
  have HC := Lib.hid C
  have HAr := Lib.hid (And.intro hA (And.intro hl hs))
  have HFr := Lib.hid hr
  have HLe := Lib.hid (And.intro hlc (And.intro hc hx))
  have HBad := Lib.hid hbad
  have HE := Lib.hid he
  rw [sup_cells, sup_cells]
  have hb0 := ((Below.refl w.heap.size w).alloc (Nat.le_refl _) (.cells #[.int .i64 g1, .int .i64 t1, .int .i64 o1, .int .i64 i1, .int .i64 b1, .int .i64 y0, .int .i64 y1, .int .i64 y2, .int .i64 y3, .int .i64 y4, .int .i64 y5, .int .i64 y6, .int .i64 y7] 25 (0, 0))).alloc (by simp) (.cells #[.int .i64 g2, .int .i64 t2, .int .i64 o2, .int .i64 i2, .int .i64 b2, .int .i64 z0, .int .i64 z1, .int .i64 z2, .int .i64 z3, .int .i64 z4, .int .i64 z5, .int .i64 z6, .int .i64 z7] 25 (0, 0))
  have q1 := heap_alloc_new' w (.cells #[.int .i64 g1, .int .i64 t1, .int .i64 o1, .int .i64 i1, .int .i64 b1, .int .i64 y0, .int .i64 y1, .int .i64 y2, .int .i64 y3, .int .i64 y4, .int .i64 y5, .int .i64 y6, .int .i64 y7] 25 (0, 0))
  have q2 := heap_alloc_new' (w.alloc (.cells #[.int .i64 g1, .int .i64 t1, .int .i64 o1, .int .i64 i1, .int .i64 b1, .int .i64 y0, .int .i64 y1, .int .i64 y2, .int .i64 y3, .int .i64 y4, .int .i64 y5, .int .i64 y6, .int .i64 y7] 25 (0, 0))) (.cells #[.int .i64 g2, .int .i64 t2, .int .i64 o2, .int .i64 i2, .int .i64 b2, .int .i64 z0, .int .i64 z1, .int .i64 z2, .int .i64 z3, .int .i64 z4, .int .i64 z5, .int .i64 z6, .int .i64 z7] 25 (0, 0))
  have q3 := (heap_alloc_old' (w.alloc (.cells #[.int .i64 g1, .int .i64 t1, .int .i64 o1, .int .i64 i1, .int .i64 b1, .int .i64 y0, .int .i64 y1, .int .i64 y2, .int .i64 y3, .int .i64 y4, .int .i64 y5, .int .i64 y6, .int .i64 y7] 25 (0, 0))) (.cells #[.int .i64 g2, .int .i64 t2, .int .i64 o2, .int .i64 i2, .int .i64 b2, .int .i64 z0, .int .i64 z1, .int .i64 z2, .int .i64 z3, .int .i64 z4, .int .i64 z5, .int .i64 z6, .int .i64 z7] 25 (0, 0)) _ (lt_of_obj q1)).trans q1
  rw [show (w.alloc (.cells #[.int .i64 g1, .int .i64 t1, .int .i64 o1, .int .i64 i1, .int .i64 b1, .int .i64 y0, .int .i64 y1, .int .i64 y2, .int .i64 y3, .int .i64 y4, .int .i64 y5, .int .i64 y6, .int .i64 y7] 25 (0, 0))).heap.size = w.heap.size + 1 by simp] at q2
  have H0 := Lib.hid (fresh_held' (L := [(w.heap.size, .cells #[.int .i64 g1, .int .i64 t1, .int .i64 o1, .int .i64 i1, .int .i64 b1, .int .i64 y0, .int .i64 y1, .int .i64 y2, .int .i64 y3, .int .i64 y4, .int .i64 y5, .int .i64 y6, .int .i64 y7] 25 (0, 0)), (w.heap.size + 1, .cells #[.int .i64 g2, .int .i64 t2, .int .i64 o2, .int .i64 i2, .int .i64 b2, .int .i64 z0, .int .i64 z1, .int .i64 z2, .int .i64 z3, .int .i64 z4, .int .i64 z5, .int .i64 z6, .int .i64 z7] 25 (0, 0))]) hb0 (fun y hy => by
    rcases List.mem_cons.1 hy with rfl | hy
    · exact q3
    · obtain rfl := List.mem_singleton.1 hy; exact q2))
  rw [show ((w.alloc (.cells #[.int .i64 g1, .int .i64 t1, .int .i64 o1, .int .i64 i1, .int .i64 b1, .int .i64 y0, .int .i64 y1, .int .i64 y2, .int .i64 y3, .int .i64 y4, .int .i64 y5, .int .i64 y6, .int .i64 y7] 25 (0, 0))).alloc (.cells #[.int .i64 g2, .int .i64 t2, .int .i64 o2, .int .i64 i2, .int .i64 b2, .int .i64 z0, .int .i64 z1, .int .i64 z2, .int .i64 z3, .int .i64 z4, .int .i64 z5, .int .i64 z6, .int .i64 z7] 25 (0, 0))).heap.size = w.heap.size + 2 by simp] at H0
  clear C hA hl hs hr hlc hc hx hbad he hb0 q1 q2 q3
  go_enter Try.func3, Try.ntmps3
  go_wp2_with fail
  refine H0.out.mono ?_
  rintro e w1 ⟨rfl, S1, h1⟩
  have M1 := Lib.hid h1
  have H1 := Lib.hid (HC.out.put w1 S1 _ Dk.fresh x l A c h1.mine.disk rfl (fun n hn => by simp [Dk.fresh]) HAr.out.2.1 (h1.by_ HAr.out.1) HLe.out.1 HLe.out.2.1 HLe.out.2.2)
  clear h1 H0
  rw [HE.out] at H1
  go_wp2_with fail
  refine H1.out.mono ?_
  rintro e w2 ⟨rfl, hg⟩
  obtain ⟨S2, h2⟩ := M1.out.step hg
  have M2 := Lib.hid h2
  have hx0 := put_ok0 HE.out
  have H2 := Lib.hid (HC.out.get w2 S2 _ _ x.toNat h2.mine.disk (by rw [put_up]; rfl) (by omega))
  rw [home_newest _ HAr.out.2.1 HE.out, Int.toNat_of_nonneg hx0.1] at H2
  have hl4 : l.length = 4 := hx0.2.2
  clear h2 hg H1 M1 hx0
  go_wp2_with fail
  refine H2.out.mono ?_
  rintro e w3 ⟨A3, c3, rfl, hy3, _, _, hb3⟩
  have h3 := M2.out.below hb3
  have M3 := Lib.hid h3
  have H3 := Lib.hid (samev_any l.flatten 4 (by rw [flat_len8 l fun v hv => (HAr.out.2.1 v hv).1, hl4]) A3 A c3 c w3 hy3 (h3.by_ HAr.out.1) (by omega))
  rw [show ((some l).getD []).length = 4 from hl4]
  clear h3 hy3 hb3 H2 M2 hl4
  go_wp2_with fail
  refine H3.out.mono ?_
  rintro e w4 ⟨rfl, hb4⟩
  have M4 := Lib.hid (M3.out.below hb4)
  clear hb4 H3 M3
  obtain ⟨ce0, ce1, ce2, ce3, ce4, ce5, ce6, ce7, ce8, ce9, ce10, ce11, ce12⟩ := cells13 (M4.out.keeps _ List.mem_cons_self).2
  have HMay := Lib.hid (HC.out.may ⟨g1, t1, o1, i1, b1, [y0, y1, y2, y3, y4, y5, y6, y7]⟩ w4 HAr.out.2.2)
  rw [sup_cells] at HMay
  rw [decide_eq_true HBad.out.1] at HMay
  have hge : ¬ (1099511627776 ≤ g1) := by have h9 : g1 < 1099511627776 := HBad.out.2; omega
  have hg0 : 0 ≤ g1 := HBad.out.1.1.1
  have hwr : IntKind.i64.wrap (g1 + 1) = g1 + 1 := by rw [IntKind.wrap_i64]; omega
  go_wp2_with fail
  refine HMay.out.mono ?_
  rintro e v1 ⟨rfl, hv1⟩
  have N1 := Lib.hid (M4.out.below hv1)
  clear hv1 HMay ce0 ce1 ce2 ce3 ce4 ce5 ce6 ce7 ce8 ce9 ce10 ce11 ce12
  obtain ⟨ce0, ce1, ce2, ce3, ce4, ce5, ce6, ce7, ce8, ce9, ce10, ce11, ce12⟩ := cells13 (N1.out.keeps _ List.mem_cons_self).2
  have HSn := Lib.hid (show Sup.Fine ⟨g1 + 1, t2, o2, i2, b2, [z0, z1, z2, z3, z4, z5, z6, z7]⟩ from ⟨rfl, fun z hz => by
    have h8 := HFr.out.2
    have h9 : g1 < 1099511627776 := HBad.out.2
    unfold Sup.ints at hz h8
    rcases List.mem_cons.1 hz with rfl | hz
    · show -9223372036854775808 ≤ g1 + 1 ∧ g1 + 1 ≤ 9223372036854775807; omega
    · exact h8 z (List.mem_cons_of_mem _ hz)⟩)
  have hrb := (N1.out.keeps _ (List.mem_cons_of_mem _ List.mem_cons_self)).2
  have hcb := cell_of_row v1 (w.heap.size + 1) 0 _ _ _ hrb
  have hfb := frozen_of_row v1 (w.heap.size + 1) 0 _ _ hrb
  change v1.cell? ⟨w.heap.size + 1, 0, none⟩ = some (.int .i64 g2) at hcb
  have hq5 := heap_setCell_same v1 (w.heap.size + 1) 0 _ _ (.int .i64 (g1 + 1)) hrb
  have N5 := Lib.hid (N1.out.turn (W' := (v1.setCell ⟨w.heap.size + 1, 0, none⟩ (.int .i64 (g1 + 1)))) (L' := [(w.heap.size, .cells #[.int .i64 g1, .int .i64 t1, .int .i64 o1, .int .i64 i1, .int .i64 b1, .int .i64 y0, .int .i64 y1, .int .i64 y2, .int .i64 y3, .int .i64 y4, .int .i64 y5, .int .i64 y6, .int .i64 y7] 25 (0, 0)), (w.heap.size + 1, .cells #[.int .i64 (g1 + 1), .int .i64 t2, .int .i64 o2, .int .i64 i2, .int .i64 b2, .int .i64 z0, .int .i64 z1, .int .i64 z2, .int .i64 z3, .int .i64 z4, .int .i64 z5, .int .i64 z6, .int .i64 z7] 25 (0, 0))]) (grown_setCell v1 (w.heap.size + 1) 0 (.int .i64 (g1 + 1))) (by simp [World.setCell]) (N1.out.keeps _ (List.mem_cons_of_mem _ List.mem_cons_self)).1 (by omega) (fun y hy => by
    rcases List.mem_cons.1 hy with rfl | hy
    · exact ⟨(N1.out.keeps _ List.mem_cons_self).1, (Below.heap_setCell v1 _ _ _ (by simp)).trans (N1.out.keeps _ List.mem_cons_self).2⟩
    · obtain rfl := List.mem_singleton.1 hy
      exact ⟨(N1.out.keeps _ (List.mem_cons_of_mem _ List.mem_cons_self)).1, hq5⟩))
  have K2 := Lib.hid (HC.out.puts (v1.setCell ⟨w.heap.size + 1, 0, none⟩ (.int .i64 (g1 + 1))) _ _ _ ⟨g1, t1, o1, i1, b1, [y0, y1, y2, y3, y4, y5, y6, y7]⟩ N5.out.mine.disk (by rw [put_up]; rfl) (fun n hn => by have := put_fewL fresh_few x l n hn; omega) HAr.out.2.2)
  rw [sup_cells, if_pos HBad.out.1] at K2
  clear hq5 hrb
  go_wp2_with fail
  refine K2.out.mono ?_
  rintro e v2 ⟨rfl, hg2⟩
  obtain ⟨T2, t2'⟩ := N5.out.step hg2
  have N2 := Lib.hid t2'
  have K3 := Lib.hid (flush_ok t2'.mine.disk (by rw [putS_up, put_up]; rfl))
  clear hg2 t2' K2 N1 N5 hcb hfb ce0 ce1 ce2 ce3 ce4 ce5 ce6 ce7 ce8 ce9 ce10 ce11 ce12
  go_wp2_with fail
  refine K3.out.mono ?_
  rintro e v3 ⟨rfl, hg3⟩
  obtain ⟨T3, t3'⟩ := N2.out.step hg3
  have N3 := Lib.hid (show Held w v3 T3 _ (bk2 x l ⟨g1, t1, o1, i1, b1, [y0, y1, y2, y3, y4, y5, y6, y7]⟩) _ from t3')
  have hup2 : (bk2 x l ⟨g1, t1, o1, i1, b1, [y0, y1, y2, y3, y4, y5, y6, y7]⟩).down = false := by show (putSD (putD Dk.fresh x l) ⟨g1, t1, o1, i1, b1, [y0, y1, y2, y3, y4, y5, y6, y7]⟩).down = false; rw [putS_up, put_up]; rfl
  have K4 := Lib.hid (HC.out.gets v3 T3 _ (bk2 x l ⟨g1, t1, o1, i1, b1, [y0, y1, y2, y3, y4, y5, y6, y7]⟩) t3'.mine.disk hup2)
  rw [bk2_sup HBad.out.1 rfl] at K4
  clear hg3 t3' K3 N2
  go_wp2_with fail
  refine K4.out.mono ?_
  rintro e v4 ⟨r4, rfl, _, hr4, hv4⟩
  obtain rfl := hr4 _ rfl
  rw [sup_cells]
  have N4 := Lib.hid ((N3.out.below hv4).push #[.int .i64 g1, .int .i64 t1, .int .i64 o1, .int .i64 i1, .int .i64 b1, .int .i64 y0, .int .i64 y1, .int .i64 y2, .int .i64 y3, .int .i64 y4, .int .i64 y5, .int .i64 y6, .int .i64 y7] 25 (0, 0))
  clear hr4 K4
  have hlt4 : w.heap.size + 1 < v4.heap.size := lt_of_obj ((N3.out.below hv4).keeps _ (List.mem_cons_of_mem _ List.mem_cons_self)).2
  clear hv4 N3
  generalize hxb : v4.heap.size = xb at N4 hlt4
  have HXb := Lib.hid (show w.heap.size + 1 < xb ∧ w.heap.size ≤ xb from ⟨hlt4, by omega⟩)
  clear hlt4
  obtain ⟨W4, hW4⟩ : ∃ W4, W4 = v4.alloc (.cells #[.int .i64 g1, .int .i64 t1, .int .i64 o1, .int .i64 i1, .int .i64 b1, .int .i64 y0, .int .i64 y1, .int .i64 y2, .int .i64 y3, .int .i64 y4, .int .i64 y5, .int .i64 y6, .int .i64 y7] 25 (0, 0)) := ⟨_, rfl⟩
  rw [← hW4] at N4
  have qn := ints8_refl W4 y0 y1 y2 y3 y4 y5 y6 y7
  have x0 : (g1 == g1) = true := by simp
  have x1 : (t1 == t1) = true := by simp
  have x2 : (o1 == o1) = true := by simp
  have x3 : (i1 == i1) = true := by simp
  have x4 : (b1 == b1) = true := by simp
  obtain ⟨cf0, cf1, cf2, cf3, cf4, cf5, cf6, cf7, cf8, cf9, cf10, cf11, cf12⟩ := cells13 (N4.out.keeps _ List.mem_cons_self).2
  obtain ⟨ce0, ce1, ce2, ce3, ce4, ce5, ce6, ce7, ce8, ce9, ce10, ce11, ce12⟩ := cells13 (N4.out.keeps _ (List.mem_cons_of_mem _ List.mem_cons_self)).2
  rw [hW4] at qn cf0 cf1 cf2 cf3 cf4 cf5 cf6 cf7 cf8 cf9 cf10 cf11 cf12 ce0 ce1 ce2 ce3 ce4 ce5 ce6 ce7 ce8 ce9 ce10 ce11 ce12
  rw [← hxb] at cf0 cf1 cf2 cf3 cf4 cf5 cf6 cf7 cf8 cf9 cf10 cf11 cf12
  have K5 := Lib.hid (HC.out.puts W4 T3 _ (bk2 x l ⟨g1, t1, o1, i1, b1, [y0, y1, y2, y3, y4, y5, y6, y7]⟩) ⟨g1 + 1, t2, o2, i2, b2, [z0, z1, z2, z3, z4, z5, z6, z7]⟩ N4.out.mine.disk hup2 (fun n hn => by simp [bk2, Dk.Dk.flush]) HSn.out)
  rw [sup_cells] at K5
  obtain ⟨cg0, cg1, cg2, cg3, cg4, cg5, cg6, cg7, cg8, cg9, cg10, cg11, cg12⟩ := cells13 (N4.out.keeps _ (List.mem_cons_of_mem _ (List.mem_cons_of_mem _ List.mem_cons_self))).2
  rw [hW4] at cg0 cg1 cg2 cg3 cg4 cg5 cg6 cg7 cg8 cg9 cg10 cg11 cg12 K5
  by_cases hmb : mayP ⟨g1 + 1, t2, o2, i2, b2, [z0, z1, z2, z3, z4, z5, z6, z7]⟩
  rotate_left
  · rw [if_neg hmb] at K5
    go_wp2_with fail
    refine K5.out.mono ?_
    rintro e v5 ⟨rfl, hg5⟩
    rw [← hW4] at hg5
    obtain ⟨T5, t5'⟩ := N4.out.step hg5
    have N5 := Lib.hid t5'
    have K6 := Lib.hid (HC.out.may ⟨g1 + 1, t2, o2, i2, b2, [z0, z1, z2, z3, z4, z5, z6, z7]⟩ v5 HSn.out)
    rw [sup_cells, decide_eq_false hmb] at K6
    clear hg5 t5' K5 qn cf0 cf1 cf2 cf3 cf4 cf5 cf6 cf7 cf8 cf9 cf10 cf11 cf12 ce0 ce1 ce2 ce3 ce4 ce5 ce6 ce7 ce8 ce9 ce10 ce11 ce12 cg0 cg1 cg2 cg3 cg4 cg5 cg6 cg7 cg8 cg9 cg10 cg11 cg12
    obtain ⟨cg0, cg1, cg2, cg3, cg4, cg5, cg6, cg7, cg8, cg9, cg10, cg11, cg12⟩ := cells13 (N5.out.keeps _ (List.mem_cons_of_mem _ (List.mem_cons_of_mem _ List.mem_cons_self))).2
    go_wp2_with fail
    refine K6.out.mono ?_
    rintro e v6 ⟨rfl, hv6⟩
    have N6 := Lib.hid (N5.out.below hv6)
    clear hv6 K6 cg0 cg1 cg2 cg3 cg4 cg5 cg6 cg7 cg8 cg9 cg10 cg11 cg12
    go_wp2_with fail
    refine (wakes9_of HC.out _).mono ?_
    rintro e v7 ⟨rfl, hv7⟩
    go_wp2
    go_ret
    exact ⟨rfl, (N6.out.below hv7).mine.keeps⟩
  rw [if_pos hmb] at K5
  have HMb := Lib.hid hmb
  clear hmb
  go_wp2_with fail
  refine K5.out.mono ?_
  rintro e v5 ⟨rfl, hg5⟩
  rw [← hW4] at hg5
  obtain ⟨T5, t5'⟩ := N4.out.step hg5
  have N5 := Lib.hid (show Held w v5 T5 _ (bk3 x l ⟨g1, t1, o1, i1, b1, [y0, y1, y2, y3, y4, y5, y6, y7]⟩ ⟨g1 + 1, t2, o2, i2, b2, [z0, z1, z2, z3, z4, z5, z6, z7]⟩) _ from t5')
  have hup3 : (bk3 x l ⟨g1, t1, o1, i1, b1, [y0, y1, y2, y3, y4, y5, y6, y7]⟩ ⟨g1 + 1, t2, o2, i2, b2, [z0, z1, z2, z3, z4, z5, z6, z7]⟩).down = false := by show (putSD (bk2 x l ⟨g1, t1, o1, i1, b1, [y0, y1, y2, y3, y4, y5, y6, y7]⟩) ⟨g1 + 1, t2, o2, i2, b2, [z0, z1, z2, z3, z4, z5, z6, z7]⟩).down = false; rw [putS_up]; exact hup2
  have K6 := Lib.hid (HC.out.gets v5 T5 _ (bk3 x l ⟨g1, t1, o1, i1, b1, [y0, y1, y2, y3, y4, y5, y6, y7]⟩ ⟨g1 + 1, t2, o2, i2, b2, [z0, z1, z2, z3, z4, z5, z6, z7]⟩) t5'.mine.disk hup3)
  rw [bk3_sup HBad.out.1 HMb.out rfl rfl rfl] at K6
  clear hg5 t5' K5 N4 qn cf0 cf1 cf2 cf3 cf4 cf5 cf6 cf7 cf8 cf9 cf10 cf11 cf12 ce0 ce1 ce2 ce3 ce4 ce5 ce6 ce7 ce8 ce9 ce10 ce11 ce12 cg0 cg1 cg2 cg3 cg4 cg5 cg6 cg7 cg8 cg9 cg10 cg11 cg12
  go_wp2_with fail
  refine K6.out.mono ?_
  rintro e v6 ⟨r6, rfl, _, hr6, hv6⟩
  obtain rfl := hr6 _ rfl
  rw [sup_cells]
  have N6 := Lib.hid (N5.out.below hv6)
  have HX6 := Lib.hid (N5.out.below hv6 |>.keeps _ List.mem_cons_self).2
  have HI := Lib.hid (show (Try.prog.info? 25).map (·.size) = some (#[.int .i64 (g1 + 1), .int .i64 t2, .int .i64 o2, .int .i64 i2, .int .i64 b2, .int .i64 z0, .int .i64 z1, .int .i64 z2, .int .i64 z3, .int .i64 z4, .int .i64 z5, .int .i64 z6, .int .i64 z7] : Array Value).size by kernel_rfl)
  have HZ := Lib.hid (show (#[.int .i64 g1, .int .i64 t1, .int .i64 o1, .int .i64 i1, .int .i64 b1, .int .i64 y0, .int .i64 y1, .int .i64 y2, .int .i64 y3, .int .i64 y4, .int .i64 y5, .int .i64 y6, .int .i64 y7] : Array Value).size = (#[.int .i64 (g1 + 1), .int .i64 t2, .int .i64 o2, .int .i64 i2, .int .i64 b2, .int .i64 z0, .int .i64 z1, .int .i64 z2, .int .i64 z3, .int .i64 z4, .int .i64 z5, .int .i64 z6, .int .i64 z7] : Array Value).size from rfl)
  have HO := Lib.hid (show (#[.int .i64 (g1 + 1), .int .i64 t2, .int .i64 o2, .int .i64 i2, .int .i64 b2, .int .i64 z0, .int .i64 z1, .int .i64 z2, .int .i64 z3, .int .i64 z4, .int .i64 z5, .int .i64 z6, .int .i64 z7] : Array Value).all (·.oneCell') = true by simp [Value.oneCell'])
  have N7 := Lib.hid (N6.out.turn (W' := v6.setRow xb #[.int .i64 (g1 + 1), .int .i64 t2, .int .i64 o2, .int .i64 i2, .int .i64 b2, .int .i64 z0, .int .i64 z1, .int .i64 z2, .int .i64 z3, .int .i64 z4, .int .i64 z5, .int .i64 z6, .int .i64 z7]) (L' := [(xb, .cells #[.int .i64 (g1 + 1), .int .i64 t2, .int .i64 o2, .int .i64 i2, .int .i64 b2, .int .i64 z0, .int .i64 z1, .int .i64 z2, .int .i64 z3, .int .i64 z4, .int .i64 z5, .int .i64 z6, .int .i64 z7] 25 (0, 0)), (w.heap.size, .cells #[.int .i64 g1, .int .i64 t1, .int .i64 o1, .int .i64 i1, .int .i64 b1, .int .i64 y0, .int .i64 y1, .int .i64 y2, .int .i64 y3, .int .i64 y4, .int .i64 y5, .int .i64 y6, .int .i64 y7] 25 (0, 0)), (w.heap.size + 1, .cells #[.int .i64 (g1 + 1), .int .i64 t2, .int .i64 o2, .int .i64 i2, .int .i64 b2, .int .i64 z0, .int .i64 z1, .int .i64 z2, .int .i64 z3, .int .i64 z4, .int .i64 z5, .int .i64 z6, .int .i64 z7] 25 (0, 0))]) (grown_setRow v6 xb #[.int .i64 (g1 + 1), .int .i64 t2, .int .i64 o2, .int .i64 i2, .int .i64 b2, .int .i64 z0, .int .i64 z1, .int .i64 z2, .int .i64 z3, .int .i64 z4, .int .i64 z5, .int .i64 z6, .int .i64 z7]) (by simp [World.setRow]) (N6.out.keeps _ List.mem_cons_self).1 HXb.out.2 (fun y hy => by
    rcases List.mem_cons.1 hy with rfl | hy
    · exact ⟨(N6.out.keeps _ List.mem_cons_self).1, setRow_heap _ _ _ _ _ _ HX6.out⟩
    · have h1 := N6.out.keeps y (List.mem_cons_of_mem _ hy)
      refine ⟨h1.1, (setRow_other _ _ _ _ (fun e => ?_)).trans h1.2⟩
      rcases List.mem_cons.1 hy with rfl | hy
      · have := HXb.out.1; simp only at e; omega
      · obtain rfl := List.mem_singleton.1 hy
        have := HXb.out.1; simp only at e; omega))
  clear hv6 hr6 K6 N5
  obtain ⟨cf0, cf1, cf2, cf3, cf4, cf5, cf6, cf7, cf8, cf9, cf10, cf11, cf12⟩ := cells13 (N7.out.keeps _ List.mem_cons_self).2
  obtain ⟨cg0, cg1, cg2, cg3, cg4, cg5, cg6, cg7, cg8, cg9, cg10, cg11, cg12⟩ := cells13 (N7.out.keeps _ (List.mem_cons_of_mem _ (List.mem_cons_of_mem _ List.mem_cons_self))).2
  have qn := ints8_refl (v6.setRow xb #[.int .i64 (g1 + 1), .int .i64 t2, .int .i64 o2, .int .i64 i2, .int .i64 b2, .int .i64 z0, .int .i64 z1, .int .i64 z2, .int .i64 z3, .int .i64 z4, .int .i64 z5, .int .i64 z6, .int .i64 z7]) z0 z1 z2 z3 z4 z5 z6 z7
  have x0 : (g1 + 1 == g1 + 1) = true := by simp
  have x1 : (t2 == t2) = true := by simp
  have x2 : (o2 == o2) = true := by simp
  have x3 : (i2 == i2) = true := by simp
  have x4 : (b2 == b2) = true := by simp
  go_wp2_with (refine wpList_store_row rfl 25 _ _ rfl xb #[.int .i64 (g1 + 1), .int .i64 t2, .int .i64 o2, .int .i64 i2, .int .i64 b2, .int .i64 z0, .int .i64 z1, .int .i64 z2, .int .i64 z3, .int .i64 z4, .int .i64 z5, .int .i64 z6, .int .i64 z7] rfl rfl 25 #[.int .i64 g1, .int .i64 t1, .int .i64 o1, .int .i64 i1, .int .i64 b1, .int .i64 y0, .int .i64 y1, .int .i64 y2, .int .i64 y3, .int .i64 y4, .int .i64 y5, .int .i64 y6, .int .i64 y7] HX6.out HI.out HZ.out HO.out ?_)
  clear qn x0 x1 x2 x3 x4 cf0 cf1 cf2 cf3 cf4 cf5 cf6 cf7 cf8 cf9 cf10 cf11 cf12 HX6
  obtain ⟨W7, hW7⟩ : ∃ W7, W7 = v6.setRow xb #[.int .i64 (g1 + 1), .int .i64 t2, .int .i64 o2, .int .i64 i2, .int .i64 b2, .int .i64 z0, .int .i64 z1, .int .i64 z2, .int .i64 z3, .int .i64 z4, .int .i64 z5, .int .i64 z6, .int .i64 z7] := ⟨_, rfl⟩
  rw [← hW7] at N7
  have hmod : (g1 + 1).tmod 2 = (g1 + 1) % 2 := Int.tmod_eq_emod_of_nonneg (by omega)
  have N8' := Lib.hid (N7.out.alloc (.cells #[.int .i64 ((g1 + 1) % 2), .int .i64 1] 41 (0, 0)))
  have hp : PlanAt (W7.alloc (.cells #[.int .i64 ((g1 + 1) % 2), .int .i64 1] 41 (0, 0))) (W7.alloc (.cells #[.int .i64 ((g1 + 1) % 2), .int .i64 1] 41 (0, 0))).heap.size (some ⟨W7.heap.size, 0, none⟩) [((g1 + 1) % 2, 1)] := fun _ =>
    ⟨W7.heap.size, 0, rfl, by simp, fun j hj => by
      obtain rfl : j = 0 := by simpa using hj
      exact ⟨by rw [cell_of_row _ _ _ _ _ _ (heap_alloc_new' W7 _)]; rfl, by rw [cell_of_row _ _ _ _ _ _ (heap_alloc_new' W7 _)]; rfl⟩⟩
  have K8 := Lib.hid (crash_ok (d := bk3 x l ⟨g1, t1, o1, i1, b1, [y0, y1, y2, y3, y4, y5, y6, y7]⟩ ⟨g1 + 1, t2, o2, i2, b2, [z0, z1, z2, z3, z4, z5, z6, z7]⟩) N8'.out.mine.disk hup3 (fun n hn => by rw [bk3_cache HMb.out]; split <;> simp) hp (by simp) (by simp; omega) (cap := 1))
  have N8q := N8'
  have hsz : W7.heap.size = v6.heap.size := by rw [hW7]; simp
  rw [hsz] at K8
  clear hsz
  rw [hW7] at K8 N8q
  go_wp2_with fail
  refine K8.out.mono ?_
  rintro e v8 ⟨rfl, hg8⟩
  obtain ⟨T8, t8'⟩ := N8q.out.step hg8
  have N8 := Lib.hid t8'
  have K9 := Lib.hid (up_any t8'.mine.disk)
  rw [show ((bk3 x l ⟨g1, t1, o1, i1, b1, [y0, y1, y2, y3, y4, y5, y6, y7]⟩ ⟨g1 + 1, t2, o2, i2, b2, [z0, z1, z2, z3, z4, z5, z6, z7]⟩).crash [((g1 + 1) % 2, 1)]).down = true from rfl, if_pos rfl] at K9
  clear hg8 t8' K8
  go_wp2_with fail
  refine K9.out.mono ?_
  rintro e v9 ⟨rfl, hg9⟩
  obtain ⟨T9, t9'⟩ := N8.out.step hg9
  have N9 := Lib.hid (show Held w v9 T9 _ (bk4 x l ⟨g1, t1, o1, i1, b1, [y0, y1, y2, y3, y4, y5, y6, y7]⟩ ⟨g1 + 1, t2, o2, i2, b2, [z0, z1, z2, z3, z4, z5, z6, z7]⟩ [((g1 + 1) % 2, 1)]) _ from t9')
  have K10 := Lib.hid (HC.out.gets v9 T9 _ (bk4 x l ⟨g1, t1, o1, i1, b1, [y0, y1, y2, y3, y4, y5, y6, y7]⟩ ⟨g1 + 1, t2, o2, i2, b2, [z0, z1, z2, z3, z4, z5, z6, z7]⟩ [((g1 + 1) % 2, 1)]) t9'.mine.disk rfl)
  rw [bk4_kept HBad.out.1 HMb.out rfl rfl rfl] at K10
  clear hg9 t9' K9 N8
  go_wp2_with fail
  refine K10.out.mono ?_
  rintro e v10 ⟨r10, rfl, _, hr10, hv10⟩
  obtain rfl := hr10 _ rfl
  rw [sup_cells]
  have N10 := Lib.hid (N9.out.below hv10)
  have HX10 := Lib.hid (N10.out.keeps _ List.mem_cons_self).2
  clear hv10 hr10 K10 N9
  have HI := Lib.hid (show (Try.prog.info? 25).map (·.size) = some (#[.int .i64 (g1 + 1), .int .i64 t2, .int .i64 o2, .int .i64 i2, .int .i64 b2, .int .i64 z0, .int .i64 z1, .int .i64 z2, .int .i64 z3, .int .i64 z4, .int .i64 z5, .int .i64 z6, .int .i64 z7] : Array Value).size by kernel_rfl)
  have HO := Lib.hid (show (#[.int .i64 (g1 + 1), .int .i64 t2, .int .i64 o2, .int .i64 i2, .int .i64 b2, .int .i64 z0, .int .i64 z1, .int .i64 z2, .int .i64 z3, .int .i64 z4, .int .i64 z5, .int .i64 z6, .int .i64 z7] : Array Value).all (·.oneCell') = true by simp [Value.oneCell'])
  have N11 := Lib.hid (N10.out.turn (W' := v10.setRow xb #[.int .i64 (g1 + 1), .int .i64 t2, .int .i64 o2, .int .i64 i2, .int .i64 b2, .int .i64 z0, .int .i64 z1, .int .i64 z2, .int .i64 z3, .int .i64 z4, .int .i64 z5, .int .i64 z6, .int .i64 z7]) (L' := [(xb, .cells #[.int .i64 (g1 + 1), .int .i64 t2, .int .i64 o2, .int .i64 i2, .int .i64 b2, .int .i64 z0, .int .i64 z1, .int .i64 z2, .int .i64 z3, .int .i64 z4, .int .i64 z5, .int .i64 z6, .int .i64 z7] 25 (0, 0)), (w.heap.size, .cells #[.int .i64 g1, .int .i64 t1, .int .i64 o1, .int .i64 i1, .int .i64 b1, .int .i64 y0, .int .i64 y1, .int .i64 y2, .int .i64 y3, .int .i64 y4, .int .i64 y5, .int .i64 y6, .int .i64 y7] 25 (0, 0)), (w.heap.size + 1, .cells #[.int .i64 (g1 + 1), .int .i64 t2, .int .i64 o2, .int .i64 i2, .int .i64 b2, .int .i64 z0, .int .i64 z1, .int .i64 z2, .int .i64 z3, .int .i64 z4, .int .i64 z5, .int .i64 z6, .int .i64 z7] 25 (0, 0))]) (grown_setRow v10 xb #[.int .i64 (g1 + 1), .int .i64 t2, .int .i64 o2, .int .i64 i2, .int .i64 b2, .int .i64 z0, .int .i64 z1, .int .i64 z2, .int .i64 z3, .int .i64 z4, .int .i64 z5, .int .i64 z6, .int .i64 z7]) (by simp [World.setRow]) (N10.out.keeps _ List.mem_cons_self).1 HXb.out.2 (fun y hy => by
    rcases List.mem_cons.1 hy with rfl | hy
    · exact ⟨(N10.out.keeps _ List.mem_cons_self).1, setRow_heap _ _ _ _ _ _ HX10.out⟩
    · have h1 := N10.out.keeps y (List.mem_cons_of_mem _ hy)
      refine ⟨h1.1, (setRow_other _ _ _ _ (fun e => ?_)).trans h1.2⟩
      rcases List.mem_cons.1 hy with rfl | hy
      · have := HXb.out.1; simp only at e; omega
      · obtain rfl := List.mem_singleton.1 hy
        have := HXb.out.1; simp only at e; omega))
  clear N10
  obtain ⟨cf0, cf1, cf2, cf3, cf4, cf5, cf6, cf7, cf8, cf9, cf10, cf11, cf12⟩ := cells13 (N11.out.keeps _ List.mem_cons_self).2
  obtain ⟨ce0, ce1, ce2, ce3, ce4, ce5, ce6, ce7, ce8, ce9, ce10, ce11, ce12⟩ := cells13 (N11.out.keeps _ (List.mem_cons_of_mem _ List.mem_cons_self)).2
  obtain ⟨cg0, cg1, cg2, cg3, cg4, cg5, cg6, cg7, cg8, cg9, cg10, cg11, cg12⟩ := cells13 (N11.out.keeps _ (List.mem_cons_of_mem _ (List.mem_cons_of_mem _ List.mem_cons_self))).2
  have qn := ints8_refl (v10.setRow xb #[.int .i64 (g1 + 1), .int .i64 t2, .int .i64 o2, .int .i64 i2, .int .i64 b2, .int .i64 z0, .int .i64 z1, .int .i64 z2, .int .i64 z3, .int .i64 z4, .int .i64 z5, .int .i64 z6, .int .i64 z7]) z0 z1 z2 z3 z4 z5 z6 z7; have x0 : (g1 + 1 == g1 + 1) = true := (by simp); have x1 : (t2 == t2) = true := (by simp); have x2 : (o2 == o2) = true := (by simp); have x3 : (i2 == i2) = true := (by simp); have x4 : (b2 == b2) = true := (by simp)
  go_wp2_with (refine wpList_store_row rfl 25 _ _ rfl xb #[.int .i64 (g1 + 1), .int .i64 t2, .int .i64 o2, .int .i64 i2, .int .i64 b2, .int .i64 z0, .int .i64 z1, .int .i64 z2, .int .i64 z3, .int .i64 z4, .int .i64 z5, .int .i64 z6, .int .i64 z7] rfl rfl 25 #[.int .i64 (g1 + 1), .int .i64 t2, .int .i64 o2, .int .i64 i2, .int .i64 b2, .int .i64 z0, .int .i64 z1, .int .i64 z2, .int .i64 z3, .int .i64 z4, .int .i64 z5, .int .i64 z6, .int .i64 z7] HX10.out HI.out rfl HO.out ?_)
  refine (wakes9_of HC.out _).mono ?_
  rintro e v12 ⟨rfl, hv12⟩
  go_wp2
  go_ret
  exact ⟨rfl, (N11.out.below hv12).mine.keeps⟩
end Go.Proofs.Ytgkbhdecohlpmaa
end

section
/-
  HomeBack, by contract, where the first superblock may be and has a next generation: Put does not answer OK, keep false.
-/
namespace Go.Proofs.Ytgkbhdecohlpmaa
set_option maxRecDepth 100000
open Go.RowKit Dk
set_option maxRecDepth 100000

set_option maxHeartbeats 8000000 in
theorem hback_c (C : Calls9) (x : Int) (l : List (List Nat)) (A : Option Addr) (c : Nat) (s r : Sup) (w : World)
    (hx : -9223372036854775808 ≤ x ∧ x ≤ 9223372036854775807) (hl : VFine l) (hA : By w w.heap.size A l.flatten) (hlc : l.length ≤ c) (hc : c ≤ maxLen) (hs : s.Fine) (hr : r.Fine)
    (hbad : mayP s ∧ s.gen < 1099511627776) (he : putHE x l.length = 2) :
    Calls Try.prog 3 #[.int .i64 x, .slice A l.length c, .agg s.cells, .agg r.cells, .bool false] w fun e w' => e = .returned (.bool true) ∧ Below w.heap.size w w' := by
  obtain ⟨y0, y1, y2, y3, y4, y5, y6, y7, hx8⟩ := sup_map hs
  obtain ⟨z0, z1, z2, z3, z4, z5, z6, z7, hz8⟩ := sup_map hr
  obtain ⟨g1, t1, o1, i1, b1, m1⟩ := s
  obtain ⟨g2, t2, o2, i2, b2, m2⟩ := r
  simp only at hx8 hz8
  subst hx8 hz8
  have HC := Lib.hid C
  have HAr := Lib.hid (And.intro hA (And.intro hl hs))
  have HFr := Lib.hid hr
  have HLe := Lib.hid (And.intro hlc (And.intro hc hx))
  have HBad := Lib.hid hbad
  have HE := Lib.hid he
  rw [sup_cells, sup_cells]
  have hb0 := ((Below.refl w.heap.size w).alloc (Nat.le_refl _) (.cells #[.int .i64 g1, .int .i64 t1, .int .i64 o1, .int .i64 i1, .int .i64 b1, .int .i64 y0, .int .i64 y1, .int .i64 y2, .int .i64 y3, .int .i64 y4, .int .i64 y5, .int .i64 y6, .int .i64 y7] 25 (0, 0))).alloc (by simp) (.cells #[.int .i64 g2, .int .i64 t2, .int .i64 o2, .int .i64 i2, .int .i64 b2, .int .i64 z0, .int .i64 z1, .int .i64 z2, .int .i64 z3, .int .i64 z4, .int .i64 z5, .int .i64 z6, .int .i64 z7] 25 (0, 0))
  have q1 := heap_alloc_new' w (.cells #[.int .i64 g1, .int .i64 t1, .int .i64 o1, .int .i64 i1, .int .i64 b1, .int .i64 y0, .int .i64 y1, .int .i64 y2, .int .i64 y3, .int .i64 y4, .int .i64 y5, .int .i64 y6, .int .i64 y7] 25 (0, 0))
  have q2 := heap_alloc_new' (w.alloc (.cells #[.int .i64 g1, .int .i64 t1, .int .i64 o1, .int .i64 i1, .int .i64 b1, .int .i64 y0, .int .i64 y1, .int .i64 y2, .int .i64 y3, .int .i64 y4, .int .i64 y5, .int .i64 y6, .int .i64 y7] 25 (0, 0))) (.cells #[.int .i64 g2, .int .i64 t2, .int .i64 o2, .int .i64 i2, .int .i64 b2, .int .i64 z0, .int .i64 z1, .int .i64 z2, .int .i64 z3, .int .i64 z4, .int .i64 z5, .int .i64 z6, .int .i64 z7] 25 (0, 0))
  have q3 := (heap_alloc_old' (w.alloc (.cells #[.int .i64 g1, .int .i64 t1, .int .i64 o1, .int .i64 i1, .int .i64 b1, .int .i64 y0, .int .i64 y1, .int .i64 y2, .int .i64 y3, .int .i64 y4, .int .i64 y5, .int .i64 y6, .int .i64 y7] 25 (0, 0))) (.cells #[.int .i64 g2, .int .i64 t2, .int .i64 o2, .int .i64 i2, .int .i64 b2, .int .i64 z0, .int .i64 z1, .int .i64 z2, .int .i64 z3, .int .i64 z4, .int .i64 z5, .int .i64 z6, .int .i64 z7] 25 (0, 0)) _ (lt_of_obj q1)).trans q1
  rw [show (w.alloc (.cells #[.int .i64 g1, .int .i64 t1, .int .i64 o1, .int .i64 i1, .int .i64 b1, .int .i64 y0, .int .i64 y1, .int .i64 y2, .int .i64 y3, .int .i64 y4, .int .i64 y5, .int .i64 y6, .int .i64 y7] 25 (0, 0))).heap.size = w.heap.size + 1 by simp] at q2
  have H0 := Lib.hid (fresh_held' (L := [(w.heap.size, .cells #[.int .i64 g1, .int .i64 t1, .int .i64 o1, .int .i64 i1, .int .i64 b1, .int .i64 y0, .int .i64 y1, .int .i64 y2, .int .i64 y3, .int .i64 y4, .int .i64 y5, .int .i64 y6, .int .i64 y7] 25 (0, 0)), (w.heap.size + 1, .cells #[.int .i64 g2, .int .i64 t2, .int .i64 o2, .int .i64 i2, .int .i64 b2, .int .i64 z0, .int .i64 z1, .int .i64 z2, .int .i64 z3, .int .i64 z4, .int .i64 z5, .int .i64 z6, .int .i64 z7] 25 (0, 0))]) hb0 (fun y hy => by
    rcases List.mem_cons.1 hy with rfl | hy
    · exact q3
    · obtain rfl := List.mem_singleton.1 hy; exact q2))
  rw [show ((w.alloc (.cells #[.int .i64 g1, .int .i64 t1, .int .i64 o1, .int .i64 i1, .int .i64 b1, .int .i64 y0, .int .i64 y1, .int .i64 y2, .int .i64 y3, .int .i64 y4, .int .i64 y5, .int .i64 y6, .int .i64 y7] 25 (0, 0))).alloc (.cells #[.int .i64 g2, .int .i64 t2, .int .i64 o2, .int .i64 i2, .int .i64 b2, .int .i64 z0, .int .i64 z1, .int .i64 z2, .int .i64 z3, .int .i64 z4, .int .i64 z5, .int .i64 z6, .int .i64 z7] 25 (0, 0))).heap.size = w.heap.size + 2 by simp] at H0
  clear C hA hl hs hr hlc hc hx hbad he hb0 q1 q2 q3
  go_enter Try.func3, Try.ntmps3
  go_wp2_with fail
  refine H0.out.mono ?_
  rintro e w1 ⟨rfl, S1, h1⟩
  have M1 := Lib.hid h1
  have H1 := Lib.hid (HC.out.put w1 S1 _ Dk.fresh x l A c h1.mine.disk rfl (fun n hn => by simp [Dk.fresh]) HAr.out.2.1 (h1.by_ HAr.out.1) HLe.out.1 HLe.out.2.1 HLe.out.2.2)
  clear h1 H0
  rw [HE.out] at H1
  go_wp2_with fail
  refine H1.out.mono ?_
  rintro e w4 ⟨rfl, hg⟩
  obtain ⟨S2, h2⟩ := M1.out.step hg
  have M4 := Lib.hid h2
  clear h2 hg H1 M1
  obtain ⟨ce0, ce1, ce2, ce3, ce4, ce5, ce6, ce7, ce8, ce9, ce10, ce11, ce12⟩ := cells13 (M4.out.keeps _ List.mem_cons_self).2
  have HMay := Lib.hid (HC.out.may ⟨g1, t1, o1, i1, b1, [y0, y1, y2, y3, y4, y5, y6, y7]⟩ w4 HAr.out.2.2)
  rw [sup_cells] at HMay
  rw [decide_eq_true HBad.out.1] at HMay
  have hge : ¬ (1099511627776 ≤ g1) := by have h9 : g1 < 1099511627776 := HBad.out.2; omega
  have hg0 : 0 ≤ g1 := HBad.out.1.1.1
  have hwr : IntKind.i64.wrap (g1 + 1) = g1 + 1 := by rw [IntKind.wrap_i64]; omega
  go_wp2_with fail
  refine HMay.out.mono ?_
  rintro e v1 ⟨rfl, hv1⟩
  have N1 := Lib.hid (M4.out.below hv1)
  clear hv1 HMay ce0 ce1 ce2 ce3 ce4 ce5 ce6 ce7 ce8 ce9 ce10 ce11 ce12
  obtain ⟨ce0, ce1, ce2, ce3, ce4, ce5, ce6, ce7, ce8, ce9, ce10, ce11, ce12⟩ := cells13 (N1.out.keeps _ List.mem_cons_self).2
  have HSn := Lib.hid (show Sup.Fine ⟨g1 + 1, t2, o2, i2, b2, [z0, z1, z2, z3, z4, z5, z6, z7]⟩ from ⟨rfl, fun z hz => by
    have h8 := HFr.out.2
    have h9 : g1 < 1099511627776 := HBad.out.2
    unfold Sup.ints at hz h8
    rcases List.mem_cons.1 hz with rfl | hz
    · show -9223372036854775808 ≤ g1 + 1 ∧ g1 + 1 ≤ 9223372036854775807; omega
    · exact h8 z (List.mem_cons_of_mem _ hz)⟩)
  have hrb := (N1.out.keeps _ (List.mem_cons_of_mem _ List.mem_cons_self)).2
  have hcb := cell_of_row v1 (w.heap.size + 1) 0 _ _ _ hrb
  have hfb := frozen_of_row v1 (w.heap.size + 1) 0 _ _ hrb
  change v1.cell? ⟨w.heap.size + 1, 0, none⟩ = some (.int .i64 g2) at hcb
  have hq5 := heap_setCell_same v1 (w.heap.size + 1) 0 _ _ (.int .i64 (g1 + 1)) hrb
  have N5 := Lib.hid (N1.out.turn (W' := (v1.setCell ⟨w.heap.size + 1, 0, none⟩ (.int .i64 (g1 + 1)))) (L' := [(w.heap.size, .cells #[.int .i64 g1, .int .i64 t1, .int .i64 o1, .int .i64 i1, .int .i64 b1, .int .i64 y0, .int .i64 y1, .int .i64 y2, .int .i64 y3, .int .i64 y4, .int .i64 y5, .int .i64 y6, .int .i64 y7] 25 (0, 0)), (w.heap.size + 1, .cells #[.int .i64 (g1 + 1), .int .i64 t2, .int .i64 o2, .int .i64 i2, .int .i64 b2, .int .i64 z0, .int .i64 z1, .int .i64 z2, .int .i64 z3, .int .i64 z4, .int .i64 z5, .int .i64 z6, .int .i64 z7] 25 (0, 0))]) (grown_setCell v1 (w.heap.size + 1) 0 (.int .i64 (g1 + 1))) (by simp [World.setCell]) (N1.out.keeps _ (List.mem_cons_of_mem _ List.mem_cons_self)).1 (by omega) (fun y hy => by
    rcases List.mem_cons.1 hy with rfl | hy
    · exact ⟨(N1.out.keeps _ List.mem_cons_self).1, (Below.heap_setCell v1 _ _ _ (by simp)).trans (N1.out.keeps _ List.mem_cons_self).2⟩
    · obtain rfl := List.mem_singleton.1 hy
      exact ⟨(N1.out.keeps _ (List.mem_cons_of_mem _ List.mem_cons_self)).1, hq5⟩))
  have K2 := Lib.hid (HC.out.puts (v1.setCell ⟨w.heap.size + 1, 0, none⟩ (.int .i64 (g1 + 1))) _ _ _ ⟨g1, t1, o1, i1, b1, [y0, y1, y2, y3, y4, y5, y6, y7]⟩ N5.out.mine.disk (by rw [put_up]; rfl) (fun n hn => by have := put_fewL fresh_few x l n hn; omega) HAr.out.2.2)
  rw [sup_cells, if_pos HBad.out.1] at K2
  clear hq5 hrb
  go_wp2_with fail
  refine K2.out.mono ?_
  rintro e v2 ⟨rfl, hg2⟩
  obtain ⟨T2, t2'⟩ := N5.out.step hg2
  have N2 := Lib.hid t2'
  have K3 := Lib.hid (flush_ok t2'.mine.disk (by rw [putS_up, put_up]; rfl))
  clear hg2 t2' K2 N1 N5 hcb hfb ce0 ce1 ce2 ce3 ce4 ce5 ce6 ce7 ce8 ce9 ce10 ce11 ce12
  go_wp2_with fail
  refine K3.out.mono ?_
  rintro e v3 ⟨rfl, hg3⟩
  obtain ⟨T3, t3'⟩ := N2.out.step hg3
  have N3 := Lib.hid (show Held w v3 T3 _ (bk2 x l ⟨g1, t1, o1, i1, b1, [y0, y1, y2, y3, y4, y5, y6, y7]⟩) _ from t3')
  have hup2 : (bk2 x l ⟨g1, t1, o1, i1, b1, [y0, y1, y2, y3, y4, y5, y6, y7]⟩).down = false := by show (putSD (putD Dk.fresh x l) ⟨g1, t1, o1, i1, b1, [y0, y1, y2, y3, y4, y5, y6, y7]⟩).down = false; rw [putS_up, put_up]; rfl
  have K4 := Lib.hid (HC.out.gets v3 T3 _ (bk2 x l ⟨g1, t1, o1, i1, b1, [y0, y1, y2, y3, y4, y5, y6, y7]⟩) t3'.mine.disk hup2)
  rw [bk2_sup HBad.out.1 rfl] at K4
  clear hg3 t3' K3 N2
  go_wp2_with fail
  refine K4.out.mono ?_
  rintro e v4 ⟨r4, rfl, _, hr4, hv4⟩
  obtain rfl := hr4 _ rfl
  rw [sup_cells]
  have N4 := Lib.hid ((N3.out.below hv4).push #[.int .i64 g1, .int .i64 t1, .int .i64 o1, .int .i64 i1, .int .i64 b1, .int .i64 y0, .int .i64 y1, .int .i64 y2, .int .i64 y3, .int .i64 y4, .int .i64 y5, .int .i64 y6, .int .i64 y7] 25 (0, 0))
  clear hr4 K4
  have hlt4 : w.heap.size + 1 < v4.heap.size := lt_of_obj ((N3.out.below hv4).keeps _ (List.mem_cons_of_mem _ List.mem_cons_self)).2
  clear hv4 N3
  generalize hxb : v4.heap.size = xb at N4 hlt4
  have HXb := Lib.hid (show w.heap.size + 1 < xb ∧ w.heap.size ≤ xb from ⟨hlt4, by omega⟩)
  clear hlt4
  obtain ⟨W4, hW4⟩ : ∃ W4, W4 = v4.alloc (.cells #[.int .i64 g1, .int .i64 t1, .int .i64 o1, .int .i64 i1, .int .i64 b1, .int .i64 y0, .int .i64 y1, .int .i64 y2, .int .i64 y3, .int .i64 y4, .int .i64 y5, .int .i64 y6, .int .i64 y7] 25 (0, 0)) := ⟨_, rfl⟩
  rw [← hW4] at N4
  have qn := ints8_refl W4 y0 y1 y2 y3 y4 y5 y6 y7
  have x0 : (g1 == g1) = true := by simp
  have x1 : (t1 == t1) = true := by simp
  have x2 : (o1 == o1) = true := by simp
  have x3 : (i1 == i1) = true := by simp
  have x4 : (b1 == b1) = true := by simp
  obtain ⟨cf0, cf1, cf2, cf3, cf4, cf5, cf6, cf7, cf8, cf9, cf10, cf11, cf12⟩ := cells13 (N4.out.keeps _ List.mem_cons_self).2
  obtain ⟨ce0, ce1, ce2, ce3, ce4, ce5, ce6, ce7, ce8, ce9, ce10, ce11, ce12⟩ := cells13 (N4.out.keeps _ (List.mem_cons_of_mem _ List.mem_cons_self)).2
  rw [hW4] at qn cf0 cf1 cf2 cf3 cf4 cf5 cf6 cf7 cf8 cf9 cf10 cf11 cf12 ce0 ce1 ce2 ce3 ce4 ce5 ce6 ce7 ce8 ce9 ce10 ce11 ce12
  rw [← hxb] at cf0 cf1 cf2 cf3 cf4 cf5 cf6 cf7 cf8 cf9 cf10 cf11 cf12
  have K5 := Lib.hid (HC.out.puts W4 T3 _ (bk2 x l ⟨g1, t1, o1, i1, b1, [y0, y1, y2, y3, y4, y5, y6, y7]⟩) ⟨g1 + 1, t2, o2, i2, b2, [z0, z1, z2, z3, z4, z5, z6, z7]⟩ N4.out.mine.disk hup2 (fun n hn => by simp [bk2, Dk.Dk.flush]) HSn.out)
  rw [sup_cells] at K5
  obtain ⟨cg0, cg1, cg2, cg3, cg4, cg5, cg6, cg7, cg8, cg9, cg10, cg11, cg12⟩ := cells13 (N4.out.keeps _ (List.mem_cons_of_mem _ (List.mem_cons_of_mem _ List.mem_cons_self))).2
  rw [hW4] at cg0 cg1 cg2 cg3 cg4 cg5 cg6 cg7 cg8 cg9 cg10 cg11 cg12 K5
  by_cases hmb : mayP ⟨g1 + 1, t2, o2, i2, b2, [z0, z1, z2, z3, z4, z5, z6, z7]⟩
  rotate_left
  · rw [if_neg hmb] at K5
    go_wp2_with fail
    refine K5.out.mono ?_
    rintro e v5 ⟨rfl, hg5⟩
    rw [← hW4] at hg5
    obtain ⟨T5, t5'⟩ := N4.out.step hg5
    have N5 := Lib.hid t5'
    have K6 := Lib.hid (HC.out.may ⟨g1 + 1, t2, o2, i2, b2, [z0, z1, z2, z3, z4, z5, z6, z7]⟩ v5 HSn.out)
    rw [sup_cells, decide_eq_false hmb] at K6
    clear hg5 t5' K5 qn cf0 cf1 cf2 cf3 cf4 cf5 cf6 cf7 cf8 cf9 cf10 cf11 cf12 ce0 ce1 ce2 ce3 ce4 ce5 ce6 ce7 ce8 ce9 ce10 ce11 ce12 cg0 cg1 cg2 cg3 cg4 cg5 cg6 cg7 cg8 cg9 cg10 cg11 cg12
    obtain ⟨cg0, cg1, cg2, cg3, cg4, cg5, cg6, cg7, cg8, cg9, cg10, cg11, cg12⟩ := cells13 (N5.out.keeps _ (List.mem_cons_of_mem _ (List.mem_cons_of_mem _ List.mem_cons_self))).2
    go_wp2_with fail
    refine K6.out.mono ?_
    rintro e v6 ⟨rfl, hv6⟩
    have N6 := Lib.hid (N5.out.below hv6)
    clear hv6 K6 cg0 cg1 cg2 cg3 cg4 cg5 cg6 cg7 cg8 cg9 cg10 cg11 cg12
    go_wp2_with fail
    refine (wakes9_of HC.out _).mono ?_
    rintro e v7 ⟨rfl, hv7⟩
    go_wp2
    go_ret
    exact ⟨rfl, (N6.out.below hv7).mine.keeps⟩
  rw [if_pos hmb] at K5
  have HMb := Lib.hid hmb
  clear hmb
  go_wp2_with fail
  refine K5.out.mono ?_
  rintro e v5 ⟨rfl, hg5⟩
  rw [← hW4] at hg5
  obtain ⟨T5, t5'⟩ := N4.out.step hg5
  have N5 := Lib.hid (show Held w v5 T5 _ (bk3 x l ⟨g1, t1, o1, i1, b1, [y0, y1, y2, y3, y4, y5, y6, y7]⟩ ⟨g1 + 1, t2, o2, i2, b2, [z0, z1, z2, z3, z4, z5, z6, z7]⟩) _ from t5')
  have hup3 : (bk3 x l ⟨g1, t1, o1, i1, b1, [y0, y1, y2, y3, y4, y5, y6, y7]⟩ ⟨g1 + 1, t2, o2, i2, b2, [z0, z1, z2, z3, z4, z5, z6, z7]⟩).down = false := by show (putSD (bk2 x l ⟨g1, t1, o1, i1, b1, [y0, y1, y2, y3, y4, y5, y6, y7]⟩) ⟨g1 + 1, t2, o2, i2, b2, [z0, z1, z2, z3, z4, z5, z6, z7]⟩).down = false; rw [putS_up]; exact hup2
  have K6 := Lib.hid (HC.out.gets v5 T5 _ (bk3 x l ⟨g1, t1, o1, i1, b1, [y0, y1, y2, y3, y4, y5, y6, y7]⟩ ⟨g1 + 1, t2, o2, i2, b2, [z0, z1, z2, z3, z4, z5, z6, z7]⟩) t5'.mine.disk hup3)
  rw [bk3_sup HBad.out.1 HMb.out rfl rfl rfl] at K6
  clear hg5 t5' K5 N4 qn cf0 cf1 cf2 cf3 cf4 cf5 cf6 cf7 cf8 cf9 cf10 cf11 cf12 ce0 ce1 ce2 ce3 ce4 ce5 ce6 ce7 ce8 ce9 ce10 ce11 ce12 cg0 cg1 cg2 cg3 cg4 cg5 cg6 cg7 cg8 cg9 cg10 cg11 cg12
  go_wp2_with fail
  refine K6.out.mono ?_
  rintro e v6 ⟨r6, rfl, _, hr6, hv6⟩
  obtain rfl := hr6 _ rfl
  rw [sup_cells]
  have N6 := Lib.hid (N5.out.below hv6)
  have HX6 := Lib.hid (N5.out.below hv6 |>.keeps _ List.mem_cons_self).2
  have HI := Lib.hid (show (Try.prog.info? 25).map (·.size) = some (#[.int .i64 (g1 + 1), .int .i64 t2, .int .i64 o2, .int .i64 i2, .int .i64 b2, .int .i64 z0, .int .i64 z1, .int .i64 z2, .int .i64 z3, .int .i64 z4, .int .i64 z5, .int .i64 z6, .int .i64 z7] : Array Value).size by kernel_rfl)
  have HZ := Lib.hid (show (#[.int .i64 g1, .int .i64 t1, .int .i64 o1, .int .i64 i1, .int .i64 b1, .int .i64 y0, .int .i64 y1, .int .i64 y2, .int .i64 y3, .int .i64 y4, .int .i64 y5, .int .i64 y6, .int .i64 y7] : Array Value).size = (#[.int .i64 (g1 + 1), .int .i64 t2, .int .i64 o2, .int .i64 i2, .int .i64 b2, .int .i64 z0, .int .i64 z1, .int .i64 z2, .int .i64 z3, .int .i64 z4, .int .i64 z5, .int .i64 z6, .int .i64 z7] : Array Value).size from rfl)
  have HO := Lib.hid (show (#[.int .i64 (g1 + 1), .int .i64 t2, .int .i64 o2, .int .i64 i2, .int .i64 b2, .int .i64 z0, .int .i64 z1, .int .i64 z2, .int .i64 z3, .int .i64 z4, .int .i64 z5, .int .i64 z6, .int .i64 z7] : Array Value).all (·.oneCell') = true by simp [Value.oneCell'])
  have N7 := Lib.hid (N6.out.turn (W' := v6.setRow xb #[.int .i64 (g1 + 1), .int .i64 t2, .int .i64 o2, .int .i64 i2, .int .i64 b2, .int .i64 z0, .int .i64 z1, .int .i64 z2, .int .i64 z3, .int .i64 z4, .int .i64 z5, .int .i64 z6, .int .i64 z7]) (L' := [(xb, .cells #[.int .i64 (g1 + 1), .int .i64 t2, .int .i64 o2, .int .i64 i2, .int .i64 b2, .int .i64 z0, .int .i64 z1, .int .i64 z2, .int .i64 z3, .int .i64 z4, .int .i64 z5, .int .i64 z6, .int .i64 z7] 25 (0, 0)), (w.heap.size, .cells #[.int .i64 g1, .int .i64 t1, .int .i64 o1, .int .i64 i1, .int .i64 b1, .int .i64 y0, .int .i64 y1, .int .i64 y2, .int .i64 y3, .int .i64 y4, .int .i64 y5, .int .i64 y6, .int .i64 y7] 25 (0, 0)), (w.heap.size + 1, .cells #[.int .i64 (g1 + 1), .int .i64 t2, .int .i64 o2, .int .i64 i2, .int .i64 b2, .int .i64 z0, .int .i64 z1, .int .i64 z2, .int .i64 z3, .int .i64 z4, .int .i64 z5, .int .i64 z6, .int .i64 z7] 25 (0, 0))]) (grown_setRow v6 xb #[.int .i64 (g1 + 1), .int .i64 t2, .int .i64 o2, .int .i64 i2, .int .i64 b2, .int .i64 z0, .int .i64 z1, .int .i64 z2, .int .i64 z3, .int .i64 z4, .int .i64 z5, .int .i64 z6, .int .i64 z7]) (by simp [World.setRow]) (N6.out.keeps _ List.mem_cons_self).1 HXb.out.2 (fun y hy => by
    rcases List.mem_cons.1 hy with rfl | hy
    · exact ⟨(N6.out.keeps _ List.mem_cons_self).1, setRow_heap _ _ _ _ _ _ HX6.out⟩
    · have h1 := N6.out.keeps y (List.mem_cons_of_mem _ hy)
      refine ⟨h1.1, (setRow_other _ _ _ _ (fun e => ?_)).trans h1.2⟩
      rcases List.mem_cons.1 hy with rfl | hy
      · have := HXb.out.1; simp only at e; omega
      · obtain rfl := List.mem_singleton.1 hy
        have := HXb.out.1; simp only at e; omega))
  clear hv6 hr6 K6 N5
  obtain ⟨cf0, cf1, cf2, cf3, cf4, cf5, cf6, cf7, cf8, cf9, cf10, cf11, cf12⟩ := cells13 (N7.out.keeps _ List.mem_cons_self).2
  obtain ⟨cg0, cg1, cg2, cg3, cg4, cg5, cg6, cg7, cg8, cg9, cg10, cg11, cg12⟩ := cells13 (N7.out.keeps _ (List.mem_cons_of_mem _ (List.mem_cons_of_mem _ List.mem_cons_self))).2
  have qn := ints8_refl (v6.setRow xb #[.int .i64 (g1 + 1), .int .i64 t2, .int .i64 o2, .int .i64 i2, .int .i64 b2, .int .i64 z0, .int .i64 z1, .int .i64 z2, .int .i64 z3, .int .i64 z4, .int .i64 z5, .int .i64 z6, .int .i64 z7]) z0 z1 z2 z3 z4 z5 z6 z7
  have x0 : (g1 + 1 == g1 + 1) = true := by simp
  have x1 : (t2 == t2) = true := by simp
  have x2 : (o2 == o2) = true := by simp
  have x3 : (i2 == i2) = true := by simp
  have x4 : (b2 == b2) = true := by simp
  go_wp2_with (refine wpList_store_row rfl 25 _ _ rfl xb #[.int .i64 (g1 + 1), .int .i64 t2, .int .i64 o2, .int .i64 i2, .int .i64 b2, .int .i64 z0, .int .i64 z1, .int .i64 z2, .int .i64 z3, .int .i64 z4, .int .i64 z5, .int .i64 z6, .int .i64 z7] rfl rfl 25 #[.int .i64 g1, .int .i64 t1, .int .i64 o1, .int .i64 i1, .int .i64 b1, .int .i64 y0, .int .i64 y1, .int .i64 y2, .int .i64 y3, .int .i64 y4, .int .i64 y5, .int .i64 y6, .int .i64 y7] HX6.out HI.out HZ.out HO.out ?_)
  clear qn x0 x1 x2 x3 x4 cf0 cf1 cf2 cf3 cf4 cf5 cf6 cf7 cf8 cf9 cf10 cf11 cf12 HX6
  obtain ⟨W7, hW7⟩ : ∃ W7, W7 = v6.setRow xb #[.int .i64 (g1 + 1), .int .i64 t2, .int .i64 o2, .int .i64 i2, .int .i64 b2, .int .i64 z0, .int .i64 z1, .int .i64 z2, .int .i64 z3, .int .i64 z4, .int .i64 z5, .int .i64 z6, .int .i64 z7] := ⟨_, rfl⟩
  rw [← hW7] at N7
  have hmod : (g1 + 1).tmod 2 = (g1 + 1) % 2 := Int.tmod_eq_emod_of_nonneg (by omega)
  have K8 := Lib.hid (crash_ok (d := bk3 x l ⟨g1, t1, o1, i1, b1, [y0, y1, y2, y3, y4, y5, y6, y7]⟩ ⟨g1 + 1, t2, o2, i2, b2, [z0, z1, z2, z3, z4, z5, z6, z7]⟩) N7.out.mine.disk hup3 (fun n hn => by rw [bk3_cache HMb.out]; split <;> simp) (A := none) (cap := 0) (plan := []) (fun h => absurd h (by simp)) (by simp) (by simp))
  rw [hW7] at K8
  have N7' := Lib.hid (hW7 ▸ N7.out)
  go_wp2_with fail
  refine K8.out.mono ?_
  rintro e v8 ⟨rfl, hg8⟩
  obtain ⟨T8, t8'⟩ := N7'.out.step hg8
  have N8 := Lib.hid t8'
  have K9 := Lib.hid (up_any t8'.mine.disk)
  rw [show ((bk3 x l ⟨g1, t1, o1, i1, b1, [y0, y1, y2, y3, y4, y5, y6, y7]⟩ ⟨g1 + 1, t2, o2, i2, b2, [z0, z1, z2, z3, z4, z5, z6, z7]⟩).crash []).down = true from rfl, if_pos rfl] at K9
  clear hg8 t8' K8
  go_wp2_with fail
  refine K9.out.mono ?_
  rintro e v9 ⟨rfl, hg9⟩
  obtain ⟨T9, t9'⟩ := N8.out.step hg9
  have N9 := Lib.hid (show Held w v9 T9 _ (bk4 x l ⟨g1, t1, o1, i1, b1, [y0, y1, y2, y3, y4, y5, y6, y7]⟩ ⟨g1 + 1, t2, o2, i2, b2, [z0, z1, z2, z3, z4, z5, z6, z7]⟩ []) _ from t9')
  have K10 := Lib.hid (HC.out.gets v9 T9 _ (bk4 x l ⟨g1, t1, o1, i1, b1, [y0, y1, y2, y3, y4, y5, y6, y7]⟩ ⟨g1 + 1, t2, o2, i2, b2, [z0, z1, z2, z3, z4, z5, z6, z7]⟩ []) t9'.mine.disk rfl)
  rw [bk4_lost HBad.out.1 rfl] at K10
  clear hg9 t9' K9 N8
  go_wp2_with fail
  refine K10.out.mono ?_
  rintro e v10 ⟨r10, rfl, _, hr10, hv10⟩
  obtain rfl := hr10 _ rfl
  rw [sup_cells]
  have N10 := Lib.hid (N9.out.below hv10)
  have HX10 := Lib.hid (N10.out.keeps _ List.mem_cons_self).2
  clear hv10 hr10 K10 N9
  have HI := Lib.hid (show (Try.prog.info? 25).map (·.size) = some (#[.int .i64 g1, .int .i64 t1, .int .i64 o1, .int .i64 i1, .int .i64 b1, .int .i64 y0, .int .i64 y1, .int .i64 y2, .int .i64 y3, .int .i64 y4, .int .i64 y5, .int .i64 y6, .int .i64 y7] : Array Value).size by kernel_rfl)
  have HO := Lib.hid (show (#[.int .i64 g1, .int .i64 t1, .int .i64 o1, .int .i64 i1, .int .i64 b1, .int .i64 y0, .int .i64 y1, .int .i64 y2, .int .i64 y3, .int .i64 y4, .int .i64 y5, .int .i64 y6, .int .i64 y7] : Array Value).all (·.oneCell') = true by simp [Value.oneCell'])
  have N11 := Lib.hid (N10.out.turn (W' := v10.setRow xb #[.int .i64 g1, .int .i64 t1, .int .i64 o1, .int .i64 i1, .int .i64 b1, .int .i64 y0, .int .i64 y1, .int .i64 y2, .int .i64 y3, .int .i64 y4, .int .i64 y5, .int .i64 y6, .int .i64 y7]) (L' := [(xb, .cells #[.int .i64 g1, .int .i64 t1, .int .i64 o1, .int .i64 i1, .int .i64 b1, .int .i64 y0, .int .i64 y1, .int .i64 y2, .int .i64 y3, .int .i64 y4, .int .i64 y5, .int .i64 y6, .int .i64 y7] 25 (0, 0)), (w.heap.size, .cells #[.int .i64 g1, .int .i64 t1, .int .i64 o1, .int .i64 i1, .int .i64 b1, .int .i64 y0, .int .i64 y1, .int .i64 y2, .int .i64 y3, .int .i64 y4, .int .i64 y5, .int .i64 y6, .int .i64 y7] 25 (0, 0)), (w.heap.size + 1, .cells #[.int .i64 (g1 + 1), .int .i64 t2, .int .i64 o2, .int .i64 i2, .int .i64 b2, .int .i64 z0, .int .i64 z1, .int .i64 z2, .int .i64 z3, .int .i64 z4, .int .i64 z5, .int .i64 z6, .int .i64 z7] 25 (0, 0))]) (grown_setRow v10 xb #[.int .i64 g1, .int .i64 t1, .int .i64 o1, .int .i64 i1, .int .i64 b1, .int .i64 y0, .int .i64 y1, .int .i64 y2, .int .i64 y3, .int .i64 y4, .int .i64 y5, .int .i64 y6, .int .i64 y7]) (by simp [World.setRow]) (N10.out.keeps _ List.mem_cons_self).1 HXb.out.2 (fun y hy => by
    rcases List.mem_cons.1 hy with rfl | hy
    · exact ⟨(N10.out.keeps _ List.mem_cons_self).1, setRow_heap _ _ _ _ _ _ HX10.out⟩
    · have h1 := N10.out.keeps y (List.mem_cons_of_mem _ hy)
      refine ⟨h1.1, (setRow_other _ _ _ _ (fun e => ?_)).trans h1.2⟩
      rcases List.mem_cons.1 hy with rfl | hy
      · have := HXb.out.1; simp only at e; omega
      · obtain rfl := List.mem_singleton.1 hy
        have := HXb.out.1; simp only at e; omega))
  clear N10
  obtain ⟨cf0, cf1, cf2, cf3, cf4, cf5, cf6, cf7, cf8, cf9, cf10, cf11, cf12⟩ := cells13 (N11.out.keeps _ List.mem_cons_self).2
  obtain ⟨ce0, ce1, ce2, ce3, ce4, ce5, ce6, ce7, ce8, ce9, ce10, ce11, ce12⟩ := cells13 (N11.out.keeps _ (List.mem_cons_of_mem _ List.mem_cons_self)).2
  obtain ⟨cg0, cg1, cg2, cg3, cg4, cg5, cg6, cg7, cg8, cg9, cg10, cg11, cg12⟩ := cells13 (N11.out.keeps _ (List.mem_cons_of_mem _ (List.mem_cons_of_mem _ List.mem_cons_self))).2
  have qn := ints8_refl (v10.setRow xb #[.int .i64 g1, .int .i64 t1, .int .i64 o1, .int .i64 i1, .int .i64 b1, .int .i64 y0, .int .i64 y1, .int .i64 y2, .int .i64 y3, .int .i64 y4, .int .i64 y5, .int .i64 y6, .int .i64 y7]) y0 y1 y2 y3 y4 y5 y6 y7; have x0 : (g1 == g1) = true := (by simp); have x1 : (t1 == t1) = true := (by simp); have x2 : (o1 == o1) = true := (by simp); have x3 : (i1 == i1) = true := (by simp); have x4 : (b1 == b1) = true := (by simp); have xn : (g1 == g1 + 1) = false := (by simp; omega)
  go_wp2_with (refine wpList_store_row rfl 25 _ _ rfl xb #[.int .i64 g1, .int .i64 t1, .int .i64 o1, .int .i64 i1, .int .i64 b1, .int .i64 y0, .int .i64 y1, .int .i64 y2, .int .i64 y3, .int .i64 y4, .int .i64 y5, .int .i64 y6, .int .i64 y7] rfl rfl 25 #[.int .i64 (g1 + 1), .int .i64 t2, .int .i64 o2, .int .i64 i2, .int .i64 b2, .int .i64 z0, .int .i64 z1, .int .i64 z2, .int .i64 z3, .int .i64 z4, .int .i64 z5, .int .i64 z6, .int .i64 z7] HX10.out HI.out rfl HO.out ?_)
  refine (wakes9_of HC.out _).mono ?_
  rintro e v12 ⟨rfl, hv12⟩
  go_wp2
  go_ret
  exact ⟨rfl, (N11.out.below hv12).mine.keeps⟩
end Go.Proofs.Ytgkbhdecohlpmaa
end

section
/-
  HomeBack, by contract, where the first superblock may be and has a next generation: Put does not answer OK, keep true.
-/
namespace Go.Proofs.Ytgkbhdecohlpmaa
set_option maxRecDepth 100000
open Go.RowKit Dk
set_option maxRecDepth 100000

set_option maxHeartbeats 8000000 in
theorem hback_d (C : Calls9) (x : Int) (l : List (List Nat)) (A : Option Addr) (c : Nat) (s r : Sup) (w : World)
    (hx : -9223372036854775808 ≤ x ∧ x ≤ 9223372036854775807) (hl : VFine l) (hA : By w w.heap.size A l.flatten) (hlc : l.length ≤ c) (hc : c ≤ maxLen) (hs : s.Fine) (hr : r.Fine)
    (hbad : mayP s ∧ s.gen < 1099511627776) (he : putHE x l.length = 2) :
    Calls Try.prog 3 #[.int .i64 x, .slice A l.length c, .agg s.cells, .agg r.cells, .bool true] w fun e w' => e = .returned (.bool true) ∧ Below w.heap.size w w' := by
  obtain ⟨y0, y1, y2, y3, y4, y5, y6, y7, hx8⟩ := sup_map hs
  obtain ⟨z0, z1, z2, z3, z4, z5, z6, z7, hz8⟩ := sup_map hr
  obtain ⟨g1, t1, o1, i1, b1, m1⟩ := s
  obtain ⟨g2, t2, o2, i2, b2, m2⟩ := r
  simp only at hx8 hz8
  subst hx8 hz8
  have HC := Lib.hid C
  have HAr := Lib.hid (And.intro hA (And.intro hl hs))
  have HFr := Lib.hid hr
  have HLe := Lib.hid (And.intro hlc (And.intro hc hx))
  have HBad := Lib.hid hbad
  have HE := Lib.hid he
  rw [sup_cells, sup_cells]
  have hb0 := ((Below.refl w.heap.size w).alloc (Nat.le_refl _) (.cells #[.int .i64 g1, .int .i64 t1, .int .i64 o1, .int .i64 i1, .int .i64 b1, .int .i64 y0, .int .i64 y1, .int .i64 y2, .int .i64 y3, .int .i64 y4, .int .i64 y5, .int .i64 y6, .int .i64 y7] 25 (0, 0))).alloc (by simp) (.cells #[.int .i64 g2, .int .i64 t2, .int .i64 o2, .int .i64 i2, .int .i64 b2, .int .i64 z0, .int .i64 z1, .int .i64 z2, .int .i64 z3, .int .i64 z4, .int .i64 z5, .int .i64 z6, .int .i64 z7] 25 (0, 0))
  have q1 := heap_alloc_new' w (.cells #[.int .i64 g1, .int .i64 t1, .int .i64 o1, .int .i64 i1, .int .i64 b1, .int .i64 y0, .int .i64 y1, .int .i64 y2, .int .i64 y3, .int .i64 y4, .int .i64 y5, .int .i64 y6, .int .i64 y7] 25 (0, 0))
  have q2 := heap_alloc_new' (w.alloc (.cells #[.int .i64 g1, .int .i64 t1, .int .i64 o1, .int .i64 i1, .int .i64 b1, .int .i64 y0, .int .i64 y1, .int .i64 y2, .int .i64 y3, .int .i64 y4, .int .i64 y5, .int .i64 y6, .int .i64 y7] 25 (0, 0))) (.cells #[.int .i64 g2, .int .i64 t2, .int .i64 o2, .int .i64 i2, .int .i64 b2, .int .i64 z0, .int .i64 z1, .int .i64 z2, .int .i64 z3, .int .i64 z4, .int .i64 z5, .int .i64 z6, .int .i64 z7] 25 (0, 0))
  have q3 := (heap_alloc_old' (w.alloc (.cells #[.int .i64 g1, .int .i64 t1, .int .i64 o1, .int .i64 i1, .int .i64 b1, .int .i64 y0, .int .i64 y1, .int .i64 y2, .int .i64 y3, .int .i64 y4, .int .i64 y5, .int .i64 y6, .int .i64 y7] 25 (0, 0))) (.cells #[.int .i64 g2, .int .i64 t2, .int .i64 o2, .int .i64 i2, .int .i64 b2, .int .i64 z0, .int .i64 z1, .int .i64 z2, .int .i64 z3, .int .i64 z4, .int .i64 z5, .int .i64 z6, .int .i64 z7] 25 (0, 0)) _ (lt_of_obj q1)).trans q1
  rw [show (w.alloc (.cells #[.int .i64 g1, .int .i64 t1, .int .i64 o1, .int .i64 i1, .int .i64 b1, .int .i64 y0, .int .i64 y1, .int .i64 y2, .int .i64 y3, .int .i64 y4, .int .i64 y5, .int .i64 y6, .int .i64 y7] 25 (0, 0))).heap.size = w.heap.size + 1 by simp] at q2
  have H0 := Lib.hid (fresh_held' (L := [(w.heap.size, .cells #[.int .i64 g1, .int .i64 t1, .int .i64 o1, .int .i64 i1, .int .i64 b1, .int .i64 y0, .int .i64 y1, .int .i64 y2, .int .i64 y3, .int .i64 y4, .int .i64 y5, .int .i64 y6, .int .i64 y7] 25 (0, 0)), (w.heap.size + 1, .cells #[.int .i64 g2, .int .i64 t2, .int .i64 o2, .int .i64 i2, .int .i64 b2, .int .i64 z0, .int .i64 z1, .int .i64 z2, .int .i64 z3, .int .i64 z4, .int .i64 z5, .int .i64 z6, .int .i64 z7] 25 (0, 0))]) hb0 (fun y hy => by
    rcases List.mem_cons.1 hy with rfl | hy
    · exact q3
    · obtain rfl := List.mem_singleton.1 hy; exact q2))
  rw [show ((w.alloc (.cells #[.int .i64 g1, .int .i64 t1, .int .i64 o1, .int .i64 i1, .int .i64 b1, .int .i64 y0, .int .i64 y1, .int .i64 y2, .int .i64 y3, .int .i64 y4, .int .i64 y5, .int .i64 y6, .int .i64 y7] 25 (0, 0))).alloc (.cells #[.int .i64 g2, .int .i64 t2, .int .i64 o2, .int .i64 i2, .int .i64 b2, .int .i64 z0, .int .i64 z1, .int .i64 z2, .int .i64 z3, .int .i64 z4, .int .i64 z5, .int .i64 z6, .int .i64 z7] 25 (0, 0))).heap.size = w.heap.size + 2 by simp] at H0
  clear C hA hl hs hr hlc hc hx hbad he hb0 q1 q2 q3
  go_enter Try.func3, Try.ntmps3
  go_wp2_with fail
  refine H0.out.mono ?_
  rintro e w1 ⟨rfl, S1, h1⟩
  have M1 := Lib.hid h1
  have H1 := Lib.hid (HC.out.put w1 S1 _ Dk.fresh x l A c h1.mine.disk rfl (fun n hn => by simp [Dk.fresh]) HAr.out.2.1 (h1.by_ HAr.out.1) HLe.out.1 HLe.out.2.1 HLe.out.2.2)
  clear h1 H0
  rw [HE.out] at H1
  go_wp2_with fail
  refine H1.out.mono ?_
  rintro e w4 ⟨rfl, hg⟩
  obtain ⟨S2, h2⟩ := M1.out.step hg
  have M4 := Lib.hid h2
  clear h2 hg H1 M1
  obtain ⟨ce0, ce1, ce2, ce3, ce4, ce5, ce6, ce7, ce8, ce9, ce10, ce11, ce12⟩ := cells13 (M4.out.keeps _ List.mem_cons_self).2
  have HMay := Lib.hid (HC.out.may ⟨g1, t1, o1, i1, b1, [y0, y1, y2, y3, y4, y5, y6, y7]⟩ w4 HAr.out.2.2)
  rw [sup_cells] at HMay
  rw [decide_eq_true HBad.out.1] at HMay
  have hge : ¬ (1099511627776 ≤ g1) := by have h9 : g1 < 1099511627776 := HBad.out.2; omega
  have hg0 : 0 ≤ g1 := HBad.out.1.1.1
  have hwr : IntKind.i64.wrap (g1 + 1) = g1 + 1 := by rw [IntKind.wrap_i64]; omega
  go_wp2_with fail
  refine HMay.out.mono ?_
  rintro e v1 ⟨rfl, hv1⟩
  have N1 := Lib.hid (M4.out.below hv1)
  clear hv1 HMay ce0 ce1 ce2 ce3 ce4 ce5 ce6 ce7 ce8 ce9 ce10 ce11 ce12
  obtain ⟨ce0, ce1, ce2, ce3, ce4, ce5, ce6, ce7, ce8, ce9, ce10, ce11, ce12⟩ := cells13 (N1.out.keeps _ List.mem_cons_self).2
  have HSn := Lib.hid (show Sup.Fine ⟨g1 + 1, t2, o2, i2, b2, [z0, z1, z2, z3, z4, z5, z6, z7]⟩ from ⟨rfl, fun z hz => by
    have h8 := HFr.out.2
    have h9 : g1 < 1099511627776 := HBad.out.2
    unfold Sup.ints at hz h8
    rcases List.mem_cons.1 hz with rfl | hz
    · show -9223372036854775808 ≤ g1 + 1 ∧ g1 + 1 ≤ 9223372036854775807; omega
    · exact h8 z (List.mem_cons_of_mem _ hz)⟩)
  have hrb := (N1.out.keeps _ (List.mem_cons_of_mem _ List.mem_cons_self)).2
  have hcb := cell_of_row v1 (w.heap.size + 1) 0 _ _ _ hrb
  have hfb := frozen_of_row v1 (w.heap.size + 1) 0 _ _ hrb
  change v1.cell? ⟨w.heap.size + 1, 0, none⟩ = some (.int .i64 g2) at hcb
  have hq5 := heap_setCell_same v1 (w.heap.size + 1) 0 _ _ (.int .i64 (g1 + 1)) hrb
  have N5 := Lib.hid (N1.out.turn (W' := (v1.setCell ⟨w.heap.size + 1, 0, none⟩ (.int .i64 (g1 + 1)))) (L' := [(w.heap.size, .cells #[.int .i64 g1, .int .i64 t1, .int .i64 o1, .int .i64 i1, .int .i64 b1, .int .i64 y0, .int .i64 y1, .int .i64 y2, .int .i64 y3, .int .i64 y4, .int .i64 y5, .int .i64 y6, .int .i64 y7] 25 (0, 0)), (w.heap.size + 1, .cells #[.int .i64 (g1 + 1), .int .i64 t2, .int .i64 o2, .int .i64 i2, .int .i64 b2, .int .i64 z0, .int .i64 z1, .int .i64 z2, .int .i64 z3, .int .i64 z4, .int .i64 z5, .int .i64 z6, .int .i64 z7] 25 (0, 0))]) (grown_setCell v1 (w.heap.size + 1) 0 (.int .i64 (g1 + 1))) (by simp [World.setCell]) (N1.out.keeps _ (List.mem_cons_of_mem _ List.mem_cons_self)).1 (by omega) (fun y hy => by
    rcases List.mem_cons.1 hy with rfl | hy
    · exact ⟨(N1.out.keeps _ List.mem_cons_self).1, (Below.heap_setCell v1 _ _ _ (by simp)).trans (N1.out.keeps _ List.mem_cons_self).2⟩
    · obtain rfl := List.mem_singleton.1 hy
      exact ⟨(N1.out.keeps _ (List.mem_cons_of_mem _ List.mem_cons_self)).1, hq5⟩))
  have K2 := Lib.hid (HC.out.puts (v1.setCell ⟨w.heap.size + 1, 0, none⟩ (.int .i64 (g1 + 1))) _ _ _ ⟨g1, t1, o1, i1, b1, [y0, y1, y2, y3, y4, y5, y6, y7]⟩ N5.out.mine.disk (by rw [put_up]; rfl) (fun n hn => by have := put_fewL fresh_few x l n hn; omega) HAr.out.2.2)
  rw [sup_cells, if_pos HBad.out.1] at K2
  clear hq5 hrb
  go_wp2_with fail
  refine K2.out.mono ?_
  rintro e v2 ⟨rfl, hg2⟩
  obtain ⟨T2, t2'⟩ := N5.out.step hg2
  have N2 := Lib.hid t2'
  have K3 := Lib.hid (flush_ok t2'.mine.disk (by rw [putS_up, put_up]; rfl))
  clear hg2 t2' K2 N1 N5 hcb hfb ce0 ce1 ce2 ce3 ce4 ce5 ce6 ce7 ce8 ce9 ce10 ce11 ce12
  go_wp2_with fail
  refine K3.out.mono ?_
  rintro e v3 ⟨rfl, hg3⟩
  obtain ⟨T3, t3'⟩ := N2.out.step hg3
  have N3 := Lib.hid (show Held w v3 T3 _ (bk2 x l ⟨g1, t1, o1, i1, b1, [y0, y1, y2, y3, y4, y5, y6, y7]⟩) _ from t3')
  have hup2 : (bk2 x l ⟨g1, t1, o1, i1, b1, [y0, y1, y2, y3, y4, y5, y6, y7]⟩).down = false := by show (putSD (putD Dk.fresh x l) ⟨g1, t1, o1, i1, b1, [y0, y1, y2, y3, y4, y5, y6, y7]⟩).down = false; rw [putS_up, put_up]; rfl
  have K4 := Lib.hid (HC.out.gets v3 T3 _ (bk2 x l ⟨g1, t1, o1, i1, b1, [y0, y1, y2, y3, y4, y5, y6, y7]⟩) t3'.mine.disk hup2)
  rw [bk2_sup HBad.out.1 rfl] at K4
  clear hg3 t3' K3 N2
  go_wp2_with fail
  refine K4.out.mono ?_
  rintro e v4 ⟨r4, rfl, _, hr4, hv4⟩
  obtain rfl := hr4 _ rfl
  rw [sup_cells]
  have N4 := Lib.hid ((N3.out.below hv4).push #[.int .i64 g1, .int .i64 t1, .int .i64 o1, .int .i64 i1, .int .i64 b1, .int .i64 y0, .int .i64 y1, .int .i64 y2, .int .i64 y3, .int .i64 y4, .int .i64 y5, .int .i64 y6, .int .i64 y7] 25 (0, 0))
  clear hr4 K4
  have hlt4 : w.heap.size + 1 < v4.heap.size := lt_of_obj ((N3.out.below hv4).keeps _ (List.mem_cons_of_mem _ List.mem_cons_self)).2
  clear hv4 N3
  generalize hxb : v4.heap.size = xb at N4 hlt4
  have HXb := Lib.hid (show w.heap.size + 1 < xb ∧ w.heap.size ≤ xb from ⟨hlt4, by omega⟩)
  clear hlt4
  obtain ⟨W4, hW4⟩ : ∃ W4, W4 = v4.alloc (.cells #[.int .i64 g1, .int .i64 t1, .int .i64 o1, .int .i64 i1, .int .i64 b1, .int .i64 y0, .int .i64 y1, .int .i64 y2, .int .i64 y3, .int .i64 y4, .int .i64 y5, .int .i64 y6, .int .i64 y7] 25 (0, 0)) := ⟨_, rfl⟩
  rw [← hW4] at N4
  have qn := ints8_refl W4 y0 y1 y2 y3 y4 y5 y6 y7
  have x0 : (g1 == g1) = true := by simp
  have x1 : (t1 == t1) = true := by simp
  have x2 : (o1 == o1) = true := by simp
  have x3 : (i1 == i1) = true := by simp
  have x4 : (b1 == b1) = true := by simp
  obtain ⟨cf0, cf1, cf2, cf3, cf4, cf5, cf6, cf7, cf8, cf9, cf10, cf11, cf12⟩ := cells13 (N4.out.keeps _ List.mem_cons_self).2
  obtain ⟨ce0, ce1, ce2, ce3, ce4, ce5, ce6, ce7, ce8, ce9, ce10, ce11, ce12⟩ := cells13 (N4.out.keeps _ (List.mem_cons_of_mem _ List.mem_cons_self)).2
  rw [hW4] at qn cf0 cf1 cf2 cf3 cf4 cf5 cf6 cf7 cf8 cf9 cf10 cf11 cf12 ce0 ce1 ce2 ce3 ce4 ce5 ce6 ce7 ce8 ce9 ce10 ce11 ce12
  rw [← hxb] at cf0 cf1 cf2 cf3 cf4 cf5 cf6 cf7 cf8 cf9 cf10 cf11 cf12
  have K5 := Lib.hid (HC.out.puts W4 T3 _ (bk2 x l ⟨g1, t1, o1, i1, b1, [y0, y1, y2, y3, y4, y5, y6, y7]⟩) ⟨g1 + 1, t2, o2, i2, b2, [z0, z1, z2, z3, z4, z5, z6, z7]⟩ N4.out.mine.disk hup2 (fun n hn => by simp [bk2, Dk.Dk.flush]) HSn.out)
  rw [sup_cells] at K5
  obtain ⟨cg0, cg1, cg2, cg3, cg4, cg5, cg6, cg7, cg8, cg9, cg10, cg11, cg12⟩ := cells13 (N4.out.keeps _ (List.mem_cons_of_mem _ (List.mem_cons_of_mem _ List.mem_cons_self))).2
  rw [hW4] at cg0 cg1 cg2 cg3 cg4 cg5 cg6 cg7 cg8 cg9 cg10 cg11 cg12 K5
  by_cases hmb : mayP ⟨g1 + 1, t2, o2, i2, b2, [z0, z1, z2, z3, z4, z5, z6, z7]⟩
  rotate_left
  · rw [if_neg hmb] at K5
    go_wp2_with fail
    refine K5.out.mono ?_
    rintro e v5 ⟨rfl, hg5⟩
    rw [← hW4] at hg5
    obtain ⟨T5, t5'⟩ := N4.out.step hg5
    have N5 := Lib.hid t5'
    have K6 := Lib.hid (HC.out.may ⟨g1 + 1, t2, o2, i2, b2, [z0, z1, z2, z3, z4, z5, z6, z7]⟩ v5 HSn.out)
    rw [sup_cells, decide_eq_false hmb] at K6
    clear hg5 t5' K5 qn cf0 cf1 cf2 cf3 cf4 cf5 cf6 cf7 cf8 cf9 cf10 cf11 cf12 ce0 ce1 ce2 ce3 ce4 ce5 ce6 ce7 ce8 ce9 ce10 ce11 ce12 cg0 cg1 cg2 cg3 cg4 cg5 cg6 cg7 cg8 cg9 cg10 cg11 cg12
    obtain ⟨cg0, cg1, cg2, cg3, cg4, cg5, cg6, cg7, cg8, cg9, cg10, cg11, cg12⟩ := cells13 (N5.out.keeps _ (List.mem_cons_of_mem _ (List.mem_cons_of_mem _ List.mem_cons_self))).2
    go_wp2_with fail
    refine K6.out.mono ?_
    rintro e v6 ⟨rfl, hv6⟩
    have N6 := Lib.hid (N5.out.below hv6)
    clear hv6 K6 cg0 cg1 cg2 cg3 cg4 cg5 cg6 cg7 cg8 cg9 cg10 cg11 cg12
    go_wp2_with fail
    refine (wakes9_of HC.out _).mono ?_
    rintro e v7 ⟨rfl, hv7⟩
    go_wp2
    go_ret
    exact ⟨rfl, (N6.out.below hv7).mine.keeps⟩
  rw [if_pos hmb] at K5
  have HMb := Lib.hid hmb
  clear hmb
  go_wp2_with fail
  refine K5.out.mono ?_
  rintro e v5 ⟨rfl, hg5⟩
  rw [← hW4] at hg5
  obtain ⟨T5, t5'⟩ := N4.out.step hg5
  have N5 := Lib.hid (show Held w v5 T5 _ (bk3 x l ⟨g1, t1, o1, i1, b1, [y0, y1, y2, y3, y4, y5, y6, y7]⟩ ⟨g1 + 1, t2, o2, i2, b2, [z0, z1, z2, z3, z4, z5, z6, z7]⟩) _ from t5')
  have hup3 : (bk3 x l ⟨g1, t1, o1, i1, b1, [y0, y1, y2, y3, y4, y5, y6, y7]⟩ ⟨g1 + 1, t2, o2, i2, b2, [z0, z1, z2, z3, z4, z5, z6, z7]⟩).down = false := by show (putSD (bk2 x l ⟨g1, t1, o1, i1, b1, [y0, y1, y2, y3, y4, y5, y6, y7]⟩) ⟨g1 + 1, t2, o2, i2, b2, [z0, z1, z2, z3, z4, z5, z6, z7]⟩).down = false; rw [putS_up]; exact hup2
  have K6 := Lib.hid (HC.out.gets v5 T5 _ (bk3 x l ⟨g1, t1, o1, i1, b1, [y0, y1, y2, y3, y4, y5, y6, y7]⟩ ⟨g1 + 1, t2, o2, i2, b2, [z0, z1, z2, z3, z4, z5, z6, z7]⟩) t5'.mine.disk hup3)
  rw [bk3_sup HBad.out.1 HMb.out rfl rfl rfl] at K6
  clear hg5 t5' K5 N4 qn cf0 cf1 cf2 cf3 cf4 cf5 cf6 cf7 cf8 cf9 cf10 cf11 cf12 ce0 ce1 ce2 ce3 ce4 ce5 ce6 ce7 ce8 ce9 ce10 ce11 ce12 cg0 cg1 cg2 cg3 cg4 cg5 cg6 cg7 cg8 cg9 cg10 cg11 cg12
  go_wp2_with fail
  refine K6.out.mono ?_
  rintro e v6 ⟨r6, rfl, _, hr6, hv6⟩
  obtain rfl := hr6 _ rfl
  rw [sup_cells]
  have N6 := Lib.hid (N5.out.below hv6)
  have HX6 := Lib.hid (N5.out.below hv6 |>.keeps _ List.mem_cons_self).2
  have HI := Lib.hid (show (Try.prog.info? 25).map (·.size) = some (#[.int .i64 (g1 + 1), .int .i64 t2, .int .i64 o2, .int .i64 i2, .int .i64 b2, .int .i64 z0, .int .i64 z1, .int .i64 z2, .int .i64 z3, .int .i64 z4, .int .i64 z5, .int .i64 z6, .int .i64 z7] : Array Value).size by kernel_rfl)
  have HZ := Lib.hid (show (#[.int .i64 g1, .int .i64 t1, .int .i64 o1, .int .i64 i1, .int .i64 b1, .int .i64 y0, .int .i64 y1, .int .i64 y2, .int .i64 y3, .int .i64 y4, .int .i64 y5, .int .i64 y6, .int .i64 y7] : Array Value).size = (#[.int .i64 (g1 + 1), .int .i64 t2, .int .i64 o2, .int .i64 i2, .int .i64 b2, .int .i64 z0, .int .i64 z1, .int .i64 z2, .int .i64 z3, .int .i64 z4, .int .i64 z5, .int .i64 z6, .int .i64 z7] : Array Value).size from rfl)
  have HO := Lib.hid (show (#[.int .i64 (g1 + 1), .int .i64 t2, .int .i64 o2, .int .i64 i2, .int .i64 b2, .int .i64 z0, .int .i64 z1, .int .i64 z2, .int .i64 z3, .int .i64 z4, .int .i64 z5, .int .i64 z6, .int .i64 z7] : Array Value).all (·.oneCell') = true by simp [Value.oneCell'])
  have N7 := Lib.hid (N6.out.turn (W' := v6.setRow xb #[.int .i64 (g1 + 1), .int .i64 t2, .int .i64 o2, .int .i64 i2, .int .i64 b2, .int .i64 z0, .int .i64 z1, .int .i64 z2, .int .i64 z3, .int .i64 z4, .int .i64 z5, .int .i64 z6, .int .i64 z7]) (L' := [(xb, .cells #[.int .i64 (g1 + 1), .int .i64 t2, .int .i64 o2, .int .i64 i2, .int .i64 b2, .int .i64 z0, .int .i64 z1, .int .i64 z2, .int .i64 z3, .int .i64 z4, .int .i64 z5, .int .i64 z6, .int .i64 z7] 25 (0, 0)), (w.heap.size, .cells #[.int .i64 g1, .int .i64 t1, .int .i64 o1, .int .i64 i1, .int .i64 b1, .int .i64 y0, .int .i64 y1, .int .i64 y2, .int .i64 y3, .int .i64 y4, .int .i64 y5, .int .i64 y6, .int .i64 y7] 25 (0, 0)), (w.heap.size + 1, .cells #[.int .i64 (g1 + 1), .int .i64 t2, .int .i64 o2, .int .i64 i2, .int .i64 b2, .int .i64 z0, .int .i64 z1, .int .i64 z2, .int .i64 z3, .int .i64 z4, .int .i64 z5, .int .i64 z6, .int .i64 z7] 25 (0, 0))]) (grown_setRow v6 xb #[.int .i64 (g1 + 1), .int .i64 t2, .int .i64 o2, .int .i64 i2, .int .i64 b2, .int .i64 z0, .int .i64 z1, .int .i64 z2, .int .i64 z3, .int .i64 z4, .int .i64 z5, .int .i64 z6, .int .i64 z7]) (by simp [World.setRow]) (N6.out.keeps _ List.mem_cons_self).1 HXb.out.2 (fun y hy => by
    rcases List.mem_cons.1 hy with rfl | hy
    · exact ⟨(N6.out.keeps _ List.mem_cons_self).1, setRow_heap _ _ _ _ _ _ HX6.out⟩
    · have h1 := N6.out.keeps y (List.mem_cons_of_mem _ hy)
      refine ⟨h1.1, (setRow_other _ _ _ _ (fun e => ?_)).trans h1.2⟩
      rcases List.mem_cons.1 hy with rfl | hy
      · have := HXb.out.1; simp only at e; omega
      · obtain rfl := List.mem_singleton.1 hy
        have := HXb.out.1; simp only at e; omega))
  clear hv6 hr6 K6 N5
  obtain ⟨cf0, cf1, cf2, cf3, cf4, cf5, cf6, cf7, cf8, cf9, cf10, cf11, cf12⟩ := cells13 (N7.out.keeps _ List.mem_cons_self).2
  obtain ⟨cg0, cg1, cg2, cg3, cg4, cg5, cg6, cg7, cg8, cg9, cg10, cg11, cg12⟩ := cells13 (N7.out.keeps _ (List.mem_cons_of_mem _ (List.mem_cons_of_mem _ List.mem_cons_self))).2
  have qn := ints8_refl (v6.setRow xb #[.int .i64 (g1 + 1), .int .i64 t2, .int .i64 o2, .int .i64 i2, .int .i64 b2, .int .i64 z0, .int .i64 z1, .int .i64 z2, .int .i64 z3, .int .i64 z4, .int .i64 z5, .int .i64 z6, .int .i64 z7]) z0 z1 z2 z3 z4 z5 z6 z7
  have x0 : (g1 + 1 == g1 + 1) = true := by simp
  have x1 : (t2 == t2) = true := by simp
  have x2 : (o2 == o2) = true := by simp
  have x3 : (i2 == i2) = true := by simp
  have x4 : (b2 == b2) = true := by simp
  go_wp2_with (refine wpList_store_row rfl 25 _ _ rfl xb #[.int .i64 (g1 + 1), .int .i64 t2, .int .i64 o2, .int .i64 i2, .int .i64 b2, .int .i64 z0, .int .i64 z1, .int .i64 z2, .int .i64 z3, .int .i64 z4, .int .i64 z5, .int .i64 z6, .int .i64 z7] rfl rfl 25 #[.int .i64 g1, .int .i64 t1, .int .i64 o1, .int .i64 i1, .int .i64 b1, .int .i64 y0, .int .i64 y1, .int .i64 y2, .int .i64 y3, .int .i64 y4, .int .i64 y5, .int .i64 y6, .int .i64 y7] HX6.out HI.out HZ.out HO.out ?_)
  clear qn x0 x1 x2 x3 x4 cf0 cf1 cf2 cf3 cf4 cf5 cf6 cf7 cf8 cf9 cf10 cf11 cf12 HX6
  obtain ⟨W7, hW7⟩ : ∃ W7, W7 = v6.setRow xb #[.int .i64 (g1 + 1), .int .i64 t2, .int .i64 o2, .int .i64 i2, .int .i64 b2, .int .i64 z0, .int .i64 z1, .int .i64 z2, .int .i64 z3, .int .i64 z4, .int .i64 z5, .int .i64 z6, .int .i64 z7] := ⟨_, rfl⟩
  rw [← hW7] at N7
  have hmod : (g1 + 1).tmod 2 = (g1 + 1) % 2 := Int.tmod_eq_emod_of_nonneg (by omega)
  have N8' := Lib.hid (N7.out.alloc (.cells #[.int .i64 ((g1 + 1) % 2), .int .i64 1] 41 (0, 0)))
  have hp : PlanAt (W7.alloc (.cells #[.int .i64 ((g1 + 1) % 2), .int .i64 1] 41 (0, 0))) (W7.alloc (.cells #[.int .i64 ((g1 + 1) % 2), .int .i64 1] 41 (0, 0))).heap.size (some ⟨W7.heap.size, 0, none⟩) [((g1 + 1) % 2, 1)] := fun _ =>
    ⟨W7.heap.size, 0, rfl, by simp, fun j hj => by
      obtain rfl : j = 0 := by simpa using hj
      exact ⟨by rw [cell_of_row _ _ _ _ _ _ (heap_alloc_new' W7 _)]; rfl, by rw [cell_of_row _ _ _ _ _ _ (heap_alloc_new' W7 _)]; rfl⟩⟩
  have K8 := Lib.hid (crash_ok (d := bk3 x l ⟨g1, t1, o1, i1, b1, [y0, y1, y2, y3, y4, y5, y6, y7]⟩ ⟨g1 + 1, t2, o2, i2, b2, [z0, z1, z2, z3, z4, z5, z6, z7]⟩) N8'.out.mine.disk hup3 (fun n hn => by rw [bk3_cache HMb.out]; split <;> simp) hp (by simp) (by simp; omega) (cap := 1))
  have N8q := N8'
  have hsz : W7.heap.size = v6.heap.size := by rw [hW7]; simp
  rw [hsz] at K8
  clear hsz
  rw [hW7] at K8 N8q
  go_wp2_with fail
  refine K8.out.mono ?_
  rintro e v8 ⟨rfl, hg8⟩
  obtain ⟨T8, t8'⟩ := N8q.out.step hg8
  have N8 := Lib.hid t8'
  have K9 := Lib.hid (up_any t8'.mine.disk)
  rw [show ((bk3 x l ⟨g1, t1, o1, i1, b1, [y0, y1, y2, y3, y4, y5, y6, y7]⟩ ⟨g1 + 1, t2, o2, i2, b2, [z0, z1, z2, z3, z4, z5, z6, z7]⟩).crash [((g1 + 1) % 2, 1)]).down = true from rfl, if_pos rfl] at K9
  clear hg8 t8' K8
  go_wp2_with fail
  refine K9.out.mono ?_
  rintro e v9 ⟨rfl, hg9⟩
  obtain ⟨T9, t9'⟩ := N8.out.step hg9
  have N9 := Lib.hid (show Held w v9 T9 _ (bk4 x l ⟨g1, t1, o1, i1, b1, [y0, y1, y2, y3, y4, y5, y6, y7]⟩ ⟨g1 + 1, t2, o2, i2, b2, [z0, z1, z2, z3, z4, z5, z6, z7]⟩ [((g1 + 1) % 2, 1)]) _ from t9')
  have K10 := Lib.hid (HC.out.gets v9 T9 _ (bk4 x l ⟨g1, t1, o1, i1, b1, [y0, y1, y2, y3, y4, y5, y6, y7]⟩ ⟨g1 + 1, t2, o2, i2, b2, [z0, z1, z2, z3, z4, z5, z6, z7]⟩ [((g1 + 1) % 2, 1)]) t9'.mine.disk rfl)
  rw [bk4_kept HBad.out.1 HMb.out rfl rfl rfl] at K10
  clear hg9 t9' K9 N8
  go_wp2_with fail
  refine K10.out.mono ?_
  rintro e v10 ⟨r10, rfl, _, hr10, hv10⟩
  obtain rfl := hr10 _ rfl
  rw [sup_cells]
  have N10 := Lib.hid (N9.out.below hv10)
  have HX10 := Lib.hid (N10.out.keeps _ List.mem_cons_self).2
  clear hv10 hr10 K10 N9
  have HI := Lib.hid (show (Try.prog.info? 25).map (·.size) = some (#[.int .i64 (g1 + 1), .int .i64 t2, .int .i64 o2, .int .i64 i2, .int .i64 b2, .int .i64 z0, .int .i64 z1, .int .i64 z2, .int .i64 z3, .int .i64 z4, .int .i64 z5, .int .i64 z6, .int .i64 z7] : Array Value).size by kernel_rfl)
  have HO := Lib.hid (show (#[.int .i64 (g1 + 1), .int .i64 t2, .int .i64 o2, .int .i64 i2, .int .i64 b2, .int .i64 z0, .int .i64 z1, .int .i64 z2, .int .i64 z3, .int .i64 z4, .int .i64 z5, .int .i64 z6, .int .i64 z7] : Array Value).all (·.oneCell') = true by simp [Value.oneCell'])
  have N11 := Lib.hid (N10.out.turn (W' := v10.setRow xb #[.int .i64 (g1 + 1), .int .i64 t2, .int .i64 o2, .int .i64 i2, .int .i64 b2, .int .i64 z0, .int .i64 z1, .int .i64 z2, .int .i64 z3, .int .i64 z4, .int .i64 z5, .int .i64 z6, .int .i64 z7]) (L' := [(xb, .cells #[.int .i64 (g1 + 1), .int .i64 t2, .int .i64 o2, .int .i64 i2, .int .i64 b2, .int .i64 z0, .int .i64 z1, .int .i64 z2, .int .i64 z3, .int .i64 z4, .int .i64 z5, .int .i64 z6, .int .i64 z7] 25 (0, 0)), (w.heap.size, .cells #[.int .i64 g1, .int .i64 t1, .int .i64 o1, .int .i64 i1, .int .i64 b1, .int .i64 y0, .int .i64 y1, .int .i64 y2, .int .i64 y3, .int .i64 y4, .int .i64 y5, .int .i64 y6, .int .i64 y7] 25 (0, 0)), (w.heap.size + 1, .cells #[.int .i64 (g1 + 1), .int .i64 t2, .int .i64 o2, .int .i64 i2, .int .i64 b2, .int .i64 z0, .int .i64 z1, .int .i64 z2, .int .i64 z3, .int .i64 z4, .int .i64 z5, .int .i64 z6, .int .i64 z7] 25 (0, 0))]) (grown_setRow v10 xb #[.int .i64 (g1 + 1), .int .i64 t2, .int .i64 o2, .int .i64 i2, .int .i64 b2, .int .i64 z0, .int .i64 z1, .int .i64 z2, .int .i64 z3, .int .i64 z4, .int .i64 z5, .int .i64 z6, .int .i64 z7]) (by simp [World.setRow]) (N10.out.keeps _ List.mem_cons_self).1 HXb.out.2 (fun y hy => by
    rcases List.mem_cons.1 hy with rfl | hy
    · exact ⟨(N10.out.keeps _ List.mem_cons_self).1, setRow_heap _ _ _ _ _ _ HX10.out⟩
    · have h1 := N10.out.keeps y (List.mem_cons_of_mem _ hy)
      refine ⟨h1.1, (setRow_other _ _ _ _ (fun e => ?_)).trans h1.2⟩
      rcases List.mem_cons.1 hy with rfl | hy
      · have := HXb.out.1; simp only at e; omega
      · obtain rfl := List.mem_singleton.1 hy
        have := HXb.out.1; simp only at e; omega))
  clear N10
  obtain ⟨cf0, cf1, cf2, cf3, cf4, cf5, cf6, cf7, cf8, cf9, cf10, cf11, cf12⟩ := cells13 (N11.out.keeps _ List.mem_cons_self).2
  obtain ⟨ce0, ce1, ce2, ce3, ce4, ce5, ce6, ce7, ce8, ce9, ce10, ce11, ce12⟩ := cells13 (N11.out.keeps _ (List.mem_cons_of_mem _ List.mem_cons_self)).2
  obtain ⟨cg0, cg1, cg2, cg3, cg4, cg5, cg6, cg7, cg8, cg9, cg10, cg11, cg12⟩ := cells13 (N11.out.keeps _ (List.mem_cons_of_mem _ (List.mem_cons_of_mem _ List.mem_cons_self))).2
  have qn := ints8_refl (v10.setRow xb #[.int .i64 (g1 + 1), .int .i64 t2, .int .i64 o2, .int .i64 i2, .int .i64 b2, .int .i64 z0, .int .i64 z1, .int .i64 z2, .int .i64 z3, .int .i64 z4, .int .i64 z5, .int .i64 z6, .int .i64 z7]) z0 z1 z2 z3 z4 z5 z6 z7; have x0 : (g1 + 1 == g1 + 1) = true := (by simp); have x1 : (t2 == t2) = true := (by simp); have x2 : (o2 == o2) = true := (by simp); have x3 : (i2 == i2) = true := (by simp); have x4 : (b2 == b2) = true := (by simp)
  go_wp2_with (refine wpList_store_row rfl 25 _ _ rfl xb #[.int .i64 (g1 + 1), .int .i64 t2, .int .i64 o2, .int .i64 i2, .int .i64 b2, .int .i64 z0, .int .i64 z1, .int .i64 z2, .int .i64 z3, .int .i64 z4, .int .i64 z5, .int .i64 z6, .int .i64 z7] rfl rfl 25 #[.int .i64 (g1 + 1), .int .i64 t2, .int .i64 o2, .int .i64 i2, .int .i64 b2, .int .i64 z0, .int .i64 z1, .int .i64 z2, .int .i64 z3, .int .i64 z4, .int .i64 z5, .int .i64 z6, .int .i64 z7] HX10.out HI.out rfl HO.out ?_)
  refine (wakes9_of HC.out _).mono ?_
  rintro e v12 ⟨rfl, hv12⟩
  go_wp2
  go_ret
  exact ⟨rfl, (N11.out.below hv12).mine.keeps⟩
end Go.Proofs.Ytgkbhdecohlpmaa
end

section
/-
  HomeBack, by contract.
-/
namespace Go.Proofs.Ytgkbhdecohlpmaa
set_option maxRecDepth 100000
open Go.RowKit Dk

theorem hback_law (C : Calls9) (x : Int) (l : List (List Nat)) (A : Option Addr) (c : Nat) (s r : Sup) (keep : Bool) (w : World)
    (hx : -9223372036854775808 ≤ x ∧ x ≤ 9223372036854775807) (hl : VFine l) (hA : By w w.heap.size A l.flatten) (hlc : l.length ≤ c) (hc : c ≤ maxLen) (hs : s.Fine) (hr : r.Fine) :
    Calls Try.prog 3 #[.int .i64 x, .slice A l.length c, .agg s.cells, .agg r.cells, .bool keep] w fun e w' => e = .returned (.bool true) ∧ Below w.heap.size w w' := by
  by_cases h : mayP s ∧ s.gen < 1099511627776
  · rcases put_code x l.length with he | he
    · cases keep
      · exact hback_a C x l A c s r w hx hl hA hlc hc hs hr h he
      · exact hback_b C x l A c s r w hx hl hA hlc hc hs hr h he
    · cases keep
      · exact hback_c C x l A c s r w hx hl hA hlc hc hs hr h he
      · exact hback_d C x l A c s r w hx hl hA hlc hc hs hr h he
  · refine hback_early C x l A c s r keep w hx hl hA hlc hc hs hr ?_
    by_cases hm : mayP s
    · exact Or.inr (by have : ¬ s.gen < 1099511627776 := fun hg => h ⟨hm, hg⟩; omega)
    · exact Or.inl hm
end Go.Proofs.Ytgkbhdecohlpmaa
end

section
/-
  From a contract to the row: how the arguments of these laws open, and what the row asks at the end.
-/
namespace Go.Proofs.Ytgkbhdecohlpmaa
set_option maxRecDepth 100000
open Go.ChangeShapes Go.WideShapes Go.ChangeAt Go.RowKit

theorem Try.own : ownKnob Try.prog.godebug = none := by kernel_rfl
theorem Try.laidOut : laidOutB Try.prog = true := by kernel_rfl
theorem Try.cells5 : Try.prog.cellsOf 5 = 1 := by kernel_rfl
theorem Try.cells3 : Try.prog.cellsOf 3 = 1 := by kernel_rfl

theorem u8_range {n : Int} (h : (Lit.int .u8 n).wf = true) : 0 ≤ n ∧ n ≤ 255 := by
  have h1 : IntKind.u8.min = 0 := rfl
  have h2 : IntKind.u8.max = 255 := rfl
  simp only [Lit.wf, Bool.and_eq_true, decide_eq_true_eq] at h
  omega
theorem u32_range {n : Int} (h : (Lit.int .u32 n).wf = true) : 0 ≤ n ∧ n ≤ 4294967295 := by
  have h1 : IntKind.u32.min = 0 := rfl
  have h2 : IntKind.u32.max = 4294967295 := rfl
  simp only [Lit.wf, Bool.and_eq_true, decide_eq_true_eq] at h
  omega
theorem i64_range {n : Int} (h : (Lit.int .i64 n).wf = true) : -9223372036854775808 ≤ n ∧ n ≤ 9223372036854775807 := by
  have h1 : IntKind.i64.min = -9223372036854775808 := rfl
  have h2 : IntKind.i64.max = 9223372036854775807 := rfl
  simp only [Lit.wf, Bool.and_eq_true, decide_eq_true_eq] at h
  omega

/-- An argument that is a slice of integers: its cells. -/
theorem open_row {H : Type} {enc : TypeId × Value → H} {W : World} {t e : TypeId} {k : IntKind} {a : Option Addr} {len cap : Nat} {d : DataW H} {p : List MemPlace}
    (ht : Try.prog.underlying t = some (.slice e)) (he : Try.prog.underlying e = some (.int k)) (hc : Try.prog.cellsOf e = 1)
    (h : DataW.Trod enc Try.prog W 0 (fun _ => true) true t (.slice a len cap) d p) (hlt : ∀ x ∈ p, x.block < W.heap.size) :
    len ≤ cap ∧ cap ≤ maxLen ∧ (a = none → cap = 0) ∧ ∃ zs : List Int, zs.length = len ∧ (∀ n ∈ zs, (Lit.int k n).wf = true) ∧
      (0 < len → ∃ b off, a = some ⟨b, off, none⟩ ∧ b < W.heap.size ∧ ∀ j, j < len → W.cell? ⟨b, off + j, none⟩ = some (.int k (zs.getD j 0))) := by
  obtain ⟨fuel, hf⟩ := h
  rcases open_ints ht he hc hf with ⟨hcs, hx⟩ | ⟨a', len', cap', zs, hcs, _, hl, hm, hz, hx, hcell, hwz⟩
  · simp [Value.cells] at hcs
    obtain ⟨rfl, rfl, rfl⟩ := hcs
    exact ⟨Nat.le_refl _, (by unfold maxLen; omega), (fun _ => rfl), [], rfl, (fun _ h => (List.not_mem_nil h).elim), fun h => absurd h (by omega)⟩
  · simp [Value.cells] at hcs
    obtain ⟨rfl, rfl, rfl⟩ := hcs
    simp only [Prod.mk.injEq] at hx
    obtain ⟨rfl, rfl⟩ := hx
    simp only [if_true] at hz
    refine ⟨hl, hm, (fun e => by cases e), zs.take len, (by rw [List.length_take]; omega), (fun n hn => hwz n (List.mem_of_mem_take hn)), fun hn => ?_⟩
    obtain ⟨b, off, spot⟩ := a'
    have hspot : spot = none := by simpa [Addr.add] using World.cell?_spot (hcell 0 (by omega))
    subst hspot
    refine ⟨b, off, rfl, hlt (.cell b off) (MemPlace.mem_row.2 ⟨0, by omega, by simp⟩), fun j hj => ?_⟩
    rw [← add_flat, hcell j (by omega)]
    have e : (zs.take len).getD j 0 = zs.getD j 0 := by
      have h1 : j < zs.length := by omega
      simp [List.getD, hj]
    rw [e]

/-- An argument that is a slice of bytes. -/
theorem open_by {H : Type} {enc : TypeId × Value → H} {W : World} {a : Option Addr} {len cap : Nat} {d : DataW H} {p : List MemPlace}
    (h : DataW.Trod enc Try.prog W 0 (fun _ => true) true 44 (.slice a len cap) d p) (hlt : ∀ x ∈ p, x.block < W.heap.size) :
    ∃ bs : List Nat, bs.length = len ∧ By W W.heap.size a bs ∧ len ≤ cap ∧ cap ≤ maxLen ∧ (a = none → cap = 0) := by
  obtain ⟨h1, h2, h3, zs, hz, hw, hc⟩ := open_row Try.underlying44 Try.underlying5 Try.cells5 h hlt
  refine ⟨zs.map Int.toNat, by rw [List.length_map, hz], ⟨fun x hx => ?_, fun hn => ?_⟩, h1, h2, h3⟩
  · obtain ⟨n, hn, rfl⟩ := List.mem_map.1 hx
    have := u8_range (hw n hn)
    omega
  · rw [List.length_map, hz] at hn
    obtain ⟨b, off, e, hb, hcell⟩ := hc hn
    refine ⟨b, off, e, hb, fun j hj => ?_⟩
    rw [List.length_map, hz] at hj
    have hj' : j < zs.length := by omega
    rw [hcell j hj]
    have e1 : zs.getD j 0 = zs[j] := by simp [List.getD, hj']
    have e2 : (zs.map Int.toNat).getD j 0 = zs[j].toNat := by simp [List.getD, hj']
    have := u8_range (hw _ (List.getElem_mem hj'))
    rw [e1, e2, Int.toNat_of_nonneg this.1]

/-- An argument that is a slice of arrays of integers: its cells, one array behind the other. -/
theorem open_arrays {H : Type} {enc : TypeId × Value → H} {W : World} {t e e' : TypeId} {k : IntKind} {q : Nat} {a : Option Addr} {len cap : Nat} {d : DataW H} {p : List MemPlace}
    (ht : Try.prog.underlying t = some (.slice e)) (he : Try.prog.underlying e = some (.array q e')) (he' : Try.prog.underlying e' = some (.int k)) (hc : Try.prog.cellsOf e = q) (hc' : Try.prog.cellsOf e' = 1) (hq : 0 < q)
    (h : DataW.Trod enc Try.prog W 0 (fun _ => true) true t (.slice a len cap) d p) (hlt : ∀ x ∈ p, x.block < W.heap.size) :
    len ≤ cap ∧ cap ≤ maxLen ∧ (a = none → cap = 0) ∧ ∃ zs : List Int, zs.length = len * q ∧ (∀ n ∈ zs, (Lit.int k n).wf = true) ∧
      (0 < len → ∃ b off, a = some ⟨b, off, none⟩ ∧ b < W.heap.size ∧ ∀ j, j < len * q → W.cell? ⟨b, off + j, none⟩ = some (.int k (zs.getD j 0))) := by
  obtain ⟨fuel, hf⟩ := h
  rcases Deep.open_slice ht hf with ⟨hcs, hx⟩ | ⟨a', len', cap', m, n, D, Pl, hcs, _, hl, hm, hmm, hx, hel⟩
  · simp [Value.cells] at hcs
    obtain ⟨rfl, rfl, rfl⟩ := hcs
    exact ⟨Nat.le_refl _, (by unfold maxLen; omega), (fun _ => rfl), [], by simp, (fun _ h => (List.not_mem_nil h).elim), fun h => absurd h (by omega)⟩
  · simp [Value.cells] at hcs
    obtain ⟨rfl, rfl, rfl⟩ := hcs
    simp only [Prod.mk.injEq] at hx
    obtain ⟨rfl, rfl⟩ := hx
    simp only [if_true] at hmm
    subst hmm
    rw [hc] at hel hlt
    have each : ∀ j, j < len * q → ∃ z : Int, W.cell? (a'.add j) = some (.int k z) ∧ (Lit.int k z).wf = true := by
      intro j hj
      have hi : j / q < len := Nat.div_lt_of_lt_mul (by rwa [Nat.mul_comm])
      have hr : j % q < q := Nat.mod_lt _ hq
      obtain ⟨cs', h1, h2⟩ := hel (j / q) (by omega)
      obtain ⟨_, hlen, hcell⟩ := World.cells?_some h1
      obtain ⟨xs, f, _, _, _, hxl, hxs⟩ := DataW.trod_array he h2
      have hx1 := hxs (j % q) hr
      rw [hc', Nat.mul_one, List.getElem?_eq_getElem (by omega)] at hx1
      obtain ⟨z, hz, _, hw⟩ := DataW.trod_int he' hx1
      refine ⟨z, ?_, hw⟩
      have h3 := hcell (j % q) hr
      rw [Deep.add_add, Nat.mul_comm, Nat.div_add_mod] at h3
      rw [h3]
      have h4 := congrArg (·[0]?) hz
      simpa using h4
    obtain ⟨f, hfz⟩ := Deep.choose_lt each
    have hg : ∀ j, j < len * q → ((List.range (len * q)).map f).getD j 0 = f j := fun j hj => by simp [List.getD, hj]
    refine ⟨hl, hm, (fun e => by cases e), (List.range (len * q)).map f, by simp, fun z hz => ?_, fun hn => ?_⟩
    · obtain ⟨j, hj, rfl⟩ := List.mem_map.1 hz
      exact (hfz j (List.mem_range.1 hj)).2
    · have hn' : 0 < len * q := Nat.mul_pos hn hq
      obtain ⟨b, off, spot⟩ := a'
      have hspot : spot = none := by simpa [Addr.add] using World.cell?_spot (hfz 0 hn').1
      subst hspot
      have hcap := Nat.mul_pos (Nat.lt_of_lt_of_le hn hl) hq
      refine ⟨b, off, rfl, hlt (.cell b off) (List.mem_append_left _ (MemPlace.mem_row.2 ⟨0, hcap, by simp⟩)), fun j hj => ?_⟩
      rw [← add_flat, (hfz j hj).1, hg j hj]
/-- .. of bytes. -/
theorem by_of_ints {W : World} {a : Option Addr} {n : Nat} {zs : List Int} (hz : zs.length = n) (hw : ∀ z ∈ zs, (Lit.int .u8 z).wf = true)
    (hc : 0 < n → ∃ b off, a = some ⟨b, off, none⟩ ∧ b < W.heap.size ∧ ∀ j, j < n → W.cell? ⟨b, off + j, none⟩ = some (.int .u8 (zs.getD j 0))) :
    ∃ bs : List Nat, bs.length = n ∧ By W W.heap.size a bs := by
  refine ⟨zs.map Int.toNat, by rw [List.length_map, hz], ⟨fun x hx => ?_, fun hn => ?_⟩⟩
  · obtain ⟨z, hz', rfl⟩ := List.mem_map.1 hx
    have := u8_range (hw z hz')
    omega
  · rw [List.length_map, hz] at hn
    obtain ⟨b, off, e, hb, hcell⟩ := hc hn
    refine ⟨b, off, e, hb, fun j hj => ?_⟩
    rw [List.length_map, hz] at hj
    have hj' : j < zs.length := by omega
    rw [hcell j hj]
    have e1 : zs.getD j 0 = zs[j] := by simp [List.getD, hj']
    have e2 : (zs.map Int.toNat).getD j 0 = zs[j].toNat := by simp [List.getD, hj']
    have := u8_range (hw _ (List.getElem_mem hj'))
    rw [e1, e2, Int.toNat_of_nonneg this.1]
end Go.Proofs.Ytgkbhdecohlpmaa
end

section
/-
  From a contract to the row: blocks, a superblock that came in.
-/
namespace Go.Proofs.Ytgkbhdecohlpmaa
set_option maxRecDepth 100000
open Go.ChangeShapes Go.WideShapes Go.ChangeAt Go.RowKit
set_option maxRecDepth 100000

theorem cut8_flat : ∀ (n : Nat) (bs : List Nat), bs.length = 8 * n → (cut8 bs n).flatten = bs ∧ (cut8 bs n).length = n ∧ ∀ v ∈ cut8 bs n, v.length = 8 := by
  intro n
  induction n with
  | zero => intro bs h; simp only [Nat.mul_zero] at h; rw [List.eq_nil_of_length_eq_zero h]; exact ⟨rfl, rfl, fun _ hv => by cases hv⟩
  | succ n ih =>
    intro bs h
    obtain ⟨h1, h2, h3⟩ := ih (bs.drop 8) (by rw [List.length_drop]; omega)
    refine ⟨?_, ?_, fun v hv => ?_⟩
    · rw [cut8, List.flatten_cons, h1, List.take_append_drop]
    · rw [cut8, List.length_cons, h2]
    · rw [cut8] at hv
      rcases List.mem_cons.1 hv with rfl | hv
      · rw [List.length_take]; omega
      · exact h3 v hv
/-- blocks that came in -/
theorem open_vals {H : Type} {enc : TypeId × Value → H} {W : World} {a : Option Addr} {len cap : Nat} {d : DataW H} {p : List MemPlace}
    (h : DataW.Trod enc Try.prog W 0 (fun _ => true) true 22 (.slice a len cap) d p) (hlt : ∀ x ∈ p, x.block < W.heap.size) :
    ∃ l : List (List Nat), l.length = len ∧ VFine l ∧ By W W.heap.size a l.flatten ∧ len ≤ cap ∧ cap ≤ maxLen := by
  obtain ⟨h1, h2, _, zs, hz, hw, hcell⟩ := open_arrays Try.underlying22 Try.underlying49 Try.underlying5 (by kernel_rfl) Try.cells5 (by decide) h hlt
  obtain ⟨ls, hls, hly⟩ := by_of_ints hz hw (fun h => hcell (by omega))
  obtain ⟨c1, c2, c3⟩ := cut8_flat len ls (by omega)
  refine ⟨cut8 ls len, c2, fun v hv => ⟨c3 v hv, fun z hz => ?_⟩, by rw [c1]; exact hly, h1, h2⟩
  refine hly.1 z ?_
  rw [← c1]
  exact List.mem_flatten.2 ⟨v, hv, hz⟩
theorem at_oneH {l : List Value} {i : Nat} {v : Value} (h : (l.drop i).take 1 = [v]) : l[i]? = some v := by
  have h1 := congrArg (fun m => m[0]?) h
  simpa [List.getElem?_take, List.getElem?_drop] using h1
theorem ints_cells {H : Type} {enc : TypeId × Value → H} {W : World} {fuel : Nat} {cs : List Value} {x : DataW H × List MemPlace} (hlen : cs.length = 8) (h : DataW.trod enc Try.prog W 0 (fun _ => true) true fuel 23 cs = some x) : ∃ zs : List Int, cs = ivals zs ∧ zs.length = 8 ∧ ∀ z ∈ zs, -9223372036854775808 ≤ z ∧ z ≤ 9223372036854775807 := by
  obtain ⟨xs, m, _, hx, _, hl, hg⟩ := DataW.trod_array Try.underlying23 h
  have each : ∀ j, j < 8 → ∃ z : Int, cs[j]? = some (.int .i64 z) ∧ (Lit.int .i64 z).wf = true := by
    intro j hj
    have hx1 := hg j hj
    rw [Try.cells3, Nat.mul_one, List.getElem?_eq_getElem (by omega)] at hx1
    obtain ⟨z, hz, _, hw⟩ := DataW.trod_int Try.underlying3 hx1
    exact ⟨z, at_oneH hz, hw⟩
  obtain ⟨f, hf⟩ := Deep.choose_lt each
  refine ⟨(List.range 8).map f, ?_, by simp, fun y hy => ?_⟩
  · refine List.ext_getElem? fun j => ?_
    unfold ivals
    rcases Nat.lt_or_ge j 8 with hj | hj
    · rw [(hf j hj).1]
      simp [hj]
    · rw [List.getElem?_eq_none (by omega), List.getElem?_eq_none (by simp; omega)]
  · obtain ⟨j, hj, rfl⟩ := List.mem_map.1 hy
    exact i64_range (hf j (List.mem_range.1 hj)).2
/-- a superblock that came in -/
theorem open_sup {H : Type} {enc : TypeId × Value → H} {W : World} {base : Nat} {v : Value} {d : DataW H} {p : List MemPlace} (hv' : Value.okWide Try.prog W .any base 25 v)
    (h : DataW.Trod enc Try.prog W 0 (fun _ => true) true 25 v d p) : ∃ s : Sup, v = .agg s.cells ∧ s.Fine := by
  obtain ⟨cs, rfl, hsz⟩ := okWide_struct Try.underlying25 hv'
  have h13 : Try.prog.cellsOf 25 = 13 := by kernel_rfl
  have h8 : Try.prog.cellsOf 23 = 8 := by kernel_rfl
  rw [h13] at hsz
  have hsl : cs.toList.length = 13 := by simpa using hsz
  obtain ⟨fuel, hf⟩ := h
  obtain ⟨xs, m, _, hx, _, hl, hg⟩ := DataW.trod_struct Try.underlying25 hf
  have hl6 : xs.length = 6 := hl
  have g0 : DataW.trod enc Try.prog W 0 (fun _ => true) true m 3 ((cs.toList.drop 0).take (Try.prog.cellsOf 3)) = xs[0]? := hg 0 _ rfl
  have g1 : DataW.trod enc Try.prog W 0 (fun _ => true) true m 3 ((cs.toList.drop 1).take (Try.prog.cellsOf 3)) = xs[1]? := hg 1 _ rfl
  have g2 : DataW.trod enc Try.prog W 0 (fun _ => true) true m 3 ((cs.toList.drop 2).take (Try.prog.cellsOf 3)) = xs[2]? := hg 2 _ rfl
  have g3 : DataW.trod enc Try.prog W 0 (fun _ => true) true m 3 ((cs.toList.drop 3).take (Try.prog.cellsOf 3)) = xs[3]? := hg 3 _ rfl
  have g4 : DataW.trod enc Try.prog W 0 (fun _ => true) true m 3 ((cs.toList.drop 4).take (Try.prog.cellsOf 3)) = xs[4]? := hg 4 _ rfl
  have g5 : DataW.trod enc Try.prog W 0 (fun _ => true) true m 23 ((cs.toList.drop 5).take (Try.prog.cellsOf 23)) = xs[5]? := hg 5 _ rfl
  rw [h8, List.getElem?_eq_getElem (by omega)] at g5
  rw [Try.cells3, List.getElem?_eq_getElem (by omega)] at g0 g1 g2 g3 g4
  obtain ⟨z0, a0, _, r0⟩ := DataW.trod_int Try.underlying3 g0
  obtain ⟨z1, a1, _, r1⟩ := DataW.trod_int Try.underlying3 g1
  obtain ⟨z2, a2, _, r2⟩ := DataW.trod_int Try.underlying3 g2
  obtain ⟨z3, a3, _, r3⟩ := DataW.trod_int Try.underlying3 g3
  obtain ⟨z4, a4, _, r4⟩ := DataW.trod_int Try.underlying3 g4
  obtain ⟨zs, e5, hz5, r5⟩ := ints_cells (by rw [List.length_take, List.length_drop]; omega) g5
  have b0 := at_oneH a0
  have b1 := at_oneH a1
  have b2 := at_oneH a2
  have b3 := at_oneH a3
  have b4 := at_oneH a4
  refine ⟨⟨z0, z1, z2, z3, z4, zs⟩, ?_, hz5, ?_⟩
  · congr 1
    rw [← Array.toList_inj]
    unfold Sup.cells Sup.ints
    simp only [List.map_cons]
    refine List.ext_getElem? fun j => ?_
    rcases Nat.lt_or_ge j 5 with hj | hj
    · match j, hj with
      | 0, _ => exact b0
      | 1, _ => exact b1
      | 2, _ => exact b2
      | 3, _ => exact b3
      | 4, _ => exact b4
    · obtain ⟨k, rfl⟩ := Nat.exists_eq_add_of_le hj
      have h1 := congrArg (fun l => l[k]?) e5
      simp only [List.getElem?_take, List.getElem?_drop] at h1
      rcases Nat.lt_or_ge k 8 with hk | hk
      · rw [if_pos hk] at h1
        rw [h1, show 5 + k = k + 1 + 1 + 1 + 1 + 1 by omega]
        simp only [List.getElem?_cons_succ]; rfl
      · rw [List.getElem?_eq_none (by omega), List.getElem?_eq_none (by simp; omega)]
  · intro z hz
    unfold Sup.ints at hz
    simp only [List.mem_cons] at hz
    rcases hz with rfl | rfl | rfl | rfl | rfl | hz
    · exact i64_range r0
    · exact i64_range r1
    · exact i64_range r2
    · exact i64_range r3
    · exact i64_range r4
    · exact r5 z hz
end Go.Proofs.Ytgkbhdecohlpmaa
end

section
/-
  The developers' answers: stripes, places, the first superblock; one number of a superblock: may it be; which of two superblocks is the later one.
-/
namespace Go.Proofs.Ytgkbhdecohlpmaa
set_option maxRecDepth 100000
open Go.RowKit
set_option maxRecDepth 100000

theorem below_drewNH {B : Nat} {a w : World} (h : Below B a w) (n : Nat) : Below B a (w.drewN n) := h.trans ⟨rfl, rfl, rfl, Nat.le_refl _, fun _ _ => rfl⟩
def inH (a lo hi : Int) : Bool := decide (lo ≤ a ∧ a ≤ hi)
def strH (z : Int) : Bool := decide (0 ≤ z ∧ z < 8)
theorem stripe_dev (z : Int) (w : World) : Calls Try.prog 21 #[.int .i64 z] w fun e w' => e = .returned (.bool (strH z)) ∧ w = w' := by
  obtain ⟨E, hE⟩ : ∃ E, E = strH z := ⟨_, rfl⟩
  rw [← hE]
  unfold strH at hE
  by_cases h0 : 0 ≤ z
  · by_cases h1 : z < 8
    · have HE := Lib.hid (show E = true by rw [hE]; exact decide_eq_true ⟨h0, h1⟩)
      clear hE
      go_enter Try.func21, Try.ntmps21
      go_wp2
      go_ret
      exact ⟨by rw [HE.out]; rfl, rfl⟩
    · have HE := Lib.hid (show E = false by rw [hE]; exact decide_eq_false fun h => h1 h.2)
      clear hE
      go_enter Try.func21, Try.ntmps21
      go_wp2
      go_ret
      exact ⟨by rw [HE.out]; rfl, rfl⟩
  · have HE := Lib.hid (show E = false by rw [hE]; exact decide_eq_false fun h => h0 h.1)
    clear hE
    go_enter Try.func21, Try.ntmps21
    go_wp2
    go_ret
    exact ⟨by rw [HE.out]; rfl, rfl⟩
theorem place_dev (s : Sup) (w : World) (hf : s.Fine) (h0 : 0 ≤ s.gen) : Calls Try.prog 32 #[.agg s.cells] w fun e w' => e = .returned (.int .i64 (s.gen % 2)) ∧ Below w.heap.size w w' := by
  obtain ⟨m0, m1, m2, m3, m4, m5, m6, m7, hm⟩ := sup_map hf
  obtain ⟨g, t, o, i, b, m⟩ := s
  simp only at hm h0
  subst hm
  rw [sup_cells]
  clear hf
  obtain ⟨w1, hw1⟩ : ∃ w1, w1 = w.alloc (.cells #[.int .i64 g, .int .i64 t, .int .i64 o, .int .i64 i, .int .i64 b, .int .i64 m0, .int .i64 m1, .int .i64 m2, .int .i64 m3, .int .i64 m4, .int .i64 m5, .int .i64 m6, .int .i64 m7] 25) := ⟨_, rfl⟩
  have HB := Lib.hid (show Below w.heap.size w w1 by rw [hw1]; exact (Below.refl _ w).alloc (Nat.le_refl _) _)
  have c0 : w1.cell? ⟨w.heap.size, 0, none⟩ = some (.int .i64 g) := by rw [hw1, cell_of_row _ _ 0 _ _ _ (heap_alloc_new w _)]; rfl
  have HW := Lib.hid hw1
  clear hw1
  go_enter Try.func32, Try.ntmps32
  go_wp2_with (rw [← HW.out])
  go_ret
  exact ⟨rfl, HB.out⟩
theorem first_dev : FirstHSays := by
  intro w
  rw [first_cells]
  go_enter Try.func20, Try.ntmps20
  go_wp2
  exact bodyPost_ret (v := .agg #[.int .i64 0, .int .i64 1, .int .i64 0, .int .i64 0, .int .i64 1, .int .i64 0, .int .i64 0, .int .i64 0, .int .i64 0, .int .i64 0, .int .i64 0, .int .i64 0, .int .i64 0]) (by simp [results, Try.results20, go_sem]) rfl ⟨rfl, (Below.refl _ _).alloc (Nat.le_refl _) _⟩

def numv (g i : Nat) (wd lo hi : Int) : Array Value := #[.pointer (some ⟨g, i, none⟩), .int .i64 wd, .int .i64 lo, .int .i64 hi]
theorem nmay_dev (g i : Nat) (z wd lo hi : Int) (w : World) (hc : w.cell? ⟨g, i, none⟩ = some (.int .i64 z)) :
    Calls Try.prog 29 #[.agg (numv g i wd lo hi)] w fun e w' => e = .returned (.bool (inH z lo hi)) ∧ Below w.heap.size w w' := by
  unfold numv
  obtain ⟨w1, hw1⟩ : ∃ w1, w1 = w.alloc (.cells #[.pointer (some ⟨g, i, none⟩), .int .i64 wd, .int .i64 lo, .int .i64 hi] 76) := ⟨_, rfl⟩
  have HB := Lib.hid (show Below w.heap.size w w1 by rw [hw1]; exact (Below.refl _ w).alloc (Nat.le_refl _) _)
  have hg := heap_alloc_new w (.cells #[.pointer (some ⟨g, i, none⟩), .int .i64 wd, .int .i64 lo, .int .i64 hi] 76)
  rw [← hw1] at hg
  have c0 : w1.cell? ⟨w.heap.size, 0, none⟩ = some (.pointer (some ⟨g, i, none⟩)) := by rw [cell_of_row _ _ 0 _ _ _ hg]; rfl
  have c2 : w1.cell? ⟨w.heap.size, 2, none⟩ = some (.int .i64 lo) := by rw [cell_of_row _ _ 2 _ _ _ hg]; rfl
  have c3 : w1.cell? ⟨w.heap.size, 3, none⟩ = some (.int .i64 hi) := by rw [cell_of_row _ _ 3 _ _ _ hg]; rfl
  have cz : w1.cell? ⟨g, i, none⟩ = some (.int .i64 z) := (HB.out.cell (World.block_lt_of_cell? _ _ hc)).trans hc
  have HW := Lib.hid hw1
  clear hw1 hg hc
  obtain ⟨E, hE⟩ : ∃ E, E = inH z lo hi := ⟨_, rfl⟩
  rw [← hE]
  unfold inH at hE
  by_cases h0 : lo ≤ z
  · have d0 : decide (lo ≤ z) = true := decide_eq_true h0
    by_cases h1 : z ≤ hi
    · have d1 : decide (z ≤ hi) = true := decide_eq_true h1
      have HE := Lib.hid (show E = true by rw [hE]; exact decide_eq_true ⟨h0, h1⟩)
      clear hE h0 h1
      go_enter Try.func29, Try.ntmps29
      go_wp2_with (rw [← HW.out])
      go_quiet (fail)
      all_goals
        go_wp2
        go_ret
        exact ⟨by rw [HE.out]; rfl, below_drewNH HB.out _⟩
    · have d1 : decide (z ≤ hi) = false := decide_eq_false h1
      have HE := Lib.hid (show E = false by rw [hE]; exact decide_eq_false fun h => h1 h.2)
      clear hE h0 h1
      go_enter Try.func29, Try.ntmps29
      go_wp2_with (rw [← HW.out])
      go_quiet (fail)
      all_goals
        go_wp2
        go_ret
        exact ⟨by rw [HE.out]; rfl, below_drewNH HB.out _⟩
  · have d0 : decide (lo ≤ z) = false := decide_eq_false h0
    have HE := Lib.hid (show E = false by rw [hE]; exact decide_eq_false fun h => h0 h.1)
    clear hE h0
    go_enter Try.func29, Try.ntmps29
    go_wp2_with (rw [← HW.out])
    go_quiet (fail)
    all_goals
      go_wp2
      go_ret
      exact ⟨by rw [HE.out]; rfl, below_drewNH HB.out _⟩

def cmpH (a b : Int) : Int := if a < b then -1 else if b < a then 1 else 0
theorem nanH_dev (a : Int) (w : World) : Calls Try.prog 45 #[.int .i64 a] w fun e w' => e = .returned (.bool false) ∧ w' = w := by
  have hq : (a != a) = false := by simp
  go_enter Try.func45, Try.ntmps45
  go_wp2
  go_ret
  exact ⟨rfl, rfl⟩
theorem compareH_dev (a b : Int) (w : World) : Calls Try.prog 37 #[.int .i64 a, .int .i64 b] w fun e w' => e = .returned (.int .i64 (cmpH a b)) ∧ w' = w := by
  have HN := Lib.hid (fun a W => nanH_dev a W)
  obtain ⟨E, hE⟩ : ∃ E, E = cmpH a b := ⟨_, rfl⟩
  rw [← hE]
  unfold cmpH at hE
  by_cases h0 : a < b
  · rw [if_pos h0] at hE
    have HE := Lib.hid hE
    clear hE
    go_enter Try.func37, Try.ntmps37
    go_wp2_with fail
    refine (HN.out _ _).mono ?_
    rintro e w2 ⟨rfl, rfl⟩
    go_wp2_with fail
    refine (HN.out _ _).mono ?_
    rintro e w2 ⟨rfl, rfl⟩
    go_wp2
    go_ret
    exact ⟨by rw [HE.out]; rfl, rfl⟩
  · by_cases h1 : b < a
    · rw [if_neg h0, if_pos h1] at hE
      have HE := Lib.hid hE
      clear hE
      go_enter Try.func37, Try.ntmps37
      go_wp2_with fail
      refine (HN.out _ _).mono ?_
      rintro e w2 ⟨rfl, rfl⟩
      go_wp2_with fail
      refine (HN.out _ _).mono ?_
      rintro e w2 ⟨rfl, rfl⟩
      go_wp2
      go_ret
      exact ⟨by rw [HE.out]; rfl, rfl⟩
    · rw [if_neg h0, if_neg h1] at hE
      have HE := Lib.hid hE
      clear hE
      go_enter Try.func37, Try.ntmps37
      go_wp2_with fail
      refine (HN.out _ _).mono ?_
      rintro e w2 ⟨rfl, rfl⟩
      go_wp2_with fail
      refine (HN.out _ _).mono ?_
      rintro e w2 ⟨rfl, rfl⟩
      go_wp2
      go_ret
      exact ⟨by rw [HE.out]; rfl, rfl⟩
theorem byGen_dev (s t : Sup) (w : World) (hs : s.Fine) (ht : t.Fine) : Calls Try.prog 36 #[.agg s.cells, .agg t.cells] w fun e w' => e = .returned (.int .i64 (cmpH s.gen t.gen)) ∧ Below w.heap.size w w' := by
  obtain ⟨m0, m1, m2, m3, m4, m5, m6, m7, hm⟩ := sup_map hs
  obtain ⟨n0, n1, n2, n3, n4, n5, n6, n7, hn⟩ := sup_map ht
  obtain ⟨g, t1, o, i, b, m⟩ := s
  obtain ⟨g', t', o', i', b', m'⟩ := t
  simp only at hm hn
  subst hm hn
  rw [sup_cells, sup_cells]
  clear hs ht
  have HC := Lib.hid (fun W => compareH_dev g g' W)
  obtain ⟨w1, hw1⟩ : ∃ w1, w1 = (w.alloc (.cells #[.int .i64 g, .int .i64 t1, .int .i64 o, .int .i64 i, .int .i64 b, .int .i64 m0, .int .i64 m1, .int .i64 m2, .int .i64 m3, .int .i64 m4, .int .i64 m5, .int .i64 m6, .int .i64 m7] 25)) := ⟨_, rfl⟩
  obtain ⟨w2, hw2⟩ : ∃ w2, w2 = w1.alloc (.cells #[.int .i64 g', .int .i64 t', .int .i64 o', .int .i64 i', .int .i64 b', .int .i64 n0, .int .i64 n1, .int .i64 n2, .int .i64 n3, .int .i64 n4, .int .i64 n5, .int .i64 n6, .int .i64 n7] 25) := ⟨_, rfl⟩
  have hs1 : w1.heap.size = w.heap.size + 1 := by rw [hw1]; simp
  have hb1 : Below w.heap.size w w1 := by rw [hw1]; exact (Below.refl _ w).alloc (Nat.le_refl _) _
  have hb2 : Below w1.heap.size w1 w2 := by rw [hw2]; exact (Below.refl _ w1).alloc (Nat.le_refl _) _
  have c0 : w2.cell? ⟨w.heap.size, 0, none⟩ = some (.int .i64 g) := by
    rw [cell_of_row _ _ 0 _ _ _ ((hb2.block _ (by omega)).trans (by rw [hw1]; exact heap_alloc_new w _))]; rfl
  have c1 : w2.cell? ⟨w1.heap.size, 0, none⟩ = some (.int .i64 g') := by rw [hw2, cell_of_row _ _ 0 _ _ _ (heap_alloc_new w1 _)]; rfl
  have HB := Lib.hid (hb1.trans (hb2.mono hb1.size))
  have HW1 := Lib.hid hw1
  have HW2 := Lib.hid hw2
  clear hw1 hw2 hs1 hb1 hb2
  go_enter Try.func36, Try.ntmps36
  go_wp2_with (first | (rw [← HW2.out]) | (rw [← HW1.out]))
  refine (HC.out _).mono ?_
  rintro e w3 ⟨rfl, rfl⟩
  go_wp2
  go_ret
  exact ⟨rfl, HB.out⟩
end Go.Proofs.Ytgkbhdecohlpmaa
end

section
/-
  The developers' answers: a superblock's numbers, in the order of its bytes.
-/
namespace Go.Proofs.Ytgkbhdecohlpmaa
set_option maxRecDepth 100000
open Go.RowKit
set_option maxRecDepth 100000

def wdN (i : Nat) : Nat := if i < 2 then 6 else if i = 2 then 1 else if i < 5 then 3 else 1
def loN (i : Nat) : Int := if i = 1 ∨ i = 4 then 1 else 0
def hiN (i : Nat) : Int := if i < 2 then 1099511627776 else if i = 2 then 255 else if i = 3 then 1048576 else if i = 4 then 1048577 else 4
/-- number i of the superblock in block g -/
def numI (g i : Nat) : List Value := [.pointer (some ⟨g, i, none⟩), .int .i64 (wdN i : Nat), .int .i64 (loN i), .int .i64 (hiN i)]
def numsI (g k : Nat) : List Value := (List.range k).flatMap (numI g)
theorem numsI_succ (g k : Nat) : numsI g (k + 1) = numsI g k ++ numI g k := by
  unfold numsI
  rw [List.range_succ, List.flatMap_append, List.flatMap_singleton]
theorem numsI_len (g k : Nat) : (numsI g k).length = k * 4 := by
  induction k with
  | zero => rfl
  | succ k ih => rw [numsI_succ, List.length_append, ih]; show _ + 4 = _; omega
theorem numsI_get (g k : Nat) : ∀ n, k < n → ∀ j u, (numI g k)[j]? = some u → (numsI g n)[k * 4 + j]? = some u := by
  intro n
  induction n with
  | zero => intro h; omega
  | succ n ih =>
    intro h j u hu
    have hj : j < 4 := (List.getElem?_eq_some_iff.1 hu).1
    rw [numsI_succ]
    by_cases e : k = n
    · subst e
      rw [List.getElem?_append_right (by rw [numsI_len]; omega), numsI_len, show k * 4 + j - k * 4 = j by omega]
      exact hu
    · rw [List.getElem?_append_left (by rw [numsI_len]; omega)]
      exact ih (by omega) j u hu
theorem numI_map (g k : Nat) : numI g (5 + k) = [.pointer (some ⟨g, 5 + k, none⟩), .int .i64 1, .int .i64 0, .int .i64 4] := by
  unfold numI wdN loN hiN
  rw [if_neg (by omega), if_neg (by omega), if_neg (by omega), if_neg (by omega), if_neg (by omega), if_neg (by omega), if_neg (by omega), if_neg (by omega)]
  rfl
theorem num_info : (Try.prog.info? 76).map (fun i => (i.zero, i.size, i.bytes)) = some (some (.agg #[.pointer none, .int .i64 0, .int .i64 0, .int .i64 0]), 4, 32) := by kernel_rfl
theorem num_one {g i : Nat} {a b c : Int} : ∀ u ∈ [Value.pointer (some ⟨g, i, none⟩), .int .i64 a, .int .i64 b, .int .i64 c], u.oneCell' = true := by
  intro u hu
  simp only [List.mem_cons, List.not_mem_nil, or_false] at hu
  rcases hu with rfl | rfl | rfl | rfl <;> rfl
set_option maxHeartbeats 2000000 in
theorem numbers_dev (g : Nat) (w : World) (hg : g < w.heap.size) :
    Calls Try.prog 28 #[.pointer (some ⟨g, 0, none⟩)] w fun e w' => ∃ v, e = .returned v ∧ w'.ownsRow w.heap.size 76 4 v 13 (numsI g 13) ∧ Below w.heap.size w w' := by
  go_enter Try.func28, Try.ntmps28
  go_wp2
  go_region
  all_goals
    go_wp2
    go_loopw [3, 26] (fun v i wr => ∃ k : Nat, k ≤ 8 ∧ i = .int .i64 (k : Int) ∧ wr.ownsRow w.heap.size 76 4 v (5 + k) (numsI g (5 + k)) ∧ Below w.heap.size w wr) (fun _ i _ => 8 - (intOf i).toNat)
    case atStart =>
      refine ⟨0, by omega, rfl, ?_, ((Below.refl _ _).alloc (Nat.le_refl _) _).drew⟩
      refine ⟨by rw [numsI_len], Or.inr ⟨w.heap.size, 5, _, rfl, Nat.le_refl _, heap_alloc_new w _, by omega, by unfold maxLen; omega, rfl, rfl⟩⟩
    case round =>
      obtain ⟨k, hk, rfl, hown, hb⟩ := hrel
      have HO := Lib.hid hown
      have HB := Lib.hid hb
      clear hown hb
      by_cases hlt : k < 8
      · have HN := Lib.hid (show numsI g (5 + (k + 1)) = numsI g (5 + k) ++ [.pointer (some ⟨g, 5 + k, none⟩), .int .i64 1, .int .i64 0, .int .i64 4] by rw [← numI_map, ← numsI_succ]; rfl)
        have hki : (k : Int) < 8 := by omega
        obtain ⟨i0, hi, hz0, hz1, hz2⟩ := info_parts num_info
        have HI := Lib.hid hi
        have HZ := Lib.hid hz0
        have HZ1 := Lib.hid hz1
        have HZ2 := Lib.hid hz2
        clear hi hz0 hz1 hz2
        have hw : IntKind.i64.wrap ((k : Int) + 1) = (k : Int) + 1 := by rw [IntKind.wrap_i64]; omega
        have HO2 := Lib.hid (HO.out.alloc (.cells #[.pointer (some ⟨g, 5 + k, none⟩), .int .i64 1, .int .i64 0, .int .i64 4] 76))
        go_wp2_with ((refine wpList_append_own _ rfl (.tmp 29) (.tmp 36) 71 rfl w.heap.size 76 i0 _ 4 32 Try.underlying71 HI.out HZ.out HZ1.out HZ2.out rfl (by decide) _ (5 + k) (numsI g (5 + k)) rfl HO2.out ⟨wr.heap.size, 0, none⟩ 1 1 [.pointer (some ⟨g, 5 + k, none⟩), .int .i64 1, .int .i64 0, .int .i64 4] rfl rfl (new_cells rfl) num_one (by unfold maxLen; omega) (by omega) (by rw [World.size_alloc]; have := HB.out.size; omega) ?_); intro v2 w2 r1 r2 _; have HR1 := Lib.hid r1; have HR2 := Lib.hid r2; clear r1 r2)
        go_roundw
        case rel =>
          refine ⟨k + 1, by omega, by simp, ?_, (HB.out.alloc HB.out.size _).grown HR2.out (by rw [World.size_alloc]; have := HB.out.size; omega) (fun q hq => (HO2.out.lt q hq).1)⟩
          rw [HN.out]
          exact HR1.out
        case measure => simp [intOf]; omega
      · obtain rfl : k = 8 := by omega
        go_wp2
        go_ret
        exact ⟨_, rfl, HO.out, HB.out⟩
end Go.Proofs.Ytgkbhdecohlpmaa
end

section
/-
  The developers' answers: may a superblock be?
-/
namespace Go.Proofs.Ytgkbhdecohlpmaa
set_option maxRecDepth 100000
open Go.RowKit
set_option maxRecDepth 100000

/-- the thirteen numbers of the superblock in block g, in memory -/
def NumsAt (W : World) (g b off : Nat) : Prop := ∀ k, k < 13 → ∀ j u, (numI g k)[j]? = some u → W.cell? ⟨b, off + k * 4 + j, none⟩ = some u
theorem NumsAt.below {W W' : World} {B g b off : Nat} (h : NumsAt W g b off) (hB : Below B W W') (hb : b < B) : NumsAt W' g b off := fun k hk j u hu => (hB.cell (p := ⟨b, off + k * 4 + j, none⟩) hb).trans (h k hk j u hu)
theorem nums_at {W : World} {base g : Nat} {v : Value} (h : W.ownsRow base 76 4 v 13 (numsI g 13)) : ∃ b off c, v = .slice (some ⟨b, off, none⟩) 13 c ∧ base ≤ b ∧ b < W.heap.size ∧ 13 ≤ c ∧ c ≤ maxLen ∧ NumsAt W g b off := by
  obtain ⟨h1, h2⟩ := h
  rcases h2 with ⟨_, h0⟩ | ⟨b, cap, cur, rfl, hg, hh, hcap, hmax, hsz, htk⟩
  · exact absurd h0 (by decide)
  · refine ⟨b, 0, cap, rfl, hg, (Array.getElem?_eq_some_iff.1 hh).1, hcap, hmax, fun k hk j u hu => ?_⟩
    have h3 := numsI_get g k 13 hk j u hu
    rw [Nat.zero_add, cell_of_row W b _ _ _ _ hh, ← h3, ← htk, List.getElem?_take]
    have hl := (List.getElem?_eq_some_iff.1 h3).1
    rw [numsI_len] at hl
    rw [if_pos hl]
    simp
theorem NumsAt.four {W : World} {g b off : Nat} (h : NumsAt W g b off) {k : Nat} (hk : k < 13) : W.cell? ⟨b, off + k * 4, none⟩ = some (.pointer (some ⟨g, k, none⟩)) ∧ W.cell? ⟨b, off + k * 4 + 1, none⟩ = some (.int .i64 (wdN k : Nat)) ∧ W.cell? ⟨b, off + k * 4 + 2, none⟩ = some (.int .i64 (loN k)) ∧ W.cell? ⟨b, off + k * 4 + 3, none⟩ = some (.int .i64 (hiN k)) :=
  ⟨h k hk 0 _ rfl, h k hk 1 _ rfl, h k hk 2 _ rfl, h k hk 3 _ rfl⟩
def okN (s : Sup) (k : Nat) : Bool := inH (s.ints.getD k 0) (loN k) (hiN k)
theorem may_nums {s : Sup} (hf : s.Fine) : mayP s ↔ ∀ k, k < 13 → okN s k = true := by
  obtain ⟨m0, m1, m2, m3, m4, m5, m6, m7, hm⟩ := sup_map hf
  obtain ⟨g, t, o, i, b, m⟩ := s
  simp only at hm
  subst hm
  constructor
  · rintro ⟨h1, h2, h3, h4, h5, h6⟩ k hk
    simp only at h1 h2 h3 h4 h5 h6
    have h60 := h6 m0 (by simp)
    have h61 := h6 m1 (by simp)
    have h62 := h6 m2 (by simp)
    have h63 := h6 m3 (by simp)
    have h64 := h6 m4 (by simp)
    have h65 := h6 m5 (by simp)
    have h66 := h6 m6 (by simp)
    have h67 := h6 m7 (by simp)
    unfold okN inH
    rw [decide_eq_true_eq]
    have : k = 0 ∨ k = 1 ∨ k = 2 ∨ k = 3 ∨ k = 4 ∨ k = 5 ∨ k = 6 ∨ k = 7 ∨ k = 8 ∨ k = 9 ∨ k = 10 ∨ k = 11 ∨ k = 12 := by omega
    rcases this with rfl | rfl | rfl | rfl | rfl | rfl | rfl | rfl | rfl | rfl | rfl | rfl | rfl <;> simp [Sup.ints, loN, hiN] <;> omega
  · intro h
    unfold okN inH at h
    simp only [decide_eq_true_eq] at h
    have h0 := h 0 (by omega)
    have h1 := h 1 (by omega)
    have h2 := h 2 (by omega)
    have h3 := h 3 (by omega)
    have h4 := h 4 (by omega)
    have h5 := h 5 (by omega)
    have h6 := h 6 (by omega)
    have h7 := h 7 (by omega)
    have h8 := h 8 (by omega)
    have h9 := h 9 (by omega)
    have h10 := h 10 (by omega)
    have h11 := h 11 (by omega)
    have h12 := h 12 (by omega)
    simp [Sup.ints, loN, hiN] at h0 h1 h2 h3 h4 h5 h6 h7 h8 h9 h10 h11 h12
    refine ⟨by simp only; omega, by simp only; omega, by simp only; omega, by simp only; omega, by simp only; omega, ?_⟩
    intro z hz
    simp only [List.mem_cons, List.not_mem_nil, or_false] at hz
    rcases hz with rfl | rfl | rfl | rfl | rfl | rfl | rfl | rfl <;> omega
theorem ints_len {s : Sup} (hf : s.Fine) : s.ints.length = 13 := by unfold Sup.ints; simp [hf.1]
theorem cells_len {s : Sup} (hf : s.Fine) : s.cells.size = 13 := by unfold Sup.cells; simp [ints_len hf]
/-- the superblock s in block g -/
def SupIn (W : World) (g : Nat) (s : Sup) : Prop := W.heap[g]? = some (.cells s.cells 25 (0, 0))
theorem SupIn.cell {W : World} {g : Nat} {s : Sup} (h : SupIn W g s) (hf : s.Fine) {k : Nat} (hk : k < 13) : W.cell? ⟨g, k, none⟩ = some (.int .i64 (s.ints.getD k 0)) := by
  rw [cell_of_row W g k _ _ _ h]
  unfold Sup.cells
  have : k < s.ints.length := by rw [ints_len hf]; exact hk
  simp [this]
theorem SupIn.lt {W : World} {g : Nat} {s : Sup} (h : SupIn W g s) : g < W.heap.size := (Array.getElem?_eq_some_iff.1 h).1
theorem SupIn.below {W W' : World} {B g : Nat} {s : Sup} (h : SupIn W g s) (hB : Below B W W') (hb : g < B) : SupIn W' g s := (hB.block g hb).trans h
theorem num_info2 : (Try.prog.info? 76).map (·.size) = some (4 : Nat) := by kernel_rfl
set_option maxHeartbeats 2000000 in
theorem mayH_dev : MayHSays := by
  intro s w hf
  obtain ⟨cs, hcs⟩ : ∃ cs, cs = s.cells := ⟨_, rfl⟩
  rw [← hcs]
  obtain ⟨E, hE⟩ : ∃ E, E = decide (mayP s) := ⟨_, rfl⟩
  rw [← hE]
  obtain ⟨w1, hw1⟩ : ∃ w1, w1 = w.alloc (.cells cs 25) := ⟨_, rfl⟩
  have hs1 : w1.heap.size = w.heap.size + 1 := by rw [hw1]; simp
  have HS1 := Lib.hid hs1
  have HB1 := Lib.hid (show Below w.heap.size w w1 by rw [hw1]; exact (Below.refl _ w).alloc (Nat.le_refl _) _)
  have hin : SupIn w1 w.heap.size s := by unfold SupIn; rw [hw1, hcs]; exact heap_alloc_new w _
  have HIn := Lib.hid hin
  have HC := Lib.hid (fun W (hW : Below w1.heap.size w1 W) k (hk : k < 13) => (hin.below hW (by omega)).cell hf hk)
  have HY := Lib.hid (show (∀ k, k < 13 → okN s k = true) → E = true from fun h => by rw [hE]; exact decide_eq_true ((may_nums hf).2 h))
  have HNo := Lib.hid (show ∀ k, k < 13 → okN s k = false → E = false from fun k hk h => by
    rw [hE]; exact decide_eq_false fun h2 => by rw [(may_nums hf).1 h2 k hk] at h; cases h)
  have HW1 := Lib.hid hw1
  have HN := Lib.hid (numbers_dev w.heap.size w1 (by omega))
  clear hw1 hs1 hin hcs hE hf
  go_enter Try.func11, Try.ntmps11
  go_wp2_with (rw [← HW1.out])
  refine HN.out.mono ?_
  rintro e w2 ⟨v, rfl, hv, hb2⟩
  obtain ⟨b, off, c, rfl, hbb, hbl, hc1, hc2, hat⟩ := nums_at hv
  have HB2 := Lib.hid hb2
  have HAt := Lib.hid (fun W (hW : Below w2.heap.size w2 W) => hat.below hW hbl)
  clear hv hb2 hat
  go_wp2
  go_loopw [7] (fun i wr => ∃ k : Nat, k ≤ 13 ∧ i = .int .i64 (k : Int) ∧ (∀ j, j < k → okN s j = true) ∧ Below w2.heap.size w2 wr) (fun i _ => 13 - (intOf i).toNat)
  case atStart => exact ⟨0, by omega, rfl, fun j hj => by omega, Below.refl _ _⟩
  case round =>
    obtain ⟨k, hk, rfl, hok, hb⟩ := hrel
    have HBr := Lib.hid hb
    have HOk := Lib.hid hok
    clear hb hok
    have HBd := Lib.hid (HB1.out.trans ((HB2.out.mono HB1.out.size).trans (HBr.out.mono (Nat.le_trans HB1.out.size HB2.out.size))))
    by_cases hlt : k < 13
    · have hki : (k : Int) < 13 := by omega
      have hw : IntKind.i64.wrap ((k : Int) + 1) = (k : Int) + 1 := by rw [IntKind.wrap_i64]; omega
      obtain ⟨l0, l1, l2, l3⟩ := (HAt.out wr HBr.out).four hlt
      have HM := Lib.hid (show ∀ W, Below wr.heap.size wr W → Calls Try.prog 29 #[.agg #[.pointer (some ⟨w.heap.size, k, none⟩), .int .i64 (wdN k : Nat), .int .i64 (loN k), .int .i64 (hiN k)]] W fun e w' => e = .returned (.bool (okN s k)) ∧ Below W.heap.size W w' from fun W hW => nmay_dev w.heap.size k _ _ _ _ W (HC.out W ((HB2.out.trans (HBr.out.mono HB2.out.size)).trans (hW.mono (Nat.le_trans HB2.out.size HBr.out.size))) k hlt))
      obtain ⟨wd, hwd⟩ : ∃ x : Int, x = (wdN k : Nat) := ⟨_, rfl⟩
      rw [← hwd] at l1 HM
      generalize loN k = lo at *
      generalize hiN k = hi at *
      clear hwd
      cases hq : okN s k with
      | false =>
        have HE := Lib.hid (HNo.out k hlt hq)
        rw [hq] at HM
        clear hq
        go_wp2_with (fail)
        refine (HM.out _ ((Below.refl _ _).alloc (Nat.le_refl _) _)).mono ?_
        rintro e w4 ⟨rfl, hb4⟩
        go_wp2
        go_ret
        exact ⟨by rw [HE.out]; rfl, (HBd.out.alloc HBd.out.size _).trans (hb4.mono (by rw [World.size_alloc]; have := HBd.out.size; omega))⟩
      | true =>
        have HK := Lib.hid (show ∀ j, j < k + 1 → okN s j = true from fun j hj => by
          by_cases e : j = k
          · rw [e]; exact hq
          · exact HOk.out j (by omega))
        rw [hq] at HM
        clear hq
        go_wp2_with (fail)
        refine (HM.out _ ((Below.refl _ _).alloc (Nat.le_refl _) _)).mono ?_
        rintro e w4 ⟨rfl, hb4⟩
        go_wp2
        go_roundw
        case rel => exact ⟨k + 1, by omega, by simp, HK.out, (HBr.out.alloc HBr.out.size _).trans (hb4.mono (by rw [World.size_alloc]; have := HBr.out.size; omega))⟩
        case measure => simp [intOf]; omega
    · obtain rfl : k = 13 := by omega
      have HE := Lib.hid (HY.out HOk.out)
      go_wp2
      go_ret
      exact ⟨by rw [HE.out]; rfl, HBd.out⟩
end Go.Proofs.Ytgkbhdecohlpmaa
end

section
/-
  Numbers of w bytes: fits, digits, and back.
-/
namespace Go.Proofs.Ytgkbhdecohlpmaa
set_option maxRecDepth 100000
open Go.RowKit

/-- is n a number of z bytes? -/
def fits (n z : Int) : Bool := decide (1 ≤ z ∧ z ≤ 6 ∧ 0 ≤ n ∧ n < 2 ^ (8 * z.toNat))
/-- is z a width? -/
def wid (z : Int) : Bool := decide (1 ≤ z ∧ z ≤ 6)
theorem bool_ret {a b : Bool} (h : a = b) : Ending.returned (.bool a) = .returned (.bool b) := by rw [h]

set_option maxHeartbeats 400000 in
theorem isWidth_any (z : Int) (w : World) :
    Calls Try.prog 51 #[.int .i64 z] w fun e w' => e = .returned (.bool (wid z)) ∧ w = w' := by
  have hw : wid z = (decide (1 ≤ z) && decide (z ≤ 6)) := by unfold wid; rw [Bool.eq_iff_iff]; simp
  rw [hw]
  by_cases h1 : 1 ≤ z
  all_goals
    go_enter Try.func51, Try.ntmps51
    go_wp2
    go_ret
    exact ⟨bool_ret (by simp [h1]; try omega), rfl⟩
theorem width_cases {z : Int} (h : 1 ≤ z ∧ z ≤ 6) : z = 1 ∨ z = 2 ∨ z = 3 ∨ z = 4 ∨ z = 5 ∨ z = 6 := by omega
set_option maxHeartbeats 400000 in
theorem fits_any (n z : Int) (w : World) :
    Calls Try.prog 47 #[.int .i64 n, .int .i64 z] w fun e w' => e = .returned (.bool (fits n z)) ∧ w = w' := by
  have hw := Lib.hid (isWidth_any z)
  by_cases h : 1 ≤ z ∧ z ≤ 6
  · have hd : wid z = true := by unfold wid; simp; omega
    rw [hd] at hw
    rcases width_cases h with rfl | rfl | rfl | rfl | rfl | rfl
    all_goals
      clear h hd
      by_cases h0 : 0 ≤ n
      all_goals
        go_enter Try.func47, Try.ntmps47
        go_wp2_with fail
        refine (hw.out _).mono ?_
        rintro e w1 ⟨rfl, rfl⟩
        go_wp2
        go_ret
        exact ⟨bool_ret (by unfold fits; rw [Bool.eq_iff_iff]; simp [h0]; try omega), rfl⟩
  · have hf : fits n z = false := by unfold fits; simp; omega
    have hd : wid z = false := by unfold wid; simp; omega
    rw [hf]
    rw [hd] at hw
    go_enter Try.func47, Try.ntmps47
    go_wp2_with fail
    refine (hw.out _).mono ?_
    rintro e w1 ⟨rfl, rfl⟩
    go_wp2
    go_ret
    exact ⟨rfl, rfl⟩

/-- the digits, the lowest first -/
def dig (n : Nat) : Nat → List Nat
  | 0 => []
  | k + 1 => n % 256 :: dig (n / 256) k
/-- the number that has these digits -/
def num : List Nat → Nat
  | [] => 0
  | b :: t => b + 256 * num t
theorem dig_length (k : Nat) : ∀ n, (dig n k).length = k := by
  induction k with
  | zero => intro n; rfl
  | succ k ih => intro n; simp [dig, ih]
theorem dig_lt (k : Nat) : ∀ n, ∀ x ∈ dig n k, x < 256 := by
  induction k with
  | zero => intro n x h; cases h
  | succ k ih =>
    intro n x h
    rcases List.mem_cons.1 h with rfl | h
    · omega
    · exact ih _ x h
theorem num_dig (k : Nat) : ∀ n, n < 256 ^ k → num (dig n k) = n := by
  induction k with
  | zero => intro n h; simp at h; simp [dig, num, h]
  | succ k ih =>
    intro n h
    rw [Nat.pow_succ] at h
    rw [dig, num, ih _ (by omega)]
    omega
theorem dig_succ (k : Nat) : ∀ n, dig n (k + 1) = dig n k ++ [n / 256 ^ k % 256] := by
  induction k with
  | zero => intro n; simp [dig]
  | succ k ih =>
    intro n
    rw [dig, ih, dig, List.cons_append, Nat.div_div_eq_div_mul, Nat.pow_succ, Nat.mul_comm 256]
theorem num_snoc (b : Nat) : ∀ l : List Nat, num (l ++ [b]) = num l + 256 ^ l.length * b := by
  intro l
  induction l with
  | nil => simp [num]
  | cons a t ih =>
    rw [List.cons_append, num, ih, num, List.length_cons, Nat.pow_succ, Nat.mul_add, ← Nat.add_assoc, Nat.mul_right_comm, Nat.mul_comm (256 ^ t.length * b), Nat.mul_comm 256]
theorem num_lt : ∀ l : List Nat, (∀ x ∈ l, x < 256) → num l < 256 ^ l.length := by
  intro l
  induction l with
  | nil => intro _; simp [num]
  | cons a t ih =>
    intro h
    have h1 := h a (List.mem_cons_self ..)
    have h2 := ih fun x hx => h x (List.mem_cons_of_mem _ hx)
    rw [List.length_cons, Nat.pow_succ, num]
    omega
theorem pow_w (m : Nat) : (2 : Int) ^ (8 * m) = ((256 ^ m : Nat) : Int) := by
  rw [show (256 : Nat) = 2 ^ 8 from rfl, ← Nat.pow_mul]
  exact (Int.natCast_pow 2 (8 * m)).symm
theorem fits_yes {n m : Nat} (h1 : 1 ≤ m) (h6 : m ≤ 6) (hn : n < 256 ^ m) : fits n m = true := by
  unfold fits
  rw [decide_eq_true_eq, Int.toNat_natCast, pow_w]
  omega
theorem fits_of {n z : Int} (h : fits n z = true) : ∃ x m : Nat, n = x ∧ z = m ∧ 1 ≤ m ∧ m ≤ 6 ∧ x < 256 ^ m := by
  unfold fits at h
  rw [decide_eq_true_eq] at h
  obtain ⟨h1, h2, h3, h4⟩ := h
  obtain ⟨x, rfl⟩ := Int.eq_ofNat_of_zero_le h3
  obtain ⟨m, rfl⟩ := Int.eq_ofNat_of_zero_le (show 0 ≤ z by omega)
  rw [Int.toNat_natCast, pow_w] at h4
  exact ⟨x, m, rfl, rfl, by omega, by omega, by omega⟩
theorem pow_le6 {m : Nat} (h : m ≤ 6) : 256 ^ m ≤ 281474976710656 := by
  have := Nat.pow_le_pow_right (show 0 < 256 by omega) h
  exact this
theorem or_hi (k n b : Nat) (hn : n < 256 ^ k) (hb : b < 256) (hk : k < 6) : bits .or .i64 (n : Int) ((b * 256 ^ k : Nat) : Int) = ((n + 256 ^ k * b : Nat) : Int) := by
  have h1 := pow_le6 (show k ≤ 6 by omega)
  have h2 := pow_le6 (show k + 1 ≤ 6 by omega)
  rw [Nat.pow_succ] at h2
  have h3 : b * 256 ^ k ≤ 256 * 256 ^ k := Nat.mul_le_mul_right _ (by omega)
  have e : n ||| b * 256 ^ k = n + 256 ^ k * b := by
    have hp : 256 ^ k = 2 ^ (8 * k) := by rw [show (256 : Nat) = 2 ^ 8 from rfl, ← Nat.pow_mul]
    rw [hp] at hn ⊢
    have := Nat.shiftLeft_add_eq_or_of_lt hn b
    rw [Nat.shiftLeft_eq] at this
    rw [Nat.or_comm, ← this, Nat.add_comm, Nat.mul_comm]
  rw [i64_or_nat _ _ (by omega) (by omega), e]
theorem or_lo (n b : Nat) (hn : n < 1099511627776) (hb : b < 256) : bits .or .i64 ((n * 256 : Nat) : Int) (b : Int) = ((b + 256 * n : Nat) : Int) := by
  have e : n * 256 ||| b = b + 256 * n := by
    have := Nat.shiftLeft_add_eq_or_of_lt (i := 8) hb n
    rw [Nat.shiftLeft_eq] at this
    rw [show n * 256 = n * 2 ^ 8 from rfl, ← this]
    omega
  rw [i64_or_nat _ _ (by omega) (by omega), e]
theorem and_low (n : Nat) (hn : n < 281474976710656) : bits .and .i64 (n : Int) 255 = ((n % 256 : Nat) : Int) := by
  have h := i64_and_nat n 255 (by omega) (by omega)
  rwa [nat_mask8] at h
end Go.Proofs.Ytgkbhdecohlpmaa
end

section
/-
  Put, of the program, by contract.
-/
namespace Go.Proofs.Ytgkbhdecohlpmaa
set_option maxRecDepth 100000
open Go.RowKit

theorem copied (bs ds : List Value) (Z : List Value) (hZ : Z.length = bs.length + ds.length) : splice (splice Z 0 bs) bs.length ds = bs ++ ds := by
  have := splice_splice_splice Z bs ds [] bs.length ds.length rfl rfl (by simp [hZ])
  rw [List.append_nil] at this
  rw [← this]
  have hl : (splice (splice Z 0 bs) bs.length ds).length = bs.length + ds.length := by
    rw [length_splice, length_splice, hZ] <;> simp [length_splice, hZ]
  generalize splice (splice Z 0 bs) bs.length ds = Y at hl
  unfold splice
  simp only [List.length_nil, Nat.add_zero, List.nil_append, List.take_append_drop]

/-- a block of n zero bytes -/
theorem made_zeros (n : Nat) : ∃ Z : List Value, madeCells #[.int .u8 0] n = Z.toArray ∧ Z.length = n := ⟨(madeCells #[.int .u8 0] n).toList, by simp, by simp [size_madeCells]⟩
theorem Try.size5 : (Try.prog.info? 5).map (·.size) = some 1 := by kernel_rfl


theorem New.of_row {w w' : World} {bs : List Nat} {g : Nat} (hg : w'.heap[g]? = some (.cells (vals bs).toArray 5 (0, 0))) (hge : w.heap.size ≤ g) (hb : Below w.heap.size w w') (hl : bs.length ≤ maxLen) :
    New w w' bs (.slice (some ⟨g, 0, none⟩) bs.length bs.length) :=
  ⟨⟨by rw [vals_length, Nat.mul_one], Or.inr ⟨g, bs.length, _, rfl, hge, hg, Nat.le_refl _, hl, by simp [vals_length], by simp [vals_length, List.take_of_length_le]⟩⟩, hb⟩

set_option maxHeartbeats 400000 in
theorem behind_any (bs ds : List Nat) (A D : Option Addr) (c cd : Nat) (w : World) (hA : By w w.heap.size A bs) (hD : By w w.heap.size D ds) (hl : bs.length + ds.length ≤ 1000000000) :
    Calls Try.prog 48 #[.slice A bs.length c, .slice D ds.length cd] w fun e w' => ∃ v, e = .returned v ∧ New w w' (bs ++ ds) v := by
  have hmk := run_make_row' (P := Try.prog) 44 5 (.int .u8 0) 1 Try.underlying44 Try.info5 rfl .i64 .i64 (bs.length + ds.length) (by omega) (by omega)
  rw [show ((bs.length + ds.length : Nat) : Int) = (bs.length : Int) + (ds.length : Int) by omega] at hmk
  obtain ⟨Z, hZ, hZl⟩ := made_zeros (bs.length + ds.length)
  rw [hZ] at hmk
  have HB := Lib.hid (Below.refl w.heap.size w)
  have n1 := Lib.hid (vals_length bs)
  have n2 := Lib.hid (vals_length ds)
  have ZL := Lib.hid hZl
  have H0 := Lib.hid (heap_alloc_new w (.cells Z.toArray 5))
  have B0 := Lib.hid ((Below.refl w.heap.size w).alloc (Nat.le_refl _) (.cells Z.toArray 5))
  have A0 := Lib.hid ((hA.below B0.out (Nat.le_refl _)).src)
  have HC := Lib.hid (show splice (splice Z 0 (vals bs)) bs.length (vals ds) = vals (bs ++ ds) by
    have h := copied (vals bs) (vals ds) Z (by rw [hZl, vals_length, vals_length])
    rw [vals_length] at h
    rw [h, vals_append])
  have HD := Lib.hid hD
  have HP := Lib.hid (show (bs ++ ds).length = bs.length + ds.length from List.length_append)
  generalize bs ++ ds = P at HC HP ⊢
  clear hZ hZl hA hD HB
  go_enter Try.func48, Try.ntmps48
  go_wp2_with (first
    | (with_reducible refine wpList_copy_splice rfl (.tmp 13) (.tmp 14) 44 44 rfl 5 Try.underlying44 Try.size5 _ _ _ _ _ _ rfl rfl w.heap.size 0 Z 5 H0.out (vals bs) (by rw [n1.out]; simp only [Nat.min_def]; split <;> omega) (fun h => ⟨rfl, A0.out h⟩) (by rw [n1.out, ZL.out]; omega) vals_one w.heap.size w B0.out (Nat.le_refl _) ?_; intro w2 hg2 hb2; rw [n1.out])
    | (with_reducible refine wpList_copy_splice rfl (.tmp 18) (.tmp 19) 44 44 rfl 5 Try.underlying44 Try.size5 _ _ _ _ _ _ rfl rfl w.heap.size bs.length (splice Z 0 (vals bs)) 5 hg2.out (vals ds) (by rw [n2.out]; simp only [Nat.min_def]; split <;> omega) (by
        intro h
        have h' := h
        rw [n2.out] at h'
        have e := List.length_pos_iff.1 h'
        exact ⟨by simp [e], (HD.out.below hb2 (Nat.le_refl _)).src h⟩) (by rw [length_splice _ _ _ (by rw [n1.out, ZL.out]; omega), n2.out, ZL.out]; omega) vals_one w.heap.size w hb2 (Nat.le_refl _) ?_; intro w3 hg3 hb3; rw [HC.out] at hg3))
  all_goals
    go_ret
    have hr := New.of_row hg3.out (Nat.le_refl _) hb3 (by rw [HP.out]; unfold maxLen; omega)
    rw [HP.out] at hr
    refine ⟨_, ?_, hr⟩
    simp_all

/-- the array of digits behind k rounds -/
def digRow (n k : Nat) : Array Value := (vals (dig n k ++ List.replicate (6 - k) 0)).toArray
theorem digRow_size (n k : Nat) (h : k ≤ 6) : (digRow n k).size = 6 := by simp [digRow, vals_length, dig_length]; omega
theorem digRow_set (n k : Nat) (h : k < 6) : (digRow n k).setIfInBounds k (.int .u8 (n / 256 ^ k % 256 : Nat)) = digRow n (k + 1) := by
  unfold digRow
  rw [dig_succ, show 6 - k = (6 - (k + 1)) + 1 by omega, List.replicate_succ, List.append_assoc]
  simp [vals, dig_length, List.set_append]
theorem digRow_take (n k : Nat) : (digRow n k).toList.take (dig n k).length = vals (dig n k) := by
  unfold digRow
  rw [vals_append]
  simp [vals_length, List.take_append]
theorem digRow_zero (n : Nat) : digRow n 0 = #[.int .u8 0, .int .u8 0, .int .u8 0, .int .u8 0, .int .u8 0, .int .u8 0] := rfl
theorem six_cases {k : Nat} (h : k < 6) : k = 0 ∨ k = 1 ∨ k = 2 ∨ k = 3 ∨ k = 4 ∨ k = 5 := by omega

set_option maxHeartbeats 400000 in
theorem put_yes (bs : List Nat) (n m : Nat) (hn : n < 256 ^ m) (hm : 1 ≤ m) (hm6 : m ≤ 6) (A : Option Addr) (c : Nat) (w : World) (hA : By w w.heap.size A bs) (hl : bs.length ≤ 100000000) :
    Calls Try.prog 43 #[.slice A bs.length c, .int .i64 (n : Int), .int .i64 (m : Int)] w fun e w' => ∃ v, e = .returned (.tuple #[v, .int .i64 0]) ∧ New w w' (bs ++ dig n m) v := by
  have hf := fits_yes hm hm6 hn
  have hw := Lib.hid (fits_any n m)
  rw [hf] at hw
  have hn48 : n < 281474976710656 := Nat.lt_of_lt_of_le hn (pow_le6 hm6)
  have HA := Lib.hid hA
  clear hn hf hA
  go_enter Try.func43, Try.ntmps43
  go_wp2_with fail
  refine (hw.out _).mono ?_
  rintro e w1 ⟨rfl, rfl⟩
  go_wp2
  go_loopw [9, 15] (fun _ i wr => ∃ k : Nat, k ≤ m ∧ i = .int .i64 k ∧ wr.heap[w.heap.size]? = some (.cells (digRow n k) 103 (0, 0)) ∧ Below w.heap.size w wr) (fun _ i _ => m - (intOf i).toNat)
  case atStart =>
    refine ⟨0, by omega, rfl, ?_, (Below.refl _ _).alloc (Nat.le_refl _) _⟩
    rw [digRow_zero]
    exact heap_alloc_new w _
  case round =>
    obtain ⟨k, hk, rfl, h0, hb⟩ := hrel
    by_cases hlt : k < m
    · have hk6 : k < 6 := by omega
      obtain ⟨v, hc⟩ : ∃ v, wr.cell? ⟨w.heap.size, k, none⟩ = some v := ⟨(digRow n k)[k]'(by rw [digRow_size _ _ (by omega)]; exact hk6), by rw [cell_of_row wr _ k _ _ _ h0]; simp⟩
      have hfr := frozen_of_row wr w.heap.size k _ _ h0
      have HN := Lib.hid ((heap_setCell_same wr w.heap.size k _ _ (.int .u8 (n / 256 ^ k % 256 : Nat)) h0).trans (by rw [digRow_set n k hk6]))
      have HB := Lib.hid (hb.setCell (p := ⟨w.heap.size, k, none⟩) (Nat.le_refl _) (.int .u8 (n / 256 ^ k % 256 : Nat)))
      clear h0 hb
      rcases six_cases hk6 with rfl | rfl | rfl | rfl | rfl | rfl
      · rw [show ((n / 256 ^ 0 % 256 : Nat) : Int) = (n : Int) % 256 by omega] at HN HB
        go_wp2
        exact ⟨⟨1, by omega, rfl, HN.out, HB.out⟩, by simp [intOf]; omega⟩
      · rw [show ((n / 256 ^ 1 % 256 : Nat) : Int) = (n : Int) / 256 % 256 by omega] at HN HB
        go_wp2
        exact ⟨⟨2, by omega, rfl, HN.out, HB.out⟩, by simp [intOf]; omega⟩
      · rw [show ((n / 256 ^ 2 % 256 : Nat) : Int) = (n : Int) / 65536 % 256 by omega] at HN HB
        go_wp2
        exact ⟨⟨3, by omega, rfl, HN.out, HB.out⟩, by simp [intOf]; omega⟩
      · rw [show ((n / 256 ^ 3 % 256 : Nat) : Int) = (n : Int) / 16777216 % 256 by omega] at HN HB
        go_wp2
        exact ⟨⟨4, by omega, rfl, HN.out, HB.out⟩, by simp [intOf]; omega⟩
      · rw [show ((n / 256 ^ 4 % 256 : Nat) : Int) = (n : Int) / 4294967296 % 256 by omega] at HN HB
        go_wp2
        exact ⟨⟨5, by omega, rfl, HN.out, HB.out⟩, by simp [intOf]; omega⟩
      · rw [show ((n / 256 ^ 5 % 256 : Nat) : Int) = (n : Int) / 1099511627776 by omega] at HN HB
        go_wp2
        exact ⟨⟨6, by omega, rfl, HN.out, HB.out⟩, by simp [intOf]; omega⟩
    · obtain rfl : k = m := by omega
      have hD : By wr (w.heap.size + 1) (some ⟨w.heap.size, 0, none⟩) (dig n k) := By.of_row h0 (digRow_take n k) (dig_lt k n)
      have hs : w.heap.size + 1 ≤ wr.heap.size := by
        rcases Nat.lt_or_ge w.heap.size wr.heap.size with h | h
        · exact h
        · rw [Array.getElem?_eq_none h] at h0; cases h0
      have HW := Lib.hid (behind_any bs (dig n k) A (some ⟨w.heap.size, 0, none⟩) c 6 wr ((HA.out.below hb (Nat.le_refl _)).mono hb.size) (hD.mono hs) (by rw [dig_length]; omega))
      rw [dig_length] at HW
      have HB := Lib.hid hb
      clear h0 hD hb
      have g0 : (0 : Int) ≤ (k : Int) := by omega
      have g6 : (k : Int) ≤ 6 := by omega
      go_wp2_with fail
      refine HW.out.mono ?_
      rintro e w3 ⟨v, rfl, hv⟩
      go_wp2
      go_ret2
      exact ⟨v, rfl, own_mono hv.1 HB.out.size, HB.out.trans (hv.2.mono HB.out.size)⟩

set_option maxHeartbeats 400000 in
theorem put_no (bs : Nat) (n z : Int) (hf : fits n z = false) (A : Option Addr) (c : Nat) (w : World) :
    Calls Try.prog 43 #[.slice A bs c, .int .i64 n, .int .i64 z] w fun e w' => e = .returned (.tuple #[.slice none 0 0, .int .i64 2]) ∧ w = w' := by
  have hw := Lib.hid (fits_any n z)
  rw [hf] at hw
  go_enter Try.func43, Try.ntmps43
  go_wp2_with fail
  refine (hw.out _).mono ?_
  rintro e w1 ⟨rfl, rfl⟩
  go_wp2
  go_ret2
  exact ⟨rfl, rfl⟩
end Go.Proofs.Ytgkbhdecohlpmaa
end

section
/-
  The developers' answers: a number's bytes; all numbers' bytes, all blocks' bytes, one behind the other.
-/
namespace Go.Proofs.Ytgkbhdecohlpmaa
set_option maxRecDepth 100000
open Go.RowKit
set_option maxRecDepth 100000

theorem numH_dig (k : Nat) : ∀ n, numH n k = dig n k := by
  induction k with
  | zero => intro n; rfl
  | succ k ih => intro n; show n % 256 :: _ = n % 256 :: _; rw [ih]
set_option maxHeartbeats 1000000 in
theorem nbytes_dev (g i wd x : Nat) (lo hi : Int) (w : World) (hc : w.cell? ⟨g, i, none⟩ = some (.int .i64 (x : Int))) (h1 : 1 ≤ wd) (h6 : wd ≤ 6) (hx : x < 256 ^ wd) :
    Calls Try.prog 31 #[.agg #[.pointer (some ⟨g, i, none⟩), .int .i64 (wd : Nat), .int .i64 lo, .int .i64 hi]] w fun e w' => ∃ A c, e = .returned (.slice A (numH x wd).length c) ∧ By w' w'.heap.size A (numH x wd) ∧ (A = none → c = 0) ∧ Below w.heap.size w w' := by
  obtain ⟨w1, hw1⟩ : ∃ w1, w1 = w.alloc (.cells #[.pointer (some ⟨g, i, none⟩), .int .i64 (wd : Nat), .int .i64 lo, .int .i64 hi] 76) := ⟨_, rfl⟩
  have hb1 : Below w.heap.size w w1 := by rw [hw1]; exact (Below.refl _ w).alloc (Nat.le_refl _) _
  have hg := heap_alloc_new w (.cells #[.pointer (some ⟨g, i, none⟩), .int .i64 (wd : Nat), .int .i64 lo, .int .i64 hi] 76)
  rw [← hw1] at hg
  have HS := Lib.hid (show w1.drew.cell? ⟨w.heap.size, 0, none⟩ = some (.pointer (some ⟨g, i, none⟩)) ∧ w1.drew.cell? ⟨w.heap.size, 1, none⟩ = some (.int .i64 (wd : Nat)) ∧ w1.drew.cell? ⟨g, i, none⟩ = some (.int .i64 (x : Int)) from
    ⟨by show w1.cell? _ = _; rw [cell_of_row _ _ 0 _ _ _ hg]; rfl, by show w1.cell? _ = _; rw [cell_of_row _ _ 1 _ _ _ hg]; rfl, (hb1.cell (World.block_lt_of_cell? _ _ hc)).trans hc⟩)
  have HP := Lib.hid (fun W => put_yes [] x wd hx h1 h6 none 0 W By.nil_ (by simp))
  have HD := Lib.hid (numH_dig wd x)
  have HB := Lib.hid hb1.drew
  have HW := Lib.hid hw1
  have HLt := Lib.hid (numH_lt wd x)
  clear hw1 hb1 hg hc
  go_enter Try.func31, Try.ntmps31
  go_wp2_with (rw [← HW.out])
  refine wp_region_held_drew (S := fun W => W.cell? ⟨w.heap.size, 0, none⟩ = some (.pointer (some ⟨g, i, none⟩)) ∧ W.cell? ⟨w.heap.size, 1, none⟩ = some (.int .i64 (wd : Nat)) ∧ W.cell? ⟨g, i, none⟩ = some (.int .i64 (x : Int))) (by kernel_rfl) HS.out (fun hHeld => ?_)
  refine wpAnyH_take (i := 0) (v := ?_) rfl (by kernel_rfl) (by kernel_rfl) (by kernel_rfl) (fun _ _ _ h => h) (Or.inl ⟨by rfl, ?_⟩) (by assumption) ?_
  rotate_left
  · simp only [List.getElem_toArray, List.getElem_cons_zero, List.getElem_cons_succ]; intro W hSw; (try dsimp only at hSw); go_simp; all_goals with_reducible rfl
  simp only [Act.put, List.getElem_toArray, List.getElem_cons_zero, List.getElem_cons_succ, List.setIfInBounds_toArray, List.set_cons_zero, List.set_cons_succ]
  refine wpAnyH_take (i := 1) (v := ?_) rfl (by kernel_rfl) (by kernel_rfl) (by kernel_rfl) (fun _ _ _ h => h) (Or.inl ⟨by rfl, ?_⟩) (by assumption) ?_
  rotate_left
  · simp only [List.getElem_toArray, List.getElem_cons_zero, List.getElem_cons_succ]; intro W hSw; (try dsimp only at hSw); go_simp; all_goals with_reducible rfl
  simp only [Act.put, List.getElem_toArray, List.getElem_cons_zero, List.getElem_cons_succ, List.setIfInBounds_toArray, List.set_cons_zero, List.set_cons_succ]
  refine wpAnyH_take (i := 2) (v := ?_) rfl (by kernel_rfl) (by kernel_rfl) (by kernel_rfl) (fun _ _ _ h => h) (Or.inl ⟨by rfl, ?_⟩) (by assumption) ?_
  rotate_left
  · simp only [List.getElem_toArray, List.getElem_cons_zero, List.getElem_cons_succ]; intro W hSw; (try dsimp only at hSw); go_simp; all_goals with_reducible rfl
  simp only [Act.put, List.getElem_toArray, List.getElem_cons_zero, List.getElem_cons_succ, List.setIfInBounds_toArray, List.set_cons_zero, List.set_cons_succ]
  refine wpAnyH_take (i := 3) (v := ?_) rfl (by kernel_rfl) (by kernel_rfl) (by kernel_rfl) (fun _ _ _ h => h) (Or.inl ⟨by rfl, ?_⟩) (by assumption) ?_
  rotate_left
  · simp only [List.getElem_toArray, List.getElem_cons_zero, List.getElem_cons_succ]; intro W hSw; (try dsimp only at hSw); go_simp; all_goals with_reducible rfl
  simp only [Act.put, List.getElem_toArray, List.getElem_cons_zero, List.getElem_cons_succ, List.setIfInBounds_toArray, List.set_cons_zero, List.set_cons_succ]
  refine wpAnyH_take (i := 4) (v := ?_) rfl (by kernel_rfl) (by kernel_rfl) (by kernel_rfl) (fun _ _ _ h => h) (Or.inl ⟨by rfl, ?_⟩) (by assumption) ?_
  rotate_left
  · simp only [List.getElem_toArray, List.getElem_cons_zero, List.getElem_cons_succ]; intro W hSw; (try dsimp only at hSw); go_simp; all_goals with_reducible rfl
  simp only [Act.put, List.getElem_toArray, List.getElem_cons_zero, List.getElem_cons_succ, List.setIfInBounds_toArray, List.set_cons_zero, List.set_cons_succ]
  refine wpAnyH_take (i := 5) (v := ?_) rfl (by kernel_rfl) (by kernel_rfl) (by kernel_rfl) (fun _ _ _ h => h) (Or.inl ⟨by rfl, ?_⟩) (by assumption) ?_
  rotate_left
  · simp only [List.getElem_toArray, List.getElem_cons_zero, List.getElem_cons_succ]; intro W hSw; (try dsimp only at hSw); go_simp; all_goals with_reducible rfl
  simp only [Act.put, List.getElem_toArray, List.getElem_cons_zero, List.getElem_cons_succ, List.setIfInBounds_toArray, List.set_cons_zero, List.set_cons_succ]
  refine wpAnyH_ready (rs := [6]) (by kernel_rfl) (by simp) ?_
  refine AllReadyH.cons rfl (fun K hK => ?_) AllReadyH.nil
  simp only [List.getElem_toArray, List.getElem_cons_zero, List.getElem_cons_succ]
  go_simp
  refine (HP.out _).mono ?_
  rintro e w3 ⟨v, rfl, hv⟩
  have hb3 := hv.2
  have hlt : ∀ y ∈ dig x wd, y < 256 := by rw [← HD.out]; exact HLt.out
  obtain ⟨A, c, rfl, hy, hl, hc, hA, _⟩ := New.slice (bs := dig x wd) hv hlt
  rw [← HD.out] at hy ⊢
  have HY := Lib.hid hy
  have HA := Lib.hid hA
  have HB3 := Lib.hid hb3
  clear hv hy hA hb3 hlt
  go_wp2_with fail
  refine hK.out _ _ (⟨(HB3.out.cell (World.block_lt_of_cell? _ _ hHeld.1)).trans hHeld.1, (HB3.out.cell (World.block_lt_of_cell? _ _ hHeld.2.1)).trans hHeld.2.1, (HB3.out.cell (World.block_lt_of_cell? _ _ hHeld.2.2)).trans hHeld.2.2⟩) (fun hHeldN => ?_)
  clear hK K hHeld
  have hHeld := hHeldN
  clear hHeldN
  (try simp only [Act.put, List.getElem_toArray, List.getElem_cons_zero, List.getElem_cons_succ, List.setIfInBounds_toArray, List.set_cons_zero, List.set_cons_succ])
  refine wpAnyH_take (i := 7) (v := ?_) rfl (by kernel_rfl) (by kernel_rfl) (by kernel_rfl) (fun _ _ _ h => h) (Or.inl ⟨by rfl, ?_⟩) (by assumption) ?_
  rotate_left
  · simp only [List.getElem_toArray, List.getElem_cons_zero, List.getElem_cons_succ]; intro W hSw; (try dsimp only at hSw); go_simp; all_goals with_reducible rfl
  simp only [Act.put, List.getElem_toArray, List.getElem_cons_zero, List.getElem_cons_succ, List.setIfInBounds_toArray, List.set_cons_zero, List.set_cons_succ]
  refine wpAnyH_take (i := 8) (v := ?_) rfl (by kernel_rfl) (by kernel_rfl) (by kernel_rfl) (fun _ _ _ h => h) (Or.inl ⟨by rfl, ?_⟩) (by assumption) ?_
  rotate_left
  · simp only [List.getElem_toArray, List.getElem_cons_zero, List.getElem_cons_succ]; intro W hSw; (try dsimp only at hSw); go_simp; all_goals with_reducible rfl
  simp only [Act.put, List.getElem_toArray, List.getElem_cons_zero, List.getElem_cons_succ, List.setIfInBounds_toArray, List.set_cons_zero, List.set_cons_succ]
  refine wpAnyH_take (i := 9) (v := ?_) rfl (by kernel_rfl) (by kernel_rfl) (by kernel_rfl) (fun _ _ _ h => h) (Or.inl ⟨by rfl, ?_⟩) (by assumption) ?_
  rotate_left
  · simp only [List.getElem_toArray, List.getElem_cons_zero, List.getElem_cons_succ]; intro W hSw; (try dsimp only at hSw); go_simp; all_goals with_reducible rfl
  simp only [Act.put, List.getElem_toArray, List.getElem_cons_zero, List.getElem_cons_succ, List.setIfInBounds_toArray, List.set_cons_zero, List.set_cons_succ]
  refine wpAnyH_take (i := 10) (v := ?_) rfl (by kernel_rfl) (by kernel_rfl) (by kernel_rfl) (fun _ _ _ h => h) (Or.inl ⟨by rfl, ?_⟩) (by assumption) ?_
  rotate_left
  · simp only [List.getElem_toArray, List.getElem_cons_zero, List.getElem_cons_succ]; intro W hSw; (try dsimp only at hSw); go_simp; all_goals with_reducible rfl
  simp only [Act.put, List.getElem_toArray, List.getElem_cons_zero, List.getElem_cons_succ, List.setIfInBounds_toArray, List.set_cons_zero, List.set_cons_succ]
  refine wpAnyH_take (i := 11) (v := ?_) rfl (by kernel_rfl) (by kernel_rfl) (by kernel_rfl) (fun _ _ _ h => h) (Or.inl ⟨by rfl, ?_⟩) (by assumption) ?_
  rotate_left
  · simp only [List.getElem_toArray, List.getElem_cons_zero, List.getElem_cons_succ]; intro W hSw; (try dsimp only at hSw); go_simp; all_goals with_reducible rfl
  simp only [Act.put, List.getElem_toArray, List.getElem_cons_zero, List.getElem_cons_succ, List.setIfInBounds_toArray, List.set_cons_zero, List.set_cons_succ]
  refine wpAnyH_done (by kernel_rfl) ?_ _
  go_wp2
  go_ret
  exact ⟨A, c, rfl, HY.out, HA.out, HB.out.trans (HB3.out.mono HB.out.size)⟩
end Go.Proofs.Ytgkbhdecohlpmaa
end

section
/-
  The developers' answers: all numbers' bytes, all blocks' bytes, one behind the other (joined).
-/
namespace Go.Proofs.Ytgkbhdecohlpmaa
set_option maxRecDepth 100000
open Go.RowKit
set_option maxRecDepth 100000

def partB (z : Nat → Int) (k : Nat) : List Nat := (List.range k).flatMap fun j => numH (z j).toNat (wdN j)
theorem partB_succ (z : Nat → Int) (k : Nat) : partB z (k + 1) = partB z k ++ numH (z k).toNat (wdN k) := by
  unfold partB
  rw [List.range_succ, List.flatMap_append, List.flatMap_singleton]
theorem wdN_ok (k : Nat) : 1 ≤ wdN k ∧ wdN k ≤ 6 := by unfold wdN; split <;> (try split) <;> (try split) <;> omega
theorem partB_len (z : Nat → Int) (k : Nat) : (partB z k).length ≤ k * 6 := by
  induction k with
  | zero => simp [partB]
  | succ k ih => rw [partB_succ, List.length_append, numH_len]; have := (wdN_ok k).2; omega
theorem supB_part {s : Sup} (hf : s.Fine) : supB s = partB (fun k => s.ints.getD k 0) 13 := by
  obtain ⟨m0, m1, m2, m3, m4, m5, m6, m7, hm⟩ := sup_map hf
  obtain ⟨g, t, o, i, b, m⟩ := s
  simp only at hm
  subst hm
  unfold supB partB
  rw [show List.range 13 = [0, 1, 2, 3, 4, 5, 6, 7, 8, 9, 10, 11, 12] from rfl]
  simp only [List.flatMap_cons, List.flatMap_nil, List.append_nil]
  simp [Sup.ints, wdN]
theorem may_fits {s : Sup} (hf : s.Fine) (h : mayP s) {k : Nat} (hk : k < 13) : ∃ x : Nat, s.ints.getD k 0 = (x : Int) ∧ x < 256 ^ wdN k := by
  have h1 := (may_nums hf).1 h k hk
  unfold okN inH at h1
  rw [decide_eq_true_eq] at h1
  have hlo : 0 ≤ loN k := by unfold loN; split <;> omega
  obtain ⟨x, hx⟩ := Int.eq_ofNat_of_zero_le (show 0 ≤ s.ints.getD k 0 by omega)
  refine ⟨x, hx, ?_⟩
  rw [hx] at h1
  have h2 := h1.2
  have : k = 0 ∨ k = 1 ∨ k = 2 ∨ k = 3 ∨ k = 4 ∨ 5 ≤ k := by omega
  rcases this with rfl | rfl | rfl | rfl | rfl | h5
  · simp [hiN, wdN] at h2 ⊢; omega
  · simp [hiN, wdN] at h2 ⊢; omega
  · simp [hiN, wdN] at h2 ⊢; omega
  · simp [hiN, wdN] at h2 ⊢; omega
  · simp [hiN, wdN] at h2 ⊢; omega
  · obtain ⟨j, rfl⟩ : ∃ j, k = 5 + j := ⟨k - 5, by omega⟩
    have e1 : hiN (5 + j) = 4 := by unfold hiN; rw [if_neg (by omega), if_neg (by omega), if_neg (by omega), if_neg (by omega)]
    have e2 : wdN (5 + j) = 1 := by unfold wdN; rw [if_neg (by omega), if_neg (by omega), if_neg (by omega)]
    rw [e1] at h2
    rw [e2]
    omega
theorem owns_keepH {w w' : World} {base : Nat} {e : TypeId} {size : Nat} {v : Value} {n : Nat} {xs : List Value} (h : w.ownsRow base e size v n xs) (hb : Below w.heap.size w w') : w'.ownsRow base e size v n xs := by
  obtain ⟨h1, h2⟩ := h
  refine ⟨h1, ?_⟩
  rcases h2 with h2 | ⟨g, cap, cur, hv, hg, hh, r⟩
  · exact Or.inl h2
  · exact Or.inr ⟨g, cap, cur, hv, hg, (hb.block g (Array.getElem?_eq_some_iff.1 hh).1).trans hh, r⟩
set_option maxHeartbeats 2000000 in
theorem joinN_dev (s : Sup) (hf : s.Fine) (hm : mayP s) (g b off c : Nat) (w : World) (hs : SupIn w g s) (hat : NumsAt w g b off) (hbl : b < w.heap.size) :
    Calls Try.prog 30 #[.slice (some ⟨b, off, none⟩) 13 c, .func (.func 31) #[] #[]] w fun e w' => ∃ v, e = .returned v ∧ New w w' (supB s) v := by
  have HC := Lib.hid (fun W (hW : Below w.heap.size w W) k (hk : k < 13) => (hs.below hW hs.lt).cell hf hk)
  have HAt := Lib.hid (fun W (hW : Below w.heap.size w W) => hat.below hW hbl)
  have HF := Lib.hid (fun k (hk : k < 13) => may_fits hf hm hk)
  have HSu := Lib.hid (supB_part hf)
  generalize supB s = sb at *
  obtain ⟨z, hz⟩ : ∃ z : Nat → Int, z = fun k => s.ints.getD k 0 := ⟨_, rfl⟩
  rw [← hz] at HSu
  replace HC := Lib.hid (show ∀ W, Below w.heap.size w W → ∀ k, k < 13 → W.cell? ⟨g, k, none⟩ = some (.int .i64 (z k)) by rw [hz]; exact HC.out)
  replace HF := Lib.hid (show ∀ k, k < 13 → ∃ x : Nat, z k = (x : Int) ∧ x < 256 ^ wdN k by rw [hz]; exact HF.out)
  clear hz hs hat hf hm
  go_enter Try.func30, Try.ntmps30
  go_wp2
  go_loopw [5, 10] (fun v i wr => ∃ k : Nat, k ≤ 13 ∧ i = .int .i64 (k : Int) ∧ Own wr w.heap.size (partB z k) v ∧ Below w.heap.size w wr) (fun _ i _ => 13 - (intOf i).toNat)
  case atStart => exact ⟨0, by omega, rfl, Own.nil_ _ _, Below.refl _ _⟩
  case round =>
    obtain ⟨k, hk, rfl, hown, hb⟩ := hrel
    have HBr := Lib.hid hb
    have HO := Lib.hid hown
    clear hb hown
    by_cases hlt : k < 13
    · have hki : (k : Int) < 13 := by omega
      have hw : IntKind.i64.wrap ((k : Int) + 1) = (k : Int) + 1 := by rw [IntKind.wrap_i64]; omega
      obtain ⟨l0, l1, l2, l3⟩ := (HAt.out wr HBr.out).four hlt
      obtain ⟨x, hx, hx6⟩ := HF.out k hlt
      have HPs := Lib.hid (show partB z (k + 1) = partB z k ++ numH x (wdN k) by rw [partB_succ, hx]; rfl)
      have HPl := Lib.hid (partB_len z k)
      have HNl := Lib.hid (show (numH x (wdN k)).length ≤ 6 by rw [numH_len]; exact (wdN_ok k).2)
      have HM := Lib.hid (show ∀ W, Below wr.heap.size wr W → Calls Try.prog 31 #[.agg #[.pointer (some ⟨g, k, none⟩), .int .i64 (wdN k : Nat), .int .i64 (loN k), .int .i64 (hiN k)]] W fun e w' => ∃ A c, e = .returned (.slice A (numH x (wdN k)).length c) ∧ By w' w'.heap.size A (numH x (wdN k)) ∧ (A = none → c = 0) ∧ Below W.heap.size W w' from fun W hW => nbytes_dev g k (wdN k) x _ _ W (by rw [← hx]; exact HC.out W (HBr.out.trans (hW.mono HBr.out.size)) k hlt) (wdN_ok k).1 (wdN_ok k).2 hx6)
      generalize partB z k = p0 at *
      generalize numH x (wdN k) = p1 at *
      obtain ⟨n1, hn1⟩ : ∃ n, n = p1.length := ⟨_, rfl⟩
      rw [← hn1] at HM HNl
      have HN1 := Lib.hid hn1
      obtain ⟨wd, hwd⟩ : ∃ x : Int, x = (wdN k : Nat) := ⟨_, rfl⟩
      rw [← hwd] at l1 HM
      generalize loN k = lo at *
      generalize hiN k = hi at *
      clear hwd hx hx6 hn1
      have HO2 := Lib.hid (HO.out.alloc (.cells #[.pointer (some ⟨g, k, none⟩), .int .i64 wd, .int .i64 lo, .int .i64 hi] 76))
      go_wp2_with (fail)
      refine (HM.out _ ((Below.refl _ _).alloc (Nat.le_refl _) _)).mono ?_
      rintro e w4 ⟨A4, c4, rfl, hy4, hA4, hb4⟩
      have HB5 := Lib.hid ((HBr.out.alloc HBr.out.size _).trans (hb4.mono (by rw [World.size_alloc]; have := HBr.out.size; omega)))
      have HO4 := Lib.hid (owns_keepH HO2.out hb4)
      have HY4 := Lib.hid hy4
      have HA4 := Lib.hid hA4
      clear hy4 hA4 hb4
      go_wp2_with (refine append_by rfl (.tmp 14) (.tmp 17) rfl w.heap.size p0 p1 _ rfl HO4.out A4 n1 c4 rfl HN1.out w4.heap.size HY4.out HA4.out (by rw [← HN1.out]; have := HPl.out; have := HNl.out; omega) w HB5.out HB5.out.size ?_; intro v5 w5 r1 r2; have HR1 := Lib.hid r1; have HR2 := Lib.hid r2; clear r1 r2)
      go_roundw
      case rel => exact ⟨k + 1, by omega, by simp, by rw [HPs.out]; exact HR1.out, HR2.out⟩
      case measure => simp [intOf]; omega
    · obtain rfl : k = 13 := by omega
      have HE := Lib.hid HSu.out.symm
      go_wp2
      go_ret
      refine ⟨_, rfl, ?_, HBr.out⟩
      have := HO.out
      rw [HE.out] at this
      exact this
theorem eightH {vs : List Nat} (h : vs.length = 8) : ∃ a b c d e f g i, vs = [a, b, c, d, e, f, g, i] := by
  match vs, h with
  | [a, b, c, d, e, f, g, i], _ => exact ⟨a, b, c, d, e, f, g, i, rfl⟩
theorem putv_dev (y0 y1 y2 y3 y4 y5 y6 y7 : Nat) (w : World) :
    Calls Try.prog 23 #[.agg #[.int .u8 (y0 : Int), .int .u8 (y1 : Int), .int .u8 (y2 : Int), .int .u8 (y3 : Int), .int .u8 (y4 : Int), .int .u8 (y5 : Int), .int .u8 (y6 : Int), .int .u8 (y7 : Int)]] w fun e w' =>
      e = .returned (.slice (some ⟨w.heap.size, 0, none⟩) 8 8) ∧ w' = w.alloc (.cells #[.int .u8 (y0 : Int), .int .u8 (y1 : Int), .int .u8 (y2 : Int), .int .u8 (y3 : Int), .int .u8 (y4 : Int), .int .u8 (y5 : Int), .int .u8 (y6 : Int), .int .u8 (y7 : Int)] 49) := by
  go_enter Try.func23, Try.ntmps23
  go_wp2
  go_ret
  exact ⟨rfl, rfl⟩
theorem take_len8 {l : List (List Nat)} (hl : ∀ v ∈ l, v.length = 8) (k : Nat) (hk : k ≤ l.length) : (l.take k).flatten.length = 8 * k := by
  rw [flat_len8 (l.take k) fun v hv => hl v (List.mem_of_mem_take hv), List.length_take, Nat.min_eq_left hk]
theorem flat_at {l : List (List Nat)} (hl : ∀ v ∈ l, v.length = 8) (k : Nat) (hk : k < l.length) (j : Nat) (hj : j < 8) : l.flatten.getD (k * 8 + j) 0 = (l[k]).getD j 0 := by
  have h8 := hl l[k] (List.getElem_mem hk)
  have e : l.flatten = (l.take k).flatten ++ (l[k] ++ (l.drop (k + 1)).flatten) := by
    rw [← List.flatten_cons, ← List.flatten_append, List.getElem_cons_drop, List.take_append_drop]
  have ht := take_len8 hl k (by omega)
  rw [e, List.getD_eq_getElem?_getD, List.getD_eq_getElem?_getD, List.getElem?_append_right (by omega), ht, List.getElem?_append_left (by omega), show k * 8 + j - 8 * k = j by omega]
set_option maxHeartbeats 2000000 in
theorem joinV_dev (l : List (List Nat)) (A : Option Addr) (c : Nat) (w : World) (hv : VFine l) (hy : By w w.heap.size A l.flatten) (h4 : l.length = 4) :
    Calls Try.prog 22 #[.slice A 4 c, .func (.func 23) #[] #[]] w fun e w' => ∃ v, e = .returned v ∧ New w w' l.flatten v := by
  have h8 : ∀ v ∈ l, v.length = 8 := fun v hx => (hv v hx).1
  have hfl := flat_len8 l h8
  obtain ⟨b, off, rfl, hbl, hcell⟩ := hy.at_ (by omega)
  have HCe := Lib.hid (fun W (hW : Below w.heap.size w W) k (hk : k < l.length) j (hj : j < 8) => show W.cell? ⟨b, off + k * 8 + j, none⟩ = some (.int .u8 ((l[k]).getD j 0 : Nat)) by
    rw [hW.cell (p := ⟨b, off + k * 8 + j, none⟩) hbl, Nat.add_assoc, hcell (k * 8 + j) (by omega), flat_at h8 k hk j hj])
  have HV := Lib.hid hv
  have H4 := Lib.hid h4
  clear hy hcell hfl h4 hv
  have H8 := Lib.hid h8
  clear h8
  go_enter Try.func22, Try.ntmps22
  go_wp2
  go_loopw [5, 10] (fun v i wr => ∃ k : Nat, k ≤ 4 ∧ i = .int .i64 (k : Int) ∧ Own wr w.heap.size (l.take k).flatten v ∧ Below w.heap.size w wr) (fun _ i _ => 4 - (intOf i).toNat)
  case atStart => exact ⟨0, by omega, rfl, Own.nil_ _ _, Below.refl _ _⟩
  case round =>
    obtain ⟨k, hk, rfl, hown, hb⟩ := hrel
    have HBr := Lib.hid hb
    have HO := Lib.hid hown
    clear hb hown
    by_cases hlt : k < 4
    · have hki : (k : Int) < 4 := by omega
      have hw : IntKind.i64.wrap ((k : Int) + 1) = (k : Int) + 1 := by rw [IntKind.wrap_i64]; omega
      have hkl : k < l.length := by rw [H4.out]; exact hlt
      have hc := fun j hj => HCe.out wr HBr.out k hkl j hj
      have HPs := Lib.hid (show (l.take (k + 1)).flatten = (l.take k).flatten ++ l[k] by rw [List.take_succ_eq_append_getElem hkl, List.flatten_append]; simp)
      have HPl := Lib.hid (take_len8 H8.out k (by omega))
      have hx8 := HV.out l[k] (List.getElem_mem hkl)
      generalize l[k] = x at *
      generalize (l.take k).flatten = p0 at *
      obtain ⟨y0, y1, y2, y3, y4, y5, y6, y7, rfl⟩ := eightH hx8.1
      have c0 := hc 0 (by omega)
      have c1 := hc 1 (by omega)
      have c2 := hc 2 (by omega)
      have c3 := hc 3 (by omega)
      have c4 := hc 4 (by omega)
      have c5 := hc 5 (by omega)
      have c6 := hc 6 (by omega)
      have c7 := hc 7 (by omega)
      simp only [List.getD_cons_zero, List.getD_cons_succ, Nat.add_zero] at c0 c1 c2 c3 c4 c5 c6 c7
      clear hc
      have HX := Lib.hid hx8.2
      have HM := Lib.hid (fun W => putv_dev y0 y1 y2 y3 y4 y5 y6 y7 W)
      have HO2 := Lib.hid ((HO.out.alloc (.cells (vals [y0, y1, y2, y3, y4, y5, y6, y7]).toArray 49)).alloc (.cells (vals [y0, y1, y2, y3, y4, y5, y6, y7]).toArray 49))
      clear hx8
      go_wp2_with (fail)
      refine (HM.out _).mono ?_
      rintro e w4 ⟨rfl, hw4⟩
      have HB5 := Lib.hid (show Below w.heap.size w w4 by rw [hw4]; exact (HBr.out.alloc HBr.out.size _).alloc (by rw [World.size_alloc]; have := HBr.out.size; omega) _)
      have HO4 := Lib.hid (show Own w4 w.heap.size p0 _ by rw [hw4]; exact HO2.out)
      have HY4 := Lib.hid (show By w4 w4.heap.size (some ⟨wr.heap.size + 1, 0, none⟩) [y0, y1, y2, y3, y4, y5, y6, y7] by
        rw [hw4, ← World.size_alloc wr (.cells (vals [y0, y1, y2, y3, y4, y5, y6, y7]).toArray 49)]
        exact (By.of_row (bs := [y0, y1, y2, y3, y4, y5, y6, y7]) (heap_alloc_new _ _) rfl HX.out).mono (by simp))
      clear hw4
      go_wp2_with (refine append_by rfl (.tmp 14) (.tmp 17) rfl w.heap.size p0 [y0, y1, y2, y3, y4, y5, y6, y7] _ rfl HO4.out (some ⟨wr.heap.size + 1, 0, none⟩) 8 8 rfl rfl w4.heap.size HY4.out (by intro e; cases e) (by have := HPl.out; simp; omega) w HB5.out HB5.out.size ?_; intro v5 w5 r1 r2; have HR1 := Lib.hid r1; have HR2 := Lib.hid r2; clear r1 r2)
      go_roundw
      case rel => exact ⟨k + 1, by omega, by simp, by rw [HPs.out]; exact HR1.out, HR2.out⟩
      case measure => simp [intOf]; omega
    · obtain rfl : k = 4 := by omega
      have HE := Lib.hid (show (l.take 4).flatten = l.flatten by rw [List.take_of_length_le (by rw [H4.out]; omega)])
      go_wp2
      go_ret
      refine ⟨_, rfl, ?_, HBr.out⟩
      have := HO.out
      rw [HE.out] at this
      exact this
end Go.Proofs.Ytgkbhdecohlpmaa
end

section
/-
  How the walk spells the arithmetic of layer 1, and what it comes to on natural numbers.
-/
namespace Go.Proofs.Ytgkbhdecohlpmaa
set_option maxRecDepth 100000
open Go.RowKit

theorem bits_one (x : Nat) (hx : x < 4294967296) : bits .and .u32 (x : Int) 1 = ((x % 2 : Nat) : Int) := by
  have h := u32_and_nat x 1 hx (by omega)
  rw [nat_mask1] at h
  exact h
theorem bits_low (x : Nat) (hx : x < 4294967296) : bits .and .u32 (x : Int) 15 = ((x % 16 : Nat) : Int) := by
  have h := u32_and_nat x 15 hx (by omega)
  rw [nat_mask4] at h
  exact h
theorem bits_poly (x : Nat) (hx : x < 4294967296) : bits .xor .u32 ((x : Int) / 2) 3988292384 = (((x / 2) ^^^ 3988292384 : Nat) : Int) := by
  have h := u32_xor_nat (x / 2) 3988292384 (by omega) (by omega)
  rw [← h]; rfl
theorem sh_odd (x : Nat) (hx : x < 4294967296) (h : x % 2 = 1) : bits .xor .u32 ((x : Int) / 2) 3988292384 = (Crc.sh x : Nat) := by
  rw [bits_poly x hx]; unfold Crc.sh; rw [if_pos h]
theorem sh_even (x : Nat) (h : ¬ x % 2 = 1) : (x : Int) / 2 = (Crc.sh x : Nat) := by
  unfold Crc.sh; rw [if_neg h]; omega
theorem one_ne (x : Nat) (hx : x < 4294967296) (h : x % 2 = 1) : (bits .and .u32 (x : Int) 1 != 0) = true := by rw [bits_one x hx, h]; rfl
theorem one_ne' (x : Nat) (hx : x < 4294967296) (h : ¬ x % 2 = 1) : (bits .and .u32 (x : Int) 1 != 0) = false := by
  have : x % 2 = 0 := by omega
  rw [bits_one x hx, this]; rfl
theorem one_eq (x : Nat) (hx : x < 4294967296) (h : x % 2 = 1) : (bits .and .u32 (x : Int) 1 == 1) = true := by rw [bits_one x hx, h]; rfl
theorem one_eq' (x : Nat) (hx : x < 4294967296) (h : ¬ x % 2 = 1) : (bits .and .u32 (x : Int) 1 == 1) = false := by
  have : x % 2 = 0 := by omega
  rw [bits_one x hx, this]; rfl
end Go.Proofs.Ytgkbhdecohlpmaa
end

section
namespace Go.Proofs.Ytgkbhdecohlpmaa
set_option maxRecDepth 100000
open Go.RowKit
set_option maxHeartbeats 400000 in
theorem shift_any (x : Nat) (hx : x < 4294967296) (w : World) :
    Calls Try.prog 53 #[.int .u32 (x : Int)] w fun e w' => e = .returned (.int .u32 (Crc.sh x : Nat)) ∧ w = w' := by
  by_cases h : x % 2 = 1
  · have hd := one_ne x hx h
    have H := Lib.hid h; clear h
    go_enter Try.func53, Try.ntmps53
    go_wp2
    go_ret
    exact ⟨ret_int (sh_odd x hx H.out), rfl⟩
  · have hd := one_ne' x hx h
    have H := Lib.hid h; clear h
    go_enter Try.func53, Try.ntmps53
    go_wp2
    go_ret
    exact ⟨ret_int (sh_even x H.out), rfl⟩

set_option maxHeartbeats 400000 in
theorem fill_any (h g : Nat) (cs : Array Value) (w : World) (hh : h < 16) (hg : w.heap[g]? = some (.cells cs 107 (0, 0))) (hcs : cs.size = 16) :
    Calls Try.prog 52 #[.int .i64 (h : Int), .pointer (some ⟨g, 0, none⟩)] w fun e w' => e = .returned (.tuple #[]) ∧ w.setCell ⟨g, h, none⟩ (.int .u32 (Crc.half h : Nat)) = w' := by
  have hc : ∃ v, w.cell? ⟨g, h, none⟩ = some v := ⟨cs[h]'(by omega), by rw [cell_of_row w g h cs _ _ hg]; simp⟩
  obtain ⟨v, hc⟩ := hc
  have hf : w.frozen? ⟨g, h, none⟩ = false := frozen_of_row w g h cs _ hg
  clear hg hcs
  go_enter Try.func52, Try.ntmps52
  go_wp2
  go_loop [3, 6] (fun r i => ∃ k : Nat, k ≤ 4 ∧ i = .int .i64 k ∧ r = .int .u32 (Crc.shn k h : Nat)) (fun _ i => 4 - (intOf i).toNat)
  case atStart => exact ⟨0, by omega, rfl, rfl⟩
  case round =>
    obtain ⟨k, hk, rfl, rfl⟩ := hrel
    have hr := Crc.shn_lt k (x := h) (by omega)
    by_cases hlt : k < 4
    · go_wp2_with (go_at_call 53; refine (shift_any _ hr _).mono ?_; rintro e w' ⟨rfl, rfl⟩)
      go_round
      case rel => exact ⟨k + 1, by omega, by go_num, by rw [Crc.shn_succ]⟩
      case measure => simp [intOf]; omega
    · obtain rfl : k = 4 := by omega
      go_wp2
      go_end0
      exact ⟨rfl, rfl⟩

/-- the table behind k rounds -/
def row (k : Nat) : Array Value := ((List.range 16).map fun i => Value.int .u32 ((if i < k then Crc.half i else 0 : Nat) : Int)).toArray
theorem row_size (k : Nat) : (row k).size = 16 := by simp [row]
theorem row_set (k : Nat) : (row k).setIfInBounds k (.int .u32 (Crc.half k : Nat)) = row (k + 1) := by
  apply Array.ext
  · simp [row]
  · intro i h1 h2
    rw [Array.getElem_setIfInBounds (by simpa [row] using h2)]
    simp only [row, List.getElem_toArray, List.getElem_map, List.getElem_range]
    split
    · next e => subst e; rw [if_pos (by omega)]
    · next e =>
      congr 2
      by_cases hk : i < k
      · rw [if_pos hk, if_pos (by omega)]
      · rw [if_neg hk, if_neg (by omega)]
theorem row_get (i : Nat) (h : i < 16) : (row 16)[i]? = some (.int .u32 (Crc.half i : Nat)) := by
  rw [Array.getElem?_eq_getElem (by rw [row_size]; exact h)]
  simp only [row, List.getElem_toArray, List.getElem_map, List.getElem_range]
  rw [if_pos h]
theorem row_zero : row 0 = #[.int .u32 0, .int .u32 0, .int .u32 0, .int .u32 0, .int .u32 0, .int .u32 0, .int .u32 0, .int .u32 0, .int .u32 0, .int .u32 0, .int .u32 0, .int .u32 0, .int .u32 0, .int .u32 0, .int .u32 0, .int .u32 0] := by
  simp [row, List.range, List.range.loop]
theorem row_one (k : Nat) : (row k).all (·.oneCell') = true := by
  simp [row, Value.oneCell']

theorem below_setRow {B : Nat} {a w : World} (h : Below B a w) {g : Nat} (hg : B ≤ g) (cs : Array Value) : Below B a (w.setRow g cs) :=
  h.trans ⟨rfl, rfl, rfl, by simp, fun k hk => setRow_other w g k cs (by omega)⟩

set_option maxHeartbeats 400000 in
theorem halves_any (w : World) :
    Calls Try.prog 50 #[] w fun e w' => e = .returned (.agg (row 16)) ∧ Below w.heap.size w w' := by
  have hmf : ∀ (fn : Fn) (first cap : Array Value) (w : World), (Instr.makeFunc fn first cap).run Try.prog w = .ok (.func fn first cap) w := fun _ _ _ _ => rfl
  go_enter Try.func50, Try.ntmps50
  go_wp2
  go_loopw [3, 5] (fun _ i wr => ∃ k : Nat, k ≤ 16 ∧ i = .int .i64 k ∧ wr.heap[w.heap.size]? = some (.cells (row 0) 107 (0, 0)) ∧ wr.heap[w.heap.size + 1]? = some (.cells (row k) 107 (0, 0)) ∧ Below w.heap.size w wr) (fun _ i _ => 16 - (intOf i).toNat)
  case atStart =>
    refine ⟨0, by omega, rfl, ?_, ?_, ((Below.refl _ _).alloc (Nat.le_refl _) _).alloc (by simp) _⟩
    · rw [heap_alloc2_old, row_zero]
    · rw [heap_alloc2_new, row_zero]
  case round =>
    obtain ⟨k, hk, rfl, h0, h1, hb⟩ := hrel
    by_cases hlt : k < 16
    · go_wp2_with (go_at_call 52; refine (fill_any k _ _ _ hlt h1 (row_size k)).mono ?_; rintro e w' ⟨rfl, rfl⟩)
      go_roundw
      case rel => exact ⟨k + 1, by omega, by go_num, by rw [heap_setCell_other _ _ _ _ (by simp)]; exact h0, by rw [heap_setCell_same _ _ _ _ _ _ h1, row_set], hb.setCell (by simp) _⟩
      case measure => simp [intOf]; omega
    · obtain rfl : k = 16 := by omega
      have hi : (Try.prog.info? 107).map (·.size) = some (row 16).size := by rw [row_size]; kernel_rfl
      have ho : (row 0).size = (row 16).size := by rw [row_size, row_size]
      have HI := Lib.hid hi
      have HO := Lib.hid ho
      have H0 := Lib.hid h0
      have H1 := Lib.hid h1
      clear hi ho h0 h1
      go_wp2_with (first | (refine wpList_load_row rfl 107 _ rfl (w.heap.size + 1) rfl 107 (row 16) (0, 0) _ H1.out Try.underlying107 rfl HI.out ?_) | (refine wpList_store_row rfl 107 _ _ rfl w.heap.size (row 16) rfl rfl 107 (row 0) H0.out HI.out HO.out (row_one 16) ?_))
      exact bodyPost_ret (results_cell_row rfl _ _ w.heap.size 107 (row 16) (0, 0) _ rfl (setRow_heap _ _ _ _ _ _ H0.out) Try.underlying107 rfl HI.out) rfl ⟨rfl, below_setRow hb (Nat.le_refl _) _⟩
end Go.Proofs.Ytgkbhdecohlpmaa
end

section
/-
  The document's own sums: remainder, Join, Sum, by contract.
-/
namespace Go.Proofs.Ytgkbhdecohlpmaa
set_option maxRecDepth 100000
open Go.RowKit

theorem neg_bits (x : Nat) (hx : x < 4294967296) : bits .xor .u32 IntKind.u32.max (x : Int) = (Crc.neg x : Nat) := by
  have h := u32_xor_nat 4294967295 x (by omega) hx
  rw [Crc.neg_def, ← h]; rfl

end Go.Proofs.Ytgkbhdecohlpmaa
end

section
/-
  The sums of the program: divide, Sum, by contract.
-/
namespace Go.Proofs.Ytgkbhdecohlpmaa
set_option maxRecDepth 100000
open Go.RowKit
theorem nib_bits (x : Nat) (hx : x < 4294967296) : bits .xor .u32 ((x : Int) / 16) (Crc.half (x % 16) : Nat) = (Crc.shn 4 x : Nat) := by
  have h := u32_xor_nat (x / 16) (Crc.half (x % 16)) (by omega) (Crc.half_lt (by omega))
  rw [Crc.nibble, ← h]; rfl

set_option maxHeartbeats 400000 in
theorem divide_any (r : Nat) (bs : List Nat) (A : Option Addr) (c : Nat) (w : World) (hr : r < 4294967296) (hby : By w w.heap.size A bs) (hl : bs.length ≤ maxLen) :
    Calls Try.prog 46 #[.int .u32 (r : Int), .slice A bs.length c] w fun e w' => e = .returned (.int .u32 (Crc.rem r bs : Nat)) ∧ Below w.heap.size w w' := by
  unfold maxLen at hl
  go_enter Try.func46, Try.ntmps46
  go_wp2_with fail
  refine (halves_any _).mono ?_
  rintro e w1 ⟨rfl, hw1⟩
  have hi : (Try.prog.info? 107).map (·.size) = some (row 16).size := by rw [row_size]; kernel_rfl
  have HI := Lib.hid hi
  clear hi
  have H0 := Lib.hid (heap_alloc_new w1 (.cells (row 0) 107))
  have HO := Lib.hid (show (row 0).size = (row 16).size by rw [row_size, row_size])
  rw [row_zero] at H0 HO
  go_wp2_with ((refine wpList_store_row rfl 107 _ _ rfl w1.heap.size (row 16) rfl rfl 107 _ H0.out HI.out HO.out (row_one 16) ?_))
  have ht : ∀ i, i < 16 → ((w1.alloc (.cells #[.int .u32 0, .int .u32 0, .int .u32 0, .int .u32 0, .int .u32 0, .int .u32 0, .int .u32 0, .int .u32 0, .int .u32 0, .int .u32 0, .int .u32 0, .int .u32 0, .int .u32 0, .int .u32 0, .int .u32 0, .int .u32 0] 107)).setRow w1.heap.size (row 16)).cell? ⟨w1.heap.size, i, none⟩ = some (.int .u32 (Crc.half i : Nat)) := fun i h => by
    rw [cell_setRow_same _ _ _ _ _ _ _ H0.out]; exact row_get i h
  have hB := below_setRow (hw1.alloc hw1.size (.cells #[.int .u32 0, .int .u32 0, .int .u32 0, .int .u32 0, .int .u32 0, .int .u32 0, .int .u32 0, .int .u32 0, .int .u32 0, .int .u32 0, .int .u32 0, .int .u32 0, .int .u32 0, .int .u32 0, .int .u32 0, .int .u32 0] 107)) hw1.size (row 16)
  generalize ((w1.alloc (.cells #[.int .u32 0, .int .u32 0, .int .u32 0, .int .u32 0, .int .u32 0, .int .u32 0, .int .u32 0, .int .u32 0, .int .u32 0, .int .u32 0, .int .u32 0, .int .u32 0, .int .u32 0, .int .u32 0, .int .u32 0, .int .u32 0] 107)).setRow w1.heap.size (row 16)) = w2 at ht hB ⊢
  generalize w1.heap.size = g at ht ⊢
  have HT := Lib.hid ht
  have hby2 := hby.below hB (Nat.le_refl _)
  clear ht H0 HO HI hw1 hby
  go_loop [0, 10] (fun q i => ∃ k : Nat, k ≤ bs.length ∧ i = .int .i64 k ∧ q = .int .u32 (Crc.rem r (bs.take k) : Nat)) (fun _ i => bs.length - (intOf i).toNat)
  case atStart => exact ⟨0, by omega, rfl, rfl⟩
  case round =>
    obtain ⟨k, hk, rfl, rfl⟩ := hrel
    by_cases hlt : k < bs.length
    · have hR : Crc.rem r (bs.take k) < 4294967296 := Crc.rem_lt (fun x hx => hby2.1 x (List.mem_of_mem_take hx)) hr
      have hn : Crc.rem r (bs.take (k + 1)) = Crc.upd (Crc.rem r (bs.take k)) (bs.getD k 0) := by
        rw [List.take_succ_eq_append_getElem hlt, Crc.rem_snoc, getD_at _ _ hlt]
      obtain ⟨b, off, rfl, hb, hcells⟩ := hby2.at_ (by omega)
      have hcell := hcells k hlt
      clear hcells
      have hbk : bs.getD k 0 < 256 := by rw [getD_at _ _ hlt]; exact hby2.1 _ (List.getElem_mem hlt)
      rw [Crc.upd_two] at hn
      have HN := Lib.hid hn
      clear hn
      generalize Crc.rem r (bs.take k) = R at hR HN ⊢
      generalize bs.getD k 0 = B at hcell hbk HN
      have e1 := u32_xor_nat R B hR (by omega)
      have hX : R ^^^ B < 4294967296 := Nat.xor_lt_two_pow (n := 32) hR (by omega)
      generalize R ^^^ B = X at e1 hX HN
      have e2 := bits_low X hX
      have e3 := nib_bits X hX
      have hY := Crc.shn_lt 4 hX
      have c1 := HT.out (X % 16) (by omega)
      generalize Crc.half (X % 16) = V at e3 c1
      generalize Crc.shn 4 X = Y at e3 hY HN
      have e4 := bits_low Y hY
      have e5 := nib_bits Y hY
      have c2 := HT.out (Y % 16) (by omega)
      generalize Crc.half (Y % 16) = U at e5 c2
      go_wp2
      go_round
      case rel => exact ⟨k + 1, by omega, by go_num, by rw [HN.out]⟩
      case measure => simp [intOf]; omega
    · obtain rfl : k = bs.length := by omega
      go_wp2
      go_ret
      exact ⟨rfl, hB⟩

set_option maxHeartbeats 400000 in
theorem sum_any (bs : List Nat) (A : Option Addr) (c : Nat) (w : World) (hby : By w w.heap.size A bs) (hl : bs.length ≤ maxLen) :
    Calls Try.prog 42 #[.slice A bs.length c] w fun e w' => e = .returned (.int .u32 (Crc.sum bs : Nat)) ∧ Below w.heap.size w w' := by
  have hr : Crc.rem 4294967295 bs < 4294967296 := Crc.rem_lt hby.1 (by omega)
  have hn := neg_bits _ hr
  have hz : Crc.neg (Crc.rem 4294967295 bs) = Crc.sum bs := by
    unfold Crc.sum Crc.join; rw [Crc.neg_def 0, Nat.xor_zero]
  have HZ := Lib.hid hz
  have hd := divide_any 4294967295 bs A c w (by omega) hby hl
  have HD := Lib.hid hd
  clear hz hd hby
  generalize Crc.rem 4294967295 bs = R at *
  go_enter Try.func42, Try.ntmps42
  go_wp2_with fail
  refine HD.out.mono ?_
  rintro e w1 ⟨rfl, hw1⟩
  go_wp2
  go_ret
  exact ⟨ret_int (by rw [HZ.out]), hw1⟩

end Go.Proofs.Ytgkbhdecohlpmaa
end

section
/-
  A sum's bytes, the lowest first, by contract.
-/
namespace Go.Proofs.Ytgkbhdecohlpmaa
set_option maxRecDepth 100000
open Go.RowKit

theorem tail_top (s : Nat) (hs : s < 4294967296) : s / 16777216 % 256 = s / 16777216 := by omega
/-- the four bytes as an array's value -/
def four (s : Nat) : Array Value := (vals (Crc.tail s)).toArray
theorem four_size (s : Nat) : (four s).size = 4 := rfl
theorem four_one (s : Nat) : (four s).all (·.oneCell') = true := Array.all_eq_true_iff_forall_mem.2 fun u hu => vals_one u (by simpa [four] using hu)
theorem four_eq (s : Nat) (hs : s < 4294967296) : #[Value.int .u8 ((s : Int) % 256), .int .u8 ((s : Int) / 256 % 256), .int .u8 ((s : Int) / 65536 % 256), .int .u8 ((s : Int) / 16777216)] = four s := by
  unfold four vals Crc.tail
  rw [tail_top s hs]
  simp

set_option maxHeartbeats 400000 in
theorem lowest_any (s : Nat) (hs : s < 4294967296) (w : World) :
    Calls Try.prog 41 #[.int .u32 (s : Int)] w fun e w' => e = .returned (.agg (four s)) ∧ Below w.heap.size w w' := by
  have HF := Lib.hid (four_eq s hs)
  go_enter Try.func41, Try.ntmps41
  go_wp2
  rw [HF.out]
  exact bodyPost_ret (results_cell_row rfl _ _ w.heap.size 92 (four s) (0, 0) _ rfl (heap_alloc_new w _) Try.underlying92 rfl (by rw [four_size]; kernel_rfl)) rfl ⟨rfl, (Below.refl _ _).alloc (Nat.le_refl _) _⟩
end Go.Proofs.Ytgkbhdecohlpmaa
end
