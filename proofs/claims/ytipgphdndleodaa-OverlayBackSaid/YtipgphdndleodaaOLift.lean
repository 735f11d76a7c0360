/-
  From a contract to the row: blocks that came in, writes that came in.
-/
import Derived.Test.YtipgphdndleodaaOHome
import Derived.Test.YtipgphdndleodaaWLift
namespace Go.Proofs.Ytipgphdndleodaa
set_option maxRecDepth 100000
open Go.ChangeShapes Go.WideShapes Go.ChangeAt Go.RowKit
set_option maxRecDepth 100000

theorem okWide_arr {P : Program} {w : World} {r : Reach} {base : Nat} {t e : TypeId} {n : Nat} {v : Value} (ht : P.underlying t = some (.array n e)) (h : Value.okWide P w r base t v) : ∃ cs, v = .agg cs ∧ cs.size = P.cellsOf t := by
  simp only [Value.okWide, ht] at h
  obtain ⟨cs, h1, h2, _⟩ := h
  exact ⟨cs, h1, h2⟩
theorem flat8 {f : Nat → List Value} : ∀ (n : Nat) {cs : List Value}, cs.length = n * 8 → (∀ i, i < n → (cs.drop (i * 8)).take 8 = f i) → cs = (List.range n).flatMap f := by
  intro n
  induction n with
  | zero => intro cs h _; simpa using h
  | succ n ih =>
    intro cs h hf
    have h1 := ih (cs := cs.take (n * 8)) (by rw [List.length_take]; omega) (fun i hi => by
      rw [List.drop_take, List.take_take, show min 8 (n * 8 - i * 8) = 8 by omega]
      exact hf i (by omega))
    have h2 := hf n (by omega)
    rw [List.take_of_length_le (by rw [List.length_drop]; omega)] at h2
    rw [List.range_succ, List.flatMap_append, List.flatMap_singleton, ← h1, ← h2, List.take_append_drop]
/-- blocks that came in -/
theorem open_home {H : Type} {enc : TypeId × Value → H} {W : World} {base : Nat} {v : Value} {d : DataW H} {p : List MemPlace} (hv' : Value.okWide Try.prog W .any base 24 v)
    (h : DataW.Trod enc Try.prog W 0 (fun _ => true) true 24 v d p) : ∃ f : Int → List Nat, v = .agg (hv f).toArray ∧ HFine f := by
  obtain ⟨cs, rfl, hsz⟩ := okWide_arr Try.underlying24 hv'
  have hc : Try.prog.cellsOf 24 = 256 := by kernel_rfl
  have hc8 : Try.prog.cellsOf 23 = 8 := by kernel_rfl
  rw [hc] at hsz
  have hsl : cs.toList.length = 256 := by simpa using hsz
  obtain ⟨fuel, hf⟩ := h
  obtain ⟨xs, m, _, hx, _, hl, hg⟩ := DataW.trod_array Try.underlying24 hf
  have each : ∀ i, i < 32 → ∃ vs : List Nat, (cs.toList.drop (i * 8)).take 8 = vals vs ∧ vs.length = 8 ∧ ∀ y ∈ vs, y < 256 := by
    intro i hi
    have g : DataW.trod enc Try.prog W 0 (fun _ => true) true m 23 ((cs.toList.drop (i * Try.prog.cellsOf 23)).take (Try.prog.cellsOf 23)) = xs[i]? := hg i hi
    rw [hc8, List.getElem?_eq_getElem (by omega)] at g
    exact value_cells (by rw [List.length_take, List.length_drop]; omega) g
  obtain ⟨f, hfz⟩ := Deep.choose_lt each
  refine ⟨fun k => f k.toNat, ?_, fun k h0 h1 => (hfz k.toNat (by omega)).2⟩
  have e := flat8 (f := fun i => vals (f i)) 32 (cs := cs.toList) hsl (fun i hi => (hfz i hi).1)
  have e2 : cs.toList = hv (fun k => f k.toNat) := e
  rw [← e2]
/-- a write that came in -/
theorem open_write {H : Type} {enc : TypeId × Value → H} {W : World} {base : Nat} {v : Value} {d : DataW H} {p : List MemPlace} (hv' : Value.okWide Try.prog W .any base 27 v)
    (h : DataW.Trod enc Try.prog W 0 (fun _ => true) true 27 v d p) : ∃ y : Wt, v = .agg (wrv y).toArray ∧ WtFine y := by
  obtain ⟨cs, rfl, hsz⟩ := okWide_struct Try.underlying27 hv'
  have h9 : Try.prog.cellsOf 27 = 9 := by kernel_rfl
  rw [h9] at hsz
  obtain ⟨fuel, hf⟩ := h
  obtain ⟨y, e, hy⟩ := write_cells (cs := cs.toList) (by simpa using hsz) hf
  exact ⟨y, by rw [← e], hy⟩
/-- writes that came in -/
theorem open_writes {H : Type} {enc : TypeId × Value → H} {W : World} {a : Option Addr} {len cap : Nat} {d : DataW H} {p : List MemPlace}
    (h : DataW.Trod enc Try.prog W 0 (fun _ => true) true 25 (.slice a len cap) d p) (hlt : ∀ x ∈ p, x.block < W.heap.size) : ∃ l : List Wt, l.length = len ∧ WrsV W (fun _ => True) a cap l ∧ WrFine l := by
  obtain ⟨fuel, hf⟩ := h
  exact writes_cells (fuel := fuel) (by simpa [Value.cells] using hf) hlt
end Go.Proofs.Ytipgphdndleodaa
