/-
  From a contract to the row: numbers, names, changes, writes that came in.
-/
import Derived.Test.YtipgphdndleodaaRecv
import Derived.Test.YtipgphdndleodaaLift
namespace Go.Proofs.Ytipgphdndleodaa
open Go.ChangeShapes Go.WideShapes Go.ChangeAt Go.RowKit
set_option maxRecDepth 100000

theorem at_one {l : List Value} {i : Nat} {v : Value} (h : (l.drop i).take 1 = [v]) : l[i]? = some v := by
  have h1 := congrArg (fun m => m[0]?) h
  simpa [List.getElem?_take, List.getElem?_drop] using h1
theorem i8_range {n : Int} (h : (Lit.int .i8 n).wf = true) : -128 ≤ n ∧ n ≤ 127 := by
  have h1 : IntKind.i8.min = -128 := rfl
  have h2 : IntKind.i8.max = 127 := rfl
  simp only [Lit.wf, Bool.and_eq_true, decide_eq_true_eq] at h
  omega
section
variable {H : Type} {enc : TypeId × Value → H} {W : World} {fuel : Nat} {cs : List Value} {x : DataW H × List MemPlace}
theorem trod_bool_ {P : Program} {t : TypeId} (ht : P.underlying t = some .bool) (h : DataW.trod enc P W 0 (fun _ => true) true fuel t cs = some x) : ∃ b, cs = [.bool b] := by
  cases fuel with
  | zero => simp [DataW.trod] at h
  | succ m =>
    unfold DataW.trod at h
    rw [ht] at h
    split at h <;> simp_all
theorem i64_of {n : Int} (h : (Lit.int .i64 n).wf = true) : I64 n := i64_range h
theorem value_cells (hlen : cs.length = 8) (h : DataW.trod enc Try.prog W 0 (fun _ => true) true fuel 23 cs = some x) : ∃ vs : List Nat, cs = vals vs ∧ vs.length = 8 ∧ ∀ y ∈ vs, y < 256 := by
  obtain ⟨xs, m, _, hx, _, hl, hg⟩ := DataW.trod_array Try.underlying23 h
  have each : ∀ j, j < 8 → ∃ z : Int, cs[j]? = some (.int .u8 z) ∧ (Lit.int .u8 z).wf = true := by
    intro j hj
    have hx1 := hg j hj
    rw [Try.cells5, Nat.mul_one, List.getElem?_eq_getElem (by omega)] at hx1
    obtain ⟨z, hz, _, hw⟩ := DataW.trod_int Try.underlying5 hx1
    exact ⟨z, at_one hz, hw⟩
  obtain ⟨f, hf⟩ := Deep.choose_lt each
  refine ⟨(List.range 8).map fun j => (f j).toNat, ?_, by simp, fun y hy => ?_⟩
  · refine List.ext_getElem? fun j => ?_
    unfold vals
    rcases Nat.lt_or_ge j 8 with hj | hj
    · obtain ⟨h1, h2⟩ := hf j hj
      have := u8_range h2
      rw [h1]
      simp [hj, Int.toNat_of_nonneg this.1]
    · rw [List.getElem?_eq_none (by omega), List.getElem?_eq_none (by simp; omega)]
  · obtain ⟨j, hj, rfl⟩ := List.mem_map.1 hy
    have := u8_range (hf j (List.mem_range.1 hj)).2
    omega
theorem write_cells (hlen : cs.length = 9) (h : DataW.trod enc Try.prog W 0 (fun _ => true) true fuel 27 cs = some x) : ∃ y : Int × List Nat, cs = wrv y ∧ I64 y.1 ∧ y.2.length = 8 ∧ ∀ z ∈ y.2, z < 256 := by
  obtain ⟨xs, m, _, hx, _, hl, hg⟩ := DataW.trod_struct Try.underlying27 h
  have hl2 : xs.length = 2 := hl
  have hc8 : Try.prog.cellsOf 23 = 8 := by kernel_rfl
  have g0 : DataW.trod enc Try.prog W 0 (fun _ => true) true m 3 ((cs.drop 0).take (Try.prog.cellsOf 3)) = xs[0]? := hg 0 _ rfl
  have g1 : DataW.trod enc Try.prog W 0 (fun _ => true) true m 23 ((cs.drop 1).take (Try.prog.cellsOf 23)) = xs[1]? := hg 1 _ rfl
  rw [Try.cells3, List.getElem?_eq_getElem (by omega)] at g0
  rw [hc8, List.getElem?_eq_getElem (by omega)] at g1
  obtain ⟨z0, a0, _, r0⟩ := DataW.trod_int Try.underlying3 g0
  obtain ⟨vs, hv, hv8, hvb⟩ := value_cells (by simp; omega) g1
  have b0 := at_one a0
  refine ⟨(z0, vs), ?_, i64_of r0, hv8, hvb⟩
  match cs, hlen with
  | u0 :: r, hlen =>
    simp only [List.getElem?_cons_zero, Option.some.injEq] at b0
    rw [b0]
    simp only [List.drop_succ_cons, List.drop_zero] at hv
    rw [List.take_of_length_le (by simp at hlen; omega)] at hv
    rw [hv]; rfl
theorem writes_cells {a : Option Addr} {len cap : Nat} {d : DataW H} {p : List MemPlace} (h : DataW.trod enc Try.prog W 0 (fun _ => true) true fuel 25 [.slice a len cap] = some (d, p)) (hlt : ∀ x ∈ p, x.block < W.heap.size) :
    ∃ l : List (Int × List Nat), l.length = len ∧ WrsV W (fun _ => True) a cap l ∧ WrFine l := by
  rcases Deep.open_slice Try.underlying25 h with ⟨hcs, hx⟩ | ⟨a', len', cap', m, n, D, Pl, hcs, _, hl, hm, hmm, hx, hel⟩
  · simp at hcs
    obtain ⟨rfl, rfl, rfl⟩ := hcs
    exact ⟨[], rfl, WrsV.nil_, fun x hx => (List.not_mem_nil hx).elim⟩
  · simp at hcs
    obtain ⟨rfl, rfl, rfl⟩ := hcs
    simp only [Prod.mk.injEq] at hx
    obtain ⟨rfl, rfl⟩ := hx
    simp only [if_true] at hmm
    subst hmm
    have hc9 : Try.prog.cellsOf 27 = 9 := by kernel_rfl
    rw [hc9] at hel hlt
    have each : ∀ i, i < len → ∃ y : Int × List Nat, (∀ j u, (wrv y)[j]? = some u → W.cell? (a'.add (i * 9 + j)) = some u) ∧ I64 y.1 ∧ y.2.length = 8 ∧ ∀ z ∈ y.2, z < 256 := by
      intro i hi
      obtain ⟨cs', h1, h2⟩ := hel i (by omega)
      obtain ⟨_, hlen, hcell⟩ := World.cells?_some h1
      obtain ⟨y, rfl, hy⟩ := write_cells hlen h2
      refine ⟨y, fun j u hu => ?_, hy⟩
      have hj := (List.getElem?_eq_some_iff.1 hu).1
      have := hcell j (by rw [hlen] at hj; exact hj)
      rw [Deep.add_add] at this
      rw [this]
      exact hu
    obtain ⟨f, hfz⟩ := Deep.choose_lt each
    refine ⟨(List.range len).map f, by simp, ⟨fun hn => ?_, by simpa using hl, hm, fun e => by cases e⟩, fun x hx => ?_⟩
    · have hn' : 0 < len := by simpa using hn
      obtain ⟨b, off, spot⟩ := a'
      have hspot : spot = none := by
        have h0 := (hfz 0 hn').1 0 (.int .i64 (f 0).1) rfl
        simpa [Addr.add] using World.cell?_spot h0
      subst hspot
      refine ⟨b, off, rfl, ⟨trivial, hlt (.cell b off) (List.mem_append_left _ (MemPlace.mem_row.2 ⟨0, by omega, by simp⟩))⟩, fun i hi j u hu => ?_⟩
      have hi' : i < len := by simpa using hi
      have := (hfz i hi').1 j u (by simpa using hu)
      rw [add_flat] at this
      rw [Nat.add_assoc]
      exact this
    · obtain ⟨j, hj, rfl⟩ := List.mem_map.1 hx
      exact (hfz j (List.mem_range.1 hj)).2
end
end Go.Proofs.Ytipgphdndleodaa
