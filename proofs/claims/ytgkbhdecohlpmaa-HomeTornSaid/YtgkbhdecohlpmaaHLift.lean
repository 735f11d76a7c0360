/-
  From a contract to the row: blocks, a superblock that came in.
-/
import Derived.Test.YtgkbhdecohlpmaaHEq
import Derived.Test.YtgkbhdecohlpmaaLift
namespace Go.Proofs.Ytgkbhdecohlpmaa
set_option maxRecDepth 100000
open Go.ChangeShapes Go.WideShapes Go.ChangeAt Go.RowKit
set_option maxRecDepth 100000

theorem cut8_flat : ∀ (n : Nat) (bs : List Nat), bs.length = 8 * n → (cut8 bs n).flatten = bs ∧ (cut8 bs n).length = n ∧ ∀ v ∈ cut8 bs n, v.length = 8 := by
  intro n
  induction n with
  | zero => intro bs h; simp only [Nat.mul_zero] at h; rw [List.eq_nil_of_length_eq_zero h]; exact ⟨rfl, rfl, fun _ hv => by cases hv⟩
  | succ n ih =>
    intro bs h
    obtain ⟨h1, h2, h3⟩ := ih (bs.drop 8) (by rw [List.length_drop]; omega)
    refine ⟨?_, ?_, fun v hv => ?_⟩
    · rw [cut8, List.flatten_cons, h1, List.take_append_drop]
    · rw [cut8, List.length_cons, h2]
    · rw [cut8] at hv
      rcases List.mem_cons.1 hv with rfl | hv
      · rw [List.length_take]; omega
      · exact h3 v hv
/-- blocks that came in -/
theorem open_vals {H : Type} {enc : TypeId × Value → H} {W : World} {a : Option Addr} {len cap : Nat} {d : DataW H} {p : List MemPlace}
    (h : DataW.Trod enc Try.prog W 0 (fun _ => true) true 22 (.slice a len cap) d p) (hlt : ∀ x ∈ p, x.block < W.heap.size) :
    ∃ l : List (List Nat), l.length = len ∧ VFine l ∧ By W W.heap.size a l.flatten ∧ len ≤ cap ∧ cap ≤ maxLen := by
  obtain ⟨h1, h2, _, zs, hz, hw, hcell⟩ := open_arrays Try.underlying22 Try.underlying49 Try.underlying5 (by kernel_rfl) Try.cells5 (by decide) h hlt
  obtain ⟨ls, hls, hly⟩ := by_of_ints hz hw (fun h => hcell (by omega))
  obtain ⟨c1, c2, c3⟩ := cut8_flat len ls (by omega)
  refine ⟨cut8 ls len, c2, fun v hv => ⟨c3 v hv, fun z hz => ?_⟩, by rw [c1]; exact hly, h1, h2⟩
  refine hly.1 z ?_
  rw [← c1]
  exact List.mem_flatten.2 ⟨v, hv, hz⟩
theorem at_oneH {l : List Value} {i : Nat} {v : Value} (h : (l.drop i).take 1 = [v]) : l[i]? = some v := by
  have h1 := congrArg (fun m => m[0]?) h
  simpa [List.getElem?_take, List.getElem?_drop] using h1
theorem ints_cells {H : Type} {enc : TypeId × Value → H} {W : World} {fuel : Nat} {cs : List Value} {x : DataW H × List MemPlace} (hlen : cs.length = 8) (h : DataW.trod enc Try.prog W 0 (fun _ => true) true fuel 23 cs = some x) : ∃ zs : List Int, cs = ivals zs ∧ zs.length = 8 ∧ ∀ z ∈ zs, -9223372036854775808 ≤ z ∧ z ≤ 9223372036854775807 := by
  obtain ⟨xs, m, _, hx, _, hl, hg⟩ := DataW.trod_array Try.underlying23 h
  have each : ∀ j, j < 8 → ∃ z : Int, cs[j]? = some (.int .i64 z) ∧ (Lit.int .i64 z).wf = true := by
    intro j hj
    have hx1 := hg j hj
    rw [Try.cells3, Nat.mul_one, List.getElem?_eq_getElem (by omega)] at hx1
    obtain ⟨z, hz, _, hw⟩ := DataW.trod_int Try.underlying3 hx1
    exact ⟨z, at_oneH hz, hw⟩
  obtain ⟨f, hf⟩ := Deep.choose_lt each
  refine ⟨(List.range 8).map f, ?_, by simp, fun y hy => ?_⟩
  · refine List.ext_getElem? fun j => ?_
    unfold ivals
    rcases Nat.lt_or_ge j 8 with hj | hj
    · rw [(hf j hj).1]
      simp [hj]
    · rw [List.getElem?_eq_none (by omega), List.getElem?_eq_none (by simp; omega)]
  · obtain ⟨j, hj, rfl⟩ := List.mem_map.1 hy
    exact i64_range (hf j (List.mem_range.1 hj)).2
/-- a superblock that came in -/
theorem open_sup {H : Type} {enc : TypeId × Value → H} {W : World} {base : Nat} {v : Value} {d : DataW H} {p : List MemPlace} (hv' : Value.okWide Try.prog W .any base 25 v)
    (h : DataW.Trod enc Try.prog W 0 (fun _ => true) true 25 v d p) : ∃ s : Sup, v = .agg s.cells ∧ s.Fine := by
  obtain ⟨cs, rfl, hsz⟩ := okWide_struct Try.underlying25 hv'
  have h13 : Try.prog.cellsOf 25 = 13 := by kernel_rfl
  have h8 : Try.prog.cellsOf 23 = 8 := by kernel_rfl
  rw [h13] at hsz
  have hsl : cs.toList.length = 13 := by simpa using hsz
  obtain ⟨fuel, hf⟩ := h
  obtain ⟨xs, m, _, hx, _, hl, hg⟩ := DataW.trod_struct Try.underlying25 hf
  have hl6 : xs.length = 6 := hl
  have g0 : DataW.trod enc Try.prog W 0 (fun _ => true) true m 3 ((cs.toList.drop 0).take (Try.prog.cellsOf 3)) = xs[0]? := hg 0 _ rfl
  have g1 : DataW.trod enc Try.prog W 0 (fun _ => true) true m 3 ((cs.toList.drop 1).take (Try.prog.cellsOf 3)) = xs[1]? := hg 1 _ rfl
  have g2 : DataW.trod enc Try.prog W 0 (fun _ => true) true m 3 ((cs.toList.drop 2).take (Try.prog.cellsOf 3)) = xs[2]? := hg 2 _ rfl
  have g3 : DataW.trod enc Try.prog W 0 (fun _ => true) true m 3 ((cs.toList.drop 3).take (Try.prog.cellsOf 3)) = xs[3]? := hg 3 _ rfl
  have g4 : DataW.trod enc Try.prog W 0 (fun _ => true) true m 3 ((cs.toList.drop 4).take (Try.prog.cellsOf 3)) = xs[4]? := hg 4 _ rfl
  have g5 : DataW.trod enc Try.prog W 0 (fun _ => true) true m 23 ((cs.toList.drop 5).take (Try.prog.cellsOf 23)) = xs[5]? := hg 5 _ rfl
  rw [h8, List.getElem?_eq_getElem (by omega)] at g5
  rw [Try.cells3, List.getElem?_eq_getElem (by omega)] at g0 g1 g2 g3 g4
  obtain ⟨z0, a0, _, r0⟩ := DataW.trod_int Try.underlying3 g0
  obtain ⟨z1, a1, _, r1⟩ := DataW.trod_int Try.underlying3 g1
  obtain ⟨z2, a2, _, r2⟩ := DataW.trod_int Try.underlying3 g2
  obtain ⟨z3, a3, _, r3⟩ := DataW.trod_int Try.underlying3 g3
  obtain ⟨z4, a4, _, r4⟩ := DataW.trod_int Try.underlying3 g4
  obtain ⟨zs, e5, hz5, r5⟩ := ints_cells (by rw [List.length_take, List.length_drop]; omega) g5
  have b0 := at_oneH a0
  have b1 := at_oneH a1
  have b2 := at_oneH a2
  have b3 := at_oneH a3
  have b4 := at_oneH a4
  refine ⟨⟨z0, z1, z2, z3, z4, zs⟩, ?_, hz5, ?_⟩
  · congr 1
    rw [← Array.toList_inj]
    unfold Sup.cells Sup.ints
    simp only [List.map_cons]
    refine List.ext_getElem? fun j => ?_
    rcases Nat.lt_or_ge j 5 with hj | hj
    · match j, hj with
      | 0, _ => exact b0
      | 1, _ => exact b1
      | 2, _ => exact b2
      | 3, _ => exact b3
      | 4, _ => exact b4
    · obtain ⟨k, rfl⟩ := Nat.exists_eq_add_of_le hj
      have h1 := congrArg (fun l => l[k]?) e5
      simp only [List.getElem?_take, List.getElem?_drop] at h1
      rcases Nat.lt_or_ge k 8 with hk | hk
      · rw [if_pos hk] at h1
        rw [h1, show 5 + k = k + 1 + 1 + 1 + 1 + 1 by omega]
        simp only [List.getElem?_cons_succ]; rfl
      · rw [List.getElem?_eq_none (by omega), List.getElem?_eq_none (by simp; omega)]
  · intro z hz
    unfold Sup.ints at hz
    simp only [List.mem_cons] at hz
    rcases hz with rfl | rfl | rfl | rfl | rfl | hz
    · exact i64_range r0
    · exact i64_range r1
    · exact i64_range r2
    · exact i64_range r3
    · exact i64_range r4
    · exact r5 z hz
end Go.Proofs.Ytgkbhdecohlpmaa
