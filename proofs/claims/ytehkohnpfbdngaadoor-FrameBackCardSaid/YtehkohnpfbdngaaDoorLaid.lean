/-
  What the laid variable gives; a frame that came in.
-/
import Derived.Test.YtehkohnpfbdngaaDoorHead
import Derived.Test.YtehkohnpfbdngaaDoorLift
import Derived.Deep.Fields
import Derived.ProofKit
import Derived.LaidMore
import Derived.OpenShut
import Derived.Stop.Joined
namespace Go.Proofs.YtehkohnpfbdngaaDoor
open Go.ChangeShapes Go.WideShapes Go.ChangeAt Go.RowKit Go.Deep

abbrev laidW : List (String × DataW Unit) := [("cashbox/frame.widths", Rows.laid_cashbox_frame_widths)]
theorem gWidths : Tryd.prog.globalNamed "cashbox/frame.widths" = some 0 := by kernel_rfl
theorem tWidths : (Tryd.prog.globals[0]?).map (·.type) = some 58 := by kernel_rfl
theorem at_one {l : List Value} {i : Nat} {v : Value} (h : (l.drop i).take 1 = [v]) : l[i]? = some v := by
  have h1 := congrArg (fun m => m[0]?) h
  simpa [List.getElem?_take, List.getElem?_drop] using h1
/-- the door's own heap meets what the row asks -/
theorem door_met (os : Os) (args : Array Value) : laidMetH Tryd.prog laidW ((World.doorLaid Tryd.prog 400 os).forCall (fun _ _ => 0) ⟨#[], args, []⟩).memory :=
  laidMetH_of_parts3 (fuel := 8) (laidMet_of_run' 8 (by kernel_rfl) (by kernel_rfl)) (by kernel_rfl) (by kernel_rfl)
theorem of_laid {W : World} (h : laidMetH Tryd.prog laidW W) : Widths W := by
  rw [MakeChecks.laidMetH_plain _ _ _ (by kernel_rfl)] at h
  obtain ⟨ps, ⟨g0, t0, cs0, f0, p0, q0, hg0, ht0, hv0, hd0, _, _⟩, _, _⟩ := h
  obtain rfl := Option.some.inj (gWidths.symm.trans hg0)
  obtain rfl := Option.some.inj (tWidths.symm.trans ht0)
  obtain ⟨xs, m1, rfl, hx1, hlen, hn5, hel⟩ := DataW.trod_array Tryd.underlying58 hd0
  have hcell := World.var?_cell hg0 hv0
  simp only [Prod.mk.injEq, Rows.laid_cashbox_frame_widths, DataW.agg.injEq] at hx1
  have hat : ∀ i n, i < 5 → (xs.map (·.1))[i]? = some (.lit (.int .i64 n)) → W.cell? ⟨0, i, none⟩ = some (.int .i64 n) := fun i n hi hn => by
    have e := hel i hi
    rw [List.getElem?_eq_getElem (by omega)] at e
    obtain ⟨k, h1, h2, _⟩ := DataW.trod_int Tryd.underlying3 e
    rw [Tryd.cells3, Nat.mul_one] at h1
    rw [List.getElem?_map, List.getElem?_eq_getElem (by omega), h2] at hn
    simp only [Option.map_some, Option.some.injEq, DataW.lit.injEq, Lit.int.injEq, true_and] at hn
    subst hn
    rw [hcell, ← Array.getElem?_toList]
    exact at_one h1
  rw [← hx1.1] at hat
  have c0 := hat 0 6 (by omega) rfl
  refine ⟨?_, c0, hat 1 3 (by omega) rfl, hat 2 1 (by omega) rfl, hat 3 1 (by omega) rfl, hat 4 4 (by omega) rfl⟩
  rcases Nat.eq_zero_or_pos W.heap.size with h | h
  · have hn : W.heap[0]? = none := Array.getElem?_eq_none (by omega)
    simp [World.cell?, hn] at c0
  · exact h

theorem six_ways_or (i : Nat) : i = 0 ∨ i = 1 ∨ i = 2 ∨ i = 3 ∨ i = 4 ∨ i = 5 ∨ 6 ≤ i := by omega
/-- a frame that came in -/
theorem open_frame {H : Type} {enc : TypeId × Value → H} {W : World} {base : Nat} {v : Value} {d : DataW H} {p : List MemPlace} (hv : Value.okWide Tryd.prog W .any base 25 v)
    (h : DataW.Trod enc Tryd.prog W 0 (fun _ => true) true 25 v d p) (hl : ∀ x ∈ p, x.block < W.heap.size) : ∃ A c f, v = .agg (frv A c f).toArray ∧ FrV W W.heap.size (frv A c f) f := by
  obtain ⟨cs, rfl, hsz⟩ := okWide_struct Tryd.underlying25 hv
  have h6 : Tryd.prog.cellsOf 25 = 6 := by kernel_rfl
  have k1 : Tryd.prog.cellsOf 22 = 1 := by kernel_rfl
  have k2 : Tryd.prog.cellsOf 23 = 1 := by kernel_rfl
  rw [h6] at hsz
  obtain ⟨fuel, hf⟩ := h
  obtain ⟨xs, n, _, hx, _, hlen, hg⟩ := DataW.trod_struct Tryd.underlying25 hf
  have hlen6 : xs.length = 6 := hlen
  simp only [Prod.mk.injEq] at hx
  have g0 : DataW.trod enc Tryd.prog W 0 (fun _ => true) true n 3 ((cs.toList.drop 0).take (Tryd.prog.cellsOf 3)) = xs[0]? := hg 0 _ rfl
  have g1 : DataW.trod enc Tryd.prog W 0 (fun _ => true) true n 3 ((cs.toList.drop 1).take (Tryd.prog.cellsOf 3)) = xs[1]? := hg 1 _ rfl
  have g2 : DataW.trod enc Tryd.prog W 0 (fun _ => true) true n 3 ((cs.toList.drop 2).take (Tryd.prog.cellsOf 3)) = xs[2]? := hg 2 _ rfl
  have g3 : DataW.trod enc Tryd.prog W 0 (fun _ => true) true n 3 ((cs.toList.drop 3).take (Tryd.prog.cellsOf 3)) = xs[3]? := hg 3 _ rfl
  have g4 : DataW.trod enc Tryd.prog W 0 (fun _ => true) true n 22 ((cs.toList.drop 4).take (Tryd.prog.cellsOf 22)) = xs[4]? := hg 4 _ rfl
  have g5 : DataW.trod enc Tryd.prog W 0 (fun _ => true) true n 23 ((cs.toList.drop 5).take (Tryd.prog.cellsOf 23)) = xs[5]? := hg 5 _ rfl
  rw [Tryd.cells3] at g0 g1 g2 g3
  rw [k1] at g4
  rw [k2] at g5
  rw [List.getElem?_eq_getElem (by omega)] at g0 g1 g2 g3 g4 g5
  obtain ⟨z0, a0, _, r0⟩ := DataW.trod_int Tryd.underlying3 g0
  obtain ⟨z1, a1, _, r1⟩ := DataW.trod_int Tryd.underlying3 g1
  obtain ⟨z2, a2, _, r2⟩ := DataW.trod_int Tryd.underlying3 g2
  obtain ⟨z3, a3, _, r3⟩ := DataW.trod_int Tryd.underlying3 g3
  obtain ⟨z4, a4, _, r4⟩ := DataW.trod_int Tryd.underlying22 g4
  have hmem : ∀ x ∈ (xs[5]'(by omega)).2, x.block < W.heap.size := fun x hxm => hl x (by rw [hx.2]; exact List.mem_flatMap.2 ⟨xs[5], List.getElem_mem _, hxm⟩)
  have hsl : ∃ A len c, (cs.toList.drop 5).take 1 = [.slice A len c] := by
    rcases DataW.trod_slice Tryd.underlying23 g5 with ⟨hcs, _⟩ | ⟨a, len, cap, _, _, _, _, hcs, _⟩
    · exact ⟨_, _, _, hcs⟩
    · exact ⟨_, _, _, hcs⟩
  obtain ⟨A, len, c, a5⟩ := hsl
  rw [a5] at g5
  obtain ⟨bs, rfl, hby, hc1, hc2, hc3⟩ := open_by (enc := enc) (a := A) (len := len) (cap := c) ⟨n, g5⟩ hmem
  have b0 := at_one a0
  have b1 := at_one a1
  have b2 := at_one a2
  have b3 := at_one a3
  have b4 := at_one a4
  have b5 := at_one a5
  have hm := u32_range r4
  have hm4 : ((z4.toNat : Nat) : Int) = z4 := by omega
  refine ⟨A, c, ⟨z0, z1, z2, z3, z4.toNat, bs⟩, ?_, A, c, rfl, hby, hc1, hc2, hc3, ⟨i64_range r0, i64_range r1, i64_range r2, i64_range r3, by show z4.toNat < 4294967296; omega, hby.1⟩⟩
  have hcs : cs.toList = frv A c ⟨z0, z1, z2, z3, z4.toNat, bs⟩ := by
    refine List.ext_getElem? fun i => ?_
    unfold frv
    rw [hm4]
    rcases six_ways_or i with rfl | rfl | rfl | rfl | rfl | rfl | hi
    · exact b0
    · exact b1
    · exact b2
    · exact b3
    · exact b4
    · exact b5
    · rw [List.getElem?_eq_none (by rw [Array.length_toList]; omega), List.getElem?_eq_none (by simp; omega)]
  rw [← hcs]
end Go.Proofs.YtehkohnpfbdngaaDoor
