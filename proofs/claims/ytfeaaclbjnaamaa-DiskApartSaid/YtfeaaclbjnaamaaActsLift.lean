/-
  From a contract to the row: an argument that is a row of acts.
-/
import Derived.Test.YtfeaaclbjnaamaaActs
import Derived.Test.YtfeaaclbjnaamaaLift
import Derived.Lib.SmallJoins
namespace Go.Proofs.Ytfeaaclbjnaamaa
open Go.ChangeShapes Go.WideShapes Go.ChangeAt Go.RowKit Go.Joins

theorem four {cs : List Value} (h : cs.length = 4) : ∃ c0 c1 c2 c3, cs = [c0, c1, c2, c3] := by
  match cs, h with
  | [c0, c1, c2, c3], _ => exact ⟨c0, c1, c2, c3, rfl⟩
theorem slice_form {H : Type} {enc : TypeId × Value → H} {W : World} {t e : TypeId} {fuel : Nat} {v : Value} {x : DataW H × List MemPlace} (ht : Try.prog.underlying t = some (.slice e))
    (h : DataW.trod enc Try.prog W 0 (fun _ => true) true fuel t [v] = some x) : ∃ a len cap, v = .slice a len cap ∧ len ≤ cap ∧ cap ≤ maxLen := by
  rcases Deep.open_slice ht h with ⟨hcs, _⟩ | ⟨a', len', cap', m, n, D, Pl, hcs, _, hl, hm, _⟩
  · simp at hcs
    exact ⟨none, 0, 0, hcs, Nat.le_refl _, by unfold maxLen; omega⟩
  · simp at hcs
    exact ⟨_, _, _, hcs, hl, hm⟩

theorem open_acts {H : Type} {enc : TypeId × Value → H} {W : World} {a : Option Addr} {len cap : Nat} {d : DataW H} {p : List MemPlace}
    (h : DataW.Trod enc Try.prog W 0 (fun _ => true) true 22 (.slice a len cap) d p) (hlt : ∀ x ∈ p, x.block < W.heap.size) :
    ∃ l : List ActG, l.length = len ∧ ActsAt W W.heap.size a l ∧ len ≤ maxLen := by
  obtain ⟨fuel, hf⟩ := h
  rcases Deep.open_slice Try.underlying22 hf with ⟨hcs, hx⟩ | ⟨a', len', cap', m, n, D, Pl, hcs, _, hl, hm, hmm, hx, hel⟩
  · simp [Value.cells] at hcs
    obtain ⟨rfl, rfl, rfl⟩ := hcs
    exact ⟨[], rfl, ⟨fun h => absurd h (by simp), fun x hx => (List.not_mem_nil hx).elim⟩, by unfold maxLen; omega⟩
  · simp [Value.cells] at hcs
    obtain ⟨rfl, rfl, rfl⟩ := hcs
    simp only [Prod.mk.injEq] at hx
    obtain ⟨rfl, rfl⟩ := hx
    simp only [if_true] at hmm
    subst hmm
    have hc4 : Try.prog.cellsOf 32 = 4 := by kernel_rfl
    rw [hc4] at hel hlt
    have each : ∀ i, i < len → ∃ x : ActG, (W.cell? (a'.add (i * 4)) = some (.int .i64 x.op) ∧ W.cell? (a'.add (i * 4 + 1)) = some (.int .i64 x.at_) ∧ W.cell? (a'.add (i * 4 + 2)) = some x.bytes ∧ W.cell? (a'.add (i * 4 + 3)) = some (.slice x.PA x.pl x.pc)) ∧
        (By W W.heap.size x.A x.bs ∧ x.bs.length ≤ x.c ∧ x.c ≤ maxLen ∧ (x.A = none → x.c = 0) ∧ x.pl ≤ maxLen ∧ (-9223372036854775808 ≤ x.at_ ∧ x.at_ ≤ 9223372036854775807)) := by
      intro i hi
      obtain ⟨cs', h1, h2⟩ := hel i (by omega)
      obtain ⟨_, hlen, hcell⟩ := World.cells?_some h1
      obtain ⟨c0, c1, c2, c3, rfl⟩ := four hlen
      obtain ⟨y0, y1, y2, y3, n', hxy, _, g0, g1, g2, g3⟩ := trod_struct4 Try.underlying32 h2
      have e3 : Try.prog.cellsOf 3 = 1 := by kernel_rfl
      have e29 : Try.prog.cellsOf 29 = 1 := by kernel_rfl
      have e30 : Try.prog.cellsOf 30 = 1 := by kernel_rfl
      replace g0 : DataW.trod enc Try.prog W 0 (fun _ => true) true n' 3 [c0] = some y0 := by simpa [e3] using g0
      replace g1 : DataW.trod enc Try.prog W 0 (fun _ => true) true n' 3 [c1] = some y1 := by simpa [e3] using g1
      replace g2 : DataW.trod enc Try.prog W 0 (fun _ => true) true n' 29 [c2] = some y2 := by simpa [e29] using g2
      replace g3 : DataW.trod enc Try.prog W 0 (fun _ => true) true n' 30 [c3] = some y3 := by simpa [e30] using g3
      obtain ⟨op, hop, _, _⟩ := DataW.trod_int Try.underlying3 g0
      obtain ⟨at_, hat, _, wat⟩ := DataW.trod_int Try.underlying3 g1
      obtain ⟨A, bl, bc, rfl, _, _⟩ := slice_form Try.underlying29 g2
      obtain ⟨PA, pl, pc, rfl, hp1, hp2⟩ := slice_form Try.underlying30 g3
      obtain ⟨bs, hbl, hby, hb1, hb2, hb3⟩ := open_by (d := y2.1) (p := y2.2) ⟨n', by simpa [Value.cells] using g2⟩ (fun x hx => hlt x (List.mem_append_right _ (List.mem_flatMap.2 ⟨i, List.mem_range.2 (by omega), by
        have e : Pl i = (D i, Pl i).2 := rfl
        rw [e, hxy]
        exact List.mem_append_right _ (List.mem_append_right _ (List.mem_append_left _ hx))⟩)))
      obtain rfl : c0 = .int .i64 op := by simpa using hop
      obtain rfl : c1 = .int .i64 at_ := by simpa using hat
      refine ⟨⟨op, at_, A, bs, bc, PA, pl, pc⟩, ⟨?_, ?_, ?_, ?_⟩, hby, (show bs.length ≤ bc by omega), hb2, hb3, (show pl ≤ maxLen by omega), i64_range wat⟩
      · have := hcell 0 (by simp); rw [Deep.add_add] at this; simpa using this
      · have := hcell 1 (by simp); rw [Deep.add_add] at this; simpa using this
      · have := hcell 2 (by simp); rw [Deep.add_add] at this; simpa [ActG.bytes, hbl] using this
      · have := hcell 3 (by simp); rw [Deep.add_add] at this; simpa using this
    haveI : Inhabited ActG := ⟨noAct⟩
    obtain ⟨f, hfz⟩ := Deep.choose_lt each
    have hg : ∀ j, j < len → ((List.range len).map f).getD j noAct = f j := fun j hj => by simp [List.getD, hj]
    refine ⟨(List.range len).map f, by simp, ⟨fun hn => ?_, fun x hx => ?_⟩, by omega⟩
    · have hn' : 0 < len := by simpa using hn
      obtain ⟨b, off, spot⟩ := a'
      have hspot : spot = none := by simpa [Addr.add] using World.cell?_spot (hfz 0 hn').1.1
      subst hspot
      refine ⟨b, off, rfl, hlt (.cell b off) (List.mem_append_left _ (MemPlace.mem_row.2 ⟨0, by omega, by simp⟩)), fun j hj => ?_⟩
      have hj' : j < len := by simpa using hj
      obtain ⟨⟨q0, q1, q2, q3⟩, _⟩ := hfz j hj'
      rw [hg j hj']
      rw [add_flat] at q0 q1 q2 q3
      exact ⟨q0, q1, q2, q3⟩
    · obtain ⟨j, hj, rfl⟩ := List.mem_map.1 hx
      exact (hfz j (List.mem_range.1 hj)).2
end Go.Proofs.Ytfeaaclbjnaamaa
