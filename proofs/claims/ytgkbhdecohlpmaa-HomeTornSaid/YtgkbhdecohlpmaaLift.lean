/-
  From a contract to the row: how the arguments of these laws open, and what the row asks at the end.
-/
import Derived.Test.YtgkbhdecohlpmaaBase
import Derived.ProofKit
import Derived.OpenShut
import Derived.Deep.Slices
import Derived.Carry
namespace Go.Proofs.Ytgkbhdecohlpmaa
set_option maxRecDepth 100000
open Go.ChangeShapes Go.WideShapes Go.ChangeAt Go.RowKit

theorem Try.own : ownKnob Try.prog.godebug = none := by kernel_rfl
theorem Try.laidOut : laidOutB Try.prog = true := by kernel_rfl
theorem Try.cells5 : Try.prog.cellsOf 5 = 1 := by kernel_rfl
theorem Try.cells3 : Try.prog.cellsOf 3 = 1 := by kernel_rfl

theorem u8_range {n : Int} (h : (Lit.int .u8 n).wf = true) : 0 ≤ n ∧ n ≤ 255 := by
  have h1 : IntKind.u8.min = 0 := rfl
  have h2 : IntKind.u8.max = 255 := rfl
  simp only [Lit.wf, Bool.and_eq_true, decide_eq_true_eq] at h
  omega
theorem u32_range {n : Int} (h : (Lit.int .u32 n).wf = true) : 0 ≤ n ∧ n ≤ 4294967295 := by
  have h1 : IntKind.u32.min = 0 := rfl
  have h2 : IntKind.u32.max = 4294967295 := rfl
  simp only [Lit.wf, Bool.and_eq_true, decide_eq_true_eq] at h
  omega
theorem i64_range {n : Int} (h : (Lit.int .i64 n).wf = true) : -9223372036854775808 ≤ n ∧ n ≤ 9223372036854775807 := by
  have h1 : IntKind.i64.min = -9223372036854775808 := rfl
  have h2 : IntKind.i64.max = 9223372036854775807 := rfl
  simp only [Lit.wf, Bool.and_eq_true, decide_eq_true_eq] at h
  omega

/-- An argument that is a slice of integers: its cells. -/
theorem open_row {H : Type} {enc : TypeId × Value → H} {W : World} {t e : TypeId} {k : IntKind} {a : Option Addr} {len cap : Nat} {d : DataW H} {p : List MemPlace}
    (ht : Try.prog.underlying t = some (.slice e)) (he : Try.prog.underlying e = some (.int k)) (hc : Try.prog.cellsOf e = 1)
    (h : DataW.Trod enc Try.prog W 0 (fun _ => true) true t (.slice a len cap) d p) (hlt : ∀ x ∈ p, x.block < W.heap.size) :
    len ≤ cap ∧ cap ≤ maxLen ∧ (a = none → cap = 0) ∧ ∃ zs : List Int, zs.length = len ∧ (∀ n ∈ zs, (Lit.int k n).wf = true) ∧
      (0 < len → ∃ b off, a = some ⟨b, off, none⟩ ∧ b < W.heap.size ∧ ∀ j, j < len → W.cell? ⟨b, off + j, none⟩ = some (.int k (zs.getD j 0))) := by
  obtain ⟨fuel, hf⟩ := h
  rcases open_ints ht he hc hf with ⟨hcs, hx⟩ | ⟨a', len', cap', zs, hcs, _, hl, hm, hz, hx, hcell, hwz⟩
  · simp [Value.cells] at hcs
    obtain ⟨rfl, rfl, rfl⟩ := hcs
    exact ⟨Nat.le_refl _, (by unfold maxLen; omega), (fun _ => rfl), [], rfl, (fun _ h => (List.not_mem_nil h).elim), fun h => absurd h (by omega)⟩
  · simp [Value.cells] at hcs
    obtain ⟨rfl, rfl, rfl⟩ := hcs
    simp only [Prod.mk.injEq] at hx
    obtain ⟨rfl, rfl⟩ := hx
    simp only [if_true] at hz
    refine ⟨hl, hm, (fun e => by cases e), zs.take len, (by rw [List.length_take]; omega), (fun n hn => hwz n (List.mem_of_mem_take hn)), fun hn => ?_⟩
    obtain ⟨b, off, spot⟩ := a'
    have hspot : spot = none := by simpa [Addr.add] using World.cell?_spot (hcell 0 (by omega))
    subst hspot
    refine ⟨b, off, rfl, hlt (.cell b off) (MemPlace.mem_row.2 ⟨0, by omega, by simp⟩), fun j hj => ?_⟩
    rw [← add_flat, hcell j (by omega)]
    have e : (zs.take len).getD j 0 = zs.getD j 0 := by
      have h1 : j < zs.length := by omega
      simp [List.getD, hj]
    rw [e]

/-- An argument that is a slice of bytes. -/
theorem open_by {H : Type} {enc : TypeId × Value → H} {W : World} {a : Option Addr} {len cap : Nat} {d : DataW H} {p : List MemPlace}
    (h : DataW.Trod enc Try.prog W 0 (fun _ => true) true 44 (.slice a len cap) d p) (hlt : ∀ x ∈ p, x.block < W.heap.size) :
    ∃ bs : List Nat, bs.length = len ∧ By W W.heap.size a bs ∧ len ≤ cap ∧ cap ≤ maxLen ∧ (a = none → cap = 0) := by
  obtain ⟨h1, h2, h3, zs, hz, hw, hc⟩ := open_row Try.underlying44 Try.underlying5 Try.cells5 h hlt
  refine ⟨zs.map Int.toNat, by rw [List.length_map, hz], ⟨fun x hx => ?_, fun hn => ?_⟩, h1, h2, h3⟩
  · obtain ⟨n, hn, rfl⟩ := List.mem_map.1 hx
    have := u8_range (hw n hn)
    omega
  · rw [List.length_map, hz] at hn
    obtain ⟨b, off, e, hb, hcell⟩ := hc hn
    refine ⟨b, off, e, hb, fun j hj => ?_⟩
    rw [List.length_map, hz] at hj
    have hj' : j < zs.length := by omega
    rw [hcell j hj]
    have e1 : zs.getD j 0 = zs[j] := by simp [List.getD, hj']
    have e2 : (zs.map Int.toNat).getD j 0 = zs[j].toNat := by simp [List.getD, hj']
    have := u8_range (hw _ (List.getElem_mem hj'))
    rw [e1, e2, Int.toNat_of_nonneg this.1]

/-- An argument that is a slice of arrays of integers: its cells, one array behind the other. -/
theorem open_arrays {H : Type} {enc : TypeId × Value → H} {W : World} {t e e' : TypeId} {k : IntKind} {q : Nat} {a : Option Addr} {len cap : Nat} {d : DataW H} {p : List MemPlace}
    (ht : Try.prog.underlying t = some (.slice e)) (he : Try.prog.underlying e = some (.array q e')) (he' : Try.prog.underlying e' = some (.int k)) (hc : Try.prog.cellsOf e = q) (hc' : Try.prog.cellsOf e' = 1) (hq : 0 < q)
    (h : DataW.Trod enc Try.prog W 0 (fun _ => true) true t (.slice a len cap) d p) (hlt : ∀ x ∈ p, x.block < W.heap.size) :
    len ≤ cap ∧ cap ≤ maxLen ∧ (a = none → cap = 0) ∧ ∃ zs : List Int, zs.length = len * q ∧ (∀ n ∈ zs, (Lit.int k n).wf = true) ∧
      (0 < len → ∃ b off, a = some ⟨b, off, none⟩ ∧ b < W.heap.size ∧ ∀ j, j < len * q → W.cell? ⟨b, off + j, none⟩ = some (.int k (zs.getD j 0))) := by
  obtain ⟨fuel, hf⟩ := h
  rcases Deep.open_slice ht hf with ⟨hcs, hx⟩ | ⟨a', len', cap', m, n, D, Pl, hcs, _, hl, hm, hmm, hx, hel⟩
  · simp [Value.cells] at hcs
    obtain ⟨rfl, rfl, rfl⟩ := hcs
    exact ⟨Nat.le_refl _, (by unfold maxLen; omega), (fun _ => rfl), [], by simp, (fun _ h => (List.not_mem_nil h).elim), fun h => absurd h (by omega)⟩
  · simp [Value.cells] at hcs
    obtain ⟨rfl, rfl, rfl⟩ := hcs
    simp only [Prod.mk.injEq] at hx
    obtain ⟨rfl, rfl⟩ := hx
    simp only [if_true] at hmm
    subst hmm
    rw [hc] at hel hlt
    have each : ∀ j, j < len * q → ∃ z : Int, W.cell? (a'.add j) = some (.int k z) ∧ (Lit.int k z).wf = true := by
      intro j hj
      have hi : j / q < len := Nat.div_lt_of_lt_mul (by rwa [Nat.mul_comm])
      have hr : j % q < q := Nat.mod_lt _ hq
      obtain ⟨cs', h1, h2⟩ := hel (j / q) (by omega)
      obtain ⟨_, hlen, hcell⟩ := World.cells?_some h1
      obtain ⟨xs, f, _, _, _, hxl, hxs⟩ := DataW.trod_array he h2
      have hx1 := hxs (j % q) hr
      rw [hc', Nat.mul_one, List.getElem?_eq_getElem (by omega)] at hx1
      obtain ⟨z, hz, _, hw⟩ := DataW.trod_int he' hx1
      refine ⟨z, ?_, hw⟩
      have h3 := hcell (j % q) hr
      rw [Deep.add_add, Nat.mul_comm, Nat.div_add_mod] at h3
      rw [h3]
      have h4 := congrArg (·[0]?) hz
      simpa using h4
    obtain ⟨f, hfz⟩ := Deep.choose_lt each
    have hg : ∀ j, j < len * q → ((List.range (len * q)).map f).getD j 0 = f j := fun j hj => by simp [List.getD, hj]
    refine ⟨hl, hm, (fun e => by cases e), (List.range (len * q)).map f, by simp, fun z hz => ?_, fun hn => ?_⟩
    · obtain ⟨j, hj, rfl⟩ := List.mem_map.1 hz
      exact (hfz j (List.mem_range.1 hj)).2
    · have hn' : 0 < len * q := Nat.mul_pos hn hq
      obtain ⟨b, off, spot⟩ := a'
      have hspot : spot = none := by simpa [Addr.add] using World.cell?_spot (hfz 0 hn').1
      subst hspot
      have hcap := Nat.mul_pos (Nat.lt_of_lt_of_le hn hl) hq
      refine ⟨b, off, rfl, hlt (.cell b off) (List.mem_append_left _ (MemPlace.mem_row.2 ⟨0, hcap, by simp⟩)), fun j hj => ?_⟩
      rw [← add_flat, (hfz j hj).1, hg j hj]
/-- .. of bytes. -/
theorem by_of_ints {W : World} {a : Option Addr} {n : Nat} {zs : List Int} (hz : zs.length = n) (hw : ∀ z ∈ zs, (Lit.int .u8 z).wf = true)
    (hc : 0 < n → ∃ b off, a = some ⟨b, off, none⟩ ∧ b < W.heap.size ∧ ∀ j, j < n → W.cell? ⟨b, off + j, none⟩ = some (.int .u8 (zs.getD j 0))) :
    ∃ bs : List Nat, bs.length = n ∧ By W W.heap.size a bs := by
  refine ⟨zs.map Int.toNat, by rw [List.length_map, hz], ⟨fun x hx => ?_, fun hn => ?_⟩⟩
  · obtain ⟨z, hz', rfl⟩ := List.mem_map.1 hx
    have := u8_range (hw z hz')
    omega
  · rw [List.length_map, hz] at hn
    obtain ⟨b, off, e, hb, hcell⟩ := hc hn
    refine ⟨b, off, e, hb, fun j hj => ?_⟩
    rw [List.length_map, hz] at hj
    have hj' : j < zs.length := by omega
    rw [hcell j hj]
    have e1 : zs.getD j 0 = zs[j] := by simp [List.getD, hj']
    have e2 : (zs.map Int.toNat).getD j 0 = zs[j].toNat := by simp [List.getD, hj']
    have := u8_range (hw _ (List.getElem_mem hj'))
    rw [e1, e2, Int.toNat_of_nonneg this.1]
end Go.Proofs.Ytgkbhdecohlpmaa
