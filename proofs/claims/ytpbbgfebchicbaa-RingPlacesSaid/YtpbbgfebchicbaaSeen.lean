/-
  The places that were seen: a map of the call's own whose keys are told.
-/
import Derived.Test.YtpbbgfebchicbaaWakes
import Derived.Maps.RangeWalk
import Derived.Maps.OwnSet
import Derived.Maps.OwnOps
import Derived.Maps.Views
namespace Go.Proofs.Ytpbbgfebchicbaa
open Go.RowKit Go.Maps

def held (v : Value) : Option (DataW Value × List MemPlace) := some (.held v, [])
/-- The map at b has just the places of the k sequences from t on. -/
def Seen (w : World) (b : Nat) (t : Int) (k : Nat) : Prop :=
  ∃ l : List (Lit × DataW Value), w.ownsMap Try.prog 3 held b k (.map l) ∧ l.length = k ∧ ∀ kl, Maps.has (DataW.map l) kl = true → ∃ i : Nat, i < k ∧ kl = .int .i64 (2 + (t + (i : Int)) % 24)
section
variable {w w' : World} {b k : Nat} {t : Int}
theorem Seen.made (w : World) (t : Int) : Seen (w.alloc (.map #[] 0)) w.heap.size t 0 := ⟨[], World.ownsMap_made _ _ _ _, rfl, fun kl h => by simp [Maps.has] at h⟩
theorem Seen.kept {row : Option Nat} (h : Seen w b t k) (hg : w.grownBy w' row) (hne : some b ≠ row) : Seen w' b t k := by
  obtain ⟨l, h1, h2⟩ := h
  exact ⟨l, h1.kept hg hne, h2⟩
theorem Seen.lt (h : Seen w b t k) : b < w.heap.size := by
  obtain ⟨l, h1, _⟩ := h
  exact h1.lt
theorem Seen.below {B : Nat} (h : Seen w b t k) (hb : Below B w w') (hB : b < B) : Seen w' b t k := by
  obtain ⟨l, ⟨es, clock, hh, r⟩, h2⟩ := h
  exact ⟨l, ⟨es, clock, (hb.block b hB).trans hh, r⟩, h2⟩
theorem Seen.fresh (h : Seen w b t k) (hk : k < 24) : ∃ l : List (Lit × DataW Value), (w.ownsMap Try.prog 3 held b k (.map l) ∧ l.length = k ∧ ∀ kl, Maps.has (DataW.map l) kl = true → ∃ i : Nat, i < k ∧ kl = .int .i64 (2 + (t + (i : Int)) % 24)) ∧
    Maps.has (DataW.map l) (.int .i64 (2 + (t + (k : Int)) % 24)) = false := by
  obtain ⟨l, h1, h2, h3⟩ := h
  refine ⟨l, ⟨h1, h2, h3⟩, ?_⟩
  cases e : Maps.has (DataW.map l) (.int .i64 (2 + (t + (k : Int)) % 24))
  · rfl
  · obtain ⟨i, hi, he⟩ := h3 _ e
    simp only [Lit.int.injEq, true_and] at he
    omega
/-- a new place is not there -/
theorem Seen.look (h : Seen w b t k) (hk : k < 24) : (Instr.lookup 27 (.map (some b)) (.int .i64 (2 + (t + (k : Int)) % 24)) false).run Try.prog w = .ok (.bool false) w := by
  obtain ⟨l, ⟨h1, h2, h3⟩, hf⟩ := h.fresh hk
  have hz : (zeroValue 4).run Try.prog w = .ok (.bool false) w := by kernel_rfl
  have hw : (Lit.int .i64 (2 + (t + (k : Int)) % 24)).wf = true := WalkArith.wf_i64 (by omega)
  obtain ⟨v, ps, hrun, hv⟩ := h1.lookup (Maps.int_keyed Try.underlying3) Try.underlying27 hz (zd := .held (.bool false)) (zp := []) rfl (keyOf_int_mk Try.underlying3 hw)
  rw [atKey_of_not_has hf] at hv
  simp only [held, Option.some.injEq, Prod.mk.injEq, DataW.held.injEq] at hv
  rw [hrun, hv.1]
theorem Seen.put (h : Seen w b t k) (hk : k < 24) : ∃ w', (Instr.mapUpdate 27 (.map (some b)) (.int .i64 (2 + (t + (k : Int)) % 24)) (.bool true)).run Try.prog w = .ok () w' ∧ Seen w' b t (k + 1) ∧ w.grownBy w' (some b) := by
  obtain ⟨l, ⟨h1, h2, h3⟩, hf⟩ := h.fresh hk
  have hw : (Lit.int .i64 (2 + (t + (k : Int)) % 24)).wf = true := WalkArith.wf_i64 (by omega)
  obtain ⟨w', hrun, hown, hg⟩ := h1.update (Maps.int_keyed Try.underlying3) Try.underlying27 (by unfold maxLen; omega) (keyOf_int_mk Try.underlying3 hw) (val := .bool true) (d := .held (.bool true)) (ps := []) rfl
  refine ⟨w', hrun, ⟨ChangeMaps.putKey (.int .i64 (2 + (t + (k : Int)) % 24)) (.held (.bool true)) l, hown, ?_, fun kl hkl => ?_⟩, hg⟩
  · unfold ChangeMaps.putKey
    rw [length_insert, List.filter_eq_self.2, h2]
    intro p hp
    rw [has_eq, List.any_eq_false] at hf
    have := hf p hp
    simp [ChangeMaps.notKey, this]
  · by_cases e : kl = .int .i64 (2 + (t + (k : Int)) % 24)
    · exact ⟨k, by omega, e⟩
    · have h4 : Maps.has ((DataW.map l).put (.int .i64 (2 + (t + (k : Int)) % 24)) (.held (.bool true))) kl = true := hkl
      rw [has_put_other e] at h4
      obtain ⟨i, hi, he⟩ := h3 kl h4
      exact ⟨i, by omega, he⟩
theorem Seen.entries (h : Seen w b t k) : ∃ es clock, w.heap[b]? = some (.map es clock) ∧ es.size = k := by
  obtain ⟨l, ⟨es, clock, hh, F, hs, hD⟩, h2, _⟩ := h
  refine ⟨es, clock, hh, ?_⟩
  injection hD with e
  rw [e, length_sorted] at h2
  simpa using h2
end
end Go.Proofs.Ytpbbgfebchicbaa
