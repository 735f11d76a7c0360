/-
  A slice of frames of one's own.
-/
import Derived.Test.YtehkohnpfbdngaaDoorTurn
import Derived.Test.YtehkohnpfbdngaaDoorFr
namespace Go.Proofs.YtehkohnpfbdngaaDoor
open Go.RowKit

/-- v is a slice of one's own, in a block from base on, that holds the frames l; where it is one frame, its load is in another block. -/
def FrOwn (w : World) (base : Nat) (l : List Fr) (v : Value) : Prop :=
  ∃ xs : List Value, w.ownsRow base 25 6 v l.length xs ∧ xs.length = l.length * 6 ∧ (l.length = 0 → v = .slice none 0 0) ∧
    ∀ i (h : i < l.length), ∃ A c, FrV w w.heap.size (frv A c l[i]) l[i] ∧ (l.length ≤ 1 → ∀ b, A = some b → v.ownBlock ≠ some b.block) ∧ ∀ j u, (frv A c l[i])[j]? = some u → xs[i * 6 + j]? = some u
theorem FrOwn.nil_ (w : World) (base : Nat) : FrOwn w base [] (.slice none 0 0) := ⟨[], ⟨rfl, Or.inl ⟨rfl, rfl⟩⟩, rfl, fun _ => rfl, fun i h => absurd h (by simp)⟩
theorem FrOwn.below {w w' : World} {base : Nat} {l : List Fr} {v : Value} (h : FrOwn w base l v) (hb : Below w.heap.size w w') : FrOwn w' base l v := by
  obtain ⟨xs, h1, h2, h0, h3⟩ := h
  refine ⟨xs, row_below h1 hb, h2, h0, fun i hi => ?_⟩
  obtain ⟨A, c, hv, hA, hx⟩ := h3 i hi
  exact ⟨A, c, (hv.below hb (Nat.le_refl _)).mono hb.size, hA, hx⟩
theorem FrV.only {w w' : World} {A : Option Addr} {c : Nat} {f : Fr} {r : Option Nat} (h : FrV w w.heap.size (frv A c f) f) (hA : ∀ b, A = some b → r ≠ some b.block) (hg : w.grownBy w' r) : FrV w' w'.heap.size (frv A c f) f := by
  refine ⟨A, c, rfl, ?_, h.load_le.1, h.load_le.2.1, h.load_le.2.2, h.fine⟩
  refine ⟨h.load_by.1, fun hn => ?_⟩
  obtain ⟨b, off, e, hb, hc⟩ := h.load_by.2 hn
  exact ⟨b, off, e, Nat.lt_of_lt_of_le hb hg.size, fun j hj => (World.cell?_of_block (w := w) (hg.block b hb (fun e2 => hA _ e e2.symm))).trans (hc j hj)⟩
/-- one frame more -/
theorem FrOwn.snoc {w w' : World} {base base' : Nat} {l : List Fr} {v v' : Value} {f : Fr} {A : Option Addr} {c : Nat} {xs : List Value} (hbase : base ≤ base') (hl : l.length ≤ 1) (hxl : xs.length = l.length * 6)
    (h3 : ∀ i (h : i < l.length), ∃ A c, FrV w w.heap.size (frv A c l[i]) l[i] ∧ (l.length ≤ 1 → ∀ b, A = some b → v.ownBlock ≠ some b.block) ∧ ∀ j u, (frv A c l[i])[j]? = some u → xs[i * 6 + j]? = some u)
    (hv : FrV w w.heap.size (frv A c f) f) (hA : ∀ b, A = some b → v.ownBlock ≠ some b.block) (hA2 : ∀ b, A = some b → b.block < w.heap.size)
    (ho : w'.ownsRow base' 25 6 v' (l.length + 1) (xs ++ frv A c f)) (hg : w.grownBy w' v.ownBlock) (hfresh : l.length = 0 → w.heap.size ≤ base') : FrOwn w' base (l ++ [f]) v' := by
  have h6 : (frv A c f).length = 6 := rfl
  refine ⟨xs ++ frv A c f, by rw [List.length_append]; exact own_mono ho hbase, by rw [List.length_append, List.length_append, hxl, h6, List.length_singleton]; omega, fun h => by simp at h, fun i hi => ?_⟩
  rw [List.length_append, List.length_singleton] at hi
  by_cases hlt : i < l.length
  · obtain ⟨A', c', hv', hA', hx'⟩ := h3 i hlt
    have e : (l ++ [f])[i] = l[i] := List.getElem_append_left hlt
    refine ⟨A', c', by rw [e]; exact hv'.only (hA' hl) hg, fun h1 => ?_, fun j u hu => ?_⟩
    · rw [List.length_append, List.length_singleton] at h1; omega
    · rw [e] at hu
      have hu' := hx' j u hu
      have hj : i * 6 + j < xs.length := (List.getElem?_eq_some_iff.1 hu').1
      rw [List.getElem?_append_left hj]
      exact hu'
  · obtain rfl : i = l.length := by omega
    have e : (l ++ [f])[l.length] = f := by simp
    refine ⟨A, c, by rw [e]; exact hv.only hA hg, fun h1 b hb hk => ?_, fun j u hu => ?_⟩
    · rw [List.length_append, List.length_singleton] at h1
      have h2 := (own_ge ho) _ hk
      have h4 := hfresh (by omega)
      have h5 := hA2 b hb
      omega
    · rw [e] at hu
      rw [← hxl, List.getElem?_append_right (by omega), Nat.add_sub_cancel_left]
      exact hu
theorem FrOwn.frs {w : World} {base : Nat} {l : List Fr} {v : Value} (h : FrOwn w base l v) : ∃ A c, v = .slice A l.length c ∧ Frs w w.heap.size A l := by
  obtain ⟨xs, h1, h2, h0, h3⟩ := h
  rcases h1.2 with ⟨rfl, hn⟩ | ⟨g, cap, cur, rfl, hg, hh, _⟩
  · exact ⟨none, 0, by rw [hn], fun h => by omega⟩
  · refine ⟨some ⟨g, 0, none⟩, cap, rfl, fun _ => ⟨g, 0, rfl, (h1.lt g rfl).2, fun i hi => ?_⟩⟩
    obtain ⟨A, c, hv, _, hx⟩ := h3 i hi
    refine ⟨_, hv, fun j u hu => ?_⟩
    have h5 := h1.cells (g := g) rfl (i * 6 + j) u (hx j u hu)
    rw [add_flat] at h5
    rw [Nat.add_assoc]
    exact h5
end Go.Proofs.YtehkohnpfbdngaaDoor
