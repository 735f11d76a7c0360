/-
  The last four bytes, and what is ahead of them.
-/
import Derived.Test.YtehkohnpfbdngaaDoorBits
namespace Go.Proofs.YtehkohnpfbdngaaDoor
open Go.RowKit

/-- The last four bytes, and what is ahead of them. -/
structure Front (w : World) (B b off : Nat) (front : List Nat) (d0 d1 d2 d3 : Nat) : Prop where
  by_ : By w B (some ⟨b, off, none⟩) (front ++ [d0, d1, d2, d3])
  lt : b < B
theorem Front.cells {w : World} {B b off : Nat} {front : List Nat} {d0 d1 d2 d3 : Nat} (h : Front w B b off front d0 d1 d2 d3) :
    w.cell? ⟨b, off + front.length, none⟩ = some (.int .u8 (d0 : Int)) ∧ w.cell? ⟨b, off + front.length + 1, none⟩ = some (.int .u8 (d1 : Int)) ∧
    w.cell? ⟨b, off + front.length + 2, none⟩ = some (.int .u8 (d2 : Int)) ∧ w.cell? ⟨b, off + front.length + 3, none⟩ = some (.int .u8 (d3 : Int)) := by
  have hl : (front ++ [d0, d1, d2, d3]).length = front.length + 4 := by simp
  obtain ⟨b', off', e, _, hc⟩ := h.by_.at_ (by omega)
  obtain ⟨rfl, rfl⟩ : b = b' ∧ off = off' := by simpa using e
  refine ⟨?_, ?_, ?_, ?_⟩
  · rw [hc _ (by omega)]; simp [List.getD]
  · rw [Nat.add_assoc, hc _ (by omega)]; simp [List.getD]
  · rw [Nat.add_assoc, hc _ (by omega)]; simp [List.getD]
  · rw [Nat.add_assoc, hc _ (by omega)]; simp [List.getD]

/-- What holds all through the test of Open. -/
def HS (w0 : World) (b off : Nat) (front : List Nat) (d0 d1 d2 d3 : Nat) (W : World) : Prop :=
  W.cell? ⟨b, off + front.length, none⟩ = some (.int .u8 (d0 : Int)) ∧ W.cell? ⟨b, off + front.length + 1, none⟩ = some (.int .u8 (d1 : Int)) ∧
  W.cell? ⟨b, off + front.length + 2, none⟩ = some (.int .u8 (d2 : Int)) ∧ W.cell? ⟨b, off + front.length + 3, none⟩ = some (.int .u8 (d3 : Int)) ∧
  By W w0.heap.size (some ⟨b, off, none⟩) front ∧ Below w0.heap.size w0 W ∧ b < w0.heap.size
theorem HS.below {w0 W W' : World} {b off : Nat} {front : List Nat} {d0 d1 d2 d3 : Nat} (hb : Below W.heap.size W W') (h : HS w0 b off front d0 d1 d2 d3 W) : HS w0 b off front d0 d1 d2 d3 W' := by
  obtain ⟨h0, h1, h2, h3, h4, h5, h6⟩ := h
  have hz := h5.size
  exact ⟨(hb.cell (by simp; omega)).trans h0, (hb.cell (by simp; omega)).trans h1, (hb.cell (by simp; omega)).trans h2, (hb.cell (by simp; omega)).trans h3, h4.below hb hz, h5.trans (hb.mono hz), h6⟩
theorem HS.by_ {w0 W : World} {b off : Nat} {front : List Nat} {d0 d1 d2 d3 : Nat} (h : HS w0 b off front d0 d1 d2 d3 W) : By W W.heap.size (some ⟨b, off, none⟩) front := h.2.2.2.2.1.mono h.2.2.2.2.2.1.size
theorem HS.drew {w0 W : World} {b off : Nat} {front : List Nat} {d0 d1 d2 d3 : Nat} (h : HS w0 b off front d0 d1 d2 d3 W) : HS w0 b off front d0 d1 d2 d3 W.drew := ⟨h.1, h.2.1, h.2.2.1, h.2.2.2.1, h.2.2.2.2.1, h.2.2.2.2.2.1.drew, h.2.2.2.2.2.2⟩
theorem Front.hs {w : World} {b off : Nat} {front : List Nat} {d0 d1 d2 d3 : Nat} (h : Front w w.heap.size b off front d0 d1 d2 d3) : HS w b off front d0 d1 d2 d3 w :=
  ⟨h.cells.1, h.cells.2.1, h.cells.2.2.1, h.cells.2.2.2, by simpa using h.by_.take front.length, Below.refl _ _, h.lt⟩

theorem last_four (bs : List Nat) (h : 4 ≤ bs.length) : ∃ d0 d1 d2 d3, bs = bs.take (bs.length - 4) ++ [d0, d1, d2, d3] := by
  have hl : (bs.drop (bs.length - 4)).length = 4 := by rw [List.length_drop]; omega
  obtain ⟨d0, d1, d2, d3, e⟩ : ∃ d0 d1 d2 d3, bs.drop (bs.length - 4) = [d0, d1, d2, d3] := by
    generalize bs.drop (bs.length - 4) = l at hl
    match l, hl with
    | [a, b, c, d], _ => exact ⟨a, b, c, d, rfl⟩
  exact ⟨d0, d1, d2, d3, by rw [← e, List.take_append_drop]⟩
theorem isSealed_of (front : List Nat) (d0 d1 d2 d3 : Nat) : Crc.isSealed (front ++ [d0, d1, d2, d3]) = decide ([d0, d1, d2, d3] = Crc.tail (Crc.sum front)) := by
  unfold Crc.isSealed
  have hl : (front ++ [d0, d1, d2, d3]).length = front.length + 4 := by simp
  rw [hl, Nat.add_sub_cancel]
  simp
theorem Front.mk' {w : World} {A : Option Addr} {front : List Nat} {d0 d1 d2 d3 : Nat} (h : By w w.heap.size A (front ++ [d0, d1, d2, d3])) : ∃ b off, A = some ⟨b, off, none⟩ ∧ Front w w.heap.size b off front d0 d1 d2 d3 := by
  obtain ⟨b, off, rfl, hb, _⟩ := h.at_ (by simp)
  exact ⟨b, off, rfl, ⟨h, hb⟩⟩

end Go.Proofs.YtehkohnpfbdngaaDoor
