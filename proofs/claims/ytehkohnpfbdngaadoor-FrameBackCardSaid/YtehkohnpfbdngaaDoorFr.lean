/-
  Frames as plain data: which may be, into which a record is cut, which are joined; and frames in memory.
-/
import Derived.Test.YtehkohnpfbdngaaDoorCrc
import Derived.Test.YtehkohnpfbdngaaDoorBase
namespace Go.Proofs.YtehkohnpfbdngaaDoor
open Go.RowKit

structure Fr where
  seq : Int
  inc : Int
  part : Int
  of : Int
  mark : Nat
  load : List Nat
deriving DecidableEq

/-- its numbers are of their kinds -/
structure Fr.Fine (f : Fr) : Prop where
  seq : -9223372036854775808 ≤ f.seq ∧ f.seq ≤ 9223372036854775807
  inc : -9223372036854775808 ≤ f.inc ∧ f.inc ≤ 9223372036854775807
  part : -9223372036854775808 ≤ f.part ∧ f.part ≤ 9223372036854775807
  of : -9223372036854775808 ≤ f.of ∧ f.of ≤ 9223372036854775807
  mark : f.mark < 4294967296
  load : ∀ x ∈ f.load, x < 256

/-- P4.1: whether it may be -/
def mayB (f : Fr) : Bool := decide (1 ≤ f.seq ∧ f.seq ≤ 1099511627776 ∧ 0 ≤ f.inc ∧ f.inc ≤ 1048576 ∧ 1 ≤ f.of ∧ f.of ≤ 2 ∧ 0 ≤ f.part ∧ f.part ≤ f.of - 1 ∧ 1 ≤ f.load.length ∧ f.load.length ≤ 45 ∧ (f.part = f.of - 1 ∨ f.load.length = 45))
/-- P4.1: Same -/
def sameB (f g : Fr) : Bool := decide (f = g)
theorem Fr.ext_iff' (f g : Fr) : f = g ↔ f.seq = g.seq ∧ f.inc = g.inc ∧ f.part = g.part ∧ f.of = g.of ∧ f.mark = g.mark ∧ f.load = g.load := by
  cases f; cases g; simp

/-- how many frames n bytes want -/
def cutN (n : Nat) : Nat := (n - 1) / 45 + 1
/-- the i-th frame of a record -/
def cutOne (b : List Nat) (seq inc : Int) (i : Nat) : Fr := ⟨seq + i, inc, i, (cutN b.length : Nat), Crc.sum b, (b.drop (i * 45)).take 45⟩
def cutAll (b : List Nat) (seq inc : Int) : List Fr := (List.range (cutN b.length)).map (cutOne b seq inc)
/-- P4.2: which error Cut answers -/
def cutE (n : Nat) (seq inc : Int) : Int :=
  if n = 0 ∨ ¬ (1 ≤ seq ∧ seq ≤ 1099511627776) ∨ ¬ (0 ≤ inc ∧ inc ≤ 1048576) then 2
  else if 90 < n then 3 else if 1099511627776 < seq + cutN n - 1 then 2 else 0
def cutL (b : List Nat) (seq inc : Int) : List Fr := if cutE b.length seq inc = 0 then cutAll b seq inc else []
theorem cutE_yes {n : Nat} {seq inc : Int} (h : cutE n seq inc = 0) : 1 ≤ n ∧ n ≤ 90 ∧ 1 ≤ seq ∧ seq + cutN n - 1 ≤ 1099511627776 ∧ 0 ≤ inc ∧ inc ≤ 1048576 ∧ cutN n ≤ 2 ∧ 1 ≤ cutN n := by
  unfold cutE at h
  unfold cutN at h ⊢
  split at h
  · cases h
  split at h
  · cases h
  split at h
  · cases h
  omega

/-- P4.2: the frames' bytes, one behind the other -/
def loads (l : List Fr) : List Nat := l.flatMap (·.load)
/-- P4.2: whether frames are those that a record is cut into -/
def joinB (l : List Fr) : Bool :=
  match l with
  | [] => false
  | f :: _ => decide (l.length ≤ 2) && l.all mayB && decide (cutE (loads l).length f.seq f.inc = 0 ∧ cutAll (loads l) f.seq f.inc = l)

/-! ### frames in memory -/
/-- a frame as a value: its load is the slice at A -/
def frv (A : Option Addr) (c : Nat) (f : Fr) : List Value := [.int .i64 f.seq, .int .i64 f.inc, .int .i64 f.part, .int .i64 f.of, .int .u32 (f.mark : Nat), .slice A f.load.length c]
/-- The value v is the frame f, its load in a block below B. -/
def FrV (w : World) (B : Nat) (xs : List Value) (f : Fr) : Prop :=
  ∃ A c, xs = frv A c f ∧ By w B A f.load ∧ f.load.length ≤ c ∧ c ≤ maxLen ∧ (A = none → c = 0) ∧ f.Fine
section
variable {w w' : World} {B B' : Nat} {xs : List Value} {f : Fr} {A : Option Addr} {fs : List Fr}
theorem FrV.below (h : FrV w B xs f) (hb : Below B' w w') (hB : B ≤ B') : FrV w' B xs f := by
  obtain ⟨A, c, e, hy, h1, h2, h3, h4⟩ := h
  exact ⟨A, c, e, hy.below hb hB, h1, h2, h3, h4⟩
theorem FrV.mono (h : FrV w B xs f) (hB : B ≤ B') : FrV w B' xs f := by
  obtain ⟨A, c, e, hy, h1, h2, h3, h4⟩ := h
  exact ⟨A, c, e, hy.mono hB, h1, h2, h3, h4⟩
theorem FrV.fine (h : FrV w B xs f) : f.Fine := by
  obtain ⟨A, c, _, _, _, _, _, h4⟩ := h
  exact h4
theorem FrV.load_by {c : Nat} (h : FrV w B (frv A c f) f) : By w B A f.load := by
  obtain ⟨A', c', e, hy, _⟩ := h
  simp only [frv, List.cons.injEq, Value.slice.injEq] at e
  obtain ⟨_, _, _, _, _, ⟨e, _⟩, _⟩ := e
  rw [e]; exact hy
theorem FrV.load_le {c : Nat} (h : FrV w B (frv A c f) f) : f.load.length ≤ c ∧ c ≤ maxLen ∧ (A = none → c = 0) := by
  obtain ⟨A', c', e, _, h1, h2, h3, _⟩ := h
  simp only [frv, List.cons.injEq, Value.slice.injEq] at e
  obtain ⟨_, _, _, _, _, ⟨e, _, e'⟩, _⟩ := e
  rw [e, e']; exact ⟨h1, h2, h3⟩
/-- The slice at A holds the frames fs, in blocks below B. -/
def Frs (w : World) (B : Nat) (A : Option Addr) (fs : List Fr) : Prop :=
  0 < fs.length → ∃ b off, A = some ⟨b, off, none⟩ ∧ b < B ∧ ∀ i (h : i < fs.length), ∃ xs, FrV w B xs fs[i] ∧ ∀ j u, xs[j]? = some u → w.cell? ⟨b, off + i * 6 + j, none⟩ = some u
/-- frame k of the slice, cell by cell -/
theorem Frs.cells (h : Frs w B A fs) {k : Nat} (hk : k < fs.length) : ∃ b off A' c', A = some ⟨b, off, none⟩ ∧ b < B ∧ By w B A' fs[k].load ∧ fs[k].load.length ≤ c' ∧ c' ≤ maxLen ∧ (A' = none → c' = 0) ∧ fs[k].Fine ∧
    w.cell? ⟨b, off + k * 6, none⟩ = some (.int .i64 fs[k].seq) ∧ w.cell? ⟨b, off + k * 6 + 1, none⟩ = some (.int .i64 fs[k].inc) ∧ w.cell? ⟨b, off + k * 6 + 2, none⟩ = some (.int .i64 fs[k].part) ∧ w.cell? ⟨b, off + k * 6 + 3, none⟩ = some (.int .i64 fs[k].of) ∧
    w.cell? ⟨b, off + k * 6 + 4, none⟩ = some (.int .u32 (fs[k].mark : Nat)) ∧ w.cell? ⟨b, off + k * 6 + 5, none⟩ = some (.slice A' fs[k].load.length c') := by
  obtain ⟨b, off, e, hlt, hc⟩ := h (by omega)
  obtain ⟨xs, ⟨A', c', rfl, hy, h1, h2, h3, h4⟩, hcell⟩ := hc k hk
  exact ⟨b, off, A', c', e, hlt, hy, h1, h2, h3, h4, hcell 0 _ rfl, hcell 1 _ rfl, hcell 2 _ rfl, hcell 3 _ rfl, hcell 4 _ rfl, hcell 5 _ rfl⟩
theorem Frs.nil_ : Frs w B A [] := fun h => absurd h (by simp)
theorem Frs.below (h : Frs w B A fs) (hb : Below B' w w') (hB : B ≤ B') : Frs w' B A fs := fun hn => by
  obtain ⟨b, off, e, hlt, hc⟩ := h hn
  refine ⟨b, off, e, hlt, fun i hi => ?_⟩
  obtain ⟨xs, hx, hcell⟩ := hc i hi
  exact ⟨xs, hx.below hb hB, fun j u hu => (hb.cell (by simp; omega)).trans (hcell j u hu)⟩
theorem Frs.mono (h : Frs w B A fs) (hB : B ≤ B') : Frs w B' A fs := fun hn => by
  obtain ⟨b, off, e, hlt, hc⟩ := h hn
  refine ⟨b, off, e, by omega, fun i hi => ?_⟩
  obtain ⟨xs, hx, hcell⟩ := hc i hi
  exact ⟨xs, hx.mono hB, hcell⟩
end
/-- frames that lie one behind the other in a block -/
theorem Frs.of_row {w : World} {B g n : Nat} {cs : List Value} {t : TypeId} {fr : Nat × Nat} {fs : List Fr} (hg : w.heap[g]? = some (.cells cs.toArray t fr)) (hB : g < B)
    (hf : ∀ i (h : i < fs.length), ∃ xs, FrV w B xs fs[i] ∧ ∀ j u, xs[j]? = some u → cs[n + i * 6 + j]? = some u) : Frs w B (some ⟨g, n, none⟩) fs := fun _ =>
  ⟨g, n, rfl, hB, fun i hi => by
    obtain ⟨xs, h1, h2⟩ := hf i hi
    refine ⟨xs, h1, fun j u hu => ?_⟩
    rw [cell_of_row w g _ _ _ _ hg, List.getElem?_toArray]
    exact h2 j u hu⟩
theorem Frs.one {w : World} {B g : Nat} {xs : List Value} {t : TypeId} {fr : Nat × Nat} {f : Fr} (hg : w.heap[g]? = some (.cells xs.toArray t fr)) (hB : g < B) (hf : FrV w B xs f) : Frs w B (some ⟨g, 0, none⟩) [f] :=
  Frs.of_row hg hB fun i hi => by
    obtain rfl : i = 0 := by simp at hi; exact hi
    exact ⟨xs, hf, fun j u hu => by simpa using hu⟩
theorem frv_length (A : Option Addr) (c : Nat) (f : Fr) : (frv A c f).length = 6 := rfl
theorem frv_one (A : Option Addr) (c : Nat) (f : Fr) : ∀ v ∈ frv A c f, v.oneCell' = true := by
  intro v hv
  simp only [frv, List.mem_cons, List.not_mem_nil, or_false] at hv
  rcases hv with rfl | rfl | rfl | rfl | rfl | rfl <;> rfl
end Go.Proofs.YtehkohnpfbdngaaDoor
