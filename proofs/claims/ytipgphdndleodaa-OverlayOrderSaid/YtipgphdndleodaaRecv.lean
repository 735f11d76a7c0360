/-
  Records, names and writes in memory.
-/
import Derived.Test.YtipgphdndleodaaRc
import Derived.Test.YtipgphdndleodaaBase
namespace Go.Proofs.Ytipgphdndleodaa
open Go.RowKit

def nmv (n : Nm) : List Value := [.int .i64 n.stamp, .int .i64 n.inc, .int .i64 n.att]
/-- a write's cells: its block, its value -/
def wrv (x : Int × List Nat) : List Value := .int .i64 x.1 :: vals x.2
/-- a record's cells: its writes are the slice at A -/
def recv (A : Option Addr) (c : Nat) (r : Rc) : List Value :=
  [.int .i8 r.kind, .int .i64 r.name.stamp, .int .i64 r.name.inc, .int .i64 r.name.att, .bool r.yes, .slice A r.writes.length c, .int .i64 r.give, .int .i64 r.take, .int .i64 r.shards, .int .i64 r.stripe, .int .i64 r.dest, .int .i64 r.n]
def I64 (z : Int) : Prop := -9223372036854775808 ≤ z ∧ z ≤ 9223372036854775807
structure Nm.Fine (n : Nm) : Prop where
  stamp : I64 n.stamp
  inc : I64 n.inc
  att : I64 n.att
/-- the writes' numbers are of their kinds -/
def WrFine (l : List (Int × List Nat)) : Prop := ∀ x ∈ l, I64 x.1 ∧ x.2.length = 8 ∧ ∀ y ∈ x.2, y < 256
structure Rc.Fine (r : Rc) : Prop where
  kind : -128 ≤ r.kind ∧ r.kind ≤ 127
  name : r.name.Fine
  writes : WrFine r.writes
  give : I64 r.give
  take : I64 r.take
  shards : I64 r.shards
  stripe : I64 r.stripe
  dest : I64 r.dest
  n : I64 r.n
theorem WrFine.vals {l : List (Int × List Nat)} (h : WrFine l) : ValOk l := fun x hx => (h x hx).2
theorem wrv_length {x : Int × List Nat} (h : x.2.length = 8) : (wrv x).length = 9 := by unfold wrv; simp [h, vals_length]
/-- The slice at A holds the writes, in blocks of P. -/
def Wrs (w : World) (P : Nat → Prop) (A : Option Addr) (l : List (Int × List Nat)) : Prop :=
  0 < l.length → ∃ b off, A = some ⟨b, off, none⟩ ∧ (P b ∧ b < w.heap.size) ∧ ∀ i (h : i < l.length) j u, (wrv l[i])[j]? = some u → w.cell? ⟨b, off + i * 9 + j, none⟩ = some u
structure WrsV (w : World) (P : Nat → Prop) (A : Option Addr) (c : Nat) (l : List (Int × List Nat)) : Prop where
  at_ : Wrs w P A l
  le : l.length ≤ c
  max : c ≤ maxLen
  nil : A = none → c = 0
section
variable {w w' : World} {P P' : Nat → Prop} {A : Option Addr} {c : Nat} {l : List (Int × List Nat)}
theorem Wrs.nil_ : Wrs w P A [] := fun h => absurd h (by simp)
theorem Wrs.keep (h : Wrs w P A l) (hs : w.heap.size ≤ w'.heap.size) (hk : ∀ b, P b → b < w.heap.size → w'.heap[b]? = w.heap[b]?) : Wrs w' P A l := fun h0 => by
  obtain ⟨b, off, e, ⟨hp, hlt⟩, hc⟩ := h h0
  exact ⟨b, off, e, ⟨hp, Nat.lt_of_lt_of_le hlt hs⟩, fun i hi j u hu => (World.cell?_of_block (w := w) (hk b hp hlt)).trans (hc i hi j u hu)⟩
theorem Wrs.mono (h : Wrs w P A l) (hP : ∀ b, P b → b < w.heap.size → P' b) : Wrs w P' A l := fun h0 => by
  obtain ⟨b, off, e, ⟨hp, hlt⟩, hc⟩ := h h0
  exact ⟨b, off, e, ⟨hP b hp hlt, hlt⟩, hc⟩
theorem Wrs.below (h : Wrs w P A l) (hb : Below w.heap.size w w') : Wrs w' P A l := h.keep hb.size fun b _ hlt => hb.block b hlt
theorem WrsV.below (h : WrsV w P A c l) (hb : Below w.heap.size w w') : WrsV w' P A c l := ⟨h.at_.below hb, h.le, h.max, h.nil⟩
theorem WrsV.mono (h : WrsV w P A c l) (hP : ∀ b, P b → b < w.heap.size → P' b) : WrsV w P' A c l := ⟨h.at_.mono hP, h.le, h.max, h.nil⟩
theorem WrsV.nil_ : WrsV w P none 0 [] := ⟨Wrs.nil_, Nat.le_refl _, Nat.zero_le _, fun _ => rfl⟩
end
end Go.Proofs.Ytipgphdndleodaa
