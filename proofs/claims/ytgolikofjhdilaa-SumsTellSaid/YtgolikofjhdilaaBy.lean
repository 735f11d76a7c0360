/-
  Bytes in memory: a slice that reads as a list of numbers below 256, nil and empty let in.
-/
import Derived.Test.YtgolikofjhdilaaBits
import Derived.Lib.Hide
namespace Go.Proofs.Ytgolikofjhdilaa
open Go.RowKit

theorem getD_at (l : List Nat) (k : Nat) (h : k < l.length) : l.getD k 0 = l[k] := by simp [List.getD, h]
theorem add_flat (b off n : Nat) : (⟨b, off, none⟩ : Addr).add n = ⟨b, off + n, none⟩ := by
  unfold Addr.add; split <;> simp_all

/-- The slice at A holds the bytes bs, in a block below B (asked for only where there is a byte). -/
def By (w : World) (B : Nat) (A : Option Addr) (bs : List Nat) : Prop :=
  (∀ x ∈ bs, x < 256) ∧ (0 < bs.length → ∃ b off, A = some ⟨b, off, none⟩ ∧ b < B ∧ ∀ j, j < bs.length → w.cell? ⟨b, off + j, none⟩ = some (.int .u8 (bs.getD j 0 : Nat)))

section
variable {w w' : World} {B B' : Nat} {A : Option Addr} {bs : List Nat}
theorem By.nil_ : By w B A [] := ⟨fun _ h => (List.not_mem_nil h).elim, fun h => absurd h (by simp)⟩
theorem By.keep (h : By w B A bs) (hk : ∀ p : Addr, p.block < B → w'.cell? p = w.cell? p) : By w' B A bs :=
  ⟨h.1, fun hn => by
    obtain ⟨b, off, e, hb, hc⟩ := h.2 hn
    exact ⟨b, off, e, hb, fun j hj => (hk _ hb).trans (hc j hj)⟩⟩
theorem By.mono (h : By w B A bs) (hB : B ≤ B') : By w B' A bs :=
  ⟨h.1, fun hn => by
    obtain ⟨b, off, e, hb, hc⟩ := h.2 hn
    exact ⟨b, off, e, by omega, hc⟩⟩
theorem By.below (h : By w B A bs) (hb : Below B' w w') (hB : B ≤ B') : By w' B A bs := h.keep fun _ hp => hb.cell (by omega)
theorem By.take (h : By w B A bs) (k : Nat) : By w B A (bs.take k) :=
  ⟨fun x hx => h.1 x (List.mem_of_mem_take hx), fun hn => by
    have hl : (bs.take k).length ≤ bs.length := List.length_take_le' _ _
    obtain ⟨b, off, e, hb, hc⟩ := h.2 (by omega)
    refine ⟨b, off, e, hb, fun j hj => ?_⟩
    rw [hc j (by omega)]
    have hj' : j < bs.length := by omega
    rw [getD_at _ _ hj', getD_at _ _ hj, List.getElem_take]⟩
theorem By.drop {c : Nat} (h : By w B A bs) (k : Nat) (hc : bs.length ≤ c) : By w B (if c = k then A else A.map (·.add k)) (bs.drop k) :=
  ⟨fun x hx => h.1 x (List.mem_of_mem_drop hx), fun hn => by
    rw [List.length_drop] at hn
    obtain ⟨b, off, e, hb, hcell⟩ := h.2 (by omega)
    refine ⟨b, off + k, ?_, hb, fun j hj => ?_⟩
    · rw [if_neg (by omega), e, Option.map_some, add_flat]
    · have hj' : k + j < bs.length := by rw [List.length_drop] at hj; omega
      rw [Nat.add_assoc, hcell _ hj', getD_at _ _ hj', getD_at _ _ hj, List.getElem_drop]⟩
theorem By.of_none (h : By w B A bs) (hA : A = none) : bs.length = 0 ∧ bs.length = 0 := by
  rcases Nat.eq_zero_or_pos bs.length with h0 | h0
  · exact ⟨h0, h0⟩
  · obtain ⟨_, _, e, _⟩ := h.2 h0
    rw [hA] at e; cases e
theorem By.at_ (h : By w B A bs) (hn : 0 < bs.length) : ∃ b off, A = some ⟨b, off, none⟩ ∧ b < B ∧ ∀ j, j < bs.length → w.cell? ⟨b, off + j, none⟩ = some (.int .u8 (bs.getD j 0 : Nat)) := h.2 hn
end

/-- bytes as values -/
def vals (bs : List Nat) : List Value := bs.map fun (n : Nat) => Value.int .u8 (n : Int)
theorem vals_length (bs : List Nat) : (vals bs).length = bs.length := List.length_map _
theorem vals_get {bs : List Nat} {j : Nat} {u : Value} (h : (vals bs)[j]? = some u) : j < bs.length ∧ u = .int .u8 (bs.getD j 0 : Nat) := by
  have hj : j < bs.length := by
    have := (List.getElem?_eq_some_iff.1 h).1
    rwa [vals_length] at this
  refine ⟨hj, ?_⟩
  unfold vals at h
  rw [List.getElem?_map, List.getElem?_eq_getElem hj, Option.map_some] at h
  rw [getD_at _ _ hj]
  exact (Option.some.inj h).symm
theorem vals_one {bs : List Nat} : ∀ u ∈ vals bs, u.oneCell' = true := by
  intro u hu
  obtain ⟨n, _, rfl⟩ := List.mem_map.1 hu
  rfl
theorem vals_append (a b : List Nat) : vals (a ++ b) = vals a ++ vals b := List.map_append
theorem By.vals {w : World} {B : Nat} {A : Option Addr} {bs : List Nat} (h : By w B A bs) : ∀ b, A = some b → ∀ j u, (vals bs)[j]? = some u → w.cell? (b.add j) = some u := by
  intro b hA j u hu
  obtain ⟨hj, rfl⟩ := vals_get hu
  obtain ⟨g, off, e, _, hc⟩ := h.at_ (by omega)
  rw [hA] at e
  obtain rfl := Option.some.inj e
  rw [add_flat]
  exact hc j hj
theorem By.of_row {w : World} {g : Nat} {bs : List Nat} {t : TypeId} {fr : Nat × Nat} {cs : Array Value} (hg : w.heap[g]? = some (.cells cs t fr)) (hc : cs.toList.take bs.length = Go.Proofs.Ytgolikofjhdilaa.vals bs) (hb : ∀ x ∈ bs, x < 256) : By w (g + 1) (some ⟨g, 0, none⟩) bs := by
  refine ⟨hb, fun _ => ⟨g, 0, rfl, by omega, fun j hj => ?_⟩⟩
  rw [Nat.zero_add, cell_of_row w g j cs t fr hg]
  have h := congrArg (·[j]?) hc
  simp only [List.getElem?_take, hj, if_true] at h
  rw [show cs[j]? = cs.toList[j]? by simp, h]
  unfold Go.Proofs.Ytgolikofjhdilaa.vals
  rw [List.getElem?_map, List.getElem?_eq_getElem hj, Option.map_some, getD_at _ _ hj]

/-- What the call made: a slice of its own that holds the bytes bs; nothing below has turned. -/
def New (w w' : World) (bs : List Nat) (v : Value) : Prop := w'.ownsRow w.heap.size 5 1 v bs.length (vals bs) ∧ Below w.heap.size w w'
theorem own_mono {w : World} {base base' : Nat} {e : TypeId} {size : Nat} {v : Value} {n : Nat} {xs : List Value} (h : w.ownsRow base e size v n xs) (hb : base' ≤ base) : w.ownsRow base' e size v n xs := by
  obtain ⟨h1, h2⟩ := h
  refine ⟨h1, ?_⟩
  rcases h2 with h2 | ⟨g, cap, cur, hv, hg, r⟩
  · exact Or.inl h2
  · exact Or.inr ⟨g, cap, cur, hv, by omega, r⟩
theorem grown_below {a w w' : World} (h : Below a.heap.size a w) (hg : w.grownBy w' none) : Below a.heap.size a w' := h.grown hg h.size (fun _ e => by cases e)
end Go.Proofs.Ytgolikofjhdilaa
