/-
  What the sort makes of an overlay with a write behind it: the write in its place.
-/
import Derived.Test.YtipgphdndleodaaODins
import Derived.Test.YtipgphdndleodaaODget
namespace Go.Proofs.Ytipgphdndleodaa
set_option maxRecDepth 100000

/-- the overlay but for the write of k -/
def woL (l : List Wt) (k : Int) : List Wt := l.take (plc l k) ++ l.drop (plc l k + 1)
theorem rising_pair : ∀ {l : List Wt} {lo : Int}, risingB lo l = true → (∀ x ∈ l, lo < x.1) ∧ l.Pairwise (fun a b => a.1 < b.1) := by
  intro l
  induction l with
  | nil => intro lo _; exact ⟨fun x hx => (List.not_mem_nil hx).elim, List.Pairwise.nil⟩
  | cons x l ih =>
    intro lo h
    rw [risingB, Bool.and_eq_true, decide_eq_true_eq] at h
    obtain ⟨h1, h2⟩ := ih h.2
    refine ⟨fun y hy => ?_, List.Pairwise.cons (fun y hy => h1 y hy) h2⟩
    rcases List.mem_cons.1 hy with rfl | hy
    · exact h.1.1
    · have := h1 y hy; omega
theorem ins_app {y : Wt} : ∀ {A B : List Wt}, (∀ x ∈ A, x.1 < y.1) → (∀ x ∈ B, y.1 < x.1) → insW y (A ++ B) = A ++ y :: B := by
  intro A
  induction A with
  | nil =>
    intro B _ hB
    cases B with
    | nil => rfl
    | cons b B =>
      have := hB b List.mem_cons_self
      simp only [List.nil_append]
      rw [insW, if_neg (by omega), if_neg (by omega)]
  | cons a A ih =>
    intro B hA hB
    have := hA a List.mem_cons_self
    rw [List.cons_append, insW, if_pos this, ih (fun x hx => hA x (List.mem_cons_of_mem _ hx)) hB]
    rfl
theorem ins_rep {y b : Wt} {B : List Wt} (hb : b.1 = y.1) : ∀ {A : List Wt}, (∀ x ∈ A, x.1 < y.1) → insW y (A ++ b :: B) = A ++ y :: B := by
  intro A
  induction A with
  | nil => intro _; simp only [List.nil_append]; rw [insW, if_neg (by omega), if_pos hb]
  | cons a A ih =>
    intro hA
    have := hA a List.mem_cons_self
    rw [List.cons_append, insW, if_pos this, ih fun x hx => hA x (List.mem_cons_of_mem _ hx)]
    rfl
theorem pair_get {l : List Wt} (h : l.Pairwise (fun a b => a.1 < b.1)) {i j : Nat} (hij : i < j) (hj : j < l.length) : (l[i]'(by omega)).1 < (l[j]).1 := List.pairwise_iff_getElem.1 h i j (by omega) hj hij
theorem mem_take_lt {l : List Wt} (h : l.Pairwise (fun a b => a.1 < b.1)) {p : Nat} (hp : p < l.length) : ∀ x ∈ l.take p, x.1 < l[p].1 := by
  intro x hx
  obtain ⟨i, hi, rfl⟩ := List.mem_iff_getElem.1 hx
  rw [List.getElem_take]
  rw [List.length_take] at hi
  exact pair_get h (by omega) hp
theorem mem_drop_gt {l : List Wt} (h : l.Pairwise (fun a b => a.1 < b.1)) {p : Nat} (hp : p < l.length) : ∀ x ∈ l.drop (p + 1), l[p].1 < x.1 := by
  intro x hx
  obtain ⟨i, hi, rfl⟩ := List.mem_iff_getElem.1 hx
  rw [List.getElem_drop]
  rw [List.length_drop] at hi
  exact pair_get h (by omega) (by omega)
theorem no_place {l : List Wt} {k : Int} (h : ¬ plc l k < l.length) : ∀ x ∈ l, x.1 ≠ k := by
  intro x hx e
  refine h ?_
  unfold plc
  rw [List.findIdx_lt_length]
  exact ⟨x, hx, by simp [e]⟩
theorem wo_none {l : List Wt} {k : Int} (h : ¬ plc l k < l.length) : woL l k = l := by
  unfold woL
  rw [List.take_of_length_le (by omega), List.drop_of_length_le (by omega), List.append_nil]
theorem wo_pair {l : List Wt} {k : Int} (h : l.Pairwise (fun a b => a.1 < b.1)) : (woL l k).Pairwise (fun a b => a.1 < b.1) := by
  by_cases hp : plc l k < l.length
  · have e : l.eraseIdx (plc l k) = woL l k := by unfold woL; rw [List.eraseIdx_eq_take_drop_succ]
    rw [← e]
    exact h.sublist (List.eraseIdx_sublist l _)
  · rw [wo_none hp]; exact h
theorem wo_not {l : List Wt} {k : Int} (h : l.Pairwise (fun a b => a.1 < b.1)) : ∀ x ∈ woL l k, x.1 ≠ k := by
  by_cases hp : plc l k < l.length
  · have hk := (get_plc hp).2
    intro x hx
    unfold woL at hx
    rcases List.mem_append.1 hx with hx | hx
    · have := mem_take_lt h hp x hx; omega
    · have := mem_drop_gt h hp x hx; omega
  · rw [wo_none hp]; exact no_place hp
theorem ins_wo {l : List Wt} {y : Wt} (h : l.Pairwise (fun a b => a.1 < b.1)) : insW y l = insW y (woL l y.1) := by
  by_cases hp : plc l y.1 < l.length
  · have hk := (get_plc hp).2
    have h1 : ∀ x ∈ l.take (plc l y.1), x.1 < y.1 := fun x hx => by have := mem_take_lt h hp x hx; omega
    have h2 : ∀ x ∈ l.drop (plc l y.1 + 1), y.1 < x.1 := fun x hx => by have := mem_drop_gt h hp x hx; omega
    unfold woL
    rw [ins_app h1 h2]
    conv => lhs; rw [← List.take_append_drop (plc l y.1) l, List.drop_eq_getElem_cons hp]
    exact ins_rep hk h1
  · rw [wo_none hp]
theorem ins_len_no {y : Wt} : ∀ {l : List Wt}, (∀ x ∈ l, x.1 ≠ y.1) → (insW y l).length = l.length + 1 := by
  intro l
  induction l with
  | nil => intro _; rfl
  | cons x l ih =>
    intro h
    unfold insW
    split
    · rw [List.length_cons, ih fun z hz => h z (List.mem_cons_of_mem _ hz)]; rfl
    · rw [if_neg (h x List.mem_cons_self)]; rfl
theorem atL_app {A : List Wt} {b : Wt} {B : List Wt} : atL (A ++ b :: B) A.length = b := by
  rw [atL_eq (by simp)]
  simp
theorem atL_left {A B : List Wt} {j : Nat} (h : j < A.length) : atL (A ++ B) j = A[j] := by
  rw [atL_eq (by rw [List.length_append]; omega), List.getElem_append_left h]
theorem cmp_neg (a b : Int) : cmpI a b < 0 ↔ a < b := by
  unfold cmpI
  by_cases h : a < b
  · simp [h]
  · by_cases h2 : b < a
    · simp [h, h2]
    · simp [h, h2]
theorem ins_rest {m : List Wt} {y : Wt} (h : m.Pairwise (fun a b => a.1 < b.1)) {j : Nat} (hj : j < m.length) : insIn j (m ++ [y]) = m ++ [y] := by
  cases j with
  | zero => rfl
  | succ j =>
    rw [insIn, atL_left hj, atL_left (by omega), if_neg]
    rw [cmp_neg]
    have := pair_get h (Nat.lt_add_one j) hj
    omega
theorem insOut_last {m : List Wt} {y : Wt} (h : m.Pairwise (fun a b => a.1 < b.1)) : ∀ c, c ≤ m.length → insOut c (m ++ [y]) = if c = 0 then m ++ [y] else insIn m.length (m ++ [y]) := by
  intro c
  induction c with
  | zero => intro _; rfl
  | succ c ih =>
    intro hc
    rw [insOut, if_neg (by omega), List.length_append, List.length_singleton]
    by_cases h0 : c = 0
    · subst h0
      rw [show m.length + 1 - (0 + 1) = m.length by omega]; rfl
    · rw [ins_rest h (by omega), ih (by omega), if_neg h0]
theorem insIn_place {m : List Wt} {y : Wt} (h : m.Pairwise (fun a b => a.1 < b.1)) (hy : ∀ x ∈ m, x.1 ≠ y.1) : ∀ p, p ≤ m.length → (∀ x ∈ m.drop p, y.1 < x.1) → insIn p (m.take p ++ y :: m.drop p) = insW y m := by
  intro p
  induction p with
  | zero =>
    intro _ hd
    rw [List.drop_zero] at hd
    have := ins_app (y := y) (A := []) (B := m) (fun x hx => (List.not_mem_nil hx).elim) hd
    simpa [insIn] using this.symm
  | succ p ih =>
    intro hp hd
    have hpl : p < m.length := by omega
    have hl : (m.take (p + 1)).length = p + 1 := by rw [List.length_take]; omega
    have e1 : atL (m.take (p + 1) ++ y :: m.drop (p + 1)) (p + 1) = y := by
      have := atL_app (A := m.take (p + 1)) (b := y) (B := m.drop (p + 1))
      rwa [hl] at this
    have e2 : atL (m.take (p + 1) ++ y :: m.drop (p + 1)) p = m[p] := by
      rw [atL_left (by omega), List.getElem_take]
    rw [insIn, e1, e2]
    have hdr : m.drop p = m[p] :: m.drop (p + 1) := List.drop_eq_getElem_cons hpl
    by_cases hlt : y.1 < m[p].1
    · rw [if_pos ((cmp_neg _ _).2 hlt)]
      have e3 : swL (m.take (p + 1) ++ y :: m.drop (p + 1)) p = m.take p ++ y :: m.drop p := by
        unfold swL
        rw [e1, e2, hdr]
        congr 1
        · rw [List.take_append_of_le_length (by omega), List.take_take, Nat.min_eq_left (by omega)]
        · rw [List.drop_append, List.drop_eq_nil_of_le (by omega), hl, List.nil_append, show p + 2 - (p + 1) = 1 by omega]
          rfl
      rw [e3]
      refine ih (by omega) fun x hx => ?_
      rw [hdr] at hx
      rcases List.mem_cons.1 hx with rfl | hx
      · exact hlt
      · exact hd x hx
    · rw [if_neg (fun e => hlt ((cmp_neg _ _).1 e))]
      have hne := hy m[p] (List.getElem_mem hpl)
      conv => rhs; rw [← List.take_append_drop (p + 1) m]
      refine (ins_app (fun x hx => ?_) hd).symm
      rw [List.take_succ_eq_append_getElem hpl] at hx
      rcases List.mem_append.1 hx with hx | hx
      · have := mem_take_lt h hpl x hx; omega
      · rw [List.mem_singleton.1 hx]; omega
theorem insOut_ins {m : List Wt} {y : Wt} (h : m.Pairwise (fun a b => a.1 < b.1)) (hy : ∀ x ∈ m, x.1 ≠ y.1) : insOut m.length (m ++ [y]) = insW y m := by
  rw [insOut_last h _ (Nat.le_refl _)]
  have := insIn_place h hy m.length (Nat.le_refl _) (fun x hx => by rw [List.drop_length] at hx; exact (List.not_mem_nil hx).elim)
  rw [List.take_length, List.drop_length] at this
  by_cases h0 : m.length = 0
  · rw [if_pos h0]
    obtain rfl := List.eq_nil_of_length_eq_zero h0
    rfl
  · rw [if_neg h0, this]
end Go.Proofs.Ytipgphdndleodaa
