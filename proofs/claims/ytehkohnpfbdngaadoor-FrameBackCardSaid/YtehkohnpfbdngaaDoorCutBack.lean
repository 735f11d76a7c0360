/-
  Plain facts on cutting and joining: the frames of a record may be, have its bytes, and are joined.
-/
import Derived.Test.YtehkohnpfbdngaaDoorFr
namespace Go.Proofs.YtehkohnpfbdngaaDoor

theorem cut_ways {n : Nat} {seq inc : Int} (h : cutE n seq inc = 0) : cutN n = 1 ∧ n ≤ 45 ∨ cutN n = 2 ∧ 45 < n := by
  obtain ⟨h1, h2, _, _, _, _, h7, _⟩ := cutE_yes h
  unfold cutN at *
  omega
theorem cutAll_one {b : List Nat} {seq inc : Int} (h : cutN b.length = 1) : cutAll b seq inc = [cutOne b seq inc 0] := by
  unfold cutAll; rw [h]; rfl
theorem cutAll_two {b : List Nat} {seq inc : Int} (h : cutN b.length = 2) : cutAll b seq inc = [cutOne b seq inc 0, cutOne b seq inc 1] := by
  unfold cutAll; rw [h]; rfl
theorem cutAll_length (b : List Nat) (seq inc : Int) : (cutAll b seq inc).length = cutN b.length := by
  unfold cutAll; simp
theorem cutAll_get {b : List Nat} {seq inc : Int} {k : Nat} (h : k < (cutAll b seq inc).length) : (cutAll b seq inc)[k] = cutOne b seq inc k := by simp [cutAll]
theorem cutL_yes {b : List Nat} {seq inc : Int} (h : cutE b.length seq inc = 0) : cutL b seq inc = cutAll b seq inc := by unfold cutL; rw [if_pos h]
theorem cutL_no {b : List Nat} {seq inc : Int} (h : ¬ cutE b.length seq inc = 0) : cutL b seq inc = [] := by unfold cutL; rw [if_neg h]
theorem loads_cut {b : List Nat} {seq inc : Int} (h : cutE b.length seq inc = 0) : loads (cutAll b seq inc) = b := by
  obtain ⟨h1, h2, _⟩ := cutE_yes h
  rcases cut_ways h with ⟨hn, hl⟩ | ⟨hn, hl⟩
  · rw [cutAll_one hn]
    simp [loads, cutOne, List.take_of_length_le hl]
  · rw [cutAll_two hn]
    simp only [loads, cutOne, List.flatMap_cons, List.flatMap_nil, List.append_nil, Nat.zero_mul, List.drop_zero, Nat.one_mul]
    rw [List.take_of_length_le (l := b.drop 45) (by rw [List.length_drop]; omega), List.take_append_drop]
theorem may_cut {b : List Nat} {seq inc : Int} (h : cutE b.length seq inc = 0) : (cutAll b seq inc).all mayB = true := by
  obtain ⟨h1, h2, h3, h4, h5, h6, _⟩ := cutE_yes h
  rcases cut_ways h with ⟨hn, hl⟩ | ⟨hn, hl⟩
  · rw [cutAll_one hn, List.all_cons, List.all_nil, Bool.and_true]
    unfold mayB cutOne
    rw [decide_eq_true_eq, hn]
    simp only [List.length_take, List.length_drop]
    rw [hn] at h4
    omega
  · rw [cutAll_two hn, List.all_cons, List.all_cons, List.all_nil, Bool.and_true, Bool.and_eq_true]
    rw [hn] at h4
    unfold mayB cutOne
    rw [decide_eq_true_eq, decide_eq_true_eq, hn]
    simp only [List.length_take, List.length_drop]
    omega
/-- P4.3: Join of Cut -/
theorem join_cut {b : List Nat} {seq inc : Int} (h : cutE b.length seq inc = 0) : joinB (cutAll b seq inc) = true := by
  have hl := loads_cut h
  have hm := may_cut h
  obtain ⟨_, _, _, _, _, _, h7, h8⟩ := cutE_yes h
  have hlen := cutAll_length b seq inc
  have h0 : (cutAll b seq inc)[0]? = some (cutOne b seq inc 0) := by
    rcases cut_ways h with ⟨hn, _⟩ | ⟨hn, _⟩
    · rw [cutAll_one hn]; rfl
    · rw [cutAll_two hn]; rfl
  have hseq : (cutOne b seq inc 0).seq = seq := by simp [cutOne]
  generalize hx : cutAll b seq inc = l at *
  cases l with
  | nil => simp at h0
  | cons f r =>
    simp only [List.getElem?_cons_zero, Option.some.injEq] at h0
    have hs : f.seq = seq := by rw [h0]; exact hseq
    have hi : f.inc = inc := by rw [h0]; rfl
    have h2 : (f :: r).length ≤ 2 := by omega
    unfold joinB
    simp only [hl, hm, decide_eq_true h2, Bool.true_and, hs, hi]
    rw [decide_eq_true_eq]
    exact ⟨h, hx⟩
theorem join_first {f : Fr} (h : ¬ f.part = 0) : joinB [f] = false := by
  cases hj : joinB [f] with
  | false => rfl
  | true =>
    exfalso
    unfold joinB at hj
    simp only [Bool.and_eq_true, decide_eq_true_eq] at hj
    obtain ⟨_, hE, hc⟩ := hj
    rcases cut_ways hE with ⟨hn, _⟩ | ⟨hn, _⟩
    · rw [cutAll_one hn] at hc
      have := congrArg (fun l => l.map Fr.part) hc
      simp [cutOne] at this
      omega
    · rw [cutAll_two hn] at hc
      simp at hc
end Go.Proofs.YtehkohnpfbdngaaDoor
