/-
  load, by contract.
-/
import Derived.Test.YtehkohnpfbdngaaDoorFr
import Derived.Test.YtehkohnpfbdngaaDoorParts
namespace Go.Proofs.YtehkohnpfbdngaaDoor
open Go.RowKit

theorem splice_zero_vals (bs : List Nat) (n : Nat) (h : bs.length ≤ n) : (splice (vals (List.replicate n 0)) 0 (vals bs)).take bs.length = vals bs := by
  unfold splice
  rw [List.take_zero, List.nil_append, List.take_append_of_le_length (by rw [vals_length]; exact Nat.le_refl _), List.take_of_length_le (by rw [vals_length]; exact Nat.le_refl _)]
theorem By.src {w : World} {B : Nat} {A : Option Addr} {bs : List Nat} (h : By w B A bs) (h0 : 0 < (Go.Proofs.YtehkohnpfbdngaaDoor.vals bs).length) : ∃ ad, A = some ad ∧ ∀ j v, (Go.Proofs.YtehkohnpfbdngaaDoor.vals bs)[j]? = some v → w.cell? (ad.add j) = some v := by
  obtain ⟨b, off, e, _⟩ := h.at_ (by rwa [vals_length] at h0)
  exact ⟨_, e, h.vals _ e⟩
theorem Tryd.size5 : (Tryd.prog.info? 5).map (·.size) = some 1 := by kernel_rfl
theorem zero45 : (Tryd.prog.info? 69).map (·.zero) = some (some (.agg (vals (List.replicate 45 0)).toArray)) := by kernel_rfl

set_option maxHeartbeats 1000000 in
theorem load_any (bs : List Nat) (A : Option Addr) (c : Nat) (w : World) (hA : By w w.heap.size A bs) (hl : bs.length ≤ 45) :
    Calls Tryd.prog 30 #[.slice A bs.length c] w fun e w' => e = .returned (.slice (some ⟨w.heap.size, 0, none⟩) bs.length bs.length) ∧ By w' (w.heap.size + 1) (some ⟨w.heap.size, 0, none⟩) bs ∧ w.heap.size < w'.heap.size ∧ Below w.heap.size w w' := by
  obtain ⟨Z, hZ⟩ : ∃ Z, Z = vals (List.replicate 45 0) := ⟨_, rfl⟩
  have HZ := Lib.hid (show (Tryd.prog.info? 69).map (·.zero) = some (some (.agg Z.toArray)) by rw [hZ]; exact zero45)
  have ZL := Lib.hid (show Z.length = 45 by rw [hZ]; rfl)
  have H0 := Lib.hid (heap_alloc_new w (.cells Z.toArray 69))
  have B0 := Lib.hid ((Below.refl w.heap.size w).alloc (Nat.le_refl _) (.cells Z.toArray 69))
  have A0 := Lib.hid ((hA.below B0.out (Nat.le_refl _)).src)
  have HT := Lib.hid (show (splice Z 0 (vals bs)).take bs.length = vals bs by rw [hZ]; exact splice_zero_vals bs 45 hl)
  have HBl := Lib.hid hA.1
  have n1 := Lib.hid (vals_length bs)
  have hi : (0 : Int) ≤ (bs.length : Int) := by omega
  have hi2 : (bs.length : Int) ≤ 45 := by omega
  clear hA hZ
  go_enter Tryd.func30, Tryd.ntmps30
  go_wp2_with (first
    | (with_reducible refine wpList_alloc_any rfl 69 rfl Z.toArray HZ.out ?_)
    | (with_reducible refine wpList_copy_splice rfl (.tmp 5) (.tmp 6) 23 23 rfl 5 Tryd.underlying23 Tryd.size5 _ _ _ _ _ _ rfl rfl w.heap.size 0 Z 69 H0.out (vals bs) (by rw [n1.out]; simp only [Nat.min_def]; split <;> omega) (fun h => ⟨rfl, A0.out h⟩) (by rw [n1.out, ZL.out]; omega) vals_one w.heap.size w B0.out (Nat.le_refl _) ?_; intro w2 hg2 hb2; rw [n1.out]))
  all_goals
    go_ret
    refine ⟨?_, By.of_row hg2.out (by rw [List.toList_toArray]; exact HT.out) HBl.out, ?_, hb2⟩
    · rfl
    · rcases Nat.lt_or_ge w.heap.size w2.heap.size with h | h
      · exact h
      · have h2 := hg2.out
        rw [Array.getElem?_eq_none h] at h2
        cases h2
end Go.Proofs.YtehkohnpfbdngaaDoor
