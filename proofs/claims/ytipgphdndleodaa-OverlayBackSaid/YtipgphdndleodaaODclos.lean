/-
  The developers' comparison, as slices.SortFunc calls it.
-/
import Derived.Test.YtipgphdndleodaaODfind
import Derived.Test.YtipgphdndleodaaODlen
import Derived.Deep.RegionHeld3
import Derived.Deep.DeepCutAuto
namespace Go.Proofs.Ytipgphdndleodaa
set_option maxRecDepth 100000
open Go.RowKit
set_option maxRecDepth 100000

/-- the box of sorted's second argument -/
def KeyBox (w : World) (B : Nat) : Prop := B < w.heap.size ∧ w.cell? ⟨B, 0, none⟩ = some (.func (.func 17) #[] #[])
theorem KeyBox.keep {w w' : World} {B : Nat} (h : KeyBox w B) (hs : w.heap.size ≤ w'.heap.size) (hk : w'.heap[B]? = w.heap[B]?) : KeyBox w' B := ⟨by have := h.1; omega, (World.cell?_of_block (w := w) (a := ⟨B, 0, none⟩) hk).trans h.2⟩
theorem row_cells0 {w : World} {b : Nat} {xs : List Value} {T : TypeId} {fr : Nat × Nat} (h : w.heap[b]? = some (.cells xs.toArray T fr)) : ∀ j u, xs[j]? = some u → w.cell? ⟨b, 0 + j, none⟩ = some u := fun j u hu => by rw [cell_of_row w b _ _ _ _ h]; simpa using hu
set_option maxHeartbeats 4000000 in
theorem sorted1_dev (x y : Wt) (hx : x.2.length = 8) (hy : y.2.length = 8) (B : Nat) (w : World) (hB : KeyBox w B) :
    Calls Try.prog 24 #[.agg (wrv x).toArray, .agg (wrv y).toArray, .pointer (some ⟨B, 0, none⟩)] w fun e w' => e = .returned (.int .i64 (cmpI x.1 y.1)) ∧ Below w.heap.size w w' := by
  obtain ⟨w1, hw1⟩ : ∃ w1, w1 = (w.alloc (.cells (wrv x).toArray 27)).alloc (.cells (wrv y).toArray 27) := ⟨_, rfl⟩
  have hb1 : Below w.heap.size w w1 := by rw [hw1]; exact ((Below.refl _ w).alloc (Nat.le_refl _) _).alloc (by simp) _
  have g0 : w1.heap[w.heap.size]? = some (.cells (wrv x).toArray 27 (0, 0)) := by rw [hw1]; exact (Below.heap_alloc _ _ _ (by simp)).trans (heap_alloc_new w _)
  have g1 : w1.heap[w.heap.size + 1]? = some (.cells (wrv y).toArray 27 (0, 0)) := by
    rw [hw1]
    have h := heap_alloc_new (w.alloc (.cells (wrv x).toArray 27)) (.cells (wrv y).toArray 27)
    rwa [World.size_alloc] at h
  have hz1 : w1.heap.size = w.heap.size + 2 := by rw [hw1]; simp
  have HB := Lib.hid hb1
  have HS := Lib.hid (show ∀ W, Below w1.heap.size w1 W → W.cell? ⟨B, 0, none⟩ = some (.func (.func 17) #[] #[]) ∧ (∀ j u, (wrv x)[j]? = some u → W.cell? ⟨w.heap.size, 0 + j, none⟩ = some u) ∧ ∀ j u, (wrv y)[j]? = some u → W.cell? ⟨w.heap.size + 1, 0 + j, none⟩ = some u from fun W hW => by
    have k0 := (hW.block w.heap.size (by omega)).trans g0
    have k1 := (hW.block (w.heap.size + 1) (by omega)).trans g1
    exact ⟨((hW.cell (by have := hB.1; show B < w1.heap.size; omega)).trans (hb1.cell hB.1)).trans hB.2, row_cells0 k0, row_cells0 k1⟩)
  have HW1 := Lib.hid hw1
  have HC := Lib.hid (fun W => compare_dev x.1 y.1 W)
  have HX := Lib.hid (fun W => blockOf_dev x hx W)
  have HY := Lib.hid (fun W => blockOf_dev y hy W)
  have HI1 := Lib.hid (write_infos hx)
  have HI2 := Lib.hid (write_infos hy)
  clear hw1 g0 g1 hb1 hz1 hB
  generalize cmpI x.1 y.1 = r at *
  go_enter Try.func24, Try.ntmps24
  go_wp2_with (rw [← HW1.out])
  refine wp_region_held_drew (S := fun W => W.cell? ⟨B, 0, none⟩ = some (.func (.func 17) #[] #[]) ∧ (∀ j u, (wrv x)[j]? = some u → W.cell? ⟨w.heap.size, 0 + j, none⟩ = some u) ∧ ∀ j u, (wrv y)[j]? = some u → W.cell? ⟨w.heap.size + 1, 0 + j, none⟩ = some u) (by kernel_rfl) (HS.out _ (Below.refl _ _).drew) (fun hHeld => ?_)
  refine wpAnyH_take (i := 0) (v := ?_) rfl (by kernel_rfl) (by kernel_rfl) (by kernel_rfl) (fun _ _ _ h => h) (Or.inl ⟨by rfl, ?_⟩) (by assumption) ?_
  rotate_left
  · simp only [List.getElem_toArray, List.getElem_cons_zero, List.getElem_cons_succ]; intro W hSw; (try dsimp only at hSw); go_simp; all_goals with_reducible rfl
  simp only [Act.put, List.getElem_toArray, List.getElem_cons_zero, List.getElem_cons_succ, List.setIfInBounds_toArray, List.set_cons_zero, List.set_cons_succ]
  refine wpAnyH_take (i := 1) (v := ?_) rfl (by kernel_rfl) (by kernel_rfl) (by kernel_rfl) (fun _ _ _ h => h) (Or.inl ⟨by rfl, ?_⟩) (by assumption) ?_
  rotate_left
  · simp only [List.getElem_toArray, List.getElem_cons_zero, List.getElem_cons_succ]; intro W hSw; (try dsimp only at hSw); refine exec_load_part 27 (.tmp 3) ?_ w.heap.size 0 ?_ (wrv x) _ hSw.2.1 Try.underlying27 ?_ HI1.out <;> rfl
  simp only [Act.put, List.getElem_toArray, List.getElem_cons_zero, List.getElem_cons_succ, List.setIfInBounds_toArray, List.set_cons_zero, List.set_cons_succ]
  refine wpAnyH_take (i := 3) (v := ?_) rfl (by kernel_rfl) (by kernel_rfl) (by kernel_rfl) (fun _ _ _ h => h) (Or.inl ⟨by rfl, ?_⟩) (by assumption) ?_
  rotate_left
  · simp only [List.getElem_toArray, List.getElem_cons_zero, List.getElem_cons_succ]; intro W hSw; (try dsimp only at hSw); go_simp; all_goals with_reducible rfl
  simp only [Act.put, List.getElem_toArray, List.getElem_cons_zero, List.getElem_cons_succ, List.setIfInBounds_toArray, List.set_cons_zero, List.set_cons_succ]
  refine wpAnyH_take (i := 4) (v := ?_) rfl (by kernel_rfl) (by kernel_rfl) (by kernel_rfl) (fun _ _ _ h => h) (Or.inl ⟨by rfl, ?_⟩) (by assumption) ?_
  rotate_left
  · simp only [List.getElem_toArray, List.getElem_cons_zero, List.getElem_cons_succ]; intro W hSw; (try dsimp only at hSw); refine exec_load_part 27 (.tmp 4) ?_ (w.heap.size + 1) 0 ?_ (wrv y) _ hSw.2.2 Try.underlying27 ?_ HI2.out <;> rfl
  simp only [Act.put, List.getElem_toArray, List.getElem_cons_zero, List.getElem_cons_succ, List.setIfInBounds_toArray, List.set_cons_zero, List.set_cons_succ]
  refine wpAnyH_ready (rs := [2]) (by kernel_rfl) (by simp) ?_
  refine AllReadyH.cons rfl (fun K hK => ?_) AllReadyH.nil
  simp only [List.getElem_toArray, List.getElem_cons_zero, List.getElem_cons_succ]
  go_simp
  refine (HX.out _).mono ?_
  rintro e w2 ⟨rfl, hb2⟩
  have hb2' : Below w1.heap.size w1 w2 := (Below.refl _ w1).drew.trans hb2
  go_wp2_with fail
  refine hK.out _ _ (HS.out _ hb2') (fun hHeldN => ?_)
  clear hK K hHeld
  have hHeld := hHeldN
  clear hHeldN
  (try simp only [Act.put, List.getElem_toArray, List.getElem_cons_zero, List.getElem_cons_succ, List.setIfInBounds_toArray, List.set_cons_zero, List.set_cons_succ])
  refine wpAnyH_ready (rs := [5]) (by kernel_rfl) (by simp) ?_
  refine AllReadyH.cons rfl (fun K hK => ?_) AllReadyH.nil
  simp only [List.getElem_toArray, List.getElem_cons_zero, List.getElem_cons_succ]
  go_simp
  refine (HY.out _).mono ?_
  rintro e w3 ⟨rfl, hb3⟩
  have hb3' : Below w1.heap.size w1 w3 := hb2'.trans (hb3.mono hb2'.size)
  go_wp2_with fail
  refine hK.out _ _ (HS.out _ hb3') (fun hHeldN => ?_)
  clear hK K hHeld
  have hHeld := hHeldN
  clear hHeldN
  (try simp only [Act.put, List.getElem_toArray, List.getElem_cons_zero, List.getElem_cons_succ, List.setIfInBounds_toArray, List.set_cons_zero, List.set_cons_succ])
  refine wpAnyH_ready (rs := [6]) (by kernel_rfl) (by simp) ?_
  refine AllReadyH.cons rfl (fun K hK => ?_) AllReadyH.nil
  simp only [List.getElem_toArray, List.getElem_cons_zero, List.getElem_cons_succ]
  go_simp
  refine (HC.out _).mono ?_
  rintro e w4 ⟨rfl, rfl⟩
  go_wp2_with fail
  refine hK.out _ _ (HS.out _ hb3') (fun hHeldN => ?_)
  clear hK K hHeld
  have hHeld := hHeldN
  clear hHeldN
  (try simp only [Act.put, List.getElem_toArray, List.getElem_cons_zero, List.getElem_cons_succ, List.setIfInBounds_toArray, List.set_cons_zero, List.set_cons_succ])
  refine wpAnyH_take (i := 7) (v := ?_) rfl (by kernel_rfl) (by kernel_rfl) (by kernel_rfl) (fun _ _ _ h => h) (Or.inl ⟨by rfl, ?_⟩) (by assumption) ?_
  rotate_left
  · simp only [List.getElem_toArray, List.getElem_cons_zero, List.getElem_cons_succ]; intro W hSw; (try dsimp only at hSw); go_simp; all_goals with_reducible rfl
  simp only [Act.put, List.getElem_toArray, List.getElem_cons_zero, List.getElem_cons_succ, List.setIfInBounds_toArray, List.set_cons_zero, List.set_cons_succ]
  refine wpAnyH_done (by kernel_rfl) ?_ _
  go_wp2_with fail
  go_ret
  exact ⟨rfl, HB.out.trans (hb3'.mono HB.out.size)⟩
end Go.Proofs.Ytipgphdndleodaa
