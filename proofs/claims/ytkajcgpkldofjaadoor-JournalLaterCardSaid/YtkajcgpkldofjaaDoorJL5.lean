/-
  Texts Follows, Good, Reckon, Grown, Now, Nils, ScanOf, Waked, Contracts, joined.
-/
import Derived.WalkMore
import Derived.Lib.SlBytesConst
import Derived.Test.YtkajcgpkldofjaaDoorJL4
set_option linter.all false
section
/-
  A scan's follows, by contract: may a frame come behind the last good one?
-/
namespace Go.Proofs.YtkajcgpkldofjaaDoor
open Go.RowKit Fm
set_option maxRecDepth 100000

def nextB (L f : Fr) : Bool := if moreB L = true then decide (f.part = L.part + 1) && (decide (f.of = L.of) && (decide (f.mark = L.mark) && decide (f.inc = L.inc))) else decide (f.part = 0) && decide (L.inc ≤ f.inc)

set_option maxHeartbeats 4000000 in
theorem follows_says {w : World} {Bs a : Nat} {tail er : Int} {A0 A : Option Addr} {c0 c : Nat} {L f : Fr}
    (hs : w.heap[Bs]? = some (.cells (scanRow a tail A0 c0 L er) 59 (0, 0))) (hp0 : 0 ≤ L.part) (hp : L.part ≤ 100) :
    Calls Tryd.prog 48 #[.pointer (some ⟨Bs, 0, none⟩), .agg (frv A c f).toArray] w fun e w' => e = .returned (.bool (nextB L f)) ∧ Below w.heap.size w w' := by
  obtain ⟨w1, hw1⟩ : ∃ w1, w1 = w.alloc (.cells (frv A c f).toArray 54) := ⟨_, rfl⟩
  have hb1 : Below w.heap.size w w1 := by rw [hw1]; exact (Below.refl _ w).alloc (Nat.le_refl _) _
  have hz1 : w1.heap.size = w.heap.size + 1 := by rw [hw1]; simp
  have hlt : Bs < w.heap.size := (Array.getElem?_eq_some_iff.1 hs).1
  have hf1 : w1.heap[w.heap.size]? = some (.cells (frv A c f).toArray 54 (0, 0)) := by rw [hw1]; exact heap_alloc_new w _
  have hs1 := (hb1.block _ hlt).trans hs
  have HC := Lib.hid (show ∀ W, Below w1.heap.size w1 W → ∀ j u, (scanRow a tail A0 c0 L er)[j]? = some u → W.cell? ⟨Bs, j, none⟩ = some u from fun W hW j u hu => by
    rw [cell_of_row W Bs j _ _ _ ((hW.block _ (by omega)).trans hs1)]; exact hu)
  have HF := Lib.hid (show ∀ W, Below w1.heap.size w1 W → ∀ j u, (frv A c f)[j]? = some u → W.cell? ⟨w.heap.size, j, none⟩ = some u from fun W hW j u hu => by
    rw [cell_of_row W w.heap.size j _ _ _ ((hW.block _ (by omega)).trans hf1)]; simpa using hu)
  have HM := Lib.hid (fun W => more_any L A0 c0 W (by omega) (by omega))
  have HB1 := Lib.hid hb1
  have HW1 := Lib.hid hw1
  have hc2 := HC.out w1 (Below.refl _ _) 2 (.int .i64 L.seq) rfl
  have hc3 := HC.out w1 (Below.refl _ _) 3 (.int .i64 L.inc) rfl
  have hc4 := HC.out w1 (Below.refl _ _) 4 (.int .i64 L.part) rfl
  have hc5 := HC.out w1 (Below.refl _ _) 5 (.int .i64 L.of) rfl
  have hc6 := HC.out w1 (Below.refl _ _) 6 (.int .u32 (L.mark : Nat)) rfl
  have hc7 := HC.out w1 (Below.refl _ _) 7 (.slice A0 L.load.length c0) rfl
  have hw : IntKind.i64.wrap (L.part + 1) = L.part + 1 := by rw [IntKind.wrap_i64]; omega
  obtain ⟨E, hE⟩ : ∃ E, E = nextB L f := ⟨_, rfl⟩
  rw [← hE]
  have HE0 := Lib.hid hE
  clear hb1 hw1 hz1 hf1 hs1 hs hlt hp0 hp hE
  unfold frv at HW1 HM
  unfold frv
  go_enter Tryd.func48, Tryd.ntmps48
  go_wp2_with (rw [← HW1.out])
  refine (HM.out _).mono ?_
  rintro e w3 ⟨rfl, hb3⟩
  have HB3 := Lib.hid (HB1.out.trans (hb3.mono HB1.out.size))
  have HS := Lib.hid (show ∀ W, w3.drew = W → (W.cell? ⟨w.heap.size, 1, none⟩ = some (.int .i64 f.inc) ∧ W.cell? ⟨w.heap.size, 2, none⟩ = some (.int .i64 f.part) ∧ W.cell? ⟨w.heap.size, 3, none⟩ = some (.int .i64 f.of) ∧ W.cell? ⟨w.heap.size, 4, none⟩ = some (.int .u32 (f.mark : Nat))) ∧ W.cell? ⟨Bs, 3, none⟩ = some (.int .i64 L.inc) ∧ W.cell? ⟨Bs, 4, none⟩ = some (.int .i64 L.part) ∧ W.cell? ⟨Bs, 5, none⟩ = some (.int .i64 L.of) ∧ W.cell? ⟨Bs, 6, none⟩ = some (.int .u32 (L.mark : Nat)) from fun W hW => by
    have hb : Below w1.heap.size w1 W := by rw [← hW]; exact hb3.drew
    exact ⟨⟨HF.out W hb 1 _ rfl, HF.out W hb 2 _ rfl, HF.out W hb 3 _ rfl, HF.out W hb 4 _ rfl⟩, HC.out W hb 3 _ rfl, HC.out W hb 4 _ rfl, HC.out W hb 5 _ rfl, HC.out W hb 6 _ rfl⟩)
  clear hb3 hc2 hc3 hc4 hc5 hc6 hc7
  cases hm : moreB L with
  | false =>
    unfold nextB at HE0
    rw [hm, if_neg (by simp)] at HE0
    clear hm
    by_cases h0 : f.part = 0
    · have hq : (f.part == 0) = true := by simp [h0]
      have HE := Lib.hid (show E = decide (f.inc ≥ L.inc) by rw [HE0.out, decide_eq_true h0, Bool.true_and])
      clear h0 HE0
      go_wp2_with fail
      refine wp_region_held_drew (S := fun W => (W.cell? ⟨w.heap.size, 1, none⟩ = some (.int .i64 f.inc) ∧ W.cell? ⟨w.heap.size, 2, none⟩ = some (.int .i64 f.part) ∧ W.cell? ⟨w.heap.size, 3, none⟩ = some (.int .i64 f.of) ∧ W.cell? ⟨w.heap.size, 4, none⟩ = some (.int .u32 (f.mark : Nat))) ∧ W.cell? ⟨Bs, 3, none⟩ = some (.int .i64 L.inc) ∧ W.cell? ⟨Bs, 4, none⟩ = some (.int .i64 L.part) ∧ W.cell? ⟨Bs, 5, none⟩ = some (.int .i64 L.of) ∧ W.cell? ⟨Bs, 6, none⟩ = some (.int .u32 (L.mark : Nat))) (by kernel_rfl) (HS.out _ rfl) (fun hHeld => ?_)
      refine wpAnyH_take (i := 0) (v := ?_) rfl (by kernel_rfl) (by kernel_rfl) (by kernel_rfl) (fun _ _ _ h => h) (Or.inl ⟨by rfl, ?_⟩) (by assumption) ?_
      rotate_left
      · simp only [List.getElem_toArray, List.getElem_cons_zero, List.getElem_cons_succ]; intro W hSw; (try dsimp only at hSw); go_simp; all_goals with_reducible rfl
      simp only [Act.put, List.getElem_toArray, List.getElem_cons_zero, List.getElem_cons_succ, List.setIfInBounds_toArray, List.set_cons_zero, List.set_cons_succ]
      refine wpAnyH_take (i := 1) (v := ?_) rfl (by kernel_rfl) (by kernel_rfl) (by kernel_rfl) (fun _ _ _ h => h) (Or.inl ⟨by rfl, ?_⟩) (by assumption) ?_
      rotate_left
      · simp only [List.getElem_toArray, List.getElem_cons_zero, List.getElem_cons_succ]; intro W hSw; (try dsimp only at hSw); go_simp; all_goals with_reducible rfl
      simp only [Act.put, List.getElem_toArray, List.getElem_cons_zero, List.getElem_cons_succ, List.setIfInBounds_toArray, List.set_cons_zero, List.set_cons_succ]
      refine wpAnyH_take (i := 2) (v := ?_) rfl (by kernel_rfl) (by kernel_rfl) (by kernel_rfl) (fun _ _ _ h => h) (Or.inl ⟨by rfl, ?_⟩) (by assumption) ?_
      rotate_left
      · simp only [List.getElem_toArray, List.getElem_cons_zero, List.getElem_cons_succ]; intro W hSw; (try dsimp only at hSw); go_simp; all_goals with_reducible rfl
      simp only [Act.put, List.getElem_toArray, List.getElem_cons_zero, List.getElem_cons_succ, List.setIfInBounds_toArray, List.set_cons_zero, List.set_cons_succ]
      refine wpAnyH_take (i := 3) (v := ?_) rfl (by kernel_rfl) (by kernel_rfl) (by kernel_rfl) (fun _ _ _ h => h) (Or.inl ⟨by rfl, ?_⟩) (by assumption) ?_
      rotate_left
      · simp only [List.getElem_toArray, List.getElem_cons_zero, List.getElem_cons_succ]; intro W hSw; (try dsimp only at hSw); go_simp; all_goals with_reducible rfl
      simp only [Act.put, List.getElem_toArray, List.getElem_cons_zero, List.getElem_cons_succ, List.setIfInBounds_toArray, List.set_cons_zero, List.set_cons_succ]
      refine wpAnyH_take (i := 4) (v := ?_) rfl (by kernel_rfl) (by kernel_rfl) (by kernel_rfl) (fun _ _ _ h => h) (Or.inl ⟨by rfl, ?_⟩) (by assumption) ?_
      rotate_left
      · simp only [List.getElem_toArray, List.getElem_cons_zero, List.getElem_cons_succ]; intro W hSw; (try dsimp only at hSw); go_simp; all_goals with_reducible rfl
      simp only [Act.put, List.getElem_toArray, List.getElem_cons_zero, List.getElem_cons_succ, List.setIfInBounds_toArray, List.set_cons_zero, List.set_cons_succ]
      refine wpAnyH_take (i := 5) (v := ?_) rfl (by kernel_rfl) (by kernel_rfl) (by kernel_rfl) (fun _ _ _ h => h) (Or.inl ⟨by rfl, ?_⟩) (by assumption) ?_
      rotate_left
      · simp only [List.getElem_toArray, List.getElem_cons_zero, List.getElem_cons_succ]; intro W hSw; (try dsimp only at hSw); go_simp; all_goals with_reducible rfl
      simp only [Act.put, List.getElem_toArray, List.getElem_cons_zero, List.getElem_cons_succ, List.setIfInBounds_toArray, List.set_cons_zero, List.set_cons_succ]
      refine wpAnyH_take (i := 6) (v := ?_) rfl (by kernel_rfl) (by kernel_rfl) (by kernel_rfl) (fun _ _ _ h => h) (Or.inl ⟨by rfl, ?_⟩) (by assumption) ?_
      rotate_left
      · simp only [List.getElem_toArray, List.getElem_cons_zero, List.getElem_cons_succ]; intro W hSw; (try dsimp only at hSw); go_simp; all_goals with_reducible rfl
      simp only [Act.put, List.getElem_toArray, List.getElem_cons_zero, List.getElem_cons_succ, List.setIfInBounds_toArray, List.set_cons_zero, List.set_cons_succ]
      refine wpAnyH_take (i := 7) (v := ?_) rfl (by kernel_rfl) (by kernel_rfl) (by kernel_rfl) (fun _ _ _ h => h) (Or.inl ⟨by rfl, ?_⟩) (by assumption) ?_
      rotate_left
      · simp only [List.getElem_toArray, List.getElem_cons_zero, List.getElem_cons_succ]; intro W hSw; (try dsimp only at hSw); go_simp; all_goals with_reducible rfl
      simp only [Act.put, List.getElem_toArray, List.getElem_cons_zero, List.getElem_cons_succ, List.setIfInBounds_toArray, List.set_cons_zero, List.set_cons_succ]
      refine wpAnyH_take (i := 8) (v := ?_) rfl (by kernel_rfl) (by kernel_rfl) (by kernel_rfl) (fun _ _ _ h => h) (Or.inl ⟨by rfl, ?_⟩) (by assumption) ?_
      rotate_left
      · simp only [List.getElem_toArray, List.getElem_cons_zero, List.getElem_cons_succ]; intro W hSw; (try dsimp only at hSw); go_simp; all_goals with_reducible rfl
      simp only [Act.put, List.getElem_toArray, List.getElem_cons_zero, List.getElem_cons_succ, List.setIfInBounds_toArray, List.set_cons_zero, List.set_cons_succ]
      refine wpAnyH_take (i := 9) (v := ?_) rfl (by kernel_rfl) (by kernel_rfl) (by kernel_rfl) (fun _ _ _ h => h) (Or.inl ⟨by rfl, ?_⟩) (by assumption) ?_
      rotate_left
      · simp only [List.getElem_toArray, List.getElem_cons_zero, List.getElem_cons_succ]; intro W hSw; (try dsimp only at hSw); go_simp; all_goals with_reducible rfl
      simp only [Act.put, List.getElem_toArray, List.getElem_cons_zero, List.getElem_cons_succ, List.setIfInBounds_toArray, List.set_cons_zero, List.set_cons_succ]
      refine wpAnyH_take (i := 10) (v := ?_) rfl (by kernel_rfl) (by kernel_rfl) (by kernel_rfl) (fun _ _ _ h => h) (Or.inl ⟨by rfl, ?_⟩) (by assumption) ?_
      rotate_left
      · simp only [List.getElem_toArray, List.getElem_cons_zero, List.getElem_cons_succ]; intro W hSw; (try dsimp only at hSw); go_simp; all_goals with_reducible rfl
      simp only [Act.put, List.getElem_toArray, List.getElem_cons_zero, List.getElem_cons_succ, List.setIfInBounds_toArray, List.set_cons_zero, List.set_cons_succ]
      refine wpAnyH_take (i := 11) (v := ?_) rfl (by kernel_rfl) (by kernel_rfl) (by kernel_rfl) (fun _ _ _ h => h) (Or.inl ⟨by rfl, ?_⟩) (by assumption) ?_
      rotate_left
      · simp only [List.getElem_toArray, List.getElem_cons_zero, List.getElem_cons_succ]; intro W hSw; (try dsimp only at hSw); go_simp; all_goals with_reducible rfl
      simp only [Act.put, List.getElem_toArray, List.getElem_cons_zero, List.getElem_cons_succ, List.setIfInBounds_toArray, List.set_cons_zero, List.set_cons_succ]
      refine wpAnyH_take (i := 12) (v := ?_) rfl (by kernel_rfl) (by kernel_rfl) (by kernel_rfl) (fun _ _ _ h => h) (Or.inl ⟨by rfl, ?_⟩) (by assumption) ?_
      rotate_left
      · simp only [List.getElem_toArray, List.getElem_cons_zero, List.getElem_cons_succ]; intro W hSw; (try dsimp only at hSw); go_simp; all_goals with_reducible rfl
      simp only [Act.put, List.getElem_toArray, List.getElem_cons_zero, List.getElem_cons_succ, List.setIfInBounds_toArray, List.set_cons_zero, List.set_cons_succ]
      refine wpAnyH_take (i := 13) (v := ?_) rfl (by kernel_rfl) (by kernel_rfl) (by kernel_rfl) (fun _ _ _ h => h) (Or.inl ⟨by rfl, ?_⟩) (by assumption) ?_
      rotate_left
      · simp only [List.getElem_toArray, List.getElem_cons_zero, List.getElem_cons_succ]; intro W hSw; (try dsimp only at hSw); go_simp; all_goals with_reducible rfl
      simp only [Act.put, List.getElem_toArray, List.getElem_cons_zero, List.getElem_cons_succ, List.setIfInBounds_toArray, List.set_cons_zero, List.set_cons_succ]
      refine wpAnyH_done (by kernel_rfl) ?_ _
      go_wp2_with fail
      go_ret
      exact ⟨by rw [HE.out]; rfl, HB3.out.drew⟩
    · have hq : (f.part == 0) = false := by simp [h0]
      have HE := Lib.hid (show E = false by rw [HE0.out, decide_eq_false h0, Bool.false_and])
      clear h0 HE0
      go_wp2_with fail
      refine wp_region_held_drew (S := fun W => (W.cell? ⟨w.heap.size, 1, none⟩ = some (.int .i64 f.inc) ∧ W.cell? ⟨w.heap.size, 2, none⟩ = some (.int .i64 f.part) ∧ W.cell? ⟨w.heap.size, 3, none⟩ = some (.int .i64 f.of) ∧ W.cell? ⟨w.heap.size, 4, none⟩ = some (.int .u32 (f.mark : Nat))) ∧ W.cell? ⟨Bs, 3, none⟩ = some (.int .i64 L.inc) ∧ W.cell? ⟨Bs, 4, none⟩ = some (.int .i64 L.part) ∧ W.cell? ⟨Bs, 5, none⟩ = some (.int .i64 L.of) ∧ W.cell? ⟨Bs, 6, none⟩ = some (.int .u32 (L.mark : Nat))) (by kernel_rfl) (HS.out _ rfl) (fun hHeld => ?_)
      refine wpAnyH_take (i := 0) (v := ?_) rfl (by kernel_rfl) (by kernel_rfl) (by kernel_rfl) (fun _ _ _ h => h) (Or.inl ⟨by rfl, ?_⟩) (by assumption) ?_
      rotate_left
      · simp only [List.getElem_toArray, List.getElem_cons_zero, List.getElem_cons_succ]; intro W hSw; (try dsimp only at hSw); go_simp; all_goals with_reducible rfl
      simp only [Act.put, List.getElem_toArray, List.getElem_cons_zero, List.getElem_cons_succ, List.setIfInBounds_toArray, List.set_cons_zero, List.set_cons_succ]
      refine wpAnyH_take (i := 1) (v := ?_) rfl (by kernel_rfl) (by kernel_rfl) (by kernel_rfl) (fun _ _ _ h => h) (Or.inl ⟨by rfl, ?_⟩) (by assumption) ?_
      rotate_left
      · simp only [List.getElem_toArray, List.getElem_cons_zero, List.getElem_cons_succ]; intro W hSw; (try dsimp only at hSw); go_simp; all_goals with_reducible rfl
      simp only [Act.put, List.getElem_toArray, List.getElem_cons_zero, List.getElem_cons_succ, List.setIfInBounds_toArray, List.set_cons_zero, List.set_cons_succ]
      refine wpAnyH_take (i := 2) (v := ?_) rfl (by kernel_rfl) (by kernel_rfl) (by kernel_rfl) (fun _ _ _ h => h) (Or.inl ⟨by rfl, ?_⟩) (by assumption) ?_
      rotate_left
      · simp only [List.getElem_toArray, List.getElem_cons_zero, List.getElem_cons_succ]; intro W hSw; (try dsimp only at hSw); go_simp; all_goals with_reducible rfl
      simp only [Act.put, List.getElem_toArray, List.getElem_cons_zero, List.getElem_cons_succ, List.setIfInBounds_toArray, List.set_cons_zero, List.set_cons_succ]
      refine wpAnyH_take (i := 3) (v := ?_) rfl (by kernel_rfl) (by kernel_rfl) (by kernel_rfl) (fun _ _ _ h => h) (Or.inl ⟨by rfl, ?_⟩) (by assumption) ?_
      rotate_left
      · simp only [List.getElem_toArray, List.getElem_cons_zero, List.getElem_cons_succ]; intro W hSw; (try dsimp only at hSw); go_simp; all_goals with_reducible rfl
      simp only [Act.put, List.getElem_toArray, List.getElem_cons_zero, List.getElem_cons_succ, List.setIfInBounds_toArray, List.set_cons_zero, List.set_cons_succ]
      refine wpAnyH_take (i := 4) (v := undef) rfl (by kernel_rfl) (by kernel_rfl) (by kernel_rfl) (fun _ _ _ h => h) (Or.inr ⟨by rfl, rfl⟩) (by assumption) ?_
      (try simp only [Act.put, List.getElem_toArray, List.getElem_cons_zero, List.getElem_cons_succ, List.setIfInBounds_toArray, List.set_cons_zero, List.set_cons_succ])
      refine wpAnyH_take (i := 5) (v := undef) rfl (by kernel_rfl) (by kernel_rfl) (by kernel_rfl) (fun _ _ _ h => h) (Or.inr ⟨by rfl, rfl⟩) (by assumption) ?_
      (try simp only [Act.put, List.getElem_toArray, List.getElem_cons_zero, List.getElem_cons_succ, List.setIfInBounds_toArray, List.set_cons_zero, List.set_cons_succ])
      refine wpAnyH_take (i := 6) (v := undef) rfl (by kernel_rfl) (by kernel_rfl) (by kernel_rfl) (fun _ _ _ h => h) (Or.inr ⟨by rfl, rfl⟩) (by assumption) ?_
      (try simp only [Act.put, List.getElem_toArray, List.getElem_cons_zero, List.getElem_cons_succ, List.setIfInBounds_toArray, List.set_cons_zero, List.set_cons_succ])
      refine wpAnyH_take (i := 7) (v := undef) rfl (by kernel_rfl) (by kernel_rfl) (by kernel_rfl) (fun _ _ _ h => h) (Or.inr ⟨by rfl, rfl⟩) (by assumption) ?_
      (try simp only [Act.put, List.getElem_toArray, List.getElem_cons_zero, List.getElem_cons_succ, List.setIfInBounds_toArray, List.set_cons_zero, List.set_cons_succ])
      refine wpAnyH_take (i := 8) (v := undef) rfl (by kernel_rfl) (by kernel_rfl) (by kernel_rfl) (fun _ _ _ h => h) (Or.inr ⟨by rfl, rfl⟩) (by assumption) ?_
      (try simp only [Act.put, List.getElem_toArray, List.getElem_cons_zero, List.getElem_cons_succ, List.setIfInBounds_toArray, List.set_cons_zero, List.set_cons_succ])
      refine wpAnyH_take (i := 9) (v := undef) rfl (by kernel_rfl) (by kernel_rfl) (by kernel_rfl) (fun _ _ _ h => h) (Or.inr ⟨by rfl, rfl⟩) (by assumption) ?_
      (try simp only [Act.put, List.getElem_toArray, List.getElem_cons_zero, List.getElem_cons_succ, List.setIfInBounds_toArray, List.set_cons_zero, List.set_cons_succ])
      refine wpAnyH_take (i := 10) (v := undef) rfl (by kernel_rfl) (by kernel_rfl) (by kernel_rfl) (fun _ _ _ h => h) (Or.inr ⟨by rfl, rfl⟩) (by assumption) ?_
      (try simp only [Act.put, List.getElem_toArray, List.getElem_cons_zero, List.getElem_cons_succ, List.setIfInBounds_toArray, List.set_cons_zero, List.set_cons_succ])
      refine wpAnyH_take (i := 11) (v := undef) rfl (by kernel_rfl) (by kernel_rfl) (by kernel_rfl) (fun _ _ _ h => h) (Or.inr ⟨by rfl, rfl⟩) (by assumption) ?_
      (try simp only [Act.put, List.getElem_toArray, List.getElem_cons_zero, List.getElem_cons_succ, List.setIfInBounds_toArray, List.set_cons_zero, List.set_cons_succ])
      refine wpAnyH_take (i := 12) (v := ?_) rfl (by kernel_rfl) (by kernel_rfl) (by kernel_rfl) (fun _ _ _ h => h) (Or.inl ⟨by rfl, ?_⟩) (by assumption) ?_
      rotate_left
      · simp only [List.getElem_toArray, List.getElem_cons_zero, List.getElem_cons_succ]; intro W hSw; (try dsimp only at hSw); go_simp; all_goals with_reducible rfl
      simp only [Act.put, List.getElem_toArray, List.getElem_cons_zero, List.getElem_cons_succ, List.setIfInBounds_toArray, List.set_cons_zero, List.set_cons_succ]
      refine wpAnyH_take (i := 13) (v := ?_) rfl (by kernel_rfl) (by kernel_rfl) (by kernel_rfl) (fun _ _ _ h => h) (Or.inl ⟨by rfl, ?_⟩) (by assumption) ?_
      rotate_left
      · simp only [List.getElem_toArray, List.getElem_cons_zero, List.getElem_cons_succ]; intro W hSw; (try dsimp only at hSw); go_simp; all_goals with_reducible rfl
      simp only [Act.put, List.getElem_toArray, List.getElem_cons_zero, List.getElem_cons_succ, List.setIfInBounds_toArray, List.set_cons_zero, List.set_cons_succ]
      refine wpAnyH_done (by kernel_rfl) ?_ _
      go_wp2_with fail
      go_ret
      exact ⟨by rw [HE.out]; rfl, HB3.out.drew⟩
  | true =>
    unfold nextB at HE0
    rw [hm, if_pos rfl] at HE0
    clear hm
    have e1 : decide (f.part = L.part + 1) = (f.part == L.part + 1) := by rw [Bool.eq_iff_iff, decide_eq_true_iff, beq_iff_eq]
    have e2 : decide (f.of = L.of) = (f.of == L.of) := by rw [Bool.eq_iff_iff, decide_eq_true_iff, beq_iff_eq]
    have e3 : decide (f.mark = L.mark) = ((f.mark : Int) == (L.mark : Int)) := by
      rw [Bool.eq_iff_iff, decide_eq_true_iff, beq_iff_eq]; omega
    have e4 : decide (f.inc = L.inc) = (f.inc == L.inc) := by rw [Bool.eq_iff_iff, decide_eq_true_iff, beq_iff_eq]
    rw [e1, e2, e3, e4] at HE0
    clear e1 e2 e3 e4
    cases h1 : (f.part == L.part + 1) with
    | false =>
      have HE := Lib.hid (show E = false by rw [HE0.out, h1, Bool.false_and])
      clear HE0
      go_wp2_with fail
      refine wp_region_held_drew (S := fun W => (W.cell? ⟨w.heap.size, 1, none⟩ = some (.int .i64 f.inc) ∧ W.cell? ⟨w.heap.size, 2, none⟩ = some (.int .i64 f.part) ∧ W.cell? ⟨w.heap.size, 3, none⟩ = some (.int .i64 f.of) ∧ W.cell? ⟨w.heap.size, 4, none⟩ = some (.int .u32 (f.mark : Nat))) ∧ W.cell? ⟨Bs, 3, none⟩ = some (.int .i64 L.inc) ∧ W.cell? ⟨Bs, 4, none⟩ = some (.int .i64 L.part) ∧ W.cell? ⟨Bs, 5, none⟩ = some (.int .i64 L.of) ∧ W.cell? ⟨Bs, 6, none⟩ = some (.int .u32 (L.mark : Nat))) (by kernel_rfl) (HS.out _ rfl) (fun hHeld => ?_)
      refine wpAnyH_take (i := 0) (v := ?_) rfl (by kernel_rfl) (by kernel_rfl) (by kernel_rfl) (fun _ _ _ h => h) (Or.inl ⟨by rfl, ?_⟩) (by assumption) ?_
      rotate_left
      · simp only [List.getElem_toArray, List.getElem_cons_zero, List.getElem_cons_succ]; intro W hSw; (try dsimp only at hSw); go_simp; all_goals with_reducible rfl
      simp only [Act.put, List.getElem_toArray, List.getElem_cons_zero, List.getElem_cons_succ, List.setIfInBounds_toArray, List.set_cons_zero, List.set_cons_succ]
      refine wpAnyH_take (i := 1) (v := ?_) rfl (by kernel_rfl) (by kernel_rfl) (by kernel_rfl) (fun _ _ _ h => h) (Or.inl ⟨by rfl, ?_⟩) (by assumption) ?_
      rotate_left
      · simp only [List.getElem_toArray, List.getElem_cons_zero, List.getElem_cons_succ]; intro W hSw; (try dsimp only at hSw); go_simp; all_goals with_reducible rfl
      simp only [Act.put, List.getElem_toArray, List.getElem_cons_zero, List.getElem_cons_succ, List.setIfInBounds_toArray, List.set_cons_zero, List.set_cons_succ]
      refine wpAnyH_take (i := 2) (v := ?_) rfl (by kernel_rfl) (by kernel_rfl) (by kernel_rfl) (fun _ _ _ h => h) (Or.inl ⟨by rfl, ?_⟩) (by assumption) ?_
      rotate_left
      · simp only [List.getElem_toArray, List.getElem_cons_zero, List.getElem_cons_succ]; intro W hSw; (try dsimp only at hSw); go_simp; all_goals with_reducible rfl
      simp only [Act.put, List.getElem_toArray, List.getElem_cons_zero, List.getElem_cons_succ, List.setIfInBounds_toArray, List.set_cons_zero, List.set_cons_succ]
      refine wpAnyH_take (i := 3) (v := ?_) rfl (by kernel_rfl) (by kernel_rfl) (by kernel_rfl) (fun _ _ _ h => h) (Or.inl ⟨by rfl, ?_⟩) (by assumption) ?_
      rotate_left
      · simp only [List.getElem_toArray, List.getElem_cons_zero, List.getElem_cons_succ]; intro W hSw; (try dsimp only at hSw); go_simp; all_goals with_reducible rfl
      simp only [Act.put, List.getElem_toArray, List.getElem_cons_zero, List.getElem_cons_succ, List.setIfInBounds_toArray, List.set_cons_zero, List.set_cons_succ]
      refine wpAnyH_take (i := 4) (v := ?_) rfl (by kernel_rfl) (by kernel_rfl) (by kernel_rfl) (fun _ _ _ h => h) (Or.inl ⟨by rfl, ?_⟩) (by assumption) ?_
      rotate_left
      · simp only [List.getElem_toArray, List.getElem_cons_zero, List.getElem_cons_succ]; intro W hSw; (try dsimp only at hSw); go_simp; all_goals with_reducible rfl
      simp only [Act.put, List.getElem_toArray, List.getElem_cons_zero, List.getElem_cons_succ, List.setIfInBounds_toArray, List.set_cons_zero, List.set_cons_succ]
      refine wpAnyH_take (i := 5) (v := ?_) rfl (by kernel_rfl) (by kernel_rfl) (by kernel_rfl) (fun _ _ _ h => h) (Or.inl ⟨by rfl, ?_⟩) (by assumption) ?_
      rotate_left
      · simp only [List.getElem_toArray, List.getElem_cons_zero, List.getElem_cons_succ]; intro W hSw; (try dsimp only at hSw); go_simp; all_goals with_reducible rfl
      simp only [Act.put, List.getElem_toArray, List.getElem_cons_zero, List.getElem_cons_succ, List.setIfInBounds_toArray, List.set_cons_zero, List.set_cons_succ]
      refine wpAnyH_take (i := 6) (v := ?_) rfl (by kernel_rfl) (by kernel_rfl) (by kernel_rfl) (fun _ _ _ h => h) (Or.inl ⟨by rfl, ?_⟩) (by assumption) ?_
      rotate_left
      · simp only [List.getElem_toArray, List.getElem_cons_zero, List.getElem_cons_succ]; intro W hSw; (try dsimp only at hSw); go_simp; all_goals with_reducible rfl
      simp only [Act.put, List.getElem_toArray, List.getElem_cons_zero, List.getElem_cons_succ, List.setIfInBounds_toArray, List.set_cons_zero, List.set_cons_succ]
      refine wpAnyH_take (i := 7) (v := ?_) rfl (by kernel_rfl) (by kernel_rfl) (by kernel_rfl) (fun _ _ _ h => h) (Or.inl ⟨by rfl, ?_⟩) (by assumption) ?_
      rotate_left
      · simp only [List.getElem_toArray, List.getElem_cons_zero, List.getElem_cons_succ]; intro W hSw; (try dsimp only at hSw); go_simp; all_goals with_reducible rfl
      simp only [Act.put, List.getElem_toArray, List.getElem_cons_zero, List.getElem_cons_succ, List.setIfInBounds_toArray, List.set_cons_zero, List.set_cons_succ]
      refine wpAnyH_take (i := 8) (v := ?_) rfl (by kernel_rfl) (by kernel_rfl) (by kernel_rfl) (fun _ _ _ h => h) (Or.inl ⟨by rfl, ?_⟩) (by assumption) ?_
      rotate_left
      · simp only [List.getElem_toArray, List.getElem_cons_zero, List.getElem_cons_succ]; intro W hSw; (try dsimp only at hSw); go_simp; all_goals with_reducible rfl
      simp only [Act.put, List.getElem_toArray, List.getElem_cons_zero, List.getElem_cons_succ, List.setIfInBounds_toArray, List.set_cons_zero, List.set_cons_succ]
      refine wpAnyH_take (i := 9) (v := ?_) rfl (by kernel_rfl) (by kernel_rfl) (by kernel_rfl) (fun _ _ _ h => h) (Or.inl ⟨by rfl, ?_⟩) (by assumption) ?_
      rotate_left
      · simp only [List.getElem_toArray, List.getElem_cons_zero, List.getElem_cons_succ]; intro W hSw; (try dsimp only at hSw); go_simp; all_goals with_reducible rfl
      simp only [Act.put, List.getElem_toArray, List.getElem_cons_zero, List.getElem_cons_succ, List.setIfInBounds_toArray, List.set_cons_zero, List.set_cons_succ]
      refine wpAnyH_take (i := 10) (v := undef) rfl (by kernel_rfl) (by kernel_rfl) (by kernel_rfl) (fun _ _ _ h => h) (Or.inr ⟨by rfl, rfl⟩) (by assumption) ?_
      (try simp only [Act.put, List.getElem_toArray, List.getElem_cons_zero, List.getElem_cons_succ, List.setIfInBounds_toArray, List.set_cons_zero, List.set_cons_succ])
      refine wpAnyH_take (i := 11) (v := undef) rfl (by kernel_rfl) (by kernel_rfl) (by kernel_rfl) (fun _ _ _ h => h) (Or.inr ⟨by rfl, rfl⟩) (by assumption) ?_
      (try simp only [Act.put, List.getElem_toArray, List.getElem_cons_zero, List.getElem_cons_succ, List.setIfInBounds_toArray, List.set_cons_zero, List.set_cons_succ])
      refine wpAnyH_take (i := 12) (v := undef) rfl (by kernel_rfl) (by kernel_rfl) (by kernel_rfl) (fun _ _ _ h => h) (Or.inr ⟨by rfl, rfl⟩) (by assumption) ?_
      (try simp only [Act.put, List.getElem_toArray, List.getElem_cons_zero, List.getElem_cons_succ, List.setIfInBounds_toArray, List.set_cons_zero, List.set_cons_succ])
      refine wpAnyH_take (i := 13) (v := undef) rfl (by kernel_rfl) (by kernel_rfl) (by kernel_rfl) (fun _ _ _ h => h) (Or.inr ⟨by rfl, rfl⟩) (by assumption) ?_
      (try simp only [Act.put, List.getElem_toArray, List.getElem_cons_zero, List.getElem_cons_succ, List.setIfInBounds_toArray, List.set_cons_zero, List.set_cons_succ])
      refine wpAnyH_take (i := 14) (v := undef) rfl (by kernel_rfl) (by kernel_rfl) (by kernel_rfl) (fun _ _ _ h => h) (Or.inr ⟨by rfl, rfl⟩) (by assumption) ?_
      (try simp only [Act.put, List.getElem_toArray, List.getElem_cons_zero, List.getElem_cons_succ, List.setIfInBounds_toArray, List.set_cons_zero, List.set_cons_succ])
      refine wpAnyH_take (i := 15) (v := undef) rfl (by kernel_rfl) (by kernel_rfl) (by kernel_rfl) (fun _ _ _ h => h) (Or.inr ⟨by rfl, rfl⟩) (by assumption) ?_
      (try simp only [Act.put, List.getElem_toArray, List.getElem_cons_zero, List.getElem_cons_succ, List.setIfInBounds_toArray, List.set_cons_zero, List.set_cons_succ])
      refine wpAnyH_take (i := 16) (v := undef) rfl (by kernel_rfl) (by kernel_rfl) (by kernel_rfl) (fun _ _ _ h => h) (Or.inr ⟨by rfl, rfl⟩) (by assumption) ?_
      (try simp only [Act.put, List.getElem_toArray, List.getElem_cons_zero, List.getElem_cons_succ, List.setIfInBounds_toArray, List.set_cons_zero, List.set_cons_succ])
      refine wpAnyH_take (i := 17) (v := undef) rfl (by kernel_rfl) (by kernel_rfl) (by kernel_rfl) (fun _ _ _ h => h) (Or.inr ⟨by rfl, rfl⟩) (by assumption) ?_
      (try simp only [Act.put, List.getElem_toArray, List.getElem_cons_zero, List.getElem_cons_succ, List.setIfInBounds_toArray, List.set_cons_zero, List.set_cons_succ])
      refine wpAnyH_take (i := 18) (v := ?_) rfl (by kernel_rfl) (by kernel_rfl) (by kernel_rfl) (fun _ _ _ h => h) (Or.inl ⟨by rfl, ?_⟩) (by assumption) ?_
      rotate_left
      · simp only [List.getElem_toArray, List.getElem_cons_zero, List.getElem_cons_succ]; intro W hSw; (try dsimp only at hSw); go_simp; all_goals with_reducible rfl
      simp only [Act.put, List.getElem_toArray, List.getElem_cons_zero, List.getElem_cons_succ, List.setIfInBounds_toArray, List.set_cons_zero, List.set_cons_succ]
      refine wpAnyH_take (i := 19) (v := ?_) rfl (by kernel_rfl) (by kernel_rfl) (by kernel_rfl) (fun _ _ _ h => h) (Or.inl ⟨by rfl, ?_⟩) (by assumption) ?_
      rotate_left
      · simp only [List.getElem_toArray, List.getElem_cons_zero, List.getElem_cons_succ]; intro W hSw; (try dsimp only at hSw); go_simp; all_goals with_reducible rfl
      simp only [Act.put, List.getElem_toArray, List.getElem_cons_zero, List.getElem_cons_succ, List.setIfInBounds_toArray, List.set_cons_zero, List.set_cons_succ]
      refine wpAnyH_take (i := 20) (v := undef) rfl (by kernel_rfl) (by kernel_rfl) (by kernel_rfl) (fun _ _ _ h => h) (Or.inr ⟨by rfl, rfl⟩) (by assumption) ?_
      (try simp only [Act.put, List.getElem_toArray, List.getElem_cons_zero, List.getElem_cons_succ, List.setIfInBounds_toArray, List.set_cons_zero, List.set_cons_succ])
      refine wpAnyH_take (i := 21) (v := undef) rfl (by kernel_rfl) (by kernel_rfl) (by kernel_rfl) (fun _ _ _ h => h) (Or.inr ⟨by rfl, rfl⟩) (by assumption) ?_
      (try simp only [Act.put, List.getElem_toArray, List.getElem_cons_zero, List.getElem_cons_succ, List.setIfInBounds_toArray, List.set_cons_zero, List.set_cons_succ])
      refine wpAnyH_take (i := 22) (v := undef) rfl (by kernel_rfl) (by kernel_rfl) (by kernel_rfl) (fun _ _ _ h => h) (Or.inr ⟨by rfl, rfl⟩) (by assumption) ?_
      (try simp only [Act.put, List.getElem_toArray, List.getElem_cons_zero, List.getElem_cons_succ, List.setIfInBounds_toArray, List.set_cons_zero, List.set_cons_succ])
      refine wpAnyH_take (i := 23) (v := undef) rfl (by kernel_rfl) (by kernel_rfl) (by kernel_rfl) (fun _ _ _ h => h) (Or.inr ⟨by rfl, rfl⟩) (by assumption) ?_
      (try simp only [Act.put, List.getElem_toArray, List.getElem_cons_zero, List.getElem_cons_succ, List.setIfInBounds_toArray, List.set_cons_zero, List.set_cons_succ])
      refine wpAnyH_take (i := 24) (v := undef) rfl (by kernel_rfl) (by kernel_rfl) (by kernel_rfl) (fun _ _ _ h => h) (Or.inr ⟨by rfl, rfl⟩) (by assumption) ?_
      (try simp only [Act.put, List.getElem_toArray, List.getElem_cons_zero, List.getElem_cons_succ, List.setIfInBounds_toArray, List.set_cons_zero, List.set_cons_succ])
      refine wpAnyH_take (i := 25) (v := undef) rfl (by kernel_rfl) (by kernel_rfl) (by kernel_rfl) (fun _ _ _ h => h) (Or.inr ⟨by rfl, rfl⟩) (by assumption) ?_
      (try simp only [Act.put, List.getElem_toArray, List.getElem_cons_zero, List.getElem_cons_succ, List.setIfInBounds_toArray, List.set_cons_zero, List.set_cons_succ])
      refine wpAnyH_take (i := 26) (v := undef) rfl (by kernel_rfl) (by kernel_rfl) (by kernel_rfl) (fun _ _ _ h => h) (Or.inr ⟨by rfl, rfl⟩) (by assumption) ?_
      (try simp only [Act.put, List.getElem_toArray, List.getElem_cons_zero, List.getElem_cons_succ, List.setIfInBounds_toArray, List.set_cons_zero, List.set_cons_succ])
      refine wpAnyH_take (i := 27) (v := undef) rfl (by kernel_rfl) (by kernel_rfl) (by kernel_rfl) (fun _ _ _ h => h) (Or.inr ⟨by rfl, rfl⟩) (by assumption) ?_
      (try simp only [Act.put, List.getElem_toArray, List.getElem_cons_zero, List.getElem_cons_succ, List.setIfInBounds_toArray, List.set_cons_zero, List.set_cons_succ])
      refine wpAnyH_take (i := 28) (v := ?_) rfl (by kernel_rfl) (by kernel_rfl) (by kernel_rfl) (fun _ _ _ h => h) (Or.inl ⟨by rfl, ?_⟩) (by assumption) ?_
      rotate_left
      · simp only [List.getElem_toArray, List.getElem_cons_zero, List.getElem_cons_succ]; intro W hSw; (try dsimp only at hSw); go_simp; all_goals with_reducible rfl
      simp only [Act.put, List.getElem_toArray, List.getElem_cons_zero, List.getElem_cons_succ, List.setIfInBounds_toArray, List.set_cons_zero, List.set_cons_succ]
      refine wpAnyH_take (i := 29) (v := ?_) rfl (by kernel_rfl) (by kernel_rfl) (by kernel_rfl) (fun _ _ _ h => h) (Or.inl ⟨by rfl, ?_⟩) (by assumption) ?_
      rotate_left
      · simp only [List.getElem_toArray, List.getElem_cons_zero, List.getElem_cons_succ]; intro W hSw; (try dsimp only at hSw); go_simp; all_goals with_reducible rfl
      simp only [Act.put, List.getElem_toArray, List.getElem_cons_zero, List.getElem_cons_succ, List.setIfInBounds_toArray, List.set_cons_zero, List.set_cons_succ]
      refine wpAnyH_take (i := 30) (v := undef) rfl (by kernel_rfl) (by kernel_rfl) (by kernel_rfl) (fun _ _ _ h => h) (Or.inr ⟨by rfl, rfl⟩) (by assumption) ?_
      (try simp only [Act.put, List.getElem_toArray, List.getElem_cons_zero, List.getElem_cons_succ, List.setIfInBounds_toArray, List.set_cons_zero, List.set_cons_succ])
      refine wpAnyH_take (i := 31) (v := undef) rfl (by kernel_rfl) (by kernel_rfl) (by kernel_rfl) (fun _ _ _ h => h) (Or.inr ⟨by rfl, rfl⟩) (by assumption) ?_
      (try simp only [Act.put, List.getElem_toArray, List.getElem_cons_zero, List.getElem_cons_succ, List.setIfInBounds_toArray, List.set_cons_zero, List.set_cons_succ])
      refine wpAnyH_take (i := 32) (v := undef) rfl (by kernel_rfl) (by kernel_rfl) (by kernel_rfl) (fun _ _ _ h => h) (Or.inr ⟨by rfl, rfl⟩) (by assumption) ?_
      (try simp only [Act.put, List.getElem_toArray, List.getElem_cons_zero, List.getElem_cons_succ, List.setIfInBounds_toArray, List.set_cons_zero, List.set_cons_succ])
      refine wpAnyH_take (i := 33) (v := undef) rfl (by kernel_rfl) (by kernel_rfl) (by kernel_rfl) (fun _ _ _ h => h) (Or.inr ⟨by rfl, rfl⟩) (by assumption) ?_
      (try simp only [Act.put, List.getElem_toArray, List.getElem_cons_zero, List.getElem_cons_succ, List.setIfInBounds_toArray, List.set_cons_zero, List.set_cons_succ])
      refine wpAnyH_take (i := 34) (v := undef) rfl (by kernel_rfl) (by kernel_rfl) (by kernel_rfl) (fun _ _ _ h => h) (Or.inr ⟨by rfl, rfl⟩) (by assumption) ?_
      (try simp only [Act.put, List.getElem_toArray, List.getElem_cons_zero, List.getElem_cons_succ, List.setIfInBounds_toArray, List.set_cons_zero, List.set_cons_succ])
      refine wpAnyH_take (i := 35) (v := undef) rfl (by kernel_rfl) (by kernel_rfl) (by kernel_rfl) (fun _ _ _ h => h) (Or.inr ⟨by rfl, rfl⟩) (by assumption) ?_
      (try simp only [Act.put, List.getElem_toArray, List.getElem_cons_zero, List.getElem_cons_succ, List.setIfInBounds_toArray, List.set_cons_zero, List.set_cons_succ])
      refine wpAnyH_take (i := 36) (v := undef) rfl (by kernel_rfl) (by kernel_rfl) (by kernel_rfl) (fun _ _ _ h => h) (Or.inr ⟨by rfl, rfl⟩) (by assumption) ?_
      (try simp only [Act.put, List.getElem_toArray, List.getElem_cons_zero, List.getElem_cons_succ, List.setIfInBounds_toArray, List.set_cons_zero, List.set_cons_succ])
      refine wpAnyH_take (i := 37) (v := undef) rfl (by kernel_rfl) (by kernel_rfl) (by kernel_rfl) (fun _ _ _ h => h) (Or.inr ⟨by rfl, rfl⟩) (by assumption) ?_
      (try simp only [Act.put, List.getElem_toArray, List.getElem_cons_zero, List.getElem_cons_succ, List.setIfInBounds_toArray, List.set_cons_zero, List.set_cons_succ])
      refine wpAnyH_take (i := 38) (v := ?_) rfl (by kernel_rfl) (by kernel_rfl) (by kernel_rfl) (fun _ _ _ h => h) (Or.inl ⟨by rfl, ?_⟩) (by assumption) ?_
      rotate_left
      · simp only [List.getElem_toArray, List.getElem_cons_zero, List.getElem_cons_succ]; intro W hSw; (try dsimp only at hSw); go_simp; all_goals with_reducible rfl
      simp only [Act.put, List.getElem_toArray, List.getElem_cons_zero, List.getElem_cons_succ, List.setIfInBounds_toArray, List.set_cons_zero, List.set_cons_succ]
      refine wpAnyH_take (i := 39) (v := ?_) rfl (by kernel_rfl) (by kernel_rfl) (by kernel_rfl) (fun _ _ _ h => h) (Or.inl ⟨by rfl, ?_⟩) (by assumption) ?_
      rotate_left
      · simp only [List.getElem_toArray, List.getElem_cons_zero, List.getElem_cons_succ]; intro W hSw; (try dsimp only at hSw); go_simp; all_goals with_reducible rfl
      simp only [Act.put, List.getElem_toArray, List.getElem_cons_zero, List.getElem_cons_succ, List.setIfInBounds_toArray, List.set_cons_zero, List.set_cons_succ]
      refine wpAnyH_done (by kernel_rfl) ?_ _
      go_wp2_with fail
      go_ret
      exact ⟨by rw [HE.out]; rfl, HB3.out.drew⟩
    | true =>
      cases h2 : (f.of == L.of) with
      | false =>
        have HE := Lib.hid (show E = false by rw [HE0.out, h1, h2, Bool.true_and, Bool.false_and])
        clear HE0
        go_wp2_with fail
        refine wp_region_held_drew (S := fun W => (W.cell? ⟨w.heap.size, 1, none⟩ = some (.int .i64 f.inc) ∧ W.cell? ⟨w.heap.size, 2, none⟩ = some (.int .i64 f.part) ∧ W.cell? ⟨w.heap.size, 3, none⟩ = some (.int .i64 f.of) ∧ W.cell? ⟨w.heap.size, 4, none⟩ = some (.int .u32 (f.mark : Nat))) ∧ W.cell? ⟨Bs, 3, none⟩ = some (.int .i64 L.inc) ∧ W.cell? ⟨Bs, 4, none⟩ = some (.int .i64 L.part) ∧ W.cell? ⟨Bs, 5, none⟩ = some (.int .i64 L.of) ∧ W.cell? ⟨Bs, 6, none⟩ = some (.int .u32 (L.mark : Nat))) (by kernel_rfl) (HS.out _ rfl) (fun hHeld => ?_)
        refine wpAnyH_take (i := 0) (v := ?_) rfl (by kernel_rfl) (by kernel_rfl) (by kernel_rfl) (fun _ _ _ h => h) (Or.inl ⟨by rfl, ?_⟩) (by assumption) ?_
        rotate_left
        · simp only [List.getElem_toArray, List.getElem_cons_zero, List.getElem_cons_succ]; intro W hSw; (try dsimp only at hSw); go_simp; all_goals with_reducible rfl
        simp only [Act.put, List.getElem_toArray, List.getElem_cons_zero, List.getElem_cons_succ, List.setIfInBounds_toArray, List.set_cons_zero, List.set_cons_succ]
        refine wpAnyH_take (i := 1) (v := ?_) rfl (by kernel_rfl) (by kernel_rfl) (by kernel_rfl) (fun _ _ _ h => h) (Or.inl ⟨by rfl, ?_⟩) (by assumption) ?_
        rotate_left
        · simp only [List.getElem_toArray, List.getElem_cons_zero, List.getElem_cons_succ]; intro W hSw; (try dsimp only at hSw); go_simp; all_goals with_reducible rfl
        simp only [Act.put, List.getElem_toArray, List.getElem_cons_zero, List.getElem_cons_succ, List.setIfInBounds_toArray, List.set_cons_zero, List.set_cons_succ]
        refine wpAnyH_take (i := 2) (v := ?_) rfl (by kernel_rfl) (by kernel_rfl) (by kernel_rfl) (fun _ _ _ h => h) (Or.inl ⟨by rfl, ?_⟩) (by assumption) ?_
        rotate_left
        · simp only [List.getElem_toArray, List.getElem_cons_zero, List.getElem_cons_succ]; intro W hSw; (try dsimp only at hSw); go_simp; all_goals with_reducible rfl
        simp only [Act.put, List.getElem_toArray, List.getElem_cons_zero, List.getElem_cons_succ, List.setIfInBounds_toArray, List.set_cons_zero, List.set_cons_succ]
        refine wpAnyH_take (i := 3) (v := ?_) rfl (by kernel_rfl) (by kernel_rfl) (by kernel_rfl) (fun _ _ _ h => h) (Or.inl ⟨by rfl, ?_⟩) (by assumption) ?_
        rotate_left
        · simp only [List.getElem_toArray, List.getElem_cons_zero, List.getElem_cons_succ]; intro W hSw; (try dsimp only at hSw); go_simp; all_goals with_reducible rfl
        simp only [Act.put, List.getElem_toArray, List.getElem_cons_zero, List.getElem_cons_succ, List.setIfInBounds_toArray, List.set_cons_zero, List.set_cons_succ]
        refine wpAnyH_take (i := 4) (v := ?_) rfl (by kernel_rfl) (by kernel_rfl) (by kernel_rfl) (fun _ _ _ h => h) (Or.inl ⟨by rfl, ?_⟩) (by assumption) ?_
        rotate_left
        · simp only [List.getElem_toArray, List.getElem_cons_zero, List.getElem_cons_succ]; intro W hSw; (try dsimp only at hSw); go_simp; all_goals with_reducible rfl
        simp only [Act.put, List.getElem_toArray, List.getElem_cons_zero, List.getElem_cons_succ, List.setIfInBounds_toArray, List.set_cons_zero, List.set_cons_succ]
        refine wpAnyH_take (i := 5) (v := ?_) rfl (by kernel_rfl) (by kernel_rfl) (by kernel_rfl) (fun _ _ _ h => h) (Or.inl ⟨by rfl, ?_⟩) (by assumption) ?_
        rotate_left
        · simp only [List.getElem_toArray, List.getElem_cons_zero, List.getElem_cons_succ]; intro W hSw; (try dsimp only at hSw); go_simp; all_goals with_reducible rfl
        simp only [Act.put, List.getElem_toArray, List.getElem_cons_zero, List.getElem_cons_succ, List.setIfInBounds_toArray, List.set_cons_zero, List.set_cons_succ]
        refine wpAnyH_take (i := 6) (v := ?_) rfl (by kernel_rfl) (by kernel_rfl) (by kernel_rfl) (fun _ _ _ h => h) (Or.inl ⟨by rfl, ?_⟩) (by assumption) ?_
        rotate_left
        · simp only [List.getElem_toArray, List.getElem_cons_zero, List.getElem_cons_succ]; intro W hSw; (try dsimp only at hSw); go_simp; all_goals with_reducible rfl
        simp only [Act.put, List.getElem_toArray, List.getElem_cons_zero, List.getElem_cons_succ, List.setIfInBounds_toArray, List.set_cons_zero, List.set_cons_succ]
        refine wpAnyH_take (i := 7) (v := ?_) rfl (by kernel_rfl) (by kernel_rfl) (by kernel_rfl) (fun _ _ _ h => h) (Or.inl ⟨by rfl, ?_⟩) (by assumption) ?_
        rotate_left
        · simp only [List.getElem_toArray, List.getElem_cons_zero, List.getElem_cons_succ]; intro W hSw; (try dsimp only at hSw); go_simp; all_goals with_reducible rfl
        simp only [Act.put, List.getElem_toArray, List.getElem_cons_zero, List.getElem_cons_succ, List.setIfInBounds_toArray, List.set_cons_zero, List.set_cons_succ]
        refine wpAnyH_take (i := 8) (v := ?_) rfl (by kernel_rfl) (by kernel_rfl) (by kernel_rfl) (fun _ _ _ h => h) (Or.inl ⟨by rfl, ?_⟩) (by assumption) ?_
        rotate_left
        · simp only [List.getElem_toArray, List.getElem_cons_zero, List.getElem_cons_succ]; intro W hSw; (try dsimp only at hSw); go_simp; all_goals with_reducible rfl
        simp only [Act.put, List.getElem_toArray, List.getElem_cons_zero, List.getElem_cons_succ, List.setIfInBounds_toArray, List.set_cons_zero, List.set_cons_succ]
        refine wpAnyH_take (i := 9) (v := ?_) rfl (by kernel_rfl) (by kernel_rfl) (by kernel_rfl) (fun _ _ _ h => h) (Or.inl ⟨by rfl, ?_⟩) (by assumption) ?_
        rotate_left
        · simp only [List.getElem_toArray, List.getElem_cons_zero, List.getElem_cons_succ]; intro W hSw; (try dsimp only at hSw); go_simp; all_goals with_reducible rfl
        simp only [Act.put, List.getElem_toArray, List.getElem_cons_zero, List.getElem_cons_succ, List.setIfInBounds_toArray, List.set_cons_zero, List.set_cons_succ]
        refine wpAnyH_take (i := 10) (v := ?_) rfl (by kernel_rfl) (by kernel_rfl) (by kernel_rfl) (fun _ _ _ h => h) (Or.inl ⟨by rfl, ?_⟩) (by assumption) ?_
        rotate_left
        · simp only [List.getElem_toArray, List.getElem_cons_zero, List.getElem_cons_succ]; intro W hSw; (try dsimp only at hSw); go_simp; all_goals with_reducible rfl
        simp only [Act.put, List.getElem_toArray, List.getElem_cons_zero, List.getElem_cons_succ, List.setIfInBounds_toArray, List.set_cons_zero, List.set_cons_succ]
        refine wpAnyH_take (i := 11) (v := ?_) rfl (by kernel_rfl) (by kernel_rfl) (by kernel_rfl) (fun _ _ _ h => h) (Or.inl ⟨by rfl, ?_⟩) (by assumption) ?_
        rotate_left
        · simp only [List.getElem_toArray, List.getElem_cons_zero, List.getElem_cons_succ]; intro W hSw; (try dsimp only at hSw); go_simp; all_goals with_reducible rfl
        simp only [Act.put, List.getElem_toArray, List.getElem_cons_zero, List.getElem_cons_succ, List.setIfInBounds_toArray, List.set_cons_zero, List.set_cons_succ]
        refine wpAnyH_take (i := 12) (v := ?_) rfl (by kernel_rfl) (by kernel_rfl) (by kernel_rfl) (fun _ _ _ h => h) (Or.inl ⟨by rfl, ?_⟩) (by assumption) ?_
        rotate_left
        · simp only [List.getElem_toArray, List.getElem_cons_zero, List.getElem_cons_succ]; intro W hSw; (try dsimp only at hSw); go_simp; all_goals with_reducible rfl
        simp only [Act.put, List.getElem_toArray, List.getElem_cons_zero, List.getElem_cons_succ, List.setIfInBounds_toArray, List.set_cons_zero, List.set_cons_succ]
        refine wpAnyH_take (i := 13) (v := ?_) rfl (by kernel_rfl) (by kernel_rfl) (by kernel_rfl) (fun _ _ _ h => h) (Or.inl ⟨by rfl, ?_⟩) (by assumption) ?_
        rotate_left
        · simp only [List.getElem_toArray, List.getElem_cons_zero, List.getElem_cons_succ]; intro W hSw; (try dsimp only at hSw); go_simp; all_goals with_reducible rfl
        simp only [Act.put, List.getElem_toArray, List.getElem_cons_zero, List.getElem_cons_succ, List.setIfInBounds_toArray, List.set_cons_zero, List.set_cons_succ]
        refine wpAnyH_take (i := 14) (v := ?_) rfl (by kernel_rfl) (by kernel_rfl) (by kernel_rfl) (fun _ _ _ h => h) (Or.inl ⟨by rfl, ?_⟩) (by assumption) ?_
        rotate_left
        · simp only [List.getElem_toArray, List.getElem_cons_zero, List.getElem_cons_succ]; intro W hSw; (try dsimp only at hSw); go_simp; all_goals with_reducible rfl
        simp only [Act.put, List.getElem_toArray, List.getElem_cons_zero, List.getElem_cons_succ, List.setIfInBounds_toArray, List.set_cons_zero, List.set_cons_succ]
        refine wpAnyH_take (i := 15) (v := ?_) rfl (by kernel_rfl) (by kernel_rfl) (by kernel_rfl) (fun _ _ _ h => h) (Or.inl ⟨by rfl, ?_⟩) (by assumption) ?_
        rotate_left
        · simp only [List.getElem_toArray, List.getElem_cons_zero, List.getElem_cons_succ]; intro W hSw; (try dsimp only at hSw); go_simp; all_goals with_reducible rfl
        simp only [Act.put, List.getElem_toArray, List.getElem_cons_zero, List.getElem_cons_succ, List.setIfInBounds_toArray, List.set_cons_zero, List.set_cons_succ]
        refine wpAnyH_take (i := 16) (v := ?_) rfl (by kernel_rfl) (by kernel_rfl) (by kernel_rfl) (fun _ _ _ h => h) (Or.inl ⟨by rfl, ?_⟩) (by assumption) ?_
        rotate_left
        · simp only [List.getElem_toArray, List.getElem_cons_zero, List.getElem_cons_succ]; intro W hSw; (try dsimp only at hSw); go_simp; all_goals with_reducible rfl
        simp only [Act.put, List.getElem_toArray, List.getElem_cons_zero, List.getElem_cons_succ, List.setIfInBounds_toArray, List.set_cons_zero, List.set_cons_succ]
        refine wpAnyH_take (i := 17) (v := ?_) rfl (by kernel_rfl) (by kernel_rfl) (by kernel_rfl) (fun _ _ _ h => h) (Or.inl ⟨by rfl, ?_⟩) (by assumption) ?_
        rotate_left
        · simp only [List.getElem_toArray, List.getElem_cons_zero, List.getElem_cons_succ]; intro W hSw; (try dsimp only at hSw); go_simp; all_goals with_reducible rfl
        simp only [Act.put, List.getElem_toArray, List.getElem_cons_zero, List.getElem_cons_succ, List.setIfInBounds_toArray, List.set_cons_zero, List.set_cons_succ]
        refine wpAnyH_take (i := 18) (v := ?_) rfl (by kernel_rfl) (by kernel_rfl) (by kernel_rfl) (fun _ _ _ h => h) (Or.inl ⟨by rfl, ?_⟩) (by assumption) ?_
        rotate_left
        · simp only [List.getElem_toArray, List.getElem_cons_zero, List.getElem_cons_succ]; intro W hSw; (try dsimp only at hSw); go_simp; all_goals with_reducible rfl
        simp only [Act.put, List.getElem_toArray, List.getElem_cons_zero, List.getElem_cons_succ, List.setIfInBounds_toArray, List.set_cons_zero, List.set_cons_succ]
        refine wpAnyH_take (i := 19) (v := ?_) rfl (by kernel_rfl) (by kernel_rfl) (by kernel_rfl) (fun _ _ _ h => h) (Or.inl ⟨by rfl, ?_⟩) (by assumption) ?_
        rotate_left
        · simp only [List.getElem_toArray, List.getElem_cons_zero, List.getElem_cons_succ]; intro W hSw; (try dsimp only at hSw); go_simp; all_goals with_reducible rfl
        simp only [Act.put, List.getElem_toArray, List.getElem_cons_zero, List.getElem_cons_succ, List.setIfInBounds_toArray, List.set_cons_zero, List.set_cons_succ]
        refine wpAnyH_take (i := 20) (v := undef) rfl (by kernel_rfl) (by kernel_rfl) (by kernel_rfl) (fun _ _ _ h => h) (Or.inr ⟨by rfl, rfl⟩) (by assumption) ?_
        (try simp only [Act.put, List.getElem_toArray, List.getElem_cons_zero, List.getElem_cons_succ, List.setIfInBounds_toArray, List.set_cons_zero, List.set_cons_succ])
        refine wpAnyH_take (i := 21) (v := undef) rfl (by kernel_rfl) (by kernel_rfl) (by kernel_rfl) (fun _ _ _ h => h) (Or.inr ⟨by rfl, rfl⟩) (by assumption) ?_
        (try simp only [Act.put, List.getElem_toArray, List.getElem_cons_zero, List.getElem_cons_succ, List.setIfInBounds_toArray, List.set_cons_zero, List.set_cons_succ])
        refine wpAnyH_take (i := 22) (v := undef) rfl (by kernel_rfl) (by kernel_rfl) (by kernel_rfl) (fun _ _ _ h => h) (Or.inr ⟨by rfl, rfl⟩) (by assumption) ?_
        (try simp only [Act.put, List.getElem_toArray, List.getElem_cons_zero, List.getElem_cons_succ, List.setIfInBounds_toArray, List.set_cons_zero, List.set_cons_succ])
        refine wpAnyH_take (i := 23) (v := undef) rfl (by kernel_rfl) (by kernel_rfl) (by kernel_rfl) (fun _ _ _ h => h) (Or.inr ⟨by rfl, rfl⟩) (by assumption) ?_
        (try simp only [Act.put, List.getElem_toArray, List.getElem_cons_zero, List.getElem_cons_succ, List.setIfInBounds_toArray, List.set_cons_zero, List.set_cons_succ])
        refine wpAnyH_take (i := 24) (v := undef) rfl (by kernel_rfl) (by kernel_rfl) (by kernel_rfl) (fun _ _ _ h => h) (Or.inr ⟨by rfl, rfl⟩) (by assumption) ?_
        (try simp only [Act.put, List.getElem_toArray, List.getElem_cons_zero, List.getElem_cons_succ, List.setIfInBounds_toArray, List.set_cons_zero, List.set_cons_succ])
        refine wpAnyH_take (i := 25) (v := undef) rfl (by kernel_rfl) (by kernel_rfl) (by kernel_rfl) (fun _ _ _ h => h) (Or.inr ⟨by rfl, rfl⟩) (by assumption) ?_
        (try simp only [Act.put, List.getElem_toArray, List.getElem_cons_zero, List.getElem_cons_succ, List.setIfInBounds_toArray, List.set_cons_zero, List.set_cons_succ])
        refine wpAnyH_take (i := 26) (v := undef) rfl (by kernel_rfl) (by kernel_rfl) (by kernel_rfl) (fun _ _ _ h => h) (Or.inr ⟨by rfl, rfl⟩) (by assumption) ?_
        (try simp only [Act.put, List.getElem_toArray, List.getElem_cons_zero, List.getElem_cons_succ, List.setIfInBounds_toArray, List.set_cons_zero, List.set_cons_succ])
        refine wpAnyH_take (i := 27) (v := undef) rfl (by kernel_rfl) (by kernel_rfl) (by kernel_rfl) (fun _ _ _ h => h) (Or.inr ⟨by rfl, rfl⟩) (by assumption) ?_
        (try simp only [Act.put, List.getElem_toArray, List.getElem_cons_zero, List.getElem_cons_succ, List.setIfInBounds_toArray, List.set_cons_zero, List.set_cons_succ])
        refine wpAnyH_take (i := 28) (v := ?_) rfl (by kernel_rfl) (by kernel_rfl) (by kernel_rfl) (fun _ _ _ h => h) (Or.inl ⟨by rfl, ?_⟩) (by assumption) ?_
        rotate_left
        · simp only [List.getElem_toArray, List.getElem_cons_zero, List.getElem_cons_succ]; intro W hSw; (try dsimp only at hSw); go_simp; all_goals with_reducible rfl
        simp only [Act.put, List.getElem_toArray, List.getElem_cons_zero, List.getElem_cons_succ, List.setIfInBounds_toArray, List.set_cons_zero, List.set_cons_succ]
        refine wpAnyH_take (i := 29) (v := ?_) rfl (by kernel_rfl) (by kernel_rfl) (by kernel_rfl) (fun _ _ _ h => h) (Or.inl ⟨by rfl, ?_⟩) (by assumption) ?_
        rotate_left
        · simp only [List.getElem_toArray, List.getElem_cons_zero, List.getElem_cons_succ]; intro W hSw; (try dsimp only at hSw); go_simp; all_goals with_reducible rfl
        simp only [Act.put, List.getElem_toArray, List.getElem_cons_zero, List.getElem_cons_succ, List.setIfInBounds_toArray, List.set_cons_zero, List.set_cons_succ]
        refine wpAnyH_take (i := 30) (v := undef) rfl (by kernel_rfl) (by kernel_rfl) (by kernel_rfl) (fun _ _ _ h => h) (Or.inr ⟨by rfl, rfl⟩) (by assumption) ?_
        (try simp only [Act.put, List.getElem_toArray, List.getElem_cons_zero, List.getElem_cons_succ, List.setIfInBounds_toArray, List.set_cons_zero, List.set_cons_succ])
        refine wpAnyH_take (i := 31) (v := undef) rfl (by kernel_rfl) (by kernel_rfl) (by kernel_rfl) (fun _ _ _ h => h) (Or.inr ⟨by rfl, rfl⟩) (by assumption) ?_
        (try simp only [Act.put, List.getElem_toArray, List.getElem_cons_zero, List.getElem_cons_succ, List.setIfInBounds_toArray, List.set_cons_zero, List.set_cons_succ])
        refine wpAnyH_take (i := 32) (v := undef) rfl (by kernel_rfl) (by kernel_rfl) (by kernel_rfl) (fun _ _ _ h => h) (Or.inr ⟨by rfl, rfl⟩) (by assumption) ?_
        (try simp only [Act.put, List.getElem_toArray, List.getElem_cons_zero, List.getElem_cons_succ, List.setIfInBounds_toArray, List.set_cons_zero, List.set_cons_succ])
        refine wpAnyH_take (i := 33) (v := undef) rfl (by kernel_rfl) (by kernel_rfl) (by kernel_rfl) (fun _ _ _ h => h) (Or.inr ⟨by rfl, rfl⟩) (by assumption) ?_
        (try simp only [Act.put, List.getElem_toArray, List.getElem_cons_zero, List.getElem_cons_succ, List.setIfInBounds_toArray, List.set_cons_zero, List.set_cons_succ])
        refine wpAnyH_take (i := 34) (v := undef) rfl (by kernel_rfl) (by kernel_rfl) (by kernel_rfl) (fun _ _ _ h => h) (Or.inr ⟨by rfl, rfl⟩) (by assumption) ?_
        (try simp only [Act.put, List.getElem_toArray, List.getElem_cons_zero, List.getElem_cons_succ, List.setIfInBounds_toArray, List.set_cons_zero, List.set_cons_succ])
        refine wpAnyH_take (i := 35) (v := undef) rfl (by kernel_rfl) (by kernel_rfl) (by kernel_rfl) (fun _ _ _ h => h) (Or.inr ⟨by rfl, rfl⟩) (by assumption) ?_
        (try simp only [Act.put, List.getElem_toArray, List.getElem_cons_zero, List.getElem_cons_succ, List.setIfInBounds_toArray, List.set_cons_zero, List.set_cons_succ])
        refine wpAnyH_take (i := 36) (v := undef) rfl (by kernel_rfl) (by kernel_rfl) (by kernel_rfl) (fun _ _ _ h => h) (Or.inr ⟨by rfl, rfl⟩) (by assumption) ?_
        (try simp only [Act.put, List.getElem_toArray, List.getElem_cons_zero, List.getElem_cons_succ, List.setIfInBounds_toArray, List.set_cons_zero, List.set_cons_succ])
        refine wpAnyH_take (i := 37) (v := undef) rfl (by kernel_rfl) (by kernel_rfl) (by kernel_rfl) (fun _ _ _ h => h) (Or.inr ⟨by rfl, rfl⟩) (by assumption) ?_
        (try simp only [Act.put, List.getElem_toArray, List.getElem_cons_zero, List.getElem_cons_succ, List.setIfInBounds_toArray, List.set_cons_zero, List.set_cons_succ])
        refine wpAnyH_take (i := 38) (v := ?_) rfl (by kernel_rfl) (by kernel_rfl) (by kernel_rfl) (fun _ _ _ h => h) (Or.inl ⟨by rfl, ?_⟩) (by assumption) ?_
        rotate_left
        · simp only [List.getElem_toArray, List.getElem_cons_zero, List.getElem_cons_succ]; intro W hSw; (try dsimp only at hSw); go_simp; all_goals with_reducible rfl
        simp only [Act.put, List.getElem_toArray, List.getElem_cons_zero, List.getElem_cons_succ, List.setIfInBounds_toArray, List.set_cons_zero, List.set_cons_succ]
        refine wpAnyH_take (i := 39) (v := ?_) rfl (by kernel_rfl) (by kernel_rfl) (by kernel_rfl) (fun _ _ _ h => h) (Or.inl ⟨by rfl, ?_⟩) (by assumption) ?_
        rotate_left
        · simp only [List.getElem_toArray, List.getElem_cons_zero, List.getElem_cons_succ]; intro W hSw; (try dsimp only at hSw); go_simp; all_goals with_reducible rfl
        simp only [Act.put, List.getElem_toArray, List.getElem_cons_zero, List.getElem_cons_succ, List.setIfInBounds_toArray, List.set_cons_zero, List.set_cons_succ]
        refine wpAnyH_done (by kernel_rfl) ?_ _
        go_wp2_with fail
        go_ret
        exact ⟨by rw [HE.out]; rfl, HB3.out.drew⟩
      | true =>
        cases h3 : ((f.mark : Int) == (L.mark : Int)) with
        | false =>
          have HE := Lib.hid (show E = false by rw [HE0.out, h1, h2, h3]; rfl)
          clear HE0
          go_wp2_with fail
          refine wp_region_held_drew (S := fun W => (W.cell? ⟨w.heap.size, 1, none⟩ = some (.int .i64 f.inc) ∧ W.cell? ⟨w.heap.size, 2, none⟩ = some (.int .i64 f.part) ∧ W.cell? ⟨w.heap.size, 3, none⟩ = some (.int .i64 f.of) ∧ W.cell? ⟨w.heap.size, 4, none⟩ = some (.int .u32 (f.mark : Nat))) ∧ W.cell? ⟨Bs, 3, none⟩ = some (.int .i64 L.inc) ∧ W.cell? ⟨Bs, 4, none⟩ = some (.int .i64 L.part) ∧ W.cell? ⟨Bs, 5, none⟩ = some (.int .i64 L.of) ∧ W.cell? ⟨Bs, 6, none⟩ = some (.int .u32 (L.mark : Nat))) (by kernel_rfl) (HS.out _ rfl) (fun hHeld => ?_)
          refine wpAnyH_take (i := 0) (v := ?_) rfl (by kernel_rfl) (by kernel_rfl) (by kernel_rfl) (fun _ _ _ h => h) (Or.inl ⟨by rfl, ?_⟩) (by assumption) ?_
          rotate_left
          · simp only [List.getElem_toArray, List.getElem_cons_zero, List.getElem_cons_succ]; intro W hSw; (try dsimp only at hSw); go_simp; all_goals with_reducible rfl
          simp only [Act.put, List.getElem_toArray, List.getElem_cons_zero, List.getElem_cons_succ, List.setIfInBounds_toArray, List.set_cons_zero, List.set_cons_succ]
          refine wpAnyH_take (i := 1) (v := ?_) rfl (by kernel_rfl) (by kernel_rfl) (by kernel_rfl) (fun _ _ _ h => h) (Or.inl ⟨by rfl, ?_⟩) (by assumption) ?_
          rotate_left
          · simp only [List.getElem_toArray, List.getElem_cons_zero, List.getElem_cons_succ]; intro W hSw; (try dsimp only at hSw); go_simp; all_goals with_reducible rfl
          simp only [Act.put, List.getElem_toArray, List.getElem_cons_zero, List.getElem_cons_succ, List.setIfInBounds_toArray, List.set_cons_zero, List.set_cons_succ]
          refine wpAnyH_take (i := 2) (v := ?_) rfl (by kernel_rfl) (by kernel_rfl) (by kernel_rfl) (fun _ _ _ h => h) (Or.inl ⟨by rfl, ?_⟩) (by assumption) ?_
          rotate_left
          · simp only [List.getElem_toArray, List.getElem_cons_zero, List.getElem_cons_succ]; intro W hSw; (try dsimp only at hSw); go_simp; all_goals with_reducible rfl
          simp only [Act.put, List.getElem_toArray, List.getElem_cons_zero, List.getElem_cons_succ, List.setIfInBounds_toArray, List.set_cons_zero, List.set_cons_succ]
          refine wpAnyH_take (i := 3) (v := ?_) rfl (by kernel_rfl) (by kernel_rfl) (by kernel_rfl) (fun _ _ _ h => h) (Or.inl ⟨by rfl, ?_⟩) (by assumption) ?_
          rotate_left
          · simp only [List.getElem_toArray, List.getElem_cons_zero, List.getElem_cons_succ]; intro W hSw; (try dsimp only at hSw); go_simp; all_goals with_reducible rfl
          simp only [Act.put, List.getElem_toArray, List.getElem_cons_zero, List.getElem_cons_succ, List.setIfInBounds_toArray, List.set_cons_zero, List.set_cons_succ]
          refine wpAnyH_take (i := 4) (v := ?_) rfl (by kernel_rfl) (by kernel_rfl) (by kernel_rfl) (fun _ _ _ h => h) (Or.inl ⟨by rfl, ?_⟩) (by assumption) ?_
          rotate_left
          · simp only [List.getElem_toArray, List.getElem_cons_zero, List.getElem_cons_succ]; intro W hSw; (try dsimp only at hSw); go_simp; all_goals with_reducible rfl
          simp only [Act.put, List.getElem_toArray, List.getElem_cons_zero, List.getElem_cons_succ, List.setIfInBounds_toArray, List.set_cons_zero, List.set_cons_succ]
          refine wpAnyH_take (i := 5) (v := ?_) rfl (by kernel_rfl) (by kernel_rfl) (by kernel_rfl) (fun _ _ _ h => h) (Or.inl ⟨by rfl, ?_⟩) (by assumption) ?_
          rotate_left
          · simp only [List.getElem_toArray, List.getElem_cons_zero, List.getElem_cons_succ]; intro W hSw; (try dsimp only at hSw); go_simp; all_goals with_reducible rfl
          simp only [Act.put, List.getElem_toArray, List.getElem_cons_zero, List.getElem_cons_succ, List.setIfInBounds_toArray, List.set_cons_zero, List.set_cons_succ]
          refine wpAnyH_take (i := 6) (v := ?_) rfl (by kernel_rfl) (by kernel_rfl) (by kernel_rfl) (fun _ _ _ h => h) (Or.inl ⟨by rfl, ?_⟩) (by assumption) ?_
          rotate_left
          · simp only [List.getElem_toArray, List.getElem_cons_zero, List.getElem_cons_succ]; intro W hSw; (try dsimp only at hSw); go_simp; all_goals with_reducible rfl
          simp only [Act.put, List.getElem_toArray, List.getElem_cons_zero, List.getElem_cons_succ, List.setIfInBounds_toArray, List.set_cons_zero, List.set_cons_succ]
          refine wpAnyH_take (i := 7) (v := ?_) rfl (by kernel_rfl) (by kernel_rfl) (by kernel_rfl) (fun _ _ _ h => h) (Or.inl ⟨by rfl, ?_⟩) (by assumption) ?_
          rotate_left
          · simp only [List.getElem_toArray, List.getElem_cons_zero, List.getElem_cons_succ]; intro W hSw; (try dsimp only at hSw); go_simp; all_goals with_reducible rfl
          simp only [Act.put, List.getElem_toArray, List.getElem_cons_zero, List.getElem_cons_succ, List.setIfInBounds_toArray, List.set_cons_zero, List.set_cons_succ]
          refine wpAnyH_take (i := 8) (v := ?_) rfl (by kernel_rfl) (by kernel_rfl) (by kernel_rfl) (fun _ _ _ h => h) (Or.inl ⟨by rfl, ?_⟩) (by assumption) ?_
          rotate_left
          · simp only [List.getElem_toArray, List.getElem_cons_zero, List.getElem_cons_succ]; intro W hSw; (try dsimp only at hSw); go_simp; all_goals with_reducible rfl
          simp only [Act.put, List.getElem_toArray, List.getElem_cons_zero, List.getElem_cons_succ, List.setIfInBounds_toArray, List.set_cons_zero, List.set_cons_succ]
          refine wpAnyH_take (i := 9) (v := ?_) rfl (by kernel_rfl) (by kernel_rfl) (by kernel_rfl) (fun _ _ _ h => h) (Or.inl ⟨by rfl, ?_⟩) (by assumption) ?_
          rotate_left
          · simp only [List.getElem_toArray, List.getElem_cons_zero, List.getElem_cons_succ]; intro W hSw; (try dsimp only at hSw); go_simp; all_goals with_reducible rfl
          simp only [Act.put, List.getElem_toArray, List.getElem_cons_zero, List.getElem_cons_succ, List.setIfInBounds_toArray, List.set_cons_zero, List.set_cons_succ]
          refine wpAnyH_take (i := 10) (v := ?_) rfl (by kernel_rfl) (by kernel_rfl) (by kernel_rfl) (fun _ _ _ h => h) (Or.inl ⟨by rfl, ?_⟩) (by assumption) ?_
          rotate_left
          · simp only [List.getElem_toArray, List.getElem_cons_zero, List.getElem_cons_succ]; intro W hSw; (try dsimp only at hSw); go_simp; all_goals with_reducible rfl
          simp only [Act.put, List.getElem_toArray, List.getElem_cons_zero, List.getElem_cons_succ, List.setIfInBounds_toArray, List.set_cons_zero, List.set_cons_succ]
          refine wpAnyH_take (i := 11) (v := ?_) rfl (by kernel_rfl) (by kernel_rfl) (by kernel_rfl) (fun _ _ _ h => h) (Or.inl ⟨by rfl, ?_⟩) (by assumption) ?_
          rotate_left
          · simp only [List.getElem_toArray, List.getElem_cons_zero, List.getElem_cons_succ]; intro W hSw; (try dsimp only at hSw); go_simp; all_goals with_reducible rfl
          simp only [Act.put, List.getElem_toArray, List.getElem_cons_zero, List.getElem_cons_succ, List.setIfInBounds_toArray, List.set_cons_zero, List.set_cons_succ]
          refine wpAnyH_take (i := 12) (v := ?_) rfl (by kernel_rfl) (by kernel_rfl) (by kernel_rfl) (fun _ _ _ h => h) (Or.inl ⟨by rfl, ?_⟩) (by assumption) ?_
          rotate_left
          · simp only [List.getElem_toArray, List.getElem_cons_zero, List.getElem_cons_succ]; intro W hSw; (try dsimp only at hSw); go_simp; all_goals with_reducible rfl
          simp only [Act.put, List.getElem_toArray, List.getElem_cons_zero, List.getElem_cons_succ, List.setIfInBounds_toArray, List.set_cons_zero, List.set_cons_succ]
          refine wpAnyH_take (i := 13) (v := ?_) rfl (by kernel_rfl) (by kernel_rfl) (by kernel_rfl) (fun _ _ _ h => h) (Or.inl ⟨by rfl, ?_⟩) (by assumption) ?_
          rotate_left
          · simp only [List.getElem_toArray, List.getElem_cons_zero, List.getElem_cons_succ]; intro W hSw; (try dsimp only at hSw); go_simp; all_goals with_reducible rfl
          simp only [Act.put, List.getElem_toArray, List.getElem_cons_zero, List.getElem_cons_succ, List.setIfInBounds_toArray, List.set_cons_zero, List.set_cons_succ]
          refine wpAnyH_take (i := 14) (v := ?_) rfl (by kernel_rfl) (by kernel_rfl) (by kernel_rfl) (fun _ _ _ h => h) (Or.inl ⟨by rfl, ?_⟩) (by assumption) ?_
          rotate_left
          · simp only [List.getElem_toArray, List.getElem_cons_zero, List.getElem_cons_succ]; intro W hSw; (try dsimp only at hSw); go_simp; all_goals with_reducible rfl
          simp only [Act.put, List.getElem_toArray, List.getElem_cons_zero, List.getElem_cons_succ, List.setIfInBounds_toArray, List.set_cons_zero, List.set_cons_succ]
          refine wpAnyH_take (i := 15) (v := ?_) rfl (by kernel_rfl) (by kernel_rfl) (by kernel_rfl) (fun _ _ _ h => h) (Or.inl ⟨by rfl, ?_⟩) (by assumption) ?_
          rotate_left
          · simp only [List.getElem_toArray, List.getElem_cons_zero, List.getElem_cons_succ]; intro W hSw; (try dsimp only at hSw); go_simp; all_goals with_reducible rfl
          simp only [Act.put, List.getElem_toArray, List.getElem_cons_zero, List.getElem_cons_succ, List.setIfInBounds_toArray, List.set_cons_zero, List.set_cons_succ]
          refine wpAnyH_take (i := 16) (v := ?_) rfl (by kernel_rfl) (by kernel_rfl) (by kernel_rfl) (fun _ _ _ h => h) (Or.inl ⟨by rfl, ?_⟩) (by assumption) ?_
          rotate_left
          · simp only [List.getElem_toArray, List.getElem_cons_zero, List.getElem_cons_succ]; intro W hSw; (try dsimp only at hSw); go_simp; all_goals with_reducible rfl
          simp only [Act.put, List.getElem_toArray, List.getElem_cons_zero, List.getElem_cons_succ, List.setIfInBounds_toArray, List.set_cons_zero, List.set_cons_succ]
          refine wpAnyH_take (i := 17) (v := ?_) rfl (by kernel_rfl) (by kernel_rfl) (by kernel_rfl) (fun _ _ _ h => h) (Or.inl ⟨by rfl, ?_⟩) (by assumption) ?_
          rotate_left
          · simp only [List.getElem_toArray, List.getElem_cons_zero, List.getElem_cons_succ]; intro W hSw; (try dsimp only at hSw); go_simp; all_goals with_reducible rfl
          simp only [Act.put, List.getElem_toArray, List.getElem_cons_zero, List.getElem_cons_succ, List.setIfInBounds_toArray, List.set_cons_zero, List.set_cons_succ]
          refine wpAnyH_take (i := 18) (v := ?_) rfl (by kernel_rfl) (by kernel_rfl) (by kernel_rfl) (fun _ _ _ h => h) (Or.inl ⟨by rfl, ?_⟩) (by assumption) ?_
          rotate_left
          · simp only [List.getElem_toArray, List.getElem_cons_zero, List.getElem_cons_succ]; intro W hSw; (try dsimp only at hSw); go_simp; all_goals with_reducible rfl
          simp only [Act.put, List.getElem_toArray, List.getElem_cons_zero, List.getElem_cons_succ, List.setIfInBounds_toArray, List.set_cons_zero, List.set_cons_succ]
          refine wpAnyH_take (i := 19) (v := ?_) rfl (by kernel_rfl) (by kernel_rfl) (by kernel_rfl) (fun _ _ _ h => h) (Or.inl ⟨by rfl, ?_⟩) (by assumption) ?_
          rotate_left
          · simp only [List.getElem_toArray, List.getElem_cons_zero, List.getElem_cons_succ]; intro W hSw; (try dsimp only at hSw); go_simp; all_goals with_reducible rfl
          simp only [Act.put, List.getElem_toArray, List.getElem_cons_zero, List.getElem_cons_succ, List.setIfInBounds_toArray, List.set_cons_zero, List.set_cons_succ]
          refine wpAnyH_take (i := 20) (v := ?_) rfl (by kernel_rfl) (by kernel_rfl) (by kernel_rfl) (fun _ _ _ h => h) (Or.inl ⟨by rfl, ?_⟩) (by assumption) ?_
          rotate_left
          · simp only [List.getElem_toArray, List.getElem_cons_zero, List.getElem_cons_succ]; intro W hSw; (try dsimp only at hSw); go_simp; all_goals with_reducible rfl
          simp only [Act.put, List.getElem_toArray, List.getElem_cons_zero, List.getElem_cons_succ, List.setIfInBounds_toArray, List.set_cons_zero, List.set_cons_succ]
          refine wpAnyH_take (i := 21) (v := ?_) rfl (by kernel_rfl) (by kernel_rfl) (by kernel_rfl) (fun _ _ _ h => h) (Or.inl ⟨by rfl, ?_⟩) (by assumption) ?_
          rotate_left
          · simp only [List.getElem_toArray, List.getElem_cons_zero, List.getElem_cons_succ]; intro W hSw; (try dsimp only at hSw); go_simp; all_goals with_reducible rfl
          simp only [Act.put, List.getElem_toArray, List.getElem_cons_zero, List.getElem_cons_succ, List.setIfInBounds_toArray, List.set_cons_zero, List.set_cons_succ]
          refine wpAnyH_take (i := 22) (v := ?_) rfl (by kernel_rfl) (by kernel_rfl) (by kernel_rfl) (fun _ _ _ h => h) (Or.inl ⟨by rfl, ?_⟩) (by assumption) ?_
          rotate_left
          · simp only [List.getElem_toArray, List.getElem_cons_zero, List.getElem_cons_succ]; intro W hSw; (try dsimp only at hSw); go_simp; all_goals with_reducible rfl
          simp only [Act.put, List.getElem_toArray, List.getElem_cons_zero, List.getElem_cons_succ, List.setIfInBounds_toArray, List.set_cons_zero, List.set_cons_succ]
          refine wpAnyH_take (i := 23) (v := ?_) rfl (by kernel_rfl) (by kernel_rfl) (by kernel_rfl) (fun _ _ _ h => h) (Or.inl ⟨by rfl, ?_⟩) (by assumption) ?_
          rotate_left
          · simp only [List.getElem_toArray, List.getElem_cons_zero, List.getElem_cons_succ]; intro W hSw; (try dsimp only at hSw); go_simp; all_goals with_reducible rfl
          simp only [Act.put, List.getElem_toArray, List.getElem_cons_zero, List.getElem_cons_succ, List.setIfInBounds_toArray, List.set_cons_zero, List.set_cons_succ]
          refine wpAnyH_take (i := 24) (v := ?_) rfl (by kernel_rfl) (by kernel_rfl) (by kernel_rfl) (fun _ _ _ h => h) (Or.inl ⟨by rfl, ?_⟩) (by assumption) ?_
          rotate_left
          · simp only [List.getElem_toArray, List.getElem_cons_zero, List.getElem_cons_succ]; intro W hSw; (try dsimp only at hSw); go_simp; all_goals with_reducible rfl
          simp only [Act.put, List.getElem_toArray, List.getElem_cons_zero, List.getElem_cons_succ, List.setIfInBounds_toArray, List.set_cons_zero, List.set_cons_succ]
          refine wpAnyH_take (i := 25) (v := ?_) rfl (by kernel_rfl) (by kernel_rfl) (by kernel_rfl) (fun _ _ _ h => h) (Or.inl ⟨by rfl, ?_⟩) (by assumption) ?_
          rotate_left
          · simp only [List.getElem_toArray, List.getElem_cons_zero, List.getElem_cons_succ]; intro W hSw; (try dsimp only at hSw); go_simp; all_goals with_reducible rfl
          simp only [Act.put, List.getElem_toArray, List.getElem_cons_zero, List.getElem_cons_succ, List.setIfInBounds_toArray, List.set_cons_zero, List.set_cons_succ]
          refine wpAnyH_take (i := 26) (v := ?_) rfl (by kernel_rfl) (by kernel_rfl) (by kernel_rfl) (fun _ _ _ h => h) (Or.inl ⟨by rfl, ?_⟩) (by assumption) ?_
          rotate_left
          · simp only [List.getElem_toArray, List.getElem_cons_zero, List.getElem_cons_succ]; intro W hSw; (try dsimp only at hSw); go_simp; all_goals with_reducible rfl
          simp only [Act.put, List.getElem_toArray, List.getElem_cons_zero, List.getElem_cons_succ, List.setIfInBounds_toArray, List.set_cons_zero, List.set_cons_succ]
          refine wpAnyH_take (i := 27) (v := ?_) rfl (by kernel_rfl) (by kernel_rfl) (by kernel_rfl) (fun _ _ _ h => h) (Or.inl ⟨by rfl, ?_⟩) (by assumption) ?_
          rotate_left
          · simp only [List.getElem_toArray, List.getElem_cons_zero, List.getElem_cons_succ]; intro W hSw; (try dsimp only at hSw); go_simp; all_goals with_reducible rfl
          simp only [Act.put, List.getElem_toArray, List.getElem_cons_zero, List.getElem_cons_succ, List.setIfInBounds_toArray, List.set_cons_zero, List.set_cons_succ]
          refine wpAnyH_take (i := 28) (v := ?_) rfl (by kernel_rfl) (by kernel_rfl) (by kernel_rfl) (fun _ _ _ h => h) (Or.inl ⟨by rfl, ?_⟩) (by assumption) ?_
          rotate_left
          · simp only [List.getElem_toArray, List.getElem_cons_zero, List.getElem_cons_succ]; intro W hSw; (try dsimp only at hSw); go_simp; all_goals with_reducible rfl
          simp only [Act.put, List.getElem_toArray, List.getElem_cons_zero, List.getElem_cons_succ, List.setIfInBounds_toArray, List.set_cons_zero, List.set_cons_succ]
          refine wpAnyH_take (i := 29) (v := ?_) rfl (by kernel_rfl) (by kernel_rfl) (by kernel_rfl) (fun _ _ _ h => h) (Or.inl ⟨by rfl, ?_⟩) (by assumption) ?_
          rotate_left
          · simp only [List.getElem_toArray, List.getElem_cons_zero, List.getElem_cons_succ]; intro W hSw; (try dsimp only at hSw); go_simp; all_goals with_reducible rfl
          simp only [Act.put, List.getElem_toArray, List.getElem_cons_zero, List.getElem_cons_succ, List.setIfInBounds_toArray, List.set_cons_zero, List.set_cons_succ]
          refine wpAnyH_take (i := 30) (v := undef) rfl (by kernel_rfl) (by kernel_rfl) (by kernel_rfl) (fun _ _ _ h => h) (Or.inr ⟨by rfl, rfl⟩) (by assumption) ?_
          (try simp only [Act.put, List.getElem_toArray, List.getElem_cons_zero, List.getElem_cons_succ, List.setIfInBounds_toArray, List.set_cons_zero, List.set_cons_succ])
          refine wpAnyH_take (i := 31) (v := undef) rfl (by kernel_rfl) (by kernel_rfl) (by kernel_rfl) (fun _ _ _ h => h) (Or.inr ⟨by rfl, rfl⟩) (by assumption) ?_
          (try simp only [Act.put, List.getElem_toArray, List.getElem_cons_zero, List.getElem_cons_succ, List.setIfInBounds_toArray, List.set_cons_zero, List.set_cons_succ])
          refine wpAnyH_take (i := 32) (v := undef) rfl (by kernel_rfl) (by kernel_rfl) (by kernel_rfl) (fun _ _ _ h => h) (Or.inr ⟨by rfl, rfl⟩) (by assumption) ?_
          (try simp only [Act.put, List.getElem_toArray, List.getElem_cons_zero, List.getElem_cons_succ, List.setIfInBounds_toArray, List.set_cons_zero, List.set_cons_succ])
          refine wpAnyH_take (i := 33) (v := undef) rfl (by kernel_rfl) (by kernel_rfl) (by kernel_rfl) (fun _ _ _ h => h) (Or.inr ⟨by rfl, rfl⟩) (by assumption) ?_
          (try simp only [Act.put, List.getElem_toArray, List.getElem_cons_zero, List.getElem_cons_succ, List.setIfInBounds_toArray, List.set_cons_zero, List.set_cons_succ])
          refine wpAnyH_take (i := 34) (v := undef) rfl (by kernel_rfl) (by kernel_rfl) (by kernel_rfl) (fun _ _ _ h => h) (Or.inr ⟨by rfl, rfl⟩) (by assumption) ?_
          (try simp only [Act.put, List.getElem_toArray, List.getElem_cons_zero, List.getElem_cons_succ, List.setIfInBounds_toArray, List.set_cons_zero, List.set_cons_succ])
          refine wpAnyH_take (i := 35) (v := undef) rfl (by kernel_rfl) (by kernel_rfl) (by kernel_rfl) (fun _ _ _ h => h) (Or.inr ⟨by rfl, rfl⟩) (by assumption) ?_
          (try simp only [Act.put, List.getElem_toArray, List.getElem_cons_zero, List.getElem_cons_succ, List.setIfInBounds_toArray, List.set_cons_zero, List.set_cons_succ])
          refine wpAnyH_take (i := 36) (v := undef) rfl (by kernel_rfl) (by kernel_rfl) (by kernel_rfl) (fun _ _ _ h => h) (Or.inr ⟨by rfl, rfl⟩) (by assumption) ?_
          (try simp only [Act.put, List.getElem_toArray, List.getElem_cons_zero, List.getElem_cons_succ, List.setIfInBounds_toArray, List.set_cons_zero, List.set_cons_succ])
          refine wpAnyH_take (i := 37) (v := undef) rfl (by kernel_rfl) (by kernel_rfl) (by kernel_rfl) (fun _ _ _ h => h) (Or.inr ⟨by rfl, rfl⟩) (by assumption) ?_
          (try simp only [Act.put, List.getElem_toArray, List.getElem_cons_zero, List.getElem_cons_succ, List.setIfInBounds_toArray, List.set_cons_zero, List.set_cons_succ])
          refine wpAnyH_take (i := 38) (v := ?_) rfl (by kernel_rfl) (by kernel_rfl) (by kernel_rfl) (fun _ _ _ h => h) (Or.inl ⟨by rfl, ?_⟩) (by assumption) ?_
          rotate_left
          · simp only [List.getElem_toArray, List.getElem_cons_zero, List.getElem_cons_succ]; intro W hSw; (try dsimp only at hSw); go_simp; all_goals with_reducible rfl
          simp only [Act.put, List.getElem_toArray, List.getElem_cons_zero, List.getElem_cons_succ, List.setIfInBounds_toArray, List.set_cons_zero, List.set_cons_succ]
          refine wpAnyH_take (i := 39) (v := ?_) rfl (by kernel_rfl) (by kernel_rfl) (by kernel_rfl) (fun _ _ _ h => h) (Or.inl ⟨by rfl, ?_⟩) (by assumption) ?_
          rotate_left
          · simp only [List.getElem_toArray, List.getElem_cons_zero, List.getElem_cons_succ]; intro W hSw; (try dsimp only at hSw); go_simp; all_goals with_reducible rfl
          simp only [Act.put, List.getElem_toArray, List.getElem_cons_zero, List.getElem_cons_succ, List.setIfInBounds_toArray, List.set_cons_zero, List.set_cons_succ]
          refine wpAnyH_done (by kernel_rfl) ?_ _
          go_wp2_with fail
          go_ret
          exact ⟨by rw [HE.out]; rfl, HB3.out.drew⟩
        | true =>
          have HE := Lib.hid (show E = (f.inc == L.inc) by rw [HE0.out, h1, h2, h3]; rfl)
          clear HE0
          go_wp2_with fail
          refine wp_region_held_drew (S := fun W => (W.cell? ⟨w.heap.size, 1, none⟩ = some (.int .i64 f.inc) ∧ W.cell? ⟨w.heap.size, 2, none⟩ = some (.int .i64 f.part) ∧ W.cell? ⟨w.heap.size, 3, none⟩ = some (.int .i64 f.of) ∧ W.cell? ⟨w.heap.size, 4, none⟩ = some (.int .u32 (f.mark : Nat))) ∧ W.cell? ⟨Bs, 3, none⟩ = some (.int .i64 L.inc) ∧ W.cell? ⟨Bs, 4, none⟩ = some (.int .i64 L.part) ∧ W.cell? ⟨Bs, 5, none⟩ = some (.int .i64 L.of) ∧ W.cell? ⟨Bs, 6, none⟩ = some (.int .u32 (L.mark : Nat))) (by kernel_rfl) (HS.out _ rfl) (fun hHeld => ?_)
          refine wpAnyH_take (i := 0) (v := ?_) rfl (by kernel_rfl) (by kernel_rfl) (by kernel_rfl) (fun _ _ _ h => h) (Or.inl ⟨by rfl, ?_⟩) (by assumption) ?_
          rotate_left
          · simp only [List.getElem_toArray, List.getElem_cons_zero, List.getElem_cons_succ]; intro W hSw; (try dsimp only at hSw); go_simp; all_goals with_reducible rfl
          simp only [Act.put, List.getElem_toArray, List.getElem_cons_zero, List.getElem_cons_succ, List.setIfInBounds_toArray, List.set_cons_zero, List.set_cons_succ]
          refine wpAnyH_take (i := 1) (v := ?_) rfl (by kernel_rfl) (by kernel_rfl) (by kernel_rfl) (fun _ _ _ h => h) (Or.inl ⟨by rfl, ?_⟩) (by assumption) ?_
          rotate_left
          · simp only [List.getElem_toArray, List.getElem_cons_zero, List.getElem_cons_succ]; intro W hSw; (try dsimp only at hSw); go_simp; all_goals with_reducible rfl
          simp only [Act.put, List.getElem_toArray, List.getElem_cons_zero, List.getElem_cons_succ, List.setIfInBounds_toArray, List.set_cons_zero, List.set_cons_succ]
          refine wpAnyH_take (i := 2) (v := ?_) rfl (by kernel_rfl) (by kernel_rfl) (by kernel_rfl) (fun _ _ _ h => h) (Or.inl ⟨by rfl, ?_⟩) (by assumption) ?_
          rotate_left
          · simp only [List.getElem_toArray, List.getElem_cons_zero, List.getElem_cons_succ]; intro W hSw; (try dsimp only at hSw); go_simp; all_goals with_reducible rfl
          simp only [Act.put, List.getElem_toArray, List.getElem_cons_zero, List.getElem_cons_succ, List.setIfInBounds_toArray, List.set_cons_zero, List.set_cons_succ]
          refine wpAnyH_take (i := 3) (v := ?_) rfl (by kernel_rfl) (by kernel_rfl) (by kernel_rfl) (fun _ _ _ h => h) (Or.inl ⟨by rfl, ?_⟩) (by assumption) ?_
          rotate_left
          · simp only [List.getElem_toArray, List.getElem_cons_zero, List.getElem_cons_succ]; intro W hSw; (try dsimp only at hSw); go_simp; all_goals with_reducible rfl
          simp only [Act.put, List.getElem_toArray, List.getElem_cons_zero, List.getElem_cons_succ, List.setIfInBounds_toArray, List.set_cons_zero, List.set_cons_succ]
          refine wpAnyH_take (i := 4) (v := ?_) rfl (by kernel_rfl) (by kernel_rfl) (by kernel_rfl) (fun _ _ _ h => h) (Or.inl ⟨by rfl, ?_⟩) (by assumption) ?_
          rotate_left
          · simp only [List.getElem_toArray, List.getElem_cons_zero, List.getElem_cons_succ]; intro W hSw; (try dsimp only at hSw); go_simp; all_goals with_reducible rfl
          simp only [Act.put, List.getElem_toArray, List.getElem_cons_zero, List.getElem_cons_succ, List.setIfInBounds_toArray, List.set_cons_zero, List.set_cons_succ]
          refine wpAnyH_take (i := 5) (v := ?_) rfl (by kernel_rfl) (by kernel_rfl) (by kernel_rfl) (fun _ _ _ h => h) (Or.inl ⟨by rfl, ?_⟩) (by assumption) ?_
          rotate_left
          · simp only [List.getElem_toArray, List.getElem_cons_zero, List.getElem_cons_succ]; intro W hSw; (try dsimp only at hSw); go_simp; all_goals with_reducible rfl
          simp only [Act.put, List.getElem_toArray, List.getElem_cons_zero, List.getElem_cons_succ, List.setIfInBounds_toArray, List.set_cons_zero, List.set_cons_succ]
          refine wpAnyH_take (i := 6) (v := ?_) rfl (by kernel_rfl) (by kernel_rfl) (by kernel_rfl) (fun _ _ _ h => h) (Or.inl ⟨by rfl, ?_⟩) (by assumption) ?_
          rotate_left
          · simp only [List.getElem_toArray, List.getElem_cons_zero, List.getElem_cons_succ]; intro W hSw; (try dsimp only at hSw); go_simp; all_goals with_reducible rfl
          simp only [Act.put, List.getElem_toArray, List.getElem_cons_zero, List.getElem_cons_succ, List.setIfInBounds_toArray, List.set_cons_zero, List.set_cons_succ]
          refine wpAnyH_take (i := 7) (v := ?_) rfl (by kernel_rfl) (by kernel_rfl) (by kernel_rfl) (fun _ _ _ h => h) (Or.inl ⟨by rfl, ?_⟩) (by assumption) ?_
          rotate_left
          · simp only [List.getElem_toArray, List.getElem_cons_zero, List.getElem_cons_succ]; intro W hSw; (try dsimp only at hSw); go_simp; all_goals with_reducible rfl
          simp only [Act.put, List.getElem_toArray, List.getElem_cons_zero, List.getElem_cons_succ, List.setIfInBounds_toArray, List.set_cons_zero, List.set_cons_succ]
          refine wpAnyH_take (i := 8) (v := ?_) rfl (by kernel_rfl) (by kernel_rfl) (by kernel_rfl) (fun _ _ _ h => h) (Or.inl ⟨by rfl, ?_⟩) (by assumption) ?_
          rotate_left
          · simp only [List.getElem_toArray, List.getElem_cons_zero, List.getElem_cons_succ]; intro W hSw; (try dsimp only at hSw); go_simp; all_goals with_reducible rfl
          simp only [Act.put, List.getElem_toArray, List.getElem_cons_zero, List.getElem_cons_succ, List.setIfInBounds_toArray, List.set_cons_zero, List.set_cons_succ]
          refine wpAnyH_take (i := 9) (v := ?_) rfl (by kernel_rfl) (by kernel_rfl) (by kernel_rfl) (fun _ _ _ h => h) (Or.inl ⟨by rfl, ?_⟩) (by assumption) ?_
          rotate_left
          · simp only [List.getElem_toArray, List.getElem_cons_zero, List.getElem_cons_succ]; intro W hSw; (try dsimp only at hSw); go_simp; all_goals with_reducible rfl
          simp only [Act.put, List.getElem_toArray, List.getElem_cons_zero, List.getElem_cons_succ, List.setIfInBounds_toArray, List.set_cons_zero, List.set_cons_succ]
          refine wpAnyH_take (i := 10) (v := ?_) rfl (by kernel_rfl) (by kernel_rfl) (by kernel_rfl) (fun _ _ _ h => h) (Or.inl ⟨by rfl, ?_⟩) (by assumption) ?_
          rotate_left
          · simp only [List.getElem_toArray, List.getElem_cons_zero, List.getElem_cons_succ]; intro W hSw; (try dsimp only at hSw); go_simp; all_goals with_reducible rfl
          simp only [Act.put, List.getElem_toArray, List.getElem_cons_zero, List.getElem_cons_succ, List.setIfInBounds_toArray, List.set_cons_zero, List.set_cons_succ]
          refine wpAnyH_take (i := 11) (v := ?_) rfl (by kernel_rfl) (by kernel_rfl) (by kernel_rfl) (fun _ _ _ h => h) (Or.inl ⟨by rfl, ?_⟩) (by assumption) ?_
          rotate_left
          · simp only [List.getElem_toArray, List.getElem_cons_zero, List.getElem_cons_succ]; intro W hSw; (try dsimp only at hSw); go_simp; all_goals with_reducible rfl
          simp only [Act.put, List.getElem_toArray, List.getElem_cons_zero, List.getElem_cons_succ, List.setIfInBounds_toArray, List.set_cons_zero, List.set_cons_succ]
          refine wpAnyH_take (i := 12) (v := ?_) rfl (by kernel_rfl) (by kernel_rfl) (by kernel_rfl) (fun _ _ _ h => h) (Or.inl ⟨by rfl, ?_⟩) (by assumption) ?_
          rotate_left
          · simp only [List.getElem_toArray, List.getElem_cons_zero, List.getElem_cons_succ]; intro W hSw; (try dsimp only at hSw); go_simp; all_goals with_reducible rfl
          simp only [Act.put, List.getElem_toArray, List.getElem_cons_zero, List.getElem_cons_succ, List.setIfInBounds_toArray, List.set_cons_zero, List.set_cons_succ]
          refine wpAnyH_take (i := 13) (v := ?_) rfl (by kernel_rfl) (by kernel_rfl) (by kernel_rfl) (fun _ _ _ h => h) (Or.inl ⟨by rfl, ?_⟩) (by assumption) ?_
          rotate_left
          · simp only [List.getElem_toArray, List.getElem_cons_zero, List.getElem_cons_succ]; intro W hSw; (try dsimp only at hSw); go_simp; all_goals with_reducible rfl
          simp only [Act.put, List.getElem_toArray, List.getElem_cons_zero, List.getElem_cons_succ, List.setIfInBounds_toArray, List.set_cons_zero, List.set_cons_succ]
          refine wpAnyH_take (i := 14) (v := ?_) rfl (by kernel_rfl) (by kernel_rfl) (by kernel_rfl) (fun _ _ _ h => h) (Or.inl ⟨by rfl, ?_⟩) (by assumption) ?_
          rotate_left
          · simp only [List.getElem_toArray, List.getElem_cons_zero, List.getElem_cons_succ]; intro W hSw; (try dsimp only at hSw); go_simp; all_goals with_reducible rfl
          simp only [Act.put, List.getElem_toArray, List.getElem_cons_zero, List.getElem_cons_succ, List.setIfInBounds_toArray, List.set_cons_zero, List.set_cons_succ]
          refine wpAnyH_take (i := 15) (v := ?_) rfl (by kernel_rfl) (by kernel_rfl) (by kernel_rfl) (fun _ _ _ h => h) (Or.inl ⟨by rfl, ?_⟩) (by assumption) ?_
          rotate_left
          · simp only [List.getElem_toArray, List.getElem_cons_zero, List.getElem_cons_succ]; intro W hSw; (try dsimp only at hSw); go_simp; all_goals with_reducible rfl
          simp only [Act.put, List.getElem_toArray, List.getElem_cons_zero, List.getElem_cons_succ, List.setIfInBounds_toArray, List.set_cons_zero, List.set_cons_succ]
          refine wpAnyH_take (i := 16) (v := ?_) rfl (by kernel_rfl) (by kernel_rfl) (by kernel_rfl) (fun _ _ _ h => h) (Or.inl ⟨by rfl, ?_⟩) (by assumption) ?_
          rotate_left
          · simp only [List.getElem_toArray, List.getElem_cons_zero, List.getElem_cons_succ]; intro W hSw; (try dsimp only at hSw); go_simp; all_goals with_reducible rfl
          simp only [Act.put, List.getElem_toArray, List.getElem_cons_zero, List.getElem_cons_succ, List.setIfInBounds_toArray, List.set_cons_zero, List.set_cons_succ]
          refine wpAnyH_take (i := 17) (v := ?_) rfl (by kernel_rfl) (by kernel_rfl) (by kernel_rfl) (fun _ _ _ h => h) (Or.inl ⟨by rfl, ?_⟩) (by assumption) ?_
          rotate_left
          · simp only [List.getElem_toArray, List.getElem_cons_zero, List.getElem_cons_succ]; intro W hSw; (try dsimp only at hSw); go_simp; all_goals with_reducible rfl
          simp only [Act.put, List.getElem_toArray, List.getElem_cons_zero, List.getElem_cons_succ, List.setIfInBounds_toArray, List.set_cons_zero, List.set_cons_succ]
          refine wpAnyH_take (i := 18) (v := ?_) rfl (by kernel_rfl) (by kernel_rfl) (by kernel_rfl) (fun _ _ _ h => h) (Or.inl ⟨by rfl, ?_⟩) (by assumption) ?_
          rotate_left
          · simp only [List.getElem_toArray, List.getElem_cons_zero, List.getElem_cons_succ]; intro W hSw; (try dsimp only at hSw); go_simp; all_goals with_reducible rfl
          simp only [Act.put, List.getElem_toArray, List.getElem_cons_zero, List.getElem_cons_succ, List.setIfInBounds_toArray, List.set_cons_zero, List.set_cons_succ]
          refine wpAnyH_take (i := 19) (v := ?_) rfl (by kernel_rfl) (by kernel_rfl) (by kernel_rfl) (fun _ _ _ h => h) (Or.inl ⟨by rfl, ?_⟩) (by assumption) ?_
          rotate_left
          · simp only [List.getElem_toArray, List.getElem_cons_zero, List.getElem_cons_succ]; intro W hSw; (try dsimp only at hSw); go_simp; all_goals with_reducible rfl
          simp only [Act.put, List.getElem_toArray, List.getElem_cons_zero, List.getElem_cons_succ, List.setIfInBounds_toArray, List.set_cons_zero, List.set_cons_succ]
          refine wpAnyH_take (i := 20) (v := ?_) rfl (by kernel_rfl) (by kernel_rfl) (by kernel_rfl) (fun _ _ _ h => h) (Or.inl ⟨by rfl, ?_⟩) (by assumption) ?_
          rotate_left
          · simp only [List.getElem_toArray, List.getElem_cons_zero, List.getElem_cons_succ]; intro W hSw; (try dsimp only at hSw); go_simp; all_goals with_reducible rfl
          simp only [Act.put, List.getElem_toArray, List.getElem_cons_zero, List.getElem_cons_succ, List.setIfInBounds_toArray, List.set_cons_zero, List.set_cons_succ]
          refine wpAnyH_take (i := 21) (v := ?_) rfl (by kernel_rfl) (by kernel_rfl) (by kernel_rfl) (fun _ _ _ h => h) (Or.inl ⟨by rfl, ?_⟩) (by assumption) ?_
          rotate_left
          · simp only [List.getElem_toArray, List.getElem_cons_zero, List.getElem_cons_succ]; intro W hSw; (try dsimp only at hSw); go_simp; all_goals with_reducible rfl
          simp only [Act.put, List.getElem_toArray, List.getElem_cons_zero, List.getElem_cons_succ, List.setIfInBounds_toArray, List.set_cons_zero, List.set_cons_succ]
          refine wpAnyH_take (i := 22) (v := ?_) rfl (by kernel_rfl) (by kernel_rfl) (by kernel_rfl) (fun _ _ _ h => h) (Or.inl ⟨by rfl, ?_⟩) (by assumption) ?_
          rotate_left
          · simp only [List.getElem_toArray, List.getElem_cons_zero, List.getElem_cons_succ]; intro W hSw; (try dsimp only at hSw); go_simp; all_goals with_reducible rfl
          simp only [Act.put, List.getElem_toArray, List.getElem_cons_zero, List.getElem_cons_succ, List.setIfInBounds_toArray, List.set_cons_zero, List.set_cons_succ]
          refine wpAnyH_take (i := 23) (v := ?_) rfl (by kernel_rfl) (by kernel_rfl) (by kernel_rfl) (fun _ _ _ h => h) (Or.inl ⟨by rfl, ?_⟩) (by assumption) ?_
          rotate_left
          · simp only [List.getElem_toArray, List.getElem_cons_zero, List.getElem_cons_succ]; intro W hSw; (try dsimp only at hSw); go_simp; all_goals with_reducible rfl
          simp only [Act.put, List.getElem_toArray, List.getElem_cons_zero, List.getElem_cons_succ, List.setIfInBounds_toArray, List.set_cons_zero, List.set_cons_succ]
          refine wpAnyH_take (i := 24) (v := ?_) rfl (by kernel_rfl) (by kernel_rfl) (by kernel_rfl) (fun _ _ _ h => h) (Or.inl ⟨by rfl, ?_⟩) (by assumption) ?_
          rotate_left
          · simp only [List.getElem_toArray, List.getElem_cons_zero, List.getElem_cons_succ]; intro W hSw; (try dsimp only at hSw); go_simp; all_goals with_reducible rfl
          simp only [Act.put, List.getElem_toArray, List.getElem_cons_zero, List.getElem_cons_succ, List.setIfInBounds_toArray, List.set_cons_zero, List.set_cons_succ]
          refine wpAnyH_take (i := 25) (v := ?_) rfl (by kernel_rfl) (by kernel_rfl) (by kernel_rfl) (fun _ _ _ h => h) (Or.inl ⟨by rfl, ?_⟩) (by assumption) ?_
          rotate_left
          · simp only [List.getElem_toArray, List.getElem_cons_zero, List.getElem_cons_succ]; intro W hSw; (try dsimp only at hSw); go_simp; all_goals with_reducible rfl
          simp only [Act.put, List.getElem_toArray, List.getElem_cons_zero, List.getElem_cons_succ, List.setIfInBounds_toArray, List.set_cons_zero, List.set_cons_succ]
          refine wpAnyH_take (i := 26) (v := ?_) rfl (by kernel_rfl) (by kernel_rfl) (by kernel_rfl) (fun _ _ _ h => h) (Or.inl ⟨by rfl, ?_⟩) (by assumption) ?_
          rotate_left
          · simp only [List.getElem_toArray, List.getElem_cons_zero, List.getElem_cons_succ]; intro W hSw; (try dsimp only at hSw); go_simp; all_goals with_reducible rfl
          simp only [Act.put, List.getElem_toArray, List.getElem_cons_zero, List.getElem_cons_succ, List.setIfInBounds_toArray, List.set_cons_zero, List.set_cons_succ]
          refine wpAnyH_take (i := 27) (v := ?_) rfl (by kernel_rfl) (by kernel_rfl) (by kernel_rfl) (fun _ _ _ h => h) (Or.inl ⟨by rfl, ?_⟩) (by assumption) ?_
          rotate_left
          · simp only [List.getElem_toArray, List.getElem_cons_zero, List.getElem_cons_succ]; intro W hSw; (try dsimp only at hSw); go_simp; all_goals with_reducible rfl
          simp only [Act.put, List.getElem_toArray, List.getElem_cons_zero, List.getElem_cons_succ, List.setIfInBounds_toArray, List.set_cons_zero, List.set_cons_succ]
          refine wpAnyH_take (i := 28) (v := ?_) rfl (by kernel_rfl) (by kernel_rfl) (by kernel_rfl) (fun _ _ _ h => h) (Or.inl ⟨by rfl, ?_⟩) (by assumption) ?_
          rotate_left
          · simp only [List.getElem_toArray, List.getElem_cons_zero, List.getElem_cons_succ]; intro W hSw; (try dsimp only at hSw); go_simp; all_goals with_reducible rfl
          simp only [Act.put, List.getElem_toArray, List.getElem_cons_zero, List.getElem_cons_succ, List.setIfInBounds_toArray, List.set_cons_zero, List.set_cons_succ]
          refine wpAnyH_take (i := 29) (v := ?_) rfl (by kernel_rfl) (by kernel_rfl) (by kernel_rfl) (fun _ _ _ h => h) (Or.inl ⟨by rfl, ?_⟩) (by assumption) ?_
          rotate_left
          · simp only [List.getElem_toArray, List.getElem_cons_zero, List.getElem_cons_succ]; intro W hSw; (try dsimp only at hSw); go_simp; all_goals with_reducible rfl
          simp only [Act.put, List.getElem_toArray, List.getElem_cons_zero, List.getElem_cons_succ, List.setIfInBounds_toArray, List.set_cons_zero, List.set_cons_succ]
          refine wpAnyH_take (i := 30) (v := ?_) rfl (by kernel_rfl) (by kernel_rfl) (by kernel_rfl) (fun _ _ _ h => h) (Or.inl ⟨by rfl, ?_⟩) (by assumption) ?_
          rotate_left
          · simp only [List.getElem_toArray, List.getElem_cons_zero, List.getElem_cons_succ]; intro W hSw; (try dsimp only at hSw); go_simp; all_goals with_reducible rfl
          simp only [Act.put, List.getElem_toArray, List.getElem_cons_zero, List.getElem_cons_succ, List.setIfInBounds_toArray, List.set_cons_zero, List.set_cons_succ]
          refine wpAnyH_take (i := 31) (v := ?_) rfl (by kernel_rfl) (by kernel_rfl) (by kernel_rfl) (fun _ _ _ h => h) (Or.inl ⟨by rfl, ?_⟩) (by assumption) ?_
          rotate_left
          · simp only [List.getElem_toArray, List.getElem_cons_zero, List.getElem_cons_succ]; intro W hSw; (try dsimp only at hSw); go_simp; all_goals with_reducible rfl
          simp only [Act.put, List.getElem_toArray, List.getElem_cons_zero, List.getElem_cons_succ, List.setIfInBounds_toArray, List.set_cons_zero, List.set_cons_succ]
          refine wpAnyH_take (i := 32) (v := ?_) rfl (by kernel_rfl) (by kernel_rfl) (by kernel_rfl) (fun _ _ _ h => h) (Or.inl ⟨by rfl, ?_⟩) (by assumption) ?_
          rotate_left
          · simp only [List.getElem_toArray, List.getElem_cons_zero, List.getElem_cons_succ]; intro W hSw; (try dsimp only at hSw); go_simp; all_goals with_reducible rfl
          simp only [Act.put, List.getElem_toArray, List.getElem_cons_zero, List.getElem_cons_succ, List.setIfInBounds_toArray, List.set_cons_zero, List.set_cons_succ]
          refine wpAnyH_take (i := 33) (v := ?_) rfl (by kernel_rfl) (by kernel_rfl) (by kernel_rfl) (fun _ _ _ h => h) (Or.inl ⟨by rfl, ?_⟩) (by assumption) ?_
          rotate_left
          · simp only [List.getElem_toArray, List.getElem_cons_zero, List.getElem_cons_succ]; intro W hSw; (try dsimp only at hSw); go_simp; all_goals with_reducible rfl
          simp only [Act.put, List.getElem_toArray, List.getElem_cons_zero, List.getElem_cons_succ, List.setIfInBounds_toArray, List.set_cons_zero, List.set_cons_succ]
          refine wpAnyH_take (i := 34) (v := ?_) rfl (by kernel_rfl) (by kernel_rfl) (by kernel_rfl) (fun _ _ _ h => h) (Or.inl ⟨by rfl, ?_⟩) (by assumption) ?_
          rotate_left
          · simp only [List.getElem_toArray, List.getElem_cons_zero, List.getElem_cons_succ]; intro W hSw; (try dsimp only at hSw); go_simp; all_goals with_reducible rfl
          simp only [Act.put, List.getElem_toArray, List.getElem_cons_zero, List.getElem_cons_succ, List.setIfInBounds_toArray, List.set_cons_zero, List.set_cons_succ]
          refine wpAnyH_take (i := 35) (v := ?_) rfl (by kernel_rfl) (by kernel_rfl) (by kernel_rfl) (fun _ _ _ h => h) (Or.inl ⟨by rfl, ?_⟩) (by assumption) ?_
          rotate_left
          · simp only [List.getElem_toArray, List.getElem_cons_zero, List.getElem_cons_succ]; intro W hSw; (try dsimp only at hSw); go_simp; all_goals with_reducible rfl
          simp only [Act.put, List.getElem_toArray, List.getElem_cons_zero, List.getElem_cons_succ, List.setIfInBounds_toArray, List.set_cons_zero, List.set_cons_succ]
          refine wpAnyH_take (i := 36) (v := ?_) rfl (by kernel_rfl) (by kernel_rfl) (by kernel_rfl) (fun _ _ _ h => h) (Or.inl ⟨by rfl, ?_⟩) (by assumption) ?_
          rotate_left
          · simp only [List.getElem_toArray, List.getElem_cons_zero, List.getElem_cons_succ]; intro W hSw; (try dsimp only at hSw); go_simp; all_goals with_reducible rfl
          simp only [Act.put, List.getElem_toArray, List.getElem_cons_zero, List.getElem_cons_succ, List.setIfInBounds_toArray, List.set_cons_zero, List.set_cons_succ]
          refine wpAnyH_take (i := 37) (v := ?_) rfl (by kernel_rfl) (by kernel_rfl) (by kernel_rfl) (fun _ _ _ h => h) (Or.inl ⟨by rfl, ?_⟩) (by assumption) ?_
          rotate_left
          · simp only [List.getElem_toArray, List.getElem_cons_zero, List.getElem_cons_succ]; intro W hSw; (try dsimp only at hSw); go_simp; all_goals with_reducible rfl
          simp only [Act.put, List.getElem_toArray, List.getElem_cons_zero, List.getElem_cons_succ, List.setIfInBounds_toArray, List.set_cons_zero, List.set_cons_succ]
          refine wpAnyH_take (i := 38) (v := ?_) rfl (by kernel_rfl) (by kernel_rfl) (by kernel_rfl) (fun _ _ _ h => h) (Or.inl ⟨by rfl, ?_⟩) (by assumption) ?_
          rotate_left
          · simp only [List.getElem_toArray, List.getElem_cons_zero, List.getElem_cons_succ]; intro W hSw; (try dsimp only at hSw); go_simp; all_goals with_reducible rfl
          simp only [Act.put, List.getElem_toArray, List.getElem_cons_zero, List.getElem_cons_succ, List.setIfInBounds_toArray, List.set_cons_zero, List.set_cons_succ]
          refine wpAnyH_take (i := 39) (v := ?_) rfl (by kernel_rfl) (by kernel_rfl) (by kernel_rfl) (fun _ _ _ h => h) (Or.inl ⟨by rfl, ?_⟩) (by assumption) ?_
          rotate_left
          · simp only [List.getElem_toArray, List.getElem_cons_zero, List.getElem_cons_succ]; intro W hSw; (try dsimp only at hSw); go_simp; all_goals with_reducible rfl
          simp only [Act.put, List.getElem_toArray, List.getElem_cons_zero, List.getElem_cons_succ, List.setIfInBounds_toArray, List.set_cons_zero, List.set_cons_succ]
          refine wpAnyH_done (by kernel_rfl) ?_ _
          go_wp2_with fail
          go_ret
          exact ⟨by rw [HE.out]; rfl, HB3.out.drew⟩
end Go.Proofs.YtkajcgpkldofjaaDoor
end

section
/-
  A scan's good, by contract: it tells the good sectors' frames, one after another.
-/
namespace Go.Proofs.YtkajcgpkldofjaaDoor
open Go.RowKit Fm
set_option maxRecDepth 100000
attribute [local go_sem] Oper.semAt_some

/-- how far a scan has come: so many frames, the last one, the parts of a record that is begun, what was found, and the next sequence -/
structure St where
  j : Nat
  L : Fr
  begun : List Fr
  out : List (Int × List Nat)
  next : Int
def St.nx (s : St) (f : Fr) : St := if moreB f = true then ⟨s.j + 1, f, s.begun ++ [f], s.out, s.next⟩ else ⟨s.j + 1, f, [], s.out ++ [(((s.begun ++ [f]).headD zF).seq, joinR (s.begun ++ [f]))], f.seq + 1⟩
theorem St.nx_j (s : St) (f : Fr) : (s.nx f).j = s.j + 1 := by unfold St.nx; split <;> rfl
theorem St.nx_L (s : St) (f : Fr) : (s.nx f).L = f := by unfold St.nx; split <;> rfl
abbrev Xv := Option Addr × Nat × Fr
def encX (x : Xv) : Array Value := #[.agg (frv x.1 x.2.1 x.2.2).toArray]
/-- a scan goes on from s -/
def goodS (d : Dk.Dk) (tail : Int) (s : St) : Bool := readB d (tail + (s.j : Int)) && nextB s.L (readF (rdD d (tail + (s.j : Int))))
/-- what the scan tells where it is at s -/
def Tell (d : Dk.Dk) (tail : Int) (s : St) (x : Xv) (Wp W : World) : Prop :=
  s.j < 24 ∧ goodS d tail s = true ∧ x.2.2 = readF (rdD d (tail + (s.j : Int))) ∧ FrV W W.heap.size (frv x.1 x.2.1 x.2.2) x.2.2 ∧ ∀ b, x.1 = some b → Wp.heap.size ≤ b.block
def Ends (d : Dk.Dk) (tail : Int) (s : St) : Prop := s.j ≤ 24 ∧ (s.j = 24 ∨ goodS d tail s = false)
def FinS (a : Nat) (tail : Int) (Bs : Nat) (W : World) : Prop := ∃ A c f, W.heap[Bs]? = some (.cells (scanRow a tail A c f 0) 59 (0, 0))
/-- a last frame: none, or one that was read -/
def LastB (f : Fr) : Prop := 0 ≤ f.part ∧ f.part ≤ 100
theorem read_last (d : Dk.Dk) (s : Int) : LastB (readF (rdD d s)) := by
  unfold readF
  split
  · rename_i h
    unfold readOK at h
    simp only [Bool.and_eq_true] at h
    have h2 := h.2.1
    unfold mayB at h2
    rw [decide_eq_true_eq] at h2
    exact ⟨by omega, by omega⟩
  · exact ⟨by decide, by decide⟩

theorem six_cells {X : World} {b : Nat} {A5 : Option Addr} {c5 : Nat} {f : Fr} (h : X.heap[b]? = some (.cells #[.int .i64 f.seq, .int .i64 f.inc, .int .i64 f.part, .int .i64 f.of, .int .u32 (f.mark : Nat), .slice A5 f.load.length c5] 54 (0, 0))) : (X.cell? ⟨b, 0, none⟩ = some (.int .i64 f.seq) ∧ X.cell? ⟨b, 1, none⟩ = some (.int .i64 f.inc) ∧ X.cell? ⟨b, 2, none⟩ = some (.int .i64 f.part)) ∧ X.cell? ⟨b, 3, none⟩ = some (.int .i64 f.of) ∧ X.cell? ⟨b, 4, none⟩ = some (.int .u32 (f.mark : Nat)) ∧ X.cell? ⟨b, 5, none⟩ = some (.slice A5 f.load.length c5) := by
  refine ⟨⟨?_, ?_, ?_⟩, ?_, ?_, ?_⟩ <;> (rw [cell_of_row X b _ _ _ _ h]; rfl)
set_option maxHeartbeats 4000000 in
theorem good_tells {w : World} {S : Nat → Prop} {a Bs n0 : Nat} {d : Dk.Dk} {tail : Int} {A0 : Option Addr} {c0 : Nat} {s0 : St} (m : Nat) (hm : 2 ≤ m) (h : Dk.Disk w S a d) (hup : d.down = false) (hWd : Widths w) (hS : ∀ k, S k → k < n0) (hwn : 0 < n0) (hn0 : n0 ≤ w.heap.size) (hBn : n0 ≤ Bs)
    (hs : w.heap[Bs]? = some (.cells (scanRow a tail A0 c0 s0.L 0) 59 (0, 0))) (hj0 : s0.j = 0) (hL0 : LastB s0.L) (ht : 1 ≤ tail ∧ tail ≤ 1099511627776) :
    Tells Fence.wide m Tryd.prog 24 #[.pointer (some ⟨Bs, 0, none⟩)] encX (fun s x => s.nx x.2.2) (Tell d tail) n0 Bs s0 (Ends d tail) (FinS a tail Bs) w := by
  intro l J Jx W hW hl hl2 hJ hJx hY h0
  have hBw : Bs < w.heap.size := (Array.getElem?_eq_some_iff.1 hs).1
  have HDk := Lib.hid (show ∀ X, Dk.Kept (fun k => n0 ≤ k) w X → Dk.Disk X S a d from fun X hX => h.keep (fun k hk => hX.block k (h.old k hk) (fun e => by have := hS k hk; omega)) hX.size)
  have HWi := Lib.hid (show ∀ X, Dk.Kept (fun k => n0 ≤ k) w X → Widths X from fun X hX => by
    obtain ⟨q0, q1, q2, q3, q4, q5⟩ := hWd
    have hkk : X.heap[0]? = w.heap[0]? := hX.block _ q0 (by omega)
    exact ⟨Nat.lt_of_lt_of_le q0 hX.size, (World.cell?_of_block (w := w) hkk).trans q1, (World.cell?_of_block (w := w) hkk).trans q2, (World.cell?_of_block (w := w) hkk).trans q3, (World.cell?_of_block (w := w) hkk).trans q4, (World.cell?_of_block (w := w) hkk).trans q5⟩)
  have HUp := Lib.hid hup
  have HW := Lib.hid hW
  have HY := Lib.hid hY
  have HJ := Lib.hid hJ
  have HJx := Lib.hid hJx
  have hsW := (hW.block _ hBw).trans hs
  have HK0 := Lib.hid (show Dk.Kept (fun k => n0 ≤ k) w W from Dk.Kept.of_below hW (Nat.le_refl _))
  have H0 := Lib.hid h0
  have HsW := Lib.hid hsW
  have HL0 := Lib.hid hL0
  clear h hup hWd hS hwn hs hW hY hJ hJx h0 hsW hl hl2 hL0
  refine callsIn_of_wp Tryd.func24 rfl trivial ?_ rfl
  simp only [Tryd.ntmps24, List.size_toArray, List.length_cons, List.length_nil, Nat.reduceAdd, Nat.reduceSub, Array.replicate_succ, Array.replicate_zero, List.push_toArray, List.append_toArray, List.nil_append, List.cons_append]
  gi_wp2
  gi_loopw [7] (fun i wr => ∃ (s : St) (A : Option Addr) (c : Nat), s.j ≤ 24 ∧ i = .int .i64 (s.j : Int) ∧ J s wr ∧ wr.heap[Bs]? = some (.cells (scanRow a tail A c s.L 0) 59 (0, 0)) ∧ LastB s.L ∧ Dk.Kept (fun k => n0 ≤ k) w wr ∧ W.heap.size ≤ wr.heap.size) (fun i _ => 24 - (intOf i).toNat)
  case atStart => exact ⟨s0, A0, c0, by omega, by rw [hj0]; rfl, H0.out, HsW.out, HL0.out, HK0.out, Nat.le_refl _⟩
  case round =>
    obtain ⟨s, A, c, hj, rfl, hJs, hrow, hLs, hK, hsz⟩ := hrel
    by_cases hlt : s.j < 24
    · have hc1 : wr.cell? ⟨Bs, 1, none⟩ = some (.int .i64 tail) := by rw [cell_of_row wr Bs 1 _ _ _ hrow]; rfl
      have hw1 : IntKind.i64.wrap (tail + (s.j : Int)) = tail + (s.j : Int) := by rw [IntKind.wrap_i64]; omega
      have hw2 : IntKind.i64.wrap ((s.j : Int) + 1) = (s.j : Int) + 1 := by rw [IntKind.wrap_i64]; omega
      have hji : (s.j : Int) < 24 := by omega
      have HR := Lib.hid (jread_says (HDk.out wr hK) HUp.out (HWi.out wr hK) hrow (tail + (s.j : Int)))
      have HRow := Lib.hid hrow
      have HJs := Lib.hid hJs
      have HLs := Lib.hid hLs
      have HK := Lib.hid hK
      have HSz := Lib.hid hsz
      clear hrow hJs hLs hK hsz
      gi_wp2_with fail
      refine ⟨trivial, fun _ => by omega, ?_⟩
      gi_at_call 47
      refine CallsIn.mono (callsIn_wide.2 HR.out) ?_
      rintro e w' ⟨A5, c5, f, rfl, hv5, hb5, hn5, hq5⟩
      obtain ⟨w5, hw5⟩ : ∃ w5, w5 = w'.alloc (.cells #[.int .i64 f.seq, .int .i64 f.inc, .int .i64 f.part, .int .i64 f.of, .int .u32 (f.mark : Nat), .slice A5 f.load.length c5] 54) := ⟨_, rfl⟩
      have hb55 : Below w'.heap.size w' w5 := by rw [hw5]; exact (Below.refl _ w').alloc (Nat.le_refl _) _
      have hg5 : w5.heap[w'.heap.size]? = some (.cells #[.int .i64 f.seq, .int .i64 f.inc, .int .i64 f.part, .int .i64 f.of, .int .u32 (f.mark : Nat), .slice A5 f.load.length c5] 54 (0, 0)) := by rw [hw5]; exact heap_alloc_new w' _
      have hz5 : w5.heap.size = w'.heap.size + 1 := by rw [hw5]; simp
      have HB5 := Lib.hid (hb5.trans (hb55.mono hb5.size))
      have HZ5 := Lib.hid (show wr.heap.size ≤ w'.heap.size ∧ w'.heap.size < w5.heap.size from ⟨hb5.size, by omega⟩)
      have HG5 := Lib.hid (fun (X : World) (hX : X.heap[w'.heap.size]? = w5.heap[w'.heap.size]?) => six_cells (hX.trans hg5))
      have HV5 := Lib.hid (show FrV w5 w5.heap.size (frv A5 c5 f) f from (hv5.below hb55 (Nat.le_refl _)).mono hb55.size)
      have HN5 := Lib.hid hn5
      have HQ5 := Lib.hid hq5
      have HW5 := Lib.hid hw5
      clear hv5 hb5 hn5 hq5 hw5 hb55 hg5 hz5
      unfold frv
      obtain ⟨Rb, hRb⟩ : ∃ Rb, Rb = readB d (tail + (s.j : Int)) := ⟨_, rfl⟩
      rw [← hRb]
      have HRb := Lib.hid hRb
      clear hRb
      cases Rb with
      | false =>
        have HE := Lib.hid (show Ends d tail s from ⟨hj, Or.inr (by unfold goodS; rw [← HRb.out]; rfl)⟩)
        gi_wp2_with (rw [← HW5.out])
        refine ⟨trivial, ?_⟩
        gi_wp2
        have HFin := Lib.hid (HJ.out s wr w5 HJs.out (Dk.Kept.of_below HB5.out (Nat.le_refl _)))
        have HF2 := Lib.hid (show FinS a tail Bs w5 from ⟨A, c, s.L, (HB5.out.block _ (Array.getElem?_eq_some_iff.1 HRow.out).1).trans HRow.out⟩)
        refine ⟨(fun _ e => by cases e), ?_⟩
        gi_wp2
        refine bodyPost_ret (results_none rfl _ _ _) rfl ?_
        exact ⟨⟨_, rfl⟩, HF2.out, .inl ⟨s, HE.out, HFin.out⟩⟩
      | true =>
        have hfe := HQ5.out HRb.out.symm
        have HFol := Lib.hid (follows_says (f := f) (A := A5) (c := c5) ((HB5.out.block _ (Array.getElem?_eq_some_iff.1 HRow.out).1).trans HRow.out) HLs.out.1 HLs.out.2)
        obtain ⟨Nb, hNb⟩ : ∃ Nb, Nb = nextB s.L f := ⟨_, rfl⟩
        rw [← hNb] at HFol
        have HNb := Lib.hid hNb
        have HFe := Lib.hid hfe
        clear hNb hfe
        unfold frv at HFol
        obtain ⟨⟨b0, b1, b2⟩, b3, b4, b5⟩ := HG5.out w5 rfl
        gi_wp2_with (rw [← HW5.out])
        refine ⟨trivial, fun _ => by omega, ?_⟩
        gi_at_call 48
        refine CallsIn.mono (callsIn_wide.2 HFol.out) ?_
        rintro e w6 ⟨rfl, hb6⟩
        have HB56 := Lib.hid hb6
        have HB6 := Lib.hid (HB5.out.trans (hb6.mono HB5.out.size))
        have HRow6 := Lib.hid ((HB6.out.block _ (Array.getElem?_eq_some_iff.1 HRow.out).1).trans HRow.out)
        clear b0 b1 b2 b3 b4 b5 hb6
        cases Nb with
        | false =>
          have HE := Lib.hid (show Ends d tail s from ⟨hj, Or.inr (by unfold goodS; rw [← HRb.out, ← HFe.out, ← HNb.out]; rfl)⟩)
          have HFin := Lib.hid (HJ.out s wr w6 HJs.out (Dk.Kept.of_below HB6.out (Nat.le_refl _)))
          have HF2 := Lib.hid (show FinS a tail Bs w6 from ⟨A, c, s.L, HRow6.out⟩)
          gi_wp2
          refine ⟨(fun _ e => by cases e), ?_⟩
          gi_wp2
          refine bodyPost_ret (results_none rfl _ _ _) rfl ?_
          exact ⟨⟨_, rfl⟩, HF2.out, .inl ⟨s, HE.out, HFin.out⟩⟩
        | true =>
          have HT := Lib.hid (show Tell d tail s (A5, c5, f) wr w6 from ⟨hlt, by unfold goodS; rw [← HRb.out, ← HFe.out, ← HNb.out]; rfl, HFe.out, (HV5.out.below HB56.out (Nat.le_refl _)).mono HB56.out.size, HN5.out⟩)
          obtain ⟨fn, tmps, assign, body, hy, hR⟩ := HY.out s (A5, c5, f) wr w6 HJs.out HB6.out HT.out HSz.out
          obtain ⟨⟨b0, b1, b2⟩, b3, b4, b5⟩ := HG5.out w6 (HB56.out.block _ HZ5.out.2)
          unfold encX frv at hy
          gi_wp2
          refine ⟨fun _ => by omega, hR.mono ?_⟩
          rintro e W3 ⟨hk3, (⟨rfl, hJ3⟩ | ⟨rfl, hJx3⟩)⟩
          · have hb6W : W3.heap[w'.heap.size]? = w5.heap[w'.heap.size]? := (hk3.block _ (Nat.lt_of_lt_of_le HZ5.out.2 HB56.out.size) (fun e => by have := HZ5.out.1; omega)).trans (HB56.out.block _ HZ5.out.2)
            obtain ⟨⟨d0, d1, d2⟩, d3, d4, d5⟩ := HG5.out W3 hb6W
            have hr3 : W3.heap[Bs]? = some (.cells ([.pointer (some ⟨a, 0, none⟩), .int .i64 tail] ++ [.int .i64 s.L.seq, .int .i64 s.L.inc, .int .i64 s.L.part, .int .i64 s.L.of, .int .u32 (s.L.mark : Nat), .slice A s.L.load.length c] ++ [.int .i64 0] : List Value).toArray 59 (0, 0)) := (hk3.block _ (Array.getElem?_eq_some_iff.1 HRow6.out).1 (fun e => e.1.2 rfl)).trans HRow6.out
            have HR3 := Lib.hid hr3
            have HK3 := Lib.hid hk3
            have HJ3 := Lib.hid hJ3
            clear hk3 hJ3 hr3 hb6W b0 b1 b2 b3 b4 b5
            gi_wp2_with (refine Dk.wpListIn_of rfl rfl fun K hK => Dk.wp_store_part 54 (.tmp 38) (.tmp 36) rfl Bs 2 rfl [.int .i64 f.seq, .int .i64 f.inc, .int .i64 f.part, .int .i64 f.of, .int .u32 (f.mark : Nat), .slice A5 f.load.length c5] rfl 59 [.pointer (some ⟨a, 0, none⟩), .int .i64 tail] [.int .i64 s.L.seq, .int .i64 s.L.inc, .int .i64 s.L.part, .int .i64 s.L.of, .int .u32 (s.L.mark : Nat), .slice A s.L.load.length c] [.int .i64 0] HR3.out rfl rfl Tryd.sizeF (frv_one A5 c5 f) (hK _ _ ?_))
            obtain ⟨W4, hW4⟩ : ∃ W4, W4 = W3.setRow Bs (scanRow a tail A5 c5 f 0) := ⟨_, rfl⟩
            go_roundw
            case rel => exact ⟨s.nx f, A5, c5, by rw [St.nx_j]; omega, by rw [St.nx_j]; simp, HJ.out _ _ _ HJ3.out ((Dk.Kept.refl _ W3).grown (Dk.grown_setRow W3 Bs _) (fun k e _ => (Option.some.inj e).symm)), by rw [St.nx_L]; exact setRow_heap _ _ _ _ _ _ HR3.out, by rw [St.nx_L, HFe.out]; exact read_last _ _,
              (((HK.out.trans (Dk.Kept.of_below HB6.out (Nat.le_refl _)) (fun _ _ e => e)).trans HK3.out (fun i _ e => e.1.1)).grown (Dk.grown_setRow W3 Bs _) (fun k e _ => by have := Option.some.inj e; omega)), by have h1 := HSz.out; have h2 := HB6.out.size; have h3 := HK3.out.size; simp [World.setRow]; omega⟩
            case measure => simp [intOf]; omega
          · have HF2 := Lib.hid (show FinS a tail Bs W3 from ⟨A, c, s.L, (hk3.block _ (Array.getElem?_eq_some_iff.1 HRow6.out).1 (fun e => e.1.2 rfl)).trans HRow6.out⟩)
            have HJx3 := Lib.hid hJx3
            clear hk3 hJx3 b0 b1 b2 b3 b4 b5
            gi_wp2
            refine bodyPost_ret (results_none rfl _ _ _) rfl ?_
            exact ⟨⟨_, rfl⟩, HF2.out, .inr ⟨s, HJx3.out⟩⟩
    · obtain hj24 : s.j = 24 := by omega
      have hji : ¬ (s.j : Int) < 24 := by omega
      have HE := Lib.hid (show Ends d tail s from ⟨hj, Or.inl hj24⟩)
      have HF2 := Lib.hid (show FinS a tail Bs wr from ⟨A, c, s.L, hrow⟩)
      have HJs := Lib.hid hJs
      clear hJs hrow hK hsz hLs hj24 hlt
      gi_wp2
      go_end0
      exact ⟨⟨_, rfl⟩, HF2.out, .inl ⟨s, HE.out, HJs.out⟩⟩
end Go.Proofs.YtkajcgpkldofjaaDoor
end

section
/-
  A scan as plain data: what holds between two frames, step by step.
-/
namespace Go.Proofs.YtkajcgpkldofjaaDoor
open Go.RowKit Fm

def Linked (s : St) : Prop := (s.begun = [] ∧ moreB s.L = false) ∨ ∃ g r, s.begun = g :: r ∧ moreB s.L = true ∧ s.L.part + 1 = ((g :: r).length : Nat) ∧ s.L.of = g.of ∧ s.L.mark = g.mark ∧ s.L.inc = g.inc
structure Going (d : Dk.Dk) (tail : Int) (s : St) : Prop where
  scan : scanD d tail = scanN (rdD d) (24 - s.j) (tail + (s.j : Int)) s.L.inc s.begun s.out s.next
  le : s.j ≤ 24
  link : Linked s
  few : s.begun.length + s.out.length ≤ s.j
def st0 (tail : Int) : St := ⟨0, zF, [], [], tail⟩
theorem Going.start (d : Dk.Dk) (tail : Int) : Going d tail (st0 tail) := ⟨by unfold scanD st0; simp [zF], Nat.zero_le _, Or.inl ⟨rfl, rfl⟩, Nat.le_refl _⟩
theorem good_same {d : Dk.Dk} {tail : Int} {s : St} (h : Linked s) : goodS d tail s = (isSeq (tail + (s.j : Int)) && goodB (rdD d (tail + (s.j : Int))) (tail + (s.j : Int)) s.L.inc s.begun) := by
  unfold goodS readB goodB
  generalize rdD d (tail + (s.j : Int)) = bs
  generalize tail + (s.j : Int) = q
  generalize readF bs = f
  rcases h with ⟨e, hm⟩ | ⟨g, r, e, hm, h1, h2, h3, h4⟩
  · rw [e]
    unfold nextB followsB
    rw [hm, if_neg (by simp)]
    cases isSeq q <;> cases readOK bs <;> simp
    rw [Bool.and_comm (decide (f.part = 0))]
  · rw [e]
    unfold nextB followsB
    rw [hm, if_pos rfl]
    cases isSeq q <;> cases readOK bs <;> simp only [Bool.false_and, Bool.true_and]
    rw [Bool.eq_iff_iff]
    simp only [Bool.and_eq_true, decide_eq_true_eq]
    constructor
    · rintro ⟨h5, h6, h7, h8, h9⟩
      exact ⟨h5, by omega, by omega, by omega, by omega, by omega⟩
    · rintro ⟨h5, _, h6, h7, h8, h9⟩
      exact ⟨h5, by omega, by omega, by omega, by omega⟩
theorem more_lt (f : Fr) : moreB f = true ↔ f.part < f.of - 1 := by unfold moreB; simp; omega
section
variable {d : Dk.Dk} {tail : Int} {s : St} {f : Fr}
theorem Going.seq (hg : goodS d tail s = true) (hf : f = readF (rdD d (tail + (s.j : Int)))) : f.seq = tail + (s.j : Int) := by
  unfold goodS readB at hg
  simp only [Bool.and_eq_true, decide_eq_true_eq] at hg
  rw [hf]; exact hg.1.2.2
theorem Going.next_ (hg : goodS d tail s = true) (hf : f = readF (rdD d (tail + (s.j : Int)))) : nextB s.L f = true := by
  unfold goodS at hg
  simp only [Bool.and_eq_true] at hg
  rw [hf]; exact hg.2
theorem Going.step (h : Going d tail s) (hj : s.j < 24) (hg : goodS d tail s = true) (hf : f = readF (rdD d (tail + (s.j : Int)))) :
    scanD d tail = if moreB f = true then scanN (rdD d) (24 - (s.j + 1)) (tail + ((s.j + 1 : Nat) : Int)) f.inc (s.begun ++ [f]) s.out s.next
      else if joinB (s.begun ++ [f]) = true then scanN (rdD d) (24 - (s.j + 1)) (tail + ((s.j + 1 : Nat) : Int)) f.inc [] (s.out ++ [(((s.begun ++ [f]).headD zF).seq, joinR (s.begun ++ [f]))]) (f.seq + 1) else (s.out, s.next) := by
  have hs := Going.seq hg hf
  rw [good_same h.link] at hg
  rw [h.scan, show 24 - s.j = (24 - (s.j + 1)) + 1 by omega, scanN, if_pos hg, ← hf, show tail + (s.j : Int) + 1 = tail + ((s.j + 1 : Nat) : Int) by omega, hs, show tail + (s.j : Int) + 1 = tail + ((s.j + 1 : Nat) : Int) by omega]
  by_cases hm : moreB f = true
  · rw [if_pos hm, if_pos ((more_lt f).1 hm)]
  · rw [if_neg hm, if_neg (fun e => hm ((more_lt f).2 e))]
theorem Going.more (h : Going d tail s) (hj : s.j < 24) (hg : goodS d tail s = true) (hf : f = readF (rdD d (tail + (s.j : Int)))) (hm : moreB f = true) : Going d tail (s.nx f) := by
  have h1 := h.step hj hg hf
  rw [if_pos hm] at h1
  have hn := Going.next_ hg hf
  have e : s.nx f = ⟨s.j + 1, f, s.begun ++ [f], s.out, s.next⟩ := by unfold St.nx; rw [if_pos hm]
  have hfew := h.few
  rw [e]
  refine ⟨h1, by show s.j + 1 ≤ 24; omega, ?_, by simp only [List.length_append, List.length_cons, List.length_nil]; omega⟩
  rcases h.link with ⟨e1, hm1⟩ | ⟨g, r, e1, hm1, q1, q2, q3, q4⟩
  · unfold nextB at hn
    rw [hm1, if_neg (by simp)] at hn
    simp only [Bool.and_eq_true, decide_eq_true_eq] at hn
    refine Or.inr ⟨f, [], by show s.begun ++ [f] = [f]; rw [e1]; rfl, hm, ?_, rfl, rfl, rfl⟩
    show f.part + 1 = ((1 : Nat) : Int)
    omega
  · unfold nextB at hn
    rw [hm1, if_pos rfl] at hn
    simp only [Bool.and_eq_true, decide_eq_true_eq] at hn
    refine Or.inr ⟨g, r ++ [f], by show s.begun ++ [f] = g :: (r ++ [f]); rw [e1]; rfl, hm, ?_, ?_, ?_, ?_⟩
    · show f.part + 1 = ((g :: (r ++ [f])).length : Nat)
      simp only [List.length_cons, List.length_append, List.length_nil] at q1 ⊢
      omega
    · show f.of = g.of; omega
    · show f.mark = g.mark; omega
    · show f.inc = g.inc; omega
theorem Going.record (h : Going d tail s) (hj : s.j < 24) (hg : goodS d tail s = true) (hf : f = readF (rdD d (tail + (s.j : Int)))) (hm : moreB f = false) (hjn : joinB (s.begun ++ [f]) = true) : Going d tail (s.nx f) := by
  have h1 := h.step hj hg hf
  rw [if_neg (by rw [hm]; simp), if_pos hjn] at h1
  have e : s.nx f = ⟨s.j + 1, f, [], s.out ++ [(((s.begun ++ [f]).headD zF).seq, joinR (s.begun ++ [f]))], f.seq + 1⟩ := by unfold St.nx; rw [if_neg (by rw [hm]; simp)]
  have hfew := h.few
  rw [e]
  exact ⟨h1, by show s.j + 1 ≤ 24; omega, Or.inl ⟨rfl, hm⟩, by simp only [List.length_append, List.length_cons, List.length_nil]; omega⟩
theorem Going.broken (h : Going d tail s) (hj : s.j < 24) (hg : goodS d tail s = true) (hf : f = readF (rdD d (tail + (s.j : Int)))) (hm : moreB f = false) (hjn : joinB (s.begun ++ [f]) = false) : scanD d tail = (s.out, s.next) := by
  have h1 := h.step hj hg hf
  rwa [if_neg (by rw [hm]; simp), if_neg (by rw [hjn]; simp)] at h1
theorem Going.ended (h : Going d tail s) (he : Ends d tail s) : scanD d tail = (s.out, s.next) := by
  rw [h.scan]
  rcases he.2 with e | e
  · rw [e]; rfl
  · rw [good_same h.link] at e
    refine scan_bad ?_
    cases hq : isSeq (tail + (s.j : Int)) with
    | false => exact Or.inl rfl
    | true => rw [hq, Bool.true_and] at e; exact Or.inr e
end
end Go.Proofs.YtkajcgpkldofjaaDoor
end

section
/-
  Frames that are appended one after another.
-/
namespace Go.Proofs.YtkajcgpkldofjaaDoor
open Go.RowKit Fm
set_option maxRecDepth 100000

/-- The slice v holds the frames fs in a row of its own (from N on), their loads in blocks of P. -/
def PutF (w : World) (N : Nat) (P : Nat → Prop) (v : Value) (fs : List Fr) : Prop :=
  ∃ xs, w.ownsRow N 54 6 v fs.length xs ∧ ∀ i (h : i < fs.length), ∃ A c, (∀ j u, (frv A c fs[i])[j]? = some u → xs[i * 6 + j]? = some u) ∧ ByP w P A fs[i].load ∧ fs[i].load.length ≤ c ∧ c ≤ maxLen ∧ (A = none → c = 0) ∧ fs[i].Fine
section
variable {w w' : World} {N : Nat} {P P' : Nat → Prop} {v : Value} {fs : List Fr}
theorem PutF.nil_ (w : World) (N : Nat) (P : Nat → Prop) : PutF w N P (.slice none 0 0) [] := ⟨[], World.ownsRow_nil _ _ _ _, fun i hi => by simp at hi⟩
theorem PutF.ge (h : PutF w N P v fs) : ∀ k, v.ownBlock = some k → N ≤ k := by
  obtain ⟨xs, h1, _⟩ := h
  exact own_ge' h1
theorem PutF.keep (h : PutF w N P v fs) (hk : ∀ b, b < w.heap.size → (P b ∨ v.ownBlock = some b) → w'.heap[b]? = w.heap[b]?) : PutF w' N P v fs := by
  obtain ⟨xs, h1, h3⟩ := h
  refine ⟨xs, own_kept h1 (fun b hb e => hk b hb (Or.inr e)), fun i hi => ?_⟩
  obtain ⟨A, c, q1, q2, q3, q4, q5, q6⟩ := h3 i hi
  exact ⟨A, c, q1, q2.keep fun b hp hb => hk b hb (Or.inl hp), q3, q4, q5, q6⟩
theorem PutF.below (h : PutF w N P v fs) (hb : Below w.heap.size w w') : PutF w' N P v fs := h.keep fun b hb1 _ => hb.block b hb1
theorem PutF.mono (h : PutF w N P v fs) (hP : ∀ b, P b → b < w.heap.size → P' b) : PutF w N P' v fs := by
  obtain ⟨xs, h1, h3⟩ := h
  refine ⟨xs, h1, fun i hi => ?_⟩
  obtain ⟨A, c, q1, q2, q3, q4, q5, q6⟩ := h3 i hi
  exact ⟨A, c, q1, q2.mono hP, q3, q4, q5, q6⟩
/-- as frames to read -/
theorem PutF.frs_ (h : PutF w N P v fs) : ∃ A c, v = .slice A fs.length c ∧ Frs w w.heap.size A fs ∧ fs.length ≤ c ∧ (A = none → c = 0) ∧ ∀ b, A = some b → N ≤ b.block := by
  obtain ⟨xs, ⟨h0, h1⟩, h2⟩ := h
  rcases h1 with ⟨rfl, h3⟩ | ⟨g, cap, cur, rfl, hg, hh, hn, hc, hsz, ht⟩
  · obtain rfl := List.eq_nil_of_length_eq_zero h3
    exact ⟨none, 0, rfl, Frs.nil_, Nat.le_refl _, fun _ => rfl, fun b e => by cases e⟩
  · refine ⟨some ⟨g, 0, none⟩, cap, rfl, fun _ => ⟨g, 0, rfl, (Array.getElem?_eq_some_iff.1 hh).1, fun i hi => ?_⟩, hn, (fun e => by cases e), (fun b e => by cases e; exact hg)⟩
    obtain ⟨A, c, q1, q2, q3, q4, q5, q6⟩ := h2 i hi
    refine ⟨_, ⟨A, c, rfl, q2.by_, q3, q4, q5, q6⟩, fun j u hu => ?_⟩
    have h5 := q1 j u hu
    have hj : j < 6 := frv_get hu
    rw [Nat.zero_add, cell_of_row w g (i * 6 + j) cur _ _ hh, ← h5]
    have h4 := congrArg (·[i * 6 + j]?) ht
    simp only [List.getElem?_take] at h4
    rw [if_pos (by omega)] at h4
    rw [← h4]; simp
/-- one more frame -/
theorem PutF.more {g cap c : Nat} {A : Option Addr} {f : Fr} {xs : List Value} (hl : xs.length = fs.length * 6) (hx : ∀ i (h : i < fs.length), ∃ A c, (∀ j u, (frv A c fs[i])[j]? = some u → xs[i * 6 + j]? = some u) ∧ ByP w P A fs[i].load ∧ fs[i].load.length ≤ c ∧ c ≤ maxLen ∧ (A = none → c = 0) ∧ fs[i].Fine)
    (ho : w'.ownsRow N 54 6 (.slice (some ⟨g, 0, none⟩) (fs.length + 1) cap) (fs.length + 1) (xs ++ frv A c f)) (hk : ∀ k, P k → k < w.heap.size → w'.heap[k]? = w.heap[k]?)
    (hy : ByP w P A f.load) (h1 : f.load.length ≤ c) (h2 : c ≤ maxLen) (h3 : A = none → c = 0) (hf : f.Fine) :
    PutF w' N P (.slice (some ⟨g, 0, none⟩) (fs.length + 1) cap) (fs ++ [f]) := by
  refine ⟨xs ++ frv A c f, by simpa using ho, fun i hi => ?_⟩
  by_cases hi1 : i < fs.length
  · obtain ⟨A1, c1, q1, q2, q3, q4, q5, q6⟩ := hx i hi1
    rw [List.getElem_append_left hi1]
    refine ⟨A1, c1, fun j u hu => ?_, q2.keep hk, q3, q4, q5, q6⟩
    have hj := frv_get hu
    rw [List.getElem?_append_left (by omega)]
    exact q1 j u hu
  · have hi2 : i = fs.length := by simp at hi; omega
    subst hi2
    rw [List.getElem_append_right (by omega)]
    simp only [Nat.sub_self, List.getElem_cons_zero]
    refine ⟨A, c, fun j u hu => ?_, hy.keep hk, h1, h2, h3, hf⟩
    rw [List.getElem?_append_right (by omega), hl, Nat.add_sub_cancel_left]
    exact hu
end
end Go.Proofs.YtkajcgpkldofjaaDoor
end

section
/-
  What Scan holds between two frames: its boxes, the parts of a record that is begun, the records found.
-/
namespace Go.Proofs.YtkajcgpkldofjaaDoor
open Go.RowKit Fm

/-- w: where Scan began; b10: the parts' box; from N on: what the range made. -/
structure Now (w : World) (tail : Int) (b10 N : Nat) (begun : List Fr) (out : List (List Nat)) (next : Int) (v r : Value) (Pay : Nat → Prop) (W : World) : Prop where
  rbox : W.heap[w.heap.size]? = some (.cells #[r] 29 (0, 0))
  lbox : W.heap[w.heap.size + 1]? = some (.cells #[.int .i64 tail, .int .i64 next] 23 (0, 0))
  pbox : W.heap[b10]? = some (.cells #[v] 47 (0, 0))
  puts : PutF W N Pay v begun
  rows : PutV W N Pay r out
  pay : ∀ k, Pay k → N ≤ k ∧ k < W.heap.size ∧ v.ownBlock ≠ some k ∧ r.ownBlock ≠ some k
  apart : ∀ k, v.ownBlock = some k → r.ownBlock ≠ some k
  low : Below w.heap.size w W
/-- the numbers of the blocks -/
structure Laid3 (w : World) (b10 N : Nat) : Prop where
  b : w.heap.size + 1 < b10
  n : b10 < N
theorem own_ltj {w : World} {N n : Nat} {e : TypeId} {size : Nat} {v : Value} {xs : List Value} (h : w.ownsRow N e size v n xs) : ∀ k, v.ownBlock = some k → k < w.heap.size := by
  intro k hk
  rcases h.2 with ⟨rfl, _⟩ | ⟨g, cap, cur, rfl, hg, hh, _⟩
  · simp [Value.ownBlock] at hk
  · have : g = k := by simpa [Value.ownBlock] using hk
    subst this
    exact (Array.getElem?_eq_some_iff.1 hh).1
theorem PutF.ltj {w : World} {N : Nat} {P : Nat → Prop} {v : Value} {fs : List Fr} (h : PutF w N P v fs) : ∀ k, v.ownBlock = some k → k < w.heap.size := by
  obtain ⟨xs, h1, _⟩ := h
  exact own_ltj h1
theorem PutV.ltj {w : World} {N : Nat} {P : Nat → Prop} {v : Value} {l : List (List Nat)} (h : PutV w N P v l) : ∀ k, v.ownBlock = some k → k < w.heap.size := by
  obtain ⟨xs, h1, _⟩ := h
  exact own_ltj h1
section
variable {w W W' X : World} {tail next : Int} {b10 N : Nat} {begun : List Fr} {out : List (List Nat)} {v r : Value} {Pay : Nat → Prop}
theorem Now.keep (h : Now w tail b10 N begun out next v r Pay W) (hl : Laid3 w b10 N) (hk : Dk.Kept (fun k => (w.heap.size ≤ k ∧ k < N) ∧ k ≠ w.heap.size ∧ k ≠ w.heap.size + 1 ∧ k ≠ b10) W W') : Now w tail b10 N begun out next v r Pay W' := by
  have hb := hl.b
  have hn := hl.n
  have hN : ∀ k, N ≤ k → k < W.heap.size → W'.heap[k]? = W.heap[k]? := fun k h1 h2 => hk.block k h2 (fun e => by omega)
  have hbox : ∀ k o, (k = w.heap.size ∨ k = w.heap.size + 1 ∨ k = b10) → W.heap[k]? = some o → W'.heap[k]? = some o := fun k o e ho => (hk.block k (Array.getElem?_eq_some_iff.1 ho).1 (fun e2 => by omega)).trans ho
  exact ⟨hbox _ _ (Or.inl rfl) h.rbox, hbox _ _ (Or.inr (Or.inl rfl)) h.lbox, hbox _ _ (Or.inr (Or.inr rfl)) h.pbox,
    h.puts.keep fun b h1 h2 => hN b (by rcases h2 with h2 | h2; exact (h.pay b h2).1; exact h.puts.ge b h2) h1,
    h.rows.keep fun b h1 h2 => hN b (by rcases h2 with h2 | h2; exact (h.pay b h2).1; exact h.rows.ge b h2) h1,
    fun k hp => ⟨(h.pay k hp).1, Nat.lt_of_lt_of_le (h.pay k hp).2.1 hk.size, (h.pay k hp).2.2⟩, h.apart, h.low.trans (hk.to_below (h.low.size) (fun k h1 e => by omega))⟩
theorem Now.below (h : Now w tail b10 N begun out next v r Pay W) (hl : Laid3 w b10 N) (hb : Below W.heap.size W W') : Now w tail b10 N begun out next v r Pay W' := h.keep hl (Dk.Kept.of_below hb (Nat.le_refl _))
/-- one more part -/
theorem Now.part {M g cap c : Nat} {A : Option Addr} {f : Fr} {xs : List Value} (h : Now w tail b10 N begun out next v r Pay W) (hl : Laid3 w b10 N) (hM : ∀ k, v.ownBlock = some k ∨ r.ownBlock = some k → k < M) (hN : N ≤ M) (hWs : N ≤ W.heap.size)
    (hy : ByP W (fun k => M ≤ k ∧ k < W.heap.size ∧ A.map (·.block) = some k) A f.load) (h1 : f.load.length ≤ c) (h2 : c ≤ maxLen) (h3 : A = none → c = 0) (hf : f.Fine) (hlen : xs.length = begun.length * 6)
    (hx : ∀ i (h : i < begun.length), ∃ A c, (∀ j u, (frv A c begun[i])[j]? = some u → xs[i * 6 + j]? = some u) ∧ ByP W Pay A begun[i].load ∧ begun[i].load.length ≤ c ∧ c ≤ maxLen ∧ (A = none → c = 0) ∧ begun[i].Fine)
    (ho : X.ownsRow N 54 6 (.slice (some ⟨g, 0, none⟩) (begun.length + 1) cap) (begun.length + 1) (xs ++ frv A c f)) (hgr : (W.alloc (.cells (frv A c f).toArray 54)).grownBy X v.ownBlock) (hor : v.ownBlock = some g ∨ g = W.heap.size + 1) :
    Now w tail b10 N (begun ++ [f]) out next (.slice (some ⟨g, 0, none⟩) (begun.length + 1) cap) r (fun k => Pay k ∨ (M ≤ k ∧ k < W.heap.size ∧ A.map (·.block) = some k)) (X.setCell ⟨b10, 0, none⟩ (.slice (some ⟨g, 0, none⟩) (begun.length + 1) cap)) ∧
    Dk.Kept (fun k => (k = w.heap.size ∨ k = w.heap.size + 1 ∨ k = b10 ∨ N ≤ k) ∧ k < M) W (X.setCell ⟨b10, 0, none⟩ (.slice (some ⟨g, 0, none⟩) (begun.length + 1) cap)) ∧
    X.cell? ⟨b10, 0, none⟩ = some v ∧ X.frozen? ⟨b10, 0, none⟩ = false := by
  have hb := hl.b
  have hn := hl.n
  have hsz : (W.alloc (.cells (frv A c f).toArray 54)).heap.size = W.heap.size + 1 := by simp
  have hXs := hgr.size
  have hge := h.puts.ge
  have hold : ∀ k, k < W.heap.size → v.ownBlock ≠ some k → X.heap[k]? = W.heap[k]? := fun k hk hne => (hgr.block k (by omega) (fun e => hne e.symm)).trans (Below.heap_alloc _ _ _ hk)
  have hne : ∀ k, k < N → v.ownBlock ≠ some k := fun k hk e => by have := hge k e; omega
  have hset : ∀ k, k ≠ b10 → (X.setCell ⟨b10, 0, none⟩ (.slice (some ⟨g, 0, none⟩) (begun.length + 1) cap)).heap[k]? = X.heap[k]? := fun k hk => Below.heap_setCell _ _ _ _ hk
  have hszX : (X.setCell ⟨b10, 0, none⟩ (.slice (some ⟨g, 0, none⟩) (begun.length + 1) cap)).heap.size = X.heap.size := by simp [World.setCell]
  have hpb : X.heap[b10]? = some (.cells #[v] 47 (0, 0)) := (hold b10 (by omega) (hne _ hn)).trans h.pbox
  have hPayX : ∀ k, (Pay k ∨ (M ≤ k ∧ k < W.heap.size ∧ A.map (·.block) = some k)) → k < W.heap.size ∧ v.ownBlock ≠ some k ∧ r.ownBlock ≠ some k ∧ N ≤ k := fun k hk => by
    rcases hk with hk | ⟨hk, hk2, _⟩
    · obtain ⟨q1, q2, q3, q4⟩ := h.pay k hk
      exact ⟨q2, q3, q4, q1⟩
    · exact ⟨hk2, fun e => by have := hM k (Or.inl e); omega, fun e => by have := hM k (Or.inr e); omega, by omega⟩
  have hg : N ≤ g ∧ g ≠ b10 ∧ ∀ k, (Pay k ∨ (M ≤ k ∧ k < W.heap.size ∧ A.map (·.block) = some k)) → g ≠ k := by
    rcases hor with e | e
    · exact ⟨hge g e, by have := hge g e; omega, fun k hk e2 => (hPayX k hk).2.1 (by rw [← e2]; exact e)⟩
    · exact ⟨by omega, by omega, fun k hk e2 => by have := (hPayX k hk).1; omega⟩
  have hown : (Value.slice (some ⟨g, 0, none⟩) (begun.length + 1) cap).ownBlock = some g := rfl
  have hpf : PutF X N (fun k => Pay k ∨ (M ≤ k ∧ k < W.heap.size ∧ A.map (·.block) = some k)) (.slice (some ⟨g, 0, none⟩) (begun.length + 1) cap) (begun ++ [f]) :=
    PutF.more (w := W) hlen (fun i hi => by
      obtain ⟨A1, c1, q1, q2, q3⟩ := hx i hi
      exact ⟨A1, c1, q1, q2.mono fun k hk _ => Or.inl hk, q3⟩) ho (fun k hk hk2 => hold k hk2 (hPayX k hk).2.1) (hy.mono fun k hk _ => Or.inr hk) h1 h2 h3 hf
  have hrv : ∀ k, r.ownBlock = some k → k < W.heap.size ∧ v.ownBlock ≠ some k ∧ N ≤ k := fun k e => ⟨h.rows.ltj k e, fun e2 => h.apart k e2 e, h.rows.ge k e⟩
  refine ⟨⟨(hset _ (by omega)).trans ((hold _ (by omega) (hne _ (by omega))).trans h.rbox), (hset _ (by omega)).trans ((hold _ (by omega) (hne _ (by omega))).trans h.lbox), ?_, hpf.keep fun k hk h2 => hset k ?_, ?_, fun k hk => ⟨(hPayX k hk).2.2.2, ?_, ?_, (hPayX k hk).2.2.1⟩, fun k e e2 => ?_, ?_⟩, ?_, ?_, ?_⟩
  · rw [heap_setCell_same X b10 0 _ _ _ hpb]; rfl
  · rcases h2 with h2 | h2
    · have := (hPayX k h2).2.2.2; omega
    · rw [hown] at h2; cases h2; exact hg.2.1
  · refine (h.rows.mono (P' := fun k => Pay k ∨ (M ≤ k ∧ k < W.heap.size ∧ A.map (·.block) = some k)) fun k hk _ => Or.inl hk).keep fun k hk h2 => (hset k ?_).trans (hold k hk ?_)
    · rcases h2 with h2 | h2
      · have := (hPayX k h2).2.2.2; omega
      · have := (hrv k h2).2.2; omega
    · rcases h2 with h2 | h2
      · exact (hPayX k h2).2.1
      · exact (hrv k h2).2.1
  · rw [hszX]; have := (hPayX k hk).1; omega
  · rw [hown]; intro e; exact hg.2.2 k hk (Option.some.inj e)
  · rw [hown] at e
    cases e
    rcases hor with e3 | e3
    · exact h.apart g e3 e2
    · have := h.rows.ltj g e2; omega
  · exact (h.low.trans (((Below.refl w.heap.size W).alloc h.low.size _).grown hgr (by rw [hsz]; have := h.low.size; omega) (fun k e => by have := hge k e; omega))).setCell (by show w.heap.size ≤ b10; omega) _
  · refine (((Dk.Kept.refl _ W).alloc _).grown hgr (fun k e hk => ?_)).grown (Dk.grown_setCell X b10 0 _) (fun k e hk => ?_)
    · exact ⟨Or.inr (Or.inr (Or.inr (hge k e))), hM k (Or.inl e)⟩
    · cases e; exact ⟨Or.inr (Or.inr (Or.inl rfl)), by omega⟩
  · rw [cell_of_row _ _ 0 _ _ _ hpb]; rfl
  · exact frozen_of_row _ _ 0 _ _ hpb
/-- a record is whole: its bytes are found, no part is begun -/
theorem Now.found {M g cap c : Nat} {A : Option Addr} {b : List Nat} {xs : List Value} {next' : Int} (h : Now w tail b10 N begun out next v r Pay W) (hl : Laid3 w b10 N) (hM : ∀ k, r.ownBlock = some k → k < M) (hMW : N ≤ M) (hWs : N ≤ W.heap.size)
    (hy : ByP W (fun k => M ≤ k ∧ k < W.heap.size ∧ A.map (·.block) = some k) A b) (h1 : b.length ≤ c) (h2 : c ≤ maxLen) (h3 : A = none → c = 0) (hlen : xs.length = out.length)
    (hx : ∀ i (h : i < out.length), ∃ u, xs[i]? = some u ∧ OneP W Pay u out[i])
    (ho : X.ownsRow N 24 1 (.slice (some ⟨g, 0, none⟩) (out.length + 1) cap) (out.length + 1) (xs ++ [.slice A b.length c])) (hgr : (W.alloc (.cells #[.slice A b.length c] 24)).grownBy X r.ownBlock) (hor : r.ownBlock = some g ∨ g = W.heap.size + 1) :
    ∃ Pay', Now w tail b10 N [] (out ++ [b]) next' (.slice none 0 0) (.slice (some ⟨g, 0, none⟩) (out.length + 1) cap) Pay'
      (((X.setCell ⟨w.heap.size, 0, none⟩ (.slice (some ⟨g, 0, none⟩) (out.length + 1) cap)).setCell ⟨b10, 0, none⟩ (.slice none 0 0)).setCell ⟨w.heap.size + 1, 1, none⟩ (.int .i64 next')) ∧
    Dk.Kept (fun k => (k = w.heap.size ∨ k = w.heap.size + 1 ∨ k = b10 ∨ N ≤ k) ∧ k < M) W
      (((X.setCell ⟨w.heap.size, 0, none⟩ (.slice (some ⟨g, 0, none⟩) (out.length + 1) cap)).setCell ⟨b10, 0, none⟩ (.slice none 0 0)).setCell ⟨w.heap.size + 1, 1, none⟩ (.int .i64 next')) ∧
    X.heap[w.heap.size]? = some (.cells #[r] 29 (0, 0)) ∧ X.heap[w.heap.size + 1]? = some (.cells #[.int .i64 tail, .int .i64 next] 23 (0, 0)) ∧ X.heap[b10]? = some (.cells #[v] 47 (0, 0)) ∧
    ∀ k, k < W.heap.size → r.ownBlock ≠ some k → X.heap[k]? = W.heap[k]? := by
  have hb := hl.b
  have hn := hl.n
  have hsz : (W.alloc (.cells #[.slice A b.length c] 24)).heap.size = W.heap.size + 1 := by simp
  have hXs := hgr.size
  have hge := h.rows.ge
  have hold : ∀ k, k < W.heap.size → r.ownBlock ≠ some k → X.heap[k]? = W.heap[k]? := fun k hk hne => (hgr.block k (by omega) (fun e => hne e.symm)).trans (Below.heap_alloc _ _ _ hk)
  have hne : ∀ k, k < N → r.ownBlock ≠ some k := fun k hk e => by have := hge k e; omega
  obtain ⟨Z, hZ⟩ : ∃ Z, Z = (((X.setCell ⟨w.heap.size, 0, none⟩ (.slice (some ⟨g, 0, none⟩) (out.length + 1) cap)).setCell ⟨b10, 0, none⟩ (.slice none 0 0)).setCell ⟨w.heap.size + 1, 1, none⟩ (.int .i64 next')) := ⟨_, rfl⟩
  rw [← hZ]
  have hset : ∀ k, k ≠ w.heap.size → k ≠ w.heap.size + 1 → k ≠ b10 → Z.heap[k]? = X.heap[k]? := fun k k1 k2 k3 => by
    rw [hZ]; exact (Below.heap_setCell _ _ _ _ k2).trans ((Below.heap_setCell _ _ _ _ k3).trans (Below.heap_setCell _ _ _ _ k1))
  have hszZ : Z.heap.size = X.heap.size := by rw [hZ]; simp [World.setCell]
  have r0 : X.heap[w.heap.size]? = some (.cells #[r] 29 (0, 0)) := (hold _ (by omega) (hne _ (by omega))).trans h.rbox
  have r1 : X.heap[w.heap.size + 1]? = some (.cells #[.int .i64 tail, .int .i64 next] 23 (0, 0)) := (hold _ (by omega) (hne _ (by omega))).trans h.lbox
  have r2 : X.heap[b10]? = some (.cells #[v] 47 (0, 0)) := (hold _ (by omega) (hne _ (by omega))).trans h.pbox
  have z0 : Z.heap[w.heap.size]? = some (.cells #[.slice (some ⟨g, 0, none⟩) (out.length + 1) cap] 29 (0, 0)) := by
    rw [hZ, Below.heap_setCell _ _ _ _ (show w.heap.size ≠ w.heap.size + 1 by omega), Below.heap_setCell _ _ _ _ (show w.heap.size ≠ b10 by omega), heap_setCell_same X w.heap.size 0 _ _ _ r0]; rfl
  have z2 : Z.heap[b10]? = some (.cells #[.slice none 0 0] 47 (0, 0)) := by
    rw [hZ, Below.heap_setCell _ _ _ _ (show b10 ≠ w.heap.size + 1 by omega), heap_setCell_same _ b10 0 _ _ _ ((Below.heap_setCell _ _ _ _ (show b10 ≠ w.heap.size by omega)).trans r2)]; rfl
  have z1 : Z.heap[w.heap.size + 1]? = some (.cells #[.int .i64 tail, .int .i64 next'] 23 (0, 0)) := by
    rw [hZ, heap_setCell_same _ (w.heap.size + 1) 1 _ _ _ ((Below.heap_setCell _ _ _ _ (show w.heap.size + 1 ≠ b10 by omega)).trans ((Below.heap_setCell _ _ _ _ (show w.heap.size + 1 ≠ w.heap.size by omega)).trans r1))]; rfl
  obtain ⟨Q, hQ⟩ : ∃ Q : Nat → Prop, Q = fun k => Pay k ∨ (M ≤ k ∧ k < W.heap.size ∧ A.map (·.block) = some k) := ⟨_, rfl⟩
  have hPayX : ∀ k, Q k → k < W.heap.size ∧ r.ownBlock ≠ some k ∧ N ≤ k := fun k hk => by
    rw [hQ] at hk
    rcases hk with hk | ⟨hk, hk2, _⟩
    · obtain ⟨q1, q2, q3, q4⟩ := h.pay k hk
      exact ⟨q2, q4, q1⟩
    · exact ⟨hk2, fun e => by have := hM k e; omega, by omega⟩
  have hg : N ≤ g ∧ g ≠ b10 ∧ ∀ k, Q k → g ≠ k := by
    rcases hor with e | e
    · exact ⟨hge g e, by have := hge g e; omega, fun k hk e2 => (hPayX k hk).2.1 (by rw [← e2]; exact e)⟩
    · exact ⟨by omega, by omega, fun k hk e2 => by have := (hPayX k hk).1; omega⟩
  have hown : (Value.slice (some ⟨g, 0, none⟩) (out.length + 1) cap).ownBlock = some g := rfl
  have hpv : PutV X N Q (.slice (some ⟨g, 0, none⟩) (out.length + 1) cap) (out ++ [b]) :=
    PutV.more (h.rows.mono (P' := Q) fun k hk _ => by rw [hQ]; exact Or.inl hk) ⟨hlen, fun i hi => by
      obtain ⟨u, q1, q2⟩ := hx i hi
      exact ⟨u, q1, q2.mono fun k hk _ => by rw [hQ]; exact Or.inl hk⟩⟩ ho (fun k hk hk2 => hold k hk2 (hPayX k hk).2.1) ⟨A, c, rfl, hy.mono fun k hk _ => by rw [hQ]; exact Or.inr hk, h1, h2, h3⟩
  refine ⟨Q, ⟨z0, z1, z2, PutF.nil_ _ _ _, hpv.keep fun k hk h4 => hset k ?_ ?_ ?_, fun k hk => ⟨(hPayX k hk).2.2, ?_, ?_, ?_⟩, fun k e => ?_, ?_⟩, ?_, r0, r1, r2, hold⟩
  · rcases h4 with h4 | h4
    · have := (hPayX k h4).2.2; omega
    · rw [hown] at h4; have := Option.some.inj h4; omega
  · rcases h4 with h4 | h4
    · have := (hPayX k h4).2.2; omega
    · rw [hown] at h4; have := Option.some.inj h4; omega
  · rcases h4 with h4 | h4
    · have := (hPayX k h4).2.2; omega
    · rw [hown] at h4; have := Option.some.inj h4; omega
  · rw [hszZ]; have := (hPayX k hk).1; omega
  · simp [Value.ownBlock]
  · rw [hown]; intro e; exact hg.2.2 k hk (Option.some.inj e)
  · simp [Value.ownBlock] at e
  · rw [hZ]
    exact (((h.low.trans (((Below.refl w.heap.size W).alloc h.low.size _).grown hgr (by rw [hsz]; have := h.low.size; omega) (fun k e => by have := hge k e; omega))).setCell (by show w.heap.size ≤ w.heap.size; omega) _).setCell (by show w.heap.size ≤ b10; omega) _).setCell (by show w.heap.size ≤ w.heap.size + 1; omega) _
  · rw [hZ]
    refine (((((Dk.Kept.refl _ W).alloc _).grown hgr (fun k e hk => ?_)).grown (Dk.grown_setCell X w.heap.size 0 _) (fun k e hk => ?_)).grown (Dk.grown_setCell _ b10 0 _) (fun k e hk => ?_)).grown (Dk.grown_setCell _ (w.heap.size + 1) 1 _) (fun k e hk => ?_)
    · exact ⟨Or.inr (Or.inr (Or.inr (hge k e))), hM k e⟩
    · cases e; exact ⟨Or.inl rfl, by omega⟩
    · cases e; exact ⟨Or.inr (Or.inr (Or.inl rfl)), by omega⟩
    · cases e; exact ⟨Or.inr (Or.inl rfl), by omega⟩
end
end Go.Proofs.YtkajcgpkldofjaaDoor
end

section
/-
  What journal's calls answer where there is no disk: Append, Scan, Each.
-/
namespace Go.Proofs.YtkajcgpkldofjaaDoor
open Go.RowKit Fm
set_option maxRecDepth 100000

theorem results_two_cells {P : Program} {fn : Func} {p q u : Tmp} {t1 t2 : TypeId} (h : fn.results = #[.cell p t1, .cell q t2, .tmp u]) (tmps : Array Value) (w : World) (g1 g2 : Nat) (v : Value) (cs : Array Value) (fr : Nat × Nat) (d : TypeDesc)
    (hp : tmps.getD p undef = .pointer (some ⟨g1, 0, none⟩)) (hq : tmps.getD q undef = .pointer (some ⟨g2, 0, none⟩)) (h1 : (loadVar t1 ⟨g1, 0, none⟩).run P w = .ok v w) (hg : w.heap[g2]? = some (.cells cs t2 fr))
    (hu : P.underlying t2 = some d) (hd : (match d with | .struct _ | .array _ _ => true | _ => false) = true) (hi : (P.info? t2).map (·.size) = some cs.size) :
    (results fn tmps).run P w = .ok (.tuple #[v, .agg cs, tmps.getD u undef]) w := by
  have hp' : tmps[p]?.getD undef = .pointer (some ⟨g1, 0, none⟩) := by simpa using hp
  have hq' : tmps[q]?.getD undef = .pointer (some ⟨g2, 0, none⟩) := by simpa using hq
  simp [results, h, hp', hq', asAddr, h1, run_loadVar_row w g2 t2 t2 cs fr d hg hu hd hi, Sem.run_bind, Result.andThen]
theorem load_rows_cell {w : World} {g : Nat} {v : Value} (h : w.cell? ⟨g, 0, none⟩ = some v) : (loadVar 29 ⟨g, 0, none⟩).run Tryd.prog w = .ok v w := by
  simp [loadVar, isAgg, Sem.run_bind, Result.andThen, go_sem, h, Tryd.underlying29]

theorem results_cell_bool {fn : Func} {p : Tmp} (h : fn.results = #[.cell p 4]) (tmps : Array Value) (w : World) (g : Nat) (v : Value) (hp : tmps.getD p undef = .pointer (some ⟨g, 0, none⟩)) (hc : w.cell? ⟨g, 0, none⟩ = some v) :
    (results fn tmps).run Tryd.prog w = .ok v w := by
  have hp' : tmps[p]?.getD undef = .pointer (some ⟨g, 0, none⟩) := by simpa using hp
  simp [results, h, hp', asAddr, loadVar, isAgg, Sem.run_bind, Result.andThen, go_sem, hc, Tryd.underlying4]

set_option maxHeartbeats 1000000 in
theorem append_nil : AppendNilSays := by
  intro w t n bs A c _ _ _ _ _
  obtain ⟨w2, hw2⟩ : ∃ w2, w2 = (w.alloc (.cells #[.int .i64 t, .int .i64 n] 23)).alloc (.cells #[.int .i64 0, .int .i64 0] 23) := ⟨_, rfl⟩
  have HB0 := Lib.hid (show Below w.heap.size w w2 by rw [hw2]; exact ((Below.refl w.heap.size w).alloc (Nat.le_refl _) _).alloc (by simp) _)
  have g0 : w2.heap[w.heap.size]? = some (.cells #[.int .i64 t, .int .i64 n] 23 (0, 0)) := by
    rw [hw2]; exact (Below.heap_alloc _ _ _ (by simp)).trans (heap_alloc_new w _)
  have g1 : w2.heap[w.heap.size + 1]? = some (.cells #[.int .i64 0, .int .i64 0] 23 (0, 0)) := by
    rw [hw2]
    have h := heap_alloc_new (w.alloc (.cells #[.int .i64 t, .int .i64 n] 23)) (.cells #[.int .i64 0, .int .i64 0] 23)
    rwa [World.size_alloc] at h
  have c0 := cell_of_row w2 w.heap.size 0 _ _ _ g0
  have c1 := cell_of_row w2 w.heap.size 1 _ _ _ g0
  simp only [List.getElem?_toArray, List.getElem?_cons_zero, List.getElem?_cons_succ] at c0 c1
  have HW2 := Lib.hid hw2
  rw [hw2] at c0 c1 g1
  clear hw2 g0
  go_enter Tryd.func8, Tryd.ntmps8
  go_wp2_with (refine wpList_store_row rfl 23 (.tmp 8) (.tmp 19) rfl (w.heap.size + 1) #[.int .i64 t, .int .i64 n] (by simp [Act.eval, Act.put]) (by simp [Act.eval, Act.put]) 23 #[.int .i64 0, .int .i64 0] g1 (Tryd.infoLsj _ _) (size2j _ _ _ _) (one2j _ _) ?_)
  exact bodyPost_ret (results_cell_tmp (t := 23) (p := 8) (u := 9) rfl _ _ (w.heap.size + 1) #[.int .i64 t, .int .i64 n] (0, 0) _ rfl (setRow_heap _ _ _ _ _ _ g1) Tryd.underlying23 rfl Tryd.infoLj) rfl (by
    rw [← HW2.out]
    exact ⟨⟨t, n, rfl⟩, below_setRow HB0.out (by omega) _⟩)

set_option maxHeartbeats 1000000 in
theorem scan_nil0 (w : World) (n : Int) : Calls Tryd.prog 9 #[.pointer none, .int .i64 n] w fun e w' =>
    e = .returned (.tuple #[.slice none 0 0, .agg #[.int .i64 0, .int .i64 0], .int .i64 1]) ∧ Below w.heap.size w w' := by
  obtain ⟨w2, hw2⟩ : ∃ w2, w2 = (w.alloc (.cells #[.slice none 0 0] 29)).alloc (.cells #[.int .i64 0, .int .i64 0] 23) := ⟨_, rfl⟩
  have HB0 := Lib.hid (show Below w.heap.size w w2 by rw [hw2]; exact ((Below.refl w.heap.size w).alloc (Nat.le_refl _) _).alloc (by simp) _)
  have HW2 := Lib.hid hw2
  have HG := Lib.hid (show w2.heap[w.heap.size + 1]? = some (.cells #[.int .i64 0, .int .i64 0] 23 (0, 0)) by
    rw [hw2]
    have h := heap_alloc_new (w.alloc (.cells #[.slice none 0 0] 29)) (.cells #[.int .i64 0, .int .i64 0] 23)
    rwa [World.size_alloc] at h)
  have HC := Lib.hid (show w2.cell? ⟨w.heap.size, 0, none⟩ = some (.slice none 0 0) by
    rw [cell_of_row w2 w.heap.size 0 _ _ _ ((show w2.heap[w.heap.size]? = some (.cells #[.slice none 0 0] 29 (0, 0)) by rw [hw2]; exact (Below.heap_alloc _ _ _ (by simp)).trans (heap_alloc_new w _)))]; rfl)
  clear hw2
  go_enter Tryd.func9, Tryd.ntmps9
  go_wp2
  go_step3
  go_wp2
  rw [Exit.noGoto_ret]
  rw [← HW2.out]
  exact bodyPost_ret (results_two_cells (p := 4) (q := 5) (u := 6) rfl _ _ w.heap.size (w.heap.size + 1) (.slice none 0 0) #[.int .i64 0, .int .i64 0] (0, 0) _ rfl rfl (load_rows_cell HC.out) HG.out Tryd.underlying23 rfl Tryd.infoLj) rfl ⟨rfl, HB0.out⟩
theorem scan_nil : ScanNilSays := fun w n _ => (scan_nil0 w n).mono fun e w' h => ⟨⟨none, 0, 0, 0, 0, h.1⟩, h.2⟩

/-- Each over no records: it never yields. -/
def encE (x : Int × Value) : Array Value := #[.int .i64 x.1, x.2]
theorem each0_yields (t : Int) (w : World) : Dk.Yields1 Fence.wide 2 Tryd.prog 52 #[.agg #[.int .i64 t, .slice none 0 0]] encE (fun _ => False) (fun _ => False) (fun xs => xs = []) w := by
  intro l J W hW hl hl2 hJ hY h0
  have HJ := Lib.hid (hJ _ _ (W.alloc (.cells #[.int .i64 t, .slice none 0 0] 105)) none h0 (World.grownBy_alloc W _ none) (fun _ e => by cases e))
  clear hJ hY h0
  refine callsIn_of_wp Tryd.func52 rfl trivial ?_ rfl
  simp only [Tryd.ntmps52, List.size_toArray, List.length_cons, List.length_nil, Nat.reduceAdd, Nat.reduceSub, Array.replicate_succ, Array.replicate_zero, List.push_toArray, List.append_toArray, List.nil_append, List.cons_append]
  gi_wp2
  gi_loopw [4, 12] (fun s i wr => s = .int .i64 t ∧ i = .int .i64 0 ∧ J [] wr) (fun _ _ _ => 0)
  case atStart => exact ⟨rfl, rfl, HJ.out⟩
  case round =>
    obtain ⟨rfl, rfl, hj⟩ := hrel
    gi_wp2
    go_end0
    exact ⟨⟨_, rfl⟩, [], rfl, hj⟩
set_option maxHeartbeats 1000000 in
theorem each_nil (w : World) : Calls Tryd.prog 28 #[.pointer none, .int .i64 1] w fun e w' =>
    e = .returned (.func (.func 52) #[.agg #[.int .i64 1, .slice none 0 0]] #[]) ∧ Below w.heap.size w w' := by
  have H := Lib.hid (scan_nil0 w 1)
  go_enter Tryd.func28, Tryd.ntmps28
  go_wp2_with fail
  refine H.out.mono ?_
  rintro e w7 ⟨rfl, hb7⟩
  have HB := Lib.hid (hb7.alloc hb7.size (.cells #[.int .i64 0, .int .i64 0] 23))
  clear hb7
  go_wp2
  go_ret
  exact ⟨rfl, HB.out⟩

set_option maxHeartbeats 2000000 in
theorem goes_nil : GoesNilSays := by
  intro w
  obtain ⟨w3, hw3⟩ : ∃ w3, w3 = ((w.alloc (.cells #[.slice none 0 0] 64)).alloc (.cells #[.int .i64 0] 3)).alloc (.cells #[.bool false] 4) := ⟨_, rfl⟩
  have HB3 := Lib.hid (show Below w.heap.size w w3 by rw [hw3]; exact (((Below.refl w.heap.size w).alloc (Nat.le_refl _) _).alloc (by simp) _).alloc (by simp; omega) _)
  have HW3 := Lib.hid hw3
  have HZ3 := Lib.hid (show w3.heap.size = w.heap.size + 3 by rw [hw3]; simp)
  have HG3 := Lib.hid (show ∀ W, Below w3.heap.size w3 W → W.heap[w.heap.size]? = some (.cells #[.slice none 0 0] 64 (0, 0)) ∧ W.heap[w.heap.size + 1]? = some (.cells #[.int .i64 0] 3 (0, 0)) ∧ W.heap[w.heap.size + 2]? = some (.cells #[.bool false] 4 (0, 0)) from fun W hW => by
    have hz : w3.heap.size = w.heap.size + 3 := by rw [hw3]; simp
    refine ⟨(hW.block _ (by omega)).trans ?_, (hW.block _ (by omega)).trans ?_, (hW.block _ (by omega)).trans ?_⟩
    · rw [hw3, Below.heap_alloc _ _ _ (by simp; omega), Below.heap_alloc _ _ _ (by simp)]; exact heap_alloc_new w _
    · rw [hw3, Below.heap_alloc _ _ _ (by simp)]
      have h := heap_alloc_new (w.alloc (.cells #[.slice none 0 0] 64)) (.cells #[.int .i64 0] 3)
      rwa [World.size_alloc] at h
    · rw [hw3]
      have h := heap_alloc_new ((w.alloc (.cells #[.slice none 0 0] 64)).alloc (.cells #[.int .i64 0] 3)) (.cells #[.bool false] 4)
      rwa [World.size_alloc, World.size_alloc] at h)
  have HE := Lib.hid (fun W => each_nil W)
  have hnf : ∀ W : World, (binOp BinOp.eql 66 (.func (.func 52) #[.agg #[.int .i64 1, .slice none 0 0]] #[]) .nilFunc).run Tryd.prog W = .ok (.bool false) W := fun W => rfl
  have HQ := Lib.hid (fun W => each0_yields 1 W)
  clear hw3
  refine (callsIn_wide (n := 3)).1 ?_
  refine callsIn_of_wp_marks Tryd.func13 rfl trivial ?_ rfl
  simp only [Tryd.ntmps13, List.size_toArray, List.length_cons, List.length_nil, Nat.reduceAdd, Nat.reduceSub, Array.replicate_succ, Array.replicate_zero, List.push_toArray, List.append_toArray, List.nil_append, List.cons_append]
  gi_wp2_with (refine ⟨trivial, ?_⟩; gi_at_call 28; refine CallsIn.mono (callsIn_wide.2 (HE.out _)) ?_; rintro e w' ⟨rfl, hb7⟩)
  obtain ⟨w8, hw8⟩ : ∃ w8, w8 = w'.alloc (.cells #[.int .i64 0] 3) := ⟨_, rfl⟩
  rw [← HW3.out] at hb7
  have hb8 : Below w3.heap.size w3 w8 := by rw [hw8]; exact hb7.alloc hb7.size _
  have hn8 : w8.heap[w'.heap.size]? = some (.cells #[.int .i64 0] 3 (0, 0)) := by rw [hw8]; exact heap_alloc_new w' _
  have hz8 : w8.heap.size = w'.heap.size + 1 := by rw [hw8]; simp
  rw [← hw8]
  have HB8 := Lib.hid hb8
  have HN8 := Lib.hid hn8
  have HZ8 := Lib.hid hz8
  have HB7 := Lib.hid hb7
  clear hw8 hb8 hn8 hz8 hb7
  refine Dk.range_rounds rfl (by omega) (gf := 52) (bd := #[.agg #[.int .i64 1, .slice none 0 0]]) rfl trivial (enters_of Tryd.func52 (by kernel_rfl) rfl) (T := fun _ => False) (encs := encE) (Ok := fun _ => False) (fun k e => e.elim) (HQ.out _) (fun _ => rfl)
    (fun pre W => Below w8.heap.size w8 W) ?lasts ?start ?round ?done
  case lasts =>
    rintro pre W W' row hd1 hg hr
    exact hd1.grown hg hd1.size hr
  case start => exact Below.refl _ _
  case round =>
    rintro pre x W _ _ h
    exact h.elim
  case done =>
    rintro xs W rfl hB hsz hdef
    have hz8 := HZ8.out
    have hz3 := HZ3.out
    have hz7 := HB7.out.size
    obtain ⟨g0, g1, g2⟩ := HG3.out W (HB8.out.trans (hB.mono HB8.out.size))
    have gn := (hB.block w'.heap.size (by omega)).trans HN8.out
    have c0 : W.cell? ⟨w.heap.size, 0, none⟩ = some (.slice none 0 0) := by rw [cell_of_row _ _ 0 _ _ _ g0]; rfl
    have c1 : W.cell? ⟨w.heap.size + 1, 0, none⟩ = some (.int .i64 0) := by rw [cell_of_row _ _ 0 _ _ _ g1]; rfl
    have c2 : W.cell? ⟨w.heap.size + 1 + 1, 0, none⟩ = some (.bool false) := by rw [show w.heap.size + 1 + 1 = w.heap.size + 2 from rfl, cell_of_row _ _ 0 _ _ _ g2]; rfl
    have f2 : W.frozen? ⟨w.heap.size + 1 + 1, 0, none⟩ = false := frozen_of_row _ _ 0 _ _ g2
    have cn : W.cell? ⟨w'.heap.size, 0, none⟩ = some (.int .i64 0) := by rw [cell_of_row _ _ 0 _ _ _ gn]; rfl
    have HBW := Lib.hid (HB3.out.trans ((HB8.out.trans (hB.mono HB8.out.size)).mono HB3.out.size))
    have HDf := Lib.hid hdef
    have HG2 := Lib.hid g2
    clear g0 g1 g2 gn hB hsz hdef hz8 hz3 hz7
    obtain ⟨W4, hW4⟩ : ∃ W4, W4 = W.setCell ⟨w.heap.size + 1 + 1, 0, none⟩ (.bool true) := ⟨_, rfl⟩
    have hne : w8.heap.size ≠ w.heap.size + 1 + 1 := by have := HZ8.out; have := HZ3.out; have := HB7.out.size; omega
    have hd4 : W4.heap[w8.heap.size]? = some (.deferred (some [])) := by rw [hW4]; exact (Below.heap_setCell _ _ _ _ hne).trans HDf.out
    have hb4 : Below w.heap.size w W4 := by rw [hW4]; exact HBW.out.setCell (by show w.heap.size ≤ w.heap.size + 1 + 1; omega) _
    have hb5 : Below w.heap.size w (W4.putObj w8.heap.size (.deferred none)) := hb4.grown (grownBy_putObj' W4 w8.heap.size (.deferred none)) hb4.size (fun r e => by have := Option.some.inj e; have := HZ8.out; have := HZ3.out; have := HB7.out.size; omega)
    have hr4 : W4.heap[w.heap.size + 2]? = some (.cells #[.bool true] 4 (0, 0)) := by
      rw [hW4, show w.heap.size + 1 + 1 = w.heap.size + 2 from rfl, heap_setCell_same W _ 0 _ _ _ HG2.out]; rfl
    have hc5 : (W4.putObj w8.heap.size (.deferred none)).cell? ⟨w.heap.size + 1 + 1, 0, none⟩ = some (.bool true) := by
      rw [World.cell?_of_block (w := W4) (World.putObj_heap_other (fun e => hne e.symm)), show w.heap.size + 1 + 1 = w.heap.size + 2 from rfl, cell_of_row _ _ 0 _ _ _ hr4]; rfl
    have HD4 := Lib.hid hd4
    have HB5 := Lib.hid hb5
    have HC5 := Lib.hid hc5
    clear hd4 hb4 hb5 hr4 hc5 hne
    gi_wp2
    rw [← hW4]
    refine ⟨by simp, .inl ⟨_, _, rfl, run_takeDeferred HD4.out, ?_⟩⟩
    exact ⟨_, results_cell_bool (p := 8) rfl _ _ _ _ rfl HC5.out, rfl, HB5.out⟩
end Go.Proofs.YtkajcgpkldofjaaDoor
end

section
/-
  Scan, by contract.
-/
namespace Go.Proofs.YtkajcgpkldofjaaDoor
open Go.RowKit Go.Shelf Fm
set_option maxRecDepth 100000
attribute [local go_sem] Oper.semAt_some

theorem wpListIn_append_lies {F : Fence} {n : Nat} {P : Program} (w : World) {ops : Array Oper} {rest : List Oper} {o : Oper} {a : Act} {Q : Exit → Act → World → Prop} (hgd : o.guard = none) (s x : Operand) (t : TypeId)
    (ho : o.op = .call { callee := .builtin .append, args := #[s, x], argTypes := #[t, t] })
    (base : Nat) (e : TypeId) (i : TypeInfo) (z : Value) (size bytes : Nat) (ht : P.underlying t = some (.slice e)) (hi : P.info? e = some i) (hz : i.zero = some z)
    (hsize : i.size = size) (hby : i.bytes = bytes) (hzs : z.cells.size = size) (hsz : 0 < size)
    (v : Value) (k : Nat) (xs : List Value) (hs : a.eval s = v) (hown : w.ownsRow base e size v k xs)
    (ad : Addr) (m c : Nat) (news : List Value) (hx : a.eval x = .slice (some ad) m c) (hl : news.length = m * size) (hnews : ∀ j u, news[j]? = some u → w.cell? (ad.add j) = some u) (h1 : ∀ u ∈ news, u.oneCell' = true)
    (hm : 0 < m) (h63 : k + m ≤ maxLen) (hbytes : (k + m) * bytes ≤ 140737488355328) (hbase : base ≤ w.heap.size) (H : Nat) (hH : w.heap.size = H)
    (h : ∀ g cap w', w'.ownsRow base e size (.slice (some ⟨g, 0, none⟩) (k + m) cap) (k + m) (xs ++ news) → w.grownBy w' v.ownBlock → (v.ownBlock = some g ∨ g = H) → wpListIn F n P ops Q rest (a.put o.dst (.slice (some ⟨g, 0, none⟩) (k + m) cap)) w') : wpListIn F n P ops Q (o :: rest) a w := by
  refine wpListIn_plain hgd fun K hK => ?_
  obtain ⟨g, cap, w', hr, h2, h3, h4, _⟩ := run_append_lies (P := P) w t o.type base e i z size bytes ht hi hz hsize hby hzs hsz v k xs hown ad m c news hl hnews h1 hm h63 hbytes hbase H hH
  unfold Oper.wpIn
  refine ⟨?_, ?_⟩
  · simp [Oper.about, ho, resolve, Target.leads, Sem.run_pure]
  · rw [Oper.semAt_plain F _ _ (by rw [ho]; intro c hc'; cases hc')]
    simp [execOp, ho, resolve, invoke, builtin, hs, hx, hr, Result.andThen]
    exact hK _ _ (h g cap w' h2 h3 h4)

theorem calls_round {n l : Nat} {P : Program} {f : FuncId} {args : Array Value} {w : World} {R : Ending → World → Prop} (h : Calls P f args w R) : CallsIn (Fence.wide.inRound l) n P f args w R :=
  (callsIn_wide.2 h : CallsIn Fence.wide n P f args w R)
theorem Tryd.infoFr : (Tryd.prog.info? 54).map (fun i => (i.zero, i.size, i.bytes)) = some (some (.agg #[.int .i64 0, .int .i64 0, .int .i64 0, .int .i64 0, .int .u32 0, .slice none 0 0]), 6, 64) := by kernel_rfl
theorem Tryd.infoBs : (Tryd.prog.info? 24).map (fun i => (i.zero, i.size, i.bytes)) = some (some (.slice none 0 0), 1, 24) := by kernel_rfl
theorem PutV.rows_ge {w : World} {N : Nat} {P : Nat → Prop} {v : Value} {rows : List (List Nat)} (h : PutV w N P v rows) {M : Nat} (hM : M ≤ N) (hP : ∀ k, P k → M ≤ k) : ∃ A c, v = .slice A rows.length c ∧ RowsP w (fun k => M ≤ k) A rows ∧ rows.length ≤ c ∧ c ≤ maxLen ∧ (A = none → c = 0) := by
  obtain ⟨xs, ⟨h0, h1⟩, hl, h2⟩ := h
  have hx : ∀ r ∈ rows, ∀ x ∈ r, x < 256 := fun r hr => by
    obtain ⟨i, hi, rfl⟩ := List.mem_iff_getElem.1 hr
    obtain ⟨u, _, ho⟩ := h2 i hi
    exact ho.lt
  rcases h1 with ⟨rfl, h3⟩ | ⟨g, cap, cur, rfl, hg, hh, hn, hc, hsz, ht⟩
  · obtain rfl := List.eq_nil_of_length_eq_zero h3
    exact ⟨none, 0, rfl, RowsP.nil_, Nat.le_refl _, Nat.zero_le _, fun _ => rfl⟩
  · refine ⟨some ⟨g, 0, none⟩, cap, rfl, ⟨hx, fun _ => ⟨g, 0, rfl, Nat.le_trans hM hg, fun i hi => ?_⟩⟩, hn, hc, fun e => by cases e⟩
    obtain ⟨u, e, ho⟩ := h2 i hi
    refine ⟨u, ?_, ho.mono fun k hk _ => hP k hk⟩
    rw [Nat.zero_add, cell_of_row w g i cur _ _ hh, ← e]
    have h4 := congrArg (·[i]?) ht
    simp only [List.getElem?_take, Nat.mul_one, hi, if_true] at h4
    rw [← h4]; simp
set_option maxHeartbeats 4000000 in
theorem scan_says : ScanSays := by
  intro w S a d tail hd hup hWd hseq
  have ht : 1 ≤ tail ∧ tail ≤ 1099511627776 := by unfold isSeq at hseq; simpa using hseq
  obtain ⟨w2, hw2⟩ : ∃ w2, w2 = (w.alloc (.cells #[.slice none 0 0] 29)).alloc (.cells #[.int .i64 0, .int .i64 0] 23) := ⟨_, rfl⟩
  have HB2 := Lib.hid (show Below w.heap.size w w2 by rw [hw2]; exact ((Below.refl w.heap.size w).alloc (Nat.le_refl _) _).alloc (by simp) _)
  have HZ2 := Lib.hid (show w2.heap.size = w.heap.size + 2 by rw [hw2]; simp)
  have HG2 := Lib.hid (show ∀ X, Below w2.heap.size w2 X → X.heap[w.heap.size]? = some (.cells #[.slice none 0 0] 29 (0, 0)) ∧ X.heap[w.heap.size + 1]? = some (.cells #[.int .i64 0, .int .i64 0] 23 (0, 0)) from fun X hX => by
    have hz : w2.heap.size = w.heap.size + 2 := by rw [hw2]; simp
    refine ⟨(hX.block _ (by omega)).trans ?_, (hX.block _ (by omega)).trans ?_⟩
    · rw [hw2]; exact (Below.heap_alloc _ _ _ (by simp)).trans (heap_alloc_new w _)
    · rw [hw2]
      have h := heap_alloc_new (w.alloc (.cells #[.slice none 0 0] 29)) (.cells #[.int .i64 0, .int .i64 0] 23)
      rwa [World.size_alloc] at h)
  have HW2 := Lib.hid hw2
  have HD := Lib.hid hd
  have HUp := Lib.hid hup
  have HWd := Lib.hid hWd
  have HPl := Lib.hid (fun W => plc_place ht W)
  have HTl := Lib.hid ht
  clear hd hup hWd hseq hw2 ht
  obtain ⟨i0, hi0, hz0, hz1, hz2⟩ := info_parts Tryd.infoFr
  obtain ⟨j0, hj0, hy0, hy1, hy2⟩ := info_parts Tryd.infoBs
  refine (callsIn_wide (n := 5)).1 ?_
  refine callsIn_of_wp_marks Tryd.func9 rfl trivial ?_ rfl
  simp only [Tryd.ntmps9, List.size_toArray, List.length_cons, List.length_nil, Nat.reduceAdd, Nat.reduceSub, Array.replicate_succ, Array.replicate_zero, List.push_toArray, List.append_toArray, List.nil_append, List.cons_append]
  refine wpIn_wide.2 (Rg.calm_wp ?_)
  go_wp2
  go_step3
  go_wp2_with (rw [← HW2.out])
  refine (HPl.out _).mono ?_
  rintro e w3 ⟨rfl, hb3⟩
  obtain ⟨g0, g1⟩ := HG2.out w3 hb3
  have hz3 : w.heap.size + 1 < w3.heap.size := by have := HZ2.out; have := hb3.size; omega
  obtain ⟨w4, hw4⟩ : ∃ w4, w4 = w3.alloc (.cells #[.pointer (some ⟨a, 0, none⟩), .int .i64 tail, .int .i64 0, .int .i64 0, .int .i64 0, .int .i64 0, .int .u32 0, .slice none 0 0, .int .i64 0] 59) := ⟨_, rfl⟩
  have HW4 := Lib.hid hw4
  have g14 : w4.heap[w.heap.size + 1]? = some (.cells #[.int .i64 0, .int .i64 0] 23 (0, 0)) := by rw [hw4, Below.heap_alloc _ _ _ hz3]; exact g1
  clear hw4
  go_wp2_with (first
    | (rw [← HW4.out])
    | (refine wpList_store_row rfl 23 (.tmp 5) (.tmp 31) rfl (w.heap.size + 1) #[.int .i64 tail, .int .i64 tail] (by simp [Act.eval, Act.put]) (by simp [Act.eval, Act.put]) 23 #[.int .i64 0, .int .i64 0] g14 (Tryd.infoLsj _ _) (size2j _ _ _ _) (one2j _ _) ?_))
  obtain ⟨w5, hw5⟩ : ∃ w5, w5 = (w4.setRow (w.heap.size + 1) #[.int .i64 tail, .int .i64 tail]).alloc (.cells #[.slice none 0 0] 47) := ⟨_, rfl⟩
  have hw4 := HW4.out
  have hz4 : w4.heap.size = w3.heap.size + 1 := by rw [hw4]; simp
  have hz5 : w5.heap.size = w4.heap.size + 1 := by rw [hw5]; simp [World.setRow]
  have q0 : w5.heap[w.heap.size]? = some (.cells #[.slice none 0 0] 29 (0, 0)) := by
    rw [hw5, Below.heap_alloc _ _ _ (by simp [World.setRow]; omega), setRow_other _ _ _ _ (by omega), hw4, Below.heap_alloc _ _ _ (by omega)]; exact g0
  have q1 : w5.heap[w.heap.size + 1]? = some (.cells #[.int .i64 tail, .int .i64 tail] 23 (0, 0)) := by
    rw [hw5, Below.heap_alloc _ _ _ (by simp [World.setRow]; omega)]; exact setRow_heap _ _ _ _ _ _ g14
  have q2 : w5.heap[w3.heap.size]? = some (.cells (scanRow a tail none 0 zF 0) 59 (0, 0)) := by
    rw [hw5, Below.heap_alloc _ _ _ (by simp [World.setRow]; omega), setRow_other _ _ _ _ (by omega), hw4]; exact heap_alloc_new w3 _
  have q3 : w5.heap[w4.heap.size]? = some (.cells #[.slice none 0 0] 47 (0, 0)) := by
    rw [hw5]
    have h := heap_alloc_new (w4.setRow (w.heap.size + 1) #[.int .i64 tail, .int .i64 tail]) (.cells #[.slice none 0 0] 47)
    rwa [show (w4.setRow (w.heap.size + 1) #[.int .i64 tail, .int .i64 tail]).heap.size = w4.heap.size by simp [World.setRow]] at h
  have hb4 : Below w.heap.size w w4 := by rw [hw4]; exact (HB2.out.trans (hb3.mono HB2.out.size)).alloc (by omega) _
  have hb5 : Below w.heap.size w w5 := by rw [hw5]; exact (below_setRow hb4 (by omega) _).alloc (by simp [World.setRow]; omega) _
  have hl3 : Laid3 w w4.heap.size (w5.heap.size + 2) := ⟨by omega, by omega⟩
  have HL3 := Lib.hid hl3
  have HW5 := Lib.hid hw5
  have HZ := Lib.hid (And.intro hz3 (And.intro hz4 hz5))
  have HQ := Lib.hid (And.intro q0 (And.intro q1 q3))
  have HB5 := Lib.hid hb5
  have HSeq := Lib.hid (good_tells (s0 := st0 tail) (n0 := w.heap.size) 4 (by omega) (HD.out.below hb5 (Nat.le_refl _)) HUp.out (HWd.out.below hb5) (fun k hk => HD.out.old k hk) HWd.out.1 (by omega) (by omega) q2 rfl (show LastB zF from ⟨by decide, by decide⟩) HTl.out)
  rw [← HW5.out]
  clear hw5 hw4 hz4 hz5 q0 q1 q2 q3 hb4 hb5 hb3 hl3 g0 g1 g14 hz3
  go_step3
  go_wp2_with fail
  refine (wpIn_wide (n := 5)).1 ?_
  obtain ⟨z3, z4, z5⟩ := HZ.out
  refine range_told rfl (by omega) (gf := 24) (bd := #[.pointer (some ⟨w3.heap.size, 0, none⟩)]) rfl trivial (enters_of Tryd.func24 (by kernel_rfl) rfl) (T := fun k => k = w.heap.size ∨ k = w.heap.size + 1 ∨ k = w4.heap.size ∨ w5.heap.size + 2 ≤ k) (fun k e => by omega) (by omega) (by omega) ?hfin HSeq.out (fun _ => rfl)
    (fun s W => ∃ v r Pay, Now w tail w4.heap.size (w5.heap.size + 2) s.begun (s.out.map (·.2)) s.next v r Pay W ∧ Going d tail s) (fun id s W => id = 0 ∧ ∃ v r Pay begun, Now w tail w4.heap.size (w5.heap.size + 2) begun (s.out.map (·.2)) s.next v r Pay W ∧ scanD d tail = (s.out, s.next)) ?lasts ?lastsx ?start ?round ?done ?stop
  case hfin =>
    rintro A A' ⟨A0, c0, f0, hr⟩ hk
    exact ⟨A0, c0, f0, (hk.block _ (Array.getElem?_eq_some_iff.1 hr).1 (fun e => by omega)).trans hr⟩
  case lasts =>
    rintro s A A' ⟨v, r, Pay, hN, hG⟩ hk
    exact ⟨v, r, Pay, hN.keep HL3.out (hk.mono fun k _ e => by omega), hG⟩
  case lastsx =>
    rintro id s A A' ⟨rfl, v, r, Pay, bg, hN, hG⟩ hk
    exact ⟨rfl, v, r, Pay, bg, hN.keep HL3.out (hk.mono fun k _ e => by omega), hG⟩
  case start =>
    exact ⟨.slice none 0 0, .slice none 0 0, fun _ => False, ⟨HQ.out.1, HQ.out.2.1, HQ.out.2.2, PutF.nil_ _ _ _, PutV.nil_ _ _ _, fun k e => e.elim, fun k e => by simp [Value.ownBlock] at e, HB5.out⟩, Going.start d tail⟩
  case round =>
    rintro s ⟨A5, c5, f⟩ Wp W hltP ⟨v, r, Pay, hN, hG⟩ hb ⟨hj, hgd, hf, hfv, hnew⟩
    replace hf : f = readF (rdD d (tail + (s.j : Int))) := hf
    replace hfv : FrV W W.heap.size (frv A5 c5 f) f := hfv
    replace hnew : ∀ b, A5 = some b → Wp.heap.size ≤ b.block := hnew
    obtain ⟨W1, hW1⟩ : ∃ W1, W1 = W.alloc (.cells (frv A5 c5 f).toArray 54) := ⟨_, rfl⟩
    have hb1 : Below W.heap.size W W1 := by rw [hW1]; exact (Below.refl _ W).alloc (Nat.le_refl _) _
    have hg1 : W1.heap[W.heap.size]? = some (.cells (frv A5 c5 f).toArray 54 (0, 0)) := by rw [hW1]; exact heap_alloc_new W _
    have hz1 : W1.heap.size = W.heap.size + 1 := by rw [hW1]; simp
    have HW1 := Lib.hid hW1
    have HB1 := Lib.hid hb1
    unfold frv at HW1
    unfold encX frv
    have HN := Lib.hid hN
    have HG := Lib.hid hG
    have HF := Lib.hid hf
    have HFv := Lib.hid hfv
    have HNum0 := Lib.hid (And.intro hltP hz1)
    clear hN hG hW1 hf hfv z3 z4 z5 hltP hz1
    gi_wp2_with (rw [← HW1.out])
    refine ⟨HB1.out, fun W2 hg2 => ?_⟩
    obtain ⟨z3, z4, z5⟩ := HZ.out
    obtain ⟨hltP, hz1⟩ := HNum0.out
    have hsz : Wp.heap.size ≤ W.heap.size := hb.size
    have hold : ∀ k, k < W1.heap.size → k ≠ w5.heap.size + 1 → W2.heap[k]? = W1.heap[k]? := fun k h1 h2 => hg2.block k h1 (fun e => h2 (Option.some.inj e))
    have hk2 : Dk.Kept (fun k => k = w5.heap.size + 1) Wp W2 := ((Dk.Kept.of_below hb (Nat.le_refl _)).trans (Dk.Kept.of_below HB1.out (Nat.le_refl _)) (fun _ _ e => e)).grown hg2 (fun k e _ => (Option.some.inj e).symm)
    have hN2 := HN.out.keep HL3.out (hk2.mono fun k _ e => by omega)
    have hx2 : W2.heap[W.heap.size]? = some (.cells (frv A5 c5 f).toArray 54 (0, 0)) := (hold _ (by omega) (by omega)).trans hg1
    have hy2 : ByP W2 (fun k => Wp.heap.size ≤ k ∧ k < W2.heap.size ∧ A5.map (·.block) = some k) A5 f.load := by
      obtain ⟨q1, q2⟩ := HFv.out.load_by
      refine ⟨q1, fun h0 => ?_⟩
      obtain ⟨b, off, rfl, h3, h4⟩ := q2 h0
      have h5 := hnew _ rfl
      have h6 := hg2.size
      refine ⟨b, off, rfl, ⟨h5, by omega, rfl⟩, fun i hi => ?_⟩
      rw [← h4 i hi]
      have h7 : Wp.heap.size ≤ b := h5
      exact World.cell?_of_block (w := W) ((hold b (by omega) (by omega)).trans (HB1.out.block b h3))
    obtain ⟨⟨d0, d1, d2⟩, d3, d4, d5⟩ := six_cells hx2
    have hpc : W2.cell? ⟨w4.heap.size, 0, none⟩ = some v := by rw [cell_of_row _ _ 0 _ _ _ hN2.pbox]; rfl
    obtain ⟨xs, ho, hx⟩ := hN2.puts
    have HN2 := Lib.hid hN2
    have HX2 := Lib.hid hx2
    have HY2 := Lib.hid hy2
    have HO := Lib.hid ho
    have HX := Lib.hid hx
    have HK2 := Lib.hid hk2
    have HNw := Lib.hid hnew
    have HNum := Lib.hid (And.intro hltP (And.intro hsz (And.intro hz1 hg2.size)))
    have HGd := Lib.hid hgd
    have HNum2 := Lib.hid (show w5.heap.size + 2 ≤ Wp.heap.size ∧ w5.heap.size + 2 ≤ W2.heap.size from by have := hg2.size; omega)
    clear hold hk2 hN2 hx2 hy2 ho hx hg1 hb1 hz1 hb hg2 hnew hsz hltP hgd z3 z4 z5
    gi_wp2_with (gi_at_builtin; refine wpListIn_append_lies _ rfl _ _ 47 rfl (w5.heap.size + 2) 54 i0 (.agg #[.int .i64 0, .int .i64 0, .int .i64 0, .int .i64 0, .int .u32 0, .slice none 0 0]) 6 64 Tryd.underlying47 hi0 hz0 hz1 hz2 rfl (by decide) _ s.begun.length xs rfl (HO.out.alloc _) ⟨W2.heap.size, 0, none⟩ 1 1 [.int .i64 f.seq, .int .i64 f.inc, .int .i64 f.part, .int .i64 f.of, .int .u32 (f.mark : Nat), .slice A5 f.load.length c5] rfl rfl (World.news_of_block (heap_alloc_new W2 _)) (frv_one A5 c5 f) (by omega) (by have := HG.out.few; unfold maxLen; omega) (by have := HG.out.few; omega) (by have := HNum.out; simp; omega) (W2.heap.size + 1) (by simp) ?_; intro g cap X hrow hgr hor; obtain ⟨hn3, hk3, hc3, hf3⟩ := Now.part HN2.out HL3.out (M := Wp.heap.size) (fun k e => by rcases e with e | e; exact HN.out.puts.ltj k e; exact HN.out.rows.ltj k e) HNum2.out.1 HNum2.out.2 HY2.out HFv.out.load_le.1 HFv.out.load_le.2.1 HFv.out.load_le.2.2 HFv.out.fine HO.out.1 HX.out hrow hgr hor; have HN3 := Lib.hid hn3; have HK3 := Lib.hid hk3; clear hn3 hk3 hrow hgr hor)
    obtain ⟨W3, hW3⟩ : ∃ W3, W3 = X.setCell ⟨w4.heap.size, 0, none⟩ (.slice (some ⟨g, 0, none⟩) (s.begun.length + 1) cap) := ⟨_, rfl⟩
    rw [← hW3] at HN3 HK3
    rw [← hW3]
    obtain ⟨A3, c3, e3, hfr3, _, _, _⟩ := HN3.out.puts.frs_
    have hl3 : (s.begun ++ [f]).length = s.begun.length + 1 := by simp
    rw [hl3] at e3
    obtain ⟨rfl, rfl⟩ : some ⟨g, 0, none⟩ = A3 ∧ cap = c3 := by simpa using e3
    have HJn := Lib.hid (join_new (s.begun ++ [f]) (some ⟨g, 0, none⟩) cap W3 hfr3 (by have := HG.out.few; simp; omega))
    rw [hl3] at HJn
    have hbx3 : W3.heap[W.heap.size]? = some (.cells (frv A5 c5 f).toArray 54 (0, 0)) := (HK3.out.block _ (Array.getElem?_eq_some_iff.1 HX2.out).1 (fun e => by have := HNum.out; omega)).trans HX2.out
    have HBx3 := Lib.hid hbx3
    have HW3 := Lib.hid hW3
    clear hW3 hfr3 hl3 e3 hbx3 hc3 hf3 hpc d0 d1 d2 d3 d4 d5
    refine ⟨trivial, ?_⟩
    gi_at_call 25
    refine CallsIn.mono (calls_round HJn.out) ?_
    rintro e W4 ⟨A6, c6, rfl, hby6, hlen6, hc6, hnil6, hb4, hnew6⟩
    have hN4 := HN3.out.below HL3.out hb4
    have HN4 := Lib.hid hN4
    have HB4 := Lib.hid hb4
    obtain ⟨⟨d0, d1, d2⟩, d3, d4, d5⟩ := six_cells ((hb4.block _ (Array.getElem?_eq_some_iff.1 HBx3.out).1).trans HBx3.out)
    obtain ⟨E, hE⟩ : ∃ E, E = joinE (s.begun ++ [f]) := ⟨_, rfl⟩
    rw [← hE]
    obtain ⟨jb, hjb⟩ : ∃ jb, jb = joinR (s.begun ++ [f]) := ⟨_, rfl⟩
    rw [← hjb] at hby6 hlen6 ⊢
    have HE := Lib.hid hE
    have HJb := Lib.hid hjb
    have HBy6 := Lib.hid hby6
    have HL6 := Lib.hid (And.intro hlen6 (And.intro hc6 (And.intro hnil6 hnew6)))
    have HM := Lib.hid (more_any f A5 c5 W4 (by have := read_last d (tail + (s.j : Int)); rw [← HF.out] at this; have := this.2; omega) (by have := read_last d (tail + (s.j : Int)); rw [← HF.out] at this; have := this.1; omega))
    unfold frv at HM
    clear hN4 hb4 hE hjb hby6 hlen6 hc6 hnil6 hnew6
    gi_wp2_with fail
    refine ⟨trivial, ?_⟩
    gi_at_call 26
    refine CallsIn.mono (calls_round HM.out) ?_
    rintro e W5 ⟨rfl, hb5⟩
    have HB5' := Lib.hid hb5
    have HN5 := Lib.hid (HN4.out.below HL3.out hb5)
    have HK5 := Lib.hid ((HK3.out.trans (Dk.Kept.of_below HB4.out (Nat.le_refl _)) (fun _ _ e => e)).trans (Dk.Kept.of_below hb5 (Nat.le_refl _)) (fun _ _ e => e))
    clear hb5 d0 d1 d2 d3 d4 d5
    cases hm : moreB f with
    | true =>
      have HGo := Lib.hid (HG.out.more hj HGd.out HF.out hm)
      have HNx := Lib.hid (show s.nx f = ⟨s.j + 1, f, s.begun ++ [f], s.out, s.next⟩ by unfold St.nx; rw [if_pos hm])
      clear hm
      gi_wp2
      exact ⟨HK5.out, ⟨_, _, _, by rw [HNx.out]; exact HN5.out⟩, HGo.out⟩
    | false =>
      cases hjn : joinB (s.begun ++ [f]) with
      | false =>
        obtain rfl : E = 40 := by rw [HE.out]; unfold joinE; rw [if_neg (by rw [hjn]; simp)]
        have HBr := Lib.hid (HG.out.broken hj HGd.out HF.out hm hjn)
        clear hm hjn
        gi_wp2
        exact ⟨HK5.out, .inr ⟨0, rfl, rfl, _, _, _, _, HN5.out, HBr.out⟩⟩
      | true =>
        obtain rfl : E = 0 := by rw [HE.out]; unfold joinE; rw [if_pos hjn]
        have HGo := Lib.hid (HG.out.record hj HGd.out HF.out hm hjn)
        have HNx := Lib.hid (show s.nx f = ⟨s.j + 1, f, [], s.out ++ [(((s.begun ++ [f]).headD zF).seq, joinR (s.begun ++ [f]))], f.seq + 1⟩ by unfold St.nx; rw [if_neg (by rw [hm]; simp)])
        have hsq := Going.seq HGd.out HF.out
        have hwr : IntKind.i64.wrap (f.seq + 1) = f.seq + 1 := by rw [hsq, IntKind.wrap_i64]; have := HTl.out; omega
        have hrc : W5.cell? ⟨w.heap.size, 0, none⟩ = some r := by rw [cell_of_row _ _ 0 _ _ _ HN5.out.rbox]; rfl
        obtain ⟨ol, hol⟩ : ∃ ol, ol = s.out.map (·.2) := ⟨_, rfl⟩
        have hll : ol.length ≤ 24 := by have := HG.out.few; have := HG.out.le; rw [hol]; simp; omega
        have HLl := Lib.hid hll
        have HOl := Lib.hid hol
        rw [← hol] at HN5
        obtain ⟨ys, hoV, hlV, hxV⟩ := HN5.out.rows
        have hne : (w.heap.size ≠ w4.heap.size ∧ w.heap.size ≠ w.heap.size + 1 ∧ w.heap.size + 1 ≠ w4.heap.size) ∧ w.heap.size ≠ W.heap.size ∧ w4.heap.size ≠ W.heap.size ∧ W.heap.size < W5.heap.size ∧ r.ownBlock ≠ some W.heap.size := by
          have h1 := HL3.out.b
          have h2 := HL3.out.n
          have h3 := HNum.out
          have h4 := HNum2.out
          have h5 := HK5.out.size
          have h6 := (Array.getElem?_eq_some_iff.1 HX2.out).1
          refine ⟨⟨by omega, by omega, by omega⟩, by omega, by omega, by omega, fun e => ?_⟩
          have h7 := HN.out.rows.ltj _ e
          omega
        have HNe := Lib.hid hne
        have HOv := Lib.hid hoV
        have HXv := Lib.hid hxV
        have HLv := Lib.hid hlV
        have hbyp : ByP W5 (fun k => Wp.heap.size ≤ k ∧ k < W5.heap.size ∧ A6.map (·.block) = some k) A6 jb := by
          obtain ⟨q1, q2⟩ := HBy6.out
          refine ⟨q1, fun h0 => ?_⟩
          obtain ⟨b, off, rfl, h3, h4⟩ := q2 h0
          have h5 : W3.heap.size ≤ b := HL6.out.2.2.2 _ rfl
          have h6 := HB5'.out.size
          have h7 := HK3.out.size
          have h8 := HNum.out
          exact ⟨b, off, rfl, ⟨by omega, by omega, rfl⟩, fun i hi => by rw [← h4 i hi]; exact World.cell?_of_block (w := W4) (HB5'.out.block b h3)⟩
        have HByp := Lib.hid hbyp
        have HSz5 := Lib.hid (show w5.heap.size + 2 ≤ W5.heap.size from Nat.le_trans HNum2.out.2 HK5.out.size)
        have hbx5 : W5.heap[W.heap.size]? = some (.cells (frv A5 c5 f).toArray 54 (0, 0)) := (HB5'.out.block _ (Nat.lt_of_lt_of_le (Array.getElem?_eq_some_iff.1 HBx3.out).1 HB4.out.size)).trans ((HB4.out.block _ (Array.getElem?_eq_some_iff.1 HBx3.out).1).trans HBx3.out)
        have HBx5 := Lib.hid hbx5
        clear hm hjn hoV hlV hxV hbyp hbx5 hsq hol hll hne
        gi_wp2_with (gi_at_builtin; refine wpListIn_append_lies _ rfl _ _ 29 rfl (w5.heap.size + 2) 24 j0 (.slice none 0 0) 1 24 Tryd.underlying29 hj0 hy0 hy1 hy2 rfl (by decide) _ ol.length ys rfl (HOv.out.alloc _) ⟨W5.heap.size, 0, none⟩ 1 1 [.slice A6 jb.length c6] rfl rfl (cell_one_new _ _ _) (by simp [Value.oneCell']) (by omega) (by have := HLl.out; unfold maxLen; omega) (by have := HLl.out; omega) (by have := HSz5.out; simp; omega) (W5.heap.size + 1) (by simp) ?_; intro g7 cap7 X7 hrow7 hgr7 hor7; obtain ⟨Pay7, hn7, hk7, r0, r1, r2, hold7⟩ := Now.found (next' := f.seq + 1) HN5.out HL3.out (M := Wp.heap.size) (fun k e => HN.out.rows.ltj k e) HNum2.out.1 HSz5.out HByp.out HL6.out.1 (by have := HL6.out.2.1; unfold maxLen; omega) HL6.out.2.2.1 HLv.out HXv.out hrow7 hgr7 hor7; have HN7 := Lib.hid hn7; have HK7 := Lib.hid hk7; have HR7 := Lib.hid (And.intro r0 (And.intro r1 r2)); have HO7 := Lib.hid hold7; have f0 : X7.cell? ⟨w.heap.size, 0, none⟩ = some r := (by rw [cell_of_row _ _ 0 _ _ _ r0]; rfl); have f0' : X7.frozen? ⟨w.heap.size, 0, none⟩ = false := frozen_of_row _ _ 0 _ _ r0; have f1 := fun u => (World.cell?_of_block (a := ⟨w4.heap.size, 0, none⟩) (Below.heap_setCell X7 ⟨w.heap.size, 0, none⟩ u w4.heap.size (fun e => HNe.out.1.1 e.symm))).trans (show X7.cell? ⟨w4.heap.size, 0, none⟩ = some (.slice (some ⟨g, 0, none⟩) (s.begun.length + 1) cap) from (by rw [cell_of_row _ _ 0 _ _ _ r2]; rfl)); have f1' := fun u => (World.frozen?_of_block (a := ⟨w4.heap.size, 0, none⟩) (Below.heap_setCell X7 ⟨w.heap.size, 0, none⟩ u w4.heap.size (fun e => HNe.out.1.1 e.symm))).trans (frozen_of_row _ _ 0 _ _ r2); have f2 := fun u u' => (World.cell?_of_block (a := ⟨W.heap.size, 0, none⟩) ((Below.heap_setCell (X7.setCell ⟨w.heap.size, 0, none⟩ u) ⟨w4.heap.size, 0, none⟩ u' W.heap.size (fun e => HNe.out.2.2.1 e.symm)).trans (Below.heap_setCell X7 ⟨w.heap.size, 0, none⟩ u W.heap.size (fun e => HNe.out.2.1 e.symm)))).trans (show X7.cell? ⟨W.heap.size, 0, none⟩ = some (.int .i64 f.seq) from (by rw [cell_of_row _ _ 0 _ _ _ ((hold7 _ HNe.out.2.2.2.1 HNe.out.2.2.2.2).trans HBx5.out)]; rfl)); have f3 := fun u u' => (World.cell?_of_block (a := ⟨w.heap.size + 1, 1, none⟩) ((Below.heap_setCell (X7.setCell ⟨w.heap.size, 0, none⟩ u) ⟨w4.heap.size, 0, none⟩ u' (w.heap.size + 1) HNe.out.1.2.2).trans (Below.heap_setCell X7 ⟨w.heap.size, 0, none⟩ u (w.heap.size + 1) (fun e => HNe.out.1.2.1 e.symm)))).trans (show X7.cell? ⟨w.heap.size + 1, 1, none⟩ = some (.int .i64 s.next) from (by rw [cell_of_row _ _ 1 _ _ _ r1]; rfl)); have f3' := fun u u' => (World.frozen?_of_block (a := ⟨w.heap.size + 1, 1, none⟩) ((Below.heap_setCell (X7.setCell ⟨w.heap.size, 0, none⟩ u) ⟨w4.heap.size, 0, none⟩ u' (w.heap.size + 1) HNe.out.1.2.2).trans (Below.heap_setCell X7 ⟨w.heap.size, 0, none⟩ u (w.heap.size + 1) (fun e => HNe.out.1.2.1 e.symm)))).trans (frozen_of_row _ _ 1 _ _ r1); clear hn7 hk7 r0 r1 r2 hold7 hrow7 hgr7 hor7)
        have e1 := HOl.out
        have e2 := HJb.out
        subst e1 e2
        refine ⟨HK5.out.trans HK7.out (fun _ _ e => e), ?_, HGo.out⟩
        rw [HNx.out]
        refine ⟨.slice none 0 0, .slice (some ⟨g7, 0, none⟩) ((List.map (fun x : Int × List Nat => x.2) s.out).length + 1) cap7, Pay7, ?_⟩
        show Now w tail _ _ [] ((s.out ++ [(((s.begun ++ [f]).headD zF).seq, joinR (s.begun ++ [f]))]).map (fun x : Int × List Nat => x.2)) (f.seq + 1) _ _ _ _
        rw [List.map_append]
        exact HN7.out
  case done =>
    rintro s W hE ⟨v, r, Pay, hN, hG⟩ ⟨A0, c0, f0, hrow⟩ hlt hdef
    have hsc := hG.ended hE
    obtain ⟨A9, c9, hr9, hrows, hle, hmx, hnil⟩ := hN.rows.rows_ge (M := w5.heap.size + 2) (Nat.le_refl _) (fun k hk => (hN.pay k hk).1)
    obtain ⟨n9, hn9⟩ : ∃ n9, n9 = (s.out.map (·.2)).length := ⟨_, rfl⟩
    rw [← hn9] at hr9 hle
    subst hr9
    have HRs := Lib.hid hrows
    have HN9 := Lib.hid hn9
    have HLe := Lib.hid (And.intro hle (And.intro hmx hnil))
    clear hrows hn9 hle hmx hnil
    have ec : W.cell? ⟨w3.heap.size, 8, none⟩ = some (.int .i64 0) := by rw [cell_of_row _ _ 8 _ _ _ hrow]; rfl
    have HN := Lib.hid hN
    have HDf := Lib.hid hdef
    have HSc := Lib.hid hsc
    have HLt := Lib.hid hlt
    have hS : ∀ X, X = W.drew → (X.cell? ⟨w.heap.size, 0, none⟩ = some (.slice A9 n9 c9) ∧ X.frozen? ⟨w.heap.size, 0, none⟩ = false) ∧ X.heap[w.heap.size + 1]? = some (.cells #[.int .i64 tail, .int .i64 s.next] 23 (0, 0)) := fun X e => by
      rw [e]
      exact ⟨⟨(cell_of_row W _ 0 _ _ _ hN.rbox).trans rfl, frozen_of_row W _ 0 _ _ hN.rbox⟩, hN.lbox⟩
    have HS := Lib.hid hS
    clear hN hrow hlt hdef hsc hS z3 z4 z5
    go_wp2_with fail
    refine wp_region_held_drew (S := fun X => (X.cell? ⟨w.heap.size, 0, none⟩ = some (.slice A9 n9 c9) ∧ X.frozen? ⟨w.heap.size, 0, none⟩ = false) ∧ X.heap[w.heap.size + 1]? = some (.cells #[.int .i64 tail, .int .i64 s.next] 23 (0, 0))) (by kernel_rfl) (HS.out _ rfl) (fun hHeld => ?_)
    refine wpAnyH_take (i := 0) (v := ?_) rfl (by kernel_rfl) (by kernel_rfl) (by kernel_rfl) (fun _ _ _ h => h) (Or.inl ⟨by rfl, ?_⟩) (by assumption) ?_
    rotate_left
    · simp only [List.getElem_toArray, List.getElem_cons_zero, List.getElem_cons_succ]; intro W hSw; (try dsimp only at hSw); go_simp; all_goals with_reducible rfl
    simp only [Act.put, List.getElem_toArray, List.getElem_cons_zero, List.getElem_cons_succ, List.setIfInBounds_toArray, List.set_cons_zero, List.set_cons_succ]
    refine wpAnyH_take (i := 1) (v := ?_) rfl (by kernel_rfl) (by kernel_rfl) (by kernel_rfl) (fun _ _ _ h => h) (Or.inl ⟨by rfl, ?_⟩) (by assumption) ?_
    rotate_left
    · simp only [List.getElem_toArray, List.getElem_cons_zero, List.getElem_cons_succ]; intro W hSw; (try dsimp only at hSw); refine exec_load_part 23 (.tmp 5) ?_ (w.heap.size + 1) 0 ?_ [.int .i64 tail, .int .i64 s.next] _ (Dk.row_cells (cs := [.int .i64 tail, .int .i64 s.next]) hSw.2 (fun j u hu => by rw [Nat.zero_add]; exact hu)) Tryd.underlying23 ?_ (Tryd.infoLsj _ _) <;> rfl
    simp only [Act.put, List.getElem_toArray, List.getElem_cons_zero, List.getElem_cons_succ, List.setIfInBounds_toArray, List.set_cons_zero, List.set_cons_succ]
    refine wpAnyH_ready (rs := [2]) (by kernel_rfl) (by simp) ?_
    refine AllReadyH.cons rfl (fun K hK => ?_) AllReadyH.nil
    simp only [List.getElem_toArray, List.getElem_cons_zero, List.getElem_cons_succ]
    obtain ⟨⟨p0, p1⟩, p2⟩ := HS.out _ rfl
    go_simp
    obtain ⟨W6, hW6⟩ : ∃ W6, W6 = (W.setCell ⟨w.heap.size, 0, none⟩ (.slice A9 n9 c9)).drew := ⟨_, rfl⟩
    have hr6 : W6.heap[w.heap.size]? = some (.cells #[.slice A9 n9 c9] 29 (0, 0)) := by
      rw [hW6]
      have h := heap_setCell_same W w.heap.size 0 _ _ (.slice A9 n9 c9) HN.out.rbox
      exact h
    have hl6 : W6.heap[w.heap.size + 1]? = some (.cells #[.int .i64 tail, .int .i64 s.next] 23 (0, 0)) := by rw [hW6]; exact (Below.heap_setCell W ⟨w.heap.size, 0, none⟩ _ (w.heap.size + 1) (by show w.heap.size + 1 ≠ w.heap.size; omega)).trans HN.out.lbox
    have hs6 : (W6.cell? ⟨w.heap.size, 0, none⟩ = some (.slice A9 n9 c9) ∧ W6.frozen? ⟨w.heap.size, 0, none⟩ = false) ∧ W6.heap[w.heap.size + 1]? = some (.cells #[.int .i64 tail, .int .i64 s.next] 23 (0, 0)) := ⟨⟨(cell_of_row W6 _ 0 _ _ _ hr6).trans rfl, frozen_of_row W6 _ 0 _ _ hr6⟩, hl6⟩
    have HW6 := Lib.hid hW6
    have HR6 := Lib.hid hr6
    rw [← hW6]
    clear hW6 hr6 p0 p1 p2
    refine hK.out _ _ (hs6) (fun hHeldN => ?_)
    clear hK K hHeld
    have hHeld := hHeldN
    clear hHeldN
    (try simp only [Act.put, List.getElem_toArray, List.getElem_cons_zero, List.getElem_cons_succ, List.setIfInBounds_toArray, List.set_cons_zero, List.set_cons_succ])
    refine wpAnyH_ready (rs := [3]) (by kernel_rfl) (by simp) ?_
    refine AllReadyH.cons rfl (fun K hK => ?_) AllReadyH.nil
    simp only [List.getElem_toArray, List.getElem_cons_zero, List.getElem_cons_succ]
    rw [if_pos]
    rotate_left
    · simp [Region.wanted]
    refine wp_store_row 23 (.tmp 5) (.tmp 64) rfl (w.heap.size + 1) #[.int .i64 tail, .int .i64 s.next] (by simp [Act.eval, Act.put]) (by simp [Act.eval, Act.put]) 23 #[.int .i64 tail, .int .i64 s.next] hl6 (Tryd.infoLsj _ _) (size2j _ _ _ _) (one2j _ _) ?_
    obtain ⟨W7, hW7⟩ : ∃ W7, W7 = W6.setRow (w.heap.size + 1) #[.int .i64 tail, .int .i64 s.next] := ⟨_, rfl⟩
    have hr7 : W7.heap[w.heap.size]? = some (.cells #[.slice A9 n9 c9] 29 (0, 0)) := by rw [hW7, setRow_other _ _ _ _ (by omega)]; exact HR6.out
    have hl7 : W7.heap[w.heap.size + 1]? = some (.cells #[.int .i64 tail, .int .i64 s.next] 23 (0, 0)) := by rw [hW7]; exact setRow_heap _ _ _ _ _ _ hl6
    have hs7 : (W7.cell? ⟨w.heap.size, 0, none⟩ = some (.slice A9 n9 c9) ∧ W7.frozen? ⟨w.heap.size, 0, none⟩ = false) ∧ W7.heap[w.heap.size + 1]? = some (.cells #[.int .i64 tail, .int .i64 s.next] 23 (0, 0)) := ⟨⟨(cell_of_row W7 _ 0 _ _ _ hr7).trans rfl, frozen_of_row W7 _ 0 _ _ hr7⟩, hl7⟩
    have hlo : ∀ k, k ≠ w.heap.size → k ≠ w.heap.size + 1 → W7.heap[k]? = W.heap[k]? := fun k h1 h2 => by
      rw [hW7, setRow_other _ _ _ _ h2, HW6.out]; exact Below.heap_setCell W ⟨w.heap.size, 0, none⟩ _ k h1
    have hb7 : Below w.heap.size w W7 := by
      rw [hW7, HW6.out]; exact below_setRow ((HN.out.low.setCell (by show w.heap.size ≤ w.heap.size; omega) _).drew) (by omega) _
    obtain ⟨z3, z4, z5⟩ := HZ.out
    have hd7 : W7.heap[w5.heap.size]? = some (.deferred (some [])) := (hlo _ (by omega) (by omega)).trans HDf.out
    have hb8 : Below w.heap.size w (W7.putObj w5.heap.size (.deferred none)) := hb7.grown (grownBy_putObj' W7 w5.heap.size (.deferred none)) hb7.size (fun k e => by have := Option.some.inj e; omega)
    have h8 : ∀ k, k ≠ w.heap.size → k ≠ w.heap.size + 1 → k ≠ w5.heap.size → (W7.putObj w5.heap.size (.deferred none)).heap[k]? = W.heap[k]? := fun k h1 h2 h3 => (World.putObj_heap_other h3).trans (hlo k h1 h2)
    have hr8 : (W7.putObj w5.heap.size (.deferred none)).cell? ⟨w.heap.size, 0, none⟩ = some (.slice A9 n9 c9) := (World.cell?_of_block (w := W7) (World.putObj_heap_other (show w.heap.size ≠ w5.heap.size by omega))).trans hs7.1.1
    have hl8 : (W7.putObj w5.heap.size (.deferred none)).heap[w.heap.size + 1]? = some (.cells #[.int .i64 tail, .int .i64 s.next] 23 (0, 0)) := (World.putObj_heap_other (by omega)).trans hl7
    have hw8 : RowsP (W7.putObj w5.heap.size (.deferred none)) (fun k => w.heap.size ≤ k) A9 (s.out.map (·.2)) := (HRs.out.keep fun k hk _ => by have hk' : w5.heap.size + 2 ≤ k := hk; exact h8 k (by omega) (by omega) (by omega)).mono fun k hk _ => by have hk' : w5.heap.size + 2 ≤ k := hk; show w.heap.size ≤ k; omega
    have HD7 := Lib.hid hd7
    have HB8 := Lib.hid hb8
    have HR8 := Lib.hid hr8
    have HL8 := Lib.hid hl8
    have HW8 := Lib.hid hw8
    rw [← hW7]
    clear hW7 hr7 hl7 hl6 hs6 hlo hb7 hd7 hb8 h8 hr8 hl8 hw8 z3 z4 z5
    refine hK.out _ _ (hs7) (fun hHeldN => ?_)
    clear hK K hHeld
    have hHeld := hHeldN
    clear hHeldN
    (try simp only [Act.put, List.getElem_toArray, List.getElem_cons_zero, List.getElem_cons_succ, List.setIfInBounds_toArray, List.set_cons_zero, List.set_cons_succ])
    refine wpAnyH_take (i := 4) (v := ?_) rfl (by kernel_rfl) (by kernel_rfl) (by kernel_rfl) (fun _ _ _ h => h) (Or.inl ⟨by rfl, ?_⟩) (by assumption) ?_
    rotate_left
    · simp only [List.getElem_toArray, List.getElem_cons_zero, List.getElem_cons_succ]; intro W hSw; (try dsimp only at hSw); go_simp; all_goals with_reducible rfl
    simp only [Act.put, List.getElem_toArray, List.getElem_cons_zero, List.getElem_cons_succ, List.setIfInBounds_toArray, List.set_cons_zero, List.set_cons_succ]
    refine wpAnyH_done (by kernel_rfl) ?_ _
    go_wp2_with fail
    rw [Exit.noGoto_ret]
    refine ⟨by simp, .inl ⟨_, _, rfl, run_takeDeferred HD7.out, ?_⟩⟩
    refine ⟨_, results_two_cells (p := 4) (q := 5) (u := 6) rfl _ _ w.heap.size (w.heap.size + 1) (.slice A9 n9 c9) #[.int .i64 tail, .int .i64 s.next] (0, 0) _ rfl rfl (load_rows_cell HR8.out) HL8.out Tryd.underlying23 rfl Tryd.infoLj, A9, c9, ?_⟩
    have e9 := HN9.out
    rw [List.length_map] at e9
    rw [HSc.out]
    exact ⟨by rw [← e9]; rfl, HW8.out, by rw [← e9]; exact HLe.out.1, HLe.out.2.1, HLe.out.2.2, HB8.out⟩
  case stop =>
    rintro id s W ⟨rfl, v, r, Pay, bg, hN, hsc⟩ ⟨A0, c0, f0, hrow⟩ hlt hdef
    obtain ⟨A9, c9, hr9, hrows, hle, hmx, hnil⟩ := hN.rows.rows_ge (M := w5.heap.size + 2) (Nat.le_refl _) (fun k hk => (hN.pay k hk).1)
    obtain ⟨n9, hn9⟩ : ∃ n9, n9 = (s.out.map (·.2)).length := ⟨_, rfl⟩
    rw [← hn9] at hr9 hle
    subst hr9
    have HRs := Lib.hid hrows
    have HN9 := Lib.hid hn9
    have HLe := Lib.hid (And.intro hle (And.intro hmx hnil))
    clear hrows hn9 hle hmx hnil
    have ec : W.cell? ⟨w3.heap.size, 8, none⟩ = some (.int .i64 0) := by rw [cell_of_row _ _ 8 _ _ _ hrow]; rfl
    have HN := Lib.hid hN
    have HDf := Lib.hid hdef
    have HSc := Lib.hid hsc
    have HLt := Lib.hid hlt
    have hS : ∀ X, X = W.drew → (X.cell? ⟨w.heap.size, 0, none⟩ = some (.slice A9 n9 c9) ∧ X.frozen? ⟨w.heap.size, 0, none⟩ = false) ∧ X.heap[w.heap.size + 1]? = some (.cells #[.int .i64 tail, .int .i64 s.next] 23 (0, 0)) := fun X e => by
      rw [e]
      exact ⟨⟨(cell_of_row W _ 0 _ _ _ hN.rbox).trans rfl, frozen_of_row W _ 0 _ _ hN.rbox⟩, hN.lbox⟩
    have HS := Lib.hid hS
    clear hN hrow hlt hdef hsc hS z3 z4 z5
    go_wp2_with fail
    refine wp_region_held_drew (S := fun X => (X.cell? ⟨w.heap.size, 0, none⟩ = some (.slice A9 n9 c9) ∧ X.frozen? ⟨w.heap.size, 0, none⟩ = false) ∧ X.heap[w.heap.size + 1]? = some (.cells #[.int .i64 tail, .int .i64 s.next] 23 (0, 0))) (by kernel_rfl) (HS.out _ rfl) (fun hHeld => ?_)
    refine wpAnyH_take (i := 0) (v := ?_) rfl (by kernel_rfl) (by kernel_rfl) (by kernel_rfl) (fun _ _ _ h => h) (Or.inl ⟨by rfl, ?_⟩) (by assumption) ?_
    rotate_left
    · simp only [List.getElem_toArray, List.getElem_cons_zero, List.getElem_cons_succ]; intro W hSw; (try dsimp only at hSw); go_simp; all_goals with_reducible rfl
    simp only [Act.put, List.getElem_toArray, List.getElem_cons_zero, List.getElem_cons_succ, List.setIfInBounds_toArray, List.set_cons_zero, List.set_cons_succ]
    refine wpAnyH_take (i := 1) (v := ?_) rfl (by kernel_rfl) (by kernel_rfl) (by kernel_rfl) (fun _ _ _ h => h) (Or.inl ⟨by rfl, ?_⟩) (by assumption) ?_
    rotate_left
    · simp only [List.getElem_toArray, List.getElem_cons_zero, List.getElem_cons_succ]; intro W hSw; (try dsimp only at hSw); refine exec_load_part 23 (.tmp 5) ?_ (w.heap.size + 1) 0 ?_ [.int .i64 tail, .int .i64 s.next] _ (Dk.row_cells (cs := [.int .i64 tail, .int .i64 s.next]) hSw.2 (fun j u hu => by rw [Nat.zero_add]; exact hu)) Tryd.underlying23 ?_ (Tryd.infoLsj _ _) <;> rfl
    simp only [Act.put, List.getElem_toArray, List.getElem_cons_zero, List.getElem_cons_succ, List.setIfInBounds_toArray, List.set_cons_zero, List.set_cons_succ]
    refine wpAnyH_ready (rs := [2]) (by kernel_rfl) (by simp) ?_
    refine AllReadyH.cons rfl (fun K hK => ?_) AllReadyH.nil
    simp only [List.getElem_toArray, List.getElem_cons_zero, List.getElem_cons_succ]
    obtain ⟨⟨p0, p1⟩, p2⟩ := HS.out _ rfl
    go_simp
    obtain ⟨W6, hW6⟩ : ∃ W6, W6 = (W.setCell ⟨w.heap.size, 0, none⟩ (.slice A9 n9 c9)).drew := ⟨_, rfl⟩
    have hr6 : W6.heap[w.heap.size]? = some (.cells #[.slice A9 n9 c9] 29 (0, 0)) := by
      rw [hW6]
      have h := heap_setCell_same W w.heap.size 0 _ _ (.slice A9 n9 c9) HN.out.rbox
      exact h
    have hl6 : W6.heap[w.heap.size + 1]? = some (.cells #[.int .i64 tail, .int .i64 s.next] 23 (0, 0)) := by rw [hW6]; exact (Below.heap_setCell W ⟨w.heap.size, 0, none⟩ _ (w.heap.size + 1) (by show w.heap.size + 1 ≠ w.heap.size; omega)).trans HN.out.lbox
    have hs6 : (W6.cell? ⟨w.heap.size, 0, none⟩ = some (.slice A9 n9 c9) ∧ W6.frozen? ⟨w.heap.size, 0, none⟩ = false) ∧ W6.heap[w.heap.size + 1]? = some (.cells #[.int .i64 tail, .int .i64 s.next] 23 (0, 0)) := ⟨⟨(cell_of_row W6 _ 0 _ _ _ hr6).trans rfl, frozen_of_row W6 _ 0 _ _ hr6⟩, hl6⟩
    have HW6 := Lib.hid hW6
    have HR6 := Lib.hid hr6
    rw [← hW6]
    clear hW6 hr6 p0 p1 p2
    refine hK.out _ _ (hs6) (fun hHeldN => ?_)
    clear hK K hHeld
    have hHeld := hHeldN
    clear hHeldN
    (try simp only [Act.put, List.getElem_toArray, List.getElem_cons_zero, List.getElem_cons_succ, List.setIfInBounds_toArray, List.set_cons_zero, List.set_cons_succ])
    refine wpAnyH_ready (rs := [3]) (by kernel_rfl) (by simp) ?_
    refine AllReadyH.cons rfl (fun K hK => ?_) AllReadyH.nil
    simp only [List.getElem_toArray, List.getElem_cons_zero, List.getElem_cons_succ]
    rw [if_pos]
    rotate_left
    · simp [Region.wanted]
    refine wp_store_row 23 (.tmp 5) (.tmp 64) rfl (w.heap.size + 1) #[.int .i64 tail, .int .i64 s.next] (by simp [Act.eval, Act.put]) (by simp [Act.eval, Act.put]) 23 #[.int .i64 tail, .int .i64 s.next] hl6 (Tryd.infoLsj _ _) (size2j _ _ _ _) (one2j _ _) ?_
    obtain ⟨W7, hW7⟩ : ∃ W7, W7 = W6.setRow (w.heap.size + 1) #[.int .i64 tail, .int .i64 s.next] := ⟨_, rfl⟩
    have hr7 : W7.heap[w.heap.size]? = some (.cells #[.slice A9 n9 c9] 29 (0, 0)) := by rw [hW7, setRow_other _ _ _ _ (by omega)]; exact HR6.out
    have hl7 : W7.heap[w.heap.size + 1]? = some (.cells #[.int .i64 tail, .int .i64 s.next] 23 (0, 0)) := by rw [hW7]; exact setRow_heap _ _ _ _ _ _ hl6
    have hs7 : (W7.cell? ⟨w.heap.size, 0, none⟩ = some (.slice A9 n9 c9) ∧ W7.frozen? ⟨w.heap.size, 0, none⟩ = false) ∧ W7.heap[w.heap.size + 1]? = some (.cells #[.int .i64 tail, .int .i64 s.next] 23 (0, 0)) := ⟨⟨(cell_of_row W7 _ 0 _ _ _ hr7).trans rfl, frozen_of_row W7 _ 0 _ _ hr7⟩, hl7⟩
    have hlo : ∀ k, k ≠ w.heap.size → k ≠ w.heap.size + 1 → W7.heap[k]? = W.heap[k]? := fun k h1 h2 => by
      rw [hW7, setRow_other _ _ _ _ h2, HW6.out]; exact Below.heap_setCell W ⟨w.heap.size, 0, none⟩ _ k h1
    have hb7 : Below w.heap.size w W7 := by
      rw [hW7, HW6.out]; exact below_setRow ((HN.out.low.setCell (by show w.heap.size ≤ w.heap.size; omega) _).drew) (by omega) _
    obtain ⟨z3, z4, z5⟩ := HZ.out
    have hd7 : W7.heap[w5.heap.size]? = some (.deferred (some [])) := (hlo _ (by omega) (by omega)).trans HDf.out
    have hb8 : Below w.heap.size w (W7.putObj w5.heap.size (.deferred none)) := hb7.grown (grownBy_putObj' W7 w5.heap.size (.deferred none)) hb7.size (fun k e => by have := Option.some.inj e; omega)
    have h8 : ∀ k, k ≠ w.heap.size → k ≠ w.heap.size + 1 → k ≠ w5.heap.size → (W7.putObj w5.heap.size (.deferred none)).heap[k]? = W.heap[k]? := fun k h1 h2 h3 => (World.putObj_heap_other h3).trans (hlo k h1 h2)
    have hr8 : (W7.putObj w5.heap.size (.deferred none)).cell? ⟨w.heap.size, 0, none⟩ = some (.slice A9 n9 c9) := (World.cell?_of_block (w := W7) (World.putObj_heap_other (show w.heap.size ≠ w5.heap.size by omega))).trans hs7.1.1
    have hl8 : (W7.putObj w5.heap.size (.deferred none)).heap[w.heap.size + 1]? = some (.cells #[.int .i64 tail, .int .i64 s.next] 23 (0, 0)) := (World.putObj_heap_other (by omega)).trans hl7
    have hw8 : RowsP (W7.putObj w5.heap.size (.deferred none)) (fun k => w.heap.size ≤ k) A9 (s.out.map (·.2)) := (HRs.out.keep fun k hk _ => by have hk' : w5.heap.size + 2 ≤ k := hk; exact h8 k (by omega) (by omega) (by omega)).mono fun k hk _ => by have hk' : w5.heap.size + 2 ≤ k := hk; show w.heap.size ≤ k; omega
    have HD7 := Lib.hid hd7
    have HB8 := Lib.hid hb8
    have HR8 := Lib.hid hr8
    have HL8 := Lib.hid hl8
    have HW8 := Lib.hid hw8
    rw [← hW7]
    clear hW7 hr7 hl7 hl6 hs6 hlo hb7 hd7 hb8 h8 hr8 hl8 hw8 z3 z4 z5
    refine hK.out _ _ (hs7) (fun hHeldN => ?_)
    clear hK K hHeld
    have hHeld := hHeldN
    clear hHeldN
    (try simp only [Act.put, List.getElem_toArray, List.getElem_cons_zero, List.getElem_cons_succ, List.setIfInBounds_toArray, List.set_cons_zero, List.set_cons_succ])
    refine wpAnyH_take (i := 4) (v := ?_) rfl (by kernel_rfl) (by kernel_rfl) (by kernel_rfl) (fun _ _ _ h => h) (Or.inl ⟨by rfl, ?_⟩) (by assumption) ?_
    rotate_left
    · simp only [List.getElem_toArray, List.getElem_cons_zero, List.getElem_cons_succ]; intro W hSw; (try dsimp only at hSw); go_simp; all_goals with_reducible rfl
    simp only [Act.put, List.getElem_toArray, List.getElem_cons_zero, List.getElem_cons_succ, List.setIfInBounds_toArray, List.set_cons_zero, List.set_cons_succ]
    refine wpAnyH_done (by kernel_rfl) ?_ _
    go_wp2_with fail
    rw [Exit.noGoto_ret]
    refine ⟨by simp, .inl ⟨_, _, rfl, run_takeDeferred HD7.out, ?_⟩⟩
    refine ⟨_, results_two_cells (p := 4) (q := 5) (u := 6) rfl _ _ w.heap.size (w.heap.size + 1) (.slice A9 n9 c9) #[.int .i64 tail, .int .i64 s.next] (0, 0) _ rfl rfl (load_rows_cell HR8.out) HL8.out Tryd.underlying23 rfl Tryd.infoLj, A9, c9, ?_⟩
    have e9 := HN9.out
    rw [List.length_map] at e9
    rw [HSc.out]
    exact ⟨by rw [← e9]; rfl, HW8.out, by rw [← e9]; exact HLe.out.1, HLe.out.2.1, HLe.out.2.2, HB8.out⟩
end Go.Proofs.YtkajcgpkldofjaaDoor
end

section
/-
  wakes, by contract, over what journal's calls are to answer: the document's own example.
-/
namespace Go.Proofs.YtkajcgpkldofjaaDoor
open Go.RowKit Fm
set_option maxRecDepth 100000

theorem wk_recs : Recs 1 1 [[97]] := ⟨⟨(cutE_fits (by omega) (by omega)).2 (by decide), by decide⟩, trivial⟩
def K97 : Nat → Option Fr := KF (framesOf 1 1 [[97]])
theorem wk_cut (x : Nat) (n : Int) (hn : n = 1 ∨ n = 2) : cutE [x].length n 1 = 0 := (cutE_fits (by omega) (by omega)).2 ⟨by simp, by simp⟩
theorem wk_first : Lies (putsD Dk.Dk.fresh (cutAll [97] 1 1)).flush 1 K97 K97 1 := by
  have h0 : Lies Dk.Dk.fresh 1 (fun _ => none) (KF (framesOf 1 1 [])) (total []) := (fresh_lies 1).congr (fun _ _ => rfl) (fun i _ => by simp [KF, framesOf])
  have h1 := h0.record (b := [97]) (wk_cut 97 _ (Or.inl (by simp [total]))) (by simp [total, cutN])
  exact h1.flush _
theorem wk_lies : Lies { ((putsD (putsD Dk.Dk.fresh (cutAll [97] 1 1)).flush (cutAll [98] 2 1)).crash []) with down := false } 1 K97 K97 0 := by
  have h1 : Lies (putsD Dk.Dk.fresh (cutAll [97] 1 1)).flush 1 K97 (KF (framesOf 1 1 [[97]])) (total [[97]]) := wk_first.congr (fun _ _ => rfl) (fun _ _ => rfl)
  have h2 := h1.record (b := [98]) (wk_cut 98 _ (Or.inr (by simp [total, cutN]))) (by simp [total, cutN])
  rw [show (1 : Int) + ((total [[97]] : Nat) : Int) = 2 by simp [total, cutN]] at h2
  exact ⟨fun i hi => h2.dur i hi, fun _ _ => Or.inl ⟨rfl, rfl⟩, fun _ _ _ => rfl⟩
theorem wk_scan : scanD { ((putsD (putsD Dk.Dk.fresh (cutAll [97] 1 1)).flush (cutAll [98] 2 1)).crash []) with down := false } 1 = ([(1, [97])], 2) := by
  have hL := wk_lies
  generalize ({ ((putsD (putsD Dk.Dk.fresh (cutAll [97] 1 1)).flush (cutAll [98] 2 1)).crash []) with down := false } : Dk.Dk) = D at hL ⊢
  have hrd : ∀ j : Nat, j < 24 → rdD D (1 + (j : Int)) = encF (K97 j) := fun j hj => by rw [hL.rd j, Nat.mod_eq_of_lt hj]
  have ht : total [[97]] = 1 := by simp [total, cutN]
  have hl : (framesOf 1 1 [[97]]).length = 1 := by rw [framesOf_length, ht]
  have s1 := scan_recs (rd := rdD D) (i := 1) [[97]] 1 0 [] 23 wk_recs (by omega) (fun j f hf => by
    have h2 := (List.getElem?_eq_some_iff.1 hf).1
    rw [hrd j (by omega)]
    unfold K97 KF
    rw [hf]; rfl)
  unfold scanD
  rw [ht] at s1
  rw [show 23 + 1 = 24 from rfl] at s1
  rw [s1]
  have h3 : encF (K97 1) = encF none := by
    unfold K97 KF
    rw [List.getElem?_eq_none (by omega)]
  rw [show (1 : Int) + ((1 : Nat) : Int) = 2 from rfl]
  rw [scan_bad (Or.inr (by
    have h4 := hrd 1 (by omega)
    rw [show (1 : Int) + ((1 : Nat) : Int) = 2 from rfl, h3] at h4
    rw [h4]
    unfold goodB
    rw [enc_none]; rfl))]
  rfl
theorem str97 : str [97] = ⟨#[97]⟩ := rfl
theorem bare_set {w0 w : World} {S : Nat → Prop} {d : Dk.Dk} {a blog : Nat} {t n1 t' n' : Int} (h : Bare w0 w S d a blog t n1) (hb : w0.heap.size ≤ blog) : Bare w0 (w.setRow blog #[.int .i64 t', .int .i64 n']) S d a blog t' n' :=
  ⟨h.disk.keep (fun k hk => setRow_other _ _ _ _ (fun e => h.nlog (by rw [← e]; exact hk))) (by simp [World.setRow]), h.own, h.nlog, setRow_heap _ _ _ _ _ _ h.log, below_setRow h.low hb _⟩
theorem wk_app (hA : AppendSays) {w : World} {S : Nat → Prop} {a b : Nat} {d : Dk.Dk} (x : Nat) (n n1 : Int) (hx : x < 256) (hn : n = 1 ∨ n = 2) (hn1 : n1 = n + 1) (h : Dk.Disk w S a d) (hup : d.down = false) (hc : ∀ k, k < 34 → (d.cache k).length ≤ 1000000) (hW : Widths w) (hnw : ¬ S 0)
    (hb : w.heap[b]? = some (.cells #[.int .u8 (x : Int)] 5 (1, 2))) (hnb : ¬ S b) :
    Calls Tryd.prog 8 #[.pointer (some ⟨a, 0, none⟩), .agg #[.int .i64 1, .int .i64 n], .int .i64 1, .slice (some ⟨b, 0, none⟩) 1 1] w fun e w' =>
      e = .returned (.tuple #[.agg #[.int .i64 1, .int .i64 n1], .int .i64 0]) ∧ Dk.Goes w w' S a (putsD d (cutAll [x] n 1)) := by
  have hby : ByP w (fun k => ¬ S k) (some ⟨b, 0, none⟩) [x] := ⟨by simpa using hx, fun _ => ⟨b, 0, rfl, hnb, fun j hj => by
    have hj0 : j = 0 := by simpa using hj
    subst hj0
    have := cell_of_row w b 0 _ _ _ hb
    simpa using this⟩⟩
  have hE : appE 1 n 1 [x].length = 0 := by
    obtain ⟨p, hp, hp2⟩ : ∃ p : Nat, n = 1 + (p : Int) ∧ p ≤ 1 := by
      rcases hn with rfl | rfl
      · exact ⟨0, rfl, by omega⟩
      · exact ⟨1, rfl, by omega⟩
    rw [hp]
    exact (appE_fits (t := 1) (inc := 1) (p := p) (l := [x].length) (by omega) (by omega) (by omega)).2 ⟨by simp, by simp, by simp [cutN]; omega⟩
  have hcl := hA w S a d 1 n 1 [x] (some ⟨b, 0, none⟩) 1 h hup hc hW hnw hby (by simp) (by unfold maxLen; omega) (by unfold I64; omega) (by unfold I64; omega) (by unfold I64; omega)
  rw [hE] at hcl
  rw [if_pos rfl, if_pos rfl, show ((cutN [x].length : Nat) : Int) = 1 by simp [cutN], ← hn1] at hcl
  exact hcl
theorem wk_infoLs (a b : Int) : (Tryd.prog.info? 23).map (·.size) = some (#[.int .i64 a, .int .i64 b] : Array Value).size :=
  show (Tryd.prog.info? 23).map (·.size) = some 2 by kernel_rfl

set_option maxHeartbeats 4000000 in
theorem wakes_of (hA : AppendSays) (hS : ScanSays) : WakesSays := by
  intro w hWd
  have HWd := Lib.hid hWd
  clear hWd
  have kc := fun (w : World) (C : Array Value) (n c : Nat) => Lib.run_convert_bytes_const (P := Tryd.prog) w 24 5 C n c Tryd.underlying24 Tryd.underlying5
  go_enter Tryd.func7, Tryd.ntmps7
  go_wp2_with fail
  refine (Dk.new_disk _).mono ?_
  rintro e w1 ⟨rfl, hd1, hb1, hz1⟩
  obtain ⟨w2, hw2⟩ : ∃ w2, w2 = w1.alloc (.cells #[.int .u8 97] 5 (1, 2)) := ⟨_, rfl⟩
  have hb2 : Below w1.heap.size w1 w2 := by rw [hw2]; exact (Below.refl _ w1).alloc (Nat.le_refl _) _
  have hd2 := hd1.below hb2 (Nat.le_refl _)
  have hl2 : Below w.heap.size w w2 := hb1.trans (hb2.mono hb1.size)
  have hr2 : w2.heap[w1.heap.size]? = some (.cells #[.int .u8 97] 5 (1, 2)) := by rw [hw2]; exact heap_alloc_new w1 _
  have hc1 := wk_app hA (a := w.heap.size) 97 1 2 (by omega) (Or.inl rfl) rfl hd2 rfl (fun k _ => by simp [Dk.Dk.fresh]) (widths_low HWd.out hl2 HWd.out.1) (fun e => (by have := HWd.out.1; omega)) hr2 (by omega)
  have HC1 := Lib.hid hc1
  have HL2 := Lib.hid hl2
  have HW2 := Lib.hid hw2
  clear hb1 hb2 hd1 hd2 hl2 hr2 hc1 hw2 hz1
  go_wp2_with fail
  rw [← HW2.out]
  refine HC1.out.mono ?_
  rintro e w3 ⟨rfl, hg3⟩
  have hk3 := goes_below hg3 HL2.out.size (fun k e => by omega)
  obtain ⟨S3, hd3, _, hs3⟩ := hg3
  obtain ⟨w4, hw4⟩ : ∃ w4, w4 = w3.alloc (.cells #[.int .i64 1, .int .i64 2] 23) := ⟨_, rfl⟩
  have hb4 : Below w3.heap.size w3 w4 := by rw [hw4]; exact (Below.refl _ w3).alloc (Nat.le_refl _) _
  have hl3 := HL2.out.trans hk3
  have HB4 := Lib.hid (show Bare w w4 S3 (putsD Dk.Dk.fresh (cutAll [97] 1 1)) w.heap.size w3.heap.size 1 2 from
    ⟨hd3.below hb4 (Nat.le_refl _), fun k hk => (by
      have h1 := HL2.out.size
      rcases hs3 k hk with h | h <;> omega), fun e => Nat.lt_irrefl _ (hd3.old _ e), by rw [hw4]; exact heap_alloc_new w3 _, hl3.trans (hb4.mono hl3.size)⟩)
  have HF := Lib.hid (Dk.flush_ok HB4.out.disk rfl)
  have HL3 := Lib.hid hl3.size
  have HW4 := Lib.hid hw4
  clear hk3 hd3 hs3 hw4 hb4 hl3
  go_wp2_with fail
  rw [← HW4.out]
  refine HF.out.mono ?_
  rintro e w5 ⟨rfl, hg5⟩
  obtain ⟨S5, hb5, _, _⟩ := HB4.out.goes hg5
  obtain ⟨w6, hw6⟩ : ∃ w6, w6 = w5.alloc (.cells #[.int .u8 98] 5 (1, 2)) := ⟨_, rfl⟩
  have hb6 : Below w5.heap.size w5 w6 := by rw [hw6]; exact (Below.refl _ w5).alloc (Nat.le_refl _) _
  have hB6 := hb5.below hb6
  have hr6 : w6.heap[w5.heap.size]? = some (.cells #[.int .u8 98] 5 (1, 2)) := by rw [hw6]; exact heap_alloc_new w5 _
  have hc2 := wk_app hA 98 2 3 (by omega) (Or.inr rfl) rfl hB6.disk rfl (fun k _ => by simp [Dk.Dk.flush]) (widths_low HWd.out hB6.low HWd.out.1) (fun e => by have := hB6.own _ e; have := HWd.out.1; omega) hr6 (fun e => Nat.lt_irrefl _ (hb5.disk.old _ e))
  have z5 := cell_of_row w5 w3.heap.size 0 _ _ _ hb5.log
  have z6 := cell_of_row w5 w3.heap.size 1 _ _ _ hb5.log
  simp only [List.getElem?_toArray, List.getElem?_cons_zero, List.getElem?_cons_succ] at z5 z6
  have HC2 := Lib.hid hc2
  have HB6 := Lib.hid hB6
  have HW6 := Lib.hid hw6
  clear hg5 hb5 hb6 hB6 hr6 hc2 hw6
  go_wp2_with fail
  rw [← HW6.out]
  refine HC2.out.mono ?_
  rintro e w7 ⟨rfl, hg7⟩
  obtain ⟨S7, hb7, _, _⟩ := HB6.out.goes hg7
  have hlog7 := hb7.log
  have hB8 := bare_set (t' := 1) (n' := 3) hb7 HL3.out
  obtain ⟨D8, hD8⟩ : ∃ D8, D8 = putsD (putsD Dk.Dk.fresh (cutAll [97] 1 1)).flush (cutAll [98] 2 1) := ⟨_, rfl⟩
  rw [← hD8] at hB8
  have hca := fun k => puts_cache (cutAll [98] 2 1) (putsD Dk.Dk.fresh (cutAll [97] 1 1)).flush k
  rw [← hD8] at hca
  have hcr := Dk.crash_ok (A := none) (cap := 0) (plan := []) hB8.disk (by rw [hD8]; rfl) (fun k _ => by have h1 := hca k; have h2 : (cutAll [98] 2 1).length = 1 := rfl; have h3 : ((putsD Dk.Dk.fresh (cutAll [97] 1 1)).flush.cache k).length = 0 := rfl; omega) (fun h => absurd h (by simp)) (by simp) (fun x hx => (List.not_mem_nil hx).elim)
  have HB8 := Lib.hid hB8
  have HCr := Lib.hid hcr
  have HD8 := Lib.hid hD8
  clear hg7 hb7 hB8 hD8 hca hcr z5 z6
  go_wp2_with (refine wpList_store_row rfl 23 (.tmp 2) (.tmp 28) rfl w3.heap.size #[.int .i64 1, .int .i64 3] (by simp [Act.eval, Act.put]) (by simp [Act.eval, Act.put]) 23 #[.int .i64 1, .int .i64 2] hlog7 (wk_infoLs _ _) rfl (by simp [Value.oneCell']) ?_)
  refine HCr.out.mono ?_
  rintro e w9 ⟨rfl, hg9⟩
  obtain ⟨S9, hb9, _, _⟩ := HB8.out.goes hg9
  have HB9 := Lib.hid hb9
  have HUp := Lib.hid (Dk.up_any hb9.disk)
  clear hg9 hb9 hlog7
  go_wp2_with fail
  refine HUp.out.mono ?_
  rintro e w10 ⟨rfl, hg10⟩
  rw [show (D8.crash []).down = true from rfl, if_pos rfl]
  obtain ⟨S10, hb10, _, _⟩ := HB9.out.goes hg10
  have hscan := hS w10 S10 w.heap.size _ 1 hb10.disk rfl (widths_low HWd.out hb10.low HWd.out.1) (by decide)
  rw [HD8.out, wk_scan] at hscan
  dsimp only [List.length, List.map] at hscan
  have HSc := Lib.hid hscan
  have HB10 := Lib.hid hb10
  clear hg10 hb10 hscan
  go_wp2_with fail
  refine HSc.out.mono ?_
  rintro e w11 ⟨A5, c5, rfl, hrows, hl5, hm5, hn5, hb11⟩
  obtain ⟨w12, hw12⟩ : ∃ w12, w12 = w11.alloc (.cells #[.int .i64 1, .int .i64 2] 23) := ⟨_, rfl⟩
  have hb12 : Below w11.heap.size w11 w12 := by rw [hw12]; exact (Below.refl _ w11).alloc (Nat.le_refl _) _
  have hB12 := (HB10.out.below hb11).below hb12
  have hR12 := hrows.below hb12 (fun b _ h => h)
  obtain ⟨b2, off2, A6, c6, rfl, _, hc6, hy6, hl6, hm6, hn6⟩ := hR12.at_ (i := 0) (by simp)
  have hcv := conv_str w12 hy6.by_ c6
  have hr12 : w12.heap[w11.heap.size]? = some (.cells #[.int .i64 1, .int .i64 2] 23 (0, 0)) := by rw [hw12]; exact heap_alloc_new w11 _
  have z1 := cell_of_row w12 w11.heap.size 1 _ _ _ hr12
  have z2 := cell_of_row w12 w3.heap.size 1 _ _ _ hB12.log
  simp only [List.getElem?_toArray, List.getElem?_cons_zero, List.getElem?_cons_succ] at z1 z2
  simp only [List.getElem_cons_zero, List.length_cons, List.length_nil, Nat.zero_add, Nat.add_zero, str97] at hc6 hcv
  have HB12 := Lib.hid hB12
  rw [hw12] at hc6 hcv z1 z2
  have HW12 := Lib.hid hw12
  clear hrows hb11 hb12 hB12 hR12 hr12 hw12 hy6 hl6 hm6 hn6 hm5 hn5
  go_wp2_with fail
  go_ret
  exact ⟨rfl, by rw [← HW12.out]; exact HB12.out.low⟩
end Go.Proofs.YtkajcgpkldofjaaDoor
end

section
/-
  What journal's calls answer, all in one place.
-/
namespace Go.Proofs.YtkajcgpkldofjaaDoor
theorem wakes_says : WakesSays := wakes_of append_says scan_says
end Go.Proofs.YtkajcgpkldofjaaDoor
end
