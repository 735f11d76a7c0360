/-
  The developers' answers: the blocks of a sector; a home got.
-/
import Derived.Test.YtgkbhdecohlpmaaHDread
namespace Go.Proofs.Ytgkbhdecohlpmaa
set_option maxRecDepth 100000
open Go.RowKit
set_option maxRecDepth 100000

theorem blk_size : (Try.prog.info? 69).map (·.size) = some 32 := by kernel_rfl
theorem blk_zero : (Try.prog.info? 69).map (·.zero) = some (some (.agg (vals (List.replicate 32 0)).toArray)) := by kernel_rfl
theorem results_cell1H {P : Program} {fn : Func} {p : Tmp} {t : TypeId} (h : fn.results = #[.cell p t]) (tmps : Array Value) (w : World) (g : Nat) (cs : Array Value) (fr : Nat × Nat) (d : TypeDesc)
    (hp : tmps.getD p undef = .pointer (some ⟨g, 0, none⟩)) (hg : w.heap[g]? = some (.cells cs t fr)) (hu : P.underlying t = some d) (hd : (match d with | .struct _ | .array _ _ => true | _ => false) = true) (hi : (P.info? t).map (·.size) = some cs.size) :
    (results fn tmps).run P w = .ok (.agg cs) w := by
  have hp' : tmps[p]?.getD undef = .pointer (some ⟨g, 0, none⟩) := by simpa using hp
  simp [results, h, hp', asAddr, run_loadVar_row w g t t cs fr d hg hu hd hi]
/-- the blocks behind k rounds -/
def blkR (bs : List Nat) (k : Nat) : List Nat := bs.take (8 * k) ++ List.replicate (32 - 8 * k) 0
theorem blkR_len {bs : List Nat} (hl : bs.length = 64) {k : Nat} (hk : k ≤ 4) : (blkR bs k).length = 32 := by
  unfold blkR
  rw [List.length_append, List.length_take, List.length_replicate]; omega
theorem blkR_succ {bs : List Nat} (hl : bs.length = 64) {k : Nat} (hk : k < 4) : splice (vals (blkR bs k)) (8 * k) (vals ((bs.drop (8 * k)).take 8)) = vals (blkR bs (k + 1)) := by
  have ht : (bs.take (8 * k)).length = 8 * k := by rw [List.length_take]; omega
  have h8 : (vals ((bs.drop (8 * k)).take 8)).length = 8 := by rw [vals_length, List.length_take, List.length_drop]; omega
  have e : bs.take (8 * (k + 1)) = bs.take (8 * k) ++ (bs.drop (8 * k)).take 8 := by
    rw [show 8 * (k + 1) = 8 * k + 8 by omega, List.take_add]
  unfold splice blkR
  rw [h8, e]
  generalize hX : (bs.drop (8 * k)).take 8 = X at *
  rw [vals_append, vals_append, vals_append, List.take_left' (by rw [vals_length, ht]), List.drop_append, List.drop_of_length_le (by rw [vals_length, ht]; omega), List.nil_append, vals_length, ht, List.append_assoc]
  congr 2
  unfold vals
  rw [← List.map_drop, List.drop_replicate]
  congr 2
  omega
set_option maxHeartbeats 2000000 in
theorem blocksOf_dev (bs : List Nat) (hb : Dk.Sec bs) (w : World) :
    Calls Try.prog 27 #[.agg (vals bs).toArray] w fun e w' => e = .returned (.agg (vals (bs.take 32)).toArray) ∧ Below w.heap.size w w' := by
  have hl := hb.1
  obtain ⟨Z, hZ⟩ : ∃ Z, Z = (vals (List.replicate 32 0)).toArray := ⟨_, rfl⟩
  have HZ := Lib.hid (show (Try.prog.info? 69).map (·.zero) = some (some (.agg Z)) by rw [hZ]; exact blk_zero)
  have HZe := Lib.hid hZ
  obtain ⟨w1, hw1⟩ : ∃ w1, w1 = w.alloc (.cells (vals bs).toArray 64) := ⟨_, rfl⟩
  obtain ⟨w2, hw2⟩ : ∃ w2, w2 = w1.alloc (.cells Z 69) := ⟨_, rfl⟩
  obtain ⟨w3, hw3⟩ : ∃ w3, w3 = w2.alloc (.cells Z 69) := ⟨_, rfl⟩
  have hs1 : w1.heap.size = w.heap.size + 1 := by rw [hw1]; simp
  have hs2 : w2.heap.size = w1.heap.size + 1 := by rw [hw2]; simp
  have hb1 : Below w.heap.size w w1 := by rw [hw1]; exact (Below.refl _ w).alloc (Nat.le_refl _) _
  have hb2 : Below w1.heap.size w1 w2 := by rw [hw2]; exact (Below.refl _ w1).alloc (Nat.le_refl _) _
  have hb3 : Below w2.heap.size w2 w3 := by rw [hw3]; exact (Below.refl _ w2).alloc (Nat.le_refl _) _
  have H0 := Lib.hid (show w3.heap[w.heap.size]? = some (.cells (vals bs).toArray 64 (0, 0)) from (hb3.block _ (by omega)).trans ((hb2.block _ (by omega)).trans (by rw [hw1]; exact heap_alloc_new w _)))
  have H1 := Lib.hid (show w3.heap[w1.heap.size]? = some (.cells Z 69 (0, 0)) from (hb3.block _ (by omega)).trans (by rw [hw2]; exact heap_alloc_new w1 _))
  have H2 := Lib.hid (show w3.heap[w2.heap.size]? = some (.cells (vals (blkR bs 0)).toArray 69 (0, 0)) by rw [hw3, heap_alloc_new w2 _, hZ]; simp [blkR])
  have HB3 := Lib.hid (hb1.trans ((hb2.trans (hb3.mono hb2.size)).mono hb1.size))
  have HG3 := Lib.hid (show w.heap.size < w2.heap.size ∧ w.heap.size < w1.heap.size ∧ w1.heap.size < w2.heap.size by omega)
  have HW1 := Lib.hid hw1
  have HW2 := Lib.hid hw2
  have HW3 := Lib.hid hw3
  generalize hgg1 : w1.heap.size = g2 at *
  generalize hgg2 : w2.heap.size = g3 at *
  have HQ1 := Lib.hid hgg1
  have HQ2 := Lib.hid hgg2
  clear hb hZ hw1 hw2 hw3 hs1 hs2 hb1 hb2 hb3 hgg1 hgg2
  go_enter Try.func27, Try.ntmps27
  go_wp2_with (first
    | (rw [← HW1.out])
    | (refine wpList_alloc_any rfl 69 rfl Z HZ.out ?_; (first | (rw [← HW2.out, HQ1.out]) | (rw [← HW3.out, HQ2.out]))))
  go_loopw [5] (fun i wr => ∃ k : Nat, k ≤ 4 ∧ i = .int .i64 (k : Int) ∧ wr.heap[w.heap.size]? = some (.cells (vals bs).toArray 64 (0, 0)) ∧ wr.heap[g2]? = some (.cells Z 69 (0, 0)) ∧ wr.heap[g3]? = some (.cells (vals (blkR bs k)).toArray 69 (0, 0)) ∧ Below w.heap.size w wr) (fun i _ => 4 - (intOf i).toNat)
  case atStart => exact ⟨0, by omega, rfl, H0.out, H1.out, H2.out, HB3.out⟩
  case round =>
    clear H0 H1 H2 HB3
    obtain ⟨k, hk, rfl, h0, h1, h2, hb⟩ := hrel
    have H0 := Lib.hid h0
    have H1 := Lib.hid h1
    have H2 := Lib.hid h2
    have HBr := Lib.hid hb
    clear h0 h1 h2 hb
    by_cases hlt : k < 4
    · have : k = 0 ∨ k = 1 ∨ k = 2 ∨ k = 3 := by omega
      rcases this with rfl | rfl | rfl | rfl
      · have hsp := blkR_succ hl (show 0 < 4 by omega)
        have hcl : (vals ((bs.drop (8 * 0)).take 8)).length = 8 := by rw [vals_length, List.length_take, List.length_drop]; omega
        have HSp := Lib.hid hsp
        have HCl := Lib.hid hcl
        have HRl := Lib.hid (show (vals (blkR bs 0)).length = 32 by rw [vals_length]; exact blkR_len hl (by omega))
        have hcc := fun (W : World) (hW : W.heap[w.heap.size]? = some (.cells (vals bs).toArray 64 (0, 0))) j v (hv : (vals ((bs.drop (8 * 0)).take 8))[j]? = some v) => show W.cell? ⟨w.heap.size, 8 * 0 + j, none⟩ = some v from by
          rw [cell_of_row W _ (8 * 0 + j) _ _ _ hW]
          have h1 : (vals bs)[8 * 0 + j]? = some v := by
            unfold vals at hv ⊢
            rw [List.getElem?_map] at hv ⊢
            rw [List.getElem?_take] at hv
            split at hv
            · rw [List.getElem?_drop] at hv; exact hv
            · cases hv
          simpa using h1
        have HCc := Lib.hid hcc
        clear hsp hcl hcc
        have hwo : IntKind.i64.wrap (0 : Int) = (0 : Int) := by rw [IntKind.wrap_i64]; rfl
        go_wp2
        refine wp_region_held_drew (S := fun _ => True) (by kernel_rfl) trivial (fun hHeld => ?_)
        obtain ⟨w5, hw5⟩ : ∃ x, x = wr.drew := ⟨_, rfl⟩
        replace H0 := Lib.hid (show w5.heap[w.heap.size]? = some (.cells (vals bs).toArray 64 (0, 0)) by rw [hw5]; exact H0.out)
        replace H1 := Lib.hid (show w5.heap[g2]? = some (.cells Z 69 (0, 0)) by rw [hw5]; exact H1.out)
        replace H2 := Lib.hid (show w5.heap[g3]? = some (.cells (vals (blkR bs 0)).toArray 69 (0, 0)) by rw [hw5]; exact H2.out)
        replace HBr := Lib.hid (show Below w.heap.size w w5 by rw [hw5]; exact HBr.out.drew)
        rw [← hw5]
        clear hw5
        refine wpAnyH_take (i := 0) (v := ?_) rfl (by kernel_rfl) (by kernel_rfl) (by kernel_rfl) (fun _ _ _ h => h) (Or.inl ⟨by rfl, ?_⟩) (by assumption) ?_
        rotate_left
        · simp only [List.getElem_toArray, List.getElem_cons_zero, List.getElem_cons_succ]; intro W hSw; (try dsimp only at hSw); go_simp; all_goals with_reducible rfl
        simp only [Act.put, List.getElem_toArray, List.getElem_cons_zero, List.getElem_cons_succ, List.setIfInBounds_toArray, List.set_cons_zero, List.set_cons_succ]
        refine wpAnyH_take (i := 1) (v := ?_) rfl (by kernel_rfl) (by kernel_rfl) (by kernel_rfl) (fun _ _ _ h => h) (Or.inl ⟨by rfl, ?_⟩) (by assumption) ?_
        rotate_left
        · simp only [List.getElem_toArray, List.getElem_cons_zero, List.getElem_cons_succ]; intro W hSw; (try dsimp only at hSw); go_simp; all_goals with_reducible rfl
        simp only [Act.put, List.getElem_toArray, List.getElem_cons_zero, List.getElem_cons_succ, List.setIfInBounds_toArray, List.set_cons_zero, List.set_cons_succ]
        refine wpAnyH_take (i := 2) (v := ?_) rfl (by kernel_rfl) (by kernel_rfl) (by kernel_rfl) (fun _ _ _ h => h) (Or.inl ⟨by rfl, ?_⟩) (by assumption) ?_
        rotate_left
        · simp only [List.getElem_toArray, List.getElem_cons_zero, List.getElem_cons_succ]; intro W hSw; (try dsimp only at hSw); go_simp; all_goals with_reducible rfl
        simp only [Act.put, List.getElem_toArray, List.getElem_cons_zero, List.getElem_cons_succ, List.setIfInBounds_toArray, List.set_cons_zero, List.set_cons_succ]
        refine wpAnyH_take (i := 3) (v := ?_) rfl (by kernel_rfl) (by kernel_rfl) (by kernel_rfl) (fun _ _ _ h => h) (Or.inl ⟨by rfl, ?_⟩) (by assumption) ?_
        rotate_left
        · simp only [List.getElem_toArray, List.getElem_cons_zero, List.getElem_cons_succ]; intro W hSw; (try dsimp only at hSw); go_simp; all_goals with_reducible rfl
        simp only [Act.put, List.getElem_toArray, List.getElem_cons_zero, List.getElem_cons_succ, List.setIfInBounds_toArray, List.set_cons_zero, List.set_cons_succ]
        refine wpAnyH_take (i := 4) (v := ?_) rfl (by kernel_rfl) (by kernel_rfl) (by kernel_rfl) (fun _ _ _ h => h) (Or.inl ⟨by rfl, ?_⟩) (by assumption) ?_
        rotate_left
        · simp only [List.getElem_toArray, List.getElem_cons_zero, List.getElem_cons_succ]; intro W hSw; (try dsimp only at hSw); go_simp; all_goals with_reducible rfl
        simp only [Act.put, List.getElem_toArray, List.getElem_cons_zero, List.getElem_cons_succ, List.setIfInBounds_toArray, List.set_cons_zero, List.set_cons_succ]
        refine wpAnyH_take (i := 5) (v := ?_) rfl (by kernel_rfl) (by kernel_rfl) (by kernel_rfl) (fun _ _ _ h => h) (Or.inl ⟨by rfl, ?_⟩) (by assumption) ?_
        rotate_left
        · simp only [List.getElem_toArray, List.getElem_cons_zero, List.getElem_cons_succ]; intro W hSw; (try dsimp only at hSw); go_simp; all_goals with_reducible rfl
        simp only [Act.put, List.getElem_toArray, List.getElem_cons_zero, List.getElem_cons_succ, List.setIfInBounds_toArray, List.set_cons_zero, List.set_cons_succ]
        clear hwo
        refine wpAnyH_ready (rs := [6]) (by kernel_rfl) (by simp) ?_
        refine AllReadyH.cons rfl (fun K hK => ?_) AllReadyH.nil
        simp only [List.getElem_toArray, List.getElem_cons_zero, List.getElem_cons_succ]
        rw [if_pos]
        rotate_left
        · simp [Region.wanted]
        refine wp_copy_splice rfl (.tmp 10) (.tmp 13) 44 44 rfl 5 Try.underlying44 size8H (some ⟨g3, 0, none⟩) (some ⟨w.heap.size, 0, none⟩) 8 8 64 64 rfl rfl g3 0 (vals (blkR bs 0)) 69 H2.out (vals ((bs.drop (8 * 0)).take 8)) (by rw [HCl.out]; rfl) (fun h => ⟨rfl, _, rfl, fun j v hv => by rw [add_flat]; exact HCc.out _ H0.out j v hv⟩) (by rw [HCl.out, HRl.out]; omega) vals_one g3 w5 (Below.refl _ _) (Nat.le_refl _) ?_
        intro w4 hg4 hb4
        rw [show 0 = 8 * 0 from rfl, HSp.out] at hg4
        have HG4 := Lib.hid hg4.out
        have HB4 := Lib.hid (HBr.out.trans (hb4.mono (by have := HG3.out; omega)))
        have HQ0 := Lib.hid ((hb4.block _ (by have := HG3.out; omega)).trans H0.out)
        have HQ1_ := Lib.hid ((hb4.block _ (by have := HG3.out; omega)).trans H1.out)
        clear hg4 hb4
        refine hK.out _ _ (trivial) (fun hHeldN => ?_)
        clear hK K hHeld
        have hHeld := hHeldN
        clear hHeldN
        (try simp only [Act.put, List.getElem_toArray, List.getElem_cons_zero, List.getElem_cons_succ, List.setIfInBounds_toArray, List.set_cons_zero, List.set_cons_succ])
        refine wpAnyH_done (by kernel_rfl) ?_ _
        go_wp2
        go_roundw
        case rel => exact ⟨0 + 1, by omega, by simp, HQ0.out, HQ1_.out, HG4.out, HB4.out⟩
        case measure => simp [intOf]
      · have hsp := blkR_succ hl (show 1 < 4 by omega)
        have hcl : (vals ((bs.drop (8 * 1)).take 8)).length = 8 := by rw [vals_length, List.length_take, List.length_drop]; omega
        have HSp := Lib.hid hsp
        have HCl := Lib.hid hcl
        have HRl := Lib.hid (show (vals (blkR bs 1)).length = 32 by rw [vals_length]; exact blkR_len hl (by omega))
        have hcc := fun (W : World) (hW : W.heap[w.heap.size]? = some (.cells (vals bs).toArray 64 (0, 0))) j v (hv : (vals ((bs.drop (8 * 1)).take 8))[j]? = some v) => show W.cell? ⟨w.heap.size, 8 * 1 + j, none⟩ = some v from by
          rw [cell_of_row W _ (8 * 1 + j) _ _ _ hW]
          have h1 : (vals bs)[8 * 1 + j]? = some v := by
            unfold vals at hv ⊢
            rw [List.getElem?_map] at hv ⊢
            rw [List.getElem?_take] at hv
            split at hv
            · rw [List.getElem?_drop] at hv; exact hv
            · cases hv
          simpa using h1
        have HCc := Lib.hid hcc
        clear hsp hcl hcc
        have hwo : IntKind.i64.wrap (8 : Int) = (8 : Int) := by rw [IntKind.wrap_i64]; rfl
        go_wp2
        refine wp_region_held_drew (S := fun _ => True) (by kernel_rfl) trivial (fun hHeld => ?_)
        obtain ⟨w5, hw5⟩ : ∃ x, x = wr.drew := ⟨_, rfl⟩
        replace H0 := Lib.hid (show w5.heap[w.heap.size]? = some (.cells (vals bs).toArray 64 (0, 0)) by rw [hw5]; exact H0.out)
        replace H1 := Lib.hid (show w5.heap[g2]? = some (.cells Z 69 (0, 0)) by rw [hw5]; exact H1.out)
        replace H2 := Lib.hid (show w5.heap[g3]? = some (.cells (vals (blkR bs 1)).toArray 69 (0, 0)) by rw [hw5]; exact H2.out)
        replace HBr := Lib.hid (show Below w.heap.size w w5 by rw [hw5]; exact HBr.out.drew)
        rw [← hw5]
        clear hw5
        refine wpAnyH_take (i := 0) (v := ?_) rfl (by kernel_rfl) (by kernel_rfl) (by kernel_rfl) (fun _ _ _ h => h) (Or.inl ⟨by rfl, ?_⟩) (by assumption) ?_
        rotate_left
        · simp only [List.getElem_toArray, List.getElem_cons_zero, List.getElem_cons_succ]; intro W hSw; (try dsimp only at hSw); go_simp; all_goals with_reducible rfl
        simp only [Act.put, List.getElem_toArray, List.getElem_cons_zero, List.getElem_cons_succ, List.setIfInBounds_toArray, List.set_cons_zero, List.set_cons_succ]
        refine wpAnyH_take (i := 1) (v := ?_) rfl (by kernel_rfl) (by kernel_rfl) (by kernel_rfl) (fun _ _ _ h => h) (Or.inl ⟨by rfl, ?_⟩) (by assumption) ?_
        rotate_left
        · simp only [List.getElem_toArray, List.getElem_cons_zero, List.getElem_cons_succ]; intro W hSw; (try dsimp only at hSw); go_simp; all_goals with_reducible rfl
        simp only [Act.put, List.getElem_toArray, List.getElem_cons_zero, List.getElem_cons_succ, List.setIfInBounds_toArray, List.set_cons_zero, List.set_cons_succ]
        refine wpAnyH_take (i := 2) (v := ?_) rfl (by kernel_rfl) (by kernel_rfl) (by kernel_rfl) (fun _ _ _ h => h) (Or.inl ⟨by rfl, ?_⟩) (by assumption) ?_
        rotate_left
        · simp only [List.getElem_toArray, List.getElem_cons_zero, List.getElem_cons_succ]; intro W hSw; (try dsimp only at hSw); go_simp; all_goals with_reducible rfl
        simp only [Act.put, List.getElem_toArray, List.getElem_cons_zero, List.getElem_cons_succ, List.setIfInBounds_toArray, List.set_cons_zero, List.set_cons_succ]
        refine wpAnyH_take (i := 3) (v := ?_) rfl (by kernel_rfl) (by kernel_rfl) (by kernel_rfl) (fun _ _ _ h => h) (Or.inl ⟨by rfl, ?_⟩) (by assumption) ?_
        rotate_left
        · simp only [List.getElem_toArray, List.getElem_cons_zero, List.getElem_cons_succ]; intro W hSw; (try dsimp only at hSw); go_simp; all_goals with_reducible rfl
        simp only [Act.put, List.getElem_toArray, List.getElem_cons_zero, List.getElem_cons_succ, List.setIfInBounds_toArray, List.set_cons_zero, List.set_cons_succ]
        refine wpAnyH_take (i := 4) (v := ?_) rfl (by kernel_rfl) (by kernel_rfl) (by kernel_rfl) (fun _ _ _ h => h) (Or.inl ⟨by rfl, ?_⟩) (by assumption) ?_
        rotate_left
        · simp only [List.getElem_toArray, List.getElem_cons_zero, List.getElem_cons_succ]; intro W hSw; (try dsimp only at hSw); go_simp; all_goals with_reducible rfl
        simp only [Act.put, List.getElem_toArray, List.getElem_cons_zero, List.getElem_cons_succ, List.setIfInBounds_toArray, List.set_cons_zero, List.set_cons_succ]
        refine wpAnyH_take (i := 5) (v := ?_) rfl (by kernel_rfl) (by kernel_rfl) (by kernel_rfl) (fun _ _ _ h => h) (Or.inl ⟨by rfl, ?_⟩) (by assumption) ?_
        rotate_left
        · simp only [List.getElem_toArray, List.getElem_cons_zero, List.getElem_cons_succ]; intro W hSw; (try dsimp only at hSw); go_simp; all_goals with_reducible rfl
        simp only [Act.put, List.getElem_toArray, List.getElem_cons_zero, List.getElem_cons_succ, List.setIfInBounds_toArray, List.set_cons_zero, List.set_cons_succ]
        clear hwo
        refine wpAnyH_ready (rs := [6]) (by kernel_rfl) (by simp) ?_
        refine AllReadyH.cons rfl (fun K hK => ?_) AllReadyH.nil
        simp only [List.getElem_toArray, List.getElem_cons_zero, List.getElem_cons_succ]
        rw [if_pos]
        rotate_left
        · simp [Region.wanted]
        refine wp_copy_splice rfl (.tmp 10) (.tmp 13) 44 44 rfl 5 Try.underlying44 size8H (some ⟨g3, 8, none⟩) (some ⟨w.heap.size, 8, none⟩) 8 8 56 56 rfl rfl g3 8 (vals (blkR bs 1)) 69 H2.out (vals ((bs.drop (8 * 1)).take 8)) (by rw [HCl.out]; rfl) (fun h => ⟨rfl, _, rfl, fun j v hv => by rw [add_flat]; exact HCc.out _ H0.out j v hv⟩) (by rw [HCl.out, HRl.out]; omega) vals_one g3 w5 (Below.refl _ _) (Nat.le_refl _) ?_
        intro w4 hg4 hb4
        rw [show 8 = 8 * 1 from rfl, HSp.out] at hg4
        have HG4 := Lib.hid hg4.out
        have HB4 := Lib.hid (HBr.out.trans (hb4.mono (by have := HG3.out; omega)))
        have HQ0 := Lib.hid ((hb4.block _ (by have := HG3.out; omega)).trans H0.out)
        have HQ1_ := Lib.hid ((hb4.block _ (by have := HG3.out; omega)).trans H1.out)
        clear hg4 hb4
        refine hK.out _ _ (trivial) (fun hHeldN => ?_)
        clear hK K hHeld
        have hHeld := hHeldN
        clear hHeldN
        (try simp only [Act.put, List.getElem_toArray, List.getElem_cons_zero, List.getElem_cons_succ, List.setIfInBounds_toArray, List.set_cons_zero, List.set_cons_succ])
        refine wpAnyH_done (by kernel_rfl) ?_ _
        go_wp2
        go_roundw
        case rel => exact ⟨1 + 1, by omega, by simp, HQ0.out, HQ1_.out, HG4.out, HB4.out⟩
        case measure => simp [intOf]
      · have hsp := blkR_succ hl (show 2 < 4 by omega)
        have hcl : (vals ((bs.drop (8 * 2)).take 8)).length = 8 := by rw [vals_length, List.length_take, List.length_drop]; omega
        have HSp := Lib.hid hsp
        have HCl := Lib.hid hcl
        have HRl := Lib.hid (show (vals (blkR bs 2)).length = 32 by rw [vals_length]; exact blkR_len hl (by omega))
        have hcc := fun (W : World) (hW : W.heap[w.heap.size]? = some (.cells (vals bs).toArray 64 (0, 0))) j v (hv : (vals ((bs.drop (8 * 2)).take 8))[j]? = some v) => show W.cell? ⟨w.heap.size, 8 * 2 + j, none⟩ = some v from by
          rw [cell_of_row W _ (8 * 2 + j) _ _ _ hW]
          have h1 : (vals bs)[8 * 2 + j]? = some v := by
            unfold vals at hv ⊢
            rw [List.getElem?_map] at hv ⊢
            rw [List.getElem?_take] at hv
            split at hv
            · rw [List.getElem?_drop] at hv; exact hv
            · cases hv
          simpa using h1
        have HCc := Lib.hid hcc
        clear hsp hcl hcc
        have hwo : IntKind.i64.wrap (16 : Int) = (16 : Int) := by rw [IntKind.wrap_i64]; rfl
        go_wp2
        refine wp_region_held_drew (S := fun _ => True) (by kernel_rfl) trivial (fun hHeld => ?_)
        obtain ⟨w5, hw5⟩ : ∃ x, x = wr.drew := ⟨_, rfl⟩
        replace H0 := Lib.hid (show w5.heap[w.heap.size]? = some (.cells (vals bs).toArray 64 (0, 0)) by rw [hw5]; exact H0.out)
        replace H1 := Lib.hid (show w5.heap[g2]? = some (.cells Z 69 (0, 0)) by rw [hw5]; exact H1.out)
        replace H2 := Lib.hid (show w5.heap[g3]? = some (.cells (vals (blkR bs 2)).toArray 69 (0, 0)) by rw [hw5]; exact H2.out)
        replace HBr := Lib.hid (show Below w.heap.size w w5 by rw [hw5]; exact HBr.out.drew)
        rw [← hw5]
        clear hw5
        refine wpAnyH_take (i := 0) (v := ?_) rfl (by kernel_rfl) (by kernel_rfl) (by kernel_rfl) (fun _ _ _ h => h) (Or.inl ⟨by rfl, ?_⟩) (by assumption) ?_
        rotate_left
        · simp only [List.getElem_toArray, List.getElem_cons_zero, List.getElem_cons_succ]; intro W hSw; (try dsimp only at hSw); go_simp; all_goals with_reducible rfl
        simp only [Act.put, List.getElem_toArray, List.getElem_cons_zero, List.getElem_cons_succ, List.setIfInBounds_toArray, List.set_cons_zero, List.set_cons_succ]
        refine wpAnyH_take (i := 1) (v := ?_) rfl (by kernel_rfl) (by kernel_rfl) (by kernel_rfl) (fun _ _ _ h => h) (Or.inl ⟨by rfl, ?_⟩) (by assumption) ?_
        rotate_left
        · simp only [List.getElem_toArray, List.getElem_cons_zero, List.getElem_cons_succ]; intro W hSw; (try dsimp only at hSw); go_simp; all_goals with_reducible rfl
        simp only [Act.put, List.getElem_toArray, List.getElem_cons_zero, List.getElem_cons_succ, List.setIfInBounds_toArray, List.set_cons_zero, List.set_cons_succ]
        refine wpAnyH_take (i := 2) (v := ?_) rfl (by kernel_rfl) (by kernel_rfl) (by kernel_rfl) (fun _ _ _ h => h) (Or.inl ⟨by rfl, ?_⟩) (by assumption) ?_
        rotate_left
        · simp only [List.getElem_toArray, List.getElem_cons_zero, List.getElem_cons_succ]; intro W hSw; (try dsimp only at hSw); go_simp; all_goals with_reducible rfl
        simp only [Act.put, List.getElem_toArray, List.getElem_cons_zero, List.getElem_cons_succ, List.setIfInBounds_toArray, List.set_cons_zero, List.set_cons_succ]
        refine wpAnyH_take (i := 3) (v := ?_) rfl (by kernel_rfl) (by kernel_rfl) (by kernel_rfl) (fun _ _ _ h => h) (Or.inl ⟨by rfl, ?_⟩) (by assumption) ?_
        rotate_left
        · simp only [List.getElem_toArray, List.getElem_cons_zero, List.getElem_cons_succ]; intro W hSw; (try dsimp only at hSw); go_simp; all_goals with_reducible rfl
        simp only [Act.put, List.getElem_toArray, List.getElem_cons_zero, List.getElem_cons_succ, List.setIfInBounds_toArray, List.set_cons_zero, List.set_cons_succ]
        refine wpAnyH_take (i := 4) (v := ?_) rfl (by kernel_rfl) (by kernel_rfl) (by kernel_rfl) (fun _ _ _ h => h) (Or.inl ⟨by rfl, ?_⟩) (by assumption) ?_
        rotate_left
        · simp only [List.getElem_toArray, List.getElem_cons_zero, List.getElem_cons_succ]; intro W hSw; (try dsimp only at hSw); go_simp; all_goals with_reducible rfl
        simp only [Act.put, List.getElem_toArray, List.getElem_cons_zero, List.getElem_cons_succ, List.setIfInBounds_toArray, List.set_cons_zero, List.set_cons_succ]
        refine wpAnyH_take (i := 5) (v := ?_) rfl (by kernel_rfl) (by kernel_rfl) (by kernel_rfl) (fun _ _ _ h => h) (Or.inl ⟨by rfl, ?_⟩) (by assumption) ?_
        rotate_left
        · simp only [List.getElem_toArray, List.getElem_cons_zero, List.getElem_cons_succ]; intro W hSw; (try dsimp only at hSw); go_simp; all_goals with_reducible rfl
        simp only [Act.put, List.getElem_toArray, List.getElem_cons_zero, List.getElem_cons_succ, List.setIfInBounds_toArray, List.set_cons_zero, List.set_cons_succ]
        clear hwo
        refine wpAnyH_ready (rs := [6]) (by kernel_rfl) (by simp) ?_
        refine AllReadyH.cons rfl (fun K hK => ?_) AllReadyH.nil
        simp only [List.getElem_toArray, List.getElem_cons_zero, List.getElem_cons_succ]
        rw [if_pos]
        rotate_left
        · simp [Region.wanted]
        refine wp_copy_splice rfl (.tmp 10) (.tmp 13) 44 44 rfl 5 Try.underlying44 size8H (some ⟨g3, 16, none⟩) (some ⟨w.heap.size, 16, none⟩) 8 8 48 48 rfl rfl g3 16 (vals (blkR bs 2)) 69 H2.out (vals ((bs.drop (8 * 2)).take 8)) (by rw [HCl.out]; rfl) (fun h => ⟨rfl, _, rfl, fun j v hv => by rw [add_flat]; exact HCc.out _ H0.out j v hv⟩) (by rw [HCl.out, HRl.out]; omega) vals_one g3 w5 (Below.refl _ _) (Nat.le_refl _) ?_
        intro w4 hg4 hb4
        rw [show 16 = 8 * 2 from rfl, HSp.out] at hg4
        have HG4 := Lib.hid hg4.out
        have HB4 := Lib.hid (HBr.out.trans (hb4.mono (by have := HG3.out; omega)))
        have HQ0 := Lib.hid ((hb4.block _ (by have := HG3.out; omega)).trans H0.out)
        have HQ1_ := Lib.hid ((hb4.block _ (by have := HG3.out; omega)).trans H1.out)
        clear hg4 hb4
        refine hK.out _ _ (trivial) (fun hHeldN => ?_)
        clear hK K hHeld
        have hHeld := hHeldN
        clear hHeldN
        (try simp only [Act.put, List.getElem_toArray, List.getElem_cons_zero, List.getElem_cons_succ, List.setIfInBounds_toArray, List.set_cons_zero, List.set_cons_succ])
        refine wpAnyH_done (by kernel_rfl) ?_ _
        go_wp2
        go_roundw
        case rel => exact ⟨2 + 1, by omega, by simp, HQ0.out, HQ1_.out, HG4.out, HB4.out⟩
        case measure => simp [intOf]
      · have hsp := blkR_succ hl (show 3 < 4 by omega)
        have hcl : (vals ((bs.drop (8 * 3)).take 8)).length = 8 := by rw [vals_length, List.length_take, List.length_drop]; omega
        have HSp := Lib.hid hsp
        have HCl := Lib.hid hcl
        have HRl := Lib.hid (show (vals (blkR bs 3)).length = 32 by rw [vals_length]; exact blkR_len hl (by omega))
        have hcc := fun (W : World) (hW : W.heap[w.heap.size]? = some (.cells (vals bs).toArray 64 (0, 0))) j v (hv : (vals ((bs.drop (8 * 3)).take 8))[j]? = some v) => show W.cell? ⟨w.heap.size, 8 * 3 + j, none⟩ = some v from by
          rw [cell_of_row W _ (8 * 3 + j) _ _ _ hW]
          have h1 : (vals bs)[8 * 3 + j]? = some v := by
            unfold vals at hv ⊢
            rw [List.getElem?_map] at hv ⊢
            rw [List.getElem?_take] at hv
            split at hv
            · rw [List.getElem?_drop] at hv; exact hv
            · cases hv
          simpa using h1
        have HCc := Lib.hid hcc
        clear hsp hcl hcc
        have hwo : IntKind.i64.wrap (24 : Int) = (24 : Int) := by rw [IntKind.wrap_i64]; rfl
        go_wp2
        refine wp_region_held_drew (S := fun _ => True) (by kernel_rfl) trivial (fun hHeld => ?_)
        obtain ⟨w5, hw5⟩ : ∃ x, x = wr.drew := ⟨_, rfl⟩
        replace H0 := Lib.hid (show w5.heap[w.heap.size]? = some (.cells (vals bs).toArray 64 (0, 0)) by rw [hw5]; exact H0.out)
        replace H1 := Lib.hid (show w5.heap[g2]? = some (.cells Z 69 (0, 0)) by rw [hw5]; exact H1.out)
        replace H2 := Lib.hid (show w5.heap[g3]? = some (.cells (vals (blkR bs 3)).toArray 69 (0, 0)) by rw [hw5]; exact H2.out)
        replace HBr := Lib.hid (show Below w.heap.size w w5 by rw [hw5]; exact HBr.out.drew)
        rw [← hw5]
        clear hw5
        refine wpAnyH_take (i := 0) (v := ?_) rfl (by kernel_rfl) (by kernel_rfl) (by kernel_rfl) (fun _ _ _ h => h) (Or.inl ⟨by rfl, ?_⟩) (by assumption) ?_
        rotate_left
        · simp only [List.getElem_toArray, List.getElem_cons_zero, List.getElem_cons_succ]; intro W hSw; (try dsimp only at hSw); go_simp; all_goals with_reducible rfl
        simp only [Act.put, List.getElem_toArray, List.getElem_cons_zero, List.getElem_cons_succ, List.setIfInBounds_toArray, List.set_cons_zero, List.set_cons_succ]
        refine wpAnyH_take (i := 1) (v := ?_) rfl (by kernel_rfl) (by kernel_rfl) (by kernel_rfl) (fun _ _ _ h => h) (Or.inl ⟨by rfl, ?_⟩) (by assumption) ?_
        rotate_left
        · simp only [List.getElem_toArray, List.getElem_cons_zero, List.getElem_cons_succ]; intro W hSw; (try dsimp only at hSw); go_simp; all_goals with_reducible rfl
        simp only [Act.put, List.getElem_toArray, List.getElem_cons_zero, List.getElem_cons_succ, List.setIfInBounds_toArray, List.set_cons_zero, List.set_cons_succ]
        refine wpAnyH_take (i := 2) (v := ?_) rfl (by kernel_rfl) (by kernel_rfl) (by kernel_rfl) (fun _ _ _ h => h) (Or.inl ⟨by rfl, ?_⟩) (by assumption) ?_
        rotate_left
        · simp only [List.getElem_toArray, List.getElem_cons_zero, List.getElem_cons_succ]; intro W hSw; (try dsimp only at hSw); go_simp; all_goals with_reducible rfl
        simp only [Act.put, List.getElem_toArray, List.getElem_cons_zero, List.getElem_cons_succ, List.setIfInBounds_toArray, List.set_cons_zero, List.set_cons_succ]
        refine wpAnyH_take (i := 3) (v := ?_) rfl (by kernel_rfl) (by kernel_rfl) (by kernel_rfl) (fun _ _ _ h => h) (Or.inl ⟨by rfl, ?_⟩) (by assumption) ?_
        rotate_left
        · simp only [List.getElem_toArray, List.getElem_cons_zero, List.getElem_cons_succ]; intro W hSw; (try dsimp only at hSw); go_simp; all_goals with_reducible rfl
        simp only [Act.put, List.getElem_toArray, List.getElem_cons_zero, List.getElem_cons_succ, List.setIfInBounds_toArray, List.set_cons_zero, List.set_cons_succ]
        refine wpAnyH_take (i := 4) (v := ?_) rfl (by kernel_rfl) (by kernel_rfl) (by kernel_rfl) (fun _ _ _ h => h) (Or.inl ⟨by rfl, ?_⟩) (by assumption) ?_
        rotate_left
        · simp only [List.getElem_toArray, List.getElem_cons_zero, List.getElem_cons_succ]; intro W hSw; (try dsimp only at hSw); go_simp; all_goals with_reducible rfl
        simp only [Act.put, List.getElem_toArray, List.getElem_cons_zero, List.getElem_cons_succ, List.setIfInBounds_toArray, List.set_cons_zero, List.set_cons_succ]
        refine wpAnyH_take (i := 5) (v := ?_) rfl (by kernel_rfl) (by kernel_rfl) (by kernel_rfl) (fun _ _ _ h => h) (Or.inl ⟨by rfl, ?_⟩) (by assumption) ?_
        rotate_left
        · simp only [List.getElem_toArray, List.getElem_cons_zero, List.getElem_cons_succ]; intro W hSw; (try dsimp only at hSw); go_simp; all_goals with_reducible rfl
        simp only [Act.put, List.getElem_toArray, List.getElem_cons_zero, List.getElem_cons_succ, List.setIfInBounds_toArray, List.set_cons_zero, List.set_cons_succ]
        clear hwo
        refine wpAnyH_ready (rs := [6]) (by kernel_rfl) (by simp) ?_
        refine AllReadyH.cons rfl (fun K hK => ?_) AllReadyH.nil
        simp only [List.getElem_toArray, List.getElem_cons_zero, List.getElem_cons_succ]
        rw [if_pos]
        rotate_left
        · simp [Region.wanted]
        refine wp_copy_splice rfl (.tmp 10) (.tmp 13) 44 44 rfl 5 Try.underlying44 size8H (some ⟨g3, 24, none⟩) (some ⟨w.heap.size, 24, none⟩) 8 8 40 40 rfl rfl g3 24 (vals (blkR bs 3)) 69 H2.out (vals ((bs.drop (8 * 3)).take 8)) (by rw [HCl.out]; rfl) (fun h => ⟨rfl, _, rfl, fun j v hv => by rw [add_flat]; exact HCc.out _ H0.out j v hv⟩) (by rw [HCl.out, HRl.out]; omega) vals_one g3 w5 (Below.refl _ _) (Nat.le_refl _) ?_
        intro w4 hg4 hb4
        rw [show 24 = 8 * 3 from rfl, HSp.out] at hg4
        have HG4 := Lib.hid hg4.out
        have HB4 := Lib.hid (HBr.out.trans (hb4.mono (by have := HG3.out; omega)))
        have HQ0 := Lib.hid ((hb4.block _ (by have := HG3.out; omega)).trans H0.out)
        have HQ1_ := Lib.hid ((hb4.block _ (by have := HG3.out; omega)).trans H1.out)
        clear hg4 hb4
        refine hK.out _ _ (trivial) (fun hHeldN => ?_)
        clear hK K hHeld
        have hHeld := hHeldN
        clear hHeldN
        (try simp only [Act.put, List.getElem_toArray, List.getElem_cons_zero, List.getElem_cons_succ, List.setIfInBounds_toArray, List.set_cons_zero, List.set_cons_succ])
        refine wpAnyH_done (by kernel_rfl) ?_ _
        go_wp2
        go_roundw
        case rel => exact ⟨3 + 1, by omega, by simp, HQ0.out, HQ1_.out, HG4.out, HB4.out⟩
        case measure => simp [intOf]
    · obtain rfl : k = 4 := by omega
      have hB4 : blkR bs 4 = bs.take 32 := by unfold blkR; simp
      rw [hB4] at H2
      have h32 : (bs.take 32).length = 32 := by rw [List.length_take]; omega
      have HI := Lib.hid (show (Try.prog.info? 69).map (·.size) = some (vals (bs.take 32)).toArray.size by rw [blk_size, vals_size, h32])
      have HSz := Lib.hid (show Z.size = (vals (bs.take 32)).toArray.size by rw [HZe.out, vals_size, vals_size, h32]; simp)
      have HAl := Lib.hid (vals_all (bs.take 32))
      generalize hys : bs.take 32 = ys at *
      have HYs := Lib.hid hys
      clear hB4 h32 hl hys
      go_wp2_with (first
        | (refine wpList_load_row rfl 69 _ rfl g3 rfl 69 (vals ys).toArray (0, 0) _ H2.out Try.underlying69 rfl HI.out ?_)
        | (refine wpList_store_row rfl 69 _ _ rfl g2 (vals ys).toArray rfl rfl 69 Z H1.out HI.out HSz.out HAl.out ?_))
      exact bodyPost_ret (results_cell1H (t := 69) (p := 2) rfl _ _ g2 (vals ys).toArray (0, 0) _ rfl (setRow_heap _ _ _ _ _ _ H1.out) Try.underlying69 rfl HI.out) rfl ⟨by rw [HYs.out], below_setRow HBr.out (by have := HG3.out; omega) _⟩

theorem get_nil_dev : GetHNil := by
  intro z w
  go_enter Try.func9, Try.ntmps9
  go_wp2
  go_ret2
  exact ⟨none, 0, rfl, Below.refl _ _⟩
theorem wpList_build_zero {P : Program} {ops : Array Oper} {rest : List Oper} {o : Oper} {a : Act} {w : World} {Q : Exit → Act → World → Prop} (hgd : o.guard = none) (ty : TypeId) (ho : o.op = .build ty #[])
    (n : Nat) (e : TypeId) (hu : P.underlying ty = some (.array n e)) (z : Array Value) (hz : (P.info? ty).map (·.zero) = some (some (.agg z))) (k : Nat) (he : (P.info? e).map (·.size) = some k)
    (h : wpList P ops Q rest (a.put o.dst (.agg z)) w) : wpList P ops Q (o :: rest) a w := by
  refine wpList_plain hgd fun _ hK => wp_value (v := .agg z) (w' := w) ?_ (hK _ _ h)
  cases hq : P.info? ty with
  | none => simp [hq] at hz
  | some i =>
    have hs : i.zero = some (.agg z) := by simpa [hq] using hz
    cases hr : P.info? e with
    | none => simp [hr] at he
    | some j =>
      unfold execOp
      simp [ho, Instr.build, zeroValue, typeInfo, hq, hs, run_underlying hu, sizeOf, hr, Instr.fill, Value.cells, Result.andThen]
/-- a load of a struct or an array behind a guard that is met -/
theorem wpList_load_row_if {P : Program} {ops : Array Oper} {rest : List Oper} {o : Oper} {a : Act} {w : World} {Q : Exit → Act → World → Prop} (hw : Region.wanted o (yielded ops a.tmps) = true) (ty : TypeId) (x : Operand) (ho : o.op = .load ty x)
    (g : Nat) (hx : a.eval x = .pointer (some ⟨g, 0, none⟩)) (t : TypeId) (cs : Array Value) (fr : Nat × Nat) (d : TypeDesc) (hg : w.heap[g]? = some (.cells cs t fr))
    (hu : P.underlying ty = some d) (hd : (match d with | .struct _ | .array _ _ => true | _ => false) = true) (hi : (P.info? ty).map (·.size) = some cs.size)
    (h : wpList P ops Q rest (a.put o.dst (.agg cs)) w) : wpList P ops Q (o :: rest) a w :=
  wpList_step fun K hK => by
    simp only [hw, if_true]
    exact wp_load_row ty x ho g hx t cs fr d hg hu hd hi (hK _ _ h)
theorem read_len {sec : List Nat} (hl : sec.length = 64) {l : List (List Nat)} (h : readHm sec = some l) : l.length = 4 ∧ l.flatten = sec.take 32 := by
  have c8 : ∀ (k : Nat) (b : List Nat), (cut8 b k).length = k := by
    intro k
    induction k with
    | zero => intro b; rfl
    | succ k ih => intro b; rw [cut8, List.length_cons, ih]
  have cf : ∀ (k : Nat) (b : List Nat), (cut8 b k).flatten = b.take (8 * k) := by
    intro k
    induction k with
    | zero => intro b; rfl
    | succ k ih => intro b; rw [cut8, List.flatten_cons, ih, show 8 * (k + 1) = 8 + 8 * k by omega, List.take_add]
  unfold readHm at h
  by_cases hz : allZ sec = true
  · rw [if_pos hz] at h
    obtain rfl := Option.some.inj h
    refine ⟨rfl, ?_⟩
    have e : sec = List.replicate 64 0 := by
      rw [List.eq_replicate_iff]
      unfold allZ at hz
      rw [decide_eq_true_eq] at hz
      exact ⟨hl, hz⟩
    rw [e]; rfl
  · rw [if_neg hz] at h
    unfold openH at h
    split at h
    · obtain rfl := Option.some.inj h
      refine ⟨c8 _ _, ?_⟩
      rw [cf, List.take_take]; rfl
    · cases h
theorem allZ_eq {sec : List Nat} (hl : sec.length = 64) : allZ sec = decide (sec = List.replicate 64 0) := by
  rw [Bool.eq_iff_iff, decide_eq_true_eq]
  unfold allZ
  rw [decide_eq_true_eq, List.eq_replicate_iff]
  exact ⟨fun h => ⟨hl, h⟩, fun h => h.2⟩
set_option maxHeartbeats 2000000 in
theorem get_dev : GetHSays := by
  intro w S a d n h hd hn
  have HSt := Lib.hid (fun W => stripe_dev (n : Int) W)
  have hst : strH (n : Int) = true := decide_eq_true ⟨by omega, by omega⟩
  rw [hst] at HSt
  have hs := h.newest_sec (n := 26 + n) (by omega)
  have HR := Lib.hid (fun W (hW : Below w.heap.size w W) => hread_dev (h.below hW (Nat.le_refl _)) hd (n := 26 + n) (by omega))
  rw [show ((26 + n : Nat) : Int) = 26 + (n : Int) by omega] at HR
  generalize d.newest (26 + n) = bs at *
  replace HR := Lib.hid (HR.out w (Below.refl _ _))
  have hn8 : (n : Int) < 8 := by omega
  have hn0 : (0 : Int) ≤ (n : Int) := by omega
  have hw : IntKind.i64.wrap (26 + (n : Int)) = 26 + (n : Int) := by rw [IntKind.wrap_i64]; omega
  have HI := Lib.hid (show (Try.prog.info? 64).map (·.size) = some (vals bs).toArray.size by rw [hsec_size, vals_size, hs.1])
  have HAl := Lib.hid (vals_all bs)
  obtain ⟨Zl, hZl⟩ : ∃ Zl, Zl = vals (List.replicate 64 0) := ⟨_, rfl⟩
  obtain ⟨Z, hZ⟩ : ∃ Z, Z = (vals (List.replicate 64 0)).toArray := ⟨_, rfl⟩
  have HZ := Lib.hid (show (Try.prog.info? 64).map (·.zero) = some (some (.agg Z)) by rw [hZ]; exact hsec_zero)
  have HSz := Lib.hid (show Z.size = (vals bs).toArray.size by rw [hZ, vals_size, vals_size, hs.1]; simp)
  have HNq := Lib.hid (fun W => show (binOp .neq 64 (.agg (vals bs).toArray) (.agg Z)).run Try.prog W = .ok (.bool (!allZ bs)) W by
    rw [hZ, bytes_neq W 64 64 Try.underlying64 bs (List.replicate 64 0) hs.1 (by simp), allZ_eq hs.1])
  have HE8 := Lib.hid (show (Try.prog.info? 5).map (·.size) = some 1 from size8H)
  have HRd := Lib.hid (show ∀ l, readHm bs = some l → l.length = 4 ∧ l.flatten = bs.take 32 from fun l h => read_len hs.1 h)
  have HBo := Lib.hid (fun W => blocksOf_dev bs hs W)
  have HSe := Lib.hid (fun W => sealed_dev bs 32 hs (by omega) W)
  rw [seal_open hs.1 (show 32 + 4 ≤ 64 by omega), show ((32 : Nat) : Int) = 32 from rfl] at HSe
  have h32 : (bs.take 32).length = 32 := by rw [List.length_take, hs.1]; rfl
  have HIk := Lib.hid (show (Try.prog.info? 69).map (·.size) = some (vals (bs.take 32)).toArray.size by rw [blk_size, vals_size, h32])
  have HAk := Lib.hid (vals_all (bs.take 32))
  obtain ⟨Zk, hZk⟩ : ∃ Z, Z = (vals (List.replicate 32 0)).toArray := ⟨_, rfl⟩
  have HZk := Lib.hid (show (Try.prog.info? 69).map (·.zero) = some (some (.agg Zk)) by rw [hZk]; exact blk_zero)
  have HSk := Lib.hid (show Zk.size = (vals (bs.take 32)).toArray.size by rw [hZk, vals_size, vals_size, h32]; simp)
  have HLt := Lib.hid (show ∀ x ∈ bs.take 32, x < 256 from fun x hx => hs.2 x (List.mem_of_mem_take hx))
  have H32 := Lib.hid h32
  generalize bs.take 32 = ys at *
  clear h hd hn hst hs hZl hZ h32 hZk
  cases hz : allZ bs with
  | true =>
    rw [hz] at HNq
    have hr : readHm bs = some blocks0 := if_pos hz
    have HF := Lib.hid (show blocks0.flatten = ys from (HRd.out _ hr).2)
    rw [hr]
    clear hz hr
    suffices H : Calls Try.prog 9 #[.pointer (some ⟨a, 0, none⟩), .int .i64 (n : Int)] w fun e w' => ∃ A c, e = .returned (.tuple #[.slice A 4 c, .int .i64 0]) ∧ By w' w'.heap.size A ys ∧ 4 ≤ c ∧ c ≤ maxLen ∧ Below w.heap.size w w' by
      refine H.mono ?_
      rintro e w' ⟨A, c, rfl, hy, hc4, hcm, hb⟩
      exact ⟨A, c, rfl, by rw [show (some blocks0).getD [] = blocks0 from rfl, HF.out]; exact hy, hc4, hcm, hb⟩
    go_enter Try.func9, Try.ntmps9
    go_wp2_with (fail)
    refine (HSt.out _).mono ?_
    rintro e w1 ⟨rfl, rfl⟩
    go_wp2_with (fail)
    refine HR.out.mono ?_
    rintro e w2 ⟨rfl, hb2⟩
    have HB2 := Lib.hid hb2
    clear hb2
    have hz2 := heap_alloc_new w2 (.cells Z 64)
    have hZ2 := Lib.hid hz2
    obtain ⟨w3, hw3⟩ : ∃ x, x = (w2.alloc (.cells Z 64)).setRow w2.heap.size (vals bs).toArray := ⟨_, rfl⟩
    have hg3 : w3.heap[w2.heap.size]? = some (.cells (vals bs).toArray 64 (0, 0)) := by rw [hw3]; exact setRow_heap _ _ _ _ _ _ hz2
    have hs3 : w3.heap.size = w2.heap.size + 1 := by rw [hw3]; simp [World.setRow]
    have HB3 := Lib.hid (show Below w.heap.size w w3 by rw [hw3]; exact below_setRow (HB2.out.alloc HB2.out.size _) HB2.out.size _)
    have HG3 := Lib.hid hg3
    have HS3 := Lib.hid hs3
    have HW3 := Lib.hid hw3
    clear hz2 hw3 hg3 hs3
    have heq := HNq.out
    go_wp2_with (first | (refine wpList_alloc_any rfl 64 rfl Z HZ.out ?_) | (refine wpList_store_row rfl 64 _ _ rfl w2.heap.size (vals bs).toArray rfl rfl 64 Z hZ2.out HI.out HSz.out HAl.out ?_; rw [← HW3.out]) | (refine wpList_load_row rfl 64 (.tmp 6) rfl w2.heap.size rfl 64 (vals bs).toArray (0, 0) _ HG3.out Try.underlying64 rfl HI.out ?_) | (refine wpList_build_zero rfl 64 rfl 64 5 Try.underlying64 Z HZ.out 1 HE8.out ?_))
    refine (HBo.out _).mono ?_
    rintro e w4 ⟨rfl, hb4⟩
    have HB4 := Lib.hid (HB3.out.trans (hb4.mono HB3.out.size))
    have hz4 := heap_alloc_new w4 (.cells Zk 69)
    have hZ4 := Lib.hid hz4
    have hg6 : ((w4.alloc (.cells Zk 69)).setRow w4.heap.size (vals ys).toArray).heap[w4.heap.size]? = some (.cells (vals ys).toArray 69 (0, 0)) := setRow_heap _ _ _ _ _ _ hz4
    have HB6 := Lib.hid (below_setRow (HB4.out.alloc HB4.out.size (.cells Zk 69)) HB4.out.size (vals ys).toArray)
    have HYs := Lib.hid (show By ((w4.alloc (.cells Zk 69)).setRow w4.heap.size (vals ys).toArray) ((w4.alloc (.cells Zk 69)).setRow w4.heap.size (vals ys).toArray).heap.size (some ⟨w4.heap.size, 0, none⟩) ys from (By.of_row hg6 (by rw [List.take_of_length_le (by simp [vals_length])]) HLt.out).mono (by simp [World.setRow]))
    clear hb4 hz4 hg6
    go_wp2_with (first
      | (refine wpList_alloc_any rfl 69 rfl Zk HZk.out ?_)
      | (refine wpList_store_row rfl 69 _ _ rfl w4.heap.size (vals ys).toArray rfl rfl 69 Zk hZ4.out HIk.out HSk.out HAk.out ?_))
    go_ret2
    exact ⟨some ⟨w4.heap.size, 0, none⟩, 4, rfl, HYs.out, by decide, by unfold maxLen; decide, HB6.out⟩
  | false =>
    rw [hz] at HNq
    cases ho : openH bs 32 with
    | some b =>
      rw [ho, Option.isSome_some] at HSe
      have hr : readHm bs = some (cut8 b 4) := by unfold readHm; rw [hz, ho]; rfl
      have HF := Lib.hid (HRd.out _ hr)
      rw [hr]
      generalize cut8 b 4 = l4 at *
      clear hz hr ho
      suffices H : Calls Try.prog 9 #[.pointer (some ⟨a, 0, none⟩), .int .i64 (n : Int)] w fun e w' => ∃ A c, e = .returned (.tuple #[.slice A 4 c, .int .i64 0]) ∧ By w' w'.heap.size A ys ∧ 4 ≤ c ∧ c ≤ maxLen ∧ Below w.heap.size w w' by
        refine H.mono ?_
        rintro e w' ⟨A, c, rfl, hy, hc4, hcm, hb⟩
        exact ⟨A, c, by rw [show (some l4).getD [] = l4 from rfl, HF.out.1]; rfl, by rw [show (some l4).getD [] = l4 from rfl, HF.out.2]; exact hy, by rw [show (some l4).getD [] = l4 from rfl, HF.out.1]; exact hc4, hcm, hb⟩
      go_enter Try.func9, Try.ntmps9
      go_wp2_with (fail)
      refine (HSt.out _).mono ?_
      rintro e w1 ⟨rfl, rfl⟩
      go_wp2_with (fail)
      refine HR.out.mono ?_
      rintro e w2 ⟨rfl, hb2⟩
      have HB2 := Lib.hid hb2
      clear hb2
      have hz2 := heap_alloc_new w2 (.cells Z 64)
      have hZ2 := Lib.hid hz2
      obtain ⟨w3, hw3⟩ : ∃ x, x = (w2.alloc (.cells Z 64)).setRow w2.heap.size (vals bs).toArray := ⟨_, rfl⟩
      have hg3 : w3.heap[w2.heap.size]? = some (.cells (vals bs).toArray 64 (0, 0)) := by rw [hw3]; exact setRow_heap _ _ _ _ _ _ hz2
      have hs3 : w3.heap.size = w2.heap.size + 1 := by rw [hw3]; simp [World.setRow]
      have HB3 := Lib.hid (show Below w.heap.size w w3 by rw [hw3]; exact below_setRow (HB2.out.alloc HB2.out.size _) HB2.out.size _)
      have HG3 := Lib.hid hg3
      have HS3 := Lib.hid hs3
      have HW3 := Lib.hid hw3
      clear hz2 hw3 hg3 hs3
      have heq := HNq.out
      go_wp2_with (first | (refine wpList_alloc_any rfl 64 rfl Z HZ.out ?_) | (refine wpList_store_row rfl 64 _ _ rfl w2.heap.size (vals bs).toArray rfl rfl 64 Z hZ2.out HI.out HSz.out HAl.out ?_; rw [← HW3.out]) | (refine wpList_load_row rfl 64 (.tmp 6) rfl w2.heap.size rfl 64 (vals bs).toArray (0, 0) _ HG3.out Try.underlying64 rfl HI.out ?_) | (refine wpList_build_zero rfl 64 rfl 64 5 Try.underlying64 Z HZ.out 1 HE8.out ?_) | (refine wpList_load_row_if (by rfl) 64 (.tmp 6) rfl w2.heap.size rfl 64 (vals bs).toArray (0, 0) _ HG3.out Try.underlying64 rfl HI.out ?_))
      refine (HSe.out _).mono ?_
      rintro e w3' ⟨rfl, hb3'⟩
      have HB3' := Lib.hid (HB3.out.trans (hb3'.mono HB3.out.size))
      have HG3' := Lib.hid ((hb3'.block _ (by have := HS3.out; omega)).trans HG3.out)
      clear HB3 HG3 hb3'
      have HB3 := HB3'
      have HG3 := HG3'
      clear HB3' HG3'
      go_wp2_with (first | (refine wpList_load_row rfl 64 (.tmp 6) rfl w2.heap.size rfl 64 (vals bs).toArray (0, 0) _ HG3.out Try.underlying64 rfl HI.out ?_))
      refine (HBo.out _).mono ?_
      rintro e w4 ⟨rfl, hb4⟩
      have HB4 := Lib.hid (HB3.out.trans (hb4.mono HB3.out.size))
      have hz4 := heap_alloc_new w4 (.cells Zk 69)
      have hZ4 := Lib.hid hz4
      have hg6 : ((w4.alloc (.cells Zk 69)).setRow w4.heap.size (vals ys).toArray).heap[w4.heap.size]? = some (.cells (vals ys).toArray 69 (0, 0)) := setRow_heap _ _ _ _ _ _ hz4
      have HB6 := Lib.hid (below_setRow (HB4.out.alloc HB4.out.size (.cells Zk 69)) HB4.out.size (vals ys).toArray)
      have HYs := Lib.hid (show By ((w4.alloc (.cells Zk 69)).setRow w4.heap.size (vals ys).toArray) ((w4.alloc (.cells Zk 69)).setRow w4.heap.size (vals ys).toArray).heap.size (some ⟨w4.heap.size, 0, none⟩) ys from (By.of_row hg6 (by rw [List.take_of_length_le (by simp [vals_length])]) HLt.out).mono (by simp [World.setRow]))
      clear hb4 hz4 hg6
      go_wp2_with (first
        | (refine wpList_alloc_any rfl 69 rfl Zk HZk.out ?_)
        | (refine wpList_store_row rfl 69 _ _ rfl w4.heap.size (vals ys).toArray rfl rfl 69 Zk hZ4.out HIk.out HSk.out HAk.out ?_))
      go_ret2
      exact ⟨some ⟨w4.heap.size, 0, none⟩, 4, rfl, HYs.out, by decide, by unfold maxLen; decide, HB6.out⟩
    | none =>
      rw [ho, Option.isSome_none] at HSe
      have hr : readHm bs = none := by unfold readHm; rw [hz, ho]; rfl
      rw [hr]
      clear hz hr ho
      suffices H : Calls Try.prog 9 #[.pointer (some ⟨a, 0, none⟩), .int .i64 (n : Int)] w fun e w' => e = .returned (.tuple #[.slice none 0 0, .int .i64 40]) ∧ Below w.heap.size w w' by
        refine H.mono ?_
        rintro e w' ⟨rfl, hb⟩
        exact ⟨none, 0, rfl, By.nil_, Nat.le_refl _, Nat.zero_le _, hb⟩
      go_enter Try.func9, Try.ntmps9
      go_wp2_with (fail)
      refine (HSt.out _).mono ?_
      rintro e w1 ⟨rfl, rfl⟩
      go_wp2_with (fail)
      refine HR.out.mono ?_
      rintro e w2 ⟨rfl, hb2⟩
      have HB2 := Lib.hid hb2
      clear hb2
      have hz2 := heap_alloc_new w2 (.cells Z 64)
      have hZ2 := Lib.hid hz2
      obtain ⟨w3, hw3⟩ : ∃ x, x = (w2.alloc (.cells Z 64)).setRow w2.heap.size (vals bs).toArray := ⟨_, rfl⟩
      have hg3 : w3.heap[w2.heap.size]? = some (.cells (vals bs).toArray 64 (0, 0)) := by rw [hw3]; exact setRow_heap _ _ _ _ _ _ hz2
      have hs3 : w3.heap.size = w2.heap.size + 1 := by rw [hw3]; simp [World.setRow]
      have HB3 := Lib.hid (show Below w.heap.size w w3 by rw [hw3]; exact below_setRow (HB2.out.alloc HB2.out.size _) HB2.out.size _)
      have HG3 := Lib.hid hg3
      have HS3 := Lib.hid hs3
      have HW3 := Lib.hid hw3
      clear hz2 hw3 hg3 hs3
      have heq := HNq.out
      go_wp2_with (first | (refine wpList_alloc_any rfl 64 rfl Z HZ.out ?_) | (refine wpList_store_row rfl 64 _ _ rfl w2.heap.size (vals bs).toArray rfl rfl 64 Z hZ2.out HI.out HSz.out HAl.out ?_; rw [← HW3.out]) | (refine wpList_load_row rfl 64 (.tmp 6) rfl w2.heap.size rfl 64 (vals bs).toArray (0, 0) _ HG3.out Try.underlying64 rfl HI.out ?_) | (refine wpList_build_zero rfl 64 rfl 64 5 Try.underlying64 Z HZ.out 1 HE8.out ?_) | (refine wpList_load_row_if (by rfl) 64 (.tmp 6) rfl w2.heap.size rfl 64 (vals bs).toArray (0, 0) _ HG3.out Try.underlying64 rfl HI.out ?_))
      refine (HSe.out _).mono ?_
      rintro e w4 ⟨rfl, hb4⟩
      have HB4 := Lib.hid (HB3.out.trans (hb4.mono HB3.out.size))
      clear hb4
      go_wp2
      go_ret2
      exact ⟨rfl, HB4.out⟩
end Go.Proofs.Ytgkbhdecohlpmaa
