/-
  Texts Dputn, Dget, Dgetn, Dfk, Dfld, joined.
-/
import Derived.Deep.RegionHeld3
import Derived.Deep.DeepCutAuto
import Derived.Test.YtaokhbodmodcgaaJ5
set_option linter.all false
section
/-
  The developers' answers: names, changes, writes as bytes.
-/
namespace Go.Proofs.Ytaokhbodmodcgaa
open Go.RowKit
set_option maxRecDepth 100000

def LowN (n : Nm) : Prop := (0 ≤ n.stamp ∧ n.stamp < 16777216) ∧ (0 ≤ n.inc ∧ n.inc < 16777216) ∧ 0 ≤ n.att ∧ n.att < 16777216
theorem own_block {w : World} {base : Nat} {bs : List Nat} {v : Value} (h : Own w base bs v) : ∀ k, v.ownBlock = some k → k < w.heap.size := by
  intro k hk
  rcases h.2 with ⟨rfl, _⟩ | ⟨g, cap, cur, rfl, _, hh, _⟩
  · simp [Value.ownBlock] at hk
  · have e : g = k := by simpa [Value.ownBlock] using hk
    have := (Array.getElem?_eq_some_iff.1 hh).1
    omega
theorem Own.keep {w w' : World} {base : Nat} {bs : List Nat} {v : Value} (h : Own w base bs v) (hk : ∀ k, v.ownBlock = some k → w'.heap[k]? = w.heap[k]?) : Own w' base bs v := by
  obtain ⟨h1, h2⟩ := h
  refine ⟨h1, ?_⟩
  rcases h2 with h2 | ⟨g, cap, cur, hv, hb, hg, r⟩
  · exact Or.inl h2
  · exact Or.inr ⟨g, cap, cur, hv, hb, (hk g (by rw [hv]; rfl)).trans hg, r⟩
theorem grew_drew {w w' : World} {v v' : Value} (h : Grew w w' v v') : Grew w w'.drew v v' := ⟨h.os, h.tape, h.output, h.size, h.block, h.own⟩
theorem own_drew {w : World} {base : Nat} {bs : List Nat} {v : Value} (h : Own w base bs v) : Own w.drew base bs v := h.keep fun _ _ => rfl
/-- a block made since, of the world behind appends to v -/
theorem Grew.fresh {w w' : World} {v v' : Value} {k : Nat} (h : Grew w w' v v') (hk : k < w.heap.size) (hv : v.ownBlock ≠ some k) : w'.heap[k]? = w.heap[k]? := h.block k hk hv
set_option maxHeartbeats 2000000 in
theorem putName_dev (n : Nm) (bs : List Nat) (v : Value) (base : Nat) (w : World) (hn : LowN n) (ho : Own w base bs v) (hb : base ≤ w.heap.size) (hl : bs.length ≤ 900000) :
    Calls Try.prog 70 #[v, .agg (nmv n).toArray] w fun e w' => ∃ v', e = .returned v' ∧ Own w' base (bs ++ nameL n) v' ∧ Grew w w' v v' := by
  obtain ⟨a, b, c⟩ := n
  obtain ⟨h1, h2, h3⟩ := hn
  simp only at h1 h2 h3
  obtain ⟨x, rfl⟩ : ∃ x : Nat, a = (x : Int) := ⟨a.toNat, by omega⟩
  obtain ⟨y, rfl⟩ : ∃ y : Nat, b = (y : Int) := ⟨b.toNat, by omega⟩
  obtain ⟨z, rfl⟩ : ∃ z : Nat, c = (z : Int) := ⟨c.toNat, by omega⟩
  unfold nmv
  obtain ⟨w1, hw1⟩ : ∃ w1, w1 = w.alloc (.cells #[.int .i64 (x : Int), .int .i64 (y : Int), .int .i64 (z : Int)] 24) := ⟨_, rfl⟩
  have hb1 : Grew w w1 v v := by rw [hw1]; exact Grew.alloc w _ v
  have g0 : w1.heap[w.heap.size]? = some (.cells #[.int .i64 (x : Int), .int .i64 (y : Int), .int .i64 (z : Int)] 24 (0, 0)) := by rw [hw1]; exact heap_alloc_new w _
  have hz : w1.heap.size = w.heap.size + 1 := by rw [hw1]; simp
  have ho1 : Own w1.drew base bs v := by rw [hw1]; exact (ho.alloc _)
  have hvlt : v.ownBlock ≠ some w.heap.size := fun e => by have := own_block ho _ e; omega
  have HG := Lib.hid (show ∀ W u, Grew w1.drew W v u → W.cell? ⟨w.heap.size, 0, none⟩ = some (.int .i64 (x : Int)) ∧ W.cell? ⟨w.heap.size, 1, none⟩ = some (.int .i64 (y : Int)) ∧ W.cell? ⟨w.heap.size, 2, none⟩ = some (.int .i64 (z : Int)) from fun X u hX => by
    have h := (hX.block _ (show w.heap.size < w1.heap.size by omega) hvlt).trans g0
    exact ⟨by rw [cell_of_row X _ 0 _ _ _ h]; rfl, by rw [cell_of_row X _ 1 _ _ _ h]; rfl, by rw [cell_of_row X _ 2 _ _ _ h]; rfl⟩)
  have HB1 := Lib.hid hb1
  have HW1 := Lib.hid hw1
  have HO1 := Lib.hid ho1
  have HG0 := Lib.hid (Grew.refl w1.drew v)
  have HN := Lib.hid (show nameL ⟨(x : Int), (y : Int), (z : Int)⟩ = three (x : Int) ++ (three (y : Int) ++ three (z : Int)) from rfl)
  have HZ := Lib.hid (show base ≤ w.heap.size ∧ bs.length ≤ 900000 ∧ x < 16777216 ∧ y < 16777216 ∧ z < 16777216 ∧ w1.drew.heap.size = w1.heap.size from ⟨hb, hl, by omega, by omega, by omega, rfl⟩)
  clear hw1 hb1 g0 hz ho1 hvlt ho hb hl h1 h2 h3
  go_enter Try.func70, Try.ntmps70
  go_wp2_with (rw [← HW1.out])
  refine wp_region_held_drew (S := fun W => W.cell? ⟨w.heap.size, 0, none⟩ = some (.int .i64 (x : Int)) ∧ W.cell? ⟨w.heap.size, 1, none⟩ = some (.int .i64 (y : Int)) ∧ W.cell? ⟨w.heap.size, 2, none⟩ = some (.int .i64 (z : Int))) (by kernel_rfl) (HG.out _ _ HG0.out) (fun hHeld => ?_)
  refine wpAnyH_take (i := 0) (v := ?_) rfl (by kernel_rfl) (by kernel_rfl) (by kernel_rfl) (fun _ _ _ h => h) (Or.inl ⟨by rfl, ?_⟩) (by assumption) ?_
  rotate_left
  · simp only [List.getElem_toArray, List.getElem_cons_zero, List.getElem_cons_succ]; intro W hSw; (try dsimp only at hSw); go_simp; all_goals with_reducible rfl
  simp only [Act.put, List.getElem_toArray, List.getElem_cons_zero, List.getElem_cons_succ, List.setIfInBounds_toArray, List.set_cons_zero, List.set_cons_succ]
  refine wpAnyH_take (i := 1) (v := ?_) rfl (by kernel_rfl) (by kernel_rfl) (by kernel_rfl) (fun _ _ _ h => h) (Or.inl ⟨by rfl, ?_⟩) (by assumption) ?_
  rotate_left
  · simp only [List.getElem_toArray, List.getElem_cons_zero, List.getElem_cons_succ]; intro W hSw; (try dsimp only at hSw); go_simp; all_goals with_reducible rfl
  simp only [Act.put, List.getElem_toArray, List.getElem_cons_zero, List.getElem_cons_succ, List.setIfInBounds_toArray, List.set_cons_zero, List.set_cons_succ]
  refine wpAnyH_take (i := 2) (v := ?_) rfl (by kernel_rfl) (by kernel_rfl) (by kernel_rfl) (fun _ _ _ h => h) (Or.inl ⟨by rfl, ?_⟩) (by assumption) ?_
  rotate_left
  · simp only [List.getElem_toArray, List.getElem_cons_zero, List.getElem_cons_succ]; intro W hSw; (try dsimp only at hSw); go_simp; all_goals with_reducible rfl
  simp only [Act.put, List.getElem_toArray, List.getElem_cons_zero, List.getElem_cons_succ, List.setIfInBounds_toArray, List.set_cons_zero, List.set_cons_succ]
  refine wpAnyH_take (i := 4) (v := ?_) rfl (by kernel_rfl) (by kernel_rfl) (by kernel_rfl) (fun _ _ _ h => h) (Or.inl ⟨by rfl, ?_⟩) (by assumption) ?_
  rotate_left
  · simp only [List.getElem_toArray, List.getElem_cons_zero, List.getElem_cons_succ]; intro W hSw; (try dsimp only at hSw); go_simp; all_goals with_reducible rfl
  simp only [Act.put, List.getElem_toArray, List.getElem_cons_zero, List.getElem_cons_succ, List.setIfInBounds_toArray, List.set_cons_zero, List.set_cons_succ]
  refine wpAnyH_take (i := 5) (v := ?_) rfl (by kernel_rfl) (by kernel_rfl) (by kernel_rfl) (fun _ _ _ h => h) (Or.inl ⟨by rfl, ?_⟩) (by assumption) ?_
  rotate_left
  · simp only [List.getElem_toArray, List.getElem_cons_zero, List.getElem_cons_succ]; intro W hSw; (try dsimp only at hSw); go_simp; all_goals with_reducible rfl
  simp only [Act.put, List.getElem_toArray, List.getElem_cons_zero, List.getElem_cons_succ, List.setIfInBounds_toArray, List.set_cons_zero, List.set_cons_succ]
  refine wpAnyH_take (i := 7) (v := ?_) rfl (by kernel_rfl) (by kernel_rfl) (by kernel_rfl) (fun _ _ _ h => h) (Or.inl ⟨by rfl, ?_⟩) (by assumption) ?_
  rotate_left
  · simp only [List.getElem_toArray, List.getElem_cons_zero, List.getElem_cons_succ]; intro W hSw; (try dsimp only at hSw); go_simp; all_goals with_reducible rfl
  simp only [Act.put, List.getElem_toArray, List.getElem_cons_zero, List.getElem_cons_succ, List.setIfInBounds_toArray, List.set_cons_zero, List.set_cons_succ]
  refine wpAnyH_take (i := 8) (v := ?_) rfl (by kernel_rfl) (by kernel_rfl) (by kernel_rfl) (fun _ _ _ h => h) (Or.inl ⟨by rfl, ?_⟩) (by assumption) ?_
  rotate_left
  · simp only [List.getElem_toArray, List.getElem_cons_zero, List.getElem_cons_succ]; intro W hSw; (try dsimp only at hSw); go_simp; all_goals with_reducible rfl
  simp only [Act.put, List.getElem_toArray, List.getElem_cons_zero, List.getElem_cons_succ, List.setIfInBounds_toArray, List.set_cons_zero, List.set_cons_succ]
  refine wpAnyH_ready (rs := [3]) (by kernel_rfl) (by simp) ?_
  refine AllReadyH.cons rfl (fun K hK => ?_) AllReadyH.nil
  simp only [List.getElem_toArray, List.getElem_cons_zero, List.getElem_cons_succ]
  go_simp
  refine (putWide_dev x _ v base w1.drew (by have := HZ.out; omega) HO1.out (by have := HZ.out; have := HB1.out.size; have := HG0.out.size; omega) (by have := HZ.out; simp [three]; omega)).mono ?_
  rintro e w2 ⟨v2, rfl, ho, hg⟩
  have HO2 := Lib.hid ho
  have HG2 := Lib.hid (HG0.out.trans hg)
  clear ho hg
  go_wp2_with fail
  refine hK.out _ _ (HG.out _ _ HG2.out) (fun hHeldN => ?_)
  clear hK K hHeld
  have hHeld := hHeldN
  clear hHeldN
  (try simp only [Act.put, List.getElem_toArray, List.getElem_cons_zero, List.getElem_cons_succ, List.setIfInBounds_toArray, List.set_cons_zero, List.set_cons_succ])
  refine wpAnyH_ready (rs := [6]) (by kernel_rfl) (by simp) ?_
  refine AllReadyH.cons rfl (fun K hK => ?_) AllReadyH.nil
  simp only [List.getElem_toArray, List.getElem_cons_zero, List.getElem_cons_succ]
  go_simp
  refine (putWide_dev y _ v2 base w2 (by have := HZ.out; omega) HO2.out (by have := HZ.out; have := HB1.out.size; have := HG2.out.size; omega) (by have := HZ.out; simp [three]; omega)).mono ?_
  rintro e w3 ⟨v3, rfl, ho, hg⟩
  have HO3 := Lib.hid ho
  have HG3 := Lib.hid (HG2.out.trans hg)
  clear ho hg
  go_wp2_with fail
  refine hK.out _ _ (HG.out _ _ HG3.out) (fun hHeldN => ?_)
  clear hK K hHeld
  have hHeld := hHeldN
  clear hHeldN
  (try simp only [Act.put, List.getElem_toArray, List.getElem_cons_zero, List.getElem_cons_succ, List.setIfInBounds_toArray, List.set_cons_zero, List.set_cons_succ])
  refine wpAnyH_ready (rs := [9]) (by kernel_rfl) (by simp) ?_
  refine AllReadyH.cons rfl (fun K hK => ?_) AllReadyH.nil
  simp only [List.getElem_toArray, List.getElem_cons_zero, List.getElem_cons_succ]
  go_simp
  refine (putWide_dev z _ v3 base w3 (by have := HZ.out; omega) HO3.out (by have := HZ.out; have := HB1.out.size; have := HG3.out.size; omega) (by have := HZ.out; simp [three]; omega)).mono ?_
  rintro e w4 ⟨v4, rfl, ho, hg⟩
  have HO4 := Lib.hid ho
  have HG4 := Lib.hid (HG3.out.trans hg)
  clear ho hg
  go_wp2_with fail
  refine hK.out _ _ (HG.out _ _ HG4.out) (fun hHeldN => ?_)
  clear hK K hHeld
  have hHeld := hHeldN
  clear hHeldN
  (try simp only [Act.put, List.getElem_toArray, List.getElem_cons_zero, List.getElem_cons_succ, List.setIfInBounds_toArray, List.set_cons_zero, List.set_cons_succ])
  refine wpAnyH_take (i := 10) (v := ?_) rfl (by kernel_rfl) (by kernel_rfl) (by kernel_rfl) (fun _ _ _ h => h) (Or.inl ⟨by rfl, ?_⟩) (by assumption) ?_
  rotate_left
  · simp only [List.getElem_toArray, List.getElem_cons_zero, List.getElem_cons_succ]; intro W hSw; (try dsimp only at hSw); go_simp; all_goals with_reducible rfl
  simp only [Act.put, List.getElem_toArray, List.getElem_cons_zero, List.getElem_cons_succ, List.setIfInBounds_toArray, List.set_cons_zero, List.set_cons_succ]
  refine wpAnyH_done (by kernel_rfl) ?_ _
  go_wp2_with fail
  go_ret
  refine ⟨v4, rfl, ?_, ?_⟩
  · rw [HN.out]
    have h := HO4.out
    rw [List.append_assoc, List.append_assoc] at h
    exact h
  · have h := HB1.out.trans (show Grew w1 w1.drew v v from ⟨rfl, rfl, rfl, Nat.le_refl _, fun _ _ _ => rfl, fun _ h => Or.inl h⟩)
    exact h.trans HG4.out
set_option maxHeartbeats 2000000 in
theorem putChange_dev (s t : Int) (bs : List Nat) (v : Value) (base : Nat) (w : World) (hs : -1 ≤ s ∧ s < 255) (ht : 0 ≤ t ∧ t < 256) (ho : Own w base bs v) (hb : base ≤ w.heap.size) (hl : bs.length ≤ 900000) :
    Calls Try.prog 87 #[v, .agg #[.int .i64 s, .int .i64 t]] w fun e w' => ∃ v', e = .returned v' ∧ Own w' base (bs ++ [byteN (s + 1), byteN t]) v' ∧ Grew w w' v v' := by
  obtain ⟨x, hx⟩ : ∃ x : Nat, s + 1 = (x : Int) := ⟨(s + 1).toNat, by omega⟩
  obtain ⟨z, rfl⟩ : ∃ z : Nat, t = (z : Int) := ⟨t.toNat, by omega⟩
  have hw : IntKind.i64.wrap (s + 1) = (x : Int) := by rw [hx, IntKind.wrap_i64]; omega
  obtain ⟨w1, hw1⟩ : ∃ w1, w1 = w.alloc (.cells #[.int .i64 s, .int .i64 (z : Int)] 27) := ⟨_, rfl⟩
  have hb1 : Grew w w1 v v := by rw [hw1]; exact Grew.alloc w _ v
  have g0 : w1.heap[w.heap.size]? = some (.cells #[.int .i64 s, .int .i64 (z : Int)] 27 (0, 0)) := by rw [hw1]; exact heap_alloc_new w _
  have hz : w1.heap.size = w.heap.size + 1 := by rw [hw1]; simp
  have ho1 : Own w1.drew base bs v := by rw [hw1]; exact (ho.alloc _)
  have hvlt : v.ownBlock ≠ some w.heap.size := fun e => by have := own_block ho _ e; omega
  have HG := Lib.hid (show ∀ W u, Grew w1.drew W v u → W.cell? ⟨w.heap.size, 0, none⟩ = some (.int .i64 s) ∧ W.cell? ⟨w.heap.size, 1, none⟩ = some (.int .i64 (z : Int)) from fun X u hX => by
    have h := (hX.block _ (show w.heap.size < w1.heap.size by omega) hvlt).trans g0
    exact ⟨by rw [cell_of_row X _ 0 _ _ _ h]; rfl, by rw [cell_of_row X _ 1 _ _ _ h]; rfl⟩)
  have HB1 := Lib.hid hb1
  have HW1 := Lib.hid hw1
  have HO1 := Lib.hid ho1
  have HG0 := Lib.hid (Grew.refl w1.drew v)
  have HN := Lib.hid (show [byteN (s + 1), byteN (z : Int)] = [x % 256] ++ [z % 256] by rw [hx, byteN_cast, byteN_cast]; rfl)
  have HZ := Lib.hid (show base ≤ w.heap.size ∧ bs.length ≤ 900000 ∧ x < 16777216 ∧ z < 16777216 ∧ w1.drew.heap.size = w1.heap.size from ⟨hb, hl, by omega, by omega, rfl⟩)
  clear hw1 hb1 g0 hz ho1 hvlt ho hb hl hs ht hx
  go_enter Try.func87, Try.ntmps87
  go_wp2_with (rw [← HW1.out])
  refine wp_region_held_drew (S := fun W => W.cell? ⟨w.heap.size, 0, none⟩ = some (.int .i64 s) ∧ W.cell? ⟨w.heap.size, 1, none⟩ = some (.int .i64 (z : Int))) (by kernel_rfl) (HG.out _ _ HG0.out) (fun hHeld => ?_)
  refine wpAnyH_take (i := 0) (v := ?_) rfl (by kernel_rfl) (by kernel_rfl) (by kernel_rfl) (fun _ _ _ h => h) (Or.inl ⟨by rfl, ?_⟩) (by assumption) ?_
  rotate_left
  · simp only [List.getElem_toArray, List.getElem_cons_zero, List.getElem_cons_succ]; intro W hSw; (try dsimp only at hSw); go_simp; all_goals with_reducible rfl
  simp only [Act.put, List.getElem_toArray, List.getElem_cons_zero, List.getElem_cons_succ, List.setIfInBounds_toArray, List.set_cons_zero, List.set_cons_succ]
  refine wpAnyH_take (i := 1) (v := ?_) rfl (by kernel_rfl) (by kernel_rfl) (by kernel_rfl) (fun _ _ _ h => h) (Or.inl ⟨by rfl, ?_⟩) (by assumption) ?_
  rotate_left
  · simp only [List.getElem_toArray, List.getElem_cons_zero, List.getElem_cons_succ]; intro W hSw; (try dsimp only at hSw); go_simp; all_goals with_reducible rfl
  simp only [Act.put, List.getElem_toArray, List.getElem_cons_zero, List.getElem_cons_succ, List.setIfInBounds_toArray, List.set_cons_zero, List.set_cons_succ]
  refine wpAnyH_take (i := 2) (v := ?_) rfl (by kernel_rfl) (by kernel_rfl) (by kernel_rfl) (fun _ _ _ h => h) (Or.inl ⟨by rfl, ?_⟩) (by assumption) ?_
  rotate_left
  · simp only [List.getElem_toArray, List.getElem_cons_zero, List.getElem_cons_succ]; intro W hSw; (try dsimp only at hSw); go_simp; all_goals with_reducible rfl
  simp only [Act.put, List.getElem_toArray, List.getElem_cons_zero, List.getElem_cons_succ, List.setIfInBounds_toArray, List.set_cons_zero, List.set_cons_succ]
  refine wpAnyH_take (i := 3) (v := ?_) rfl (by kernel_rfl) (by kernel_rfl) (by kernel_rfl) (fun _ _ _ h => h) (Or.inl ⟨by rfl, ?_⟩) (by assumption) ?_
  rotate_left
  · simp only [List.getElem_toArray, List.getElem_cons_zero, List.getElem_cons_succ]; intro W hSw; (try dsimp only at hSw); go_simp; all_goals with_reducible rfl
  simp only [Act.put, List.getElem_toArray, List.getElem_cons_zero, List.getElem_cons_succ, List.setIfInBounds_toArray, List.set_cons_zero, List.set_cons_succ]
  refine wpAnyH_take (i := 5) (v := ?_) rfl (by kernel_rfl) (by kernel_rfl) (by kernel_rfl) (fun _ _ _ h => h) (Or.inl ⟨by rfl, ?_⟩) (by assumption) ?_
  rotate_left
  · simp only [List.getElem_toArray, List.getElem_cons_zero, List.getElem_cons_succ]; intro W hSw; (try dsimp only at hSw); go_simp; all_goals with_reducible rfl
  simp only [Act.put, List.getElem_toArray, List.getElem_cons_zero, List.getElem_cons_succ, List.setIfInBounds_toArray, List.set_cons_zero, List.set_cons_succ]
  refine wpAnyH_take (i := 6) (v := ?_) rfl (by kernel_rfl) (by kernel_rfl) (by kernel_rfl) (fun _ _ _ h => h) (Or.inl ⟨by rfl, ?_⟩) (by assumption) ?_
  rotate_left
  · simp only [List.getElem_toArray, List.getElem_cons_zero, List.getElem_cons_succ]; intro W hSw; (try dsimp only at hSw); go_simp; all_goals with_reducible rfl
  simp only [Act.put, List.getElem_toArray, List.getElem_cons_zero, List.getElem_cons_succ, List.setIfInBounds_toArray, List.set_cons_zero, List.set_cons_succ]
  refine wpAnyH_ready (rs := [4]) (by kernel_rfl) (by simp) ?_
  refine AllReadyH.cons rfl (fun K hK => ?_) AllReadyH.nil
  simp only [List.getElem_toArray, List.getElem_cons_zero, List.getElem_cons_succ]
  go_simp
  refine (putByte_dev x _ v base w1.drew (by have := HZ.out; omega) HO1.out (by have := HZ.out; have := HB1.out.size; have := HG0.out.size; omega) (by have := HZ.out; simp; omega)).mono ?_
  rintro e w2 ⟨v2, rfl, ho, hg⟩
  have HO2 := Lib.hid ho
  have HG2 := Lib.hid (HG0.out.trans hg)
  clear ho hg
  go_wp2_with fail
  refine hK.out _ _ (HG.out _ _ HG2.out) (fun hHeldN => ?_)
  clear hK K hHeld
  have hHeld := hHeldN
  clear hHeldN
  (try simp only [Act.put, List.getElem_toArray, List.getElem_cons_zero, List.getElem_cons_succ, List.setIfInBounds_toArray, List.set_cons_zero, List.set_cons_succ])
  refine wpAnyH_ready (rs := [7]) (by kernel_rfl) (by simp) ?_
  refine AllReadyH.cons rfl (fun K hK => ?_) AllReadyH.nil
  simp only [List.getElem_toArray, List.getElem_cons_zero, List.getElem_cons_succ]
  go_simp
  refine (putByte_dev z _ v2 base w2 (by have := HZ.out; omega) HO2.out (by have := HZ.out; have := HB1.out.size; have := HG2.out.size; omega) (by have := HZ.out; simp; omega)).mono ?_
  rintro e w3 ⟨v3, rfl, ho, hg⟩
  have HO3 := Lib.hid ho
  have HG3 := Lib.hid (HG2.out.trans hg)
  clear ho hg
  go_wp2_with fail
  refine hK.out _ _ (HG.out _ _ HG3.out) (fun hHeldN => ?_)
  clear hK K hHeld
  have hHeld := hHeldN
  clear hHeldN
  (try simp only [Act.put, List.getElem_toArray, List.getElem_cons_zero, List.getElem_cons_succ, List.setIfInBounds_toArray, List.set_cons_zero, List.set_cons_succ])
  refine wpAnyH_take (i := 8) (v := ?_) rfl (by kernel_rfl) (by kernel_rfl) (by kernel_rfl) (fun _ _ _ h => h) (Or.inl ⟨by rfl, ?_⟩) (by assumption) ?_
  rotate_left
  · simp only [List.getElem_toArray, List.getElem_cons_zero, List.getElem_cons_succ]; intro W hSw; (try dsimp only at hSw); go_simp; all_goals with_reducible rfl
  simp only [Act.put, List.getElem_toArray, List.getElem_cons_zero, List.getElem_cons_succ, List.setIfInBounds_toArray, List.set_cons_zero, List.set_cons_succ]
  refine wpAnyH_done (by kernel_rfl) ?_ _
  go_wp2_with fail
  go_ret
  refine ⟨v3, rfl, ?_, ?_⟩
  · rw [HN.out]
    have h := HO3.out
    rw [List.append_assoc] at h
    exact h
  · have h := HB1.out.trans (show Grew w1 w1.drew v v from ⟨rfl, rfl, rfl, Nat.le_refl _, fun _ _ _ => rfl, fun _ h => Or.inl h⟩)
    exact h.trans HG3.out
theorem wp_append_grew {w : World} {o : Oper} {a : Act} {K : Act → World → Prop} {Q : Exit → Act → World → Prop} (s x : Operand)
    (ho : o.op = .call { callee := .builtin .append, args := #[s, x], argTypes := #[32, 32] }) (base : Nat) (bs ds : List Nat) (v : Value) (hs : a.eval s = v) (hown : Own w base bs v)
    (D : Addr) (m c : Nat) (hx : a.eval x = .slice (some D) m c) (hm : m = ds.length) (h0 : 0 < ds.length) (B : Nat) (hD : By w B (some D) ds) (hl : bs.length + ds.length ≤ 1000000000) (hbase : base ≤ w.heap.size)
    (h : ∀ v' w', Own w' base (bs ++ ds) v' → Grew w w' v v' → K (a.put o.dst v') w') : o.wp Try.prog a w K Q := by
  obtain ⟨i0, hi, hz0, hz1, hz2⟩ := info_parts Try.info5
  subst hm
  refine wp_append_lies w s x 32 ho base 5 i0 _ 1 1 Try.underlying32 hi hz0 hz1 hz2 rfl (by decide) v bs.length (vals bs) hs hown D ds.length c (vals ds) hx (by rw [vals_length, Nat.mul_one]) (hD.vals D rfl) vals_one h0 (by unfold maxLen; omega) (by omega) hbase w.heap.size rfl ?_
  intro g cap w' hrow hgr hor _
  refine h _ w' ?_ ⟨hgr.os, hgr.tape, hgr.output, hgr.size, fun k hk hv => hgr.block k hk (fun e => hv e.symm), fun k e => ?_⟩
  · unfold Own
    rw [vals_append, List.length_append]
    exact hrow
  · have hk : g = k := by simpa [Value.ownBlock] using e
    subst hk
    rcases hor with hor | hor
    · exact Or.inl hor
    · right; omega
set_option maxHeartbeats 4000000 in
theorem putWrites_dev (l : List (Int × List Nat)) (A : Option Addr) (c : Nat) (bs : List Nat) (v : Value) (base : Nat) (w : World) (P : Nat → Prop) (hw : Wrs w P A l) (hP : ∀ k, P k → v.ownBlock ≠ some k) (hl : LowW l) (ho : Own w base bs v) (hb : base ≤ w.heap.size) (hbl : bs.length ≤ 1000) :
    Calls Try.prog 73 #[v, .slice A l.length c] w fun e w' => ∃ v', e = .returned v' ∧ Own w' base (bs ++ (l.length % 256 :: writesL l)) v' ∧ Grew w w' v v' := by
  have hok : WrOk l := fun x hx => ⟨by have := (hl.2 x hx).1; omega, (hl.2 x hx).2.1⟩
  obtain ⟨n, hn⟩ : ∃ n, n = l.length := ⟨_, rfl⟩
  have hn8 : n ≤ 8 := by have := hl.1; omega
  rw [← hn]
  have HPB := Lib.hid (putByte_dev n bs v base w (by omega) ho hb (by omega))
  have HN := Lib.hid hn
  have HL := Lib.hid hl
  have HOk := Lib.hid hok
  have HBs := Lib.hid (And.intro hb hbl)
  have HC := Lib.hid (show ∀ X u, Grew w X v u → 0 < l.length → ∃ b off, A = some ⟨b, off, none⟩ ∧ b < w.heap.size ∧ v.ownBlock ≠ some b ∧ ∀ i (h : i < l.length) j u, (wrv l[i])[j]? = some u → X.cell? ⟨b, off + i * 9 + j, none⟩ = some u from fun X u hX h0 => by
    obtain ⟨b, off, e, ⟨hp, hlt⟩, hc⟩ := hw h0
    exact ⟨b, off, e, hlt, hP b hp, fun i hi j u hu => (World.cell?_of_block (w := w) (hX.block b hlt (hP b hp))).trans (hc i hi j u hu)⟩)
  clear hn hl hok ho hw hP hb hbl
  go_enter Try.func73, Try.ntmps73
  go_wp2_with fail
  refine (HPB.out).mono ?_
  rintro e w3 ⟨v3, rfl, hv3, hb3⟩
  have HV3 := Lib.hid hv3
  have HG3 := Lib.hid hb3
  clear hv3 hb3
  go_wp2_with fail
  go_loopw [0, 13] (fun b i wr => ∃ k : Nat, k ≤ n ∧ i = .int .i64 (k : Int) ∧ Own wr base (bs ++ (n % 256 :: writesL (l.take k))) b ∧ Grew w wr v b) (fun _ i _ => n - (intOf i).toNat)
  case atStart => exact ⟨0, Nat.zero_le _, rfl, HV3.out, HG3.out⟩
  case round =>
    obtain ⟨k, hk, rfl, hv, hg⟩ := hrel
    by_cases hlt : k < n
    · have hkl : k < l.length := by rw [← HN.out]; exact hlt
      obtain ⟨b, off, rfl, hbw, hbv, hc⟩ := HC.out wr _ hg (by omega)
      have hx := HL.out.2 l[k] (List.getElem_mem hkl)
      obtain ⟨T, hT⟩ : ∃ T, T = bs ++ (n % 256 :: writesL (l.take k)) := ⟨_, rfl⟩
      have hTl : T.length ≤ 2000 := by
        rw [hT]
        have h1 := writesL_le HOk.out k
        have h2 := HBs.out.2
        simp only [List.length_append, List.length_cons]
        have h3 := HN.out
        omega
      have HT := Lib.hid (show T ++ [byteN l[k].1] ++ l[k].2 = bs ++ (n % 256 :: writesL (l.take (k + 1))) by
        rw [hT, writesL_take hkl]
        simp only [List.append_assoc, List.cons_append, List.nil_append])
      rw [← hT] at hv
      have HCx := Lib.hid (show ∀ j u, (wrv l[k])[j]? = some u → wr.cell? ⟨b, off + k * 9 + j, none⟩ = some u from fun j u hu => hc k hkl j u hu)
      have HI := Lib.hid (write_infos hx.2.1)
      have HL9 := Lib.hid (wrv_length hx.2.1)
      have HOa := Lib.hid (show (wrv l[k]).toArray.all (·.oneCell') = true by
        have h : (wrv l[k]).all (·.oneCell') = true := List.all_eq_true.2 fun u hu => by
          rcases List.mem_cons.1 hu with rfl | hu
          · rfl
          · exact vals_one u hu
        simpa using h)
      clear hc hT
      generalize l[k] = x at *
      obtain ⟨q, hq⟩ : ∃ q : Nat, x.1 = (q : Int) := ⟨x.1.toNat, by omega⟩
      obtain ⟨hb2, hg2, hz2⟩ := box_made wr #[.int .i64 0, .int .u8 0, .int .u8 0, .int .u8 0, .int .u8 0, .int .u8 0, .int .u8 0, .int .u8 0, .int .u8 0] (wrv x).toArray 68
      have HZ := Lib.hid (heap_alloc_new wr (.cells #[.int .i64 0, .int .u8 0, .int .u8 0, .int .u8 0, .int .u8 0, .int .u8 0, .int .u8 0, .int .u8 0, .int .u8 0] 68))
      obtain ⟨w2, hw2⟩ : ∃ w2, w2 = (wr.alloc (.cells #[.int .i64 0, .int .u8 0, .int .u8 0, .int .u8 0, .int .u8 0, .int .u8 0, .int .u8 0, .int .u8 0, .int .u8 0] 68)).setRow wr.heap.size (wrv x).toArray := ⟨_, rfl⟩
      rw [← hw2] at hb2 hg2 hz2
      have HW2 := Lib.hid hw2
      have hvb := own_block hv
      have HV2 := Lib.hid (own_drew (hv.keep (w' := w2) fun k hk => hb2.block k (hvb k hk)))
      have hgg := hg.trans (Grew.below hb2 (Nat.le_refl _) _)
      have HG2 := Lib.hid (grew_drew hgg)
      have HSS := Lib.hid (show ∀ W u, Grew w2.drew W u0 u → W.cell? ⟨wr.heap.size, 0, none⟩ = some (.int .i64 (q : Int)) from fun X u hX => by
        have h := (hX.block _ (show wr.heap.size < w2.heap.size by omega) (fun e => by have := hvb _ e; omega)).trans hg2
        rw [cell_of_row X _ 0 _ _ _ h, ← hq]; simp [wrv])
      have HRow := Lib.hid (show ∀ W u, Grew w2.drew W u0 u → W.heap[wr.heap.size]? = some (.cells (wrv x).toArray 68 (0, 0)) from fun X u hX => (hX.block _ (show wr.heap.size < w2.heap.size by omega) (fun e => by have := hvb _ e; omega)).trans hg2)
      have HG0 := Lib.hid (Grew.refl w2.drew u0)
      have HIs := Lib.hid (show (Try.prog.info? 68).map (·.size) = some (wrv x).toArray.size by rw [HI.out]; simp)
      have HSz := Lib.hid (show (#[.int .i64 0, .int .u8 0, .int .u8 0, .int .u8 0, .int .u8 0, .int .u8 0, .int .u8 0, .int .u8 0, .int .u8 0] : Array Value).size = (wrv x).toArray.size by simp [HL9.out])
      have HQ := Lib.hid (show q < 32 ∧ wr.heap.size < w2.drew.heap.size ∧ w.heap.size ≤ wr.heap.size ∧ x.2.length = 8 from ⟨by omega, by show _ < w2.heap.size; omega, hg.size, hx.2.1⟩)
      have HXb := Lib.hid hx.2.2
      have hki : (k : Int) < (n : Int) := by omega
      have hw1 : IntKind.i64.wrap ((k : Int) + 1) = (k : Int) + 1 := by rw [IntKind.wrap_i64]; omega
      have HTq := Lib.hid (show T ++ [q % 256] ++ x.2 = bs ++ (n % 256 :: writesL (l.take (k + 1))) by rw [← HT.out, hq, byteN_cast])
      have HTl := Lib.hid hTl
      clear hw2 hb2 hg2 hz2 hvb hgg hx hq hv hg hTl HT
      go_wp2_with (first
        | (refine wpList_load_part rfl 68 _ rfl b (off + k * 9) rfl (wrv x) _ HCx.out Try.underlying68 rfl HI.out ?_)
        | (refine wpList_store_row rfl 68 _ _ rfl wr.heap.size (wrv x).toArray rfl rfl 68 #[.int .i64 0, .int .u8 0, .int .u8 0, .int .u8 0, .int .u8 0, .int .u8 0, .int .u8 0, .int .u8 0, .int .u8 0] HZ.out HIs.out HSz.out HOa.out ?_; rw [← HW2.out]))
      refine wp_region_held_drew (S := fun W => W.cell? ⟨wr.heap.size, 0, none⟩ = some (.int .i64 (q : Int))) (by kernel_rfl) (HSS.out _ _ HG0.out) (fun hHeld => ?_)
      refine wpAnyH_take (i := 0) (v := ?_) rfl (by kernel_rfl) (by kernel_rfl) (by kernel_rfl) (fun _ _ _ h => h) (Or.inl ⟨by rfl, ?_⟩) (by assumption) ?_
      rotate_left
      · simp only [List.getElem_toArray, List.getElem_cons_zero, List.getElem_cons_succ]; intro W hSw; (try dsimp only at hSw); go_simp; all_goals with_reducible rfl
      simp only [Act.put, List.getElem_toArray, List.getElem_cons_zero, List.getElem_cons_succ, List.setIfInBounds_toArray, List.set_cons_zero, List.set_cons_succ]
      refine wpAnyH_take (i := 1) (v := ?_) rfl (by kernel_rfl) (by kernel_rfl) (by kernel_rfl) (fun _ _ _ h => h) (Or.inl ⟨by rfl, ?_⟩) (by assumption) ?_
      rotate_left
      · simp only [List.getElem_toArray, List.getElem_cons_zero, List.getElem_cons_succ]; intro W hSw; (try dsimp only at hSw); go_simp; all_goals with_reducible rfl
      simp only [Act.put, List.getElem_toArray, List.getElem_cons_zero, List.getElem_cons_succ, List.setIfInBounds_toArray, List.set_cons_zero, List.set_cons_succ]
      refine wpAnyH_take (i := 2) (v := ?_) rfl (by kernel_rfl) (by kernel_rfl) (by kernel_rfl) (fun _ _ _ h => h) (Or.inl ⟨by rfl, ?_⟩) (by assumption) ?_
      rotate_left
      · simp only [List.getElem_toArray, List.getElem_cons_zero, List.getElem_cons_succ]; intro W hSw; (try dsimp only at hSw); go_simp; all_goals with_reducible rfl
      simp only [Act.put, List.getElem_toArray, List.getElem_cons_zero, List.getElem_cons_succ, List.setIfInBounds_toArray, List.set_cons_zero, List.set_cons_succ]
      refine wpAnyH_take (i := 4) (v := ?_) rfl (by kernel_rfl) (by kernel_rfl) (by kernel_rfl) (fun _ _ _ h => h) (Or.inl ⟨by rfl, ?_⟩) (by assumption) ?_
      rotate_left
      · simp only [List.getElem_toArray, List.getElem_cons_zero, List.getElem_cons_succ]; intro W hSw; (try dsimp only at hSw); go_simp; all_goals with_reducible rfl
      simp only [Act.put, List.getElem_toArray, List.getElem_cons_zero, List.getElem_cons_succ, List.setIfInBounds_toArray, List.set_cons_zero, List.set_cons_succ]
      refine wpAnyH_take (i := 5) (v := ?_) rfl (by kernel_rfl) (by kernel_rfl) (by kernel_rfl) (fun _ _ _ h => h) (Or.inl ⟨by rfl, ?_⟩) (by assumption) ?_
      rotate_left
      · simp only [List.getElem_toArray, List.getElem_cons_zero, List.getElem_cons_succ]; intro W hSw; (try dsimp only at hSw); go_simp; all_goals with_reducible rfl
      simp only [Act.put, List.getElem_toArray, List.getElem_cons_zero, List.getElem_cons_succ, List.setIfInBounds_toArray, List.set_cons_zero, List.set_cons_succ]
      refine wpAnyH_ready (rs := [3]) (by kernel_rfl) (by simp) ?_
      refine AllReadyH.cons rfl (fun K hK => ?_) AllReadyH.nil
      simp only [List.getElem_toArray, List.getElem_cons_zero, List.getElem_cons_succ]
      go_simp
      refine (putByte_dev q _ _ base w2.drew (by have := HQ.out; omega) HV2.out (by have := HQ.out; have := HBs.out; omega) (by have := HTl.out; omega)).mono ?_
      rintro e w4 ⟨v4, rfl, ho, hg⟩
      have HO4 := Lib.hid ho
      have HG4 := Lib.hid hg
      clear ho hg
      go_wp2_with fail
      refine hK.out _ _ (HSS.out _ _ HG4.out) (fun hHeldN => ?_)
      clear hK K hHeld
      have hHeld := hHeldN
      clear hHeldN
      (try simp only [Act.put, List.getElem_toArray, List.getElem_cons_zero, List.getElem_cons_succ, List.setIfInBounds_toArray, List.set_cons_zero, List.set_cons_succ])
      refine wpAnyH_ready (rs := [6]) (by kernel_rfl) (by simp) ?_
      refine AllReadyH.cons rfl (fun K hK => ?_) AllReadyH.nil
      simp only [List.getElem_toArray, List.getElem_cons_zero, List.getElem_cons_succ]
      rw [if_pos (by rfl)]
      refine wp_append_grew (.tmp 20) (.tmp 22) rfl base _ x.2 v4 rfl HO4.out ⟨wr.heap.size, 1, none⟩ 8 8 rfl HQ.out.2.2.2.symm (by have := HQ.out; omega) w4.heap.size ?_ (by have := HQ.out; have := HTl.out; simp; omega) (by have := HQ.out; have := HBs.out; have := HG4.out.size; omega) ?_
      · refine ⟨HXb.out, fun _ => ⟨wr.heap.size, 1, rfl, by have := HG4.out.size; have := HQ.out; omega, fun j hj => ?_⟩⟩
        rw [cell_of_row _ _ _ _ _ _ (HRow.out _ _ HG4.out)]
        simp only [List.getElem?_toArray]
        unfold wrv vals
        rw [Nat.add_comm 1 j, List.getElem?_cons_succ, List.getElem?_map, List.getElem?_eq_getElem hj, Option.map_some, getD_at _ _ hj]
      intro v5 w5 ho hg
      have HO5 := Lib.hid ho
      have HG5 := Lib.hid (HG4.out.trans hg)
      clear ho hg
      refine hK.out _ _ (HSS.out _ _ HG5.out) (fun hHeldN => ?_)
      clear hK K hHeld
      have hHeld := hHeldN
      clear hHeldN
      (try simp only [Act.put, List.getElem_toArray, List.getElem_cons_zero, List.getElem_cons_succ, List.setIfInBounds_toArray, List.set_cons_zero, List.set_cons_succ])
      refine wpAnyH_take (i := 7) (v := ?_) rfl (by kernel_rfl) (by kernel_rfl) (by kernel_rfl) (fun _ _ _ h => h) (Or.inl ⟨by rfl, ?_⟩) (by assumption) ?_
      rotate_left
      · simp only [List.getElem_toArray, List.getElem_cons_zero, List.getElem_cons_succ]; intro W hSw; (try dsimp only at hSw); go_simp; all_goals with_reducible rfl
      simp only [Act.put, List.getElem_toArray, List.getElem_cons_zero, List.getElem_cons_succ, List.setIfInBounds_toArray, List.set_cons_zero, List.set_cons_succ]
      refine wpAnyH_done (by kernel_rfl) ?_ _
      go_wp2_with fail
      go_roundw
      case rel => exact ⟨k + 1, by omega, by simp, by rw [← HTq.out]; exact HO5.out, HG2.out.trans HG5.out⟩
      case measure => simp [intOf]; omega
    · obtain rfl : k = n := by omega
      have HV5 := Lib.hid (show Own _ base (bs ++ (k % 256 :: writesL l)) _ by
        rw [List.take_of_length_le (Nat.le_of_eq HN.out.symm)] at hv; exact hv)
      have HG5 := Lib.hid hg
      have hki : ¬ (k : Int) < (k : Int) := by omega
      clear hv hg
      go_wp2
      go_ret
      exact ⟨_, rfl, HV5.out, HG5.out⟩
end Go.Proofs.Ytaokhbodmodcgaa
end

section
/-
  The developers' reader: the next byte, numbers; 0 behind the last byte.
-/
namespace Go.Proofs.Ytaokhbodmodcgaa
open Go.RowKit
set_option maxRecDepth 100000

/-- the byte at i, 0 behind the last -/
def bt (bs : List Nat) (i : Nat) : Nat := bs.getD i 0
/-- The reader at p has the bytes r before it. -/
structure Nr (w : World) (B p : Nat) (r : List Nat) : Prop where
  box : ∃ A c, w.heap[p]? = some (.cells #[.slice A r.length c] 88 (0, 0)) ∧ By w B A r ∧ r.length ≤ c ∧ c ≤ maxLen
  le : B ≤ p
section
variable {w w' : World} {B p : Nat} {r : List Nat}
theorem Nr.lt (h : Nr w B p r) : p < w.heap.size := by obtain ⟨A, c, h1, _⟩ := h.box; exact (Array.getElem?_eq_some_iff.1 h1).1
theorem Nr.below (h : Nr w B p r) {N : Nat} (hb : Below N w w') (hN : p < N) : Nr w' B p r := by
  obtain ⟨A, c, h1, h2, h3, h4⟩ := h.box
  exact ⟨⟨A, c, (hb.block p hN).trans h1, h2.below hb (by have := h.le; omega), h3, h4⟩, h.le⟩
theorem Nr.kept {S : Nat → Prop} (h : Nr w B p r) (hk : Kept7 S w w') (hB : B ≤ w.heap.size) (hS : ∀ b, b < B → ¬ S b) (hp : ¬ S p) : Nr w' B p r := by
  obtain ⟨A, c, h1, h2, h3, h4⟩ := h.box
  exact ⟨⟨A, c, (hk.block p h.lt hp).trans h1, h2.keep fun q hq => hk.cell (by omega) (hS _ hq), h3, h4⟩, h.le⟩
end
/-- what is told of the reader at p: it stood at a of the bytes, now at a' -/
def Nxt {α : Type} (v : α → Value) (x : α) (w : World) (B p : Nat) (bs : List Nat) (a' : Nat) (e : Ending) (w' : World) : Prop :=
  e = .returned (v x) ∧ Nr w' B p (bs.drop a') ∧ Kept7 (· = p) w w'
theorem bt_lt {bs : List Nat} (h : ∀ x ∈ bs, x < 256) (i : Nat) : bt bs i < 256 := by
  unfold bt
  rcases Nat.lt_or_ge i bs.length with hi | hi
  · rw [getD_at _ _ hi]; exact h _ (List.getElem_mem hi)
  · rw [List.getD_eq_getElem?_getD, List.getElem?_eq_none hi]; simp
set_option maxHeartbeats 2000000 in
theorem next_dev (w : World) (B p : Nat) (bs : List Nat) (a : Nat) (h : Nr w B p (bs.drop a)) :
    Calls Try.prog 51 #[.pointer (some ⟨p, 0, none⟩)] w (Nxt (Value.int .u8) ((bt bs a : Nat) : Int) w B p bs (a + 1)) := by
  have hlt := h.lt
  have hle := h.le
  obtain ⟨A, c, h1, h2, h3, h4⟩ := h.box
  have c0 : w.cell? ⟨p, 0, none⟩ = some (.slice A (bs.drop a).length c) := by rw [cell_of_row w p 0 _ _ _ h1]; rfl
  have f0 := frozen_of_row w p 0 _ _ h1
  rcases Nat.lt_or_ge a bs.length with hl | hl
  · obtain ⟨q, hq⟩ : ∃ q, q = bs.drop (a + 1) := ⟨_, rfl⟩
    have e1 := List.drop_eq_getElem_cons hl
    rw [← hq] at e1
    have hbt : bt bs a = bs[a] := by unfold bt; rw [getD_at _ _ hl]
    obtain ⟨b, off, rfl, hbB, hc⟩ := h2.at_ (by rw [e1]; simp)
    have hx := hc 0 (by rw [e1]; simp)
    rw [e1] at h1 h2 h3 c0 hx
    rw [Nat.add_zero, show (bs[a] :: q).getD 0 0 = bs[a] from rfl] at hx
    have hdrop := h2.drop 1 h3
    rw [show (bs[a] :: q).drop 1 = q from rfl] at hdrop
    rw [← hbt] at hx
    rw [List.length_cons] at h1 c0 h3
    have HF : ∃ A', A' = (if c = 1 then some ⟨b, off, none⟩ else (some ⟨b, off, none⟩ : Option Addr).map (·.add 1)) := ⟨_, rfl⟩
    obtain ⟨A', hA'⟩ := HF
    rw [← hA'] at hdrop
    unfold Nxt
    rw [← hq]
    generalize bt bs a = x at *
    obtain ⟨w2, hw2⟩ : ∃ w2, w2 = w.setCell ⟨p, 0, none⟩ (.slice A' q.length (c - 1)) := ⟨_, rfl⟩
    have hg2 : w2.heap[p]? = some (.cells #[.slice A' q.length (c - 1)] 88 (0, 0)) := by rw [hw2, heap_setCell_same w p 0 _ _ _ h1]; rfl
    have hk2 : Kept7 (· = p) w w2 := by rw [hw2]; exact (Kept7.refl _ w).set_ (p := p) (j := 0) _ (fun _ => rfl)
    have HN := Lib.hid (show Nr w2 B p q from ⟨⟨A', c - 1, hg2, hdrop.keep fun z hz => hk2.cell (by omega) (by omega), by omega, by omega⟩, hle⟩)
    have HK := Lib.hid hk2
    have HW2 := Lib.hid hw2
    obtain ⟨n, hn⟩ : ∃ n, n = q.length := ⟨_, rfl⟩
    rw [← hn] at c0 h3 hw2 HW2
    have HA := Lib.hid hA'
    unfold maxLen at h4
    clear h1 h2 hc e1 hbt hdrop hA' hg2 hk2 hw2 hn hq h hl hlt hle
    go_enter Try.func51, Try.ntmps51
    go_wp2
    · go_ret
      have hw := HW2.out
      rw [HA.out, if_pos h, h] at hw
      rw [hw] at HN HK
      exact ⟨rfl, HN.out, HK.out⟩
    · go_ret
      have hw := HW2.out
      rw [HA.out, if_neg h, Option.map_some, add_flat] at hw
      rw [hw] at HN HK
      exact ⟨rfl, HN.out, HK.out⟩
  · have e1 : bs.drop a = [] := List.drop_eq_nil_of_le hl
    have e2 : bs.drop (a + 1) = [] := List.drop_eq_nil_of_le (by omega)
    have hbt : bt bs a = 0 := by unfold bt; rw [List.getD_eq_getElem?_getD, List.getElem?_eq_none hl]; rfl
    rw [e1] at h c0
    unfold Nxt
    rw [e2, hbt]
    have HN := Lib.hid h
    clear h h1 h2 h3 h4 e1 e2 hbt hl hlt hle f0
    rw [List.length_nil] at c0
    go_enter Try.func51, Try.ntmps51
    go_wp2
    go_ret
    exact ⟨rfl, HN.out, Kept7.refl _ _⟩
/-- the number of k bytes at a, the lowest first -/
def gz (bs : List Nat) (a : Nat) : Nat → Nat
  | 0 => 0
  | k + 1 => gz bs a k + bt bs (a + k) * 256 ^ k
theorem gz_lt {bs : List Nat} (h : ∀ x ∈ bs, x < 256) (a k : Nat) : gz bs a k < 256 ^ k := by
  induction k with
  | zero => simp [gz]
  | succ k ih =>
    have := bt_lt h (a + k)
    rw [gz, Nat.pow_succ]
    have h2 : bt bs (a + k) * 256 ^ k ≤ 255 * 256 ^ k := Nat.mul_le_mul_right _ (by omega)
    omega
theorem or_at (m x k : Nat) (h : m < 256 ^ k) : m ||| x * 256 ^ k = m + x * 256 ^ k := by
  have e : x * 256 ^ k = x <<< (8 * k) := by rw [Nat.shiftLeft_eq, Nat.pow_mul]
  have h2 : m < 2 ^ (8 * k) := by rw [Nat.pow_mul]; exact h
  rw [e, Nat.or_comm, ← Nat.shiftLeft_add_eq_or_of_lt h2, Nat.add_comm]
set_option maxHeartbeats 4000000 in
theorem get_dev (w : World) (B p n : Nat) (bs : List Nat) (a : Nat) (h : Nr w B p (bs.drop a)) (hb : ∀ x ∈ bs, x < 256) (hn : n ≤ 3) :
    Calls Try.prog 104 #[.func (.func 51) #[.pointer (some ⟨p, 0, none⟩)] #[], .int .i64 (n : Int)] w (Nxt (Value.int .i64) ((gz bs a n : Nat) : Int) w B p bs (a + n)) := by
  have HB := Lib.hid (fun W k (h : Nr W B p (bs.drop k)) => next_dev W B p bs k h)
  have HR := Lib.hid h
  have HBt := Lib.hid hb
  clear h hb
  unfold Nxt
  go_enter Try.func104, Try.ntmps104
  go_wp2
  go_loopw [5, 8] (fun v i wr => ∃ k : Nat, k ≤ n ∧ i = .int .i64 (k : Int) ∧ v = .int .i64 ((gz bs a k : Nat) : Int) ∧ Nr wr B p (bs.drop (a + k)) ∧ Kept7 (· = p) w wr) (fun _ i _ => n - (intOf i).toNat)
  case atStart => exact ⟨0, Nat.zero_le _, rfl, rfl, HR.out, Kept7.refl _ _⟩
  case round =>
    obtain ⟨k, hk, rfl, rfl, hr, hkp⟩ := hrel
    by_cases hlt : k < n
    · have hki : (k : Int) < (n : Int) := by omega
      have hw1 : IntKind.i64.wrap ((k : Int) + 1) = (k : Int) + 1 := by rw [IntKind.wrap_i64]; omega
      have HR1 := Lib.hid hr
      have HK1 := Lib.hid hkp
      obtain ⟨m, hm⟩ : ∃ m, m = gz bs a k := ⟨_, rfl⟩
      rw [← hm]
      clear hr hkp
      have HM := Lib.hid hm
      have hx256 := bt_lt HBt.out (a + k)
      obtain ⟨x, hx⟩ : ∃ x, x = bt bs (a + k) := ⟨_, rfl⟩
      have HX := Lib.hid hx
      rw [← hx] at hx256
      have hm256 := gz_lt HBt.out a k
      rw [← hm] at hm256
      have ho := or_at m x k hm256
      have hbig : x * 256 ^ k < 16777216 := by
        have h1 : 256 ^ k ≤ 256 ^ 2 := Nat.pow_le_pow_right (by omega) (by omega)
        have h2 : x * 256 ^ k ≤ 255 * 256 ^ k := Nat.mul_le_mul_right _ (by omega)
        omega
      have hm16 : m < 16777216 := Nat.lt_of_lt_of_le hm256 (Nat.le_trans (Nat.pow_le_pow_right (by omega) (show k ≤ 2 by omega)) (by omega))
      have HG : RowKit.Hid (gz bs a (k + 1) = m + x * 256 ^ k) := Lib.hid (by rw [gz, ← hm, ← hx])
      have hpe : (x : Int) * 2 ^ (8 * k) = ((x * 256 ^ k : Nat) : Int) := by rw [Int.pow_mul]; push_cast; rfl
      obtain ⟨y, hy⟩ : ∃ y, y = x * 256 ^ k := ⟨_, rfl⟩
      rw [← hy] at ho hbig hpe HG
      have hor := i64_or_nat m y (by omega) (by omega)
      rw [ho] at hor
      have hwy : IntKind.i64.wrap (y : Int) = (y : Int) := by rw [IntKind.wrap_i64]; omega
      clear hm hx hm256 ho hy
      go_wp2_with fail
      refine (HB.out _ _ HR1.out).mono ?_
      rintro e w2 ⟨rfl, hr, hk2⟩
      rw [← HX.out]
      have HR2 := Lib.hid hr
      have HK2 := Lib.hid (HK1.out.trans hk2)
      clear hr hk2
      go_wp2_with fail
      go_roundw
      case rel => exact ⟨k + 1, by omega, by simp, by rw [HG.out]; simp, HR2.out, HK2.out⟩
      case measure => simp [intOf]; omega
    · obtain rfl : k = n := by omega
      have hki : ¬ (k : Int) < (k : Int) := by omega
      go_wp2
      go_ret
      exact ⟨rfl, hr, hkp⟩
theorem wrap8 (z : Int) : IntKind.i8.wrap (IntKind.i8.wrap z) = IntKind.i8.wrap z := by
  simp only [IntKind.wrap, IntKind.bits, IntKind.signed]
  simp
  omega
theorem or8 (z : Int) : bits .or .i8 0 (IntKind.i8.wrap z) = IntKind.i8.wrap z := by
  show IntKind.i8.wrap ((0#8 ||| BitVec.ofInt 8 (IntKind.i8.wrap z)).toNat : Nat) = _
  rw [BitVec.zero_or, BitVec.toNat_ofInt]
  simp only [IntKind.wrap, IntKind.bits, IntKind.signed]
  simp
  omega
set_option maxHeartbeats 4000000 in
theorem get8_dev (w : World) (B p : Nat) (bs : List Nat) (a : Nat) (h : Nr w B p (bs.drop a)) (hb : ∀ x ∈ bs, x < 256) :
    Calls Try.prog 52 #[.func (.func 51) #[.pointer (some ⟨p, 0, none⟩)] #[], .int .i64 1] w (Nxt (Value.int .i8) (IntKind.i8.wrap ((bt bs a : Nat) : Int)) w B p bs (a + 1)) := by
  have HB := Lib.hid (fun W k (h : Nr W B p (bs.drop k)) => next_dev W B p bs k h)
  have HR := Lib.hid h
  have HBt := Lib.hid hb
  clear h hb
  unfold Nxt
  go_enter Try.func52, Try.ntmps52
  go_wp2
  go_loopw [5, 8] (fun v i wr => (i = .int .i64 0 ∧ v = .int .i8 0 ∧ Nr wr B p (bs.drop a) ∧ Kept7 (· = p) w wr) ∨ (i = .int .i64 1 ∧ v = .int .i8 (IntKind.i8.wrap ((bt bs a : Nat) : Int)) ∧ Nr wr B p (bs.drop (a + 1)) ∧ Kept7 (· = p) w wr)) (fun _ i _ => 1 - (intOf i).toNat)
  case atStart => exact Or.inl ⟨rfl, rfl, HR.out, Kept7.refl _ _⟩
  case round =>
    rcases hrel with ⟨rfl, rfl, hr, hkp⟩ | ⟨rfl, rfl, hr, hkp⟩
    · have HR1 := Lib.hid hr
      have HK1 := Lib.hid hkp
      have hx256 := bt_lt HBt.out a
      clear hr hkp
      obtain ⟨x, hx⟩ : ∃ x, x = bt bs a := ⟨_, rfl⟩
      have HX := Lib.hid hx
      rw [← hx] at hx256
      rw [← hx]
      have hor := or8
      clear hx
      go_wp2_with fail
      refine (HB.out _ _ HR1.out).mono ?_
      rintro e w2 ⟨rfl, hr, hk2⟩
      rw [← HX.out]
      have HR2 := Lib.hid hr
      have HK2 := Lib.hid (HK1.out.trans hk2)
      clear hr hk2
      go_wp2_with fail
      go_roundw
      case rel => exact Or.inr ⟨rfl, by rw [wrap8], HR2.out, HK2.out⟩
      case measure => simp [intOf]
    · go_wp2
      go_ret
      exact ⟨rfl, hr, hkp⟩
theorem gz_one (bs : List Nat) (a : Nat) : gz bs a 1 = bt bs a := by simp [gz]
theorem getByte_dev (w : World) (B p : Nat) (bs : List Nat) (a : Nat) (h : Nr w B p (bs.drop a)) (hb : ∀ x ∈ bs, x < 256) :
    Calls Try.prog 78 #[.func (.func 51) #[.pointer (some ⟨p, 0, none⟩)] #[]] w (Nxt (Value.int .i64) ((bt bs a : Nat) : Int) w B p bs (a + 1)) := by
  have HG := Lib.hid (get_dev w B p 1 bs a h hb (by omega))
  rw [gz_one] at HG
  clear h hb
  unfold Nxt
  go_enter Try.func78, Try.ntmps78
  go_wp2_with fail
  refine (HG.out).mono ?_
  rintro e w1 ⟨rfl, hr, hk⟩
  have HR1 := Lib.hid hr
  have HK1 := Lib.hid hk
  clear hr hk
  go_wp2
  go_ret
  exact ⟨rfl, HR1.out, HK1.out⟩
theorem getWide_dev (w : World) (B p : Nat) (bs : List Nat) (a : Nat) (h : Nr w B p (bs.drop a)) (hb : ∀ x ∈ bs, x < 256) :
    Calls Try.prog 91 #[.func (.func 51) #[.pointer (some ⟨p, 0, none⟩)] #[]] w (Nxt (Value.int .i64) ((gz bs a 3 : Nat) : Int) w B p bs (a + 3)) := by
  have HG := Lib.hid (get_dev w B p 3 bs a h hb (by omega))
  clear h hb
  unfold Nxt
  generalize gz bs a 3 = x at *
  go_enter Try.func91, Try.ntmps91
  go_wp2_with fail
  refine (HG.out).mono ?_
  rintro e w1 ⟨rfl, hr, hk⟩
  have HR1 := Lib.hid hr
  have HK1 := Lib.hid hk
  clear hr hk
  go_wp2
  go_ret
  exact ⟨rfl, HR1.out, HK1.out⟩
theorem getFlag_dev (w : World) (B p : Nat) (bs : List Nat) (a : Nat) (h : Nr w B p (bs.drop a)) (hb : ∀ x ∈ bs, x < 256) :
    Calls Try.prog 83 #[.func (.func 51) #[.pointer (some ⟨p, 0, none⟩)] #[]] w (Nxt Value.bool (decide (bt bs a ≠ 0)) w B p bs (a + 1)) := by
  have HG := Lib.hid (getByte_dev w B p bs a h hb)
  clear h hb
  unfold Nxt
  generalize bt bs a = x at *
  go_enter Try.func83, Try.ntmps83
  go_wp2_with fail
  refine (HG.out).mono ?_
  rintro e w1 ⟨rfl, hr, hk⟩
  have HR1 := Lib.hid hr
  have HK1 := Lib.hid hk
  clear hr hk
  by_cases hx : x = 0
  · have hq : ((x : Int) != 0) = false := by simp [hx]
    have HD := Lib.hid (show decide (x ≠ 0) = false from decide_eq_false (fun h => h hx))
    clear hx
    go_wp2
    go_ret
    exact ⟨by rw [HD.out]; rfl, HR1.out, HK1.out⟩
  · have hq : ((x : Int) != 0) = true := by simp [hx]
    have HD := Lib.hid (show decide (x ≠ 0) = true from decide_eq_true hx)
    clear hx
    go_wp2
    go_ret
    exact ⟨by rw [HD.out]; rfl, HR1.out, HK1.out⟩
end Go.Proofs.Ytaokhbodmodcgaa
end

section
/-
  The developers' reader: names, changes, writes.
-/
namespace Go.Proofs.Ytaokhbodmodcgaa
open Go.RowKit
set_option maxRecDepth 100000

theorem Nxt.below {α : Type} {v : α → Value} {x : α} {w w0 w' : World} {B p a' : Nat} {bs : List Nat} {e : Ending} (h : Nxt v x w0 B p bs a' e w') (hb : Below w.heap.size w w0) : Nxt v x w B p bs a' e w' :=
  ⟨h.1, h.2.1, (Kept7.of_below hb (Nat.le_refl _)).trans h.2.2⟩
def nmOf (bs : List Nat) (a : Nat) : Nm := ⟨((gz bs a 3 : Nat) : Int), ((gz bs (a + 3) 3 : Nat) : Int), ((gz bs (a + 3 + 3) 3 : Nat) : Int)⟩
/-- two boxes made one behind the other, of which calls that keep them leave both -/
theorem two_boxes (w : World) (Z : Array Value) (T : TypeId) : Below w.heap.size w ((w.alloc (.cells Z T)).alloc (.cells Z T)) ∧ ((w.alloc (.cells Z T)).alloc (.cells Z T)).heap.size = w.heap.size + 2 ∧ ((w.alloc (.cells Z T)).alloc (.cells Z T)).heap[w.heap.size]? = some (.cells Z T (0, 0)) ∧ ((w.alloc (.cells Z T)).alloc (.cells Z T)).heap[w.heap.size + 1]? = some (.cells Z T (0, 0)) :=
  ⟨((Below.refl w.heap.size w).alloc (Nat.le_refl _) _).alloc (by simp) _, by simp, heap_alloc2_old w _ _, heap_alloc2_new w _ _⟩
/-- where a function stands that reads into a box: its result's box, its own, the reader -/
def StN (w : World) (B p : Nat) (T : TypeId) (Z row : Array Value) (bs : List Nat) (k : Nat) (W : World) : Prop :=
  Nr W B p (bs.drop k) ∧ W.heap[w.heap.size]? = some (.cells Z T (0, 0)) ∧ W.heap[w.heap.size + 1]? = some (.cells row T (0, 0)) ∧ Kept7 (· = p) w W ∧ p < w.heap.size
section
variable {w W W' : World} {B p k k' : Nat} {T : TypeId} {Z row : Array Value} {bs : List Nat}
theorem StN.start (h : Nr w B p (bs.drop k)) : StN w B p T Z Z bs k ((w.alloc (.cells Z T)).alloc (.cells Z T)) := by
  obtain ⟨hb0, _, g0, g1⟩ := two_boxes w Z T
  exact ⟨h.below hb0 h.lt, g0, g1, Kept7.of_below hb0 (Nat.le_refl _), h.lt⟩
theorem StN.call (h : StN w B p T Z row bs k W) (hr : Nr W' B p (bs.drop k')) (hk : Kept7 (· = p) W W') : StN w B p T Z row bs k' W' := by
  obtain ⟨_, h1, h2, h3, h4⟩ := h
  exact ⟨hr, (hk.block _ (Array.getElem?_eq_some_iff.1 h1).1 (by omega)).trans h1, (hk.block _ (Array.getElem?_eq_some_iff.1 h2).1 (by omega)).trans h2, h3.trans hk, h4⟩
theorem StN.set (h : StN w B p T Z row bs k W) (j : Nat) (v : Value) : StN w B p T Z (row.setIfInBounds j v) bs k (W.setCell ⟨w.heap.size + 1, j, none⟩ v) := by
  obtain ⟨h0, h1, h2, h3, h4⟩ := h
  have hb : Below (w.heap.size + 1) W (W.setCell ⟨w.heap.size + 1, j, none⟩ v) := (Below.refl _ W).setCell (show w.heap.size + 1 ≤ w.heap.size + 1 from Nat.le_refl _) _
  exact ⟨h0.below hb (by omega), (hb.block _ (by omega)).trans h1, heap_setCell_same W _ j _ _ v h2, h3.set_ v (fun hh => by omega), h4⟩
theorem StN.cell (h : StN w B p T Z row bs k W) (j : Nat) {v : Value} (hv : row[j]? = some v) : W.cell? ⟨w.heap.size + 1, j, none⟩ = some v := by rw [cell_of_row W _ j _ _ _ h.2.2.1]; exact hv
theorem StN.free (h : StN w B p T Z row bs k W) (j : Nat) : W.frozen? ⟨w.heap.size + 1, j, none⟩ = false := frozen_of_row W _ j _ _ h.2.2.1
/-- the result's box filled -/
theorem StN.out (h : StN w B p T Z row bs k W) (R : Array Value) : Nr (W.setRow w.heap.size R) B p (bs.drop k) ∧ (W.setRow w.heap.size R).heap[w.heap.size]? = some (.cells R T (0, 0)) ∧ Kept7 (· = p) w (W.setRow w.heap.size R) := by
  obtain ⟨h0, h1, h2, h3, h4⟩ := h
  have hb := below_setRow (Below.refl w.heap.size W) (Nat.le_refl _) R
  exact ⟨h0.below hb h4, setRow_heap _ _ _ _ _ _ h1, ⟨hb.os.trans h3.os, hb.tape.trans h3.tape, hb.output.trans h3.output, Nat.le_trans h3.size hb.size, fun k h1 h2 => (hb.block k h1).trans (h3.block k h1 h2)⟩⟩
end
set_option maxHeartbeats 4000000 in
theorem getName_dev (w : World) (B p : Nat) (bs : List Nat) (a : Nat) (h : Nr w B p (bs.drop a)) (hb : ∀ x ∈ bs, x < 256) :
    Calls Try.prog 71 #[.func (.func 51) #[.pointer (some ⟨p, 0, none⟩)] #[]] w (Nxt (fun n => .agg (nmv n).toArray) (nmOf bs a) w B p bs (a + 9)) := by
  obtain ⟨w0, hw0⟩ : ∃ w0, w0 = (w.alloc (.cells #[.int .i64 0, .int .i64 0, .int .i64 0] 24)).alloc (.cells #[.int .i64 0, .int .i64 0, .int .i64 0] 24) := ⟨_, rfl⟩
  have HG := Lib.hid (fun W k (h : Nr W B p (bs.drop k)) => getWide_dev W B p bs k h hb)
  have S0 := Lib.hid (StN.start (T := 24) (Z := #[.int .i64 0, .int .i64 0, .int .i64 0]) h)
  rw [← hw0] at S0
  have HW0 := Lib.hid hw0
  unfold Nxt nmOf nmv
  simp only
  clear h hb hw0
  go_enter Try.func71, Try.ntmps71
  go_wp2_with (rw [← HW0.out])
  refine (HG.out _ _ S0.out.1).mono ?_
  rintro e w1 ⟨rfl, hr, hk⟩
  have S1 := Lib.hid (S0.out.call hr hk)
  clear hr hk
  obtain ⟨x, hx⟩ : ∃ x, x = gz bs a 3 := ⟨_, rfl⟩
  rw [← hx]
  have HX := Lib.hid hx
  clear hx
  have c1 := S1.out.cell 0 (v := .int .i64 0) rfl
  have f1 := S1.out.free 0
  have T1 := Lib.hid (S1.out.set 0 (.int .i64 (x : Int)))
  go_wp2_with fail
  refine (HG.out _ _ T1.out.1).mono ?_
  rintro e w2 ⟨rfl, hr, hk⟩
  have S2 := Lib.hid (T1.out.call hr hk)
  clear hr hk
  obtain ⟨y, hy⟩ : ∃ y, y = gz bs (a + 3) 3 := ⟨_, rfl⟩
  rw [← hy]
  have HY := Lib.hid hy
  clear hy
  have c2 := S2.out.cell 1 (v := .int .i64 0) rfl
  have f2 := S2.out.free 1
  have T2 := Lib.hid (S2.out.set 1 (.int .i64 (y : Int)))
  clear c1 f1
  go_wp2_with fail
  refine (HG.out _ _ T2.out.1).mono ?_
  rintro e w3 ⟨rfl, hr, hk⟩
  have S3 := Lib.hid (T2.out.call hr hk)
  clear hr hk
  obtain ⟨z, hz⟩ : ∃ z, z = gz bs (a + 3 + 3) 3 := ⟨_, rfl⟩
  rw [← hz]
  have HZ := Lib.hid hz
  clear hz
  have c3 := S3.out.cell 2 (v := .int .i64 0) rfl
  have f3 := S3.out.free 2
  have T3 := Lib.hid (S3.out.set 2 (.int .i64 (z : Int)))
  obtain ⟨w4, hw4⟩ : ∃ w4, w4 = w3.setCell ⟨w.heap.size + 1, 2, none⟩ (.int .i64 (z : Int)) := ⟨_, rfl⟩
  rw [← hw4] at T3
  have HW4 := Lib.hid hw4
  have L1 := Lib.hid (show w4.heap[w.heap.size + 1]? = some (.cells #[.int .i64 (x : Int), .int .i64 (y : Int), .int .i64 (z : Int)] 24 (0, 0)) from T3.out.2.2.1)
  have L0 := Lib.hid T3.out.2.1
  clear c2 f2 hw4
  have HI := Lib.hid (show (Try.prog.info? 24).map (·.size) = some (#[.int .i64 (x : Int), .int .i64 (y : Int), .int .i64 (z : Int)] : Array Value).size from sizeN)
  have HS := Lib.hid (show (#[.int .i64 0, .int .i64 0, .int .i64 0] : Array Value).size = (#[.int .i64 (x : Int), .int .i64 (y : Int), .int .i64 (z : Int)] : Array Value).size from rfl)
  have H1 := Lib.hid (show (#[.int .i64 (x : Int), .int .i64 (y : Int), .int .i64 (z : Int)] : Array Value).all (·.oneCell') = true from by simp [Value.oneCell'])
  go_wp2_with (first
    | (refine wpList_load_row rfl 24 _ rfl (w.heap.size + 1) rfl 24 #[.int .i64 (x : Int), .int .i64 (y : Int), .int .i64 (z : Int)] (0, 0) _ (by rw [← HW4.out]; exact L1.out) Try.underlying24 rfl HI.out ?_)
    | (rw [← HW4.out]; refine wpList_store_row rfl 24 _ _ rfl w.heap.size #[.int .i64 (x : Int), .int .i64 (y : Int), .int .i64 (z : Int)] rfl rfl 24 #[.int .i64 0, .int .i64 0, .int .i64 0] L0.out HI.out HS.out H1.out ?_))
  obtain ⟨h1, h2, h3⟩ := T3.out.out #[.int .i64 (x : Int), .int .i64 (y : Int), .int .i64 (z : Int)]
  rw [← HX.out, ← HY.out, ← HZ.out]
  exact bodyPost_ret (results_cell_one (t := 24) (p := 2) rfl _ _ w.heap.size _ (0, 0) _ rfl h2 Try.underlying24 rfl HI.out) rfl ⟨rfl, h1, h3⟩
theorem sizeC : (Try.prog.info? 27).map (·.size) = some 2 := by kernel_rfl
set_option maxHeartbeats 4000000 in
theorem getChange_dev (w : World) (B p : Nat) (bs : List Nat) (a : Nat) (h : Nr w B p (bs.drop a)) (hb : ∀ x ∈ bs, x < 256) :
    Calls Try.prog 88 #[.func (.func 51) #[.pointer (some ⟨p, 0, none⟩)] #[]] w (Nxt (fun n : Int × Int => .agg #[.int .i64 n.1, .int .i64 n.2]) (((bt bs a : Nat) : Int) - 1, ((bt bs (a + 1) : Nat) : Int)) w B p bs (a + 2)) := by
  obtain ⟨w0, hw0⟩ : ∃ w0, w0 = (w.alloc (.cells #[.int .i64 0, .int .i64 0] 27)).alloc (.cells #[.int .i64 0, .int .i64 0] 27) := ⟨_, rfl⟩
  have HG := Lib.hid (fun W k (h : Nr W B p (bs.drop k)) => getByte_dev W B p bs k h hb)
  have S0 := Lib.hid (StN.start (T := 27) (Z := #[.int .i64 0, .int .i64 0]) h)
  rw [← hw0] at S0
  have HW0 := Lib.hid hw0
  have hx256 := bt_lt hb a
  unfold Nxt
  simp only
  clear h hb hw0
  go_enter Try.func88, Try.ntmps88
  go_wp2_with (rw [← HW0.out])
  refine (HG.out _ _ S0.out.1).mono ?_
  rintro e w1 ⟨rfl, hr, hk⟩
  have S1 := Lib.hid (S0.out.call hr hk)
  clear hr hk
  obtain ⟨q, hq⟩ : ∃ q, q = bt bs a := ⟨_, rfl⟩
  rw [← hq]
  have HQ := Lib.hid hq
  rw [← hq] at hx256
  clear hq
  obtain ⟨x, hx⟩ : ∃ x : Int, x = (q : Int) - 1 := ⟨_, rfl⟩
  have hwx : IntKind.i64.wrap ((q : Int) - 1) = x := by rw [hx, IntKind.wrap_i64]; omega
  have HX := Lib.hid hx
  have c1 := S1.out.cell 0 (v := .int .i64 0) rfl
  have f1 := S1.out.free 0
  have T1 := Lib.hid (S1.out.set 0 (.int .i64 x))
  clear hx
  go_wp2_with fail
  refine (HG.out _ _ T1.out.1).mono ?_
  rintro e w2 ⟨rfl, hr, hk⟩
  have S2 := Lib.hid (T1.out.call hr hk)
  clear hr hk
  obtain ⟨y, hy⟩ : ∃ y, y = bt bs (a + 1) := ⟨_, rfl⟩
  rw [← hy]
  have HY := Lib.hid hy
  clear hy
  have c2 := S2.out.cell 1 (v := .int .i64 0) rfl
  have f2 := S2.out.free 1
  have T2 := Lib.hid (S2.out.set 1 (.int .i64 (y : Int)))
  obtain ⟨w4, hw4⟩ : ∃ w4, w4 = w2.setCell ⟨w.heap.size + 1, 1, none⟩ (.int .i64 (y : Int)) := ⟨_, rfl⟩
  rw [← hw4] at T2
  have HW4 := Lib.hid hw4
  have L1 := Lib.hid (show w4.heap[w.heap.size + 1]? = some (.cells #[.int .i64 x, .int .i64 (y : Int)] 27 (0, 0)) from T2.out.2.2.1)
  have L0 := Lib.hid T2.out.2.1
  clear c1 f1 hw4
  have HI := Lib.hid (show (Try.prog.info? 27).map (·.size) = some (#[.int .i64 x, .int .i64 (y : Int)] : Array Value).size from sizeC)
  have HS := Lib.hid (show (#[.int .i64 0, .int .i64 0] : Array Value).size = (#[.int .i64 x, .int .i64 (y : Int)] : Array Value).size from rfl)
  have H1 := Lib.hid (show (#[.int .i64 x, .int .i64 (y : Int)] : Array Value).all (·.oneCell') = true from by simp [Value.oneCell'])
  go_wp2_with (first
    | (refine wpList_load_row rfl 27 _ rfl (w.heap.size + 1) rfl 27 #[.int .i64 x, .int .i64 (y : Int)] (0, 0) _ (by rw [← HW4.out]; exact L1.out) Try.underlying27 rfl HI.out ?_)
    | (rw [← HW4.out]; refine wpList_store_row rfl 27 _ _ rfl w.heap.size #[.int .i64 x, .int .i64 (y : Int)] rfl rfl 27 #[.int .i64 0, .int .i64 0] L0.out HI.out HS.out H1.out ?_))
  obtain ⟨h1, h2, h3⟩ := T2.out.out #[.int .i64 x, .int .i64 (y : Int)]
  rw [← HQ.out, ← HX.out, ← HY.out]
  exact bodyPost_ret (results_cell_one (t := 27) (p := 2) rfl _ _ w.heap.size _ (0, 0) _ rfl h2 Try.underlying27 rfl HI.out) rfl ⟨rfl, h1, h3⟩

def wOf (bs : List Nat) (a i : Nat) : Int × List Nat := (((bt bs (a + 1 + 9 * i) : Nat) : Int), (List.range 8).map fun j => bt bs (a + 1 + 9 * i + 1 + j))
def wsOf (bs : List Nat) (a k : Nat) : List (Int × List Nat) := (List.range k).map (wOf bs a)
theorem wsOf_succ (bs : List Nat) (a k : Nat) : wsOf bs a (k + 1) = wsOf bs a k ++ [wOf bs a k] := by unfold wsOf; rw [List.range_succ, List.map_append]; rfl
theorem wsOf_length (bs : List Nat) (a k : Nat) : (wsOf bs a k).length = k := by unfold wsOf; simp
theorem wsOf_fin {bs : List Nat} (h : ∀ x ∈ bs, x < 256) (a k : Nat) : FinW (wsOf bs a k) := by
  intro x hx
  unfold wsOf at hx
  obtain ⟨i, _, rfl⟩ := List.mem_map.1 hx
  refine ⟨?_, by simp [wOf], ?_⟩
  · have := bt_lt h (a + 1 + 9 * i)
    simp only [wOf]; omega
  · intro y hy
    simp only [wOf] at hy
    obtain ⟨j, _, rfl⟩ := List.mem_map.1 hy
    exact bt_lt h _
/-- a write's row that is being filled -/
def fill9 (q : Nat) (vs : List Nat) : Array Value := (.int .i64 (q : Int) :: vals (vs ++ List.replicate (8 - vs.length) 0)).toArray
theorem fill9_size (q : Nat) {vs : List Nat} (h : vs.length ≤ 8) : (fill9 q vs).size = 9 := by unfold fill9; simp [vals_length]; omega
theorem fill9_set (q : Nat) {vs : List Nat} (h : vs.length < 8) (x : Nat) : (fill9 q vs).setIfInBounds (1 + vs.length) (.int .u8 (x : Int)) = fill9 q (vs ++ [x]) := by
  unfold fill9
  have e : 8 - vs.length = (8 - (vs ++ [x]).length) + 1 := by simp; omega
  rw [e, List.replicate_succ, Nat.add_comm 1]
  simp [vals]
theorem fill9_all (q : Nat) {vs : List Nat} (h : vs.length = 8) : fill9 q vs = (wrv ((q : Int), vs)).toArray := by unfold fill9 wrv; rw [h]; simp
set_option maxHeartbeats 4000000 in
theorem getWrites_dev (w : World) (B p : Nat) (bs : List Nat) (a : Nat) (h : Nr w B p (bs.drop a)) (hb : ∀ x ∈ bs, x < 256) :
    Calls Try.prog 74 #[.func (.func 51) #[.pointer (some ⟨p, 0, none⟩)] #[]] w fun e w' => ∃ v, e = .returned v ∧ OwnW w' w.heap.size (wsOf bs a (bt bs a)) v ∧ Nr w' B p (bs.drop (a + 1 + 9 * bt bs a)) ∧ Kept7 (· = p) w w' := by
  have HN := Lib.hid (fun W k (h : Nr W B p (bs.drop k)) => next_dev W B p bs k h)
  have HG := Lib.hid (fun W k (h : Nr W B p (bs.drop k)) => getByte_dev W B p bs k h hb)
  have HR := Lib.hid h
  have HLt := Lib.hid h.lt
  have HBt := Lib.hid hb
  have hn256 := bt_lt hb a
  clear h hb
  go_enter Try.func74, Try.ntmps74
  go_wp2_with fail
  refine (HG.out _ _ HR.out).mono ?_
  rintro e w1 ⟨rfl, hr, hk⟩
  have HR1 := Lib.hid hr
  have HK1 := Lib.hid hk
  clear hr hk
  obtain ⟨n, hn⟩ : ∃ n, n = bt bs a := ⟨_, rfl⟩
  rw [← hn]
  have HNn := Lib.hid hn
  rw [← hn] at hn256
  clear hn
  go_wp2_with fail
  go_loopw [3, 8] (fun v i wr => ∃ k : Nat, k ≤ n ∧ i = .int .i64 (k : Int) ∧ OwnW wr w.heap.size (wsOf bs a k) v ∧ Nr wr B p (bs.drop (a + 1 + 9 * k)) ∧ Kept7 (· = p) w wr) (fun _ i _ => n - (intOf i).toNat)
  case atStart => exact ⟨0, Nat.zero_le _, rfl, OwnW.nil_ _ _, HR1.out, HK1.out⟩
  case round =>
    obtain ⟨k, hk, rfl, ho, hr, hkp⟩ := hrel
    have HO := Lib.hid ho
    have HR2 := Lib.hid hr
    have HK2 := Lib.hid hkp
    clear ho hr hkp
    by_cases hlt : k < n
    · have hki : (k : Int) < (n : Int) := by omega
      obtain ⟨a2, ha2⟩ : ∃ a2, a2 = a + 1 + 9 * k := ⟨_, rfl⟩
      rw [← ha2] at HR2
      have HA2 := Lib.hid ha2
      clear ha2
      go_wp2_with fail
      refine (HG.out _ _ HR2.out).mono ?_
      rintro e w3 ⟨rfl, hr, hk3⟩
      obtain ⟨q, hq⟩ : ∃ q, q = bt bs a2 := ⟨_, rfl⟩
      have HQ := Lib.hid hq
      rw [← hq]
      have HO3 := Lib.hid (HO.out.keep fun b hb hge => hk3.block b hb (by have := HLt.out; omega))
      have HK3 := Lib.hid (HK2.out.trans hk3)
      have HP3 := Lib.hid (show p < w3.heap.size from hr.lt)
      obtain ⟨hb4, hg4, hz4⟩ := box_made w3 #[.int .i64 0, .int .u8 0, .int .u8 0, .int .u8 0, .int .u8 0, .int .u8 0, .int .u8 0, .int .u8 0, .int .u8 0] #[.int .i64 (q : Int), .int .u8 0, .int .u8 0, .int .u8 0, .int .u8 0, .int .u8 0, .int .u8 0, .int .u8 0, .int .u8 0] 68
      have HZ := Lib.hid (heap_alloc_new w3 (.cells #[.int .i64 0, .int .u8 0, .int .u8 0, .int .u8 0, .int .u8 0, .int .u8 0, .int .u8 0, .int .u8 0, .int .u8 0] 68))
      obtain ⟨w4, hw4⟩ : ∃ w4, w4 = (w3.alloc (.cells #[.int .i64 0, .int .u8 0, .int .u8 0, .int .u8 0, .int .u8 0, .int .u8 0, .int .u8 0, .int .u8 0, .int .u8 0] 68)).setRow w3.heap.size #[.int .i64 (q : Int), .int .u8 0, .int .u8 0, .int .u8 0, .int .u8 0, .int .u8 0, .int .u8 0, .int .u8 0, .int .u8 0] := ⟨_, rfl⟩
      rw [← hw4] at hb4 hg4
      have HW4 := Lib.hid hw4
      have HB4 := Lib.hid hb4
      have HG4 := Lib.hid hg4
      have HR4 := Lib.hid (hr.below hb4 hr.lt)
      have HIs := Lib.hid (show (Try.prog.info? 68).map (·.size) = some (#[.int .i64 (q : Int), .int .u8 0, .int .u8 0, .int .u8 0, .int .u8 0, .int .u8 0, .int .u8 0, .int .u8 0, .int .u8 0] : Array Value).size by kernel_rfl)
      have HSz := Lib.hid (show (#[.int .i64 0, .int .u8 0, .int .u8 0, .int .u8 0, .int .u8 0, .int .u8 0, .int .u8 0, .int .u8 0, .int .u8 0] : Array Value).size = (#[.int .i64 (q : Int), .int .u8 0, .int .u8 0, .int .u8 0, .int .u8 0, .int .u8 0, .int .u8 0, .int .u8 0, .int .u8 0] : Array Value).size from rfl)
      have HOa := Lib.hid (show (#[.int .i64 (q : Int), .int .u8 0, .int .u8 0, .int .u8 0, .int .u8 0, .int .u8 0, .int .u8 0, .int .u8 0, .int .u8 0] : Array Value).all (·.oneCell') = true by simp [Value.oneCell'])
      clear hq hr hk3 hb4 hg4 hz4 hw4
      go_wp2_with (refine wpList_store_row rfl 68 _ _ rfl w3.heap.size #[.int .i64 (q : Int), .int .u8 0, .int .u8 0, .int .u8 0, .int .u8 0, .int .u8 0, .int .u8 0, .int .u8 0, .int .u8 0] rfl rfl 68 #[.int .i64 0, .int .u8 0, .int .u8 0, .int .u8 0, .int .u8 0, .int .u8 0, .int .u8 0, .int .u8 0, .int .u8 0] HZ.out HIs.out HSz.out HOa.out ?_; rw [← HW4.out])
      go_loopw [13] (fun j wr2 => ∃ m : Nat, m ≤ 8 ∧ j = .int .i64 (m : Int) ∧ wr2.heap[w3.heap.size]? = some (.cells (fill9 q ((List.range m).map fun i => bt bs (a2 + 1 + i))) 68 (0, 0)) ∧ Nr wr2 B p (bs.drop (a2 + 1 + m)) ∧ Kept7 (· = p) w3 wr2) (fun j _ => 8 - (intOf j).toNat)
      case atStart => exact ⟨0, Nat.zero_le _, rfl, HG4.out, HR4.out, Kept7.of_below HB4.out (Nat.le_refl _)⟩
      case round =>
        obtain ⟨m, hm, rfl, hg, hr, hkp⟩ := hrel
        by_cases hmt : m < 8
        · have hmi : (m : Int) < 8 := by omega
          have HGm := Lib.hid hg
          have HRm := Lib.hid hr
          have HKm := Lib.hid hkp
          clear hg hr hkp
          go_wp2_with fail
          refine (HN.out _ _ HRm.out).mono ?_
          rintro e w5 ⟨rfl, hr, hk5⟩
          obtain ⟨x, hx⟩ : ∃ x, x = bt bs (a2 + 1 + m) := ⟨_, rfl⟩
          rw [← hx]
          have hx256 := bt_lt HBt.out (a2 + 1 + m)
          rw [← hx] at hx256
          have hsz : w3.heap.size < wr.heap.size := (Array.getElem?_eq_some_iff.1 HGm.out).1
          have g5 := (hk5.block w3.heap.size hsz (by have := HP3.out; omega)).trans HGm.out
          obtain ⟨vs, hvs⟩ : ∃ vs, vs = (List.range m).map fun i => bt bs (a2 + 1 + i) := ⟨_, rfl⟩
          have hvl : vs.length = m := by rw [hvs]; simp
          have hvs1 : (List.range (m + 1)).map (fun i => bt bs (a2 + 1 + i)) = vs ++ [x] := by rw [List.range_succ, List.map_append, hvs, hx]; rfl
          have HVS := Lib.hid hvs1
          rw [← hvs] at g5
          have hkv : 1 + m < (fill9 q vs).size := by rw [fill9_size q (by omega)]; omega
          obtain ⟨v, hc⟩ : ∃ v, w5.cell? ⟨w3.heap.size, 1 + m, none⟩ = some v := ⟨(fill9 q vs)[1 + m]'hkv, by rw [cell_of_row w5 _ _ _ _ _ g5]; simp⟩
          have hfr := frozen_of_row w5 w3.heap.size (1 + m) _ _ g5
          have hbs : Below w3.heap.size w5 (w5.setCell ⟨w3.heap.size, 1 + m, none⟩ (.int .u8 (x : Int))) := (Below.refl _ w5).setCell (show w3.heap.size ≤ w3.heap.size from Nat.le_refl _) _
          have HN5 := Lib.hid ((heap_setCell_same w5 w3.heap.size (1 + m) _ _ (.int .u8 (x : Int)) g5).trans (by rw [← hvl, fill9_set q (by omega)]))
          have HR5 := Lib.hid (hr.below hbs HP3.out)
          have HK5 := Lib.hid ((HKm.out.trans hk5).set_ (p := w3.heap.size) (j := 1 + m) (.int .u8 (x : Int)) (fun hh => by omega))
          have hw1 : IntKind.i64.wrap ((m : Int) + 1) = (m : Int) + 1 := by rw [IntKind.wrap_i64]; omega
          clear hr hk5 hx hsz g5 hvs hvl hvs1 hkv hbs
          go_wp2
          go_roundw
          case rel => exact ⟨m + 1, by omega, by simp, by rw [HVS.out]; exact HN5.out, HR5.out, HK5.out⟩
          case measure => simp [intOf]; omega
        · obtain rfl : m = 8 := by omega
          obtain ⟨vs, hvs⟩ : ∃ vs, vs = (List.range 8).map fun i => bt bs (a2 + 1 + i) := ⟨_, rfl⟩
          have hvl : vs.length = 8 := by rw [hvs]; simp
          rw [← hvs, fill9_all q hvl] at hg
          have HWo := Lib.hid (show wsOf bs a (k + 1) = wsOf bs a k ++ [((q : Int), vs)] by rw [wsOf_succ, hvs, HQ.out, HA2.out]; rfl)
          clear hvs
          obtain ⟨y0, y1, y2, y3, y4, y5, y6, y7, rfl⟩ := eight hvl
          have L1 := Lib.hid (show wr.heap[w3.heap.size]? = some (.cells #[.int .i64 (q : Int), .int .u8 (y0 : Int), .int .u8 (y1 : Int), .int .u8 (y2 : Int), .int .u8 (y3 : Int), .int .u8 (y4 : Int), .int .u8 (y5 : Int), .int .u8 (y6 : Int), .int .u8 (y7 : Int)] 68 (0, 0)) from hg)
          have hwle : w.heap.size ≤ w3.heap.size := HK3.out.size
          have hO8 : OwnW wr w.heap.size (wsOf bs a k) _ := HO3.out.keep fun b hb hge => hkp.block b hb (by have := HLt.out; omega)
          have hb5 : Below wr.heap.size wr (wr.alloc (.cells #[.int .i64 (q : Int), .int .u8 (y0 : Int), .int .u8 (y1 : Int), .int .u8 (y2 : Int), .int .u8 (y3 : Int), .int .u8 (y4 : Int), .int .u8 (y5 : Int), .int .u8 (y6 : Int), .int .u8 (y7 : Int)] 68)) := (Below.refl wr.heap.size wr).alloc (Nat.le_refl _) _
          have HGe := Lib.hid (own_ge hO8)
          have HO5 := Lib.hid (hO8.keep (w' := wr.alloc (.cells #[.int .i64 (q : Int), .int .u8 (y0 : Int), .int .u8 (y1 : Int), .int .u8 (y2 : Int), .int .u8 (y3 : Int), .int .u8 (y4 : Int), .int .u8 (y5 : Int), .int .u8 (y6 : Int), .int .u8 (y7 : Int)] 68)) fun b hb _ => hb5.block b hb)
          have HD5 := Lib.hid (show ∀ j u, (wrv ((q : Int), [y0, y1, y2, y3, y4, y5, y6, y7]))[j]? = some u → (wr.alloc (.cells #[.int .i64 (q : Int), .int .u8 (y0 : Int), .int .u8 (y1 : Int), .int .u8 (y2 : Int), .int .u8 (y3 : Int), .int .u8 (y4 : Int), .int .u8 (y5 : Int), .int .u8 (y6 : Int), .int .u8 (y7 : Int)] 68)).cell? ((⟨wr.heap.size, 0, none⟩ : Addr).add j) = some u from
            new_cells (w := wr) (nl := wrv ((q : Int), [y0, y1, y2, y3, y4, y5, y6, y7])) (t := 68) rfl)
          have HR5 := Lib.hid (hr.below hb5 hr.lt)
          have HK5 := Lib.hid ((HK3.out.trans hkp).trans (Kept7.of_below hb5 (Nat.le_refl _)))
          have HLl := Lib.hid (show (wsOf bs a k).length ≤ 1000000 by rw [wsOf_length]; omega)
          have HSz5 := Lib.hid (show w.heap.size ≤ (wr.alloc (.cells #[.int .i64 (q : Int), .int .u8 (y0 : Int), .int .u8 (y1 : Int), .int .u8 (y2 : Int), .int .u8 (y3 : Int), .int .u8 (y4 : Int), .int .u8 (y5 : Int), .int .u8 (y6 : Int), .int .u8 (y7 : Int)] 68)).heap.size from HK5.out.size)
          have HI9 := Lib.hid (show (Try.prog.info? 68).map (·.size) = some (#[.int .i64 (q : Int), .int .u8 (y0 : Int), .int .u8 (y1 : Int), .int .u8 (y2 : Int), .int .u8 (y3 : Int), .int .u8 (y4 : Int), .int .u8 (y5 : Int), .int .u8 (y6 : Int), .int .u8 (y7 : Int)] : Array Value).size by kernel_rfl)
          have hw1 : IntKind.i64.wrap ((k : Int) + 1) = (k : Int) + 1 := by rw [IntKind.wrap_i64]; omega
          clear hg hr hkp hvl hO8 hb5
          go_wp2_with (first
            | (refine wpList_load_row rfl 68 _ rfl w3.heap.size rfl 68 #[.int .i64 (q : Int), .int .u8 (y0 : Int), .int .u8 (y1 : Int), .int .u8 (y2 : Int), .int .u8 (y3 : Int), .int .u8 (y4 : Int), .int .u8 (y5 : Int), .int .u8 (y6 : Int), .int .u8 (y7 : Int)] (0, 0) _ L1.out Try.underlying68 rfl HI9.out ?_)
            | (at_builtin; refine appendW rfl (.tmp 22) (.tmp 24) rfl w.heap.size (wsOf bs a k) ((q : Int), [y0, y1, y2, y3, y4, y5, y6, y7]) _ rfl HO5.out ⟨wr.heap.size, 0, none⟩ 1 rfl rfl HD5.out HLl.out HSz5.out ?_; intro v6 w6 hv6 hg6))
          go_roundw
          case rel =>
            refine ⟨k + 1, by omega, by go_num, by rw [HWo.out]; exact hv6, ?_, ?_⟩
            · have e : a + 1 + 9 * (k + 1) = a2 + 1 + 8 := by rw [HA2.out]; omega
              rw [e]
              refine HR5.out.kept (S := fun b => some b = Value.ownBlock _) ⟨hg6.os, hg6.tape, hg6.output, hg6.size, fun b hb hne => hg6.block b hb hne⟩ ?_ ?_ ?_
              · have := HR5.out.le; have := HR5.out.lt; omega
              · intro b hb e2
                have h3 := HGe.out b e2.symm
                have := HLt.out
                have := HR5.out.le
                omega
              · intro e2
                have h3 := HGe.out p e2.symm
                have := HLt.out
                omega
            · exact HK5.out.grown hg6 fun b e hb => by have h3 := HGe.out b e; omega
          case measure => simp [intOf]; omega
    · obtain rfl : k = n := by omega
      have hki : ¬ (k : Int) < (k : Int) := by omega
      go_wp2
      go_ret
      rw [← HNn.out]
      exact ⟨_, rfl, HO.out, HR2.out, HK2.out⟩
end Go.Proofs.Ytaokhbodmodcgaa
end

section
/-
  The fields that a record's kind names, as plain data: whether each may be, its bytes, the record without it, what is read into it.
-/
namespace Go.Proofs.Ytaokhbodmodcgaa
open Go.RowKit

inductive FK where
  | name | writes | give | take | yes | shards | change | num (most : Int)
def kindsF (k : Int) : List FK :=
  if k = 1 then [.name, .writes] else if k = 2 then [.name, .writes, .give, .take] else if k = 3 then [.name, .yes] else if k = 4 then [.name, .shards, .change]
  else if k = 5 then [.name] else if k = 6 then [.num 1048577] else if k = 7 then [.num 1048576] else []
def takeB (t g : Int) : Bool := inB t 0 255 && (bits .and .i64 t g == 0)
def mayF : FK → Rc → Bool
  | .name, r => namedB r.name
  | .writes, r => writtenB r.writes
  | .give, r => inB r.give 0 255
  | .take, r => takeB r.take r.give
  | .yes, _ => true
  | .shards, r => shardsB r.shards
  | .change, r => changedB r.stripe r.dest
  | .num m, r => inB r.n 1 m
def emptyF : FK → Rc → Rc
  | .name, r => { r with name := zNm }
  | .writes, r => { r with writes := [] }
  | .give, r => { r with give := 0 }
  | .take, r => { r with take := 0 }
  | .yes, r => { r with yes := false }
  | .shards, r => { r with shards := 0 }
  | .change, r => { r with stripe := 0, dest := 0 }
  | .num _, r => { r with n := 0 }
def putF : FK → Rc → List Nat
  | .name, r => nameL r.name
  | .writes, r => r.writes.length % 256 :: writesL r.writes
  | .give, r => [byteN r.give]
  | .take, r => [byteN r.take]
  | .yes, r => [if r.yes then 1 else 0]
  | .shards, r => [byteN r.shards]
  | .change, r => [byteN (r.stripe + 1), byteN r.dest]
  | .num _, r => three r.n
def readF : FK → Rc → List Nat → Nat → Rc
  | .name, r, bs, a => { r with name := nmOf bs a }
  | .writes, r, bs, a => { r with writes := wsOf bs a (bt bs a) }
  | .give, r, bs, a => { r with give := ((bt bs a : Nat) : Int) }
  | .take, r, bs, a => { r with take := ((bt bs a : Nat) : Int) }
  | .yes, r, bs, a => { r with yes := decide (bt bs a ≠ 0) }
  | .shards, r, bs, a => { r with shards := ((bt bs a : Nat) : Int) }
  | .change, r, bs, a => { r with stripe := ((bt bs a : Nat) : Int) - 1, dest := ((bt bs (a + 1) : Nat) : Int) }
  | .num _, r, bs, a => { r with n := ((gz bs a 3 : Nat) : Int) }
def lenF : FK → List Nat → Nat → Nat
  | .name, _, _ => 9
  | .writes, bs, a => 1 + 9 * bt bs a
  | .change, _, _ => 2
  | .num _, _, _ => 3
  | _, _, _ => 1
def emptyAll (l : List FK) (r : Rc) : Rc := l.foldl (fun r k => emptyF k r) r
theorem takeB_give {g t : Int} : (inB g 0 255 && takeB t g) = givenB g t := by
  unfold takeB givenB inB
  by_cases h0 : 0 ≤ g ∧ g ≤ 255
  · by_cases h1 : 0 ≤ t ∧ t ≤ 255
    · obtain ⟨m, rfl⟩ : ∃ m : Nat, g = (m : Int) := ⟨g.toNat, by omega⟩
      obtain ⟨k, rfl⟩ : ∃ k : Nat, t = (k : Int) := ⟨t.toNat, by omega⟩
      rw [i64_and_nat k m (by omega) (by omega), decide_eq_true h0, decide_eq_true h1, Int.toNat_natCast, Int.toNat_natCast, Nat.and_comm k m]
      obtain ⟨q, hq⟩ : ∃ q, q = m &&& k := ⟨_, rfl⟩
      rw [← hq]
      simp only [Bool.true_and]
      by_cases h2 : q = 0
      · rw [decide_eq_true ⟨h0.1, h0.2, h1.1, h1.2, h2⟩, h2]; rfl
      · rw [decide_eq_false (fun h => h2 h.2.2.2.2), beq_eq_false_iff_ne]; omega
    · simp only [decide_eq_false h1, Bool.false_and, Bool.and_false]
      exact (decide_eq_false (fun h => h1 ⟨h.2.2.1, h.2.2.2.1⟩)).symm
  · simp only [decide_eq_false h0, Bool.false_and]
    exact (decide_eq_false (fun h => h0 ⟨h.1, h.2.1⟩)).symm
theorem given_none : givenB 0 0 = true := by decide
theorem written_none : writtenB [] = true := by decide
theorem kinds_of {k : Int} (h : 1 ≤ k ∧ k ≤ 7) : k = 1 ∨ k = 2 ∨ k = 3 ∨ k = 4 ∨ k = 5 ∨ k = 6 ∨ k = 7 := by omega
/-- as the developers say it: every named field may be, and without them nothing is left -/
def mayD (r : Rc) : Bool := (kindsF r.kind).all (mayF · r) && (decide (kindsF r.kind ≠ []) && decide (emptyAll (kindsF r.kind) r = { zRc with kind := r.kind }))
theorem mayD_eq (r : Rc) : mayD r = mayR r := by
  obtain ⟨k, ⟨a, b, c⟩, y, l, g, t, sh, st, tt, n⟩ := r
  by_cases hk : 1 ≤ k ∧ k ≤ 7
  · rcases kinds_of hk with rfl | rfl | rfl | rfl | rfl | rfl | rfl
    all_goals
      have hg := @takeB_give g t
      have hg0 := given_none
      have hw0 := written_none
      rw [Bool.eq_iff_iff] at hg ⊢
      simp only [Bool.and_eq_true] at hg
      simp [mayD, mayR, kindsF, emptyAll, emptyF, mayF, fieldsR, zRc, zNm]
      constructor <;> intro h <;> simp_all [inB]
  · have h : kindsF k = [] := by unfold kindsF; rw [if_neg (by omega), if_neg (by omega), if_neg (by omega), if_neg (by omega), if_neg (by omega), if_neg (by omega), if_neg (by omega)]
    unfold mayD mayR
    simp only [h]
    rw [decide_eq_false (fun h => h rfl), decide_eq_false hk]
    simp
theorem restF (r : Rc) (hk : 1 ≤ r.kind ∧ r.kind ≤ 7) : restL r = (kindsF r.kind).flatMap (putF · r) := by
  obtain ⟨k, ⟨a, b, c⟩, y, l, g, t, sh, st, tt, n⟩ := r
  simp only at hk
  rcases kinds_of hk with rfl | rfl | rfl | rfl | rfl | rfl | rfl
  all_goals simp [restL, kindsF, putF]
end Go.Proofs.Ytaokhbodmodcgaa
end

section
/-
  The developers' fields of a record: where they lie, what makes them.
-/
namespace Go.Proofs.Ytaokhbodmodcgaa
open Go.RowKit
set_option maxRecDepth 100000

/-- a record's own box -/
structure RBox (w : World) (X : Nat) (P : Nat → Prop) (A : Option Addr) (c : Nat) (r : Rc) : Prop where
  row : w.heap[X]? = some (.cells (recv A c r).toArray 29 (0, 0))
  wrs : WrsV w P A c r.writes
  fine : r.Fine
section
variable {w w' : World} {X : Nat} {P P' : Nat → Prop} {A : Option Addr} {c : Nat} {r : Rc}
theorem RBox.lt (h : RBox w X P A c r) : X < w.heap.size := (Array.getElem?_eq_some_iff.1 h.row).1
theorem RBox.keep (h : RBox w X P A c r) (hX : w'.heap[X]? = w.heap[X]?) (hs : w.heap.size ≤ w'.heap.size) (hk : ∀ b, P b → b < w.heap.size → w'.heap[b]? = w.heap[b]?) : RBox w' X P A c r :=
  ⟨hX.trans h.row, h.wrs.keep (fun b hb => hk b hb.1 hb.2) hs, h.fine⟩
theorem RBox.below (h : RBox w X P A c r) (hb : Below w.heap.size w w') : RBox w' X P A c r := h.keep (hb.block X h.lt) hb.size fun b _ hlt => hb.block b hlt
theorem RBox.cell (h : RBox w X P A c r) (j : Nat) {v : Value} (hv : (recv A c r)[j]? = some v) : w.cell? ⟨X, j, none⟩ = some v := by rw [cell_of_row w X j _ _ _ h.row]; simpa using hv
theorem RBox.free (h : RBox w X P A c r) (j : Nat) : w.frozen? ⟨X, j, none⟩ = false := frozen_of_row w X j _ _ h.row
end
/-- a captured variable's box -/
structure FBox (w : World) (N M b : Nat) (v : Value) : Prop where
  lo : N ≤ b
  hi : b < M
  at_ : w.cell? ⟨b, 0, none⟩ = some v
theorem FBox.keep {w w' : World} {N M b : Nat} {v : Value} (h : FBox w N M b v) (hk : ∀ b, N ≤ b → b < M → w'.heap[b]? = w.heap[b]?) : FBox w' N M b v := ⟨h.lo, h.hi, (World.cell?_of_block (w := w) (hk b h.lo h.hi)).trans h.at_⟩
theorem FBox.wide {w : World} {N M N' M' b : Nat} {v : Value} (h : FBox w N M b v) (hN : N' ≤ N) (hM : M ≤ M') : FBox w N' M' b v := ⟨by have := h.lo; omega, by have := h.hi; omega, h.at_⟩
abbrev ptr (b j : Nat) : Value := .pointer (some ⟨b, j, none⟩)
/-- a field: its four functions, with the boxes that they captured -/
def FldG (w : World) (N M X off f1 f2 f3 f4 : Nat) (mv uv gv : Value) (fs : List Value) : Prop :=
  ∃ bp bm bu bg, fs = [.func (.func f1) #[] #[ptr bm 0, ptr bp 0], .func (.func f2) #[] #[ptr bu 0, ptr bp 0], .func (.func f3) #[] #[ptr bg 0, ptr bp 0], .func (.func f4) #[] #[ptr bp 0]] ∧
    FBox w N M bp (ptr X off) ∧ FBox w N M bm mv ∧ FBox w N M bu uv ∧ FBox w N M bg gv
abbrev fun0 (n : Nat) : Value := .func (.func n) #[] #[]
def FldC (w : World) (N M X : Nat) : FK → List Value → Prop
  | .name, fs => FldG w N M X 1 92 93 94 95 (fun0 16) (fun0 70) (fun0 71) fs
  | .writes, fs => FldG w N M X 5 96 97 98 99 (fun0 18) (fun0 73) (fun0 74) fs
  | .give, fs => FldG w N M X 6 100 101 102 103 (fun0 76) (fun0 77) (fun0 78) fs
  | .take, fs => ∃ bx, FBox w N M bx (ptr X 0) ∧ FldG w N M X 7 100 101 102 103 (.func (.func 79) #[] #[ptr bx 0]) (fun0 77) (fun0 78) fs
  | .yes, fs => FldG w N M X 4 105 106 107 108 (fun0 80) (fun0 82) (fun0 83) fs
  | .shards, fs => FldG w N M X 8 100 101 102 103 (fun0 84) (fun0 77) (fun0 78) fs
  | .change, fs => FldG w N M X 9 109 110 111 112 (fun0 86) (fun0 87) (fun0 88) fs
  | .num m, fs => ∃ bx, FBox w N M bx (.int .i64 m) ∧ FldG w N M X 11 100 101 102 103 (.func (.func 89) #[] #[ptr bx 0]) (fun0 90) (fun0 91) fs
section
variable {w w' : World} {N M N' M' X off f1 f2 f3 f4 : Nat} {mv uv gv : Value} {fs : List Value} {k : FK}
theorem FldG.keep (h : FldG w N M X off f1 f2 f3 f4 mv uv gv fs) (hk : ∀ b, N ≤ b → b < M → w'.heap[b]? = w.heap[b]?) : FldG w' N M X off f1 f2 f3 f4 mv uv gv fs := by
  obtain ⟨bp, bm, bu, bg, e, h1, h2, h3, h4⟩ := h
  exact ⟨bp, bm, bu, bg, e, h1.keep hk, h2.keep hk, h3.keep hk, h4.keep hk⟩
theorem FldG.wide (h : FldG w N M X off f1 f2 f3 f4 mv uv gv fs) (hN : N' ≤ N) (hM : M ≤ M') : FldG w N' M' X off f1 f2 f3 f4 mv uv gv fs := by
  obtain ⟨bp, bm, bu, bg, e, h1, h2, h3, h4⟩ := h
  exact ⟨bp, bm, bu, bg, e, h1.wide hN hM, h2.wide hN hM, h3.wide hN hM, h4.wide hN hM⟩
theorem FldC.keep (h : FldC w N M X k fs) (hk : ∀ b, N ≤ b → b < M → w'.heap[b]? = w.heap[b]?) : FldC w' N M X k fs := by
  cases k
  case take => obtain ⟨bx, h1, h2⟩ := h; exact ⟨bx, h1.keep hk, FldG.keep h2 hk⟩
  case num m => obtain ⟨bx, h1, h2⟩ := h; exact ⟨bx, h1.keep hk, FldG.keep h2 hk⟩
  all_goals exact FldG.keep h hk
theorem FldC.wide (h : FldC w N M X k fs) (hN : N' ≤ N) (hM : M ≤ M') : FldC w N' M' X k fs := by
  cases k
  case take => obtain ⟨bx, h1, h2⟩ := h; exact ⟨bx, h1.wide hN hM, FldG.wide h2 hN hM⟩
  case num m => obtain ⟨bx, h1, h2⟩ := h; exact ⟨bx, h1.wide hN hM, FldG.wide h2 hN hM⟩
  all_goals exact FldG.wide h hN hM
theorem FldC.four (h : FldC w N M X k fs) : fs.length = 4 := by
  cases k
  case take => obtain ⟨bx, h1, _, _, _, _, rfl, _⟩ := h; rfl
  case num m => obtain ⟨bx, h1, _, _, _, _, rfl, _⟩ := h; rfl
  all_goals (obtain ⟨_, _, _, _, rfl, _⟩ := h; rfl)
end
theorem sizeFld : (Try.prog.info? 55).map (·.size) = some 4 := by kernel_rfl
section
variable (w : World) (v1 v2 v3 v4 : Value) (t1 t2 t3 t4 : TypeId) (Z xs : Array Value) (T : TypeId)
theorem five_zero : (((((w.alloc (.cells #[v1] t1)).alloc (.cells #[v2] t2)).alloc (.cells #[v3] t3)).alloc (.cells #[v4] t4)).alloc (.cells Z T)).heap[w.heap.size + 1 + 1 + 1 + 1]? = some (.cells Z T (0, 0)) := by
  have h := heap_alloc_new ((((w.alloc (.cells #[v1] t1)).alloc (.cells #[v2] t2)).alloc (.cells #[v3] t3)).alloc (.cells #[v4] t4)) (.cells Z T)
  simpa using h
theorem five_below : Below w.heap.size w ((((((w.alloc (.cells #[v1] t1)).alloc (.cells #[v2] t2)).alloc (.cells #[v3] t3)).alloc (.cells #[v4] t4)).alloc (.cells Z T)).setRow (w.heap.size + 1 + 1 + 1 + 1) xs) := by
  refine below_setRow ?_ (by omega) xs
  exact (((((Below.refl w.heap.size w).alloc (Nat.le_refl _) _).alloc (by simp) _).alloc (by simp; omega) _).alloc (by simp; omega) _).alloc (by simp; omega) _
theorem five_size : ((((((w.alloc (.cells #[v1] t1)).alloc (.cells #[v2] t2)).alloc (.cells #[v3] t3)).alloc (.cells #[v4] t4)).alloc (.cells Z T)).setRow (w.heap.size + 1 + 1 + 1 + 1) xs).heap.size = w.heap.size + 5 := by simp [World.setRow]
theorem five_at : ((((((w.alloc (.cells #[v1] t1)).alloc (.cells #[v2] t2)).alloc (.cells #[v3] t3)).alloc (.cells #[v4] t4)).alloc (.cells Z T)).setRow (w.heap.size + 1 + 1 + 1 + 1) xs).cell? ⟨w.heap.size, 0, none⟩ = some v1 ∧ ((((((w.alloc (.cells #[v1] t1)).alloc (.cells #[v2] t2)).alloc (.cells #[v3] t3)).alloc (.cells #[v4] t4)).alloc (.cells Z T)).setRow (w.heap.size + 1 + 1 + 1 + 1) xs).cell? ⟨w.heap.size + 1, 0, none⟩ = some v2 ∧
    ((((((w.alloc (.cells #[v1] t1)).alloc (.cells #[v2] t2)).alloc (.cells #[v3] t3)).alloc (.cells #[v4] t4)).alloc (.cells Z T)).setRow (w.heap.size + 1 + 1 + 1 + 1) xs).cell? ⟨w.heap.size + 1 + 1, 0, none⟩ = some v3 ∧ ((((((w.alloc (.cells #[v1] t1)).alloc (.cells #[v2] t2)).alloc (.cells #[v3] t3)).alloc (.cells #[v4] t4)).alloc (.cells Z T)).setRow (w.heap.size + 1 + 1 + 1 + 1) xs).cell? ⟨w.heap.size + 1 + 1 + 1, 0, none⟩ = some v4 := by
  have g1 := heap_alloc_new w (.cells #[v1] t1)
  have g2 := heap_alloc_new (w.alloc (.cells #[v1] t1)) (.cells #[v2] t2)
  have g3 := heap_alloc_new ((w.alloc (.cells #[v1] t1)).alloc (.cells #[v2] t2)) (.cells #[v3] t3)
  have g4 := heap_alloc_new (((w.alloc (.cells #[v1] t1)).alloc (.cells #[v2] t2)).alloc (.cells #[v3] t3)) (.cells #[v4] t4)
  simp only [World.size_alloc] at g2 g3 g4
  refine ⟨?_, ?_, ?_, ?_⟩
  · rw [cell_of_row _ _ 0 #[v1] t1 (0, 0) (by
      rw [setRow_other _ _ _ _ (by omega), Below.heap_alloc _ _ _ (by simp only [World.size_alloc]; omega), Below.heap_alloc _ _ _ (by simp only [World.size_alloc]; omega), Below.heap_alloc _ _ _ (by simp only [World.size_alloc]; omega), Below.heap_alloc _ _ _ (by simp only [World.size_alloc]; omega)]; exact g1)]
    rfl
  · rw [cell_of_row _ _ 0 #[v2] t2 (0, 0) (by
      rw [setRow_other _ _ _ _ (by omega), Below.heap_alloc _ _ _ (by simp only [World.size_alloc]; omega), Below.heap_alloc _ _ _ (by simp only [World.size_alloc]; omega), Below.heap_alloc _ _ _ (by simp only [World.size_alloc]; omega)]; exact g2)]
    rfl
  · rw [cell_of_row _ _ 0 #[v3] t3 (0, 0) (by
      rw [setRow_other _ _ _ _ (by omega), Below.heap_alloc _ _ _ (by simp only [World.size_alloc]; omega), Below.heap_alloc _ _ _ (by simp only [World.size_alloc]; omega)]; exact g3)]
    rfl
  · rw [cell_of_row _ _ 0 #[v4] t4 (0, 0) (by
      rw [setRow_other _ _ _ _ (by omega), Below.heap_alloc _ _ _ (by simp only [World.size_alloc]; omega)]; exact g4)]
    rfl
theorem five_row (hZ : Z.size = xs.size) : ((((((w.alloc (.cells #[v1] t1)).alloc (.cells #[v2] t2)).alloc (.cells #[v3] t3)).alloc (.cells #[v4] t4)).alloc (.cells Z T)).setRow (w.heap.size + 1 + 1 + 1 + 1) xs).heap[w.heap.size + 1 + 1 + 1 + 1]? = some (.cells xs T (0, 0)) := setRow_heap _ _ _ _ _ _ (five_zero w v1 v2 v3 v4 t1 t2 t3 t4 Z T)
end
set_option maxHeartbeats 2000000 in
theorem at_name (w : World) (a : Addr) (nm nu ng : Nat) (cm : Array Value) :
    Calls Try.prog 69 #[.pointer (some a), .func (.func nm) #[] cm, fun0 nu, fun0 ng] w fun e w' => ∃ fs, e = .returned (.agg fs.toArray) ∧ Below w.heap.size w w' ∧
      ∃ bp bm bu bg, fs = [.func (.func 92) #[] #[ptr bm 0, ptr bp 0], .func (.func 93) #[] #[ptr bu 0, ptr bp 0], .func (.func 94) #[] #[ptr bg 0, ptr bp 0], .func (.func 95) #[] #[ptr bp 0]] ∧
        FBox w' w.heap.size w'.heap.size bp (.pointer (some a)) ∧ FBox w' w.heap.size w'.heap.size bm (.func (.func nm) #[] cm) ∧ FBox w' w.heap.size w'.heap.size bu (fun0 nu) ∧ FBox w' w.heap.size w'.heap.size bg (fun0 ng) := by
  have HI := Lib.hid (show (Try.prog.info? 55).map (·.size) = some (#[.func (.func 92) #[] #[ptr (w.heap.size + 1) 0, ptr w.heap.size 0], .func (.func 93) #[] #[ptr (w.heap.size + 1 + 1) 0, ptr w.heap.size 0], .func (.func 94) #[] #[ptr (w.heap.size + 1 + 1 + 1) 0, ptr w.heap.size 0], .func (.func 95) #[] #[ptr w.heap.size 0]] : Array Value).size from sizeFld)
  have HS := Lib.hid (show (#[.nilFunc, .nilFunc, .nilFunc, .nilFunc] : Array Value).size = (#[.func (.func 92) #[] #[ptr (w.heap.size + 1) 0, ptr w.heap.size 0], .func (.func 93) #[] #[ptr (w.heap.size + 1 + 1) 0, ptr w.heap.size 0], .func (.func 94) #[] #[ptr (w.heap.size + 1 + 1 + 1) 0, ptr w.heap.size 0], .func (.func 95) #[] #[ptr w.heap.size 0]] : Array Value).size from rfl)
  have H1 := Lib.hid (show (#[.func (.func 92) #[] #[ptr (w.heap.size + 1) 0, ptr w.heap.size 0], .func (.func 93) #[] #[ptr (w.heap.size + 1 + 1) 0, ptr w.heap.size 0], .func (.func 94) #[] #[ptr (w.heap.size + 1 + 1 + 1) 0, ptr w.heap.size 0], .func (.func 95) #[] #[ptr w.heap.size 0]] : Array Value).all (·.oneCell') = true from by simp [Value.oneCell'])
  obtain ⟨c1, c2, c3, c4⟩ := five_at w (.pointer (some a)) (.func (.func nm) #[] cm) (fun0 nu) (fun0 ng) 94 38 57 95 #[.nilFunc, .nilFunc, .nilFunc, .nilFunc] #[.func (.func 92) #[] #[ptr (w.heap.size + 1) 0, ptr w.heap.size 0], .func (.func 93) #[] #[ptr (w.heap.size + 1 + 1) 0, ptr w.heap.size 0], .func (.func 94) #[] #[ptr (w.heap.size + 1 + 1 + 1) 0, ptr w.heap.size 0], .func (.func 95) #[] #[ptr w.heap.size 0]] 55
  have hz := five_size w (.pointer (some a)) (.func (.func nm) #[] cm) (fun0 nu) (fun0 ng) 94 38 57 95 #[.nilFunc, .nilFunc, .nilFunc, .nilFunc] #[.func (.func 92) #[] #[ptr (w.heap.size + 1) 0, ptr w.heap.size 0], .func (.func 93) #[] #[ptr (w.heap.size + 1 + 1) 0, ptr w.heap.size 0], .func (.func 94) #[] #[ptr (w.heap.size + 1 + 1 + 1) 0, ptr w.heap.size 0], .func (.func 95) #[] #[ptr w.heap.size 0]] 55
  have hb := five_below w (.pointer (some a)) (.func (.func nm) #[] cm) (fun0 nu) (fun0 ng) 94 38 57 95 #[.nilFunc, .nilFunc, .nilFunc, .nilFunc] #[.func (.func 92) #[] #[ptr (w.heap.size + 1) 0, ptr w.heap.size 0], .func (.func 93) #[] #[ptr (w.heap.size + 1 + 1) 0, ptr w.heap.size 0], .func (.func 94) #[] #[ptr (w.heap.size + 1 + 1 + 1) 0, ptr w.heap.size 0], .func (.func 95) #[] #[ptr w.heap.size 0]] 55
  have hr := five_row w (.pointer (some a)) (.func (.func nm) #[] cm) (fun0 nu) (fun0 ng) 94 38 57 95 #[.nilFunc, .nilFunc, .nilFunc, .nilFunc] #[.func (.func 92) #[] #[ptr (w.heap.size + 1) 0, ptr w.heap.size 0], .func (.func 93) #[] #[ptr (w.heap.size + 1 + 1) 0, ptr w.heap.size 0], .func (.func 94) #[] #[ptr (w.heap.size + 1 + 1 + 1) 0, ptr w.heap.size 0], .func (.func 95) #[] #[ptr w.heap.size 0]] 55 HS.out
  have HZ := Lib.hid (five_zero w (.pointer (some a)) (.func (.func nm) #[] cm) (fun0 nu) (fun0 ng) 94 38 57 95 #[.nilFunc, .nilFunc, .nilFunc, .nilFunc] 55)
  obtain ⟨w5, hw5⟩ : ∃ w5, w5 = (((((w.alloc (.cells #[.pointer (some a)] 94)).alloc (.cells #[.func (.func nm) #[] cm] 38)).alloc (.cells #[fun0 nu] 57)).alloc (.cells #[fun0 ng] 95)).alloc (.cells #[.nilFunc, .nilFunc, .nilFunc, .nilFunc] 55)).setRow (w.heap.size + 1 + 1 + 1 + 1) #[.func (.func 92) #[] #[ptr (w.heap.size + 1) 0, ptr w.heap.size 0], .func (.func 93) #[] #[ptr (w.heap.size + 1 + 1) 0, ptr w.heap.size 0], .func (.func 94) #[] #[ptr (w.heap.size + 1 + 1 + 1) 0, ptr w.heap.size 0], .func (.func 95) #[] #[ptr w.heap.size 0]] := ⟨_, rfl⟩
  rw [← hw5] at c1 c2 c3 c4 hz hb hr
  have HW5 := Lib.hid hw5
  have HC := Lib.hid (show Below w.heap.size w w5 ∧ FBox w5 w.heap.size w5.heap.size w.heap.size (.pointer (some a)) ∧ FBox w5 w.heap.size w5.heap.size (w.heap.size + 1) (.func (.func nm) #[] cm) ∧ FBox w5 w.heap.size w5.heap.size (w.heap.size + 1 + 1) (fun0 nu) ∧ FBox w5 w.heap.size w5.heap.size (w.heap.size + 1 + 1 + 1) (fun0 ng) from
    ⟨hb, ⟨by omega, by omega, c1⟩, ⟨by omega, by omega, c2⟩, ⟨by omega, by omega, c3⟩, ⟨by omega, by omega, c4⟩⟩)
  have HR := Lib.hid hr
  clear hw5 c1 c2 c3 c4 hz hb hr
  go_enter Try.func69, Try.ntmps69
  go_wp2_with (refine wpList_store_row rfl 55 _ _ rfl (w.heap.size + 1 + 1 + 1 + 1) #[.func (.func 92) #[] #[ptr (w.heap.size + 1) 0, ptr w.heap.size 0], .func (.func 93) #[] #[ptr (w.heap.size + 1 + 1) 0, ptr w.heap.size 0], .func (.func 94) #[] #[ptr (w.heap.size + 1 + 1 + 1) 0, ptr w.heap.size 0], .func (.func 95) #[] #[ptr w.heap.size 0]] rfl rfl 55 #[.nilFunc, .nilFunc, .nilFunc, .nilFunc] HZ.out HI.out HS.out H1.out ?_; rw [← HW5.out])
  obtain ⟨h1, h2, h3, h4, h5⟩ := HC.out
  exact bodyPost_ret (results_cell_one (t := 55) (p := 8) rfl _ _ (w.heap.size + 1 + 1 + 1 + 1) _ (0, 0) _ rfl HR.out Try.underlying55 rfl HI.out) rfl ⟨_, rfl, h1, _, _, _, _, rfl, h2, h3, h4, h5⟩
set_option maxHeartbeats 2000000 in
theorem at_writes (w : World) (a : Addr) (nm nu ng : Nat) (cm : Array Value) :
    Calls Try.prog 72 #[.pointer (some a), .func (.func nm) #[] cm, fun0 nu, fun0 ng] w fun e w' => ∃ fs, e = .returned (.agg fs.toArray) ∧ Below w.heap.size w w' ∧
      ∃ bp bm bu bg, fs = [.func (.func 96) #[] #[ptr bm 0, ptr bp 0], .func (.func 97) #[] #[ptr bu 0, ptr bp 0], .func (.func 98) #[] #[ptr bg 0, ptr bp 0], .func (.func 99) #[] #[ptr bp 0]] ∧
        FBox w' w.heap.size w'.heap.size bp (.pointer (some a)) ∧ FBox w' w.heap.size w'.heap.size bm (.func (.func nm) #[] cm) ∧ FBox w' w.heap.size w'.heap.size bu (fun0 nu) ∧ FBox w' w.heap.size w'.heap.size bg (fun0 ng) := by
  have HI := Lib.hid (show (Try.prog.info? 55).map (·.size) = some (#[.func (.func 96) #[] #[ptr (w.heap.size + 1) 0, ptr w.heap.size 0], .func (.func 97) #[] #[ptr (w.heap.size + 1 + 1) 0, ptr w.heap.size 0], .func (.func 98) #[] #[ptr (w.heap.size + 1 + 1 + 1) 0, ptr w.heap.size 0], .func (.func 99) #[] #[ptr w.heap.size 0]] : Array Value).size from sizeFld)
  have HS := Lib.hid (show (#[.nilFunc, .nilFunc, .nilFunc, .nilFunc] : Array Value).size = (#[.func (.func 96) #[] #[ptr (w.heap.size + 1) 0, ptr w.heap.size 0], .func (.func 97) #[] #[ptr (w.heap.size + 1 + 1) 0, ptr w.heap.size 0], .func (.func 98) #[] #[ptr (w.heap.size + 1 + 1 + 1) 0, ptr w.heap.size 0], .func (.func 99) #[] #[ptr w.heap.size 0]] : Array Value).size from rfl)
  have H1 := Lib.hid (show (#[.func (.func 96) #[] #[ptr (w.heap.size + 1) 0, ptr w.heap.size 0], .func (.func 97) #[] #[ptr (w.heap.size + 1 + 1) 0, ptr w.heap.size 0], .func (.func 98) #[] #[ptr (w.heap.size + 1 + 1 + 1) 0, ptr w.heap.size 0], .func (.func 99) #[] #[ptr w.heap.size 0]] : Array Value).all (·.oneCell') = true from by simp [Value.oneCell'])
  obtain ⟨c1, c2, c3, c4⟩ := five_at w (.pointer (some a)) (.func (.func nm) #[] cm) (fun0 nu) (fun0 ng) 97 39 58 98 #[.nilFunc, .nilFunc, .nilFunc, .nilFunc] #[.func (.func 96) #[] #[ptr (w.heap.size + 1) 0, ptr w.heap.size 0], .func (.func 97) #[] #[ptr (w.heap.size + 1 + 1) 0, ptr w.heap.size 0], .func (.func 98) #[] #[ptr (w.heap.size + 1 + 1 + 1) 0, ptr w.heap.size 0], .func (.func 99) #[] #[ptr w.heap.size 0]] 55
  have hz := five_size w (.pointer (some a)) (.func (.func nm) #[] cm) (fun0 nu) (fun0 ng) 97 39 58 98 #[.nilFunc, .nilFunc, .nilFunc, .nilFunc] #[.func (.func 96) #[] #[ptr (w.heap.size + 1) 0, ptr w.heap.size 0], .func (.func 97) #[] #[ptr (w.heap.size + 1 + 1) 0, ptr w.heap.size 0], .func (.func 98) #[] #[ptr (w.heap.size + 1 + 1 + 1) 0, ptr w.heap.size 0], .func (.func 99) #[] #[ptr w.heap.size 0]] 55
  have hb := five_below w (.pointer (some a)) (.func (.func nm) #[] cm) (fun0 nu) (fun0 ng) 97 39 58 98 #[.nilFunc, .nilFunc, .nilFunc, .nilFunc] #[.func (.func 96) #[] #[ptr (w.heap.size + 1) 0, ptr w.heap.size 0], .func (.func 97) #[] #[ptr (w.heap.size + 1 + 1) 0, ptr w.heap.size 0], .func (.func 98) #[] #[ptr (w.heap.size + 1 + 1 + 1) 0, ptr w.heap.size 0], .func (.func 99) #[] #[ptr w.heap.size 0]] 55
  have hr := five_row w (.pointer (some a)) (.func (.func nm) #[] cm) (fun0 nu) (fun0 ng) 97 39 58 98 #[.nilFunc, .nilFunc, .nilFunc, .nilFunc] #[.func (.func 96) #[] #[ptr (w.heap.size + 1) 0, ptr w.heap.size 0], .func (.func 97) #[] #[ptr (w.heap.size + 1 + 1) 0, ptr w.heap.size 0], .func (.func 98) #[] #[ptr (w.heap.size + 1 + 1 + 1) 0, ptr w.heap.size 0], .func (.func 99) #[] #[ptr w.heap.size 0]] 55 HS.out
  have HZ := Lib.hid (five_zero w (.pointer (some a)) (.func (.func nm) #[] cm) (fun0 nu) (fun0 ng) 97 39 58 98 #[.nilFunc, .nilFunc, .nilFunc, .nilFunc] 55)
  obtain ⟨w5, hw5⟩ : ∃ w5, w5 = (((((w.alloc (.cells #[.pointer (some a)] 97)).alloc (.cells #[.func (.func nm) #[] cm] 39)).alloc (.cells #[fun0 nu] 58)).alloc (.cells #[fun0 ng] 98)).alloc (.cells #[.nilFunc, .nilFunc, .nilFunc, .nilFunc] 55)).setRow (w.heap.size + 1 + 1 + 1 + 1) #[.func (.func 96) #[] #[ptr (w.heap.size + 1) 0, ptr w.heap.size 0], .func (.func 97) #[] #[ptr (w.heap.size + 1 + 1) 0, ptr w.heap.size 0], .func (.func 98) #[] #[ptr (w.heap.size + 1 + 1 + 1) 0, ptr w.heap.size 0], .func (.func 99) #[] #[ptr w.heap.size 0]] := ⟨_, rfl⟩
  rw [← hw5] at c1 c2 c3 c4 hz hb hr
  have HW5 := Lib.hid hw5
  have HC := Lib.hid (show Below w.heap.size w w5 ∧ FBox w5 w.heap.size w5.heap.size w.heap.size (.pointer (some a)) ∧ FBox w5 w.heap.size w5.heap.size (w.heap.size + 1) (.func (.func nm) #[] cm) ∧ FBox w5 w.heap.size w5.heap.size (w.heap.size + 1 + 1) (fun0 nu) ∧ FBox w5 w.heap.size w5.heap.size (w.heap.size + 1 + 1 + 1) (fun0 ng) from
    ⟨hb, ⟨by omega, by omega, c1⟩, ⟨by omega, by omega, c2⟩, ⟨by omega, by omega, c3⟩, ⟨by omega, by omega, c4⟩⟩)
  have HR := Lib.hid hr
  clear hw5 c1 c2 c3 c4 hz hb hr
  go_enter Try.func72, Try.ntmps72
  go_wp2_with (refine wpList_store_row rfl 55 _ _ rfl (w.heap.size + 1 + 1 + 1 + 1) #[.func (.func 96) #[] #[ptr (w.heap.size + 1) 0, ptr w.heap.size 0], .func (.func 97) #[] #[ptr (w.heap.size + 1 + 1) 0, ptr w.heap.size 0], .func (.func 98) #[] #[ptr (w.heap.size + 1 + 1 + 1) 0, ptr w.heap.size 0], .func (.func 99) #[] #[ptr w.heap.size 0]] rfl rfl 55 #[.nilFunc, .nilFunc, .nilFunc, .nilFunc] HZ.out HI.out HS.out H1.out ?_; rw [← HW5.out])
  obtain ⟨h1, h2, h3, h4, h5⟩ := HC.out
  exact bodyPost_ret (results_cell_one (t := 55) (p := 8) rfl _ _ (w.heap.size + 1 + 1 + 1 + 1) _ (0, 0) _ rfl HR.out Try.underlying55 rfl HI.out) rfl ⟨_, rfl, h1, _, _, _, _, rfl, h2, h3, h4, h5⟩
set_option maxHeartbeats 2000000 in
theorem at_int (w : World) (a : Addr) (nm nu ng : Nat) (cm : Array Value) :
    Calls Try.prog 75 #[.pointer (some a), .func (.func nm) #[] cm, fun0 nu, fun0 ng] w fun e w' => ∃ fs, e = .returned (.agg fs.toArray) ∧ Below w.heap.size w w' ∧
      ∃ bp bm bu bg, fs = [.func (.func 100) #[] #[ptr bm 0, ptr bp 0], .func (.func 101) #[] #[ptr bu 0, ptr bp 0], .func (.func 102) #[] #[ptr bg 0, ptr bp 0], .func (.func 103) #[] #[ptr bp 0]] ∧
        FBox w' w.heap.size w'.heap.size bp (.pointer (some a)) ∧ FBox w' w.heap.size w'.heap.size bm (.func (.func nm) #[] cm) ∧ FBox w' w.heap.size w'.heap.size bu (fun0 nu) ∧ FBox w' w.heap.size w'.heap.size bg (fun0 ng) := by
  have HI := Lib.hid (show (Try.prog.info? 55).map (·.size) = some (#[.func (.func 100) #[] #[ptr (w.heap.size + 1) 0, ptr w.heap.size 0], .func (.func 101) #[] #[ptr (w.heap.size + 1 + 1) 0, ptr w.heap.size 0], .func (.func 102) #[] #[ptr (w.heap.size + 1 + 1 + 1) 0, ptr w.heap.size 0], .func (.func 103) #[] #[ptr w.heap.size 0]] : Array Value).size from sizeFld)
  have HS := Lib.hid (show (#[.nilFunc, .nilFunc, .nilFunc, .nilFunc] : Array Value).size = (#[.func (.func 100) #[] #[ptr (w.heap.size + 1) 0, ptr w.heap.size 0], .func (.func 101) #[] #[ptr (w.heap.size + 1 + 1) 0, ptr w.heap.size 0], .func (.func 102) #[] #[ptr (w.heap.size + 1 + 1 + 1) 0, ptr w.heap.size 0], .func (.func 103) #[] #[ptr w.heap.size 0]] : Array Value).size from rfl)
  have H1 := Lib.hid (show (#[.func (.func 100) #[] #[ptr (w.heap.size + 1) 0, ptr w.heap.size 0], .func (.func 101) #[] #[ptr (w.heap.size + 1 + 1) 0, ptr w.heap.size 0], .func (.func 102) #[] #[ptr (w.heap.size + 1 + 1 + 1) 0, ptr w.heap.size 0], .func (.func 103) #[] #[ptr w.heap.size 0]] : Array Value).all (·.oneCell') = true from by simp [Value.oneCell'])
  obtain ⟨c1, c2, c3, c4⟩ := five_at w (.pointer (some a)) (.func (.func nm) #[] cm) (fun0 nu) (fun0 ng) 100 62 56 101 #[.nilFunc, .nilFunc, .nilFunc, .nilFunc] #[.func (.func 100) #[] #[ptr (w.heap.size + 1) 0, ptr w.heap.size 0], .func (.func 101) #[] #[ptr (w.heap.size + 1 + 1) 0, ptr w.heap.size 0], .func (.func 102) #[] #[ptr (w.heap.size + 1 + 1 + 1) 0, ptr w.heap.size 0], .func (.func 103) #[] #[ptr w.heap.size 0]] 55
  have hz := five_size w (.pointer (some a)) (.func (.func nm) #[] cm) (fun0 nu) (fun0 ng) 100 62 56 101 #[.nilFunc, .nilFunc, .nilFunc, .nilFunc] #[.func (.func 100) #[] #[ptr (w.heap.size + 1) 0, ptr w.heap.size 0], .func (.func 101) #[] #[ptr (w.heap.size + 1 + 1) 0, ptr w.heap.size 0], .func (.func 102) #[] #[ptr (w.heap.size + 1 + 1 + 1) 0, ptr w.heap.size 0], .func (.func 103) #[] #[ptr w.heap.size 0]] 55
  have hb := five_below w (.pointer (some a)) (.func (.func nm) #[] cm) (fun0 nu) (fun0 ng) 100 62 56 101 #[.nilFunc, .nilFunc, .nilFunc, .nilFunc] #[.func (.func 100) #[] #[ptr (w.heap.size + 1) 0, ptr w.heap.size 0], .func (.func 101) #[] #[ptr (w.heap.size + 1 + 1) 0, ptr w.heap.size 0], .func (.func 102) #[] #[ptr (w.heap.size + 1 + 1 + 1) 0, ptr w.heap.size 0], .func (.func 103) #[] #[ptr w.heap.size 0]] 55
  have hr := five_row w (.pointer (some a)) (.func (.func nm) #[] cm) (fun0 nu) (fun0 ng) 100 62 56 101 #[.nilFunc, .nilFunc, .nilFunc, .nilFunc] #[.func (.func 100) #[] #[ptr (w.heap.size + 1) 0, ptr w.heap.size 0], .func (.func 101) #[] #[ptr (w.heap.size + 1 + 1) 0, ptr w.heap.size 0], .func (.func 102) #[] #[ptr (w.heap.size + 1 + 1 + 1) 0, ptr w.heap.size 0], .func (.func 103) #[] #[ptr w.heap.size 0]] 55 HS.out
  have HZ := Lib.hid (five_zero w (.pointer (some a)) (.func (.func nm) #[] cm) (fun0 nu) (fun0 ng) 100 62 56 101 #[.nilFunc, .nilFunc, .nilFunc, .nilFunc] 55)
  obtain ⟨w5, hw5⟩ : ∃ w5, w5 = (((((w.alloc (.cells #[.pointer (some a)] 100)).alloc (.cells #[.func (.func nm) #[] cm] 62)).alloc (.cells #[fun0 nu] 56)).alloc (.cells #[fun0 ng] 101)).alloc (.cells #[.nilFunc, .nilFunc, .nilFunc, .nilFunc] 55)).setRow (w.heap.size + 1 + 1 + 1 + 1) #[.func (.func 100) #[] #[ptr (w.heap.size + 1) 0, ptr w.heap.size 0], .func (.func 101) #[] #[ptr (w.heap.size + 1 + 1) 0, ptr w.heap.size 0], .func (.func 102) #[] #[ptr (w.heap.size + 1 + 1 + 1) 0, ptr w.heap.size 0], .func (.func 103) #[] #[ptr w.heap.size 0]] := ⟨_, rfl⟩
  rw [← hw5] at c1 c2 c3 c4 hz hb hr
  have HW5 := Lib.hid hw5
  have HC := Lib.hid (show Below w.heap.size w w5 ∧ FBox w5 w.heap.size w5.heap.size w.heap.size (.pointer (some a)) ∧ FBox w5 w.heap.size w5.heap.size (w.heap.size + 1) (.func (.func nm) #[] cm) ∧ FBox w5 w.heap.size w5.heap.size (w.heap.size + 1 + 1) (fun0 nu) ∧ FBox w5 w.heap.size w5.heap.size (w.heap.size + 1 + 1 + 1) (fun0 ng) from
    ⟨hb, ⟨by omega, by omega, c1⟩, ⟨by omega, by omega, c2⟩, ⟨by omega, by omega, c3⟩, ⟨by omega, by omega, c4⟩⟩)
  have HR := Lib.hid hr
  clear hw5 c1 c2 c3 c4 hz hb hr
  go_enter Try.func75, Try.ntmps75
  go_wp2_with (refine wpList_store_row rfl 55 _ _ rfl (w.heap.size + 1 + 1 + 1 + 1) #[.func (.func 100) #[] #[ptr (w.heap.size + 1) 0, ptr w.heap.size 0], .func (.func 101) #[] #[ptr (w.heap.size + 1 + 1) 0, ptr w.heap.size 0], .func (.func 102) #[] #[ptr (w.heap.size + 1 + 1 + 1) 0, ptr w.heap.size 0], .func (.func 103) #[] #[ptr w.heap.size 0]] rfl rfl 55 #[.nilFunc, .nilFunc, .nilFunc, .nilFunc] HZ.out HI.out HS.out H1.out ?_; rw [← HW5.out])
  obtain ⟨h1, h2, h3, h4, h5⟩ := HC.out
  exact bodyPost_ret (results_cell_one (t := 55) (p := 8) rfl _ _ (w.heap.size + 1 + 1 + 1 + 1) _ (0, 0) _ rfl HR.out Try.underlying55 rfl HI.out) rfl ⟨_, rfl, h1, _, _, _, _, rfl, h2, h3, h4, h5⟩
set_option maxHeartbeats 2000000 in
theorem at_bool (w : World) (a : Addr) (nm nu ng : Nat) (cm : Array Value) :
    Calls Try.prog 81 #[.pointer (some a), .func (.func nm) #[] cm, fun0 nu, fun0 ng] w fun e w' => ∃ fs, e = .returned (.agg fs.toArray) ∧ Below w.heap.size w w' ∧
      ∃ bp bm bu bg, fs = [.func (.func 105) #[] #[ptr bm 0, ptr bp 0], .func (.func 106) #[] #[ptr bu 0, ptr bp 0], .func (.func 107) #[] #[ptr bg 0, ptr bp 0], .func (.func 108) #[] #[ptr bp 0]] ∧
        FBox w' w.heap.size w'.heap.size bp (.pointer (some a)) ∧ FBox w' w.heap.size w'.heap.size bm (.func (.func nm) #[] cm) ∧ FBox w' w.heap.size w'.heap.size bu (fun0 nu) ∧ FBox w' w.heap.size w'.heap.size bg (fun0 ng) := by
  have HI := Lib.hid (show (Try.prog.info? 55).map (·.size) = some (#[.func (.func 105) #[] #[ptr (w.heap.size + 1) 0, ptr w.heap.size 0], .func (.func 106) #[] #[ptr (w.heap.size + 1 + 1) 0, ptr w.heap.size 0], .func (.func 107) #[] #[ptr (w.heap.size + 1 + 1 + 1) 0, ptr w.heap.size 0], .func (.func 108) #[] #[ptr w.heap.size 0]] : Array Value).size from sizeFld)
  have HS := Lib.hid (show (#[.nilFunc, .nilFunc, .nilFunc, .nilFunc] : Array Value).size = (#[.func (.func 105) #[] #[ptr (w.heap.size + 1) 0, ptr w.heap.size 0], .func (.func 106) #[] #[ptr (w.heap.size + 1 + 1) 0, ptr w.heap.size 0], .func (.func 107) #[] #[ptr (w.heap.size + 1 + 1 + 1) 0, ptr w.heap.size 0], .func (.func 108) #[] #[ptr w.heap.size 0]] : Array Value).size from rfl)
  have H1 := Lib.hid (show (#[.func (.func 105) #[] #[ptr (w.heap.size + 1) 0, ptr w.heap.size 0], .func (.func 106) #[] #[ptr (w.heap.size + 1 + 1) 0, ptr w.heap.size 0], .func (.func 107) #[] #[ptr (w.heap.size + 1 + 1 + 1) 0, ptr w.heap.size 0], .func (.func 108) #[] #[ptr w.heap.size 0]] : Array Value).all (·.oneCell') = true from by simp [Value.oneCell'])
  obtain ⟨c1, c2, c3, c4⟩ := five_at w (.pointer (some a)) (.func (.func nm) #[] cm) (fun0 nu) (fun0 ng) 104 102 105 106 #[.nilFunc, .nilFunc, .nilFunc, .nilFunc] #[.func (.func 105) #[] #[ptr (w.heap.size + 1) 0, ptr w.heap.size 0], .func (.func 106) #[] #[ptr (w.heap.size + 1 + 1) 0, ptr w.heap.size 0], .func (.func 107) #[] #[ptr (w.heap.size + 1 + 1 + 1) 0, ptr w.heap.size 0], .func (.func 108) #[] #[ptr w.heap.size 0]] 55
  have hz := five_size w (.pointer (some a)) (.func (.func nm) #[] cm) (fun0 nu) (fun0 ng) 104 102 105 106 #[.nilFunc, .nilFunc, .nilFunc, .nilFunc] #[.func (.func 105) #[] #[ptr (w.heap.size + 1) 0, ptr w.heap.size 0], .func (.func 106) #[] #[ptr (w.heap.size + 1 + 1) 0, ptr w.heap.size 0], .func (.func 107) #[] #[ptr (w.heap.size + 1 + 1 + 1) 0, ptr w.heap.size 0], .func (.func 108) #[] #[ptr w.heap.size 0]] 55
  have hb := five_below w (.pointer (some a)) (.func (.func nm) #[] cm) (fun0 nu) (fun0 ng) 104 102 105 106 #[.nilFunc, .nilFunc, .nilFunc, .nilFunc] #[.func (.func 105) #[] #[ptr (w.heap.size + 1) 0, ptr w.heap.size 0], .func (.func 106) #[] #[ptr (w.heap.size + 1 + 1) 0, ptr w.heap.size 0], .func (.func 107) #[] #[ptr (w.heap.size + 1 + 1 + 1) 0, ptr w.heap.size 0], .func (.func 108) #[] #[ptr w.heap.size 0]] 55
  have hr := five_row w (.pointer (some a)) (.func (.func nm) #[] cm) (fun0 nu) (fun0 ng) 104 102 105 106 #[.nilFunc, .nilFunc, .nilFunc, .nilFunc] #[.func (.func 105) #[] #[ptr (w.heap.size + 1) 0, ptr w.heap.size 0], .func (.func 106) #[] #[ptr (w.heap.size + 1 + 1) 0, ptr w.heap.size 0], .func (.func 107) #[] #[ptr (w.heap.size + 1 + 1 + 1) 0, ptr w.heap.size 0], .func (.func 108) #[] #[ptr w.heap.size 0]] 55 HS.out
  have HZ := Lib.hid (five_zero w (.pointer (some a)) (.func (.func nm) #[] cm) (fun0 nu) (fun0 ng) 104 102 105 106 #[.nilFunc, .nilFunc, .nilFunc, .nilFunc] 55)
  obtain ⟨w5, hw5⟩ : ∃ w5, w5 = (((((w.alloc (.cells #[.pointer (some a)] 104)).alloc (.cells #[.func (.func nm) #[] cm] 102)).alloc (.cells #[fun0 nu] 105)).alloc (.cells #[fun0 ng] 106)).alloc (.cells #[.nilFunc, .nilFunc, .nilFunc, .nilFunc] 55)).setRow (w.heap.size + 1 + 1 + 1 + 1) #[.func (.func 105) #[] #[ptr (w.heap.size + 1) 0, ptr w.heap.size 0], .func (.func 106) #[] #[ptr (w.heap.size + 1 + 1) 0, ptr w.heap.size 0], .func (.func 107) #[] #[ptr (w.heap.size + 1 + 1 + 1) 0, ptr w.heap.size 0], .func (.func 108) #[] #[ptr w.heap.size 0]] := ⟨_, rfl⟩
  rw [← hw5] at c1 c2 c3 c4 hz hb hr
  have HW5 := Lib.hid hw5
  have HC := Lib.hid (show Below w.heap.size w w5 ∧ FBox w5 w.heap.size w5.heap.size w.heap.size (.pointer (some a)) ∧ FBox w5 w.heap.size w5.heap.size (w.heap.size + 1) (.func (.func nm) #[] cm) ∧ FBox w5 w.heap.size w5.heap.size (w.heap.size + 1 + 1) (fun0 nu) ∧ FBox w5 w.heap.size w5.heap.size (w.heap.size + 1 + 1 + 1) (fun0 ng) from
    ⟨hb, ⟨by omega, by omega, c1⟩, ⟨by omega, by omega, c2⟩, ⟨by omega, by omega, c3⟩, ⟨by omega, by omega, c4⟩⟩)
  have HR := Lib.hid hr
  clear hw5 c1 c2 c3 c4 hz hb hr
  go_enter Try.func81, Try.ntmps81
  go_wp2_with (refine wpList_store_row rfl 55 _ _ rfl (w.heap.size + 1 + 1 + 1 + 1) #[.func (.func 105) #[] #[ptr (w.heap.size + 1) 0, ptr w.heap.size 0], .func (.func 106) #[] #[ptr (w.heap.size + 1 + 1) 0, ptr w.heap.size 0], .func (.func 107) #[] #[ptr (w.heap.size + 1 + 1 + 1) 0, ptr w.heap.size 0], .func (.func 108) #[] #[ptr w.heap.size 0]] rfl rfl 55 #[.nilFunc, .nilFunc, .nilFunc, .nilFunc] HZ.out HI.out HS.out H1.out ?_; rw [← HW5.out])
  obtain ⟨h1, h2, h3, h4, h5⟩ := HC.out
  exact bodyPost_ret (results_cell_one (t := 55) (p := 8) rfl _ _ (w.heap.size + 1 + 1 + 1 + 1) _ (0, 0) _ rfl HR.out Try.underlying55 rfl HI.out) rfl ⟨_, rfl, h1, _, _, _, _, rfl, h2, h3, h4, h5⟩
set_option maxHeartbeats 2000000 in
theorem at_change (w : World) (a : Addr) (nm nu ng : Nat) (cm : Array Value) :
    Calls Try.prog 85 #[.pointer (some a), .func (.func nm) #[] cm, fun0 nu, fun0 ng] w fun e w' => ∃ fs, e = .returned (.agg fs.toArray) ∧ Below w.heap.size w w' ∧
      ∃ bp bm bu bg, fs = [.func (.func 109) #[] #[ptr bm 0, ptr bp 0], .func (.func 110) #[] #[ptr bu 0, ptr bp 0], .func (.func 111) #[] #[ptr bg 0, ptr bp 0], .func (.func 112) #[] #[ptr bp 0]] ∧
        FBox w' w.heap.size w'.heap.size bp (.pointer (some a)) ∧ FBox w' w.heap.size w'.heap.size bm (.func (.func nm) #[] cm) ∧ FBox w' w.heap.size w'.heap.size bu (fun0 nu) ∧ FBox w' w.heap.size w'.heap.size bg (fun0 ng) := by
  have HI := Lib.hid (show (Try.prog.info? 55).map (·.size) = some (#[.func (.func 109) #[] #[ptr (w.heap.size + 1) 0, ptr w.heap.size 0], .func (.func 110) #[] #[ptr (w.heap.size + 1 + 1) 0, ptr w.heap.size 0], .func (.func 111) #[] #[ptr (w.heap.size + 1 + 1 + 1) 0, ptr w.heap.size 0], .func (.func 112) #[] #[ptr w.heap.size 0]] : Array Value).size from sizeFld)
  have HS := Lib.hid (show (#[.nilFunc, .nilFunc, .nilFunc, .nilFunc] : Array Value).size = (#[.func (.func 109) #[] #[ptr (w.heap.size + 1) 0, ptr w.heap.size 0], .func (.func 110) #[] #[ptr (w.heap.size + 1 + 1) 0, ptr w.heap.size 0], .func (.func 111) #[] #[ptr (w.heap.size + 1 + 1 + 1) 0, ptr w.heap.size 0], .func (.func 112) #[] #[ptr w.heap.size 0]] : Array Value).size from rfl)
  have H1 := Lib.hid (show (#[.func (.func 109) #[] #[ptr (w.heap.size + 1) 0, ptr w.heap.size 0], .func (.func 110) #[] #[ptr (w.heap.size + 1 + 1) 0, ptr w.heap.size 0], .func (.func 111) #[] #[ptr (w.heap.size + 1 + 1 + 1) 0, ptr w.heap.size 0], .func (.func 112) #[] #[ptr w.heap.size 0]] : Array Value).all (·.oneCell') = true from by simp [Value.oneCell'])
  obtain ⟨c1, c2, c3, c4⟩ := five_at w (.pointer (some a)) (.func (.func nm) #[] cm) (fun0 nu) (fun0 ng) 108 63 109 110 #[.nilFunc, .nilFunc, .nilFunc, .nilFunc] #[.func (.func 109) #[] #[ptr (w.heap.size + 1) 0, ptr w.heap.size 0], .func (.func 110) #[] #[ptr (w.heap.size + 1 + 1) 0, ptr w.heap.size 0], .func (.func 111) #[] #[ptr (w.heap.size + 1 + 1 + 1) 0, ptr w.heap.size 0], .func (.func 112) #[] #[ptr w.heap.size 0]] 55
  have hz := five_size w (.pointer (some a)) (.func (.func nm) #[] cm) (fun0 nu) (fun0 ng) 108 63 109 110 #[.nilFunc, .nilFunc, .nilFunc, .nilFunc] #[.func (.func 109) #[] #[ptr (w.heap.size + 1) 0, ptr w.heap.size 0], .func (.func 110) #[] #[ptr (w.heap.size + 1 + 1) 0, ptr w.heap.size 0], .func (.func 111) #[] #[ptr (w.heap.size + 1 + 1 + 1) 0, ptr w.heap.size 0], .func (.func 112) #[] #[ptr w.heap.size 0]] 55
  have hb := five_below w (.pointer (some a)) (.func (.func nm) #[] cm) (fun0 nu) (fun0 ng) 108 63 109 110 #[.nilFunc, .nilFunc, .nilFunc, .nilFunc] #[.func (.func 109) #[] #[ptr (w.heap.size + 1) 0, ptr w.heap.size 0], .func (.func 110) #[] #[ptr (w.heap.size + 1 + 1) 0, ptr w.heap.size 0], .func (.func 111) #[] #[ptr (w.heap.size + 1 + 1 + 1) 0, ptr w.heap.size 0], .func (.func 112) #[] #[ptr w.heap.size 0]] 55
  have hr := five_row w (.pointer (some a)) (.func (.func nm) #[] cm) (fun0 nu) (fun0 ng) 108 63 109 110 #[.nilFunc, .nilFunc, .nilFunc, .nilFunc] #[.func (.func 109) #[] #[ptr (w.heap.size + 1) 0, ptr w.heap.size 0], .func (.func 110) #[] #[ptr (w.heap.size + 1 + 1) 0, ptr w.heap.size 0], .func (.func 111) #[] #[ptr (w.heap.size + 1 + 1 + 1) 0, ptr w.heap.size 0], .func (.func 112) #[] #[ptr w.heap.size 0]] 55 HS.out
  have HZ := Lib.hid (five_zero w (.pointer (some a)) (.func (.func nm) #[] cm) (fun0 nu) (fun0 ng) 108 63 109 110 #[.nilFunc, .nilFunc, .nilFunc, .nilFunc] 55)
  obtain ⟨w5, hw5⟩ : ∃ w5, w5 = (((((w.alloc (.cells #[.pointer (some a)] 108)).alloc (.cells #[.func (.func nm) #[] cm] 63)).alloc (.cells #[fun0 nu] 109)).alloc (.cells #[fun0 ng] 110)).alloc (.cells #[.nilFunc, .nilFunc, .nilFunc, .nilFunc] 55)).setRow (w.heap.size + 1 + 1 + 1 + 1) #[.func (.func 109) #[] #[ptr (w.heap.size + 1) 0, ptr w.heap.size 0], .func (.func 110) #[] #[ptr (w.heap.size + 1 + 1) 0, ptr w.heap.size 0], .func (.func 111) #[] #[ptr (w.heap.size + 1 + 1 + 1) 0, ptr w.heap.size 0], .func (.func 112) #[] #[ptr w.heap.size 0]] := ⟨_, rfl⟩
  rw [← hw5] at c1 c2 c3 c4 hz hb hr
  have HW5 := Lib.hid hw5
  have HC := Lib.hid (show Below w.heap.size w w5 ∧ FBox w5 w.heap.size w5.heap.size w.heap.size (.pointer (some a)) ∧ FBox w5 w.heap.size w5.heap.size (w.heap.size + 1) (.func (.func nm) #[] cm) ∧ FBox w5 w.heap.size w5.heap.size (w.heap.size + 1 + 1) (fun0 nu) ∧ FBox w5 w.heap.size w5.heap.size (w.heap.size + 1 + 1 + 1) (fun0 ng) from
    ⟨hb, ⟨by omega, by omega, c1⟩, ⟨by omega, by omega, c2⟩, ⟨by omega, by omega, c3⟩, ⟨by omega, by omega, c4⟩⟩)
  have HR := Lib.hid hr
  clear hw5 c1 c2 c3 c4 hz hb hr
  go_enter Try.func85, Try.ntmps85
  go_wp2_with (refine wpList_store_row rfl 55 _ _ rfl (w.heap.size + 1 + 1 + 1 + 1) #[.func (.func 109) #[] #[ptr (w.heap.size + 1) 0, ptr w.heap.size 0], .func (.func 110) #[] #[ptr (w.heap.size + 1 + 1) 0, ptr w.heap.size 0], .func (.func 111) #[] #[ptr (w.heap.size + 1 + 1 + 1) 0, ptr w.heap.size 0], .func (.func 112) #[] #[ptr w.heap.size 0]] rfl rfl 55 #[.nilFunc, .nilFunc, .nilFunc, .nilFunc] HZ.out HI.out HS.out H1.out ?_; rw [← HW5.out])
  obtain ⟨h1, h2, h3, h4, h5⟩ := HC.out
  exact bodyPost_ret (results_cell_one (t := 55) (p := 8) rfl _ _ (w.heap.size + 1 + 1 + 1 + 1) _ (0, 0) _ rfl HR.out Try.underlying55 rfl HI.out) rfl ⟨_, rfl, h1, _, _, _, _, rfl, h2, h3, h4, h5⟩
end Go.Proofs.Ytaokhbodmodcgaa
end
