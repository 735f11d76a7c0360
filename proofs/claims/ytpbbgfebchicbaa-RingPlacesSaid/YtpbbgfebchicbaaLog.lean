/-
  Package ring, by contract: May, Used, Free, Has.
-/
import Derived.Test.YtpbbgfebchicbaaRing
namespace Go.Proofs.Ytpbbgfebchicbaa
open Go.RowKit

set_option maxHeartbeats 1000000 in
theorem may_any (t n : Int) (w : World) :
    Calls Try.prog 4 #[.agg #[.int .i64 t, .int .i64 n]] w fun e w' => e = .returned (.bool (mayB t n)) ∧ Below w.heap.size w w' := by
  cases h : seqB t
  · have HB0 := Lib.hid ((Below.refl w.heap.size w).alloc (Nat.le_refl _) (.cells #[.int .i64 t, .int .i64 n] 23))
    have HS := Lib.hid (show ∀ W, Below (w.heap.size + 1) (w.alloc (.cells #[.int .i64 t, .int .i64 n] 23)) W → W.cell? ⟨w.heap.size, 0, none⟩ = some (.int .i64 t) ∧ W.cell? ⟨w.heap.size, 1, none⟩ = some (.int .i64 n) from fun W hb => by
      have hc : ∀ j, W.cell? ⟨w.heap.size, j, none⟩ = _ := fun j => (hb.cell (p := ⟨w.heap.size, j, none⟩) (by simp)).trans (cell_of_row (w.alloc (.cells #[.int .i64 t, .int .i64 n] 23)) w.heap.size j _ _ _ (heap_alloc_new w _))
      exact ⟨hc 0, hc 1⟩)
    have HZ := Lib.hid (show (w.alloc (.cells #[.int .i64 t, .int .i64 n] 23)).heap.size = w.heap.size + 1 by simp)
    go_enter Try.func4, Try.ntmps4
    go_wp2_with fail
    generalize (w.alloc (.cells #[.int .i64 t, .int .i64 n] 23)) = w1 at *
    refine wp_region_held_drew (S := fun W => W.cell? ⟨w.heap.size, 0, none⟩ = some (.int .i64 t) ∧ W.cell? ⟨w.heap.size, 1, none⟩ = some (.int .i64 n)) (by kernel_rfl) (HS.out _ (Below.refl _ _).drew) (fun hHeld => ?_)
    refine wpAnyH_take (i := 1) (v := ?_) rfl (by kernel_rfl) (by kernel_rfl) (by kernel_rfl) (fun _ _ _ h => h) (Or.inl ⟨by rfl, ?_⟩) (by assumption) ?_
    rotate_left
    · simp only [List.getElem_toArray, List.getElem_cons_zero, List.getElem_cons_succ]; intro W hSw; (try dsimp only at hSw); go_simp; all_goals with_reducible rfl
    simp only [Act.put, List.getElem_toArray, List.getElem_cons_zero, List.getElem_cons_succ, List.setIfInBounds_toArray, List.set_cons_zero, List.set_cons_succ]
    refine wpAnyH_take (i := 2) (v := ?_) rfl (by kernel_rfl) (by kernel_rfl) (by kernel_rfl) (fun _ _ _ h => h) (Or.inl ⟨by rfl, ?_⟩) (by assumption) ?_
    rotate_left
    · simp only [List.getElem_toArray, List.getElem_cons_zero, List.getElem_cons_succ]; intro W hSw; (try dsimp only at hSw); go_simp; all_goals with_reducible rfl
    simp only [Act.put, List.getElem_toArray, List.getElem_cons_zero, List.getElem_cons_succ, List.setIfInBounds_toArray, List.set_cons_zero, List.set_cons_succ]
    refine wpAnyH_ready (rs := [0]) (by kernel_rfl) (by simp) ?_
    refine AllReadyH.cons rfl (fun K hK => ?_) AllReadyH.nil
    simp only [List.getElem_toArray, List.getElem_cons_zero, List.getElem_cons_succ]
    go_simp
    refine (sequence_any _).mono ?_
    rintro e w2 ⟨rfl, hb2⟩
    go_wp2_with fail
    have HB2 := Lib.hid ((Below.refl w1.heap.size w1).drew.trans hb2)
    refine hK.out _ _ (HS.out _ (by have := HB2.out; rw [HZ.out] at this; exact this)) (fun hHeldN => ?_)
    clear hK K hHeld
    have hHeld := hHeldN
    clear hHeldN
    (try simp only [Act.put, List.getElem_toArray, List.getElem_cons_zero, List.getElem_cons_succ, List.setIfInBounds_toArray, List.set_cons_zero, List.set_cons_succ])
    refine wpAnyH_ready (rs := [3]) (by kernel_rfl) (by simp) ?_
    refine AllReadyH.cons rfl (fun K hK => ?_) AllReadyH.nil
    simp only [List.getElem_toArray, List.getElem_cons_zero, List.getElem_cons_succ]
    go_simp
    refine (has_any _ _ _ _).mono ?_
    rintro e w3 ⟨rfl, hb3⟩
    rw [show (decide (1 ≤ t) && decide (t ≤ 1099511627776)) = false from h]
    go_wp2_with fail
    have HB3 := Lib.hid (HB2.out.trans (hb3.mono HB2.out.size))
    refine hK.out _ _ (HS.out _ (by have := HB3.out; rw [HZ.out] at this; exact this)) (fun hHeldN => ?_)
    clear hK K hHeld
    have hHeld := hHeldN
    clear hHeldN
    (try simp only [Act.put, List.getElem_toArray, List.getElem_cons_zero, List.getElem_cons_succ, List.setIfInBounds_toArray, List.set_cons_zero, List.set_cons_succ])
    refine wpAnyH_take (i := 4) (v := ?_) rfl (by kernel_rfl) (by kernel_rfl) (by kernel_rfl) (fun _ _ _ h => h) (Or.inl ⟨by rfl, ?_⟩) (by assumption) ?_
    rotate_left
    · simp only [List.getElem_toArray, List.getElem_cons_zero, List.getElem_cons_succ]; intro W hSw; (try dsimp only at hSw); go_simp; all_goals with_reducible rfl
    simp only [Act.put, List.getElem_toArray, List.getElem_cons_zero, List.getElem_cons_succ, List.setIfInBounds_toArray, List.set_cons_zero, List.set_cons_succ]
    refine wpAnyH_take (i := 5) (v := undef) rfl (by kernel_rfl) (by kernel_rfl) (by kernel_rfl) (fun _ _ _ h => h) (Or.inr ⟨by rfl, rfl⟩) (by assumption) ?_
    (try simp only [Act.put, List.getElem_toArray, List.getElem_cons_zero, List.getElem_cons_succ, List.setIfInBounds_toArray, List.set_cons_zero, List.set_cons_succ])
    refine wpAnyH_take (i := 6) (v := undef) rfl (by kernel_rfl) (by kernel_rfl) (by kernel_rfl) (fun _ _ _ h => h) (Or.inr ⟨by rfl, rfl⟩) (by assumption) ?_
    (try simp only [Act.put, List.getElem_toArray, List.getElem_cons_zero, List.getElem_cons_succ, List.setIfInBounds_toArray, List.set_cons_zero, List.set_cons_succ])
    refine wpAnyH_take (i := 7) (v := undef) rfl (by kernel_rfl) (by kernel_rfl) (by kernel_rfl) (fun _ _ _ h => h) (Or.inr ⟨by rfl, rfl⟩) (by assumption) ?_
    (try simp only [Act.put, List.getElem_toArray, List.getElem_cons_zero, List.getElem_cons_succ, List.setIfInBounds_toArray, List.set_cons_zero, List.set_cons_succ])
    refine wpAnyH_take (i := 8) (v := undef) rfl (by kernel_rfl) (by kernel_rfl) (by kernel_rfl) (fun _ _ _ h => h) (Or.inr ⟨by rfl, rfl⟩) (by assumption) ?_
    (try simp only [Act.put, List.getElem_toArray, List.getElem_cons_zero, List.getElem_cons_succ, List.setIfInBounds_toArray, List.set_cons_zero, List.set_cons_succ])
    refine wpAnyH_take (i := 9) (v := undef) rfl (by kernel_rfl) (by kernel_rfl) (by kernel_rfl) (fun _ _ _ h => h) (Or.inr ⟨by rfl, rfl⟩) (by assumption) ?_
    (try simp only [Act.put, List.getElem_toArray, List.getElem_cons_zero, List.getElem_cons_succ, List.setIfInBounds_toArray, List.set_cons_zero, List.set_cons_succ])
    refine wpAnyH_take (i := 10) (v := ?_) rfl (by kernel_rfl) (by kernel_rfl) (by kernel_rfl) (fun _ _ _ h => h) (Or.inl ⟨by rfl, ?_⟩) (by assumption) ?_
    rotate_left
    · simp only [List.getElem_toArray, List.getElem_cons_zero, List.getElem_cons_succ]; intro W hSw; (try dsimp only at hSw); go_simp; all_goals with_reducible rfl
    simp only [Act.put, List.getElem_toArray, List.getElem_cons_zero, List.getElem_cons_succ, List.setIfInBounds_toArray, List.set_cons_zero, List.set_cons_succ]
    refine wpAnyH_take (i := 11) (v := ?_) rfl (by kernel_rfl) (by kernel_rfl) (by kernel_rfl) (fun _ _ _ h => h) (Or.inl ⟨by rfl, ?_⟩) (by assumption) ?_
    rotate_left
    · simp only [List.getElem_toArray, List.getElem_cons_zero, List.getElem_cons_succ]; intro W hSw; (try dsimp only at hSw); go_simp; all_goals with_reducible rfl
    simp only [Act.put, List.getElem_toArray, List.getElem_cons_zero, List.getElem_cons_succ, List.setIfInBounds_toArray, List.set_cons_zero, List.set_cons_succ]
    refine wpAnyH_done (by kernel_rfl) ?_ _
    go_wp2
    go_ret
    exact ⟨by unfold mayB; rw [h]; rfl, HB0.out.trans (HB3.out.mono HB0.out.size)⟩
  · have hR := fun w => room_any t n w (by unfold seqB at h; simpa using h)
    have HB0 := Lib.hid ((Below.refl w.heap.size w).alloc (Nat.le_refl _) (.cells #[.int .i64 t, .int .i64 n] 23))
    have HS := Lib.hid (show ∀ W, Below (w.heap.size + 1) (w.alloc (.cells #[.int .i64 t, .int .i64 n] 23)) W → W.cell? ⟨w.heap.size, 0, none⟩ = some (.int .i64 t) ∧ W.cell? ⟨w.heap.size, 1, none⟩ = some (.int .i64 n) from fun W hb => by
      have hc : ∀ j, W.cell? ⟨w.heap.size, j, none⟩ = _ := fun j => (hb.cell (p := ⟨w.heap.size, j, none⟩) (by simp)).trans (cell_of_row (w.alloc (.cells #[.int .i64 t, .int .i64 n] 23)) w.heap.size j _ _ _ (heap_alloc_new w _))
      exact ⟨hc 0, hc 1⟩)
    have HZ := Lib.hid (show (w.alloc (.cells #[.int .i64 t, .int .i64 n] 23)).heap.size = w.heap.size + 1 by simp)
    go_enter Try.func4, Try.ntmps4
    go_wp2_with fail
    generalize (w.alloc (.cells #[.int .i64 t, .int .i64 n] 23)) = w1 at *
    refine wp_region_held_drew (S := fun W => W.cell? ⟨w.heap.size, 0, none⟩ = some (.int .i64 t) ∧ W.cell? ⟨w.heap.size, 1, none⟩ = some (.int .i64 n)) (by kernel_rfl) (HS.out _ (Below.refl _ _).drew) (fun hHeld => ?_)
    refine wpAnyH_take (i := 1) (v := ?_) rfl (by kernel_rfl) (by kernel_rfl) (by kernel_rfl) (fun _ _ _ h => h) (Or.inl ⟨by rfl, ?_⟩) (by assumption) ?_
    rotate_left
    · simp only [List.getElem_toArray, List.getElem_cons_zero, List.getElem_cons_succ]; intro W hSw; (try dsimp only at hSw); go_simp; all_goals with_reducible rfl
    simp only [Act.put, List.getElem_toArray, List.getElem_cons_zero, List.getElem_cons_succ, List.setIfInBounds_toArray, List.set_cons_zero, List.set_cons_succ]
    refine wpAnyH_take (i := 2) (v := ?_) rfl (by kernel_rfl) (by kernel_rfl) (by kernel_rfl) (fun _ _ _ h => h) (Or.inl ⟨by rfl, ?_⟩) (by assumption) ?_
    rotate_left
    · simp only [List.getElem_toArray, List.getElem_cons_zero, List.getElem_cons_succ]; intro W hSw; (try dsimp only at hSw); go_simp; all_goals with_reducible rfl
    simp only [Act.put, List.getElem_toArray, List.getElem_cons_zero, List.getElem_cons_succ, List.setIfInBounds_toArray, List.set_cons_zero, List.set_cons_succ]
    refine wpAnyH_ready (rs := [0]) (by kernel_rfl) (by simp) ?_
    refine AllReadyH.cons rfl (fun K hK => ?_) AllReadyH.nil
    simp only [List.getElem_toArray, List.getElem_cons_zero, List.getElem_cons_succ]
    go_simp
    refine (sequence_any _).mono ?_
    rintro e w2 ⟨rfl, hb2⟩
    go_wp2_with fail
    have HB2 := Lib.hid ((Below.refl w1.heap.size w1).drew.trans hb2)
    refine hK.out _ _ (HS.out _ (by have := HB2.out; rw [HZ.out] at this; exact this)) (fun hHeldN => ?_)
    clear hK K hHeld
    have hHeld := hHeldN
    clear hHeldN
    (try simp only [Act.put, List.getElem_toArray, List.getElem_cons_zero, List.getElem_cons_succ, List.setIfInBounds_toArray, List.set_cons_zero, List.set_cons_succ])
    refine wpAnyH_ready (rs := [3]) (by kernel_rfl) (by simp) ?_
    refine AllReadyH.cons rfl (fun K hK => ?_) AllReadyH.nil
    simp only [List.getElem_toArray, List.getElem_cons_zero, List.getElem_cons_succ]
    go_simp
    refine (has_any _ _ _ _).mono ?_
    rintro e w3 ⟨rfl, hb3⟩
    rw [show (decide (1 ≤ t) && decide (t ≤ 1099511627776)) = true from h]
    go_wp2_with fail
    have HB3 := Lib.hid (HB2.out.trans (hb3.mono HB2.out.size))
    refine hK.out _ _ (HS.out _ (by have := HB3.out; rw [HZ.out] at this; exact this)) (fun hHeldN => ?_)
    clear hK K hHeld
    have hHeld := hHeldN
    clear hHeldN
    (try simp only [Act.put, List.getElem_toArray, List.getElem_cons_zero, List.getElem_cons_succ, List.setIfInBounds_toArray, List.set_cons_zero, List.set_cons_succ])
    refine wpAnyH_take (i := 4) (v := ?_) rfl (by kernel_rfl) (by kernel_rfl) (by kernel_rfl) (fun _ _ _ h => h) (Or.inl ⟨by rfl, ?_⟩) (by assumption) ?_
    rotate_left
    · simp only [List.getElem_toArray, List.getElem_cons_zero, List.getElem_cons_succ]; intro W hSw; (try dsimp only at hSw); go_simp; all_goals with_reducible rfl
    simp only [Act.put, List.getElem_toArray, List.getElem_cons_zero, List.getElem_cons_succ, List.setIfInBounds_toArray, List.set_cons_zero, List.set_cons_succ]
    refine wpAnyH_take (i := 5) (v := ?_) rfl (by kernel_rfl) (by kernel_rfl) (by kernel_rfl) (fun _ _ _ h => h) (Or.inl ⟨by rfl, ?_⟩) (by assumption) ?_
    rotate_left
    · simp only [List.getElem_toArray, List.getElem_cons_zero, List.getElem_cons_succ]; intro W hSw; (try dsimp only at hSw); go_simp; all_goals with_reducible rfl
    simp only [Act.put, List.getElem_toArray, List.getElem_cons_zero, List.getElem_cons_succ, List.setIfInBounds_toArray, List.set_cons_zero, List.set_cons_succ]
    refine wpAnyH_take (i := 7) (v := ?_) rfl (by kernel_rfl) (by kernel_rfl) (by kernel_rfl) (fun _ _ _ h => h) (Or.inl ⟨by rfl, ?_⟩) (by assumption) ?_
    rotate_left
    · simp only [List.getElem_toArray, List.getElem_cons_zero, List.getElem_cons_succ]; intro W hSw; (try dsimp only at hSw); go_simp; all_goals with_reducible rfl
    simp only [Act.put, List.getElem_toArray, List.getElem_cons_zero, List.getElem_cons_succ, List.setIfInBounds_toArray, List.set_cons_zero, List.set_cons_succ]
    refine wpAnyH_take (i := 8) (v := ?_) rfl (by kernel_rfl) (by kernel_rfl) (by kernel_rfl) (fun _ _ _ h => h) (Or.inl ⟨by rfl, ?_⟩) (by assumption) ?_
    rotate_left
    · simp only [List.getElem_toArray, List.getElem_cons_zero, List.getElem_cons_succ]; intro W hSw; (try dsimp only at hSw); go_simp; all_goals with_reducible rfl
    simp only [Act.put, List.getElem_toArray, List.getElem_cons_zero, List.getElem_cons_succ, List.setIfInBounds_toArray, List.set_cons_zero, List.set_cons_succ]
    refine wpAnyH_ready (rs := [6]) (by kernel_rfl) (by simp) ?_
    refine AllReadyH.cons rfl (fun K hK => ?_) AllReadyH.nil
    simp only [List.getElem_toArray, List.getElem_cons_zero, List.getElem_cons_succ]
    go_simp
    refine (hR _).mono ?_
    rintro e w4 ⟨rfl, hb4⟩
    go_wp2_with fail
    have HB4 := Lib.hid (HB3.out.trans (hb4.mono HB3.out.size))
    refine hK.out _ _ (HS.out _ (by have := HB4.out; rw [HZ.out] at this; exact this)) (fun hHeldN => ?_)
    clear hK K hHeld
    have hHeld := hHeldN
    clear hHeldN
    (try simp only [Act.put, List.getElem_toArray, List.getElem_cons_zero, List.getElem_cons_succ, List.setIfInBounds_toArray, List.set_cons_zero, List.set_cons_succ])
    refine wpAnyH_ready (rs := [9]) (by kernel_rfl) (by simp) ?_
    refine AllReadyH.cons rfl (fun K hK => ?_) AllReadyH.nil
    simp only [List.getElem_toArray, List.getElem_cons_zero, List.getElem_cons_succ]
    go_simp
    refine (has_any _ _ _ _).mono ?_
    rintro e w5 ⟨rfl, hb5⟩
    go_wp2_with fail
    have HB5 := Lib.hid (HB4.out.trans (hb5.mono HB4.out.size))
    refine hK.out _ _ (HS.out _ (by have := HB5.out; rw [HZ.out] at this; exact this)) (fun hHeldN => ?_)
    clear hK K hHeld
    have hHeld := hHeldN
    clear hHeldN
    (try simp only [Act.put, List.getElem_toArray, List.getElem_cons_zero, List.getElem_cons_succ, List.setIfInBounds_toArray, List.set_cons_zero, List.set_cons_succ])
    refine wpAnyH_take (i := 10) (v := ?_) rfl (by kernel_rfl) (by kernel_rfl) (by kernel_rfl) (fun _ _ _ h => h) (Or.inl ⟨by rfl, ?_⟩) (by assumption) ?_
    rotate_left
    · simp only [List.getElem_toArray, List.getElem_cons_zero, List.getElem_cons_succ]; intro W hSw; (try dsimp only at hSw); go_simp; all_goals with_reducible rfl
    simp only [Act.put, List.getElem_toArray, List.getElem_cons_zero, List.getElem_cons_succ, List.setIfInBounds_toArray, List.set_cons_zero, List.set_cons_succ]
    refine wpAnyH_take (i := 11) (v := ?_) rfl (by kernel_rfl) (by kernel_rfl) (by kernel_rfl) (fun _ _ _ h => h) (Or.inl ⟨by rfl, ?_⟩) (by assumption) ?_
    rotate_left
    · simp only [List.getElem_toArray, List.getElem_cons_zero, List.getElem_cons_succ]; intro W hSw; (try dsimp only at hSw); go_simp; all_goals with_reducible rfl
    simp only [Act.put, List.getElem_toArray, List.getElem_cons_zero, List.getElem_cons_succ, List.setIfInBounds_toArray, List.set_cons_zero, List.set_cons_succ]
    refine wpAnyH_done (by kernel_rfl) ?_ _
    go_wp2
    go_ret
    exact ⟨by unfold mayB; rw [h]; rfl, HB0.out.trans (HB5.out.mono HB0.out.size)⟩

def usedR (t n : Int) : Int := if mayB t n then n - t else 0
def freeR (t n : Int) : Int := if mayB t n then 24 - (n - t) else 0
def hasR (t n s : Int) : Bool := mayB t n && (decide (t ≤ s) && decide (s ≤ n - 1))

theorem used_any (t n : Int) (w : World) :
    Calls Try.prog 5 #[.agg #[.int .i64 t, .int .i64 n]] w fun e w' => e = .returned (.int .i64 (usedR t n)) ∧ Below w.heap.size w w' := by
  cases h : mayB t n
  · have HB0 := Lib.hid ((Below.refl w.heap.size w).alloc (Nat.le_refl _) (.cells #[.int .i64 t, .int .i64 n] 23))
    have HS := Lib.hid (show ∀ W, Below (w.heap.size + 1) (w.alloc (.cells #[.int .i64 t, .int .i64 n] 23)) W → W.cell? ⟨w.heap.size, 0, none⟩ = some (.int .i64 t) ∧ W.cell? ⟨w.heap.size, 1, none⟩ = some (.int .i64 n) from fun W hb => by
      have hc : ∀ j, W.cell? ⟨w.heap.size, j, none⟩ = _ := fun j => (hb.cell (p := ⟨w.heap.size, j, none⟩) (by simp)).trans (cell_of_row (w.alloc (.cells #[.int .i64 t, .int .i64 n] 23)) w.heap.size j _ _ _ (heap_alloc_new w _))
      exact ⟨hc 0, hc 1⟩)
    have HZ := Lib.hid (show (w.alloc (.cells #[.int .i64 t, .int .i64 n] 23)).heap.size = w.heap.size + 1 by simp)
    go_enter Try.func5, Try.ntmps5
    go_wp2_with fail
    generalize (w.alloc (.cells #[.int .i64 t, .int .i64 n] 23)) = w1 at *
    refine (may_any _ _ _).mono ?_
    rintro e w2 ⟨rfl, hb2⟩
    rw [h]
    obtain ⟨k0, k1⟩ := HS.out _ (by have := hb2; rw [HZ.out] at this; exact this)
    have HB2 := Lib.hid hb2
    clear hb2
    go_wp2
    go_ret
    exact ⟨by unfold usedR; rw [h]; rfl, HB0.out.trans (HB2.out.mono HB0.out.size)⟩
  · have hm := mayB_true h
    have HT := Lib.hid (fun w => taken_any t n w (by omega))
    have HY := Lib.hid (fun w => many_any t (n - 1) w (by omega) (by omega))
    clear hm
    have HB0 := Lib.hid ((Below.refl w.heap.size w).alloc (Nat.le_refl _) (.cells #[.int .i64 t, .int .i64 n] 23))
    have HS := Lib.hid (show ∀ W, Below (w.heap.size + 1) (w.alloc (.cells #[.int .i64 t, .int .i64 n] 23)) W → W.cell? ⟨w.heap.size, 0, none⟩ = some (.int .i64 t) ∧ W.cell? ⟨w.heap.size, 1, none⟩ = some (.int .i64 n) from fun W hb => by
      have hc : ∀ j, W.cell? ⟨w.heap.size, j, none⟩ = _ := fun j => (hb.cell (p := ⟨w.heap.size, j, none⟩) (by simp)).trans (cell_of_row (w.alloc (.cells #[.int .i64 t, .int .i64 n] 23)) w.heap.size j _ _ _ (heap_alloc_new w _))
      exact ⟨hc 0, hc 1⟩)
    have HZ := Lib.hid (show (w.alloc (.cells #[.int .i64 t, .int .i64 n] 23)).heap.size = w.heap.size + 1 by simp)
    go_enter Try.func5, Try.ntmps5
    go_wp2_with fail
    generalize (w.alloc (.cells #[.int .i64 t, .int .i64 n] 23)) = w1 at *
    refine (may_any _ _ _).mono ?_
    rintro e w2 ⟨rfl, hb2⟩
    rw [h]
    obtain ⟨k0, k1⟩ := HS.out _ (by have := hb2; rw [HZ.out] at this; exact this)
    have HB2 := Lib.hid hb2
    clear hb2
    go_wp2_with (first
      | (go_at_call 13; refine (HT.out _).mono ?_; rintro e w3 ⟨rfl, hb3⟩)
      | (go_at_call 14; refine (HY.out _).mono ?_; rintro e w4 ⟨rfl, hb4⟩))
    go_ret
    have hb := HB2.out.trans ((hb3.trans (hb4.mono hb3.size)).mono HB2.out.size)
    exact ⟨by unfold usedR; rw [h, show n - 1 - t + 1 = n - t by omega]; rfl, HB0.out.trans (hb.mono HB0.out.size)⟩
theorem free_any (t n : Int) (w : World) :
    Calls Try.prog 6 #[.agg #[.int .i64 t, .int .i64 n]] w fun e w' => e = .returned (.int .i64 (freeR t n)) ∧ Below w.heap.size w w' := by
  cases h : mayB t n
  · have HB0 := Lib.hid ((Below.refl w.heap.size w).alloc (Nat.le_refl _) (.cells #[.int .i64 t, .int .i64 n] 23))
    have HS := Lib.hid (show ∀ W, Below (w.heap.size + 1) (w.alloc (.cells #[.int .i64 t, .int .i64 n] 23)) W → W.cell? ⟨w.heap.size, 0, none⟩ = some (.int .i64 t) ∧ W.cell? ⟨w.heap.size, 1, none⟩ = some (.int .i64 n) from fun W hb => by
      have hc : ∀ j, W.cell? ⟨w.heap.size, j, none⟩ = _ := fun j => (hb.cell (p := ⟨w.heap.size, j, none⟩) (by simp)).trans (cell_of_row (w.alloc (.cells #[.int .i64 t, .int .i64 n] 23)) w.heap.size j _ _ _ (heap_alloc_new w _))
      exact ⟨hc 0, hc 1⟩)
    have HZ := Lib.hid (show (w.alloc (.cells #[.int .i64 t, .int .i64 n] 23)).heap.size = w.heap.size + 1 by simp)
    go_enter Try.func6, Try.ntmps6
    go_wp2_with fail
    generalize (w.alloc (.cells #[.int .i64 t, .int .i64 n] 23)) = w1 at *
    refine (may_any _ _ _).mono ?_
    rintro e w2 ⟨rfl, hb2⟩
    rw [h]
    obtain ⟨k0, k1⟩ := HS.out _ (by have := hb2; rw [HZ.out] at this; exact this)
    have HB2 := Lib.hid hb2
    clear hb2
    go_wp2
    go_ret
    exact ⟨by unfold freeR; rw [h]; rfl, HB0.out.trans (HB2.out.mono HB0.out.size)⟩
  · have hm := mayB_true h
    have HT := Lib.hid (fun w => taken_any t n w (by omega))
    have HY := Lib.hid (fun w => many_any t (n - 1) w (by omega) (by omega))
    have hw : IntKind.i64.wrap (24 - (n - t)) = 24 - (n - t) := wr64 (by omega)
    clear hm
    have HB0 := Lib.hid ((Below.refl w.heap.size w).alloc (Nat.le_refl _) (.cells #[.int .i64 t, .int .i64 n] 23))
    have HS := Lib.hid (show ∀ W, Below (w.heap.size + 1) (w.alloc (.cells #[.int .i64 t, .int .i64 n] 23)) W → W.cell? ⟨w.heap.size, 0, none⟩ = some (.int .i64 t) ∧ W.cell? ⟨w.heap.size, 1, none⟩ = some (.int .i64 n) from fun W hb => by
      have hc : ∀ j, W.cell? ⟨w.heap.size, j, none⟩ = _ := fun j => (hb.cell (p := ⟨w.heap.size, j, none⟩) (by simp)).trans (cell_of_row (w.alloc (.cells #[.int .i64 t, .int .i64 n] 23)) w.heap.size j _ _ _ (heap_alloc_new w _))
      exact ⟨hc 0, hc 1⟩)
    have HZ := Lib.hid (show (w.alloc (.cells #[.int .i64 t, .int .i64 n] 23)).heap.size = w.heap.size + 1 by simp)
    go_enter Try.func6, Try.ntmps6
    go_wp2_with fail
    generalize (w.alloc (.cells #[.int .i64 t, .int .i64 n] 23)) = w1 at *
    refine (may_any _ _ _).mono ?_
    rintro e w2 ⟨rfl, hb2⟩
    rw [h]
    obtain ⟨k0, k1⟩ := HS.out _ (by have := hb2; rw [HZ.out] at this; exact this)
    have HB2 := Lib.hid hb2
    clear hb2
    go_wp2_with (first
      | (go_at_call 13; refine (HT.out _).mono ?_; rintro e w3 ⟨rfl, hb3⟩)
      | (go_at_call 14; refine (HY.out _).mono ?_; rintro e w4 ⟨rfl, hb4⟩; rw [show n - 1 - t + 1 = n - t by omega]))
    go_ret
    have hb := HB2.out.trans ((hb3.trans (hb4.mono hb3.size)).mono HB2.out.size)
    exact ⟨by unfold freeR; rw [h]; rfl, HB0.out.trans (hb.mono HB0.out.size)⟩
theorem hasL_any (t n s : Int) (w : World) :
    Calls Try.prog 9 #[.agg #[.int .i64 t, .int .i64 n], .int .i64 s] w fun e w' => e = .returned (.bool (hasR t n s)) ∧ Below w.heap.size w w' := by
  cases h : mayB t n
  · have HB0 := Lib.hid ((Below.refl w.heap.size w).alloc (Nat.le_refl _) (.cells #[.int .i64 t, .int .i64 n] 23))
    have HS := Lib.hid (show ∀ W, Below (w.heap.size + 1) (w.alloc (.cells #[.int .i64 t, .int .i64 n] 23)) W → W.cell? ⟨w.heap.size, 0, none⟩ = some (.int .i64 t) ∧ W.cell? ⟨w.heap.size, 1, none⟩ = some (.int .i64 n) from fun W hb => by
      have hc : ∀ j, W.cell? ⟨w.heap.size, j, none⟩ = _ := fun j => (hb.cell (p := ⟨w.heap.size, j, none⟩) (by simp)).trans (cell_of_row (w.alloc (.cells #[.int .i64 t, .int .i64 n] 23)) w.heap.size j _ _ _ (heap_alloc_new w _))
      exact ⟨hc 0, hc 1⟩)
    have HZ := Lib.hid (show (w.alloc (.cells #[.int .i64 t, .int .i64 n] 23)).heap.size = w.heap.size + 1 by simp)
    go_enter Try.func9, Try.ntmps9
    go_wp2_with fail
    generalize (w.alloc (.cells #[.int .i64 t, .int .i64 n] 23)) = w1 at *
    refine (may_any _ _ _).mono ?_
    rintro e w2 ⟨rfl, hb2⟩
    rw [h]
    obtain ⟨k0, k1⟩ := HS.out _ (by have := hb2; rw [HZ.out] at this; exact this)
    have HB2 := Lib.hid hb2
    clear hb2
    go_wp2
    go_ret
    exact ⟨by unfold hasR; rw [h]; rfl, HB0.out.trans (HB2.out.mono HB0.out.size)⟩
  · have hm := mayB_true h
    have HT := Lib.hid (fun w => taken_any t n w (by omega))
    clear hm
    have HB0 := Lib.hid ((Below.refl w.heap.size w).alloc (Nat.le_refl _) (.cells #[.int .i64 t, .int .i64 n] 23))
    have HS := Lib.hid (show ∀ W, Below (w.heap.size + 1) (w.alloc (.cells #[.int .i64 t, .int .i64 n] 23)) W → W.cell? ⟨w.heap.size, 0, none⟩ = some (.int .i64 t) ∧ W.cell? ⟨w.heap.size, 1, none⟩ = some (.int .i64 n) from fun W hb => by
      have hc : ∀ j, W.cell? ⟨w.heap.size, j, none⟩ = _ := fun j => (hb.cell (p := ⟨w.heap.size, j, none⟩) (by simp)).trans (cell_of_row (w.alloc (.cells #[.int .i64 t, .int .i64 n] 23)) w.heap.size j _ _ _ (heap_alloc_new w _))
      exact ⟨hc 0, hc 1⟩)
    have HZ := Lib.hid (show (w.alloc (.cells #[.int .i64 t, .int .i64 n] 23)).heap.size = w.heap.size + 1 by simp)
    go_enter Try.func9, Try.ntmps9
    go_wp2_with fail
    generalize (w.alloc (.cells #[.int .i64 t, .int .i64 n] 23)) = w1 at *
    refine (may_any _ _ _).mono ?_
    rintro e w2 ⟨rfl, hb2⟩
    rw [h]
    obtain ⟨k0, k1⟩ := HS.out _ (by have := hb2; rw [HZ.out] at this; exact this)
    have HB2 := Lib.hid hb2
    clear hb2
    go_wp2_with (first
      | (go_at_call 13; refine (HT.out _).mono ?_; rintro e w3 ⟨rfl, hb3⟩)
      | (go_at_call 11; refine (has_any _ _ _ _).mono ?_; rintro e w4 ⟨rfl, hb4⟩))
    go_ret
    have hb := HB2.out.trans ((hb3.trans (hb4.mono hb3.size)).mono HB2.out.size)
    exact ⟨by unfold hasR; rw [h]; rfl, HB0.out.trans (hb.mono HB0.out.size)⟩
end Go.Proofs.Ytpbbgfebchicbaa
