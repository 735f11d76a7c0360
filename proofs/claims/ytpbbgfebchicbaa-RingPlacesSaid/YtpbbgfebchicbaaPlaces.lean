/-
  RingPlaces, by contract.
-/
import Derived.Test.YtpbbgfebchicbaaSeen
namespace Go.Proofs.Ytpbbgfebchicbaa
open Go.RowKit Go.Maps

set_option maxHeartbeats 1000000 in
theorem places_not (t n : Int) (w : World) (h : mayB t n = false) :
    Calls Try.prog 3 #[.agg #[.int .i64 t, .int .i64 n]] w fun e w' => e = .returned (.bool true) ∧ Below w.heap.size w w' := by
  have hu : usedR t n = 0 := by unfold usedR; rw [h]; rfl
  have hf : freeR t n = 0 := by unfold freeR; rw [h]; rfl
  have HB0 := Lib.hid ((Below.refl w.heap.size w).alloc (Nat.le_refl _) (.cells #[.int .i64 t, .int .i64 n] 23))
  have HZ := Lib.hid (show (w.alloc (.cells #[.int .i64 t, .int .i64 n] 23)).heap.size = w.heap.size + 1 by simp)
  have HS := Lib.hid (show ∀ W, Below (w.heap.size + 1) (w.alloc (.cells #[.int .i64 t, .int .i64 n] 23)) W → W.cell? ⟨w.heap.size, 0, none⟩ = some (.int .i64 t) ∧ W.cell? ⟨w.heap.size, 1, none⟩ = some (.int .i64 n) from fun W hb => by
    have hc : ∀ j, W.cell? ⟨w.heap.size, j, none⟩ = _ := fun j => (hb.cell (p := ⟨w.heap.size, j, none⟩) (by simp)).trans (cell_of_row (w.alloc (.cells #[.int .i64 t, .int .i64 n] 23)) w.heap.size j _ _ _ (heap_alloc_new w _))
    exact ⟨hc 0, hc 1⟩)
  go_enter Try.func3, Try.ntmps3
  go_wp2_with fail
  refine (may_any _ _ _).mono ?_
  rintro e w2 ⟨rfl, hb2⟩
  rw [h]
  have HB2 := Lib.hid (show Below (w.heap.size + 1) (w.alloc (.cells #[.int .i64 t, .int .i64 n] 23)) w2 by rw [← HZ.out]; exact hb2)
  clear hb2
  obtain ⟨k0, k1⟩ := HS.out _ HB2.out
  go_wp2_with fail
  refine (used_any _ _ _).mono ?_
  rintro e w3 ⟨rfl, hb3⟩
  rw [hu]
  have HB3 := Lib.hid (HB2.out.trans (hb3.mono (by have := HB2.out.size; have := HZ.out; omega)))
  clear hb3
  obtain ⟨k0, k1⟩ := HS.out _ HB3.out
  go_wp2_with fail
  refine (free_any _ _ _).mono ?_
  rintro e w4 ⟨rfl, hb4⟩
  rw [hf]
  have HB4 := Lib.hid (HB3.out.trans (hb4.mono (by have := HB3.out.size; have := HZ.out; omega)))
  clear hb4 k0 k1
  go_wp2_with (go_at_call 7; refine (wakes_any _).mono ?_; rintro e w5 ⟨rfl, hb5⟩)
  go_ret
  exact ⟨rfl, HB0.out.trans ((HB4.out.trans (hb5.mono (by have := HB4.out.size; have := HZ.out; omega))).mono (by omega))⟩

theorem placeR_yes {z : Int} (h : 1 ≤ z ∧ z ≤ 1099511627776) : placeR z = .tuple #[.int .i64 (2 + z % 24), .int .i64 0] := by
  have e : seqB z = true := by unfold seqB; simp; omega
  unfold placeR; rw [e]; rfl
theorem placeR_no {z : Int} (h : 1099511627776 < z) : placeR z = .tuple #[.int .i64 0, .int .i64 2] := by
  have e : seqB z = false := by unfold seqB; simp; omega
  unfold placeR; rw [e]; rfl
theorem hasR_yes {t n s : Int} (h : mayB t n = true) (hs : t ≤ s ∧ s < n) : hasR t n s = true := by unfold hasR; rw [h]; simp; omega
theorem hasR_no {t n s : Int} (hs : s < t ∨ n ≤ s) : hasR t n s = false := by unfold hasR; cases mayB t n <;> simp; omega

set_option maxHeartbeats 4000000 in
theorem places_may (t n : Int) (w : World) (h : mayB t n = true) :
    Calls Try.prog 3 #[.agg #[.int .i64 t, .int .i64 n]] w fun e w' => e = .returned (.bool true) ∧ Below w.heap.size w w' := by
  have hm := mayB_true h
  have hu : usedR t n = n - t := by unfold usedR; rw [h]; rfl
  have hf : freeR t n = 24 - (n - t) := by unfold freeR; rw [h]; rfl
  obtain ⟨m, rfl⟩ : ∃ m : Nat, n = t + (m : Int) := ⟨(n - t).toNat, by omega⟩
  have hm24 : m ≤ 24 := by omega
  rw [show t + (m : Int) - t = (m : Int) by omega] at hu hf
  have ht : 1 ≤ t ∧ t ≤ 1099511627776 := ⟨hm.1, hm.2.1⟩
  have HN1 := Lib.hid (hasR_no (t := t) (n := t + (m : Int)) (s := t + (m : Int)) (Or.inr (Int.le_refl _)))
  have HN2 := Lib.hid (hasR_no (t := t) (n := t + (m : Int)) (s := t - 1) (Or.inl (by omega)))
  have HY := Lib.hid (fun s hs => hasR_yes (s := s) h hs)
  have HU := Lib.hid hu
  have HF := Lib.hid hf
  clear hm hu hf
  obtain ⟨n, hn⟩ : ∃ n, n = t + (m : Int) := ⟨_, rfl⟩
  rw [← hn] at h HN1 HN2 HY HU HF ⊢
  have HEq := Lib.hid hn
  clear hn
  have HB0 := Lib.hid ((Below.refl w.heap.size w).alloc (Nat.le_refl _) (.cells #[.int .i64 t, .int .i64 n] 23))
  have HZ := Lib.hid (show (w.alloc (.cells #[.int .i64 t, .int .i64 n] 23)).heap.size = w.heap.size + 1 by simp)
  have HS := Lib.hid (show ∀ W, Below (w.heap.size + 1) (w.alloc (.cells #[.int .i64 t, .int .i64 n] 23)) W → W.cell? ⟨w.heap.size, 0, none⟩ = some (.int .i64 t) ∧ W.cell? ⟨w.heap.size, 1, none⟩ = some (.int .i64 n) from fun W hb => by
    have hc : ∀ j, W.cell? ⟨w.heap.size, j, none⟩ = _ := fun j => (hb.cell (p := ⟨w.heap.size, j, none⟩) (by simp)).trans (cell_of_row (w.alloc (.cells #[.int .i64 t, .int .i64 n] 23)) w.heap.size j _ _ _ (heap_alloc_new w _))
    exact ⟨hc 0, hc 1⟩)
  have hmm := @run_makeMap Try.prog
  go_enter Try.func3, Try.ntmps3
  go_wp2_with fail
  refine (may_any _ _ _).mono ?_
  rintro e w2 ⟨rfl, hb2⟩
  rw [h]
  have HB2 := Lib.hid (show Below (w.heap.size + 1) (w.alloc (.cells #[.int .i64 t, .int .i64 n] 23)) w2 by rw [← HZ.out]; exact hb2)
  clear hb2
  have hm2 : Below w2.heap.size w2 (w2.alloc (.map #[] 0)) := (Below.refl _ w2).alloc (Nat.le_refl _) _
  have HZ2 := Lib.hid (by have := HB2.out.size; have := HZ.out; omega : w.heap.size + 1 ≤ w2.heap.size)
  have HB3 := Lib.hid (show Below (w.heap.size + 1) (w.alloc (.cells #[.int .i64 t, .int .i64 n] 23)) (w2.alloc (.map #[] 0)) from HB2.out.trans (hm2.mono HZ2.out))
  have HM2 := Lib.hid hm2
  obtain ⟨k0, k1⟩ := HS.out _ HB3.out
  have HSn := Lib.hid (Seen.made w2 t)
  have HH := Lib.hid h
  clear hm2 h
  go_wp2_with fail
  go_loopw [4] (fun p wr => ∃ k : Nat, k ≤ m ∧ t + (k : Int) ≤ 1099511627777 ∧ p = .int .i64 (t + (k : Int)) ∧ Seen wr w2.heap.size t k ∧ Below (w.heap.size + 1) (w.alloc (.cells #[.int .i64 t, .int .i64 n] 23)) wr ∧ Below w2.heap.size w2 wr)
    (fun p _ => (n - intOf p).toNat)
  case atStart => exact ⟨0, Nat.zero_le _, by omega, by simp, HSn.out, HB3.out, HM2.out⟩
  case round =>
    clear k0 k1
    obtain ⟨k, hk, hkM, rfl, hseen, hbr, hbr2⟩ := hrel
    obtain ⟨c0, c1⟩ := HS.out wr hbr
    by_cases hlt : k < m
    · have hlt' : t + (k : Int) < n := by have := HEq.out; omega
      by_cases hM : t + (k : Int) ≤ 1099511627776
      · have HSe := Lib.hid hseen
        have HBr := Lib.hid hbr
        have HBr2 := Lib.hid hbr2
        clear hseen hbr hbr2
        go_wp2_with fail
        refine (at_place _ _).mono ?_
        rintro e w5 ⟨rfl, hb5⟩
        rw [placeR_yes (by omega)]
        generalize hz : 2 + (t + (k : Int)) % 24 = z
        have hq1 : ¬ z < 2 := by omega
        have hq2 : ¬ 26 ≤ z := by omega
        have HB5 := Lib.hid (HBr.out.trans (hb5.mono (by have := HBr.out.size; have := HZ.out; omega)))
        have hs5 := HSe.out.below hb5 HSe.out.lt
        have hlk := hs5.look (by omega)
        rw [hz] at hlk
        have HS5 := Lib.hid hs5
        have HC5 := Lib.hid hb5
        obtain ⟨d0, d1⟩ := HS.out _ HB5.out
        have hM' : ¬ 1099511627776 < t + (k : Int) := by omega
        clear hb5 hs5 c0 c1 hlt' hM hkM
        go_wp2_with fail
        refine (hasL_any _ _ _ _).mono ?_
        rintro e w7 ⟨rfl, hb7⟩
        rw [HY.out _ (by have := HEq.out; omega)]
        have hs7 := HS5.out.below hb7 HS5.out.lt
        obtain ⟨w8, hpt, hs8, hg8⟩ := hs7.put (by omega)
        rw [hz] at hpt
        have hsz := HBr.out.size
        have hsz5 := HC5.out.size
        have HB7 := Lib.hid (HB5.out.trans (hb7.mono (by have := HZ.out; omega)))
        have HB8 := Lib.hid (HB7.out.grown hg8 (by have := HZ.out; have := hb7.size; omega) (fun j e => by cases e; exact HZ2.out))
        have HC7 := Lib.hid (HBr2.out.trans ((HC5.out.trans (hb7.mono HC5.out.size)).mono HBr2.out.size))
        have HC8 := Lib.hid (HC7.out.grown hg8 HC7.out.size (fun j e => by cases e; exact Nat.le_refl _))
        have HS8 := Lib.hid hs8
        have hw : IntKind.i64.wrap (t + (k : Int) + 1) = t + (k : Int) + 1 := wr64 (by omega)
        clear hb7 hs7 hs8 hg8 hlk d0 d1 hsz hsz5
        go_wp2_with fail
        go_roundw
        case rel => exact ⟨k + 1, by omega, by omega, by simp; omega, HS8.out, HB8.out, HC8.out⟩
        case measure => simp [intOf]; have := HEq.out; omega
      · have hM' : 1099511627776 < t + (k : Int) := by omega
        have HBr := Lib.hid hbr
        clear hseen hbr hbr2
        go_wp2_with fail
        refine (at_place _ _).mono ?_
        rintro e w5 ⟨rfl, hb5⟩
        rw [placeR_no (by omega)]
        have HB5 := Lib.hid (HBr.out.trans (hb5.mono (by have := HBr.out.size; have := HZ.out; omega)))
        clear hb5 c0 c1 hlt' hM hkM
        go_wp2_with (go_at_call 7; refine (wakes_any _).mono ?_; rintro e w6 ⟨rfl, hb6⟩)
        go_ret
        exact ⟨rfl, HB0.out.trans ((HB5.out.trans (hb6.mono (by have := HB5.out.size; have := HZ.out; omega))).mono (by omega))⟩
    · obtain rfl : k = m := by omega
      have hge : ¬ t + (k : Int) < n := by have := HEq.out; omega
      obtain ⟨es, clock, hes, hsz⟩ := hseen.entries
      have HSR := Lib.hid (show ∀ W, Below wr.heap.size wr W → (W.cell? ⟨w.heap.size, 0, none⟩ = some (.int .i64 t) ∧ W.cell? ⟨w.heap.size, 1, none⟩ = some (.int .i64 n)) ∧ (Builtin.len_ #[27] 3 #[.map (some w2.heap.size)]).run Try.prog W = .ok (.int .i64 (k : Int)) W from fun W hW =>
        ⟨HS.out W (hbr.trans (hW.mono (by have := hbr.size; have := HZ.out; omega))), by
          have h := run_len_map (P := Try.prog) (w := W) 27 3 w2.heap.size es clock (by kernel_rfl) ((hW.block _ hseen.lt).trans hes)
          rw [hsz] at h
          exact h⟩)
      have HBr := Lib.hid hbr
      have hadd : IntKind.i64.wrap ((k : Int) + (24 - (k : Int))) = 24 := by rw [wr64 (by omega)]; omega
      have hsub : IntKind.i64.wrap (t - 1) = t - 1 := wr64 (by omega)
      clear hseen hes hsz hbr hbr2
      go_wp2_with fail
      refine wp_region_held_drew (S := fun W => (W.cell? ⟨w.heap.size, 0, none⟩ = some (.int .i64 t) ∧ W.cell? ⟨w.heap.size, 1, none⟩ = some (.int .i64 n)) ∧ (Builtin.len_ #[27] 3 #[.map (some w2.heap.size)]).run Try.prog W = .ok (.int .i64 (k : Int)) W) (by kernel_rfl) (HSR.out _ (Below.refl _ _).drew) (fun hHeld => ?_)
      refine wpAnyH_take (i := 0) (v := ?_) rfl (by kernel_rfl) (by kernel_rfl) (by kernel_rfl) (fun _ _ _ h => h) (Or.inl ⟨by rfl, ?_⟩) (by assumption) ?_
      rotate_left
      · simp only [List.getElem_toArray, List.getElem_cons_zero, List.getElem_cons_succ]; intro W hSw; (try dsimp only at hSw); go_simp; all_goals with_reducible rfl
      simp only [Act.put, List.getElem_toArray, List.getElem_cons_zero, List.getElem_cons_succ, List.setIfInBounds_toArray, List.set_cons_zero, List.set_cons_succ]
      refine wpAnyH_take (i := 1) (v := ?_) rfl (by kernel_rfl) (by kernel_rfl) (by kernel_rfl) (fun _ _ _ h => h) (Or.inl ⟨by rfl, ?_⟩) (by assumption) ?_
      rotate_left
      · simp only [List.getElem_toArray, List.getElem_cons_zero, List.getElem_cons_succ]; intro W hSw; (try dsimp only at hSw); go_simp; all_goals with_reducible rfl
      simp only [Act.put, List.getElem_toArray, List.getElem_cons_zero, List.getElem_cons_succ, List.setIfInBounds_toArray, List.set_cons_zero, List.set_cons_succ]
      refine wpAnyH_take (i := 2) (v := ?_) rfl (by kernel_rfl) (by kernel_rfl) (by kernel_rfl) (fun _ _ _ h => h) (Or.inl ⟨by rfl, ?_⟩) (by assumption) ?_
      rotate_left
      · simp only [List.getElem_toArray, List.getElem_cons_zero, List.getElem_cons_succ]; intro W hSw; (try dsimp only at hSw); go_simp; all_goals with_reducible rfl
      simp only [Act.put, List.getElem_toArray, List.getElem_cons_zero, List.getElem_cons_succ, List.setIfInBounds_toArray, List.set_cons_zero, List.set_cons_succ]
      refine wpAnyH_ready (rs := [3]) (by kernel_rfl) (by simp) ?_
      refine AllReadyH.cons rfl (fun K hK => ?_) AllReadyH.nil
      simp only [List.getElem_toArray, List.getElem_cons_zero, List.getElem_cons_succ]
      go_simp
      refine (used_any _ _ _).mono ?_
      rintro e w3 ⟨rfl, hb3⟩
      rw [HU.out]
      go_wp2_with fail
      have H3 := Lib.hid ((Below.refl wr.heap.size wr).drew.trans hb3)
      clear hb3
      refine hK.out _ _ (HSR.out _ H3.out) (fun hHeldN => ?_)
      clear hK K hHeld
      have hHeld := hHeldN
      clear hHeldN
      (try simp only [Act.put, List.getElem_toArray, List.getElem_cons_zero, List.getElem_cons_succ, List.setIfInBounds_toArray, List.set_cons_zero, List.set_cons_succ])
      refine wpAnyH_take (i := 4) (v := ?_) rfl (by kernel_rfl) (by kernel_rfl) (by kernel_rfl) (fun _ _ _ h => h) (Or.inl ⟨by rfl, ?_⟩) (by assumption) ?_
      rotate_left
      · simp only [List.getElem_toArray, List.getElem_cons_zero, List.getElem_cons_succ]; intro W hSw; (try dsimp only at hSw); go_simp; all_goals with_reducible rfl
      simp only [Act.put, List.getElem_toArray, List.getElem_cons_zero, List.getElem_cons_succ, List.setIfInBounds_toArray, List.set_cons_zero, List.set_cons_succ]
      refine wpAnyH_take (i := 5) (v := ?_) rfl (by kernel_rfl) (by kernel_rfl) (by kernel_rfl) (fun _ _ _ h => h) (Or.inl ⟨by rfl, ?_⟩) (by assumption) ?_
      rotate_left
      · simp only [List.getElem_toArray, List.getElem_cons_zero, List.getElem_cons_succ]; intro W hSw; (try dsimp only at hSw); go_simp; all_goals with_reducible rfl
      simp only [Act.put, List.getElem_toArray, List.getElem_cons_zero, List.getElem_cons_succ, List.setIfInBounds_toArray, List.set_cons_zero, List.set_cons_succ]
      refine wpAnyH_take (i := 6) (v := ?_) rfl (by kernel_rfl) (by kernel_rfl) (by kernel_rfl) (fun _ _ _ h => h) (Or.inl ⟨by rfl, ?_⟩) (by assumption) ?_
      rotate_left
      · simp only [List.getElem_toArray, List.getElem_cons_zero, List.getElem_cons_succ]; intro W hSw; (try dsimp only at hSw); go_simp; all_goals with_reducible rfl
      simp only [Act.put, List.getElem_toArray, List.getElem_cons_zero, List.getElem_cons_succ, List.setIfInBounds_toArray, List.set_cons_zero, List.set_cons_succ]
      refine wpAnyH_take (i := 8) (v := ?_) rfl (by kernel_rfl) (by kernel_rfl) (by kernel_rfl) (fun _ _ _ h => h) (Or.inl ⟨by rfl, ?_⟩) (by assumption) ?_
      rotate_left
      · simp only [List.getElem_toArray, List.getElem_cons_zero, List.getElem_cons_succ]; intro W hSw; (try dsimp only at hSw); go_simp; all_goals with_reducible rfl
      simp only [Act.put, List.getElem_toArray, List.getElem_cons_zero, List.getElem_cons_succ, List.setIfInBounds_toArray, List.set_cons_zero, List.set_cons_succ]
      refine wpAnyH_ready (rs := [7]) (by kernel_rfl) (by simp) ?_
      refine AllReadyH.cons rfl (fun K hK => ?_) AllReadyH.nil
      simp only [List.getElem_toArray, List.getElem_cons_zero, List.getElem_cons_succ]
      go_simp
      refine (used_any _ _ _).mono ?_
      rintro e w4 ⟨rfl, hb4⟩
      rw [HU.out]
      go_wp2_with fail
      have H4 := Lib.hid (H3.out.trans (hb4.mono H3.out.size))
      clear hb4
      refine hK.out _ _ (HSR.out _ H4.out) (fun hHeldN => ?_)
      clear hK K hHeld
      have hHeld := hHeldN
      clear hHeldN
      (try simp only [Act.put, List.getElem_toArray, List.getElem_cons_zero, List.getElem_cons_succ, List.setIfInBounds_toArray, List.set_cons_zero, List.set_cons_succ])
      refine wpAnyH_ready (rs := [9]) (by kernel_rfl) (by simp) ?_
      refine AllReadyH.cons rfl (fun K hK => ?_) AllReadyH.nil
      simp only [List.getElem_toArray, List.getElem_cons_zero, List.getElem_cons_succ]
      go_simp
      refine (free_any _ _ _).mono ?_
      rintro e w5 ⟨rfl, hb5⟩
      rw [HF.out]
      go_wp2_with fail
      have H5 := Lib.hid (H4.out.trans (hb5.mono H4.out.size))
      clear hb5
      refine hK.out _ _ (HSR.out _ H5.out) (fun hHeldN => ?_)
      clear hK K hHeld
      have hHeld := hHeldN
      clear hHeldN
      (try simp only [Act.put, List.getElem_toArray, List.getElem_cons_zero, List.getElem_cons_succ, List.setIfInBounds_toArray, List.set_cons_zero, List.set_cons_succ])
      refine wpAnyH_take (i := 10) (v := ?_) rfl (by kernel_rfl) (by kernel_rfl) (by kernel_rfl) (fun _ _ _ h => h) (Or.inl ⟨by rfl, ?_⟩) (by assumption) ?_
      rotate_left
      · simp only [List.getElem_toArray, List.getElem_cons_zero, List.getElem_cons_succ]; intro W hSw; (try dsimp only at hSw); go_simp; all_goals with_reducible rfl
      simp only [Act.put, List.getElem_toArray, List.getElem_cons_zero, List.getElem_cons_succ, List.setIfInBounds_toArray, List.set_cons_zero, List.set_cons_succ]
      refine wpAnyH_take (i := 11) (v := ?_) rfl (by kernel_rfl) (by kernel_rfl) (by kernel_rfl) (fun _ _ _ h => h) (Or.inl ⟨by rfl, ?_⟩) (by assumption) ?_
      rotate_left
      · simp only [List.getElem_toArray, List.getElem_cons_zero, List.getElem_cons_succ]; intro W hSw; (try dsimp only at hSw); go_simp; all_goals with_reducible rfl
      simp only [Act.put, List.getElem_toArray, List.getElem_cons_zero, List.getElem_cons_succ, List.setIfInBounds_toArray, List.set_cons_zero, List.set_cons_succ]
      refine wpAnyH_take (i := 12) (v := ?_) rfl (by kernel_rfl) (by kernel_rfl) (by kernel_rfl) (fun _ _ _ h => h) (Or.inl ⟨by rfl, ?_⟩) (by assumption) ?_
      rotate_left
      · simp only [List.getElem_toArray, List.getElem_cons_zero, List.getElem_cons_succ]; intro W hSw; (try dsimp only at hSw); go_simp; all_goals with_reducible rfl
      simp only [Act.put, List.getElem_toArray, List.getElem_cons_zero, List.getElem_cons_succ, List.setIfInBounds_toArray, List.set_cons_zero, List.set_cons_succ]
      refine wpAnyH_take (i := 13) (v := ?_) rfl (by kernel_rfl) (by kernel_rfl) (by kernel_rfl) (fun _ _ _ h => h) (Or.inl ⟨by rfl, ?_⟩) (by assumption) ?_
      rotate_left
      · simp only [List.getElem_toArray, List.getElem_cons_zero, List.getElem_cons_succ]; intro W hSw; (try dsimp only at hSw); go_simp; all_goals with_reducible rfl
      simp only [Act.put, List.getElem_toArray, List.getElem_cons_zero, List.getElem_cons_succ, List.setIfInBounds_toArray, List.set_cons_zero, List.set_cons_succ]
      refine wpAnyH_take (i := 14) (v := ?_) rfl (by kernel_rfl) (by kernel_rfl) (by kernel_rfl) (fun _ _ _ h => h) (Or.inl ⟨by rfl, ?_⟩) (by assumption) ?_
      rotate_left
      · simp only [List.getElem_toArray, List.getElem_cons_zero, List.getElem_cons_succ]; intro W hSw; (try dsimp only at hSw); go_simp; all_goals with_reducible rfl
      simp only [Act.put, List.getElem_toArray, List.getElem_cons_zero, List.getElem_cons_succ, List.setIfInBounds_toArray, List.set_cons_zero, List.set_cons_succ]
      refine wpAnyH_take (i := 15) (v := ?_) rfl (by kernel_rfl) (by kernel_rfl) (by kernel_rfl) (fun _ _ _ h => h) (Or.inl ⟨by rfl, ?_⟩) (by assumption) ?_
      rotate_left
      · simp only [List.getElem_toArray, List.getElem_cons_zero, List.getElem_cons_succ]; intro W hSw; (try dsimp only at hSw); go_simp; all_goals with_reducible rfl
      simp only [Act.put, List.getElem_toArray, List.getElem_cons_zero, List.getElem_cons_succ, List.setIfInBounds_toArray, List.set_cons_zero, List.set_cons_succ]
      refine wpAnyH_take (i := 16) (v := ?_) rfl (by kernel_rfl) (by kernel_rfl) (by kernel_rfl) (fun _ _ _ h => h) (Or.inl ⟨by rfl, ?_⟩) (by assumption) ?_
      rotate_left
      · simp only [List.getElem_toArray, List.getElem_cons_zero, List.getElem_cons_succ]; intro W hSw; (try dsimp only at hSw); go_simp; all_goals with_reducible rfl
      simp only [Act.put, List.getElem_toArray, List.getElem_cons_zero, List.getElem_cons_succ, List.setIfInBounds_toArray, List.set_cons_zero, List.set_cons_succ]
      refine wpAnyH_ready (rs := [17]) (by kernel_rfl) (by simp) ?_
      refine AllReadyH.cons rfl (fun K hK => ?_) AllReadyH.nil
      simp only [List.getElem_toArray, List.getElem_cons_zero, List.getElem_cons_succ]
      go_simp
      refine (hasL_any _ _ _ _).mono ?_
      rintro e w6 ⟨rfl, hb6⟩
      rw [HN1.out]
      go_wp2_with fail
      have H6 := Lib.hid (H5.out.trans (hb6.mono H5.out.size))
      clear hb6
      refine hK.out _ _ (HSR.out _ H6.out) (fun hHeldN => ?_)
      clear hK K hHeld
      have hHeld := hHeldN
      clear hHeldN
      (try simp only [Act.put, List.getElem_toArray, List.getElem_cons_zero, List.getElem_cons_succ, List.setIfInBounds_toArray, List.set_cons_zero, List.set_cons_succ])
      refine wpAnyH_take (i := 18) (v := ?_) rfl (by kernel_rfl) (by kernel_rfl) (by kernel_rfl) (fun _ _ _ h => h) (Or.inl ⟨by rfl, ?_⟩) (by assumption) ?_
      rotate_left
      · simp only [List.getElem_toArray, List.getElem_cons_zero, List.getElem_cons_succ]; intro W hSw; (try dsimp only at hSw); go_simp; all_goals with_reducible rfl
      simp only [Act.put, List.getElem_toArray, List.getElem_cons_zero, List.getElem_cons_succ, List.setIfInBounds_toArray, List.set_cons_zero, List.set_cons_succ]
      refine wpAnyH_take (i := 19) (v := ?_) rfl (by kernel_rfl) (by kernel_rfl) (by kernel_rfl) (fun _ _ _ h => h) (Or.inl ⟨by rfl, ?_⟩) (by assumption) ?_
      rotate_left
      · simp only [List.getElem_toArray, List.getElem_cons_zero, List.getElem_cons_succ]; intro W hSw; (try dsimp only at hSw); go_simp; all_goals with_reducible rfl
      simp only [Act.put, List.getElem_toArray, List.getElem_cons_zero, List.getElem_cons_succ, List.setIfInBounds_toArray, List.set_cons_zero, List.set_cons_succ]
      refine wpAnyH_take (i := 20) (v := ?_) rfl (by kernel_rfl) (by kernel_rfl) (by kernel_rfl) (fun _ _ _ h => h) (Or.inl ⟨by rfl, ?_⟩) (by assumption) ?_
      rotate_left
      · simp only [List.getElem_toArray, List.getElem_cons_zero, List.getElem_cons_succ]; intro W hSw; (try dsimp only at hSw); go_simp; all_goals with_reducible rfl
      simp only [Act.put, List.getElem_toArray, List.getElem_cons_zero, List.getElem_cons_succ, List.setIfInBounds_toArray, List.set_cons_zero, List.set_cons_succ]
      refine wpAnyH_take (i := 21) (v := ?_) rfl (by kernel_rfl) (by kernel_rfl) (by kernel_rfl) (fun _ _ _ h => h) (Or.inl ⟨by rfl, ?_⟩) (by assumption) ?_
      rotate_left
      · simp only [List.getElem_toArray, List.getElem_cons_zero, List.getElem_cons_succ]; intro W hSw; (try dsimp only at hSw); go_simp; all_goals with_reducible rfl
      simp only [Act.put, List.getElem_toArray, List.getElem_cons_zero, List.getElem_cons_succ, List.setIfInBounds_toArray, List.set_cons_zero, List.set_cons_succ]
      refine wpAnyH_take (i := 22) (v := ?_) rfl (by kernel_rfl) (by kernel_rfl) (by kernel_rfl) (fun _ _ _ h => h) (Or.inl ⟨by rfl, ?_⟩) (by assumption) ?_
      rotate_left
      · simp only [List.getElem_toArray, List.getElem_cons_zero, List.getElem_cons_succ]; intro W hSw; (try dsimp only at hSw); go_simp; all_goals with_reducible rfl
      simp only [Act.put, List.getElem_toArray, List.getElem_cons_zero, List.getElem_cons_succ, List.setIfInBounds_toArray, List.set_cons_zero, List.set_cons_succ]
      refine wpAnyH_take (i := 23) (v := ?_) rfl (by kernel_rfl) (by kernel_rfl) (by kernel_rfl) (fun _ _ _ h => h) (Or.inl ⟨by rfl, ?_⟩) (by assumption) ?_
      rotate_left
      · simp only [List.getElem_toArray, List.getElem_cons_zero, List.getElem_cons_succ]; intro W hSw; (try dsimp only at hSw); go_simp; all_goals with_reducible rfl
      simp only [Act.put, List.getElem_toArray, List.getElem_cons_zero, List.getElem_cons_succ, List.setIfInBounds_toArray, List.set_cons_zero, List.set_cons_succ]
      refine wpAnyH_take (i := 24) (v := ?_) rfl (by kernel_rfl) (by kernel_rfl) (by kernel_rfl) (fun _ _ _ h => h) (Or.inl ⟨by rfl, ?_⟩) (by assumption) ?_
      rotate_left
      · simp only [List.getElem_toArray, List.getElem_cons_zero, List.getElem_cons_succ]; intro W hSw; (try dsimp only at hSw); go_simp; all_goals with_reducible rfl
      simp only [Act.put, List.getElem_toArray, List.getElem_cons_zero, List.getElem_cons_succ, List.setIfInBounds_toArray, List.set_cons_zero, List.set_cons_succ]
      refine wpAnyH_ready (rs := [25]) (by kernel_rfl) (by simp) ?_
      refine AllReadyH.cons rfl (fun K hK => ?_) AllReadyH.nil
      simp only [List.getElem_toArray, List.getElem_cons_zero, List.getElem_cons_succ]
      go_simp
      refine (hasL_any _ _ _ _).mono ?_
      rintro e w7 ⟨rfl, hb7⟩
      rw [HN2.out]
      go_wp2_with fail
      have H7 := Lib.hid (H6.out.trans (hb7.mono H6.out.size))
      clear hb7
      refine hK.out _ _ (HSR.out _ H7.out) (fun hHeldN => ?_)
      clear hK K hHeld
      have hHeld := hHeldN
      clear hHeldN
      (try simp only [Act.put, List.getElem_toArray, List.getElem_cons_zero, List.getElem_cons_succ, List.setIfInBounds_toArray, List.set_cons_zero, List.set_cons_succ])
      refine wpAnyH_take (i := 26) (v := ?_) rfl (by kernel_rfl) (by kernel_rfl) (by kernel_rfl) (fun _ _ _ h => h) (Or.inl ⟨by rfl, ?_⟩) (by assumption) ?_
      rotate_left
      · simp only [List.getElem_toArray, List.getElem_cons_zero, List.getElem_cons_succ]; intro W hSw; (try dsimp only at hSw); go_simp; all_goals with_reducible rfl
      simp only [Act.put, List.getElem_toArray, List.getElem_cons_zero, List.getElem_cons_succ, List.setIfInBounds_toArray, List.set_cons_zero, List.set_cons_succ]
      refine wpAnyH_take (i := 27) (v := ?_) rfl (by kernel_rfl) (by kernel_rfl) (by kernel_rfl) (fun _ _ _ h => h) (Or.inl ⟨by rfl, ?_⟩) (by assumption) ?_
      rotate_left
      · simp only [List.getElem_toArray, List.getElem_cons_zero, List.getElem_cons_succ]; intro W hSw; (try dsimp only at hSw); go_simp; all_goals with_reducible rfl
      simp only [Act.put, List.getElem_toArray, List.getElem_cons_zero, List.getElem_cons_succ, List.setIfInBounds_toArray, List.set_cons_zero, List.set_cons_succ]
      refine wpAnyH_take (i := 28) (v := ?_) rfl (by kernel_rfl) (by kernel_rfl) (by kernel_rfl) (fun _ _ _ h => h) (Or.inl ⟨by rfl, ?_⟩) (by assumption) ?_
      rotate_left
      · simp only [List.getElem_toArray, List.getElem_cons_zero, List.getElem_cons_succ]; intro W hSw; (try dsimp only at hSw); go_simp; all_goals with_reducible rfl
      simp only [Act.put, List.getElem_toArray, List.getElem_cons_zero, List.getElem_cons_succ, List.setIfInBounds_toArray, List.set_cons_zero, List.set_cons_succ]
      refine wpAnyH_ready (rs := [29]) (by kernel_rfl) (by simp) ?_
      refine AllReadyH.cons rfl (fun K hK => ?_) AllReadyH.nil
      simp only [List.getElem_toArray, List.getElem_cons_zero, List.getElem_cons_succ]
      go_simp
      refine (wakes_any _).mono ?_
      rintro e w8 ⟨rfl, hb8⟩
      go_wp2_with fail
      have H8 := Lib.hid (H7.out.trans (hb8.mono H7.out.size))
      clear hb8
      refine hK.out _ _ (HSR.out _ H8.out) (fun hHeldN => ?_)
      clear hK K hHeld
      have hHeld := hHeldN
      clear hHeldN
      (try simp only [Act.put, List.getElem_toArray, List.getElem_cons_zero, List.getElem_cons_succ, List.setIfInBounds_toArray, List.set_cons_zero, List.set_cons_succ])
      refine wpAnyH_take (i := 30) (v := ?_) rfl (by kernel_rfl) (by kernel_rfl) (by kernel_rfl) (fun _ _ _ h => h) (Or.inl ⟨by rfl, ?_⟩) (by assumption) ?_
      rotate_left
      · simp only [List.getElem_toArray, List.getElem_cons_zero, List.getElem_cons_succ]; intro W hSw; (try dsimp only at hSw); go_simp; all_goals with_reducible rfl
      simp only [Act.put, List.getElem_toArray, List.getElem_cons_zero, List.getElem_cons_succ, List.setIfInBounds_toArray, List.set_cons_zero, List.set_cons_succ]
      refine wpAnyH_take (i := 31) (v := ?_) rfl (by kernel_rfl) (by kernel_rfl) (by kernel_rfl) (fun _ _ _ h => h) (Or.inl ⟨by rfl, ?_⟩) (by assumption) ?_
      rotate_left
      · simp only [List.getElem_toArray, List.getElem_cons_zero, List.getElem_cons_succ]; intro W hSw; (try dsimp only at hSw); go_simp; all_goals with_reducible rfl
      simp only [Act.put, List.getElem_toArray, List.getElem_cons_zero, List.getElem_cons_succ, List.setIfInBounds_toArray, List.set_cons_zero, List.set_cons_succ]
      refine wpAnyH_done (by kernel_rfl) ?_ _
      go_wp2
      go_ret
      exact ⟨rfl, HB0.out.trans ((HBr.out.trans (H8.out.mono (by have := HBr.out.size; have := HZ.out; omega))).mono (by omega))⟩
end Go.Proofs.Ytpbbgfebchicbaa
