/-
  Texts Dclop, Dcloe, Dclor, Dall, Dequal, joined.
-/
import Derived.Deep.RegionHeld3
import Derived.Deep.DeepCutAuto
import Derived.Test.YtaokhbodmodcgaaJ7
set_option linter.all false
section
/-
  The developers' fields: their bytes put behind others. (Written by mkclo.py.)
-/
namespace Go.Proofs.Ytaokhbodmodcgaa
open Go.RowKit
set_option maxRecDepth 100000

theorem putByte_int (z : Int) (bs : List Nat) (v : Value) (base : Nat) (w : World) (hz : 0 ≤ z ∧ z < 256) (ho : Own w base bs v) (hb : base ≤ w.heap.size) (hl : bs.length ≤ 1000000) :
    Calls Try.prog 77 #[v, .int .i64 z] w fun e w' => ∃ v', e = .returned v' ∧ Own w' base (bs ++ [byteN z]) v' ∧ Grew w w' v v' := by
  obtain ⟨m, rfl⟩ : ∃ m : Nat, z = (m : Int) := ⟨z.toNat, by omega⟩
  rw [byteN_cast]
  exact putByte_dev m bs v base w (by omega) ho hb hl
theorem putWide_int (z : Int) (bs : List Nat) (v : Value) (base : Nat) (w : World) (hz : 0 ≤ z ∧ z < 16777216) (ho : Own w base bs v) (hb : base ≤ w.heap.size) (hl : bs.length ≤ 1000000) :
    Calls Try.prog 90 #[v, .int .i64 z] w fun e w' => ∃ v', e = .returned v' ∧ Own w' base (bs ++ three z) v' ∧ Grew w w' v v' := by
  obtain ⟨m, rfl⟩ : ∃ m : Nat, z = (m : Int) := ⟨z.toNat, by omega⟩
  exact putWide_dev m bs v base w (by omega) ho hb hl
theorem named_low {n : Nm} (h : namedB n = true) : LowN n := by
  unfold namedB at h
  have := of_decide_eq_true h
  unfold LowN
  omega
theorem writes_low {l : List (Int × List Nat)} (h : writtenB l = true) (hf : WrFine l) : LowW l := by
  unfold writtenB at h
  simp only [Bool.and_eq_true, decide_eq_true_eq] at h
  exact ⟨h.1, fun x hx => ⟨rising_block (by omega) h.2 x hx, (hf x hx).2⟩⟩
theorem inB_of {a lo hi : Int} (h : inB a lo hi = true) : lo ≤ a ∧ a ≤ hi := of_decide_eq_true h
theorem changed_of {s t : Int} (h : changedB s t = true) : (-1 ≤ s ∧ s < 255) ∧ 0 ≤ t ∧ t < 256 := by
  unfold changedB at h
  by_cases h0 : s = -1
  · rw [if_pos h0] at h
    have := of_decide_eq_true h
    omega
  · rw [if_neg h0] at h
    have := of_decide_eq_true h
    omega

set_option maxHeartbeats 2000000 in
theorem put_name (w : World) (X : Nat) (P : Nat → Prop) (A : Option Addr) (c : Nat) (r : Rc) (bu bp : Nat) (bs : List Nat) (v : Value) (base : Nat) (hX : RBox w X P A c r) (hm : w.cell? ⟨bu, 0, none⟩ = some (fun0 70)) (hp : w.cell? ⟨bp, 0, none⟩ = some (ptr X 1)) (hbm : bu < w.heap.size) (hbp : bp < w.heap.size)
    (hmay : mayF .name r = true) (ho : Own w base bs v) (hb : base ≤ w.heap.size) (hl : bs.length ≤ 1000) (hv : ∀ k, v.ownBlock = some k → k ≠ bu ∧ k ≠ bp ∧ k ≠ X) (hP : ∀ k, P k → v.ownBlock ≠ some k) :
    Calls Try.prog 93 #[v, ptr bu 0, ptr bp 0] w fun e w' => ∃ v', e = .returned v' ∧ Own w' base (bs ++ putF .name r) v' ∧ Grew w w' v v' := by
  have HM := Lib.hid (show Calls Try.prog 70 #[v, .agg (nmv r.name).toArray] w.drew fun e w' => ∃ v', e = .returned v' ∧ Own w' base (bs ++ putF .name r) v' ∧ Grew w.drew w' v v' from putName_dev r.name bs v base w.drew (named_low hmay) (own_drew ho) hb (by omega))
  have HS := Lib.hid (show ∀ W u, Grew w W v u → W.cell? ⟨bu, 0, none⟩ = some (fun0 70) ∧ W.cell? ⟨bp, 0, none⟩ = some (ptr X 1) ∧ (∀ j u, (nmv r.name)[j]? = some u → W.cell? ⟨X, 1 + j, none⟩ = some u) from fun W u hW => by
    have k1 : ∀ b j, b < w.heap.size → (v.ownBlock ≠ some b) → W.cell? ⟨b, j, none⟩ = w.cell? ⟨b, j, none⟩ := fun b j h1 h2 => World.cell?_of_block (w := w) (hW.block b h1 h2)
    exact ⟨(k1 _ _ hbm (fun e => (hv _ e).1 rfl)).trans hm, (k1 _ _ hbp (fun e => (hv _ e).2.1 rfl)).trans hp, (fun j u hu => by have hj := (List.getElem?_eq_some_iff.1 hu).1; match j, hu with | 0, hu => cases hu; exact (k1 _ _ hX.lt (fun e => (hv _ e).2.2 rfl)).trans (hX.cell 1 rfl) | 1, hu => cases hu; exact (k1 _ _ hX.lt (fun e => (hv _ e).2.2 rfl)).trans (hX.cell 2 rfl) | 2, hu => cases hu; exact (k1 _ _ hX.lt (fun e => (hv _ e).2.2 rfl)).trans (hX.cell 3 rfl))⟩)
  clear hX hm hp hbm hbp hmay ho hb hl hv hP
  go_enter Try.func93, Try.ntmps93
  go_wp2_with fail
  refine wp_region_held_drew (S := fun W => W.cell? ⟨bu, 0, none⟩ = some (fun0 70) ∧ W.cell? ⟨bp, 0, none⟩ = some (ptr X 1) ∧ (∀ j u, (nmv r.name)[j]? = some u → W.cell? ⟨X, 1 + j, none⟩ = some u)) (by kernel_rfl) (HS.out _ _ (grew_drew (Grew.refl w v))) (fun hHeld => ?_)
  refine wpAnyH_take (i := 0) (v := ?_) rfl (by kernel_rfl) (by kernel_rfl) (by kernel_rfl) (fun _ _ _ h => h) (Or.inl ⟨by rfl, ?_⟩) (by assumption) ?_
  rotate_left
  · simp only [List.getElem_toArray, List.getElem_cons_zero, List.getElem_cons_succ]; intro W hSw; (try dsimp only at hSw); go_simp; all_goals with_reducible rfl
  simp only [Act.put, List.getElem_toArray, List.getElem_cons_zero, List.getElem_cons_succ, List.setIfInBounds_toArray, List.set_cons_zero, List.set_cons_succ]
  refine wpAnyH_take (i := 1) (v := ?_) rfl (by kernel_rfl) (by kernel_rfl) (by kernel_rfl) (fun _ _ _ h => h) (Or.inl ⟨by rfl, ?_⟩) (by assumption) ?_
  rotate_left
  · simp only [List.getElem_toArray, List.getElem_cons_zero, List.getElem_cons_succ]; intro W hSw; (try dsimp only at hSw); go_simp; all_goals with_reducible rfl
  simp only [Act.put, List.getElem_toArray, List.getElem_cons_zero, List.getElem_cons_succ, List.setIfInBounds_toArray, List.set_cons_zero, List.set_cons_succ]
  refine wpAnyH_take (i := 2) (v := ?_) rfl (by kernel_rfl) (by kernel_rfl) (by kernel_rfl) (fun _ _ _ h => h) (Or.inl ⟨by rfl, ?_⟩) (by assumption) ?_
  rotate_left
  · simp only [List.getElem_toArray, List.getElem_cons_zero, List.getElem_cons_succ]; intro W hSw; (try dsimp only at hSw); go_simp; all_goals with_reducible rfl
  simp only [Act.put, List.getElem_toArray, List.getElem_cons_zero, List.getElem_cons_succ, List.setIfInBounds_toArray, List.set_cons_zero, List.set_cons_succ]
  refine wpAnyH_take (i := 3) (v := ?_) rfl (by kernel_rfl) (by kernel_rfl) (by kernel_rfl) (fun _ _ _ h => h) (Or.inl ⟨by rfl, ?_⟩) (by assumption) ?_
  rotate_left
  · simp only [List.getElem_toArray, List.getElem_cons_zero, List.getElem_cons_succ]; intro W hSw; (try dsimp only at hSw); go_simp; all_goals with_reducible rfl
  simp only [Act.put, List.getElem_toArray, List.getElem_cons_zero, List.getElem_cons_succ, List.setIfInBounds_toArray, List.set_cons_zero, List.set_cons_succ]
  refine wpAnyH_take (i := 4) (v := ?_) rfl (by kernel_rfl) (by kernel_rfl) (by kernel_rfl) (fun _ _ _ h => h) (Or.inl ⟨by rfl, ?_⟩) (by assumption) ?_
  rotate_left
  · simp only [List.getElem_toArray, List.getElem_cons_zero, List.getElem_cons_succ]; intro W hSw; (try dsimp only at hSw); refine exec_load_part 24 (.tmp 8) ?_ X 1 ?_ (nmv r.name) _ hSw.2.2 Try.underlying24 ?_ ?_ <;> first | rfl | exact sizeN
  simp only [Act.put, List.getElem_toArray, List.getElem_cons_zero, List.getElem_cons_succ, List.setIfInBounds_toArray, List.set_cons_zero, List.set_cons_succ]
  refine wpAnyH_ready (rs := [5]) (by kernel_rfl) (by simp) ?_
  refine AllReadyH.cons rfl (fun K hK => ?_) AllReadyH.nil
  simp only [List.getElem_toArray, List.getElem_cons_zero, List.getElem_cons_succ]
  go_simp
  refine HM.out.mono ?_
  rintro e w2 ⟨v2, rfl, ho2, hg2⟩
  have HB2 := Lib.hid ((grew_drew (Grew.refl w v)).trans hg2)
  have HO2 := Lib.hid ho2
  clear hg2 ho2
  go_wp2_with fail
  refine hK.out _ _ (HS.out _ _ HB2.out) (fun hHeldN => ?_)
  clear hK K hHeld
  have hHeld := hHeldN
  clear hHeldN
  (try simp only [Act.put, List.getElem_toArray, List.getElem_cons_zero, List.getElem_cons_succ, List.setIfInBounds_toArray, List.set_cons_zero, List.set_cons_succ])
  refine wpAnyH_take (i := 6) (v := ?_) rfl (by kernel_rfl) (by kernel_rfl) (by kernel_rfl) (fun _ _ _ h => h) (Or.inl ⟨by rfl, ?_⟩) (by assumption) ?_
  rotate_left
  · simp only [List.getElem_toArray, List.getElem_cons_zero, List.getElem_cons_succ]; intro W hSw; (try dsimp only at hSw); go_simp; all_goals with_reducible rfl
  simp only [Act.put, List.getElem_toArray, List.getElem_cons_zero, List.getElem_cons_succ, List.setIfInBounds_toArray, List.set_cons_zero, List.set_cons_succ]
  refine wpAnyH_done (by kernel_rfl) ?_ _
  go_wp2_with fail
  go_ret
  exact ⟨v2, rfl, HO2.out, HB2.out⟩

set_option maxHeartbeats 2000000 in
theorem put_writes (w : World) (X : Nat) (P : Nat → Prop) (A : Option Addr) (c : Nat) (r : Rc) (bu bp : Nat) (bs : List Nat) (v : Value) (base : Nat) (hX : RBox w X P A c r) (hm : w.cell? ⟨bu, 0, none⟩ = some (fun0 73)) (hp : w.cell? ⟨bp, 0, none⟩ = some (ptr X 5)) (hbm : bu < w.heap.size) (hbp : bp < w.heap.size)
    (hmay : mayF .writes r = true) (ho : Own w base bs v) (hb : base ≤ w.heap.size) (hl : bs.length ≤ 1000) (hv : ∀ k, v.ownBlock = some k → k ≠ bu ∧ k ≠ bp ∧ k ≠ X) (hP : ∀ k, P k → v.ownBlock ≠ some k) :
    Calls Try.prog 97 #[v, ptr bu 0, ptr bp 0] w fun e w' => ∃ v', e = .returned v' ∧ Own w' base (bs ++ putF .writes r) v' ∧ Grew w w' v v' := by
  have HM := Lib.hid (show Calls Try.prog 73 #[v, .slice A r.writes.length c] w.drew fun e w' => ∃ v', e = .returned v' ∧ Own w' base (bs ++ putF .writes r) v' ∧ Grew w.drew w' v v' from putWrites_dev r.writes A c bs v base w.drew P (hX.wrs.at_.keep (Nat.le_refl _) fun _ _ _ => rfl) hP (writes_low hmay hX.fine.writes) (own_drew ho) hb hl)
  have HS := Lib.hid (show ∀ W u, Grew w W v u → W.cell? ⟨bu, 0, none⟩ = some (fun0 73) ∧ W.cell? ⟨bp, 0, none⟩ = some (ptr X 5) ∧ W.cell? ⟨X, 5, none⟩ = some (.slice A r.writes.length c) from fun W u hW => by
    have k1 : ∀ b j, b < w.heap.size → (v.ownBlock ≠ some b) → W.cell? ⟨b, j, none⟩ = w.cell? ⟨b, j, none⟩ := fun b j h1 h2 => World.cell?_of_block (w := w) (hW.block b h1 h2)
    exact ⟨(k1 _ _ hbm (fun e => (hv _ e).1 rfl)).trans hm, (k1 _ _ hbp (fun e => (hv _ e).2.1 rfl)).trans hp, (k1 _ _ hX.lt (fun e => (hv _ e).2.2 rfl)).trans (hX.cell 5 rfl)⟩)
  clear hX hm hp hbm hbp hmay ho hb hl hv hP
  go_enter Try.func97, Try.ntmps97
  go_wp2_with fail
  refine wp_region_held_drew (S := fun W => W.cell? ⟨bu, 0, none⟩ = some (fun0 73) ∧ W.cell? ⟨bp, 0, none⟩ = some (ptr X 5) ∧ W.cell? ⟨X, 5, none⟩ = some (.slice A r.writes.length c)) (by kernel_rfl) (HS.out _ _ (grew_drew (Grew.refl w v))) (fun hHeld => ?_)
  refine wpAnyH_take (i := 0) (v := ?_) rfl (by kernel_rfl) (by kernel_rfl) (by kernel_rfl) (fun _ _ _ h => h) (Or.inl ⟨by rfl, ?_⟩) (by assumption) ?_
  rotate_left
  · simp only [List.getElem_toArray, List.getElem_cons_zero, List.getElem_cons_succ]; intro W hSw; (try dsimp only at hSw); go_simp; all_goals with_reducible rfl
  simp only [Act.put, List.getElem_toArray, List.getElem_cons_zero, List.getElem_cons_succ, List.setIfInBounds_toArray, List.set_cons_zero, List.set_cons_succ]
  refine wpAnyH_take (i := 1) (v := ?_) rfl (by kernel_rfl) (by kernel_rfl) (by kernel_rfl) (fun _ _ _ h => h) (Or.inl ⟨by rfl, ?_⟩) (by assumption) ?_
  rotate_left
  · simp only [List.getElem_toArray, List.getElem_cons_zero, List.getElem_cons_succ]; intro W hSw; (try dsimp only at hSw); go_simp; all_goals with_reducible rfl
  simp only [Act.put, List.getElem_toArray, List.getElem_cons_zero, List.getElem_cons_succ, List.setIfInBounds_toArray, List.set_cons_zero, List.set_cons_succ]
  refine wpAnyH_take (i := 2) (v := ?_) rfl (by kernel_rfl) (by kernel_rfl) (by kernel_rfl) (fun _ _ _ h => h) (Or.inl ⟨by rfl, ?_⟩) (by assumption) ?_
  rotate_left
  · simp only [List.getElem_toArray, List.getElem_cons_zero, List.getElem_cons_succ]; intro W hSw; (try dsimp only at hSw); go_simp; all_goals with_reducible rfl
  simp only [Act.put, List.getElem_toArray, List.getElem_cons_zero, List.getElem_cons_succ, List.setIfInBounds_toArray, List.set_cons_zero, List.set_cons_succ]
  refine wpAnyH_take (i := 3) (v := ?_) rfl (by kernel_rfl) (by kernel_rfl) (by kernel_rfl) (fun _ _ _ h => h) (Or.inl ⟨by rfl, ?_⟩) (by assumption) ?_
  rotate_left
  · simp only [List.getElem_toArray, List.getElem_cons_zero, List.getElem_cons_succ]; intro W hSw; (try dsimp only at hSw); go_simp; all_goals with_reducible rfl
  simp only [Act.put, List.getElem_toArray, List.getElem_cons_zero, List.getElem_cons_succ, List.setIfInBounds_toArray, List.set_cons_zero, List.set_cons_succ]
  refine wpAnyH_take (i := 4) (v := ?_) rfl (by kernel_rfl) (by kernel_rfl) (by kernel_rfl) (fun _ _ _ h => h) (Or.inl ⟨by rfl, ?_⟩) (by assumption) ?_
  rotate_left
  · simp only [List.getElem_toArray, List.getElem_cons_zero, List.getElem_cons_succ]; intro W hSw; (try dsimp only at hSw); go_simp; all_goals with_reducible rfl
  simp only [Act.put, List.getElem_toArray, List.getElem_cons_zero, List.getElem_cons_succ, List.setIfInBounds_toArray, List.set_cons_zero, List.set_cons_succ]
  refine wpAnyH_ready (rs := [5]) (by kernel_rfl) (by simp) ?_
  refine AllReadyH.cons rfl (fun K hK => ?_) AllReadyH.nil
  simp only [List.getElem_toArray, List.getElem_cons_zero, List.getElem_cons_succ]
  go_simp
  refine HM.out.mono ?_
  rintro e w2 ⟨v2, rfl, ho2, hg2⟩
  have HB2 := Lib.hid ((grew_drew (Grew.refl w v)).trans hg2)
  have HO2 := Lib.hid ho2
  clear hg2 ho2
  go_wp2_with fail
  refine hK.out _ _ (HS.out _ _ HB2.out) (fun hHeldN => ?_)
  clear hK K hHeld
  have hHeld := hHeldN
  clear hHeldN
  (try simp only [Act.put, List.getElem_toArray, List.getElem_cons_zero, List.getElem_cons_succ, List.setIfInBounds_toArray, List.set_cons_zero, List.set_cons_succ])
  refine wpAnyH_take (i := 6) (v := ?_) rfl (by kernel_rfl) (by kernel_rfl) (by kernel_rfl) (fun _ _ _ h => h) (Or.inl ⟨by rfl, ?_⟩) (by assumption) ?_
  rotate_left
  · simp only [List.getElem_toArray, List.getElem_cons_zero, List.getElem_cons_succ]; intro W hSw; (try dsimp only at hSw); go_simp; all_goals with_reducible rfl
  simp only [Act.put, List.getElem_toArray, List.getElem_cons_zero, List.getElem_cons_succ, List.setIfInBounds_toArray, List.set_cons_zero, List.set_cons_succ]
  refine wpAnyH_done (by kernel_rfl) ?_ _
  go_wp2_with fail
  go_ret
  exact ⟨v2, rfl, HO2.out, HB2.out⟩

set_option maxHeartbeats 2000000 in
theorem put_give (w : World) (X : Nat) (P : Nat → Prop) (A : Option Addr) (c : Nat) (r : Rc) (bu bp : Nat) (bs : List Nat) (v : Value) (base : Nat) (hX : RBox w X P A c r) (hm : w.cell? ⟨bu, 0, none⟩ = some (fun0 77)) (hp : w.cell? ⟨bp, 0, none⟩ = some (ptr X 6)) (hbm : bu < w.heap.size) (hbp : bp < w.heap.size)
    (hmay : mayF .give r = true) (ho : Own w base bs v) (hb : base ≤ w.heap.size) (hl : bs.length ≤ 1000) (hv : ∀ k, v.ownBlock = some k → k ≠ bu ∧ k ≠ bp ∧ k ≠ X) (hP : ∀ k, P k → v.ownBlock ≠ some k) :
    Calls Try.prog 101 #[v, ptr bu 0, ptr bp 0] w fun e w' => ∃ v', e = .returned v' ∧ Own w' base (bs ++ putF .give r) v' ∧ Grew w w' v v' := by
  have HM := Lib.hid (show Calls Try.prog 77 #[v, .int .i64 r.give] w.drew fun e w' => ∃ v', e = .returned v' ∧ Own w' base (bs ++ putF .give r) v' ∧ Grew w.drew w' v v' from putByte_int r.give bs v base w.drew (by have := inB_of hmay; omega) (own_drew ho) hb (by omega))
  have HS := Lib.hid (show ∀ W u, Grew w W v u → W.cell? ⟨bu, 0, none⟩ = some (fun0 77) ∧ W.cell? ⟨bp, 0, none⟩ = some (ptr X 6) ∧ W.cell? ⟨X, 6, none⟩ = some (.int .i64 r.give) from fun W u hW => by
    have k1 : ∀ b j, b < w.heap.size → (v.ownBlock ≠ some b) → W.cell? ⟨b, j, none⟩ = w.cell? ⟨b, j, none⟩ := fun b j h1 h2 => World.cell?_of_block (w := w) (hW.block b h1 h2)
    exact ⟨(k1 _ _ hbm (fun e => (hv _ e).1 rfl)).trans hm, (k1 _ _ hbp (fun e => (hv _ e).2.1 rfl)).trans hp, (k1 _ _ hX.lt (fun e => (hv _ e).2.2 rfl)).trans (hX.cell 6 rfl)⟩)
  clear hX hm hp hbm hbp hmay ho hb hl hv hP
  go_enter Try.func101, Try.ntmps101
  go_wp2_with fail
  refine wp_region_held_drew (S := fun W => W.cell? ⟨bu, 0, none⟩ = some (fun0 77) ∧ W.cell? ⟨bp, 0, none⟩ = some (ptr X 6) ∧ W.cell? ⟨X, 6, none⟩ = some (.int .i64 r.give)) (by kernel_rfl) (HS.out _ _ (grew_drew (Grew.refl w v))) (fun hHeld => ?_)
  refine wpAnyH_take (i := 0) (v := ?_) rfl (by kernel_rfl) (by kernel_rfl) (by kernel_rfl) (fun _ _ _ h => h) (Or.inl ⟨by rfl, ?_⟩) (by assumption) ?_
  rotate_left
  · simp only [List.getElem_toArray, List.getElem_cons_zero, List.getElem_cons_succ]; intro W hSw; (try dsimp only at hSw); go_simp; all_goals with_reducible rfl
  simp only [Act.put, List.getElem_toArray, List.getElem_cons_zero, List.getElem_cons_succ, List.setIfInBounds_toArray, List.set_cons_zero, List.set_cons_succ]
  refine wpAnyH_take (i := 1) (v := ?_) rfl (by kernel_rfl) (by kernel_rfl) (by kernel_rfl) (fun _ _ _ h => h) (Or.inl ⟨by rfl, ?_⟩) (by assumption) ?_
  rotate_left
  · simp only [List.getElem_toArray, List.getElem_cons_zero, List.getElem_cons_succ]; intro W hSw; (try dsimp only at hSw); go_simp; all_goals with_reducible rfl
  simp only [Act.put, List.getElem_toArray, List.getElem_cons_zero, List.getElem_cons_succ, List.setIfInBounds_toArray, List.set_cons_zero, List.set_cons_succ]
  refine wpAnyH_take (i := 2) (v := ?_) rfl (by kernel_rfl) (by kernel_rfl) (by kernel_rfl) (fun _ _ _ h => h) (Or.inl ⟨by rfl, ?_⟩) (by assumption) ?_
  rotate_left
  · simp only [List.getElem_toArray, List.getElem_cons_zero, List.getElem_cons_succ]; intro W hSw; (try dsimp only at hSw); go_simp; all_goals with_reducible rfl
  simp only [Act.put, List.getElem_toArray, List.getElem_cons_zero, List.getElem_cons_succ, List.setIfInBounds_toArray, List.set_cons_zero, List.set_cons_succ]
  refine wpAnyH_take (i := 3) (v := ?_) rfl (by kernel_rfl) (by kernel_rfl) (by kernel_rfl) (fun _ _ _ h => h) (Or.inl ⟨by rfl, ?_⟩) (by assumption) ?_
  rotate_left
  · simp only [List.getElem_toArray, List.getElem_cons_zero, List.getElem_cons_succ]; intro W hSw; (try dsimp only at hSw); go_simp; all_goals with_reducible rfl
  simp only [Act.put, List.getElem_toArray, List.getElem_cons_zero, List.getElem_cons_succ, List.setIfInBounds_toArray, List.set_cons_zero, List.set_cons_succ]
  refine wpAnyH_take (i := 4) (v := ?_) rfl (by kernel_rfl) (by kernel_rfl) (by kernel_rfl) (fun _ _ _ h => h) (Or.inl ⟨by rfl, ?_⟩) (by assumption) ?_
  rotate_left
  · simp only [List.getElem_toArray, List.getElem_cons_zero, List.getElem_cons_succ]; intro W hSw; (try dsimp only at hSw); go_simp; all_goals with_reducible rfl
  simp only [Act.put, List.getElem_toArray, List.getElem_cons_zero, List.getElem_cons_succ, List.setIfInBounds_toArray, List.set_cons_zero, List.set_cons_succ]
  refine wpAnyH_ready (rs := [5]) (by kernel_rfl) (by simp) ?_
  refine AllReadyH.cons rfl (fun K hK => ?_) AllReadyH.nil
  simp only [List.getElem_toArray, List.getElem_cons_zero, List.getElem_cons_succ]
  go_simp
  refine HM.out.mono ?_
  rintro e w2 ⟨v2, rfl, ho2, hg2⟩
  have HB2 := Lib.hid ((grew_drew (Grew.refl w v)).trans hg2)
  have HO2 := Lib.hid ho2
  clear hg2 ho2
  go_wp2_with fail
  refine hK.out _ _ (HS.out _ _ HB2.out) (fun hHeldN => ?_)
  clear hK K hHeld
  have hHeld := hHeldN
  clear hHeldN
  (try simp only [Act.put, List.getElem_toArray, List.getElem_cons_zero, List.getElem_cons_succ, List.setIfInBounds_toArray, List.set_cons_zero, List.set_cons_succ])
  refine wpAnyH_take (i := 6) (v := ?_) rfl (by kernel_rfl) (by kernel_rfl) (by kernel_rfl) (fun _ _ _ h => h) (Or.inl ⟨by rfl, ?_⟩) (by assumption) ?_
  rotate_left
  · simp only [List.getElem_toArray, List.getElem_cons_zero, List.getElem_cons_succ]; intro W hSw; (try dsimp only at hSw); go_simp; all_goals with_reducible rfl
  simp only [Act.put, List.getElem_toArray, List.getElem_cons_zero, List.getElem_cons_succ, List.setIfInBounds_toArray, List.set_cons_zero, List.set_cons_succ]
  refine wpAnyH_done (by kernel_rfl) ?_ _
  go_wp2_with fail
  go_ret
  exact ⟨v2, rfl, HO2.out, HB2.out⟩

set_option maxHeartbeats 2000000 in
theorem put_take (w : World) (X : Nat) (P : Nat → Prop) (A : Option Addr) (c : Nat) (r : Rc) (bu bp : Nat) (bs : List Nat) (v : Value) (base : Nat) (hX : RBox w X P A c r) (hm : w.cell? ⟨bu, 0, none⟩ = some (fun0 77)) (hp : w.cell? ⟨bp, 0, none⟩ = some (ptr X 7)) (hbm : bu < w.heap.size) (hbp : bp < w.heap.size)
    (hmay : mayF .take r = true) (ho : Own w base bs v) (hb : base ≤ w.heap.size) (hl : bs.length ≤ 1000) (hv : ∀ k, v.ownBlock = some k → k ≠ bu ∧ k ≠ bp ∧ k ≠ X) (hP : ∀ k, P k → v.ownBlock ≠ some k) :
    Calls Try.prog 101 #[v, ptr bu 0, ptr bp 0] w fun e w' => ∃ v', e = .returned v' ∧ Own w' base (bs ++ putF .take r) v' ∧ Grew w w' v v' := by
  have HM := Lib.hid (show Calls Try.prog 77 #[v, .int .i64 r.take] w.drew fun e w' => ∃ v', e = .returned v' ∧ Own w' base (bs ++ putF .take r) v' ∧ Grew w.drew w' v v' from putByte_int r.take bs v base w.drew (by have h0 : takeB r.take r.give = true := hmay; unfold takeB at h0; have := inB_of (Bool.and_eq_true_iff.1 h0).1; omega) (own_drew ho) hb (by omega))
  have HS := Lib.hid (show ∀ W u, Grew w W v u → W.cell? ⟨bu, 0, none⟩ = some (fun0 77) ∧ W.cell? ⟨bp, 0, none⟩ = some (ptr X 7) ∧ W.cell? ⟨X, 7, none⟩ = some (.int .i64 r.take) from fun W u hW => by
    have k1 : ∀ b j, b < w.heap.size → (v.ownBlock ≠ some b) → W.cell? ⟨b, j, none⟩ = w.cell? ⟨b, j, none⟩ := fun b j h1 h2 => World.cell?_of_block (w := w) (hW.block b h1 h2)
    exact ⟨(k1 _ _ hbm (fun e => (hv _ e).1 rfl)).trans hm, (k1 _ _ hbp (fun e => (hv _ e).2.1 rfl)).trans hp, (k1 _ _ hX.lt (fun e => (hv _ e).2.2 rfl)).trans (hX.cell 7 rfl)⟩)
  clear hX hm hp hbm hbp hmay ho hb hl hv hP
  go_enter Try.func101, Try.ntmps101
  go_wp2_with fail
  refine wp_region_held_drew (S := fun W => W.cell? ⟨bu, 0, none⟩ = some (fun0 77) ∧ W.cell? ⟨bp, 0, none⟩ = some (ptr X 7) ∧ W.cell? ⟨X, 7, none⟩ = some (.int .i64 r.take)) (by kernel_rfl) (HS.out _ _ (grew_drew (Grew.refl w v))) (fun hHeld => ?_)
  refine wpAnyH_take (i := 0) (v := ?_) rfl (by kernel_rfl) (by kernel_rfl) (by kernel_rfl) (fun _ _ _ h => h) (Or.inl ⟨by rfl, ?_⟩) (by assumption) ?_
  rotate_left
  · simp only [List.getElem_toArray, List.getElem_cons_zero, List.getElem_cons_succ]; intro W hSw; (try dsimp only at hSw); go_simp; all_goals with_reducible rfl
  simp only [Act.put, List.getElem_toArray, List.getElem_cons_zero, List.getElem_cons_succ, List.setIfInBounds_toArray, List.set_cons_zero, List.set_cons_succ]
  refine wpAnyH_take (i := 1) (v := ?_) rfl (by kernel_rfl) (by kernel_rfl) (by kernel_rfl) (fun _ _ _ h => h) (Or.inl ⟨by rfl, ?_⟩) (by assumption) ?_
  rotate_left
  · simp only [List.getElem_toArray, List.getElem_cons_zero, List.getElem_cons_succ]; intro W hSw; (try dsimp only at hSw); go_simp; all_goals with_reducible rfl
  simp only [Act.put, List.getElem_toArray, List.getElem_cons_zero, List.getElem_cons_succ, List.setIfInBounds_toArray, List.set_cons_zero, List.set_cons_succ]
  refine wpAnyH_take (i := 2) (v := ?_) rfl (by kernel_rfl) (by kernel_rfl) (by kernel_rfl) (fun _ _ _ h => h) (Or.inl ⟨by rfl, ?_⟩) (by assumption) ?_
  rotate_left
  · simp only [List.getElem_toArray, List.getElem_cons_zero, List.getElem_cons_succ]; intro W hSw; (try dsimp only at hSw); go_simp; all_goals with_reducible rfl
  simp only [Act.put, List.getElem_toArray, List.getElem_cons_zero, List.getElem_cons_succ, List.setIfInBounds_toArray, List.set_cons_zero, List.set_cons_succ]
  refine wpAnyH_take (i := 3) (v := ?_) rfl (by kernel_rfl) (by kernel_rfl) (by kernel_rfl) (fun _ _ _ h => h) (Or.inl ⟨by rfl, ?_⟩) (by assumption) ?_
  rotate_left
  · simp only [List.getElem_toArray, List.getElem_cons_zero, List.getElem_cons_succ]; intro W hSw; (try dsimp only at hSw); go_simp; all_goals with_reducible rfl
  simp only [Act.put, List.getElem_toArray, List.getElem_cons_zero, List.getElem_cons_succ, List.setIfInBounds_toArray, List.set_cons_zero, List.set_cons_succ]
  refine wpAnyH_take (i := 4) (v := ?_) rfl (by kernel_rfl) (by kernel_rfl) (by kernel_rfl) (fun _ _ _ h => h) (Or.inl ⟨by rfl, ?_⟩) (by assumption) ?_
  rotate_left
  · simp only [List.getElem_toArray, List.getElem_cons_zero, List.getElem_cons_succ]; intro W hSw; (try dsimp only at hSw); go_simp; all_goals with_reducible rfl
  simp only [Act.put, List.getElem_toArray, List.getElem_cons_zero, List.getElem_cons_succ, List.setIfInBounds_toArray, List.set_cons_zero, List.set_cons_succ]
  refine wpAnyH_ready (rs := [5]) (by kernel_rfl) (by simp) ?_
  refine AllReadyH.cons rfl (fun K hK => ?_) AllReadyH.nil
  simp only [List.getElem_toArray, List.getElem_cons_zero, List.getElem_cons_succ]
  go_simp
  refine HM.out.mono ?_
  rintro e w2 ⟨v2, rfl, ho2, hg2⟩
  have HB2 := Lib.hid ((grew_drew (Grew.refl w v)).trans hg2)
  have HO2 := Lib.hid ho2
  clear hg2 ho2
  go_wp2_with fail
  refine hK.out _ _ (HS.out _ _ HB2.out) (fun hHeldN => ?_)
  clear hK K hHeld
  have hHeld := hHeldN
  clear hHeldN
  (try simp only [Act.put, List.getElem_toArray, List.getElem_cons_zero, List.getElem_cons_succ, List.setIfInBounds_toArray, List.set_cons_zero, List.set_cons_succ])
  refine wpAnyH_take (i := 6) (v := ?_) rfl (by kernel_rfl) (by kernel_rfl) (by kernel_rfl) (fun _ _ _ h => h) (Or.inl ⟨by rfl, ?_⟩) (by assumption) ?_
  rotate_left
  · simp only [List.getElem_toArray, List.getElem_cons_zero, List.getElem_cons_succ]; intro W hSw; (try dsimp only at hSw); go_simp; all_goals with_reducible rfl
  simp only [Act.put, List.getElem_toArray, List.getElem_cons_zero, List.getElem_cons_succ, List.setIfInBounds_toArray, List.set_cons_zero, List.set_cons_succ]
  refine wpAnyH_done (by kernel_rfl) ?_ _
  go_wp2_with fail
  go_ret
  exact ⟨v2, rfl, HO2.out, HB2.out⟩

set_option maxHeartbeats 2000000 in
theorem put_yes (w : World) (X : Nat) (P : Nat → Prop) (A : Option Addr) (c : Nat) (r : Rc) (bu bp : Nat) (bs : List Nat) (v : Value) (base : Nat) (hX : RBox w X P A c r) (hm : w.cell? ⟨bu, 0, none⟩ = some (fun0 82)) (hp : w.cell? ⟨bp, 0, none⟩ = some (ptr X 4)) (hbm : bu < w.heap.size) (hbp : bp < w.heap.size)
    (hmay : mayF .yes r = true) (ho : Own w base bs v) (hb : base ≤ w.heap.size) (hl : bs.length ≤ 1000) (hv : ∀ k, v.ownBlock = some k → k ≠ bu ∧ k ≠ bp ∧ k ≠ X) (hP : ∀ k, P k → v.ownBlock ≠ some k) :
    Calls Try.prog 106 #[v, ptr bu 0, ptr bp 0] w fun e w' => ∃ v', e = .returned v' ∧ Own w' base (bs ++ putF .yes r) v' ∧ Grew w w' v v' := by
  have HM := Lib.hid (show Calls Try.prog 82 #[v, .bool r.yes] w.drew fun e w' => ∃ v', e = .returned v' ∧ Own w' base (bs ++ putF .yes r) v' ∧ Grew w.drew w' v v' from putFlag_dev r.yes bs v base w.drew (own_drew ho) hb (by omega))
  have HS := Lib.hid (show ∀ W u, Grew w W v u → W.cell? ⟨bu, 0, none⟩ = some (fun0 82) ∧ W.cell? ⟨bp, 0, none⟩ = some (ptr X 4) ∧ W.cell? ⟨X, 4, none⟩ = some (.bool r.yes) from fun W u hW => by
    have k1 : ∀ b j, b < w.heap.size → (v.ownBlock ≠ some b) → W.cell? ⟨b, j, none⟩ = w.cell? ⟨b, j, none⟩ := fun b j h1 h2 => World.cell?_of_block (w := w) (hW.block b h1 h2)
    exact ⟨(k1 _ _ hbm (fun e => (hv _ e).1 rfl)).trans hm, (k1 _ _ hbp (fun e => (hv _ e).2.1 rfl)).trans hp, (k1 _ _ hX.lt (fun e => (hv _ e).2.2 rfl)).trans (hX.cell 4 rfl)⟩)
  clear hX hm hp hbm hbp hmay ho hb hl hv hP
  go_enter Try.func106, Try.ntmps106
  go_wp2_with fail
  refine wp_region_held_drew (S := fun W => W.cell? ⟨bu, 0, none⟩ = some (fun0 82) ∧ W.cell? ⟨bp, 0, none⟩ = some (ptr X 4) ∧ W.cell? ⟨X, 4, none⟩ = some (.bool r.yes)) (by kernel_rfl) (HS.out _ _ (grew_drew (Grew.refl w v))) (fun hHeld => ?_)
  refine wpAnyH_take (i := 0) (v := ?_) rfl (by kernel_rfl) (by kernel_rfl) (by kernel_rfl) (fun _ _ _ h => h) (Or.inl ⟨by rfl, ?_⟩) (by assumption) ?_
  rotate_left
  · simp only [List.getElem_toArray, List.getElem_cons_zero, List.getElem_cons_succ]; intro W hSw; (try dsimp only at hSw); go_simp; all_goals with_reducible rfl
  simp only [Act.put, List.getElem_toArray, List.getElem_cons_zero, List.getElem_cons_succ, List.setIfInBounds_toArray, List.set_cons_zero, List.set_cons_succ]
  refine wpAnyH_take (i := 1) (v := ?_) rfl (by kernel_rfl) (by kernel_rfl) (by kernel_rfl) (fun _ _ _ h => h) (Or.inl ⟨by rfl, ?_⟩) (by assumption) ?_
  rotate_left
  · simp only [List.getElem_toArray, List.getElem_cons_zero, List.getElem_cons_succ]; intro W hSw; (try dsimp only at hSw); go_simp; all_goals with_reducible rfl
  simp only [Act.put, List.getElem_toArray, List.getElem_cons_zero, List.getElem_cons_succ, List.setIfInBounds_toArray, List.set_cons_zero, List.set_cons_succ]
  refine wpAnyH_take (i := 2) (v := ?_) rfl (by kernel_rfl) (by kernel_rfl) (by kernel_rfl) (fun _ _ _ h => h) (Or.inl ⟨by rfl, ?_⟩) (by assumption) ?_
  rotate_left
  · simp only [List.getElem_toArray, List.getElem_cons_zero, List.getElem_cons_succ]; intro W hSw; (try dsimp only at hSw); go_simp; all_goals with_reducible rfl
  simp only [Act.put, List.getElem_toArray, List.getElem_cons_zero, List.getElem_cons_succ, List.setIfInBounds_toArray, List.set_cons_zero, List.set_cons_succ]
  refine wpAnyH_take (i := 3) (v := ?_) rfl (by kernel_rfl) (by kernel_rfl) (by kernel_rfl) (fun _ _ _ h => h) (Or.inl ⟨by rfl, ?_⟩) (by assumption) ?_
  rotate_left
  · simp only [List.getElem_toArray, List.getElem_cons_zero, List.getElem_cons_succ]; intro W hSw; (try dsimp only at hSw); go_simp; all_goals with_reducible rfl
  simp only [Act.put, List.getElem_toArray, List.getElem_cons_zero, List.getElem_cons_succ, List.setIfInBounds_toArray, List.set_cons_zero, List.set_cons_succ]
  refine wpAnyH_take (i := 4) (v := ?_) rfl (by kernel_rfl) (by kernel_rfl) (by kernel_rfl) (fun _ _ _ h => h) (Or.inl ⟨by rfl, ?_⟩) (by assumption) ?_
  rotate_left
  · simp only [List.getElem_toArray, List.getElem_cons_zero, List.getElem_cons_succ]; intro W hSw; (try dsimp only at hSw); go_simp; all_goals with_reducible rfl
  simp only [Act.put, List.getElem_toArray, List.getElem_cons_zero, List.getElem_cons_succ, List.setIfInBounds_toArray, List.set_cons_zero, List.set_cons_succ]
  refine wpAnyH_ready (rs := [5]) (by kernel_rfl) (by simp) ?_
  refine AllReadyH.cons rfl (fun K hK => ?_) AllReadyH.nil
  simp only [List.getElem_toArray, List.getElem_cons_zero, List.getElem_cons_succ]
  go_simp
  refine HM.out.mono ?_
  rintro e w2 ⟨v2, rfl, ho2, hg2⟩
  have HB2 := Lib.hid ((grew_drew (Grew.refl w v)).trans hg2)
  have HO2 := Lib.hid ho2
  clear hg2 ho2
  go_wp2_with fail
  refine hK.out _ _ (HS.out _ _ HB2.out) (fun hHeldN => ?_)
  clear hK K hHeld
  have hHeld := hHeldN
  clear hHeldN
  (try simp only [Act.put, List.getElem_toArray, List.getElem_cons_zero, List.getElem_cons_succ, List.setIfInBounds_toArray, List.set_cons_zero, List.set_cons_succ])
  refine wpAnyH_take (i := 6) (v := ?_) rfl (by kernel_rfl) (by kernel_rfl) (by kernel_rfl) (fun _ _ _ h => h) (Or.inl ⟨by rfl, ?_⟩) (by assumption) ?_
  rotate_left
  · simp only [List.getElem_toArray, List.getElem_cons_zero, List.getElem_cons_succ]; intro W hSw; (try dsimp only at hSw); go_simp; all_goals with_reducible rfl
  simp only [Act.put, List.getElem_toArray, List.getElem_cons_zero, List.getElem_cons_succ, List.setIfInBounds_toArray, List.set_cons_zero, List.set_cons_succ]
  refine wpAnyH_done (by kernel_rfl) ?_ _
  go_wp2_with fail
  go_ret
  exact ⟨v2, rfl, HO2.out, HB2.out⟩

set_option maxHeartbeats 2000000 in
theorem put_shards (w : World) (X : Nat) (P : Nat → Prop) (A : Option Addr) (c : Nat) (r : Rc) (bu bp : Nat) (bs : List Nat) (v : Value) (base : Nat) (hX : RBox w X P A c r) (hm : w.cell? ⟨bu, 0, none⟩ = some (fun0 77)) (hp : w.cell? ⟨bp, 0, none⟩ = some (ptr X 8)) (hbm : bu < w.heap.size) (hbp : bp < w.heap.size)
    (hmay : mayF .shards r = true) (ho : Own w base bs v) (hb : base ≤ w.heap.size) (hl : bs.length ≤ 1000) (hv : ∀ k, v.ownBlock = some k → k ≠ bu ∧ k ≠ bp ∧ k ≠ X) (hP : ∀ k, P k → v.ownBlock ≠ some k) :
    Calls Try.prog 101 #[v, ptr bu 0, ptr bp 0] w fun e w' => ∃ v', e = .returned v' ∧ Own w' base (bs ++ putF .shards r) v' ∧ Grew w w' v v' := by
  have HM := Lib.hid (show Calls Try.prog 77 #[v, .int .i64 r.shards] w.drew fun e w' => ∃ v', e = .returned v' ∧ Own w' base (bs ++ putF .shards r) v' ∧ Grew w.drew w' v v' from putByte_int r.shards bs v base w.drew (by have h0 : shardsB r.shards = true := hmay; unfold shardsB at h0; have := of_decide_eq_true h0; omega) (own_drew ho) hb (by omega))
  have HS := Lib.hid (show ∀ W u, Grew w W v u → W.cell? ⟨bu, 0, none⟩ = some (fun0 77) ∧ W.cell? ⟨bp, 0, none⟩ = some (ptr X 8) ∧ W.cell? ⟨X, 8, none⟩ = some (.int .i64 r.shards) from fun W u hW => by
    have k1 : ∀ b j, b < w.heap.size → (v.ownBlock ≠ some b) → W.cell? ⟨b, j, none⟩ = w.cell? ⟨b, j, none⟩ := fun b j h1 h2 => World.cell?_of_block (w := w) (hW.block b h1 h2)
    exact ⟨(k1 _ _ hbm (fun e => (hv _ e).1 rfl)).trans hm, (k1 _ _ hbp (fun e => (hv _ e).2.1 rfl)).trans hp, (k1 _ _ hX.lt (fun e => (hv _ e).2.2 rfl)).trans (hX.cell 8 rfl)⟩)
  clear hX hm hp hbm hbp hmay ho hb hl hv hP
  go_enter Try.func101, Try.ntmps101
  go_wp2_with fail
  refine wp_region_held_drew (S := fun W => W.cell? ⟨bu, 0, none⟩ = some (fun0 77) ∧ W.cell? ⟨bp, 0, none⟩ = some (ptr X 8) ∧ W.cell? ⟨X, 8, none⟩ = some (.int .i64 r.shards)) (by kernel_rfl) (HS.out _ _ (grew_drew (Grew.refl w v))) (fun hHeld => ?_)
  refine wpAnyH_take (i := 0) (v := ?_) rfl (by kernel_rfl) (by kernel_rfl) (by kernel_rfl) (fun _ _ _ h => h) (Or.inl ⟨by rfl, ?_⟩) (by assumption) ?_
  rotate_left
  · simp only [List.getElem_toArray, List.getElem_cons_zero, List.getElem_cons_succ]; intro W hSw; (try dsimp only at hSw); go_simp; all_goals with_reducible rfl
  simp only [Act.put, List.getElem_toArray, List.getElem_cons_zero, List.getElem_cons_succ, List.setIfInBounds_toArray, List.set_cons_zero, List.set_cons_succ]
  refine wpAnyH_take (i := 1) (v := ?_) rfl (by kernel_rfl) (by kernel_rfl) (by kernel_rfl) (fun _ _ _ h => h) (Or.inl ⟨by rfl, ?_⟩) (by assumption) ?_
  rotate_left
  · simp only [List.getElem_toArray, List.getElem_cons_zero, List.getElem_cons_succ]; intro W hSw; (try dsimp only at hSw); go_simp; all_goals with_reducible rfl
  simp only [Act.put, List.getElem_toArray, List.getElem_cons_zero, List.getElem_cons_succ, List.setIfInBounds_toArray, List.set_cons_zero, List.set_cons_succ]
  refine wpAnyH_take (i := 2) (v := ?_) rfl (by kernel_rfl) (by kernel_rfl) (by kernel_rfl) (fun _ _ _ h => h) (Or.inl ⟨by rfl, ?_⟩) (by assumption) ?_
  rotate_left
  · simp only [List.getElem_toArray, List.getElem_cons_zero, List.getElem_cons_succ]; intro W hSw; (try dsimp only at hSw); go_simp; all_goals with_reducible rfl
  simp only [Act.put, List.getElem_toArray, List.getElem_cons_zero, List.getElem_cons_succ, List.setIfInBounds_toArray, List.set_cons_zero, List.set_cons_succ]
  refine wpAnyH_take (i := 3) (v := ?_) rfl (by kernel_rfl) (by kernel_rfl) (by kernel_rfl) (fun _ _ _ h => h) (Or.inl ⟨by rfl, ?_⟩) (by assumption) ?_
  rotate_left
  · simp only [List.getElem_toArray, List.getElem_cons_zero, List.getElem_cons_succ]; intro W hSw; (try dsimp only at hSw); go_simp; all_goals with_reducible rfl
  simp only [Act.put, List.getElem_toArray, List.getElem_cons_zero, List.getElem_cons_succ, List.setIfInBounds_toArray, List.set_cons_zero, List.set_cons_succ]
  refine wpAnyH_take (i := 4) (v := ?_) rfl (by kernel_rfl) (by kernel_rfl) (by kernel_rfl) (fun _ _ _ h => h) (Or.inl ⟨by rfl, ?_⟩) (by assumption) ?_
  rotate_left
  · simp only [List.getElem_toArray, List.getElem_cons_zero, List.getElem_cons_succ]; intro W hSw; (try dsimp only at hSw); go_simp; all_goals with_reducible rfl
  simp only [Act.put, List.getElem_toArray, List.getElem_cons_zero, List.getElem_cons_succ, List.setIfInBounds_toArray, List.set_cons_zero, List.set_cons_succ]
  refine wpAnyH_ready (rs := [5]) (by kernel_rfl) (by simp) ?_
  refine AllReadyH.cons rfl (fun K hK => ?_) AllReadyH.nil
  simp only [List.getElem_toArray, List.getElem_cons_zero, List.getElem_cons_succ]
  go_simp
  refine HM.out.mono ?_
  rintro e w2 ⟨v2, rfl, ho2, hg2⟩
  have HB2 := Lib.hid ((grew_drew (Grew.refl w v)).trans hg2)
  have HO2 := Lib.hid ho2
  clear hg2 ho2
  go_wp2_with fail
  refine hK.out _ _ (HS.out _ _ HB2.out) (fun hHeldN => ?_)
  clear hK K hHeld
  have hHeld := hHeldN
  clear hHeldN
  (try simp only [Act.put, List.getElem_toArray, List.getElem_cons_zero, List.getElem_cons_succ, List.setIfInBounds_toArray, List.set_cons_zero, List.set_cons_succ])
  refine wpAnyH_take (i := 6) (v := ?_) rfl (by kernel_rfl) (by kernel_rfl) (by kernel_rfl) (fun _ _ _ h => h) (Or.inl ⟨by rfl, ?_⟩) (by assumption) ?_
  rotate_left
  · simp only [List.getElem_toArray, List.getElem_cons_zero, List.getElem_cons_succ]; intro W hSw; (try dsimp only at hSw); go_simp; all_goals with_reducible rfl
  simp only [Act.put, List.getElem_toArray, List.getElem_cons_zero, List.getElem_cons_succ, List.setIfInBounds_toArray, List.set_cons_zero, List.set_cons_succ]
  refine wpAnyH_done (by kernel_rfl) ?_ _
  go_wp2_with fail
  go_ret
  exact ⟨v2, rfl, HO2.out, HB2.out⟩

set_option maxHeartbeats 2000000 in
theorem put_change (w : World) (X : Nat) (P : Nat → Prop) (A : Option Addr) (c : Nat) (r : Rc) (bu bp : Nat) (bs : List Nat) (v : Value) (base : Nat) (hX : RBox w X P A c r) (hm : w.cell? ⟨bu, 0, none⟩ = some (fun0 87)) (hp : w.cell? ⟨bp, 0, none⟩ = some (ptr X 9)) (hbm : bu < w.heap.size) (hbp : bp < w.heap.size)
    (hmay : mayF .change r = true) (ho : Own w base bs v) (hb : base ≤ w.heap.size) (hl : bs.length ≤ 1000) (hv : ∀ k, v.ownBlock = some k → k ≠ bu ∧ k ≠ bp ∧ k ≠ X) (hP : ∀ k, P k → v.ownBlock ≠ some k) :
    Calls Try.prog 110 #[v, ptr bu 0, ptr bp 0] w fun e w' => ∃ v', e = .returned v' ∧ Own w' base (bs ++ putF .change r) v' ∧ Grew w w' v v' := by
  have HM := Lib.hid (show Calls Try.prog 87 #[v, .agg #[.int .i64 r.stripe, .int .i64 r.dest]] w.drew fun e w' => ∃ v', e = .returned v' ∧ Own w' base (bs ++ putF .change r) v' ∧ Grew w.drew w' v v' from putChange_dev r.stripe r.dest bs v base w.drew (changed_of hmay).1 (changed_of hmay).2 (own_drew ho) hb (by omega))
  have HS := Lib.hid (show ∀ W u, Grew w W v u → W.cell? ⟨bu, 0, none⟩ = some (fun0 87) ∧ W.cell? ⟨bp, 0, none⟩ = some (ptr X 9) ∧ (∀ j u, ([.int .i64 r.stripe, .int .i64 r.dest])[j]? = some u → W.cell? ⟨X, 9 + j, none⟩ = some u) from fun W u hW => by
    have k1 : ∀ b j, b < w.heap.size → (v.ownBlock ≠ some b) → W.cell? ⟨b, j, none⟩ = w.cell? ⟨b, j, none⟩ := fun b j h1 h2 => World.cell?_of_block (w := w) (hW.block b h1 h2)
    exact ⟨(k1 _ _ hbm (fun e => (hv _ e).1 rfl)).trans hm, (k1 _ _ hbp (fun e => (hv _ e).2.1 rfl)).trans hp, (fun j u hu => by have hj := (List.getElem?_eq_some_iff.1 hu).1; match j, hu with | 0, hu => cases hu; exact (k1 _ _ hX.lt (fun e => (hv _ e).2.2 rfl)).trans (hX.cell 9 rfl) | 1, hu => cases hu; exact (k1 _ _ hX.lt (fun e => (hv _ e).2.2 rfl)).trans (hX.cell 10 rfl))⟩)
  clear hX hm hp hbm hbp hmay ho hb hl hv hP
  go_enter Try.func110, Try.ntmps110
  go_wp2_with fail
  refine wp_region_held_drew (S := fun W => W.cell? ⟨bu, 0, none⟩ = some (fun0 87) ∧ W.cell? ⟨bp, 0, none⟩ = some (ptr X 9) ∧ (∀ j u, ([.int .i64 r.stripe, .int .i64 r.dest])[j]? = some u → W.cell? ⟨X, 9 + j, none⟩ = some u)) (by kernel_rfl) (HS.out _ _ (grew_drew (Grew.refl w v))) (fun hHeld => ?_)
  refine wpAnyH_take (i := 0) (v := ?_) rfl (by kernel_rfl) (by kernel_rfl) (by kernel_rfl) (fun _ _ _ h => h) (Or.inl ⟨by rfl, ?_⟩) (by assumption) ?_
  rotate_left
  · simp only [List.getElem_toArray, List.getElem_cons_zero, List.getElem_cons_succ]; intro W hSw; (try dsimp only at hSw); go_simp; all_goals with_reducible rfl
  simp only [Act.put, List.getElem_toArray, List.getElem_cons_zero, List.getElem_cons_succ, List.setIfInBounds_toArray, List.set_cons_zero, List.set_cons_succ]
  refine wpAnyH_take (i := 1) (v := ?_) rfl (by kernel_rfl) (by kernel_rfl) (by kernel_rfl) (fun _ _ _ h => h) (Or.inl ⟨by rfl, ?_⟩) (by assumption) ?_
  rotate_left
  · simp only [List.getElem_toArray, List.getElem_cons_zero, List.getElem_cons_succ]; intro W hSw; (try dsimp only at hSw); go_simp; all_goals with_reducible rfl
  simp only [Act.put, List.getElem_toArray, List.getElem_cons_zero, List.getElem_cons_succ, List.setIfInBounds_toArray, List.set_cons_zero, List.set_cons_succ]
  refine wpAnyH_take (i := 2) (v := ?_) rfl (by kernel_rfl) (by kernel_rfl) (by kernel_rfl) (fun _ _ _ h => h) (Or.inl ⟨by rfl, ?_⟩) (by assumption) ?_
  rotate_left
  · simp only [List.getElem_toArray, List.getElem_cons_zero, List.getElem_cons_succ]; intro W hSw; (try dsimp only at hSw); go_simp; all_goals with_reducible rfl
  simp only [Act.put, List.getElem_toArray, List.getElem_cons_zero, List.getElem_cons_succ, List.setIfInBounds_toArray, List.set_cons_zero, List.set_cons_succ]
  refine wpAnyH_take (i := 3) (v := ?_) rfl (by kernel_rfl) (by kernel_rfl) (by kernel_rfl) (fun _ _ _ h => h) (Or.inl ⟨by rfl, ?_⟩) (by assumption) ?_
  rotate_left
  · simp only [List.getElem_toArray, List.getElem_cons_zero, List.getElem_cons_succ]; intro W hSw; (try dsimp only at hSw); go_simp; all_goals with_reducible rfl
  simp only [Act.put, List.getElem_toArray, List.getElem_cons_zero, List.getElem_cons_succ, List.setIfInBounds_toArray, List.set_cons_zero, List.set_cons_succ]
  refine wpAnyH_take (i := 4) (v := ?_) rfl (by kernel_rfl) (by kernel_rfl) (by kernel_rfl) (fun _ _ _ h => h) (Or.inl ⟨by rfl, ?_⟩) (by assumption) ?_
  rotate_left
  · simp only [List.getElem_toArray, List.getElem_cons_zero, List.getElem_cons_succ]; intro W hSw; (try dsimp only at hSw); refine exec_load_part 27 (.tmp 8) ?_ X 9 ?_ ([.int .i64 r.stripe, .int .i64 r.dest]) _ hSw.2.2 Try.underlying27 ?_ ?_ <;> first | rfl | exact sizeC
  simp only [Act.put, List.getElem_toArray, List.getElem_cons_zero, List.getElem_cons_succ, List.setIfInBounds_toArray, List.set_cons_zero, List.set_cons_succ]
  refine wpAnyH_ready (rs := [5]) (by kernel_rfl) (by simp) ?_
  refine AllReadyH.cons rfl (fun K hK => ?_) AllReadyH.nil
  simp only [List.getElem_toArray, List.getElem_cons_zero, List.getElem_cons_succ]
  go_simp
  refine HM.out.mono ?_
  rintro e w2 ⟨v2, rfl, ho2, hg2⟩
  have HB2 := Lib.hid ((grew_drew (Grew.refl w v)).trans hg2)
  have HO2 := Lib.hid ho2
  clear hg2 ho2
  go_wp2_with fail
  refine hK.out _ _ (HS.out _ _ HB2.out) (fun hHeldN => ?_)
  clear hK K hHeld
  have hHeld := hHeldN
  clear hHeldN
  (try simp only [Act.put, List.getElem_toArray, List.getElem_cons_zero, List.getElem_cons_succ, List.setIfInBounds_toArray, List.set_cons_zero, List.set_cons_succ])
  refine wpAnyH_take (i := 6) (v := ?_) rfl (by kernel_rfl) (by kernel_rfl) (by kernel_rfl) (fun _ _ _ h => h) (Or.inl ⟨by rfl, ?_⟩) (by assumption) ?_
  rotate_left
  · simp only [List.getElem_toArray, List.getElem_cons_zero, List.getElem_cons_succ]; intro W hSw; (try dsimp only at hSw); go_simp; all_goals with_reducible rfl
  simp only [Act.put, List.getElem_toArray, List.getElem_cons_zero, List.getElem_cons_succ, List.setIfInBounds_toArray, List.set_cons_zero, List.set_cons_succ]
  refine wpAnyH_done (by kernel_rfl) ?_ _
  go_wp2_with fail
  go_ret
  exact ⟨v2, rfl, HO2.out, HB2.out⟩

set_option maxHeartbeats 2000000 in
theorem put_num (w : World) (X : Nat) (P : Nat → Prop) (A : Option Addr) (c : Nat) (r : Rc) (m : Int) (hm16 : m < 16777216) (bu bp : Nat) (bs : List Nat) (v : Value) (base : Nat) (hX : RBox w X P A c r) (hm : w.cell? ⟨bu, 0, none⟩ = some (fun0 90)) (hp : w.cell? ⟨bp, 0, none⟩ = some (ptr X 11)) (hbm : bu < w.heap.size) (hbp : bp < w.heap.size)
    (hmay : mayF (.num m) r = true) (ho : Own w base bs v) (hb : base ≤ w.heap.size) (hl : bs.length ≤ 1000) (hv : ∀ k, v.ownBlock = some k → k ≠ bu ∧ k ≠ bp ∧ k ≠ X) (hP : ∀ k, P k → v.ownBlock ≠ some k) :
    Calls Try.prog 101 #[v, ptr bu 0, ptr bp 0] w fun e w' => ∃ v', e = .returned v' ∧ Own w' base (bs ++ putF (.num m) r) v' ∧ Grew w w' v v' := by
  have HM := Lib.hid (show Calls Try.prog 90 #[v, .int .i64 r.n] w.drew fun e w' => ∃ v', e = .returned v' ∧ Own w' base (bs ++ putF (.num m) r) v' ∧ Grew w.drew w' v v' from putWide_int r.n bs v base w.drew (by have := inB_of hmay; omega) (own_drew ho) hb (by omega))
  have HS := Lib.hid (show ∀ W u, Grew w W v u → W.cell? ⟨bu, 0, none⟩ = some (fun0 90) ∧ W.cell? ⟨bp, 0, none⟩ = some (ptr X 11) ∧ W.cell? ⟨X, 11, none⟩ = some (.int .i64 r.n) from fun W u hW => by
    have k1 : ∀ b j, b < w.heap.size → (v.ownBlock ≠ some b) → W.cell? ⟨b, j, none⟩ = w.cell? ⟨b, j, none⟩ := fun b j h1 h2 => World.cell?_of_block (w := w) (hW.block b h1 h2)
    exact ⟨(k1 _ _ hbm (fun e => (hv _ e).1 rfl)).trans hm, (k1 _ _ hbp (fun e => (hv _ e).2.1 rfl)).trans hp, (k1 _ _ hX.lt (fun e => (hv _ e).2.2 rfl)).trans (hX.cell 11 rfl)⟩)
  clear hX hm hp hbm hbp hmay ho hb hl hv hP
  go_enter Try.func101, Try.ntmps101
  go_wp2_with fail
  refine wp_region_held_drew (S := fun W => W.cell? ⟨bu, 0, none⟩ = some (fun0 90) ∧ W.cell? ⟨bp, 0, none⟩ = some (ptr X 11) ∧ W.cell? ⟨X, 11, none⟩ = some (.int .i64 r.n)) (by kernel_rfl) (HS.out _ _ (grew_drew (Grew.refl w v))) (fun hHeld => ?_)
  refine wpAnyH_take (i := 0) (v := ?_) rfl (by kernel_rfl) (by kernel_rfl) (by kernel_rfl) (fun _ _ _ h => h) (Or.inl ⟨by rfl, ?_⟩) (by assumption) ?_
  rotate_left
  · simp only [List.getElem_toArray, List.getElem_cons_zero, List.getElem_cons_succ]; intro W hSw; (try dsimp only at hSw); go_simp; all_goals with_reducible rfl
  simp only [Act.put, List.getElem_toArray, List.getElem_cons_zero, List.getElem_cons_succ, List.setIfInBounds_toArray, List.set_cons_zero, List.set_cons_succ]
  refine wpAnyH_take (i := 1) (v := ?_) rfl (by kernel_rfl) (by kernel_rfl) (by kernel_rfl) (fun _ _ _ h => h) (Or.inl ⟨by rfl, ?_⟩) (by assumption) ?_
  rotate_left
  · simp only [List.getElem_toArray, List.getElem_cons_zero, List.getElem_cons_succ]; intro W hSw; (try dsimp only at hSw); go_simp; all_goals with_reducible rfl
  simp only [Act.put, List.getElem_toArray, List.getElem_cons_zero, List.getElem_cons_succ, List.setIfInBounds_toArray, List.set_cons_zero, List.set_cons_succ]
  refine wpAnyH_take (i := 2) (v := ?_) rfl (by kernel_rfl) (by kernel_rfl) (by kernel_rfl) (fun _ _ _ h => h) (Or.inl ⟨by rfl, ?_⟩) (by assumption) ?_
  rotate_left
  · simp only [List.getElem_toArray, List.getElem_cons_zero, List.getElem_cons_succ]; intro W hSw; (try dsimp only at hSw); go_simp; all_goals with_reducible rfl
  simp only [Act.put, List.getElem_toArray, List.getElem_cons_zero, List.getElem_cons_succ, List.setIfInBounds_toArray, List.set_cons_zero, List.set_cons_succ]
  refine wpAnyH_take (i := 3) (v := ?_) rfl (by kernel_rfl) (by kernel_rfl) (by kernel_rfl) (fun _ _ _ h => h) (Or.inl ⟨by rfl, ?_⟩) (by assumption) ?_
  rotate_left
  · simp only [List.getElem_toArray, List.getElem_cons_zero, List.getElem_cons_succ]; intro W hSw; (try dsimp only at hSw); go_simp; all_goals with_reducible rfl
  simp only [Act.put, List.getElem_toArray, List.getElem_cons_zero, List.getElem_cons_succ, List.setIfInBounds_toArray, List.set_cons_zero, List.set_cons_succ]
  refine wpAnyH_take (i := 4) (v := ?_) rfl (by kernel_rfl) (by kernel_rfl) (by kernel_rfl) (fun _ _ _ h => h) (Or.inl ⟨by rfl, ?_⟩) (by assumption) ?_
  rotate_left
  · simp only [List.getElem_toArray, List.getElem_cons_zero, List.getElem_cons_succ]; intro W hSw; (try dsimp only at hSw); go_simp; all_goals with_reducible rfl
  simp only [Act.put, List.getElem_toArray, List.getElem_cons_zero, List.getElem_cons_succ, List.setIfInBounds_toArray, List.set_cons_zero, List.set_cons_succ]
  refine wpAnyH_ready (rs := [5]) (by kernel_rfl) (by simp) ?_
  refine AllReadyH.cons rfl (fun K hK => ?_) AllReadyH.nil
  simp only [List.getElem_toArray, List.getElem_cons_zero, List.getElem_cons_succ]
  go_simp
  refine HM.out.mono ?_
  rintro e w2 ⟨v2, rfl, ho2, hg2⟩
  have HB2 := Lib.hid ((grew_drew (Grew.refl w v)).trans hg2)
  have HO2 := Lib.hid ho2
  clear hg2 ho2
  go_wp2_with fail
  refine hK.out _ _ (HS.out _ _ HB2.out) (fun hHeldN => ?_)
  clear hK K hHeld
  have hHeld := hHeldN
  clear hHeldN
  (try simp only [Act.put, List.getElem_toArray, List.getElem_cons_zero, List.getElem_cons_succ, List.setIfInBounds_toArray, List.set_cons_zero, List.set_cons_succ])
  refine wpAnyH_take (i := 6) (v := ?_) rfl (by kernel_rfl) (by kernel_rfl) (by kernel_rfl) (fun _ _ _ h => h) (Or.inl ⟨by rfl, ?_⟩) (by assumption) ?_
  rotate_left
  · simp only [List.getElem_toArray, List.getElem_cons_zero, List.getElem_cons_succ]; intro W hSw; (try dsimp only at hSw); go_simp; all_goals with_reducible rfl
  simp only [Act.put, List.getElem_toArray, List.getElem_cons_zero, List.getElem_cons_succ, List.setIfInBounds_toArray, List.set_cons_zero, List.set_cons_succ]
  refine wpAnyH_done (by kernel_rfl) ?_ _
  go_wp2_with fail
  go_ret
  exact ⟨v2, rfl, HO2.out, HB2.out⟩

end Go.Proofs.Ytaokhbodmodcgaa
end

section
/-
  The developers' fields: emptied, read. (Written by mkclo.py.)
-/
namespace Go.Proofs.Ytaokhbodmodcgaa
open Go.RowKit
set_option maxRecDepth 100000

section
variable {w w' : World} {X : Nat} {P : Nat → Prop} {A A' : Option Addr} {c c' : Nat} {r r' : Rc}
theorem RBox.set (h : RBox w X P A c r) (j : Nat) (v : Value) (e : (recv A c r).toArray.setIfInBounds j v = (recv A' c' r').toArray) (hw : WrsV w P A' c' r'.writes) (hf : r'.Fine) (hP : ¬ P X) : RBox (w.setCell ⟨X, j, none⟩ v) X P A' c' r' :=
  ⟨by rw [heap_setCell_same w X j _ _ v h.row, e], hw.keep (fun b hb => Below.heap_setCell w _ v b (fun e => hP (by have e2 : b = X := e; rw [← e2]; exact hb.1))) (by simp [World.setCell]), hf⟩
theorem RBox.setR (h : RBox w X P A c r) (R : Array Value) (e : R = (recv A' c' r').toArray) (hw : WrsV w P A' c' r'.writes) (hf : r'.Fine) (hP : ¬ P X) : RBox (w.setRow X R) X P A' c' r' :=
  ⟨by rw [setRow_heap _ _ _ _ _ _ h.row, e], hw.keep (fun b hb => setRow_other _ _ _ _ (fun e => hP (by have e2 : b = X := e; rw [← e2]; exact hb.1))) (by simp [World.setRow]), hf⟩
end
theorem Kept7.row {S : Nat → Prop} {a b : World} (h : Kept7 S a b) {X : Nat} (R : Array Value) (hX : S X) : Kept7 S a (b.setRow X R) :=
  ⟨h.os, h.tape, h.output, Nat.le_trans h.size (by simp [World.setRow]), fun k hk hn => (setRow_other _ _ _ _ (fun e => hn (by have e2 : k = X := e; rw [e2]; exact hX))).trans (h.block k hk hn)⟩
theorem zero_i64 : I64 0 := by unfold I64; omega
theorem low_i64 {x : Nat} (h : x < 16777216) : I64 (x : Int) := by unfold I64; omega

set_option maxHeartbeats 2000000 in
theorem empty_name (w : World) (X : Nat) (P : Nat → Prop) (A : Option Addr) (c : Nat) (r : Rc) (bp : Nat) (hX : RBox w X P A c r) (hp : w.cell? ⟨bp, 0, none⟩ = some (ptr X 1)) (hbp : bp < w.heap.size) (hP : ¬ P X) :
    Calls Try.prog 95 #[ptr bp 0] w fun e w' => e = .returned (.tuple #[]) ∧ (∃ A' c', RBox w' X P A' c' (emptyF .name r)) ∧ Kept7 (· = X) w w' := by
  have hw1 : ∃ w1, w1 = w.alloc (.cells #[.int .i64 0, .int .i64 0, .int .i64 0] 24) := ⟨_, rfl⟩
  obtain ⟨w1, hw1⟩ := hw1
  have hb1 : Below w.heap.size w w1 := by rw [hw1]; exact (Below.refl _ w).alloc (Nat.le_refl _) _
  have g1 : w1.heap[w.heap.size]? = some (.cells #[.int .i64 0, .int .i64 0, .int .i64 0] 24 (0, 0)) := by rw [hw1]; exact heap_alloc_new w _
  have hX1 := hX.below hb1
  have cp : w1.cell? ⟨bp, 0, none⟩ = some (ptr X 1) := (hb1.cell hbp).trans hp
  have HW1 := Lib.hid hw1
  have HL := Lib.hid g1
  have HX := Lib.hid (show w1.heap[X]? = some (.cells (([.int .i8 r.kind] : List Value) ++ ([.int .i64 r.name.stamp, .int .i64 r.name.inc, .int .i64 r.name.att] : List Value) ++ ([.bool r.yes, .slice A r.writes.length c, .int .i64 r.give, .int .i64 r.take, .int .i64 r.shards, .int .i64 r.stripe, .int .i64 r.dest, .int .i64 r.n] : List Value)).toArray 29 (0, 0)) from hX1.row)
  have HI := Lib.hid (show (Try.prog.info? 24).map (·.size) = some ([.int .i64 0, .int .i64 0, .int .i64 0] : List Value).length from sizeN)
  have HI2 := Lib.hid (show (Try.prog.info? 24).map (·.size) = some (#[.int .i64 0, .int .i64 0, .int .i64 0] : Array Value).size from sizeN)
  have H1 := Lib.hid (show ∀ v ∈ ([.int .i64 0, .int .i64 0, .int .i64 0] : List Value), v.oneCell' = true from by intro v hv; simp only [List.mem_cons, List.not_mem_nil, or_false] at hv; rcases hv with rfl | rfl | rfl <;> rfl)
  have HR := Lib.hid (show RBox (w1.setRow X (([.int .i8 r.kind] : List Value) ++ ([.int .i64 0, .int .i64 0, .int .i64 0] : List Value) ++ ([.bool r.yes, .slice A r.writes.length c, .int .i64 r.give, .int .i64 r.take, .int .i64 r.shards, .int .i64 r.stripe, .int .i64 r.dest, .int .i64 r.n] : List Value)).toArray) X P A c (emptyF .name r) from hX1.setR _ rfl hX1.wrs { hX1.fine with name := ⟨zero_i64, zero_i64, zero_i64⟩ } hP)
  have HK := Lib.hid ((Kept7.of_below (S := (· = X)) hb1 (Nat.le_refl _)).row (([.int .i8 r.kind] : List Value) ++ ([.int .i64 0, .int .i64 0, .int .i64 0] : List Value) ++ ([.bool r.yes, .slice A r.writes.length c, .int .i64 r.give, .int .i64 r.take, .int .i64 r.shards, .int .i64 r.stripe, .int .i64 r.dest, .int .i64 r.n] : List Value)).toArray rfl)
  clear hX hp hbp hw1 hb1 g1 hX1
  go_enter Try.func95, Try.ntmps95
  go_wp2_with (first
    | (rw [← HW1.out])
    | (refine wpList_load_row rfl 24 _ rfl w.heap.size rfl 24 #[.int .i64 0, .int .i64 0, .int .i64 0] (0, 0) _ HL.out Try.underlying24 rfl HI2.out ?_)
    | (refine wpList_store_part rfl 24 (.tmp 4) (.tmp 3) rfl X 1 (by simp [Act.eval, Act.put]) [.int .i64 0, .int .i64 0, .int .i64 0] (by simp [Act.eval, Act.put]) 29 [.int .i8 r.kind] [.int .i64 r.name.stamp, .int .i64 r.name.inc, .int .i64 r.name.att] [.bool r.yes, .slice A r.writes.length c, .int .i64 r.give, .int .i64 r.take, .int .i64 r.shards, .int .i64 r.stripe, .int .i64 r.dest, .int .i64 r.n] HX.out rfl rfl HI.out H1.out ?_))
  go_end0
  exact ⟨rfl, ⟨_, _, HR.out⟩, HK.out⟩

set_option maxHeartbeats 2000000 in
theorem empty_writes (w : World) (X : Nat) (P : Nat → Prop) (A : Option Addr) (c : Nat) (r : Rc) (bp : Nat) (hX : RBox w X P A c r) (hp : w.cell? ⟨bp, 0, none⟩ = some (ptr X 5)) (hbp : bp < w.heap.size) (hP : ¬ P X) :
    Calls Try.prog 99 #[ptr bp 0] w fun e w' => e = .returned (.tuple #[]) ∧ (∃ A' c', RBox w' X P A' c' (emptyF .writes r)) ∧ Kept7 (· = X) w w' := by
  have c0 := hX.cell 5 (v := .slice A r.writes.length c) rfl
  have f0 := hX.free 5
  have HR := Lib.hid (show RBox (w.setCell ⟨X, 5, none⟩ (.slice none 0 0)) X P none 0 (emptyF .writes r) from hX.set 5 _ rfl WrsV.nil_ { hX.fine with writes := fun _ h => absurd h List.not_mem_nil } hP)
  have HK := Lib.hid ((Kept7.refl (· = X) w).set_ (p := X) (j := 5) (.slice none 0 0) (fun _ => rfl))
  clear hX hbp
  go_enter Try.func99, Try.ntmps99
  go_wp2
  go_end0
  exact ⟨rfl, ⟨_, _, HR.out⟩, HK.out⟩

set_option maxHeartbeats 2000000 in
theorem empty_give (w : World) (X : Nat) (P : Nat → Prop) (A : Option Addr) (c : Nat) (r : Rc) (bp : Nat) (hX : RBox w X P A c r) (hp : w.cell? ⟨bp, 0, none⟩ = some (ptr X 6)) (hbp : bp < w.heap.size) (hP : ¬ P X) :
    Calls Try.prog 103 #[ptr bp 0] w fun e w' => e = .returned (.tuple #[]) ∧ (∃ A' c', RBox w' X P A' c' (emptyF .give r)) ∧ Kept7 (· = X) w w' := by
  have c0 := hX.cell 6 (v := .int .i64 r.give) rfl
  have f0 := hX.free 6
  have HR := Lib.hid (show RBox (w.setCell ⟨X, 6, none⟩ (.int .i64 0)) X P A c (emptyF .give r) from hX.set 6 _ rfl hX.wrs { hX.fine with give := zero_i64 } hP)
  have HK := Lib.hid ((Kept7.refl (· = X) w).set_ (p := X) (j := 6) (.int .i64 0) (fun _ => rfl))
  clear hX hbp
  go_enter Try.func103, Try.ntmps103
  go_wp2
  go_end0
  exact ⟨rfl, ⟨_, _, HR.out⟩, HK.out⟩

set_option maxHeartbeats 2000000 in
theorem empty_take (w : World) (X : Nat) (P : Nat → Prop) (A : Option Addr) (c : Nat) (r : Rc) (bp : Nat) (hX : RBox w X P A c r) (hp : w.cell? ⟨bp, 0, none⟩ = some (ptr X 7)) (hbp : bp < w.heap.size) (hP : ¬ P X) :
    Calls Try.prog 103 #[ptr bp 0] w fun e w' => e = .returned (.tuple #[]) ∧ (∃ A' c', RBox w' X P A' c' (emptyF .take r)) ∧ Kept7 (· = X) w w' := by
  have c0 := hX.cell 7 (v := .int .i64 r.take) rfl
  have f0 := hX.free 7
  have HR := Lib.hid (show RBox (w.setCell ⟨X, 7, none⟩ (.int .i64 0)) X P A c (emptyF .take r) from hX.set 7 _ rfl hX.wrs { hX.fine with take := zero_i64 } hP)
  have HK := Lib.hid ((Kept7.refl (· = X) w).set_ (p := X) (j := 7) (.int .i64 0) (fun _ => rfl))
  clear hX hbp
  go_enter Try.func103, Try.ntmps103
  go_wp2
  go_end0
  exact ⟨rfl, ⟨_, _, HR.out⟩, HK.out⟩

set_option maxHeartbeats 2000000 in
theorem empty_yes (w : World) (X : Nat) (P : Nat → Prop) (A : Option Addr) (c : Nat) (r : Rc) (bp : Nat) (hX : RBox w X P A c r) (hp : w.cell? ⟨bp, 0, none⟩ = some (ptr X 4)) (hbp : bp < w.heap.size) (hP : ¬ P X) :
    Calls Try.prog 108 #[ptr bp 0] w fun e w' => e = .returned (.tuple #[]) ∧ (∃ A' c', RBox w' X P A' c' (emptyF .yes r)) ∧ Kept7 (· = X) w w' := by
  have c0 := hX.cell 4 (v := .bool r.yes) rfl
  have f0 := hX.free 4
  have HR := Lib.hid (show RBox (w.setCell ⟨X, 4, none⟩ (.bool false)) X P A c (emptyF .yes r) from hX.set 4 _ rfl hX.wrs { hX.fine with } hP)
  have HK := Lib.hid ((Kept7.refl (· = X) w).set_ (p := X) (j := 4) (.bool false) (fun _ => rfl))
  clear hX hbp
  go_enter Try.func108, Try.ntmps108
  go_wp2
  go_end0
  exact ⟨rfl, ⟨_, _, HR.out⟩, HK.out⟩

set_option maxHeartbeats 2000000 in
theorem empty_shards (w : World) (X : Nat) (P : Nat → Prop) (A : Option Addr) (c : Nat) (r : Rc) (bp : Nat) (hX : RBox w X P A c r) (hp : w.cell? ⟨bp, 0, none⟩ = some (ptr X 8)) (hbp : bp < w.heap.size) (hP : ¬ P X) :
    Calls Try.prog 103 #[ptr bp 0] w fun e w' => e = .returned (.tuple #[]) ∧ (∃ A' c', RBox w' X P A' c' (emptyF .shards r)) ∧ Kept7 (· = X) w w' := by
  have c0 := hX.cell 8 (v := .int .i64 r.shards) rfl
  have f0 := hX.free 8
  have HR := Lib.hid (show RBox (w.setCell ⟨X, 8, none⟩ (.int .i64 0)) X P A c (emptyF .shards r) from hX.set 8 _ rfl hX.wrs { hX.fine with shards := zero_i64 } hP)
  have HK := Lib.hid ((Kept7.refl (· = X) w).set_ (p := X) (j := 8) (.int .i64 0) (fun _ => rfl))
  clear hX hbp
  go_enter Try.func103, Try.ntmps103
  go_wp2
  go_end0
  exact ⟨rfl, ⟨_, _, HR.out⟩, HK.out⟩

set_option maxHeartbeats 2000000 in
theorem empty_change (w : World) (X : Nat) (P : Nat → Prop) (A : Option Addr) (c : Nat) (r : Rc) (bp : Nat) (hX : RBox w X P A c r) (hp : w.cell? ⟨bp, 0, none⟩ = some (ptr X 9)) (hbp : bp < w.heap.size) (hP : ¬ P X) :
    Calls Try.prog 112 #[ptr bp 0] w fun e w' => e = .returned (.tuple #[]) ∧ (∃ A' c', RBox w' X P A' c' (emptyF .change r)) ∧ Kept7 (· = X) w w' := by
  have hw1 : ∃ w1, w1 = w.alloc (.cells #[.int .i64 0, .int .i64 0] 27) := ⟨_, rfl⟩
  obtain ⟨w1, hw1⟩ := hw1
  have hb1 : Below w.heap.size w w1 := by rw [hw1]; exact (Below.refl _ w).alloc (Nat.le_refl _) _
  have g1 : w1.heap[w.heap.size]? = some (.cells #[.int .i64 0, .int .i64 0] 27 (0, 0)) := by rw [hw1]; exact heap_alloc_new w _
  have hX1 := hX.below hb1
  have cp : w1.cell? ⟨bp, 0, none⟩ = some (ptr X 9) := (hb1.cell hbp).trans hp
  have HW1 := Lib.hid hw1
  have HL := Lib.hid g1
  have HX := Lib.hid (show w1.heap[X]? = some (.cells (([.int .i8 r.kind, .int .i64 r.name.stamp, .int .i64 r.name.inc, .int .i64 r.name.att, .bool r.yes, .slice A r.writes.length c, .int .i64 r.give, .int .i64 r.take, .int .i64 r.shards] : List Value) ++ ([.int .i64 r.stripe, .int .i64 r.dest] : List Value) ++ ([.int .i64 r.n] : List Value)).toArray 29 (0, 0)) from hX1.row)
  have HI := Lib.hid (show (Try.prog.info? 27).map (·.size) = some ([.int .i64 0, .int .i64 0] : List Value).length from sizeC)
  have HI2 := Lib.hid (show (Try.prog.info? 27).map (·.size) = some (#[.int .i64 0, .int .i64 0] : Array Value).size from sizeC)
  have H1 := Lib.hid (show ∀ v ∈ ([.int .i64 0, .int .i64 0] : List Value), v.oneCell' = true from by intro v hv; simp only [List.mem_cons, List.not_mem_nil, or_false] at hv; rcases hv with rfl | rfl <;> rfl)
  have HR := Lib.hid (show RBox (w1.setRow X (([.int .i8 r.kind, .int .i64 r.name.stamp, .int .i64 r.name.inc, .int .i64 r.name.att, .bool r.yes, .slice A r.writes.length c, .int .i64 r.give, .int .i64 r.take, .int .i64 r.shards] : List Value) ++ ([.int .i64 0, .int .i64 0] : List Value) ++ ([.int .i64 r.n] : List Value)).toArray) X P A c (emptyF .change r) from hX1.setR _ rfl hX1.wrs { hX1.fine with stripe := zero_i64, dest := zero_i64 } hP)
  have HK := Lib.hid ((Kept7.of_below (S := (· = X)) hb1 (Nat.le_refl _)).row (([.int .i8 r.kind, .int .i64 r.name.stamp, .int .i64 r.name.inc, .int .i64 r.name.att, .bool r.yes, .slice A r.writes.length c, .int .i64 r.give, .int .i64 r.take, .int .i64 r.shards] : List Value) ++ ([.int .i64 0, .int .i64 0] : List Value) ++ ([.int .i64 r.n] : List Value)).toArray rfl)
  clear hX hp hbp hw1 hb1 g1 hX1
  go_enter Try.func112, Try.ntmps112
  go_wp2_with (first
    | (rw [← HW1.out])
    | (refine wpList_load_row rfl 27 _ rfl w.heap.size rfl 27 #[.int .i64 0, .int .i64 0] (0, 0) _ HL.out Try.underlying27 rfl HI2.out ?_)
    | (refine wpList_store_part rfl 27 (.tmp 4) (.tmp 3) rfl X 9 (by simp [Act.eval, Act.put]) [.int .i64 0, .int .i64 0] (by simp [Act.eval, Act.put]) 29 [.int .i8 r.kind, .int .i64 r.name.stamp, .int .i64 r.name.inc, .int .i64 r.name.att, .bool r.yes, .slice A r.writes.length c, .int .i64 r.give, .int .i64 r.take, .int .i64 r.shards] [.int .i64 r.stripe, .int .i64 r.dest] [.int .i64 r.n] HX.out rfl rfl HI.out H1.out ?_))
  go_end0
  exact ⟨rfl, ⟨_, _, HR.out⟩, HK.out⟩

set_option maxHeartbeats 2000000 in
theorem empty_num (w : World) (X : Nat) (P : Nat → Prop) (A : Option Addr) (c : Nat) (r : Rc) (m : Int) (bp : Nat) (hX : RBox w X P A c r) (hp : w.cell? ⟨bp, 0, none⟩ = some (ptr X 11)) (hbp : bp < w.heap.size) (hP : ¬ P X) :
    Calls Try.prog 103 #[ptr bp 0] w fun e w' => e = .returned (.tuple #[]) ∧ (∃ A' c', RBox w' X P A' c' (emptyF (.num m) r)) ∧ Kept7 (· = X) w w' := by
  have c0 := hX.cell 11 (v := .int .i64 r.n) rfl
  have f0 := hX.free 11
  have HR := Lib.hid (show RBox (w.setCell ⟨X, 11, none⟩ (.int .i64 0)) X P A c (emptyF (.num m) r) from hX.set 11 _ rfl hX.wrs { hX.fine with n := zero_i64 } hP)
  have HK := Lib.hid ((Kept7.refl (· = X) w).set_ (p := X) (j := 11) (.int .i64 0) (fun _ => rfl))
  clear hX hbp
  go_enter Try.func103, Try.ntmps103
  go_wp2
  go_end0
  exact ⟨rfl, ⟨_, _, HR.out⟩, HK.out⟩

end Go.Proofs.Ytaokhbodmodcgaa
end

section
/-
  The developers' fields: read. (Written by mkclo.py.)
-/
namespace Go.Proofs.Ytaokhbodmodcgaa
open Go.RowKit
set_option maxRecDepth 100000

theorem Kept7.mono {S S' : Nat → Prop} {a b : World} (h : Kept7 S a b) (hS : ∀ k, S k → S' k) : Kept7 S' a b := ⟨h.os, h.tape, h.output, h.size, fun k hk hn => h.block k hk (fun e => hn (hS k e))⟩
theorem gz_i64 {bs : List Nat} (h : ∀ x ∈ bs, x < 256) (a : Nat) : I64 ((gz bs a 3 : Nat) : Int) := low_i64 (gz_lt h a 3)
theorem bt_i64 {bs : List Nat} (h : ∀ x ∈ bs, x < 256) (a : Nat) : I64 ((bt bs a : Nat) : Int) := low_i64 (by have := bt_lt h a; omega)
theorem bt_i64m {bs : List Nat} (h : ∀ x ∈ bs, x < 256) (a : Nat) : I64 (((bt bs a : Nat) : Int) - 1) := by have := bt_lt h a; unfold I64; omega
abbrev nextV (p : Nat) : Value := .func (.func 51) #[.pointer (some ⟨p, 0, none⟩)] #[]

set_option maxHeartbeats 2000000 in
theorem read_name (w : World) (X : Nat) (A : Option Addr) (c : Nat) (r : Rc) (bg bp B p : Nat) (bs : List Nat) (a : Nat) (hX : RBox w X (X < ·) A c r) (hm : w.cell? ⟨bg, 0, none⟩ = some (fun0 71)) (hp : w.cell? ⟨bp, 0, none⟩ = some (ptr X 1)) (hbm : bg < w.heap.size) (hbp : bp < w.heap.size) (hgX : X < bg) (hpX : X < bp)
    (hN : Nr w B p (bs.drop a)) (hb : ∀ x ∈ bs, x < 256) (hlt : p < X) :
    Calls Try.prog 94 #[nextV p, ptr bg 0, ptr bp 0] w fun e w' => e = .returned (.tuple #[]) ∧ (∃ A' c', RBox w' X (X < ·) A' c' (readF .name r bs a)) ∧ Nr w' B p (bs.drop (a + lenF .name bs a)) ∧ Kept7 (fun b => b = p ∨ b = X) w w' := by
  have hND : Nr w.drew B p (bs.drop a) := hN.below (Below.refl w.heap.size w).drew hN.lt
  have HG := Lib.hid (getName_dev w.drew B p bs a hND hb)
  have HS := Lib.hid (show ∀ W, Kept7 (fun b => b = p ∨ b = X) w W → W.cell? ⟨bg, 0, none⟩ = some (fun0 71) ∧ W.cell? ⟨bp, 0, none⟩ = some (ptr X 1) from fun W hW => ⟨(hW.cell (p := ⟨bg, 0, none⟩) hbm (by simp only; omega)).trans hm, (hW.cell (p := ⟨bp, 0, none⟩) hbp (by simp only; omega)).trans hp⟩)
  have HX := Lib.hid hX
  have HLt := Lib.hid (And.intro hlt hX.lt)
  have HBt := Lib.hid hb
  have HK0 := Lib.hid (Kept7.of_below (S := (· = p)) (Below.refl w.heap.size w).drew (Nat.le_refl _))
  clear hX hm hp hbm hbp hgX hpX hN hND hb hlt
  go_enter Try.func94, Try.ntmps94
  go_wp2_with fail
  refine wp_region_held_drew (S := fun W => W.cell? ⟨bg, 0, none⟩ = some (fun0 71) ∧ W.cell? ⟨bp, 0, none⟩ = some (ptr X 1)) (by kernel_rfl) (HS.out _ (HK0.out.mono fun _ h => Or.inl h)) (fun hHeld => ?_)
  refine wpAnyH_take (i := 0) (v := ?_) rfl (by kernel_rfl) (by kernel_rfl) (by kernel_rfl) (fun _ _ _ h => h) (Or.inl ⟨by rfl, ?_⟩) (by assumption) ?_
  rotate_left
  · simp only [List.getElem_toArray, List.getElem_cons_zero, List.getElem_cons_succ]; intro W hSw; (try dsimp only at hSw); go_simp; all_goals with_reducible rfl
  simp only [Act.put, List.getElem_toArray, List.getElem_cons_zero, List.getElem_cons_succ, List.setIfInBounds_toArray, List.set_cons_zero, List.set_cons_succ]
  refine wpAnyH_take (i := 1) (v := ?_) rfl (by kernel_rfl) (by kernel_rfl) (by kernel_rfl) (fun _ _ _ h => h) (Or.inl ⟨by rfl, ?_⟩) (by assumption) ?_
  rotate_left
  · simp only [List.getElem_toArray, List.getElem_cons_zero, List.getElem_cons_succ]; intro W hSw; (try dsimp only at hSw); go_simp; all_goals with_reducible rfl
  simp only [Act.put, List.getElem_toArray, List.getElem_cons_zero, List.getElem_cons_succ, List.setIfInBounds_toArray, List.set_cons_zero, List.set_cons_succ]
  refine wpAnyH_take (i := 2) (v := ?_) rfl (by kernel_rfl) (by kernel_rfl) (by kernel_rfl) (fun _ _ _ h => h) (Or.inl ⟨by rfl, ?_⟩) (by assumption) ?_
  rotate_left
  · simp only [List.getElem_toArray, List.getElem_cons_zero, List.getElem_cons_succ]; intro W hSw; (try dsimp only at hSw); go_simp; all_goals with_reducible rfl
  simp only [Act.put, List.getElem_toArray, List.getElem_cons_zero, List.getElem_cons_succ, List.setIfInBounds_toArray, List.set_cons_zero, List.set_cons_succ]
  refine wpAnyH_ready (rs := [3]) (by kernel_rfl) (by simp) ?_
  refine AllReadyH.cons rfl (fun K hK => ?_) AllReadyH.nil
  simp only [List.getElem_toArray, List.getElem_cons_zero, List.getElem_cons_succ]
  go_simp
  refine HG.out.mono ?_
  rintro e w2 ⟨rfl, hr, hk⟩
  have hk2 := HK0.out.trans hk
  have hX2 : RBox w2 X (X < ·) A c r := HX.out.keep (hk2.block X HLt.out.2 (by have := HLt.out; omega)) hk2.size fun b hb hlt => hk2.block b hlt (by have := HLt.out; have h2 : X < b := hb; omega)
  have HK2 := Lib.hid hk2
  have HXr := Lib.hid (show w2.heap[X]? = some (.cells (([.int .i8 r.kind] : List Value) ++ ([.int .i64 r.name.stamp, .int .i64 r.name.inc, .int .i64 r.name.att] : List Value) ++ ([.bool r.yes, .slice A r.writes.length c, .int .i64 r.give, .int .i64 r.take, .int .i64 r.shards, .int .i64 r.stripe, .int .i64 r.dest, .int .i64 r.n] : List Value)).toArray 29 (0, 0)) from hX2.row)
  have HI := Lib.hid (show (Try.prog.info? 24).map (·.size) = some (nmv (nmOf bs a) : List Value).length from sizeN)
  have H1 := Lib.hid (show ∀ v ∈ (nmv (nmOf bs a) : List Value), v.oneCell' = true from by intro v hv; simp only [nmv, List.mem_cons, List.not_mem_nil, or_false] at hv; rcases hv with rfl | rfl | rfl <;> rfl)
  have HR := Lib.hid (show RBox (w2.setRow X (([.int .i8 r.kind] : List Value) ++ (nmv (nmOf bs a) : List Value) ++ ([.bool r.yes, .slice A r.writes.length c, .int .i64 r.give, .int .i64 r.take, .int .i64 r.shards, .int .i64 r.stripe, .int .i64 r.dest, .int .i64 r.n] : List Value)).toArray) X (X < ·) A c (readF .name r bs a) from hX2.setR _ rfl hX2.wrs { HX.out.fine with name := ⟨gz_i64 HBt.out _, gz_i64 HBt.out _, gz_i64 HBt.out _⟩ } (by omega))
  have hb3 : Below X w2 (w2.setRow X (([.int .i8 r.kind] : List Value) ++ (nmv (nmOf bs a) : List Value) ++ ([.bool r.yes, .slice A r.writes.length c, .int .i64 r.give, .int .i64 r.take, .int .i64 r.shards, .int .i64 r.stripe, .int .i64 r.dest, .int .i64 r.n] : List Value)).toArray) := below_setRow (Below.refl _ w2) (Nat.le_refl _) _
  have HN3 := Lib.hid (hr.below hb3 HLt.out.1)
  have HK3 := Lib.hid ((hk2.mono fun _ h => Or.inl h : Kept7 (fun b => b = p ∨ b = X) w w2).row (([.int .i8 r.kind] : List Value) ++ (nmv (nmOf bs a) : List Value) ++ ([.bool r.yes, .slice A r.writes.length c, .int .i64 r.give, .int .i64 r.take, .int .i64 r.shards, .int .i64 r.stripe, .int .i64 r.dest, .int .i64 r.n] : List Value)).toArray (Or.inr rfl))
  clear hr hk hk2 hX2 hb3
  go_wp2_with fail
  refine hK.out _ _ (HS.out _ (HK2.out.mono fun _ h => Or.inl h)) (fun hHeldN => ?_)
  clear hK K hHeld
  have hHeld := hHeldN
  clear hHeldN
  (try simp only [Act.put, List.getElem_toArray, List.getElem_cons_zero, List.getElem_cons_succ, List.setIfInBounds_toArray, List.set_cons_zero, List.set_cons_succ])
  refine wpAnyH_take (i := 4) (v := ?_) rfl (by kernel_rfl) (by kernel_rfl) (by kernel_rfl) (fun _ _ _ h => h) (Or.inl ⟨by rfl, ?_⟩) (by assumption) ?_
  rotate_left
  · simp only [List.getElem_toArray, List.getElem_cons_zero, List.getElem_cons_succ]; intro W hSw; (try dsimp only at hSw); go_simp; all_goals with_reducible rfl
  simp only [Act.put, List.getElem_toArray, List.getElem_cons_zero, List.getElem_cons_succ, List.setIfInBounds_toArray, List.set_cons_zero, List.set_cons_succ]
  refine wpAnyH_ready (rs := [5]) (by kernel_rfl) (by simp) ?_
  refine AllReadyH.cons rfl (fun K hK => ?_) AllReadyH.nil
  simp only [List.getElem_toArray, List.getElem_cons_zero, List.getElem_cons_succ]
  rw [if_pos (by rfl)]
  refine wp_store_part 24 (.tmp 8) (.tmp 7) rfl X 1 rfl (nmv (nmOf bs a) : List Value) rfl 29 ([.int .i8 r.kind] : List Value) ([.int .i64 r.name.stamp, .int .i64 r.name.inc, .int .i64 r.name.att] : List Value) ([.bool r.yes, .slice A r.writes.length c, .int .i64 r.give, .int .i64 r.take, .int .i64 r.shards, .int .i64 r.stripe, .int .i64 r.dest, .int .i64 r.n] : List Value) HXr.out rfl rfl HI.out H1.out ?_
  refine hK.out _ _ (HS.out _ HK3.out) (fun hHeldN => ?_)
  clear hK K hHeld
  have hHeld := hHeldN
  clear hHeldN
  (try simp only [Act.put, List.getElem_toArray, List.getElem_cons_zero, List.getElem_cons_succ, List.setIfInBounds_toArray, List.set_cons_zero, List.set_cons_succ])
  refine wpAnyH_done (by kernel_rfl) ?_ _
  go_wp2_with fail
  go_end0
  exact ⟨rfl, ⟨_, _, HR.out⟩, (by have h := HN3.out; first | exact h | (rw [Nat.add_assoc] at h; exact h)), HK3.out⟩

set_option maxHeartbeats 2000000 in
theorem read_writes (w : World) (X : Nat) (A : Option Addr) (c : Nat) (r : Rc) (bg bp B p : Nat) (bs : List Nat) (a : Nat) (hX : RBox w X (X < ·) A c r) (hm : w.cell? ⟨bg, 0, none⟩ = some (fun0 74)) (hp : w.cell? ⟨bp, 0, none⟩ = some (ptr X 5)) (hbm : bg < w.heap.size) (hbp : bp < w.heap.size) (hgX : X < bg) (hpX : X < bp)
    (hN : Nr w B p (bs.drop a)) (hb : ∀ x ∈ bs, x < 256) (hlt : p < X) :
    Calls Try.prog 98 #[nextV p, ptr bg 0, ptr bp 0] w fun e w' => e = .returned (.tuple #[]) ∧ (∃ A' c', RBox w' X (X < ·) A' c' (readF .writes r bs a)) ∧ Nr w' B p (bs.drop (a + lenF .writes bs a)) ∧ Kept7 (fun b => b = p ∨ b = X) w w' := by
  have hND : Nr w.drew B p (bs.drop a) := hN.below (Below.refl w.heap.size w).drew hN.lt
  have HG := Lib.hid (getWrites_dev w.drew B p bs a hND hb)
  have HS := Lib.hid (show ∀ W, Kept7 (fun b => b = p ∨ b = X) w W → W.cell? ⟨bg, 0, none⟩ = some (fun0 74) ∧ W.cell? ⟨bp, 0, none⟩ = some (ptr X 5) from fun W hW => ⟨(hW.cell (p := ⟨bg, 0, none⟩) hbm (by simp only; omega)).trans hm, (hW.cell (p := ⟨bp, 0, none⟩) hbp (by simp only; omega)).trans hp⟩)
  have HX := Lib.hid hX
  have HLt := Lib.hid (And.intro hlt hX.lt)
  have HBt := Lib.hid hb
  have HK0 := Lib.hid (Kept7.of_below (S := (· = p)) (Below.refl w.heap.size w).drew (Nat.le_refl _))
  clear hX hm hp hbm hbp hgX hpX hN hND hb hlt
  go_enter Try.func98, Try.ntmps98
  go_wp2_with fail
  refine wp_region_held_drew (S := fun W => W.cell? ⟨bg, 0, none⟩ = some (fun0 74) ∧ W.cell? ⟨bp, 0, none⟩ = some (ptr X 5)) (by kernel_rfl) (HS.out _ (HK0.out.mono fun _ h => Or.inl h)) (fun hHeld => ?_)
  refine wpAnyH_take (i := 0) (v := ?_) rfl (by kernel_rfl) (by kernel_rfl) (by kernel_rfl) (fun _ _ _ h => h) (Or.inl ⟨by rfl, ?_⟩) (by assumption) ?_
  rotate_left
  · simp only [List.getElem_toArray, List.getElem_cons_zero, List.getElem_cons_succ]; intro W hSw; (try dsimp only at hSw); go_simp; all_goals with_reducible rfl
  simp only [Act.put, List.getElem_toArray, List.getElem_cons_zero, List.getElem_cons_succ, List.setIfInBounds_toArray, List.set_cons_zero, List.set_cons_succ]
  refine wpAnyH_take (i := 1) (v := ?_) rfl (by kernel_rfl) (by kernel_rfl) (by kernel_rfl) (fun _ _ _ h => h) (Or.inl ⟨by rfl, ?_⟩) (by assumption) ?_
  rotate_left
  · simp only [List.getElem_toArray, List.getElem_cons_zero, List.getElem_cons_succ]; intro W hSw; (try dsimp only at hSw); go_simp; all_goals with_reducible rfl
  simp only [Act.put, List.getElem_toArray, List.getElem_cons_zero, List.getElem_cons_succ, List.setIfInBounds_toArray, List.set_cons_zero, List.set_cons_succ]
  refine wpAnyH_take (i := 2) (v := ?_) rfl (by kernel_rfl) (by kernel_rfl) (by kernel_rfl) (fun _ _ _ h => h) (Or.inl ⟨by rfl, ?_⟩) (by assumption) ?_
  rotate_left
  · simp only [List.getElem_toArray, List.getElem_cons_zero, List.getElem_cons_succ]; intro W hSw; (try dsimp only at hSw); go_simp; all_goals with_reducible rfl
  simp only [Act.put, List.getElem_toArray, List.getElem_cons_zero, List.getElem_cons_succ, List.setIfInBounds_toArray, List.set_cons_zero, List.set_cons_succ]
  refine wpAnyH_ready (rs := [3]) (by kernel_rfl) (by simp) ?_
  refine AllReadyH.cons rfl (fun K hK => ?_) AllReadyH.nil
  simp only [List.getElem_toArray, List.getElem_cons_zero, List.getElem_cons_succ]
  go_simp
  refine HG.out.mono ?_
  rintro e w2 ⟨v, rfl, ho, hr, hk⟩
  obtain ⟨A2, c2, rfl, hw2⟩ := ho.wrsv (wsOf_fin HBt.out a _) (by rw [wsOf_length]; exact bt_lt HBt.out a)
  have hw2' : WrsV w2 (X < ·) A2 c2 (wsOf bs a (bt bs a)) := hw2.mono fun b hb _ => by have := HLt.out; have h2 : w.heap.size ≤ b := hb; omega
  rw [wsOf_length]
  have hk2 := HK0.out.trans hk
  have hX2 : RBox w2 X (X < ·) A c r := HX.out.keep (hk2.block X HLt.out.2 (by have := HLt.out; omega)) hk2.size fun b hb hlt => hk2.block b hlt (by have := HLt.out; have h2 : X < b := hb; omega)
  have HK2 := Lib.hid hk2
  have c0 := hX2.cell 5 (v := .slice A r.writes.length c) rfl
  have f0 := hX2.free 5
  have HR := Lib.hid (show RBox (w2.setCell ⟨X, 5, none⟩ (.slice A2 (bt bs a) c2)) X (X < ·) A2 c2 (readF .writes r bs a) from hX2.set 5 _ (by simp [recv, readF, wsOf_length]) hw2' { HX.out.fine with writes := (wsOf_fin HBt.out a _).fine } (by omega))
  have hb3 : Below X w2 (w2.setCell ⟨X, 5, none⟩ (.slice A2 (bt bs a) c2)) := (Below.refl _ w2).setCell (show X ≤ X from Nat.le_refl _) _
  have HN3 := Lib.hid (hr.below hb3 HLt.out.1)
  have HK3 := Lib.hid ((hk2.mono fun _ h => Or.inl h : Kept7 (fun b => b = p ∨ b = X) w w2).set_ (p := X) (j := 5) (.slice A2 (bt bs a) c2) (fun _ => Or.inr rfl))
  clear hr hk hk2 hX2 hb3 hw2 hw2' ho
  go_wp2_with fail
  refine hK.out _ _ (HS.out _ (HK2.out.mono fun _ h => Or.inl h)) (fun hHeldN => ?_)
  clear hK K hHeld
  have hHeld := hHeldN
  clear hHeldN
  (try simp only [Act.put, List.getElem_toArray, List.getElem_cons_zero, List.getElem_cons_succ, List.setIfInBounds_toArray, List.set_cons_zero, List.set_cons_succ])
  refine wpAnyH_take (i := 4) (v := ?_) rfl (by kernel_rfl) (by kernel_rfl) (by kernel_rfl) (fun _ _ _ h => h) (Or.inl ⟨by rfl, ?_⟩) (by assumption) ?_
  rotate_left
  · simp only [List.getElem_toArray, List.getElem_cons_zero, List.getElem_cons_succ]; intro W hSw; (try dsimp only at hSw); go_simp; all_goals with_reducible rfl
  simp only [Act.put, List.getElem_toArray, List.getElem_cons_zero, List.getElem_cons_succ, List.setIfInBounds_toArray, List.set_cons_zero, List.set_cons_succ]
  refine wpAnyH_ready (rs := [5]) (by kernel_rfl) (by simp) ?_
  refine AllReadyH.cons rfl (fun K hK => ?_) AllReadyH.nil
  simp only [List.getElem_toArray, List.getElem_cons_zero, List.getElem_cons_succ]
  go_simp
  refine hK.out _ _ (HS.out _ HK3.out) (fun hHeldN => ?_)
  clear hK K hHeld
  have hHeld := hHeldN
  clear hHeldN
  (try simp only [Act.put, List.getElem_toArray, List.getElem_cons_zero, List.getElem_cons_succ, List.setIfInBounds_toArray, List.set_cons_zero, List.set_cons_succ])
  refine wpAnyH_done (by kernel_rfl) ?_ _
  go_wp2_with fail
  go_end0
  exact ⟨rfl, ⟨_, _, HR.out⟩, (by have h := HN3.out; first | exact h | (rw [Nat.add_assoc] at h; exact h)), HK3.out⟩

set_option maxHeartbeats 2000000 in
theorem read_give (w : World) (X : Nat) (A : Option Addr) (c : Nat) (r : Rc) (bg bp B p : Nat) (bs : List Nat) (a : Nat) (hX : RBox w X (X < ·) A c r) (hm : w.cell? ⟨bg, 0, none⟩ = some (fun0 78)) (hp : w.cell? ⟨bp, 0, none⟩ = some (ptr X 6)) (hbm : bg < w.heap.size) (hbp : bp < w.heap.size) (hgX : X < bg) (hpX : X < bp)
    (hN : Nr w B p (bs.drop a)) (hb : ∀ x ∈ bs, x < 256) (hlt : p < X) :
    Calls Try.prog 102 #[nextV p, ptr bg 0, ptr bp 0] w fun e w' => e = .returned (.tuple #[]) ∧ (∃ A' c', RBox w' X (X < ·) A' c' (readF .give r bs a)) ∧ Nr w' B p (bs.drop (a + lenF .give bs a)) ∧ Kept7 (fun b => b = p ∨ b = X) w w' := by
  have hND : Nr w.drew B p (bs.drop a) := hN.below (Below.refl w.heap.size w).drew hN.lt
  have HG := Lib.hid (getByte_dev w.drew B p bs a hND hb)
  have HS := Lib.hid (show ∀ W, Kept7 (fun b => b = p ∨ b = X) w W → W.cell? ⟨bg, 0, none⟩ = some (fun0 78) ∧ W.cell? ⟨bp, 0, none⟩ = some (ptr X 6) from fun W hW => ⟨(hW.cell (p := ⟨bg, 0, none⟩) hbm (by simp only; omega)).trans hm, (hW.cell (p := ⟨bp, 0, none⟩) hbp (by simp only; omega)).trans hp⟩)
  have HX := Lib.hid hX
  have HLt := Lib.hid (And.intro hlt hX.lt)
  have HBt := Lib.hid hb
  have HK0 := Lib.hid (Kept7.of_below (S := (· = p)) (Below.refl w.heap.size w).drew (Nat.le_refl _))
  clear hX hm hp hbm hbp hgX hpX hN hND hb hlt
  go_enter Try.func102, Try.ntmps102
  go_wp2_with fail
  refine wp_region_held_drew (S := fun W => W.cell? ⟨bg, 0, none⟩ = some (fun0 78) ∧ W.cell? ⟨bp, 0, none⟩ = some (ptr X 6)) (by kernel_rfl) (HS.out _ (HK0.out.mono fun _ h => Or.inl h)) (fun hHeld => ?_)
  refine wpAnyH_take (i := 0) (v := ?_) rfl (by kernel_rfl) (by kernel_rfl) (by kernel_rfl) (fun _ _ _ h => h) (Or.inl ⟨by rfl, ?_⟩) (by assumption) ?_
  rotate_left
  · simp only [List.getElem_toArray, List.getElem_cons_zero, List.getElem_cons_succ]; intro W hSw; (try dsimp only at hSw); go_simp; all_goals with_reducible rfl
  simp only [Act.put, List.getElem_toArray, List.getElem_cons_zero, List.getElem_cons_succ, List.setIfInBounds_toArray, List.set_cons_zero, List.set_cons_succ]
  refine wpAnyH_take (i := 1) (v := ?_) rfl (by kernel_rfl) (by kernel_rfl) (by kernel_rfl) (fun _ _ _ h => h) (Or.inl ⟨by rfl, ?_⟩) (by assumption) ?_
  rotate_left
  · simp only [List.getElem_toArray, List.getElem_cons_zero, List.getElem_cons_succ]; intro W hSw; (try dsimp only at hSw); go_simp; all_goals with_reducible rfl
  simp only [Act.put, List.getElem_toArray, List.getElem_cons_zero, List.getElem_cons_succ, List.setIfInBounds_toArray, List.set_cons_zero, List.set_cons_succ]
  refine wpAnyH_take (i := 2) (v := ?_) rfl (by kernel_rfl) (by kernel_rfl) (by kernel_rfl) (fun _ _ _ h => h) (Or.inl ⟨by rfl, ?_⟩) (by assumption) ?_
  rotate_left
  · simp only [List.getElem_toArray, List.getElem_cons_zero, List.getElem_cons_succ]; intro W hSw; (try dsimp only at hSw); go_simp; all_goals with_reducible rfl
  simp only [Act.put, List.getElem_toArray, List.getElem_cons_zero, List.getElem_cons_succ, List.setIfInBounds_toArray, List.set_cons_zero, List.set_cons_succ]
  refine wpAnyH_ready (rs := [3]) (by kernel_rfl) (by simp) ?_
  refine AllReadyH.cons rfl (fun K hK => ?_) AllReadyH.nil
  simp only [List.getElem_toArray, List.getElem_cons_zero, List.getElem_cons_succ]
  go_simp
  refine HG.out.mono ?_
  rintro e w2 ⟨rfl, hr, hk⟩
  have hk2 := HK0.out.trans hk
  have hX2 : RBox w2 X (X < ·) A c r := HX.out.keep (hk2.block X HLt.out.2 (by have := HLt.out; omega)) hk2.size fun b hb hlt => hk2.block b hlt (by have := HLt.out; have h2 : X < b := hb; omega)
  have HK2 := Lib.hid hk2
  have c0 := hX2.cell 6 (v := .int .i64 r.give) rfl
  have f0 := hX2.free 6
  have HR := Lib.hid (show RBox (w2.setCell ⟨X, 6, none⟩ (.int .i64 ((bt bs a : Nat) : Int))) X (X < ·) A c (readF .give r bs a) from hX2.set 6 _ rfl hX2.wrs { HX.out.fine with give := bt_i64 HBt.out _ } (by omega))
  have hb3 : Below X w2 (w2.setCell ⟨X, 6, none⟩ (.int .i64 ((bt bs a : Nat) : Int))) := (Below.refl _ w2).setCell (show X ≤ X from Nat.le_refl _) _
  have HN3 := Lib.hid (hr.below hb3 HLt.out.1)
  have HK3 := Lib.hid ((hk2.mono fun _ h => Or.inl h : Kept7 (fun b => b = p ∨ b = X) w w2).set_ (p := X) (j := 6) (.int .i64 ((bt bs a : Nat) : Int)) (fun _ => Or.inr rfl))
  clear hr hk hk2 hX2 hb3
  go_wp2_with fail
  refine hK.out _ _ (HS.out _ (HK2.out.mono fun _ h => Or.inl h)) (fun hHeldN => ?_)
  clear hK K hHeld
  have hHeld := hHeldN
  clear hHeldN
  (try simp only [Act.put, List.getElem_toArray, List.getElem_cons_zero, List.getElem_cons_succ, List.setIfInBounds_toArray, List.set_cons_zero, List.set_cons_succ])
  refine wpAnyH_take (i := 4) (v := ?_) rfl (by kernel_rfl) (by kernel_rfl) (by kernel_rfl) (fun _ _ _ h => h) (Or.inl ⟨by rfl, ?_⟩) (by assumption) ?_
  rotate_left
  · simp only [List.getElem_toArray, List.getElem_cons_zero, List.getElem_cons_succ]; intro W hSw; (try dsimp only at hSw); go_simp; all_goals with_reducible rfl
  simp only [Act.put, List.getElem_toArray, List.getElem_cons_zero, List.getElem_cons_succ, List.setIfInBounds_toArray, List.set_cons_zero, List.set_cons_succ]
  refine wpAnyH_ready (rs := [5]) (by kernel_rfl) (by simp) ?_
  refine AllReadyH.cons rfl (fun K hK => ?_) AllReadyH.nil
  simp only [List.getElem_toArray, List.getElem_cons_zero, List.getElem_cons_succ]
  go_simp
  refine hK.out _ _ (HS.out _ HK3.out) (fun hHeldN => ?_)
  clear hK K hHeld
  have hHeld := hHeldN
  clear hHeldN
  (try simp only [Act.put, List.getElem_toArray, List.getElem_cons_zero, List.getElem_cons_succ, List.setIfInBounds_toArray, List.set_cons_zero, List.set_cons_succ])
  refine wpAnyH_done (by kernel_rfl) ?_ _
  go_wp2_with fail
  go_end0
  exact ⟨rfl, ⟨_, _, HR.out⟩, (by have h := HN3.out; first | exact h | (rw [Nat.add_assoc] at h; exact h)), HK3.out⟩

set_option maxHeartbeats 2000000 in
theorem read_take (w : World) (X : Nat) (A : Option Addr) (c : Nat) (r : Rc) (bg bp B p : Nat) (bs : List Nat) (a : Nat) (hX : RBox w X (X < ·) A c r) (hm : w.cell? ⟨bg, 0, none⟩ = some (fun0 78)) (hp : w.cell? ⟨bp, 0, none⟩ = some (ptr X 7)) (hbm : bg < w.heap.size) (hbp : bp < w.heap.size) (hgX : X < bg) (hpX : X < bp)
    (hN : Nr w B p (bs.drop a)) (hb : ∀ x ∈ bs, x < 256) (hlt : p < X) :
    Calls Try.prog 102 #[nextV p, ptr bg 0, ptr bp 0] w fun e w' => e = .returned (.tuple #[]) ∧ (∃ A' c', RBox w' X (X < ·) A' c' (readF .take r bs a)) ∧ Nr w' B p (bs.drop (a + lenF .take bs a)) ∧ Kept7 (fun b => b = p ∨ b = X) w w' := by
  have hND : Nr w.drew B p (bs.drop a) := hN.below (Below.refl w.heap.size w).drew hN.lt
  have HG := Lib.hid (getByte_dev w.drew B p bs a hND hb)
  have HS := Lib.hid (show ∀ W, Kept7 (fun b => b = p ∨ b = X) w W → W.cell? ⟨bg, 0, none⟩ = some (fun0 78) ∧ W.cell? ⟨bp, 0, none⟩ = some (ptr X 7) from fun W hW => ⟨(hW.cell (p := ⟨bg, 0, none⟩) hbm (by simp only; omega)).trans hm, (hW.cell (p := ⟨bp, 0, none⟩) hbp (by simp only; omega)).trans hp⟩)
  have HX := Lib.hid hX
  have HLt := Lib.hid (And.intro hlt hX.lt)
  have HBt := Lib.hid hb
  have HK0 := Lib.hid (Kept7.of_below (S := (· = p)) (Below.refl w.heap.size w).drew (Nat.le_refl _))
  clear hX hm hp hbm hbp hgX hpX hN hND hb hlt
  go_enter Try.func102, Try.ntmps102
  go_wp2_with fail
  refine wp_region_held_drew (S := fun W => W.cell? ⟨bg, 0, none⟩ = some (fun0 78) ∧ W.cell? ⟨bp, 0, none⟩ = some (ptr X 7)) (by kernel_rfl) (HS.out _ (HK0.out.mono fun _ h => Or.inl h)) (fun hHeld => ?_)
  refine wpAnyH_take (i := 0) (v := ?_) rfl (by kernel_rfl) (by kernel_rfl) (by kernel_rfl) (fun _ _ _ h => h) (Or.inl ⟨by rfl, ?_⟩) (by assumption) ?_
  rotate_left
  · simp only [List.getElem_toArray, List.getElem_cons_zero, List.getElem_cons_succ]; intro W hSw; (try dsimp only at hSw); go_simp; all_goals with_reducible rfl
  simp only [Act.put, List.getElem_toArray, List.getElem_cons_zero, List.getElem_cons_succ, List.setIfInBounds_toArray, List.set_cons_zero, List.set_cons_succ]
  refine wpAnyH_take (i := 1) (v := ?_) rfl (by kernel_rfl) (by kernel_rfl) (by kernel_rfl) (fun _ _ _ h => h) (Or.inl ⟨by rfl, ?_⟩) (by assumption) ?_
  rotate_left
  · simp only [List.getElem_toArray, List.getElem_cons_zero, List.getElem_cons_succ]; intro W hSw; (try dsimp only at hSw); go_simp; all_goals with_reducible rfl
  simp only [Act.put, List.getElem_toArray, List.getElem_cons_zero, List.getElem_cons_succ, List.setIfInBounds_toArray, List.set_cons_zero, List.set_cons_succ]
  refine wpAnyH_take (i := 2) (v := ?_) rfl (by kernel_rfl) (by kernel_rfl) (by kernel_rfl) (fun _ _ _ h => h) (Or.inl ⟨by rfl, ?_⟩) (by assumption) ?_
  rotate_left
  · simp only [List.getElem_toArray, List.getElem_cons_zero, List.getElem_cons_succ]; intro W hSw; (try dsimp only at hSw); go_simp; all_goals with_reducible rfl
  simp only [Act.put, List.getElem_toArray, List.getElem_cons_zero, List.getElem_cons_succ, List.setIfInBounds_toArray, List.set_cons_zero, List.set_cons_succ]
  refine wpAnyH_ready (rs := [3]) (by kernel_rfl) (by simp) ?_
  refine AllReadyH.cons rfl (fun K hK => ?_) AllReadyH.nil
  simp only [List.getElem_toArray, List.getElem_cons_zero, List.getElem_cons_succ]
  go_simp
  refine HG.out.mono ?_
  rintro e w2 ⟨rfl, hr, hk⟩
  have hk2 := HK0.out.trans hk
  have hX2 : RBox w2 X (X < ·) A c r := HX.out.keep (hk2.block X HLt.out.2 (by have := HLt.out; omega)) hk2.size fun b hb hlt => hk2.block b hlt (by have := HLt.out; have h2 : X < b := hb; omega)
  have HK2 := Lib.hid hk2
  have c0 := hX2.cell 7 (v := .int .i64 r.take) rfl
  have f0 := hX2.free 7
  have HR := Lib.hid (show RBox (w2.setCell ⟨X, 7, none⟩ (.int .i64 ((bt bs a : Nat) : Int))) X (X < ·) A c (readF .take r bs a) from hX2.set 7 _ rfl hX2.wrs { HX.out.fine with take := bt_i64 HBt.out _ } (by omega))
  have hb3 : Below X w2 (w2.setCell ⟨X, 7, none⟩ (.int .i64 ((bt bs a : Nat) : Int))) := (Below.refl _ w2).setCell (show X ≤ X from Nat.le_refl _) _
  have HN3 := Lib.hid (hr.below hb3 HLt.out.1)
  have HK3 := Lib.hid ((hk2.mono fun _ h => Or.inl h : Kept7 (fun b => b = p ∨ b = X) w w2).set_ (p := X) (j := 7) (.int .i64 ((bt bs a : Nat) : Int)) (fun _ => Or.inr rfl))
  clear hr hk hk2 hX2 hb3
  go_wp2_with fail
  refine hK.out _ _ (HS.out _ (HK2.out.mono fun _ h => Or.inl h)) (fun hHeldN => ?_)
  clear hK K hHeld
  have hHeld := hHeldN
  clear hHeldN
  (try simp only [Act.put, List.getElem_toArray, List.getElem_cons_zero, List.getElem_cons_succ, List.setIfInBounds_toArray, List.set_cons_zero, List.set_cons_succ])
  refine wpAnyH_take (i := 4) (v := ?_) rfl (by kernel_rfl) (by kernel_rfl) (by kernel_rfl) (fun _ _ _ h => h) (Or.inl ⟨by rfl, ?_⟩) (by assumption) ?_
  rotate_left
  · simp only [List.getElem_toArray, List.getElem_cons_zero, List.getElem_cons_succ]; intro W hSw; (try dsimp only at hSw); go_simp; all_goals with_reducible rfl
  simp only [Act.put, List.getElem_toArray, List.getElem_cons_zero, List.getElem_cons_succ, List.setIfInBounds_toArray, List.set_cons_zero, List.set_cons_succ]
  refine wpAnyH_ready (rs := [5]) (by kernel_rfl) (by simp) ?_
  refine AllReadyH.cons rfl (fun K hK => ?_) AllReadyH.nil
  simp only [List.getElem_toArray, List.getElem_cons_zero, List.getElem_cons_succ]
  go_simp
  refine hK.out _ _ (HS.out _ HK3.out) (fun hHeldN => ?_)
  clear hK K hHeld
  have hHeld := hHeldN
  clear hHeldN
  (try simp only [Act.put, List.getElem_toArray, List.getElem_cons_zero, List.getElem_cons_succ, List.setIfInBounds_toArray, List.set_cons_zero, List.set_cons_succ])
  refine wpAnyH_done (by kernel_rfl) ?_ _
  go_wp2_with fail
  go_end0
  exact ⟨rfl, ⟨_, _, HR.out⟩, (by have h := HN3.out; first | exact h | (rw [Nat.add_assoc] at h; exact h)), HK3.out⟩

set_option maxHeartbeats 2000000 in
theorem read_yes (w : World) (X : Nat) (A : Option Addr) (c : Nat) (r : Rc) (bg bp B p : Nat) (bs : List Nat) (a : Nat) (hX : RBox w X (X < ·) A c r) (hm : w.cell? ⟨bg, 0, none⟩ = some (fun0 83)) (hp : w.cell? ⟨bp, 0, none⟩ = some (ptr X 4)) (hbm : bg < w.heap.size) (hbp : bp < w.heap.size) (hgX : X < bg) (hpX : X < bp)
    (hN : Nr w B p (bs.drop a)) (hb : ∀ x ∈ bs, x < 256) (hlt : p < X) :
    Calls Try.prog 107 #[nextV p, ptr bg 0, ptr bp 0] w fun e w' => e = .returned (.tuple #[]) ∧ (∃ A' c', RBox w' X (X < ·) A' c' (readF .yes r bs a)) ∧ Nr w' B p (bs.drop (a + lenF .yes bs a)) ∧ Kept7 (fun b => b = p ∨ b = X) w w' := by
  have hND : Nr w.drew B p (bs.drop a) := hN.below (Below.refl w.heap.size w).drew hN.lt
  have HG := Lib.hid (getFlag_dev w.drew B p bs a hND hb)
  have HS := Lib.hid (show ∀ W, Kept7 (fun b => b = p ∨ b = X) w W → W.cell? ⟨bg, 0, none⟩ = some (fun0 83) ∧ W.cell? ⟨bp, 0, none⟩ = some (ptr X 4) from fun W hW => ⟨(hW.cell (p := ⟨bg, 0, none⟩) hbm (by simp only; omega)).trans hm, (hW.cell (p := ⟨bp, 0, none⟩) hbp (by simp only; omega)).trans hp⟩)
  have HX := Lib.hid hX
  have HLt := Lib.hid (And.intro hlt hX.lt)
  have HBt := Lib.hid hb
  have HK0 := Lib.hid (Kept7.of_below (S := (· = p)) (Below.refl w.heap.size w).drew (Nat.le_refl _))
  clear hX hm hp hbm hbp hgX hpX hN hND hb hlt
  go_enter Try.func107, Try.ntmps107
  go_wp2_with fail
  refine wp_region_held_drew (S := fun W => W.cell? ⟨bg, 0, none⟩ = some (fun0 83) ∧ W.cell? ⟨bp, 0, none⟩ = some (ptr X 4)) (by kernel_rfl) (HS.out _ (HK0.out.mono fun _ h => Or.inl h)) (fun hHeld => ?_)
  refine wpAnyH_take (i := 0) (v := ?_) rfl (by kernel_rfl) (by kernel_rfl) (by kernel_rfl) (fun _ _ _ h => h) (Or.inl ⟨by rfl, ?_⟩) (by assumption) ?_
  rotate_left
  · simp only [List.getElem_toArray, List.getElem_cons_zero, List.getElem_cons_succ]; intro W hSw; (try dsimp only at hSw); go_simp; all_goals with_reducible rfl
  simp only [Act.put, List.getElem_toArray, List.getElem_cons_zero, List.getElem_cons_succ, List.setIfInBounds_toArray, List.set_cons_zero, List.set_cons_succ]
  refine wpAnyH_take (i := 1) (v := ?_) rfl (by kernel_rfl) (by kernel_rfl) (by kernel_rfl) (fun _ _ _ h => h) (Or.inl ⟨by rfl, ?_⟩) (by assumption) ?_
  rotate_left
  · simp only [List.getElem_toArray, List.getElem_cons_zero, List.getElem_cons_succ]; intro W hSw; (try dsimp only at hSw); go_simp; all_goals with_reducible rfl
  simp only [Act.put, List.getElem_toArray, List.getElem_cons_zero, List.getElem_cons_succ, List.setIfInBounds_toArray, List.set_cons_zero, List.set_cons_succ]
  refine wpAnyH_take (i := 2) (v := ?_) rfl (by kernel_rfl) (by kernel_rfl) (by kernel_rfl) (fun _ _ _ h => h) (Or.inl ⟨by rfl, ?_⟩) (by assumption) ?_
  rotate_left
  · simp only [List.getElem_toArray, List.getElem_cons_zero, List.getElem_cons_succ]; intro W hSw; (try dsimp only at hSw); go_simp; all_goals with_reducible rfl
  simp only [Act.put, List.getElem_toArray, List.getElem_cons_zero, List.getElem_cons_succ, List.setIfInBounds_toArray, List.set_cons_zero, List.set_cons_succ]
  refine wpAnyH_ready (rs := [3]) (by kernel_rfl) (by simp) ?_
  refine AllReadyH.cons rfl (fun K hK => ?_) AllReadyH.nil
  simp only [List.getElem_toArray, List.getElem_cons_zero, List.getElem_cons_succ]
  go_simp
  refine HG.out.mono ?_
  rintro e w2 ⟨rfl, hr, hk⟩
  have hk2 := HK0.out.trans hk
  have hX2 : RBox w2 X (X < ·) A c r := HX.out.keep (hk2.block X HLt.out.2 (by have := HLt.out; omega)) hk2.size fun b hb hlt => hk2.block b hlt (by have := HLt.out; have h2 : X < b := hb; omega)
  have HK2 := Lib.hid hk2
  have c0 := hX2.cell 4 (v := .bool r.yes) rfl
  have f0 := hX2.free 4
  have HR := Lib.hid (show RBox (w2.setCell ⟨X, 4, none⟩ (.bool (!decide (bt bs a = 0)))) X (X < ·) A c (readF .yes r bs a) from hX2.set 4 _ (by simp [recv, readF]) hX2.wrs { HX.out.fine with } (by omega))
  have hb3 : Below X w2 (w2.setCell ⟨X, 4, none⟩ (.bool (!decide (bt bs a = 0)))) := (Below.refl _ w2).setCell (show X ≤ X from Nat.le_refl _) _
  have HN3 := Lib.hid (hr.below hb3 HLt.out.1)
  have HK3 := Lib.hid ((hk2.mono fun _ h => Or.inl h : Kept7 (fun b => b = p ∨ b = X) w w2).set_ (p := X) (j := 4) (.bool (!decide (bt bs a = 0))) (fun _ => Or.inr rfl))
  clear hr hk hk2 hX2 hb3
  go_wp2_with fail
  refine hK.out _ _ (HS.out _ (HK2.out.mono fun _ h => Or.inl h)) (fun hHeldN => ?_)
  clear hK K hHeld
  have hHeld := hHeldN
  clear hHeldN
  (try simp only [Act.put, List.getElem_toArray, List.getElem_cons_zero, List.getElem_cons_succ, List.setIfInBounds_toArray, List.set_cons_zero, List.set_cons_succ])
  refine wpAnyH_take (i := 4) (v := ?_) rfl (by kernel_rfl) (by kernel_rfl) (by kernel_rfl) (fun _ _ _ h => h) (Or.inl ⟨by rfl, ?_⟩) (by assumption) ?_
  rotate_left
  · simp only [List.getElem_toArray, List.getElem_cons_zero, List.getElem_cons_succ]; intro W hSw; (try dsimp only at hSw); go_simp; all_goals with_reducible rfl
  simp only [Act.put, List.getElem_toArray, List.getElem_cons_zero, List.getElem_cons_succ, List.setIfInBounds_toArray, List.set_cons_zero, List.set_cons_succ]
  refine wpAnyH_ready (rs := [5]) (by kernel_rfl) (by simp) ?_
  refine AllReadyH.cons rfl (fun K hK => ?_) AllReadyH.nil
  simp only [List.getElem_toArray, List.getElem_cons_zero, List.getElem_cons_succ]
  go_simp
  refine hK.out _ _ (HS.out _ HK3.out) (fun hHeldN => ?_)
  clear hK K hHeld
  have hHeld := hHeldN
  clear hHeldN
  (try simp only [Act.put, List.getElem_toArray, List.getElem_cons_zero, List.getElem_cons_succ, List.setIfInBounds_toArray, List.set_cons_zero, List.set_cons_succ])
  refine wpAnyH_done (by kernel_rfl) ?_ _
  go_wp2_with fail
  go_end0
  exact ⟨rfl, ⟨_, _, HR.out⟩, (by have h := HN3.out; first | exact h | (rw [Nat.add_assoc] at h; exact h)), HK3.out⟩

set_option maxHeartbeats 2000000 in
theorem read_shards (w : World) (X : Nat) (A : Option Addr) (c : Nat) (r : Rc) (bg bp B p : Nat) (bs : List Nat) (a : Nat) (hX : RBox w X (X < ·) A c r) (hm : w.cell? ⟨bg, 0, none⟩ = some (fun0 78)) (hp : w.cell? ⟨bp, 0, none⟩ = some (ptr X 8)) (hbm : bg < w.heap.size) (hbp : bp < w.heap.size) (hgX : X < bg) (hpX : X < bp)
    (hN : Nr w B p (bs.drop a)) (hb : ∀ x ∈ bs, x < 256) (hlt : p < X) :
    Calls Try.prog 102 #[nextV p, ptr bg 0, ptr bp 0] w fun e w' => e = .returned (.tuple #[]) ∧ (∃ A' c', RBox w' X (X < ·) A' c' (readF .shards r bs a)) ∧ Nr w' B p (bs.drop (a + lenF .shards bs a)) ∧ Kept7 (fun b => b = p ∨ b = X) w w' := by
  have hND : Nr w.drew B p (bs.drop a) := hN.below (Below.refl w.heap.size w).drew hN.lt
  have HG := Lib.hid (getByte_dev w.drew B p bs a hND hb)
  have HS := Lib.hid (show ∀ W, Kept7 (fun b => b = p ∨ b = X) w W → W.cell? ⟨bg, 0, none⟩ = some (fun0 78) ∧ W.cell? ⟨bp, 0, none⟩ = some (ptr X 8) from fun W hW => ⟨(hW.cell (p := ⟨bg, 0, none⟩) hbm (by simp only; omega)).trans hm, (hW.cell (p := ⟨bp, 0, none⟩) hbp (by simp only; omega)).trans hp⟩)
  have HX := Lib.hid hX
  have HLt := Lib.hid (And.intro hlt hX.lt)
  have HBt := Lib.hid hb
  have HK0 := Lib.hid (Kept7.of_below (S := (· = p)) (Below.refl w.heap.size w).drew (Nat.le_refl _))
  clear hX hm hp hbm hbp hgX hpX hN hND hb hlt
  go_enter Try.func102, Try.ntmps102
  go_wp2_with fail
  refine wp_region_held_drew (S := fun W => W.cell? ⟨bg, 0, none⟩ = some (fun0 78) ∧ W.cell? ⟨bp, 0, none⟩ = some (ptr X 8)) (by kernel_rfl) (HS.out _ (HK0.out.mono fun _ h => Or.inl h)) (fun hHeld => ?_)
  refine wpAnyH_take (i := 0) (v := ?_) rfl (by kernel_rfl) (by kernel_rfl) (by kernel_rfl) (fun _ _ _ h => h) (Or.inl ⟨by rfl, ?_⟩) (by assumption) ?_
  rotate_left
  · simp only [List.getElem_toArray, List.getElem_cons_zero, List.getElem_cons_succ]; intro W hSw; (try dsimp only at hSw); go_simp; all_goals with_reducible rfl
  simp only [Act.put, List.getElem_toArray, List.getElem_cons_zero, List.getElem_cons_succ, List.setIfInBounds_toArray, List.set_cons_zero, List.set_cons_succ]
  refine wpAnyH_take (i := 1) (v := ?_) rfl (by kernel_rfl) (by kernel_rfl) (by kernel_rfl) (fun _ _ _ h => h) (Or.inl ⟨by rfl, ?_⟩) (by assumption) ?_
  rotate_left
  · simp only [List.getElem_toArray, List.getElem_cons_zero, List.getElem_cons_succ]; intro W hSw; (try dsimp only at hSw); go_simp; all_goals with_reducible rfl
  simp only [Act.put, List.getElem_toArray, List.getElem_cons_zero, List.getElem_cons_succ, List.setIfInBounds_toArray, List.set_cons_zero, List.set_cons_succ]
  refine wpAnyH_take (i := 2) (v := ?_) rfl (by kernel_rfl) (by kernel_rfl) (by kernel_rfl) (fun _ _ _ h => h) (Or.inl ⟨by rfl, ?_⟩) (by assumption) ?_
  rotate_left
  · simp only [List.getElem_toArray, List.getElem_cons_zero, List.getElem_cons_succ]; intro W hSw; (try dsimp only at hSw); go_simp; all_goals with_reducible rfl
  simp only [Act.put, List.getElem_toArray, List.getElem_cons_zero, List.getElem_cons_succ, List.setIfInBounds_toArray, List.set_cons_zero, List.set_cons_succ]
  refine wpAnyH_ready (rs := [3]) (by kernel_rfl) (by simp) ?_
  refine AllReadyH.cons rfl (fun K hK => ?_) AllReadyH.nil
  simp only [List.getElem_toArray, List.getElem_cons_zero, List.getElem_cons_succ]
  go_simp
  refine HG.out.mono ?_
  rintro e w2 ⟨rfl, hr, hk⟩
  have hk2 := HK0.out.trans hk
  have hX2 : RBox w2 X (X < ·) A c r := HX.out.keep (hk2.block X HLt.out.2 (by have := HLt.out; omega)) hk2.size fun b hb hlt => hk2.block b hlt (by have := HLt.out; have h2 : X < b := hb; omega)
  have HK2 := Lib.hid hk2
  have c0 := hX2.cell 8 (v := .int .i64 r.shards) rfl
  have f0 := hX2.free 8
  have HR := Lib.hid (show RBox (w2.setCell ⟨X, 8, none⟩ (.int .i64 ((bt bs a : Nat) : Int))) X (X < ·) A c (readF .shards r bs a) from hX2.set 8 _ rfl hX2.wrs { HX.out.fine with shards := bt_i64 HBt.out _ } (by omega))
  have hb3 : Below X w2 (w2.setCell ⟨X, 8, none⟩ (.int .i64 ((bt bs a : Nat) : Int))) := (Below.refl _ w2).setCell (show X ≤ X from Nat.le_refl _) _
  have HN3 := Lib.hid (hr.below hb3 HLt.out.1)
  have HK3 := Lib.hid ((hk2.mono fun _ h => Or.inl h : Kept7 (fun b => b = p ∨ b = X) w w2).set_ (p := X) (j := 8) (.int .i64 ((bt bs a : Nat) : Int)) (fun _ => Or.inr rfl))
  clear hr hk hk2 hX2 hb3
  go_wp2_with fail
  refine hK.out _ _ (HS.out _ (HK2.out.mono fun _ h => Or.inl h)) (fun hHeldN => ?_)
  clear hK K hHeld
  have hHeld := hHeldN
  clear hHeldN
  (try simp only [Act.put, List.getElem_toArray, List.getElem_cons_zero, List.getElem_cons_succ, List.setIfInBounds_toArray, List.set_cons_zero, List.set_cons_succ])
  refine wpAnyH_take (i := 4) (v := ?_) rfl (by kernel_rfl) (by kernel_rfl) (by kernel_rfl) (fun _ _ _ h => h) (Or.inl ⟨by rfl, ?_⟩) (by assumption) ?_
  rotate_left
  · simp only [List.getElem_toArray, List.getElem_cons_zero, List.getElem_cons_succ]; intro W hSw; (try dsimp only at hSw); go_simp; all_goals with_reducible rfl
  simp only [Act.put, List.getElem_toArray, List.getElem_cons_zero, List.getElem_cons_succ, List.setIfInBounds_toArray, List.set_cons_zero, List.set_cons_succ]
  refine wpAnyH_ready (rs := [5]) (by kernel_rfl) (by simp) ?_
  refine AllReadyH.cons rfl (fun K hK => ?_) AllReadyH.nil
  simp only [List.getElem_toArray, List.getElem_cons_zero, List.getElem_cons_succ]
  go_simp
  refine hK.out _ _ (HS.out _ HK3.out) (fun hHeldN => ?_)
  clear hK K hHeld
  have hHeld := hHeldN
  clear hHeldN
  (try simp only [Act.put, List.getElem_toArray, List.getElem_cons_zero, List.getElem_cons_succ, List.setIfInBounds_toArray, List.set_cons_zero, List.set_cons_succ])
  refine wpAnyH_done (by kernel_rfl) ?_ _
  go_wp2_with fail
  go_end0
  exact ⟨rfl, ⟨_, _, HR.out⟩, (by have h := HN3.out; first | exact h | (rw [Nat.add_assoc] at h; exact h)), HK3.out⟩

set_option maxHeartbeats 2000000 in
theorem read_change (w : World) (X : Nat) (A : Option Addr) (c : Nat) (r : Rc) (bg bp B p : Nat) (bs : List Nat) (a : Nat) (hX : RBox w X (X < ·) A c r) (hm : w.cell? ⟨bg, 0, none⟩ = some (fun0 88)) (hp : w.cell? ⟨bp, 0, none⟩ = some (ptr X 9)) (hbm : bg < w.heap.size) (hbp : bp < w.heap.size) (hgX : X < bg) (hpX : X < bp)
    (hN : Nr w B p (bs.drop a)) (hb : ∀ x ∈ bs, x < 256) (hlt : p < X) :
    Calls Try.prog 111 #[nextV p, ptr bg 0, ptr bp 0] w fun e w' => e = .returned (.tuple #[]) ∧ (∃ A' c', RBox w' X (X < ·) A' c' (readF .change r bs a)) ∧ Nr w' B p (bs.drop (a + lenF .change bs a)) ∧ Kept7 (fun b => b = p ∨ b = X) w w' := by
  have hND : Nr w.drew B p (bs.drop a) := hN.below (Below.refl w.heap.size w).drew hN.lt
  have HG := Lib.hid (getChange_dev w.drew B p bs a hND hb)
  have HS := Lib.hid (show ∀ W, Kept7 (fun b => b = p ∨ b = X) w W → W.cell? ⟨bg, 0, none⟩ = some (fun0 88) ∧ W.cell? ⟨bp, 0, none⟩ = some (ptr X 9) from fun W hW => ⟨(hW.cell (p := ⟨bg, 0, none⟩) hbm (by simp only; omega)).trans hm, (hW.cell (p := ⟨bp, 0, none⟩) hbp (by simp only; omega)).trans hp⟩)
  have HX := Lib.hid hX
  have HLt := Lib.hid (And.intro hlt hX.lt)
  have HBt := Lib.hid hb
  have HK0 := Lib.hid (Kept7.of_below (S := (· = p)) (Below.refl w.heap.size w).drew (Nat.le_refl _))
  clear hX hm hp hbm hbp hgX hpX hN hND hb hlt
  go_enter Try.func111, Try.ntmps111
  go_wp2_with fail
  refine wp_region_held_drew (S := fun W => W.cell? ⟨bg, 0, none⟩ = some (fun0 88) ∧ W.cell? ⟨bp, 0, none⟩ = some (ptr X 9)) (by kernel_rfl) (HS.out _ (HK0.out.mono fun _ h => Or.inl h)) (fun hHeld => ?_)
  refine wpAnyH_take (i := 0) (v := ?_) rfl (by kernel_rfl) (by kernel_rfl) (by kernel_rfl) (fun _ _ _ h => h) (Or.inl ⟨by rfl, ?_⟩) (by assumption) ?_
  rotate_left
  · simp only [List.getElem_toArray, List.getElem_cons_zero, List.getElem_cons_succ]; intro W hSw; (try dsimp only at hSw); go_simp; all_goals with_reducible rfl
  simp only [Act.put, List.getElem_toArray, List.getElem_cons_zero, List.getElem_cons_succ, List.setIfInBounds_toArray, List.set_cons_zero, List.set_cons_succ]
  refine wpAnyH_take (i := 1) (v := ?_) rfl (by kernel_rfl) (by kernel_rfl) (by kernel_rfl) (fun _ _ _ h => h) (Or.inl ⟨by rfl, ?_⟩) (by assumption) ?_
  rotate_left
  · simp only [List.getElem_toArray, List.getElem_cons_zero, List.getElem_cons_succ]; intro W hSw; (try dsimp only at hSw); go_simp; all_goals with_reducible rfl
  simp only [Act.put, List.getElem_toArray, List.getElem_cons_zero, List.getElem_cons_succ, List.setIfInBounds_toArray, List.set_cons_zero, List.set_cons_succ]
  refine wpAnyH_take (i := 2) (v := ?_) rfl (by kernel_rfl) (by kernel_rfl) (by kernel_rfl) (fun _ _ _ h => h) (Or.inl ⟨by rfl, ?_⟩) (by assumption) ?_
  rotate_left
  · simp only [List.getElem_toArray, List.getElem_cons_zero, List.getElem_cons_succ]; intro W hSw; (try dsimp only at hSw); go_simp; all_goals with_reducible rfl
  simp only [Act.put, List.getElem_toArray, List.getElem_cons_zero, List.getElem_cons_succ, List.setIfInBounds_toArray, List.set_cons_zero, List.set_cons_succ]
  refine wpAnyH_ready (rs := [3]) (by kernel_rfl) (by simp) ?_
  refine AllReadyH.cons rfl (fun K hK => ?_) AllReadyH.nil
  simp only [List.getElem_toArray, List.getElem_cons_zero, List.getElem_cons_succ]
  go_simp
  refine HG.out.mono ?_
  rintro e w2 ⟨rfl, hr, hk⟩
  have hk2 := HK0.out.trans hk
  have hX2 : RBox w2 X (X < ·) A c r := HX.out.keep (hk2.block X HLt.out.2 (by have := HLt.out; omega)) hk2.size fun b hb hlt => hk2.block b hlt (by have := HLt.out; have h2 : X < b := hb; omega)
  have HK2 := Lib.hid hk2
  have HXr := Lib.hid (show w2.heap[X]? = some (.cells (([.int .i8 r.kind, .int .i64 r.name.stamp, .int .i64 r.name.inc, .int .i64 r.name.att, .bool r.yes, .slice A r.writes.length c, .int .i64 r.give, .int .i64 r.take, .int .i64 r.shards] : List Value) ++ ([.int .i64 r.stripe, .int .i64 r.dest] : List Value) ++ ([.int .i64 r.n] : List Value)).toArray 29 (0, 0)) from hX2.row)
  have HI := Lib.hid (show (Try.prog.info? 27).map (·.size) = some ([.int .i64 (((bt bs a : Nat) : Int) - 1), .int .i64 ((bt bs (a + 1) : Nat) : Int)] : List Value).length from sizeC)
  have H1 := Lib.hid (show ∀ v ∈ ([.int .i64 (((bt bs a : Nat) : Int) - 1), .int .i64 ((bt bs (a + 1) : Nat) : Int)] : List Value), v.oneCell' = true from by intro v hv; simp only [nmv, List.mem_cons, List.not_mem_nil, or_false] at hv; rcases hv with rfl | rfl <;> rfl)
  have HR := Lib.hid (show RBox (w2.setRow X (([.int .i8 r.kind, .int .i64 r.name.stamp, .int .i64 r.name.inc, .int .i64 r.name.att, .bool r.yes, .slice A r.writes.length c, .int .i64 r.give, .int .i64 r.take, .int .i64 r.shards] : List Value) ++ ([.int .i64 (((bt bs a : Nat) : Int) - 1), .int .i64 ((bt bs (a + 1) : Nat) : Int)] : List Value) ++ ([.int .i64 r.n] : List Value)).toArray) X (X < ·) A c (readF .change r bs a) from hX2.setR _ rfl hX2.wrs { HX.out.fine with stripe := bt_i64m HBt.out _, dest := bt_i64 HBt.out _ } (by omega))
  have hb3 : Below X w2 (w2.setRow X (([.int .i8 r.kind, .int .i64 r.name.stamp, .int .i64 r.name.inc, .int .i64 r.name.att, .bool r.yes, .slice A r.writes.length c, .int .i64 r.give, .int .i64 r.take, .int .i64 r.shards] : List Value) ++ ([.int .i64 (((bt bs a : Nat) : Int) - 1), .int .i64 ((bt bs (a + 1) : Nat) : Int)] : List Value) ++ ([.int .i64 r.n] : List Value)).toArray) := below_setRow (Below.refl _ w2) (Nat.le_refl _) _
  have HN3 := Lib.hid (hr.below hb3 HLt.out.1)
  have HK3 := Lib.hid ((hk2.mono fun _ h => Or.inl h : Kept7 (fun b => b = p ∨ b = X) w w2).row (([.int .i8 r.kind, .int .i64 r.name.stamp, .int .i64 r.name.inc, .int .i64 r.name.att, .bool r.yes, .slice A r.writes.length c, .int .i64 r.give, .int .i64 r.take, .int .i64 r.shards] : List Value) ++ ([.int .i64 (((bt bs a : Nat) : Int) - 1), .int .i64 ((bt bs (a + 1) : Nat) : Int)] : List Value) ++ ([.int .i64 r.n] : List Value)).toArray (Or.inr rfl))
  clear hr hk hk2 hX2 hb3
  go_wp2_with fail
  refine hK.out _ _ (HS.out _ (HK2.out.mono fun _ h => Or.inl h)) (fun hHeldN => ?_)
  clear hK K hHeld
  have hHeld := hHeldN
  clear hHeldN
  (try simp only [Act.put, List.getElem_toArray, List.getElem_cons_zero, List.getElem_cons_succ, List.setIfInBounds_toArray, List.set_cons_zero, List.set_cons_succ])
  refine wpAnyH_take (i := 4) (v := ?_) rfl (by kernel_rfl) (by kernel_rfl) (by kernel_rfl) (fun _ _ _ h => h) (Or.inl ⟨by rfl, ?_⟩) (by assumption) ?_
  rotate_left
  · simp only [List.getElem_toArray, List.getElem_cons_zero, List.getElem_cons_succ]; intro W hSw; (try dsimp only at hSw); go_simp; all_goals with_reducible rfl
  simp only [Act.put, List.getElem_toArray, List.getElem_cons_zero, List.getElem_cons_succ, List.setIfInBounds_toArray, List.set_cons_zero, List.set_cons_succ]
  refine wpAnyH_ready (rs := [5]) (by kernel_rfl) (by simp) ?_
  refine AllReadyH.cons rfl (fun K hK => ?_) AllReadyH.nil
  simp only [List.getElem_toArray, List.getElem_cons_zero, List.getElem_cons_succ]
  rw [if_pos (by rfl)]
  refine wp_store_part 27 (.tmp 8) (.tmp 7) rfl X 9 rfl ([.int .i64 (((bt bs a : Nat) : Int) - 1), .int .i64 ((bt bs (a + 1) : Nat) : Int)] : List Value) rfl 29 ([.int .i8 r.kind, .int .i64 r.name.stamp, .int .i64 r.name.inc, .int .i64 r.name.att, .bool r.yes, .slice A r.writes.length c, .int .i64 r.give, .int .i64 r.take, .int .i64 r.shards] : List Value) ([.int .i64 r.stripe, .int .i64 r.dest] : List Value) ([.int .i64 r.n] : List Value) HXr.out rfl rfl HI.out H1.out ?_
  refine hK.out _ _ (HS.out _ HK3.out) (fun hHeldN => ?_)
  clear hK K hHeld
  have hHeld := hHeldN
  clear hHeldN
  (try simp only [Act.put, List.getElem_toArray, List.getElem_cons_zero, List.getElem_cons_succ, List.setIfInBounds_toArray, List.set_cons_zero, List.set_cons_succ])
  refine wpAnyH_done (by kernel_rfl) ?_ _
  go_wp2_with fail
  go_end0
  exact ⟨rfl, ⟨_, _, HR.out⟩, (by have h := HN3.out; first | exact h | (rw [Nat.add_assoc] at h; exact h)), HK3.out⟩

set_option maxHeartbeats 2000000 in
theorem read_num (w : World) (X : Nat) (A : Option Addr) (c : Nat) (r : Rc) (m : Int) (bg bp B p : Nat) (bs : List Nat) (a : Nat) (hX : RBox w X (X < ·) A c r) (hm : w.cell? ⟨bg, 0, none⟩ = some (fun0 91)) (hp : w.cell? ⟨bp, 0, none⟩ = some (ptr X 11)) (hbm : bg < w.heap.size) (hbp : bp < w.heap.size) (hgX : X < bg) (hpX : X < bp)
    (hN : Nr w B p (bs.drop a)) (hb : ∀ x ∈ bs, x < 256) (hlt : p < X) :
    Calls Try.prog 102 #[nextV p, ptr bg 0, ptr bp 0] w fun e w' => e = .returned (.tuple #[]) ∧ (∃ A' c', RBox w' X (X < ·) A' c' (readF (.num m) r bs a)) ∧ Nr w' B p (bs.drop (a + lenF (.num m) bs a)) ∧ Kept7 (fun b => b = p ∨ b = X) w w' := by
  have hND : Nr w.drew B p (bs.drop a) := hN.below (Below.refl w.heap.size w).drew hN.lt
  have HG := Lib.hid (getWide_dev w.drew B p bs a hND hb)
  have HS := Lib.hid (show ∀ W, Kept7 (fun b => b = p ∨ b = X) w W → W.cell? ⟨bg, 0, none⟩ = some (fun0 91) ∧ W.cell? ⟨bp, 0, none⟩ = some (ptr X 11) from fun W hW => ⟨(hW.cell (p := ⟨bg, 0, none⟩) hbm (by simp only; omega)).trans hm, (hW.cell (p := ⟨bp, 0, none⟩) hbp (by simp only; omega)).trans hp⟩)
  have HX := Lib.hid hX
  have HLt := Lib.hid (And.intro hlt hX.lt)
  have HBt := Lib.hid hb
  have HK0 := Lib.hid (Kept7.of_below (S := (· = p)) (Below.refl w.heap.size w).drew (Nat.le_refl _))
  clear hX hm hp hbm hbp hgX hpX hN hND hb hlt
  go_enter Try.func102, Try.ntmps102
  go_wp2_with fail
  refine wp_region_held_drew (S := fun W => W.cell? ⟨bg, 0, none⟩ = some (fun0 91) ∧ W.cell? ⟨bp, 0, none⟩ = some (ptr X 11)) (by kernel_rfl) (HS.out _ (HK0.out.mono fun _ h => Or.inl h)) (fun hHeld => ?_)
  refine wpAnyH_take (i := 0) (v := ?_) rfl (by kernel_rfl) (by kernel_rfl) (by kernel_rfl) (fun _ _ _ h => h) (Or.inl ⟨by rfl, ?_⟩) (by assumption) ?_
  rotate_left
  · simp only [List.getElem_toArray, List.getElem_cons_zero, List.getElem_cons_succ]; intro W hSw; (try dsimp only at hSw); go_simp; all_goals with_reducible rfl
  simp only [Act.put, List.getElem_toArray, List.getElem_cons_zero, List.getElem_cons_succ, List.setIfInBounds_toArray, List.set_cons_zero, List.set_cons_succ]
  refine wpAnyH_take (i := 1) (v := ?_) rfl (by kernel_rfl) (by kernel_rfl) (by kernel_rfl) (fun _ _ _ h => h) (Or.inl ⟨by rfl, ?_⟩) (by assumption) ?_
  rotate_left
  · simp only [List.getElem_toArray, List.getElem_cons_zero, List.getElem_cons_succ]; intro W hSw; (try dsimp only at hSw); go_simp; all_goals with_reducible rfl
  simp only [Act.put, List.getElem_toArray, List.getElem_cons_zero, List.getElem_cons_succ, List.setIfInBounds_toArray, List.set_cons_zero, List.set_cons_succ]
  refine wpAnyH_take (i := 2) (v := ?_) rfl (by kernel_rfl) (by kernel_rfl) (by kernel_rfl) (fun _ _ _ h => h) (Or.inl ⟨by rfl, ?_⟩) (by assumption) ?_
  rotate_left
  · simp only [List.getElem_toArray, List.getElem_cons_zero, List.getElem_cons_succ]; intro W hSw; (try dsimp only at hSw); go_simp; all_goals with_reducible rfl
  simp only [Act.put, List.getElem_toArray, List.getElem_cons_zero, List.getElem_cons_succ, List.setIfInBounds_toArray, List.set_cons_zero, List.set_cons_succ]
  refine wpAnyH_ready (rs := [3]) (by kernel_rfl) (by simp) ?_
  refine AllReadyH.cons rfl (fun K hK => ?_) AllReadyH.nil
  simp only [List.getElem_toArray, List.getElem_cons_zero, List.getElem_cons_succ]
  go_simp
  refine HG.out.mono ?_
  rintro e w2 ⟨rfl, hr, hk⟩
  have hk2 := HK0.out.trans hk
  have hX2 : RBox w2 X (X < ·) A c r := HX.out.keep (hk2.block X HLt.out.2 (by have := HLt.out; omega)) hk2.size fun b hb hlt => hk2.block b hlt (by have := HLt.out; have h2 : X < b := hb; omega)
  have HK2 := Lib.hid hk2
  have c0 := hX2.cell 11 (v := .int .i64 r.n) rfl
  have f0 := hX2.free 11
  have HR := Lib.hid (show RBox (w2.setCell ⟨X, 11, none⟩ (.int .i64 ((gz bs a 3 : Nat) : Int))) X (X < ·) A c (readF (.num m) r bs a) from hX2.set 11 _ rfl hX2.wrs { HX.out.fine with n := gz_i64 HBt.out _ } (by omega))
  have hb3 : Below X w2 (w2.setCell ⟨X, 11, none⟩ (.int .i64 ((gz bs a 3 : Nat) : Int))) := (Below.refl _ w2).setCell (show X ≤ X from Nat.le_refl _) _
  have HN3 := Lib.hid (hr.below hb3 HLt.out.1)
  have HK3 := Lib.hid ((hk2.mono fun _ h => Or.inl h : Kept7 (fun b => b = p ∨ b = X) w w2).set_ (p := X) (j := 11) (.int .i64 ((gz bs a 3 : Nat) : Int)) (fun _ => Or.inr rfl))
  clear hr hk hk2 hX2 hb3
  go_wp2_with fail
  refine hK.out _ _ (HS.out _ (HK2.out.mono fun _ h => Or.inl h)) (fun hHeldN => ?_)
  clear hK K hHeld
  have hHeld := hHeldN
  clear hHeldN
  (try simp only [Act.put, List.getElem_toArray, List.getElem_cons_zero, List.getElem_cons_succ, List.setIfInBounds_toArray, List.set_cons_zero, List.set_cons_succ])
  refine wpAnyH_take (i := 4) (v := ?_) rfl (by kernel_rfl) (by kernel_rfl) (by kernel_rfl) (fun _ _ _ h => h) (Or.inl ⟨by rfl, ?_⟩) (by assumption) ?_
  rotate_left
  · simp only [List.getElem_toArray, List.getElem_cons_zero, List.getElem_cons_succ]; intro W hSw; (try dsimp only at hSw); go_simp; all_goals with_reducible rfl
  simp only [Act.put, List.getElem_toArray, List.getElem_cons_zero, List.getElem_cons_succ, List.setIfInBounds_toArray, List.set_cons_zero, List.set_cons_succ]
  refine wpAnyH_ready (rs := [5]) (by kernel_rfl) (by simp) ?_
  refine AllReadyH.cons rfl (fun K hK => ?_) AllReadyH.nil
  simp only [List.getElem_toArray, List.getElem_cons_zero, List.getElem_cons_succ]
  go_simp
  refine hK.out _ _ (HS.out _ HK3.out) (fun hHeldN => ?_)
  clear hK K hHeld
  have hHeld := hHeldN
  clear hHeldN
  (try simp only [Act.put, List.getElem_toArray, List.getElem_cons_zero, List.getElem_cons_succ, List.setIfInBounds_toArray, List.set_cons_zero, List.set_cons_succ])
  refine wpAnyH_done (by kernel_rfl) ?_ _
  go_wp2_with fail
  go_end0
  exact ⟨rfl, ⟨_, _, HR.out⟩, (by have h := HN3.out; first | exact h | (rw [Nat.add_assoc] at h; exact h)), HK3.out⟩

end Go.Proofs.Ytaokhbodmodcgaa
end

section
/-
  The developers' fields, whichever: may it be, emptied, its bytes, read.
-/
namespace Go.Proofs.Ytaokhbodmodcgaa
open Go.RowKit
set_option maxRecDepth 100000

/-- a function of the program is entered where it is called -/
def Ent (n : Nat) : Prop := ∀ args w, (callFunc n args).run Try.prog w = .ok (.enter n args) w
theorem ent_of {f : Nat} {fn : Func} {c : Code} (hf : Try.prog.funcs[f]? = some fn) (hname : (fn.name == "runtime.NumGoroutine") = false) (hb : fn.body = some c) : Ent f := by
  intro args w
  have h1 : fn.name ≠ "runtime.NumGoroutine" := by simpa using hname
  simp [callFunc, hf, h1, hb, mark]
theorem ent_all : ∀ n ∈ [92, 93, 94, 95, 96, 97, 98, 99, 100, 101, 102, 103, 105, 106, 107, 108, 109, 110, 111, 112], Ent n := by
  intro n hn
  simp only [List.mem_cons, List.not_mem_nil, or_false] at hn
  rcases hn with rfl | rfl | rfl | rfl | rfl | rfl | rfl | rfl | rfl | rfl | rfl | rfl | rfl | rfl | rfl | rfl | rfl | rfl | rfl | rfl
  · exact ent_of Try.func92 (by kernel_rfl) rfl
  · exact ent_of Try.func93 (by kernel_rfl) rfl
  · exact ent_of Try.func94 (by kernel_rfl) rfl
  · exact ent_of Try.func95 (by kernel_rfl) rfl
  · exact ent_of Try.func96 (by kernel_rfl) rfl
  · exact ent_of Try.func97 (by kernel_rfl) rfl
  · exact ent_of Try.func98 (by kernel_rfl) rfl
  · exact ent_of Try.func99 (by kernel_rfl) rfl
  · exact ent_of Try.func100 (by kernel_rfl) rfl
  · exact ent_of Try.func101 (by kernel_rfl) rfl
  · exact ent_of Try.func102 (by kernel_rfl) rfl
  · exact ent_of Try.func103 (by kernel_rfl) rfl
  · exact ent_of Try.func105 (by kernel_rfl) rfl
  · exact ent_of Try.func106 (by kernel_rfl) rfl
  · exact ent_of Try.func107 (by kernel_rfl) rfl
  · exact ent_of Try.func108 (by kernel_rfl) rfl
  · exact ent_of Try.func109 (by kernel_rfl) rfl
  · exact ent_of Try.func110 (by kernel_rfl) rfl
  · exact ent_of Try.func111 (by kernel_rfl) rfl
  · exact ent_of Try.func112 (by kernel_rfl) rfl
def f2 (n b1 b2 : Nat) : Value := .func (.func n) #[] #[ptr b1 0, ptr b2 0]
def f1 (n b1 : Nat) : Value := .func (.func n) #[] #[ptr b1 0]
section
variable {w : World} {N M X : Nat} {P : Nat → Prop} {A : Option Addr} {c : Nat} {r : Rc} {fs : List Value}
theorem fld_may {k : FK} (hF : FldC w N M X k fs) (hM : M ≤ w.heap.size) (hX : RBox w X P A c r) :
    ∃ n b1 b2, fs[0]? = some (f2 n b1 b2) ∧ Ent n ∧ Calls Try.prog n #[ptr b1 0, ptr b2 0] w fun e w' => e = .returned (.bool (mayF k r)) ∧ Below w.heap.size w w' := by
  cases k
  case take =>
    obtain ⟨bx, hx, bp, bm, bu, bg, rfl, h1, h2, h3, h4⟩ := hF
    exact ⟨_, bm, bp, rfl, ent_all _ (by decide), may_take w X P A c r bm bp bx hx.at_ hX h2.at_ h1.at_ (by have := h2.hi; omega) (by have := h1.hi; omega)⟩
  case num m =>
    obtain ⟨bx, hx, bp, bm, bu, bg, rfl, h1, h2, h3, h4⟩ := hF
    exact ⟨_, bm, bp, rfl, ent_all _ (by decide), may_num w X P A c r m bm bp bx hx.at_ hX h2.at_ h1.at_ (by have := h2.hi; omega) (by have := h1.hi; omega)⟩
  all_goals obtain ⟨bp, bm, bu, bg, rfl, h1, h2, h3, h4⟩ := hF
  case name => exact ⟨_, bm, bp, rfl, ent_all _ (by decide), may_name w X P A c r bm bp hX h2.at_ h1.at_ (by have := h2.hi; omega) (by have := h1.hi; omega)⟩
  case writes => exact ⟨_, bm, bp, rfl, ent_all _ (by decide), may_writes w X P A c r bm bp hX h2.at_ h1.at_ (by have := h2.hi; omega) (by have := h1.hi; omega)⟩
  case give => exact ⟨_, bm, bp, rfl, ent_all _ (by decide), may_give w X P A c r bm bp hX h2.at_ h1.at_ (by have := h2.hi; omega) (by have := h1.hi; omega)⟩
  case yes => exact ⟨_, bm, bp, rfl, ent_all _ (by decide), may_yes w X P A c r bm bp hX h2.at_ h1.at_ (by have := h2.hi; omega) (by have := h1.hi; omega)⟩
  case shards => exact ⟨_, bm, bp, rfl, ent_all _ (by decide), may_shards w X P A c r bm bp hX h2.at_ h1.at_ (by have := h2.hi; omega) (by have := h1.hi; omega)⟩
  case change => exact ⟨_, bm, bp, rfl, ent_all _ (by decide), may_change w X P A c r bm bp hX h2.at_ h1.at_ (by have := h2.hi; omega) (by have := h1.hi; omega)⟩
theorem fld_empty {k : FK} (hF : FldC w N M X k fs) (hM : M ≤ w.heap.size) (hX : RBox w X P A c r) (hP : ¬ P X) :
    ∃ n b1, fs[3]? = some (f1 n b1) ∧ Ent n ∧ Calls Try.prog n #[ptr b1 0] w fun e w' => e = .returned (.tuple #[]) ∧ (∃ A' c', RBox w' X P A' c' (emptyF k r)) ∧ Kept7 (· = X) w w' := by
  cases k
  case take =>
    obtain ⟨bx, hx, bp, bm, bu, bg, rfl, h1, h2, h3, h4⟩ := hF
    exact ⟨_, bp, rfl, ent_all _ (by decide), empty_take w X P A c r bp hX h1.at_ (by have := h1.hi; omega) hP⟩
  case num m =>
    obtain ⟨bx, hx, bp, bm, bu, bg, rfl, h1, h2, h3, h4⟩ := hF
    exact ⟨_, bp, rfl, ent_all _ (by decide), empty_num w X P A c r m bp hX h1.at_ (by have := h1.hi; omega) hP⟩
  all_goals obtain ⟨bp, bm, bu, bg, rfl, h1, h2, h3, h4⟩ := hF
  case name => exact ⟨_, bp, rfl, ent_all _ (by decide), empty_name w X P A c r bp hX h1.at_ (by have := h1.hi; omega) hP⟩
  case writes => exact ⟨_, bp, rfl, ent_all _ (by decide), empty_writes w X P A c r bp hX h1.at_ (by have := h1.hi; omega) hP⟩
  case give => exact ⟨_, bp, rfl, ent_all _ (by decide), empty_give w X P A c r bp hX h1.at_ (by have := h1.hi; omega) hP⟩
  case yes => exact ⟨_, bp, rfl, ent_all _ (by decide), empty_yes w X P A c r bp hX h1.at_ (by have := h1.hi; omega) hP⟩
  case shards => exact ⟨_, bp, rfl, ent_all _ (by decide), empty_shards w X P A c r bp hX h1.at_ (by have := h1.hi; omega) hP⟩
  case change => exact ⟨_, bp, rfl, ent_all _ (by decide), empty_change w X P A c r bp hX h1.at_ (by have := h1.hi; omega) hP⟩
def LowK (k : FK) : Prop := ∀ m, k = .num m → m < 16777216
theorem fld_put {k : FK} {bs : List Nat} {v : Value} {base : Nat} (hF : FldC w N M X k fs) (hM : M ≤ w.heap.size) (hX : RBox w X P A c r) (hk : LowK k) (hmay : mayF k r = true) (ho : Own w base bs v) (hb : base ≤ w.heap.size) (hl : bs.length ≤ 1000) (hv : ∀ k, v.ownBlock = some k → (k < N ∨ M ≤ k) ∧ k ≠ X) (hP : ∀ k, P k → v.ownBlock ≠ some k) :
    ∃ n b1 b2, fs[1]? = some (f2 n b1 b2) ∧ Ent n ∧ Calls Try.prog n #[v, ptr b1 0, ptr b2 0] w fun e w' => ∃ v', e = .returned v' ∧ Own w' base (bs ++ putF k r) v' ∧ Grew w w' v v' := by
  cases k
  case take =>
    obtain ⟨bx, hx, bp, bm, bu, bg, rfl, h1, h2, h3, h4⟩ := hF
    refine ⟨_, bu, bp, rfl, ent_all _ (by decide), ?_⟩
    exact (
      put_take w X P A c r  bu bp bs v base hX h3.at_ h1.at_ (by have := h3.hi; omega) (by have := h1.hi; omega) hmay ho hb hl (fun k hk => ⟨fun e => by have := hv k hk; have := h3.lo; have := h3.hi; omega, fun e => by have := hv k hk; have := h1.lo; have := h1.hi; omega, (hv k hk).2⟩) hP
      )
  case num m =>
    obtain ⟨bx, hx, bp, bm, bu, bg, rfl, h1, h2, h3, h4⟩ := hF
    refine ⟨_, bu, bp, rfl, ent_all _ (by decide), ?_⟩
    exact (
      put_num w X P A c r m (hk m rfl) bu bp bs v base hX h3.at_ h1.at_ (by have := h3.hi; omega) (by have := h1.hi; omega) hmay ho hb hl (fun k hk => ⟨fun e => by have := hv k hk; have := h3.lo; have := h3.hi; omega, fun e => by have := hv k hk; have := h1.lo; have := h1.hi; omega, (hv k hk).2⟩) hP
      )
  all_goals
    obtain ⟨bp, bm, bu, bg, rfl, h1, h2, h3, h4⟩ := hF
    refine ⟨_, bu, bp, rfl, ent_all _ (by decide), ?_⟩
  case name =>
    exact (
      put_name w X P A c r  bu bp bs v base hX h3.at_ h1.at_ (by have := h3.hi; omega) (by have := h1.hi; omega) hmay ho hb hl (fun k hk => ⟨fun e => by have := hv k hk; have := h3.lo; have := h3.hi; omega, fun e => by have := hv k hk; have := h1.lo; have := h1.hi; omega, (hv k hk).2⟩) hP
      )
  case writes =>
    exact (
      put_writes w X P A c r  bu bp bs v base hX h3.at_ h1.at_ (by have := h3.hi; omega) (by have := h1.hi; omega) hmay ho hb hl (fun k hk => ⟨fun e => by have := hv k hk; have := h3.lo; have := h3.hi; omega, fun e => by have := hv k hk; have := h1.lo; have := h1.hi; omega, (hv k hk).2⟩) hP
      )
  case give =>
    exact (
      put_give w X P A c r  bu bp bs v base hX h3.at_ h1.at_ (by have := h3.hi; omega) (by have := h1.hi; omega) hmay ho hb hl (fun k hk => ⟨fun e => by have := hv k hk; have := h3.lo; have := h3.hi; omega, fun e => by have := hv k hk; have := h1.lo; have := h1.hi; omega, (hv k hk).2⟩) hP
      )
  case yes =>
    exact (
      put_yes w X P A c r  bu bp bs v base hX h3.at_ h1.at_ (by have := h3.hi; omega) (by have := h1.hi; omega) hmay ho hb hl (fun k hk => ⟨fun e => by have := hv k hk; have := h3.lo; have := h3.hi; omega, fun e => by have := hv k hk; have := h1.lo; have := h1.hi; omega, (hv k hk).2⟩) hP
      )
  case shards =>
    exact (
      put_shards w X P A c r  bu bp bs v base hX h3.at_ h1.at_ (by have := h3.hi; omega) (by have := h1.hi; omega) hmay ho hb hl (fun k hk => ⟨fun e => by have := hv k hk; have := h3.lo; have := h3.hi; omega, fun e => by have := hv k hk; have := h1.lo; have := h1.hi; omega, (hv k hk).2⟩) hP
      )
  case change =>
    exact (
      put_change w X P A c r  bu bp bs v base hX h3.at_ h1.at_ (by have := h3.hi; omega) (by have := h1.hi; omega) hmay ho hb hl (fun k hk => ⟨fun e => by have := hv k hk; have := h3.lo; have := h3.hi; omega, fun e => by have := hv k hk; have := h1.lo; have := h1.hi; omega, (hv k hk).2⟩) hP
      )
theorem fld_read {k : FK} {B p a : Nat} {bs : List Nat} (hF : FldC w N M X k fs) (hM : M ≤ w.heap.size) (hX : RBox w X (X < ·) A c r) (hXN : X < N) (hN : Nr w B p (bs.drop a)) (hb : ∀ x ∈ bs, x < 256) (hlt : p < X) :
    ∃ n b1 b2, fs[2]? = some (f2 n b1 b2) ∧ Ent n ∧ Calls Try.prog n #[nextV p, ptr b1 0, ptr b2 0] w fun e w' => e = .returned (.tuple #[]) ∧ (∃ A' c', RBox w' X (X < ·) A' c' (readF k r bs a)) ∧ Nr w' B p (bs.drop (a + lenF k bs a)) ∧ Kept7 (fun b => b = p ∨ b = X) w w' := by
  cases k
  case take =>
    obtain ⟨bx, hx, bp, bm, bu, bg, rfl, h1, h2, h3, h4⟩ := hF
    refine ⟨_, bg, bp, rfl, ent_all _ (by decide), ?_⟩
    exact (
      read_take w X A c r  bg bp B p bs a hX h4.at_ h1.at_ (by have := h4.hi; omega) (by have := h1.hi; omega) (by have := h4.lo; omega) (by have := h1.lo; omega) hN hb hlt
      )
  case num m =>
    obtain ⟨bx, hx, bp, bm, bu, bg, rfl, h1, h2, h3, h4⟩ := hF
    refine ⟨_, bg, bp, rfl, ent_all _ (by decide), ?_⟩
    exact (
      read_num w X A c r m bg bp B p bs a hX h4.at_ h1.at_ (by have := h4.hi; omega) (by have := h1.hi; omega) (by have := h4.lo; omega) (by have := h1.lo; omega) hN hb hlt
      )
  all_goals
    obtain ⟨bp, bm, bu, bg, rfl, h1, h2, h3, h4⟩ := hF
    refine ⟨_, bg, bp, rfl, ent_all _ (by decide), ?_⟩
  case name =>
    exact (
      read_name w X A c r  bg bp B p bs a hX h4.at_ h1.at_ (by have := h4.hi; omega) (by have := h1.hi; omega) (by have := h4.lo; omega) (by have := h1.lo; omega) hN hb hlt
      )
  case writes =>
    exact (
      read_writes w X A c r  bg bp B p bs a hX h4.at_ h1.at_ (by have := h4.hi; omega) (by have := h1.hi; omega) (by have := h4.lo; omega) (by have := h1.lo; omega) hN hb hlt
      )
  case give =>
    exact (
      read_give w X A c r  bg bp B p bs a hX h4.at_ h1.at_ (by have := h4.hi; omega) (by have := h1.hi; omega) (by have := h4.lo; omega) (by have := h1.lo; omega) hN hb hlt
      )
  case yes =>
    exact (
      read_yes w X A c r  bg bp B p bs a hX h4.at_ h1.at_ (by have := h4.hi; omega) (by have := h1.hi; omega) (by have := h4.lo; omega) (by have := h1.lo; omega) hN hb hlt
      )
  case shards =>
    exact (
      read_shards w X A c r  bg bp B p bs a hX h4.at_ h1.at_ (by have := h4.hi; omega) (by have := h1.hi; omega) (by have := h4.lo; omega) (by have := h1.lo; omega) hN hb hlt
      )
  case change =>
    exact (
      read_change w X A c r  bg bp B p bs a hX h4.at_ h1.at_ (by have := h4.hi; omega) (by have := h1.hi; omega) (by have := h4.lo; omega) (by have := h1.lo; omega) hN hb hlt
      )
end
end Go.Proofs.Ytaokhbodmodcgaa
end

section
/-
  The developers' answer of which writes are the same (slices.Equal).
-/
namespace Go.Proofs.Ytaokhbodmodcgaa
open Go.RowKit
set_option maxRecDepth 100000

set_option maxHeartbeats 4000000 in
theorem equal_dev (l m : List (Int × List Nat)) (A B : Option Addr) (c d : Nat) (w : World) (P Q : Nat → Prop) (hl : Wrs w P A l) (hm : Wrs w Q B m) (hfl : WrFine l) (hfm : WrFine m) (hll : l.length ≤ 1000000) (hml : m.length ≤ 1000000) :
    Calls Try.prog 37 #[.slice A l.length c, .slice B m.length d] w fun e w' => e = .returned (.bool (decide (l = m))) ∧ Below w.heap.size w w' := by
  obtain ⟨E, hE⟩ : ∃ E, E = decide (l = m) := ⟨_, rfl⟩
  rw [← hE]
  obtain ⟨n, hn⟩ : ∃ n, n = l.length := ⟨_, rfl⟩
  obtain ⟨n2, hn2⟩ : ∃ n2, n2 = m.length := ⟨_, rfl⟩
  rw [← hn, ← hn2]
  by_cases h0 : n = n2
  · subst h0
    have HN := Lib.hid (And.intro hn hn2)
    have HE := Lib.hid hE
    have HL := Lib.hid hl
    have HM := Lib.hid hm
    have HFl := Lib.hid hfl
    have HFm := Lib.hid hfm
    have hnl : n ≤ 1000000 := by omega
    have hq : ((n : Int) != (n : Int)) = false := by simp
    clear hn hn2 hE hl hm hfl hfm hll hml
    go_enter Try.func37, Try.ntmps37
    go_wp2
    go_loopw [13] (fun i wr => ∃ k : Nat, k ≤ n ∧ i = .int .i64 (k : Int) ∧ l.take k = m.take k ∧ Below w.heap.size w wr) (fun i _ => n - (intOf i).toNat)
    case atStart => exact ⟨0, Nat.zero_le _, rfl, rfl, Below.refl _ _⟩
    case round =>
      obtain ⟨k, hk, rfl, hEk, hb⟩ := hrel
      have HBr := Lib.hid hb
      by_cases hlt : k < n
      · have hkl : k < l.length := by rw [← HN.out.1]; exact hlt
        have hkm : k < m.length := by rw [← HN.out.2]; exact hlt
        obtain ⟨b, off, rfl, ⟨_, hbl⟩, hc⟩ := HL.out (by omega)
        obtain ⟨b2, off2, rfl, ⟨_, hbl2⟩, hc2⟩ := HM.out (by omega)
        have hs := same_take hkl hkm hEk
        have hx := HFl.out l[k] (List.getElem_mem hkl)
        have hy := HFm.out m[k] (List.getElem_mem hkm)
        have HC := Lib.hid (show ∀ W, Below w.heap.size w W → (∀ j u, (wrv l[k])[j]? = some u → W.cell? ⟨b, off + k * 9 + j, none⟩ = some u) ∧ ∀ j u, (wrv m[k])[j]? = some u → W.cell? ⟨b2, off2 + k * 9 + j, none⟩ = some u from fun W hW =>
          ⟨fun j u hu => (World.cell?_of_block (w := w) (hW.block b hbl)).trans (hc k hkl j u hu), fun j u hu => (World.cell?_of_block (w := w) (hW.block b2 hbl2)).trans (hc2 k hkm j u hu)⟩)
        have hi1 : (Try.prog.info? 68).map (·.size) = some (wrv l[k]).length := by rw [write_size, wrv_length hx.2.1]
        have hi2 : (Try.prog.info? 68).map (·.size) = some (wrv m[k]).length := by rw [write_size, wrv_length hy.2.1]
        have hne := fun W => write_neq W l[k] m[k] hx.2.1 hy.2.1
        have hno : l[k] ≠ m[k] → E = false := fun h => by
          rw [HE.out]
          refine decide_eq_false fun e => h ?_
          subst e
          rfl
        clear hc hc2 hEk hb hx hy
        generalize l[k] = x at *
        generalize m[k] = y at *
        have HS := Lib.hid hs
        have HNo := Lib.hid hno
        have HI1 := Lib.hid hi1
        have HI2 := Lib.hid hi2
        have hki : (k : Int) < (n : Int) := by omega
        have hw : IntKind.i64.wrap ((k : Int) + 1) = (k : Int) + 1 := by rw [IntKind.wrap_i64]; omega
        clear hs hno hi1 hi2
        by_cases hxy : x = y
        · have hd : decide (x = y) = true := decide_eq_true hxy
          have HY := Lib.hid (HS.out.2 hxy)
          rw [hd] at hne
          clear hxy hd
          go_wp2_with fail
          refine wp_region_held_drew (S := fun W => Below w.heap.size w W) (by kernel_rfl) HBr.out.drew (fun hHeld => ?_)
          refine wpAnyH_take (i := 0) (v := ?_) rfl (by kernel_rfl) (by kernel_rfl) (by kernel_rfl) (fun _ _ _ h => h) (Or.inl ⟨by rfl, ?_⟩) (by assumption) ?_
          rotate_left
          · simp only [List.getElem_toArray, List.getElem_cons_zero, List.getElem_cons_succ]; intro W hSw; (try dsimp only at hSw); go_simp; all_goals with_reducible rfl
          simp only [Act.put, List.getElem_toArray, List.getElem_cons_zero, List.getElem_cons_succ, List.setIfInBounds_toArray, List.set_cons_zero, List.set_cons_succ]
          refine wpAnyH_take (i := 1) (v := ?_) rfl (by kernel_rfl) (by kernel_rfl) (by kernel_rfl) (fun _ _ _ h => h) (Or.inl ⟨by rfl, ?_⟩) (by assumption) ?_
          rotate_left
          · simp only [List.getElem_toArray, List.getElem_cons_zero, List.getElem_cons_succ]; intro W hSw; (try dsimp only at hSw); go_simp; all_goals with_reducible rfl
          simp only [Act.put, List.getElem_toArray, List.getElem_cons_zero, List.getElem_cons_succ, List.setIfInBounds_toArray, List.set_cons_zero, List.set_cons_succ]
          refine wpAnyH_take (i := 2) (v := ?_) rfl (by kernel_rfl) (by kernel_rfl) (by kernel_rfl) (fun _ _ _ h => h) (Or.inl ⟨by rfl, ?_⟩) (by assumption) ?_
          rotate_left
          · simp only [List.getElem_toArray, List.getElem_cons_zero, List.getElem_cons_succ]; intro W hSw; (try dsimp only at hSw); go_simp; all_goals with_reducible rfl
          simp only [Act.put, List.getElem_toArray, List.getElem_cons_zero, List.getElem_cons_succ, List.setIfInBounds_toArray, List.set_cons_zero, List.set_cons_succ]
          refine wpAnyH_take (i := 3) (v := ?_) rfl (by kernel_rfl) (by kernel_rfl) (by kernel_rfl) (fun _ _ _ h => h) (Or.inl ⟨by rfl, ?_⟩) (by assumption) ?_
          rotate_left
          · simp only [List.getElem_toArray, List.getElem_cons_zero, List.getElem_cons_succ]; intro W hSw; (try dsimp only at hSw); refine exec_load_part 68 (.tmp 18) ?_ b (off + k * 9) ?_ (wrv x) _ (HC.out W hSw).1 Try.underlying68 ?_ HI1.out <;> rfl
          simp only [Act.put, List.getElem_toArray, List.getElem_cons_zero, List.getElem_cons_succ, List.setIfInBounds_toArray, List.set_cons_zero, List.set_cons_succ]
          refine wpAnyH_take (i := 4) (v := ?_) rfl (by kernel_rfl) (by kernel_rfl) (by kernel_rfl) (fun _ _ _ h => h) (Or.inl ⟨by rfl, ?_⟩) (by assumption) ?_
          rotate_left
          · simp only [List.getElem_toArray, List.getElem_cons_zero, List.getElem_cons_succ]; intro W hSw; (try dsimp only at hSw); go_simp; all_goals with_reducible rfl
          simp only [Act.put, List.getElem_toArray, List.getElem_cons_zero, List.getElem_cons_succ, List.setIfInBounds_toArray, List.set_cons_zero, List.set_cons_succ]
          refine wpAnyH_take (i := 5) (v := ?_) rfl (by kernel_rfl) (by kernel_rfl) (by kernel_rfl) (fun _ _ _ h => h) (Or.inl ⟨by rfl, ?_⟩) (by assumption) ?_
          rotate_left
          · simp only [List.getElem_toArray, List.getElem_cons_zero, List.getElem_cons_succ]; intro W hSw; (try dsimp only at hSw); go_simp; all_goals with_reducible rfl
          simp only [Act.put, List.getElem_toArray, List.getElem_cons_zero, List.getElem_cons_succ, List.setIfInBounds_toArray, List.set_cons_zero, List.set_cons_succ]
          refine wpAnyH_take (i := 6) (v := ?_) rfl (by kernel_rfl) (by kernel_rfl) (by kernel_rfl) (fun _ _ _ h => h) (Or.inl ⟨by rfl, ?_⟩) (by assumption) ?_
          rotate_left
          · simp only [List.getElem_toArray, List.getElem_cons_zero, List.getElem_cons_succ]; intro W hSw; (try dsimp only at hSw); go_simp; all_goals with_reducible rfl
          simp only [Act.put, List.getElem_toArray, List.getElem_cons_zero, List.getElem_cons_succ, List.setIfInBounds_toArray, List.set_cons_zero, List.set_cons_succ]
          refine wpAnyH_take (i := 7) (v := ?_) rfl (by kernel_rfl) (by kernel_rfl) (by kernel_rfl) (fun _ _ _ h => h) (Or.inl ⟨by rfl, ?_⟩) (by assumption) ?_
          rotate_left
          · simp only [List.getElem_toArray, List.getElem_cons_zero, List.getElem_cons_succ]; intro W hSw; (try dsimp only at hSw); refine exec_load_part 68 (.tmp 22) ?_ b2 (off2 + k * 9) ?_ (wrv y) _ (HC.out W hSw).2 Try.underlying68 ?_ HI2.out <;> rfl
          simp only [Act.put, List.getElem_toArray, List.getElem_cons_zero, List.getElem_cons_succ, List.setIfInBounds_toArray, List.set_cons_zero, List.set_cons_succ]
          refine wpAnyH_take (i := 8) (v := ?_) rfl (by kernel_rfl) (by kernel_rfl) (by kernel_rfl) (fun _ _ _ h => h) (Or.inl ⟨by rfl, ?_⟩) (by assumption) ?_
          rotate_left
          · simp only [List.getElem_toArray, List.getElem_cons_zero, List.getElem_cons_succ]; intro W hSw; (try dsimp only at hSw); go_simp; all_goals with_reducible rfl
          simp only [Act.put, List.getElem_toArray, List.getElem_cons_zero, List.getElem_cons_succ, List.setIfInBounds_toArray, List.set_cons_zero, List.set_cons_succ]
          refine wpAnyH_done (by kernel_rfl) ?_ _
          go_wp2_with fail
          go_roundw
          case rel => exact ⟨k + 1, by omega, by simp, HY.out, HBr.out.drew⟩
          case measure => simp [intOf]; omega
        · have hd : decide (x = y) = false := decide_eq_false hxy
          have HF := Lib.hid (HNo.out hxy)
          rw [hd] at hne
          clear hxy hd
          go_wp2_with fail
          refine wp_region_held_drew (S := fun W => Below w.heap.size w W) (by kernel_rfl) HBr.out.drew (fun hHeld => ?_)
          refine wpAnyH_take (i := 0) (v := ?_) rfl (by kernel_rfl) (by kernel_rfl) (by kernel_rfl) (fun _ _ _ h => h) (Or.inl ⟨by rfl, ?_⟩) (by assumption) ?_
          rotate_left
          · simp only [List.getElem_toArray, List.getElem_cons_zero, List.getElem_cons_succ]; intro W hSw; (try dsimp only at hSw); go_simp; all_goals with_reducible rfl
          simp only [Act.put, List.getElem_toArray, List.getElem_cons_zero, List.getElem_cons_succ, List.setIfInBounds_toArray, List.set_cons_zero, List.set_cons_succ]
          refine wpAnyH_take (i := 1) (v := ?_) rfl (by kernel_rfl) (by kernel_rfl) (by kernel_rfl) (fun _ _ _ h => h) (Or.inl ⟨by rfl, ?_⟩) (by assumption) ?_
          rotate_left
          · simp only [List.getElem_toArray, List.getElem_cons_zero, List.getElem_cons_succ]; intro W hSw; (try dsimp only at hSw); go_simp; all_goals with_reducible rfl
          simp only [Act.put, List.getElem_toArray, List.getElem_cons_zero, List.getElem_cons_succ, List.setIfInBounds_toArray, List.set_cons_zero, List.set_cons_succ]
          refine wpAnyH_take (i := 2) (v := ?_) rfl (by kernel_rfl) (by kernel_rfl) (by kernel_rfl) (fun _ _ _ h => h) (Or.inl ⟨by rfl, ?_⟩) (by assumption) ?_
          rotate_left
          · simp only [List.getElem_toArray, List.getElem_cons_zero, List.getElem_cons_succ]; intro W hSw; (try dsimp only at hSw); go_simp; all_goals with_reducible rfl
          simp only [Act.put, List.getElem_toArray, List.getElem_cons_zero, List.getElem_cons_succ, List.setIfInBounds_toArray, List.set_cons_zero, List.set_cons_succ]
          refine wpAnyH_take (i := 3) (v := ?_) rfl (by kernel_rfl) (by kernel_rfl) (by kernel_rfl) (fun _ _ _ h => h) (Or.inl ⟨by rfl, ?_⟩) (by assumption) ?_
          rotate_left
          · simp only [List.getElem_toArray, List.getElem_cons_zero, List.getElem_cons_succ]; intro W hSw; (try dsimp only at hSw); refine exec_load_part 68 (.tmp 18) ?_ b (off + k * 9) ?_ (wrv x) _ (HC.out W hSw).1 Try.underlying68 ?_ HI1.out <;> rfl
          simp only [Act.put, List.getElem_toArray, List.getElem_cons_zero, List.getElem_cons_succ, List.setIfInBounds_toArray, List.set_cons_zero, List.set_cons_succ]
          refine wpAnyH_take (i := 4) (v := ?_) rfl (by kernel_rfl) (by kernel_rfl) (by kernel_rfl) (fun _ _ _ h => h) (Or.inl ⟨by rfl, ?_⟩) (by assumption) ?_
          rotate_left
          · simp only [List.getElem_toArray, List.getElem_cons_zero, List.getElem_cons_succ]; intro W hSw; (try dsimp only at hSw); go_simp; all_goals with_reducible rfl
          simp only [Act.put, List.getElem_toArray, List.getElem_cons_zero, List.getElem_cons_succ, List.setIfInBounds_toArray, List.set_cons_zero, List.set_cons_succ]
          refine wpAnyH_take (i := 5) (v := ?_) rfl (by kernel_rfl) (by kernel_rfl) (by kernel_rfl) (fun _ _ _ h => h) (Or.inl ⟨by rfl, ?_⟩) (by assumption) ?_
          rotate_left
          · simp only [List.getElem_toArray, List.getElem_cons_zero, List.getElem_cons_succ]; intro W hSw; (try dsimp only at hSw); go_simp; all_goals with_reducible rfl
          simp only [Act.put, List.getElem_toArray, List.getElem_cons_zero, List.getElem_cons_succ, List.setIfInBounds_toArray, List.set_cons_zero, List.set_cons_succ]
          refine wpAnyH_take (i := 6) (v := ?_) rfl (by kernel_rfl) (by kernel_rfl) (by kernel_rfl) (fun _ _ _ h => h) (Or.inl ⟨by rfl, ?_⟩) (by assumption) ?_
          rotate_left
          · simp only [List.getElem_toArray, List.getElem_cons_zero, List.getElem_cons_succ]; intro W hSw; (try dsimp only at hSw); go_simp; all_goals with_reducible rfl
          simp only [Act.put, List.getElem_toArray, List.getElem_cons_zero, List.getElem_cons_succ, List.setIfInBounds_toArray, List.set_cons_zero, List.set_cons_succ]
          refine wpAnyH_take (i := 7) (v := ?_) rfl (by kernel_rfl) (by kernel_rfl) (by kernel_rfl) (fun _ _ _ h => h) (Or.inl ⟨by rfl, ?_⟩) (by assumption) ?_
          rotate_left
          · simp only [List.getElem_toArray, List.getElem_cons_zero, List.getElem_cons_succ]; intro W hSw; (try dsimp only at hSw); refine exec_load_part 68 (.tmp 22) ?_ b2 (off2 + k * 9) ?_ (wrv y) _ (HC.out W hSw).2 Try.underlying68 ?_ HI2.out <;> rfl
          simp only [Act.put, List.getElem_toArray, List.getElem_cons_zero, List.getElem_cons_succ, List.setIfInBounds_toArray, List.set_cons_zero, List.set_cons_succ]
          refine wpAnyH_take (i := 8) (v := ?_) rfl (by kernel_rfl) (by kernel_rfl) (by kernel_rfl) (fun _ _ _ h => h) (Or.inl ⟨by rfl, ?_⟩) (by assumption) ?_
          rotate_left
          · simp only [List.getElem_toArray, List.getElem_cons_zero, List.getElem_cons_succ]; intro W hSw; (try dsimp only at hSw); go_simp; all_goals with_reducible rfl
          simp only [Act.put, List.getElem_toArray, List.getElem_cons_zero, List.getElem_cons_succ, List.setIfInBounds_toArray, List.set_cons_zero, List.set_cons_succ]
          refine wpAnyH_done (by kernel_rfl) ?_ _
          go_wp2_with fail
          go_ret
          exact ⟨by rw [HF.out]; rfl, HBr.out.drew⟩
      · obtain rfl : k = n := by omega
        have HYes := Lib.hid (show E = true by
          rw [HE.out]
          have h1 := hEk
          rw [List.take_of_length_le (Nat.le_of_eq HN.out.1.symm), List.take_of_length_le (Nat.le_of_eq HN.out.2.symm)] at h1
          exact decide_eq_true h1)
        clear hEk hb
        have hki : ¬ (k : Int) < (k : Int) := by omega
        go_wp2
        go_ret
        exact ⟨by rw [HYes.out]; rfl, HBr.out⟩
  · have HE := Lib.hid (show E = false by
      rw [hE]
      refine decide_eq_false fun e => h0 ?_
      subst e
      rw [hn, hn2])
    have hq : ((n : Int) != (n2 : Int)) = true := by rw [bne_iff_ne]; omega
    clear hE hn hn2 h0
    go_enter Try.func37, Try.ntmps37
    go_wp2
    go_ret
    exact ⟨by rw [HE.out]; rfl, Below.refl _ _⟩
end Go.Proofs.Ytaokhbodmodcgaa
end
