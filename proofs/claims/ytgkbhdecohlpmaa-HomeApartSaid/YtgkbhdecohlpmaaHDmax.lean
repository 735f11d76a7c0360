/-
  The developers' answers: the superblock of the greatest generation (slices.MaxFunc).
-/
import Derived.Test.YtgkbhdecohlpmaaHDstand
namespace Go.Proofs.Ytgkbhdecohlpmaa
set_option maxRecDepth 100000
open Go.RowKit
set_option maxRecDepth 100000

/-- superblocks in memory -/
def SupsAt (W : World) (b off : Nat) (l : List Sup) : Prop := ∀ k, k < l.length → ∀ j u, ((l.getD k zeroS).cells.toList)[j]? = some u → W.cell? ⟨b, off + k * 13 + j, none⟩ = some u
theorem SupsAt.below {W W' : World} {B b off : Nat} {l : List Sup} (h : SupsAt W b off l) (hB : Below B W W') (hb : b < B) : SupsAt W' b off l := fun k hk j u hu => (hB.cell (p := ⟨b, off + k * 13 + j, none⟩) hb).trans (h k hk j u hu)
theorem supL_get : ∀ {l : List Sup}, (∀ s ∈ l, s.Fine) → ∀ k, k < l.length → ∀ j u, ((l.getD k zeroS).cells.toList)[j]? = some u → (supL l)[k * 13 + j]? = some u := by
  intro l
  induction l with
  | nil => intro _ k h; exact absurd h (by simp)
  | cons s l ih =>
    intro hf k hk j u hu
    have h1 : s.cells.toList.length = 13 := by rw [Array.length_toList]; exact cells_len (hf s List.mem_cons_self)
    show (s.cells.toList ++ supL l)[k * 13 + j]? = some u
    cases k with
    | zero =>
      rw [List.getD_cons_zero] at hu
      have hj := (List.getElem?_eq_some_iff.1 hu).1
      rw [List.getElem?_append_left (by omega)]
      rw [← hu]; congr 1; omega
    | succ k =>
      rw [List.getD_cons_succ] at hu
      rw [List.getElem?_append_right (by omega), h1, show (k + 1) * 13 + j - 13 = k * 13 + j by omega]
      exact ih (fun x hx => hf x (List.mem_cons_of_mem _ hx)) k (by rw [List.length_cons] at hk; omega) j u hu
theorem sups_at {W : World} {base : Nat} {l : List Sup} {v : Value} (h : OwnS W base l v) (hf : ∀ s ∈ l, s.Fine) (h0 : 0 < l.length) : ∃ b off c, v = .slice (some ⟨b, off, none⟩) l.length c ∧ b < W.heap.size ∧ l.length ≤ c ∧ c ≤ maxLen ∧ SupsAt W b off l := by
  obtain ⟨h1, h2⟩ := h
  rcases h2 with ⟨_, hz⟩ | ⟨b, cap, cur, rfl, hg, hh, hcap, hmax, hsz, htk⟩
  · omega
  · refine ⟨b, 0, cap, rfl, (Array.getElem?_eq_some_iff.1 hh).1, hcap, hmax, fun k hk j u hu => ?_⟩
    have h3 := supL_get hf k hk j u hu
    rw [Nat.zero_add, cell_of_row W b _ _ _ _ hh, ← h3, ← htk, List.getElem?_take]
    have hl := (List.getElem?_eq_some_iff.1 h3).1
    rw [supL_len hf] at hl
    rw [if_pos hl]
    simp
/-- the first of the greatest generation among the first k, and the first -/
def bestK (l : List Sup) : Nat → Sup
  | 0 => l.getD 0 zeroS
  | k + 1 => if (bestK l k).gen < (l.getD k zeroS).gen then l.getD k zeroS else bestK l k
theorem getD_fine {l : List Sup} (hf : ∀ s ∈ l, s.Fine) {k : Nat} (h : k < l.length) : (l.getD k zeroS).Fine := by
  rw [List.getD_eq_getElem?_getD, List.getElem?_eq_getElem h]
  exact hf _ (List.getElem_mem h)
theorem bestK_fine {l : List Sup} (hf : ∀ s ∈ l, s.Fine) (h0 : 0 < l.length) : ∀ {k : Nat}, k ≤ l.length → (bestK l k).Fine := by
  intro k
  induction k with
  | zero => intro _; exact getD_fine hf h0
  | succ k ih =>
    intro h
    unfold bestK
    split
    · exact getD_fine hf (by omega)
    · exact ih (by omega)
theorem bestK_one (l : List Sup) : bestK l 1 = l.getD 0 zeroS := by
  unfold bestK
  split
  · rfl
  · rfl
set_option maxHeartbeats 4000000 in
theorem max_dev (l : List Sup) (hf : ∀ s ∈ l, s.Fine) (h0 : 0 < l.length) (hn : l.length ≤ 2) (b off c : Nat) (w : World) (hat : SupsAt w b off l) (hbl : b < w.heap.size) :
    Calls Try.prog 38 #[.slice (some ⟨b, off, none⟩) l.length c, .func (.func 36) #[] #[]] w fun e w' => e = .returned (.agg (bestK l l.length).cells) ∧ Below w.heap.size w w' := by
  obtain ⟨n, hnl⟩ : ∃ n, n = l.length := ⟨_, rfl⟩
  rw [← hnl] at h0 hn ⊢
  have HN := Lib.hid hnl
  obtain ⟨Z, hZ⟩ : ∃ Z, Z = zeroS.cells := ⟨_, rfl⟩
  have HZ := Lib.hid (show (Try.prog.info? 25).map (·.zero) = some (some (.agg Z)) by rw [hZ, zero_cells]; kernel_rfl)
  have HZl := Lib.hid (show Z.size = 13 by rw [hZ]; rfl)
  obtain ⟨w1, hw1⟩ : ∃ w1, w1 = w.alloc (.cells Z 25) := ⟨_, rfl⟩
  have hs1 : w1.heap.size = w.heap.size + 1 := by rw [hw1]; simp
  have hb1 : Below w.heap.size w w1 := by rw [hw1]; exact (Below.refl _ w).alloc (Nat.le_refl _) _
  have h41 : w1.heap[w.heap.size]? = some (.cells Z 25 (0, 0)) := by rw [hw1]; exact heap_alloc_new w _
  have hz2 := heap_alloc_new w1 (.cells Z 25)
  have hfx := getD_fine hf (k := 0) (by omega)
  have hb1x := bestK_one l
  obtain ⟨x0, hx0⟩ : ∃ x, x = l.getD 0 zeroS := ⟨_, rfl⟩
  rw [← hx0] at hfx hb1x
  obtain ⟨xs0, hxs0⟩ : ∃ xs, xs = x0.cells.toList := ⟨_, rfl⟩
  have hxl : xs0.length = 13 := by rw [hxs0, Array.length_toList]; exact cells_len hfx
  have hxa : xs0.toArray = x0.cells := by rw [hxs0]
  have HCx0 := Lib.hid (show ∀ j u, xs0[j]? = some u → w1.cell? ⟨b, off + 0 * 13 + j, none⟩ = some u from by rw [hxs0, hx0]; exact (hat.below hb1 hbl) 0 (by omega))
  rw [show off + 0 * 13 = off by omega] at HCx0
  have HI0 := Lib.hid (show (Try.prog.info? 25).map (·.size) = some xs0.length by rw [super_info, hxl])
  have HI0a := Lib.hid (show (Try.prog.info? 25).map (·.size) = some xs0.toArray.size by rw [super_info, hxa, cells_len hfx])
  have HO0 := Lib.hid (show xs0.toArray.all (·.oneCell') = true by rw [hxa]; exact cells_all)
  have HS0 := Lib.hid (show Z.size = xs0.toArray.size by rw [HZl.out, hxa, cells_len hfx])
  obtain ⟨w2, hw2⟩ : ∃ x, x = (w1.alloc (.cells Z 25)).setRow w1.heap.size xs0.toArray := ⟨_, rfl⟩
  have hb12 : Below w1.heap.size w1 w2 := by rw [hw2]; exact below_setRow ((Below.refl _ _).alloc (Nat.le_refl _) _) (Nat.le_refl _) _
  have hs2 : w2.heap.size = w1.heap.size + 1 := by rw [hw2]; simp [World.setRow]
  have H5_ := Lib.hid (show w2.heap[w1.heap.size]? = some (.cells (bestK l 1).cells 25 (0, 0)) by rw [hb1x, ← hxa, hw2]; exact setRow_heap _ _ _ _ _ _ hz2)
  have H4_ := Lib.hid (show w2.heap[w.heap.size]? = some (.cells Z 25 (0, 0)) from (hb12.block _ (by omega)).trans h41)
  have HAt_ := Lib.hid ((hat.below hb1 hbl).below hb12 (by omega))
  have HB_ := Lib.hid (hb1.trans (hb12.mono hb1.size))
  have HL_ := Lib.hid (show b < w2.heap.size by omega)
  have HW1 := Lib.hid hw1
  have HW2 := Lib.hid hw2
  have HZ2 := Lib.hid hz2
  have HF := Lib.hid hf
  have HG := Lib.hid (show w.heap.size < w1.heap.size by omega)
  have HBg := Lib.hid (show b < w1.heap.size by omega)
  generalize hg5 : w1.heap.size = g5 at *
  have HG5 := Lib.hid hg5
  have hn1 : ¬ (n : Int) < 1 := by omega
  have hn0 : 0 < n := by omega
  clear hnl hZ hw1 hs1 hb1 h41 hz2 hfx hb1x hx0 hxs0 hxl hxa hw2 hb12 hs2 hat hbl hf hg5
  go_enter Try.func38, Try.ntmps38
  go_wp2_with (first
    | (refine wpList_alloc_any rfl 25 rfl Z HZ.out ?_; (first | (rw [← HW1.out]) | (rw [HG5.out])))
    | (refine wpList_load_part rfl 25 (.tmp 12) rfl b off rfl xs0 _ HCx0.out Try.underlying25 rfl HI0.out ?_)
    | (refine wpList_store_row rfl 25 _ _ rfl g5 xs0.toArray rfl rfl 25 Z HZ2.out HI0a.out HS0.out HO0.out ?_; rw [← HW2.out]))
  go_loopw [6] (fun i wr => ∃ k : Nat, 1 ≤ k ∧ k ≤ n ∧ i = .int .i64 (k : Int) ∧ wr.heap[w.heap.size]? = some (.cells Z 25 (0, 0)) ∧ wr.heap[g5]? = some (.cells (bestK l k).cells 25 (0, 0)) ∧ SupsAt wr b off l ∧ b < wr.heap.size ∧ Below w.heap.size w wr) (fun i _ => n - (intOf i).toNat)
  case atStart => exact ⟨1, by omega, by omega, rfl, H4_.out, H5_.out, HAt_.out, HL_.out, HB_.out⟩
  case round =>
    clear H4_ H5_ HAt_ HL_ HB_
    obtain ⟨k, hk1, hk, rfl, h4, h5, hat, hlb, hb⟩ := hrel
    have HBr := Lib.hid hb
    have H4 := Lib.hid h4
    by_cases hlt : k < n
    · have hkl : k < l.length := by rw [← HN.out]; exact hlt
      have hyf := getD_fine HF.out hkl
      have hxf := bestK_fine HF.out (show 0 < l.length by omega) (k := k) (by omega)
      have HYes := Lib.hid (show (bestK l k).gen < (l.getD k zeroS).gen → bestK l (k + 1) = l.getD k zeroS from fun h => if_pos h)
      have HNo := Lib.hid (show ¬ (bestK l k).gen < (l.getD k zeroS).gen → bestK l (k + 1) = bestK l k from fun h => if_neg h)
      have hcx : ∀ W, SupsAt W b off l → ∀ j u, ((l.getD k zeroS).cells.toList)[j]? = some u → W.cell? ⟨b, off + k * 13 + j, none⟩ = some u := fun W h => h k hkl
      generalize l.getD k zeroS = y at *
      generalize bestK l k = x at *
      obtain ⟨xs, hxs⟩ : ∃ xs, xs = y.cells.toList := ⟨_, rfl⟩
      obtain ⟨bs, hbs⟩ : ∃ xs, xs = x.cells.toList := ⟨_, rfl⟩
      have hxa : y.cells = xs.toArray := by rw [hxs]
      have hba : x.cells = bs.toArray := by rw [hbs]
      have HCx := Lib.hid (show ∀ W, SupsAt W b off l → ∀ j u, xs[j]? = some u → W.cell? ⟨b, off + k * 13 + j, none⟩ = some u by rw [hxs]; exact hcx)
      have HIx := Lib.hid (show (Try.prog.info? 25).map (·.size) = some xs.length by rw [super_info, hxs, Array.length_toList, cells_len hyf])
      have HIb := Lib.hid (show (Try.prog.info? 25).map (·.size) = some bs.length by rw [super_info, hbs, Array.length_toList, cells_len hxf])
      have HIxa := Lib.hid (show (Try.prog.info? 25).map (·.size) = some xs.toArray.size by rw [super_info, ← hxa, cells_len hyf])
      have HSxb := Lib.hid (show bs.toArray.size = xs.toArray.size by rw [← hxa, ← hba, cells_len hyf, cells_len hxf])
      have HOx := Lib.hid (show xs.toArray.all (·.oneCell') = true by rw [← hxa]; exact cells_all)
      have HXa := Lib.hid hxa
      have HBa := Lib.hid hba
      rw [hba] at h5
      have H5 := Lib.hid h5
      have HAt := Lib.hid hat
      have HLb := Lib.hid hlb
      have HL5 := Lib.hid (Array.getElem?_eq_some_iff.1 h5).1
      have HL4 := Lib.hid (Array.getElem?_eq_some_iff.1 h4).1
      have HCm := Lib.hid (fun W => byGen_dev y x W hyf hxf)
      rw [hxa, hba] at HCm
      unfold cmpH at HCm
      have hki : (k : Int) < (n : Int) := by omega
      have hw : IntKind.i64.wrap ((k : Int) + 1) = (k : Int) + 1 := by rw [IntKind.wrap_i64]; omega
      have hk0 : 0 ≤ (k : Int) := by omega
      clear hyf hxf hcx hxs hbs hxa hba h4 h5 hat hlb hb hkl
      by_cases hg1 : y.gen < x.gen
      · have HE := Lib.hid (HNo.out (by omega))
        rw [if_pos hg1] at HCm
        clear hg1
        obtain ⟨w5, hw5⟩ : ∃ x, x = wr.drew := ⟨_, rfl⟩
        have hb5 : Below wr.heap.size wr w5 := by rw [hw5]; exact (Below.refl _ wr).drew
        have HW5 := Lib.hid hw5
        have HS5 := Lib.hid (show SupsAt w5 b off l ∧ w5.heap[g5]? = some (.cells bs.toArray 25 (0, 0)) from ⟨HAt.out.below hb5 HLb.out, (hb5.block _ HL5.out).trans H5.out⟩)
        have HB5 := Lib.hid hb5
        clear hw5 hb5
        go_wp2
        refine wp_region_held_drew (S := fun W => SupsAt W b off l ∧ W.heap[g5]? = some (.cells bs.toArray 25 (0, 0))) (by kernel_rfl) (by rw [← HW5.out]; exact HS5.out) (fun hHeld => ?_)
        rw [← HW5.out]
        refine wpAnyH_take (i := 0) (v := ?_) rfl (by kernel_rfl) (by kernel_rfl) (by kernel_rfl) (fun _ _ _ h => h) (Or.inl ⟨by rfl, ?_⟩) (by assumption) ?_
        rotate_left
        · simp only [List.getElem_toArray, List.getElem_cons_zero, List.getElem_cons_succ]; intro W hSw; (try dsimp only at hSw); go_simp; all_goals with_reducible rfl
        simp only [Act.put, List.getElem_toArray, List.getElem_cons_zero, List.getElem_cons_succ, List.setIfInBounds_toArray, List.set_cons_zero, List.set_cons_succ]
        refine wpAnyH_take (i := 1) (v := ?_) rfl (by kernel_rfl) (by kernel_rfl) (by kernel_rfl) (fun _ _ _ h => h) (Or.inl ⟨by rfl, ?_⟩) (by assumption) ?_
        rotate_left
        · simp only [List.getElem_toArray, List.getElem_cons_zero, List.getElem_cons_succ]; intro W hSw; (try dsimp only at hSw); go_simp; all_goals with_reducible rfl
        simp only [Act.put, List.getElem_toArray, List.getElem_cons_zero, List.getElem_cons_succ, List.setIfInBounds_toArray, List.set_cons_zero, List.set_cons_succ]
        refine wpAnyH_take (i := 2) (v := ?_) rfl (by kernel_rfl) (by kernel_rfl) (by kernel_rfl) (fun _ _ _ h => h) (Or.inl ⟨by rfl, ?_⟩) (by assumption) ?_
        rotate_left
        · simp only [List.getElem_toArray, List.getElem_cons_zero, List.getElem_cons_succ]; intro W hSw; (try dsimp only at hSw); go_simp; all_goals with_reducible rfl
        simp only [Act.put, List.getElem_toArray, List.getElem_cons_zero, List.getElem_cons_succ, List.setIfInBounds_toArray, List.set_cons_zero, List.set_cons_succ]
        refine wpAnyH_take (i := 3) (v := ?_) rfl (by kernel_rfl) (by kernel_rfl) (by kernel_rfl) (fun _ _ _ h => h) (Or.inl ⟨by rfl, ?_⟩) (by assumption) ?_
        rotate_left
        · simp only [List.getElem_toArray, List.getElem_cons_zero, List.getElem_cons_succ]; intro W hSw; (try dsimp only at hSw); go_simp; all_goals with_reducible rfl
        simp only [Act.put, List.getElem_toArray, List.getElem_cons_zero, List.getElem_cons_succ, List.setIfInBounds_toArray, List.set_cons_zero, List.set_cons_succ]
        refine wpAnyH_take (i := 4) (v := ?_) rfl (by kernel_rfl) (by kernel_rfl) (by kernel_rfl) (fun _ _ _ h => h) (Or.inl ⟨by rfl, ?_⟩) (by assumption) ?_
        rotate_left
        · simp only [List.getElem_toArray, List.getElem_cons_zero, List.getElem_cons_succ]; intro W hSw; (try dsimp only at hSw); refine exec_load_part 25 (.tmp 23) ?_ b (off + k * 13) ?_ xs _ (HCx.out W hSw.1) Try.underlying25 rfl HIx.out <;> rfl
        simp only [Act.put, List.getElem_toArray, List.getElem_cons_zero, List.getElem_cons_succ, List.setIfInBounds_toArray, List.set_cons_zero, List.set_cons_succ]
        refine wpAnyH_take (i := 5) (v := ?_) rfl (by kernel_rfl) (by kernel_rfl) (by kernel_rfl) (fun _ _ _ h => h) (Or.inl ⟨by rfl, ?_⟩) (by assumption) ?_
        rotate_left
        · simp only [List.getElem_toArray, List.getElem_cons_zero, List.getElem_cons_succ]; intro W hSw; (try dsimp only at hSw); refine exec_load_part 25 (.tmp 5) ?_ g5 0 ?_ bs _ (fun j u hu => by rw [Nat.zero_add, cell_of_row _ _ _ _ _ _ hSw.2]; simpa using hu) Try.underlying25 rfl HIb.out <;> rfl
        simp only [Act.put, List.getElem_toArray, List.getElem_cons_zero, List.getElem_cons_succ, List.setIfInBounds_toArray, List.set_cons_zero, List.set_cons_succ]
        refine wpAnyH_ready (rs := [6]) (by kernel_rfl) (by simp) ?_
        refine AllReadyH.cons rfl (fun K hK => ?_) AllReadyH.nil
        simp only [List.getElem_toArray, List.getElem_cons_zero, List.getElem_cons_succ]
        go_simp
        refine (HCm.out _).mono ?_
        rintro e w6 ⟨rfl, hb6⟩
        have HB6 := Lib.hid (HB5.out.trans (hb6.mono HB5.out.size))
        clear hb6
        go_wp2_with fail
        refine hK.out _ _ (⟨HAt.out.below HB6.out HLb.out, (HB6.out.block _ HL5.out).trans H5.out⟩) (fun hHeldN => ?_)
        clear hK K hHeld
        have hHeld := hHeldN
        clear hHeldN
        (try simp only [Act.put, List.getElem_toArray, List.getElem_cons_zero, List.getElem_cons_succ, List.setIfInBounds_toArray, List.set_cons_zero, List.set_cons_succ])
        refine wpAnyH_take (i := 7) (v := ?_) rfl (by kernel_rfl) (by kernel_rfl) (by kernel_rfl) (fun _ _ _ h => h) (Or.inl ⟨by rfl, ?_⟩) (by assumption) ?_
        rotate_left
        · simp only [List.getElem_toArray, List.getElem_cons_zero, List.getElem_cons_succ]; intro W hSw; (try dsimp only at hSw); go_simp; all_goals with_reducible rfl
        simp only [Act.put, List.getElem_toArray, List.getElem_cons_zero, List.getElem_cons_succ, List.setIfInBounds_toArray, List.set_cons_zero, List.set_cons_succ]
        refine wpAnyH_done (by kernel_rfl) ?_ _
        have HBn := Lib.hid (HBr.out.trans (HB6.out.mono HBr.out.size))
        have HA6 := Lib.hid (HAt.out.below HB6.out HLb.out)
        have HR6 := Lib.hid ((HB6.out.block _ HL5.out).trans H5.out)
        have HQ6 := Lib.hid ((HB6.out.block _ HL4.out).trans H4.out)
        have HL6 := Lib.hid (Nat.lt_of_lt_of_le HLb.out HB6.out.size)
        go_wp2
        go_roundw
        case rel => exact ⟨k + 1, by omega, by omega, by simp, HQ6.out, by rw [HE.out, HBa.out]; exact HR6.out, HA6.out, HL6.out, HBn.out⟩
        case measure => simp [intOf]; omega
      · by_cases hg2 : x.gen < y.gen
        · have HE := Lib.hid (HYes.out hg2)
          rw [if_neg hg1, if_pos hg2] at HCm
          clear hg1 hg2
          obtain ⟨w5, hw5⟩ : ∃ x, x = wr.drew := ⟨_, rfl⟩
          have hb5 : Below wr.heap.size wr w5 := by rw [hw5]; exact (Below.refl _ wr).drew
          have HW5 := Lib.hid hw5
          have HS5 := Lib.hid (show SupsAt w5 b off l ∧ w5.heap[g5]? = some (.cells bs.toArray 25 (0, 0)) from ⟨HAt.out.below hb5 HLb.out, (hb5.block _ HL5.out).trans H5.out⟩)
          have HB5 := Lib.hid hb5
          clear hw5 hb5
          go_wp2
          refine wp_region_held_drew (S := fun W => SupsAt W b off l ∧ W.heap[g5]? = some (.cells bs.toArray 25 (0, 0))) (by kernel_rfl) (by rw [← HW5.out]; exact HS5.out) (fun hHeld => ?_)
          rw [← HW5.out]
          refine wpAnyH_take (i := 0) (v := ?_) rfl (by kernel_rfl) (by kernel_rfl) (by kernel_rfl) (fun _ _ _ h => h) (Or.inl ⟨by rfl, ?_⟩) (by assumption) ?_
          rotate_left
          · simp only [List.getElem_toArray, List.getElem_cons_zero, List.getElem_cons_succ]; intro W hSw; (try dsimp only at hSw); go_simp; all_goals with_reducible rfl
          simp only [Act.put, List.getElem_toArray, List.getElem_cons_zero, List.getElem_cons_succ, List.setIfInBounds_toArray, List.set_cons_zero, List.set_cons_succ]
          refine wpAnyH_take (i := 1) (v := ?_) rfl (by kernel_rfl) (by kernel_rfl) (by kernel_rfl) (fun _ _ _ h => h) (Or.inl ⟨by rfl, ?_⟩) (by assumption) ?_
          rotate_left
          · simp only [List.getElem_toArray, List.getElem_cons_zero, List.getElem_cons_succ]; intro W hSw; (try dsimp only at hSw); go_simp; all_goals with_reducible rfl
          simp only [Act.put, List.getElem_toArray, List.getElem_cons_zero, List.getElem_cons_succ, List.setIfInBounds_toArray, List.set_cons_zero, List.set_cons_succ]
          refine wpAnyH_take (i := 2) (v := ?_) rfl (by kernel_rfl) (by kernel_rfl) (by kernel_rfl) (fun _ _ _ h => h) (Or.inl ⟨by rfl, ?_⟩) (by assumption) ?_
          rotate_left
          · simp only [List.getElem_toArray, List.getElem_cons_zero, List.getElem_cons_succ]; intro W hSw; (try dsimp only at hSw); go_simp; all_goals with_reducible rfl
          simp only [Act.put, List.getElem_toArray, List.getElem_cons_zero, List.getElem_cons_succ, List.setIfInBounds_toArray, List.set_cons_zero, List.set_cons_succ]
          refine wpAnyH_take (i := 3) (v := ?_) rfl (by kernel_rfl) (by kernel_rfl) (by kernel_rfl) (fun _ _ _ h => h) (Or.inl ⟨by rfl, ?_⟩) (by assumption) ?_
          rotate_left
          · simp only [List.getElem_toArray, List.getElem_cons_zero, List.getElem_cons_succ]; intro W hSw; (try dsimp only at hSw); go_simp; all_goals with_reducible rfl
          simp only [Act.put, List.getElem_toArray, List.getElem_cons_zero, List.getElem_cons_succ, List.setIfInBounds_toArray, List.set_cons_zero, List.set_cons_succ]
          refine wpAnyH_take (i := 4) (v := ?_) rfl (by kernel_rfl) (by kernel_rfl) (by kernel_rfl) (fun _ _ _ h => h) (Or.inl ⟨by rfl, ?_⟩) (by assumption) ?_
          rotate_left
          · simp only [List.getElem_toArray, List.getElem_cons_zero, List.getElem_cons_succ]; intro W hSw; (try dsimp only at hSw); refine exec_load_part 25 (.tmp 23) ?_ b (off + k * 13) ?_ xs _ (HCx.out W hSw.1) Try.underlying25 rfl HIx.out <;> rfl
          simp only [Act.put, List.getElem_toArray, List.getElem_cons_zero, List.getElem_cons_succ, List.setIfInBounds_toArray, List.set_cons_zero, List.set_cons_succ]
          refine wpAnyH_take (i := 5) (v := ?_) rfl (by kernel_rfl) (by kernel_rfl) (by kernel_rfl) (fun _ _ _ h => h) (Or.inl ⟨by rfl, ?_⟩) (by assumption) ?_
          rotate_left
          · simp only [List.getElem_toArray, List.getElem_cons_zero, List.getElem_cons_succ]; intro W hSw; (try dsimp only at hSw); refine exec_load_part 25 (.tmp 5) ?_ g5 0 ?_ bs _ (fun j u hu => by rw [Nat.zero_add, cell_of_row _ _ _ _ _ _ hSw.2]; simpa using hu) Try.underlying25 rfl HIb.out <;> rfl
          simp only [Act.put, List.getElem_toArray, List.getElem_cons_zero, List.getElem_cons_succ, List.setIfInBounds_toArray, List.set_cons_zero, List.set_cons_succ]
          refine wpAnyH_ready (rs := [6]) (by kernel_rfl) (by simp) ?_
          refine AllReadyH.cons rfl (fun K hK => ?_) AllReadyH.nil
          simp only [List.getElem_toArray, List.getElem_cons_zero, List.getElem_cons_succ]
          go_simp
          refine (HCm.out _).mono ?_
          rintro e w6 ⟨rfl, hb6⟩
          have HB6 := Lib.hid (HB5.out.trans (hb6.mono HB5.out.size))
          clear hb6
          go_wp2_with fail
          refine hK.out _ _ (⟨HAt.out.below HB6.out HLb.out, (HB6.out.block _ HL5.out).trans H5.out⟩) (fun hHeldN => ?_)
          clear hK K hHeld
          have hHeld := hHeldN
          clear hHeldN
          (try simp only [Act.put, List.getElem_toArray, List.getElem_cons_zero, List.getElem_cons_succ, List.setIfInBounds_toArray, List.set_cons_zero, List.set_cons_succ])
          refine wpAnyH_take (i := 7) (v := ?_) rfl (by kernel_rfl) (by kernel_rfl) (by kernel_rfl) (fun _ _ _ h => h) (Or.inl ⟨by rfl, ?_⟩) (by assumption) ?_
          rotate_left
          · simp only [List.getElem_toArray, List.getElem_cons_zero, List.getElem_cons_succ]; intro W hSw; (try dsimp only at hSw); go_simp; all_goals with_reducible rfl
          simp only [Act.put, List.getElem_toArray, List.getElem_cons_zero, List.getElem_cons_succ, List.setIfInBounds_toArray, List.set_cons_zero, List.set_cons_succ]
          refine wpAnyH_done (by kernel_rfl) ?_ _
          have HBn := Lib.hid (HBr.out.trans (HB6.out.mono HBr.out.size))
          have hr6 := (HB6.out.block _ HL5.out).trans H5.out
          have HR6 := Lib.hid hr6
          have HC6 := Lib.hid (HCx.out _ (HAt.out.below HB6.out HLb.out))
          obtain ⟨w7, hw7⟩ : ∃ w7, w7 = w6.setRow g5 xs.toArray := ⟨_, rfl⟩
          have hg7 : w6.grownBy w7 (some g5) := by rw [hw7]; exact grown_setRow w6 g5 _
          have HR7 := Lib.hid (show w7.heap[g5]? = some (.cells y.cells 25 (0, 0)) by rw [HXa.out, hw7]; exact setRow_heap _ _ _ _ _ _ hr6)
          have HQ7 := Lib.hid (show w7.heap[w.heap.size]? = some (.cells Z 25 (0, 0)) from (hg7.block _ (Nat.lt_of_lt_of_le HL4.out HB6.out.size) (by intro e; have e2 : w.heap.size = g5 := Option.some.inj e; have := HG.out; omega)).trans ((HB6.out.block _ HL4.out).trans H4.out))
          have HB7 := Lib.hid (show Below w.heap.size w w7 by rw [hw7]; exact below_setRow HBn.out (by have := HG.out; omega) _)
          have HA7 := Lib.hid (show SupsAt w7 b off l from fun i hi j u hu => (World.cell?_of_block (w := w6) (hg7.block _ (by show b < _; exact Nat.lt_of_lt_of_le HLb.out HB6.out.size) (by intro e; have e2 : b = g5 := Option.some.inj e; have := HBg.out; omega))).trans ((HAt.out.below HB6.out HLb.out) i hi j u hu))
          have HL7 := Lib.hid (show b < w7.heap.size from Nat.lt_of_lt_of_le (Nat.lt_of_lt_of_le HLb.out HB6.out.size) hg7.size)
          have HW7 := Lib.hid hw7
          clear hr6 hw7 hg7
          go_wp2_with (first
            | (refine wpList_load_part rfl 25 (.tmp 30) rfl b (off + k * 13) rfl xs _ HC6.out Try.underlying25 rfl HIx.out ?_)
            | (refine wpList_store_row rfl 25 _ _ rfl g5 xs.toArray rfl rfl 25 bs.toArray HR6.out HIxa.out HSxb.out HOx.out ?_; rw [← HW7.out]))
          go_roundw
          case rel => exact ⟨k + 1, by omega, by omega, by simp, HQ7.out, by rw [HE.out]; exact HR7.out, HA7.out, HL7.out, HB7.out⟩
          case measure => simp [intOf]; omega
        · have HE := Lib.hid (HNo.out hg2)
          rw [if_neg hg1, if_neg hg2] at HCm
          clear hg1 hg2
          obtain ⟨w5, hw5⟩ : ∃ x, x = wr.drew := ⟨_, rfl⟩
          have hb5 : Below wr.heap.size wr w5 := by rw [hw5]; exact (Below.refl _ wr).drew
          have HW5 := Lib.hid hw5
          have HS5 := Lib.hid (show SupsAt w5 b off l ∧ w5.heap[g5]? = some (.cells bs.toArray 25 (0, 0)) from ⟨HAt.out.below hb5 HLb.out, (hb5.block _ HL5.out).trans H5.out⟩)
          have HB5 := Lib.hid hb5
          clear hw5 hb5
          go_wp2
          refine wp_region_held_drew (S := fun W => SupsAt W b off l ∧ W.heap[g5]? = some (.cells bs.toArray 25 (0, 0))) (by kernel_rfl) (by rw [← HW5.out]; exact HS5.out) (fun hHeld => ?_)
          rw [← HW5.out]
          refine wpAnyH_take (i := 0) (v := ?_) rfl (by kernel_rfl) (by kernel_rfl) (by kernel_rfl) (fun _ _ _ h => h) (Or.inl ⟨by rfl, ?_⟩) (by assumption) ?_
          rotate_left
          · simp only [List.getElem_toArray, List.getElem_cons_zero, List.getElem_cons_succ]; intro W hSw; (try dsimp only at hSw); go_simp; all_goals with_reducible rfl
          simp only [Act.put, List.getElem_toArray, List.getElem_cons_zero, List.getElem_cons_succ, List.setIfInBounds_toArray, List.set_cons_zero, List.set_cons_succ]
          refine wpAnyH_take (i := 1) (v := ?_) rfl (by kernel_rfl) (by kernel_rfl) (by kernel_rfl) (fun _ _ _ h => h) (Or.inl ⟨by rfl, ?_⟩) (by assumption) ?_
          rotate_left
          · simp only [List.getElem_toArray, List.getElem_cons_zero, List.getElem_cons_succ]; intro W hSw; (try dsimp only at hSw); go_simp; all_goals with_reducible rfl
          simp only [Act.put, List.getElem_toArray, List.getElem_cons_zero, List.getElem_cons_succ, List.setIfInBounds_toArray, List.set_cons_zero, List.set_cons_succ]
          refine wpAnyH_take (i := 2) (v := ?_) rfl (by kernel_rfl) (by kernel_rfl) (by kernel_rfl) (fun _ _ _ h => h) (Or.inl ⟨by rfl, ?_⟩) (by assumption) ?_
          rotate_left
          · simp only [List.getElem_toArray, List.getElem_cons_zero, List.getElem_cons_succ]; intro W hSw; (try dsimp only at hSw); go_simp; all_goals with_reducible rfl
          simp only [Act.put, List.getElem_toArray, List.getElem_cons_zero, List.getElem_cons_succ, List.setIfInBounds_toArray, List.set_cons_zero, List.set_cons_succ]
          refine wpAnyH_take (i := 3) (v := ?_) rfl (by kernel_rfl) (by kernel_rfl) (by kernel_rfl) (fun _ _ _ h => h) (Or.inl ⟨by rfl, ?_⟩) (by assumption) ?_
          rotate_left
          · simp only [List.getElem_toArray, List.getElem_cons_zero, List.getElem_cons_succ]; intro W hSw; (try dsimp only at hSw); go_simp; all_goals with_reducible rfl
          simp only [Act.put, List.getElem_toArray, List.getElem_cons_zero, List.getElem_cons_succ, List.setIfInBounds_toArray, List.set_cons_zero, List.set_cons_succ]
          refine wpAnyH_take (i := 4) (v := ?_) rfl (by kernel_rfl) (by kernel_rfl) (by kernel_rfl) (fun _ _ _ h => h) (Or.inl ⟨by rfl, ?_⟩) (by assumption) ?_
          rotate_left
          · simp only [List.getElem_toArray, List.getElem_cons_zero, List.getElem_cons_succ]; intro W hSw; (try dsimp only at hSw); refine exec_load_part 25 (.tmp 23) ?_ b (off + k * 13) ?_ xs _ (HCx.out W hSw.1) Try.underlying25 rfl HIx.out <;> rfl
          simp only [Act.put, List.getElem_toArray, List.getElem_cons_zero, List.getElem_cons_succ, List.setIfInBounds_toArray, List.set_cons_zero, List.set_cons_succ]
          refine wpAnyH_take (i := 5) (v := ?_) rfl (by kernel_rfl) (by kernel_rfl) (by kernel_rfl) (fun _ _ _ h => h) (Or.inl ⟨by rfl, ?_⟩) (by assumption) ?_
          rotate_left
          · simp only [List.getElem_toArray, List.getElem_cons_zero, List.getElem_cons_succ]; intro W hSw; (try dsimp only at hSw); refine exec_load_part 25 (.tmp 5) ?_ g5 0 ?_ bs _ (fun j u hu => by rw [Nat.zero_add, cell_of_row _ _ _ _ _ _ hSw.2]; simpa using hu) Try.underlying25 rfl HIb.out <;> rfl
          simp only [Act.put, List.getElem_toArray, List.getElem_cons_zero, List.getElem_cons_succ, List.setIfInBounds_toArray, List.set_cons_zero, List.set_cons_succ]
          refine wpAnyH_ready (rs := [6]) (by kernel_rfl) (by simp) ?_
          refine AllReadyH.cons rfl (fun K hK => ?_) AllReadyH.nil
          simp only [List.getElem_toArray, List.getElem_cons_zero, List.getElem_cons_succ]
          go_simp
          refine (HCm.out _).mono ?_
          rintro e w6 ⟨rfl, hb6⟩
          have HB6 := Lib.hid (HB5.out.trans (hb6.mono HB5.out.size))
          clear hb6
          go_wp2_with fail
          refine hK.out _ _ (⟨HAt.out.below HB6.out HLb.out, (HB6.out.block _ HL5.out).trans H5.out⟩) (fun hHeldN => ?_)
          clear hK K hHeld
          have hHeld := hHeldN
          clear hHeldN
          (try simp only [Act.put, List.getElem_toArray, List.getElem_cons_zero, List.getElem_cons_succ, List.setIfInBounds_toArray, List.set_cons_zero, List.set_cons_succ])
          refine wpAnyH_take (i := 7) (v := ?_) rfl (by kernel_rfl) (by kernel_rfl) (by kernel_rfl) (fun _ _ _ h => h) (Or.inl ⟨by rfl, ?_⟩) (by assumption) ?_
          rotate_left
          · simp only [List.getElem_toArray, List.getElem_cons_zero, List.getElem_cons_succ]; intro W hSw; (try dsimp only at hSw); go_simp; all_goals with_reducible rfl
          simp only [Act.put, List.getElem_toArray, List.getElem_cons_zero, List.getElem_cons_succ, List.setIfInBounds_toArray, List.set_cons_zero, List.set_cons_succ]
          refine wpAnyH_done (by kernel_rfl) ?_ _
          have HBn := Lib.hid (HBr.out.trans (HB6.out.mono HBr.out.size))
          have HA6 := Lib.hid (HAt.out.below HB6.out HLb.out)
          have HR6 := Lib.hid ((HB6.out.block _ HL5.out).trans H5.out)
          have HQ6 := Lib.hid ((HB6.out.block _ HL4.out).trans H4.out)
          have HL6 := Lib.hid (Nat.lt_of_lt_of_le HLb.out HB6.out.size)
          go_wp2
          go_roundw
          case rel => exact ⟨k + 1, by omega, by omega, by simp, HQ6.out, by rw [HE.out, HBa.out]; exact HR6.out, HA6.out, HL6.out, HBn.out⟩
          case measure => simp [intOf]; omega
    · obtain rfl : k = n := by omega
      have hf1 := bestK_fine HF.out (show 0 < l.length by rw [← HN.out]; omega) (k := k) (by rw [← HN.out]; omega)
      have HE := Lib.hid (show bestK l k = bestK l k from rfl)
      obtain ⟨R, hR⟩ : ∃ R, R = (bestK l k).cells := ⟨_, rfl⟩
      rw [← hR] at h5
      have HR := Lib.hid hR
      have HI := Lib.hid (show (Try.prog.info? 25).map (·.size) = some R.size by rw [super_info, hR, cells_len hf1])
      have HSz := Lib.hid (show Z.size = R.size by rw [HZl.out, hR, cells_len hf1])
      have HOr := Lib.hid (show R.all (·.oneCell') = true by rw [hR]; exact cells_all)
      have H5 := Lib.hid h5
      clear hf1 hR h4 h5 hat hlb hb
      go_wp2_with (first
        | (refine wpList_load_row rfl 25 _ rfl g5 rfl 25 R (0, 0) _ H5.out Try.underlying25 rfl HI.out ?_)
        | (refine wpList_store_row rfl 25 _ _ rfl w.heap.size R rfl rfl 25 Z H4.out HI.out HSz.out HOr.out ?_))
      exact bodyPost_ret (results_cell1H (t := 25) (p := 4) rfl _ _ w.heap.size R (0, 0) _ rfl (setRow_heap _ _ _ _ _ _ H4.out) Try.underlying25 rfl HI.out) rfl ⟨by rw [HR.out], below_setRow HBr.out (Nat.le_refl _) _⟩
end Go.Proofs.Ytgkbhdecohlpmaa
