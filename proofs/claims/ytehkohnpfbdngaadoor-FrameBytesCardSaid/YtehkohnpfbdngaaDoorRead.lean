/-
  Read, by contract.
-/
import Derived.Test.YtehkohnpfbdngaaDoorBytes
import Derived.Test.YtehkohnpfbdngaaDoorParse
import Derived.Test.YtehkohnpfbdngaaDoorArrays
import Derived.Laws.Cover3
namespace Go.Proofs.YtehkohnpfbdngaaDoor
open Go.RowKit

/-- P4.1: whether bytes are just the sector of a frame that may be -/
def readOK (b : List Nat) : Bool := decide (b.length = 64) && (mayB (frameOf b) && decide (Crc.sealed (secB (frameOf b)) = b))
def zF : Fr := ⟨0, 0, 0, 0, 0, []⟩
def readF (b : List Nat) : Fr := if readOK b = true then frameOf b else zF
def readE (b : List Nat) : Int := if readOK b = true then 0 else 40
theorem zF_at (w : World) (B : Nat) : FrV w B (frv none 0 zF) zF := ⟨none, 0, rfl, By.nil_, Nat.le_refl _, by unfold maxLen; omega, fun _ => rfl, ⟨by decide, by decide, by decide, by decide, by decide, by decide⟩⟩
/-- what Read answers -/
def ReadOut (w : World) (bs : List Nat) (e : Ending) (w' : World) : Prop :=
  ∃ A' c', e = .returned (.tuple #[.agg (frv A' c' (readF bs)).toArray, .int .i64 (readE bs)]) ∧ FrV w' w'.heap.size (frv A' c' (readF bs)) (readF bs) ∧ Below w.heap.size w w'
/-- .. and the load in a block of its own -/
def ReadNew (w : World) (bs : List Nat) (e : Ending) (w' : World) : Prop :=
  ∃ A' c', e = .returned (.tuple #[.agg (frv A' c' (readF bs)).toArray, .int .i64 (readE bs)]) ∧ FrV w' w'.heap.size (frv A' c' (readF bs)) (readF bs) ∧ Below w.heap.size w w' ∧ ∀ b, A' = some b → w.heap.size ≤ b.block
theorem ReadNew.out {w w' : World} {bs : List Nat} {e : Ending} (h : ReadNew w bs e w') : ReadOut w bs e w' := by
  obtain ⟨A', c', h1, h2, h3, _⟩ := h
  exact ⟨A', c', h1, h2, h3⟩
theorem ReadNew.no {w w' : World} {bs : List Nat} (h : readOK bs = false) (hb : Below w.heap.size w w') : ReadNew w bs (.returned (.tuple #[.agg #[.int .i64 0, .int .i64 0, .int .i64 0, .int .i64 0, .int .u32 0, .slice none 0 0], .int .i64 40])) w' := by
  unfold ReadNew readF readE
  rw [if_neg (by rw [h]; simp), if_neg (by rw [h]; simp)]
  exact ⟨none, 0, rfl, zF_at _ _, hb, fun _ e => by cases e⟩
theorem ReadOut.no {w w' : World} {bs : List Nat} (h : readOK bs = false) (hb : Below w.heap.size w w') : ReadOut w bs (.returned (.tuple #[.agg #[.int .i64 0, .int .i64 0, .int .i64 0, .int .i64 0, .int .u32 0, .slice none 0 0], .int .i64 40])) w' := by
  unfold ReadOut readF readE
  rw [if_neg (by rw [h]; simp), if_neg (by rw [h]; simp)]
  exact ⟨none, 0, rfl, zF_at _ _, hb⟩
theorem By.off_row {w w' : World} {B g : Nat} {A : Option Addr} {bs : List Nat} {cs : Array Value} {t : TypeId} (h : By w B A bs) (hB : B ≤ w.heap.size) (hg : w.heap[g]? = some (.cells cs t (0, 0)))
    (hc : ∀ u ∈ cs.toList, ∀ n, u ≠ .int .u8 n) (hgr : w.grownBy w' (some g)) : By w' B A bs :=
  ⟨h.1, fun hn => by
    obtain ⟨b, off, e, hb, hcell⟩ := h.2 hn
    have hbg : b ≠ g := by
      rintro rfl
      have h0 := hcell 0 hn
      rw [cell_of_row w b (off + 0) _ _ _ hg] at h0
      exact hc _ (by rw [← Array.getElem?_toList] at h0; exact List.mem_of_getElem? h0) _ rfl
    exact ⟨b, off, e, hb, fun j hj => (World.cell?_of_block (w := w) (hgr.block b (by omega) (fun e2 => hbg (by cases e2; rfl)))).trans (hcell j hj)⟩⟩
theorem zero64 : (Tryd.prog.info? 45).map (·.zero) = some (some (.agg (vals (List.replicate 64 0)).toArray)) := by kernel_rfl
theorem Tryd.size45 : (Tryd.prog.info? 45).map (·.size) = some 64 := by kernel_rfl
theorem Tryd.sizeF : (Tryd.prog.info? 25).map (·.size) = some 6 := by kernel_rfl

set_option maxHeartbeats 1000000 in
theorem read_length (bs : List Nat) (A : Option Addr) (c : Nat) (w : World) (h : ¬ bs.length = 64) (hl : bs.length ≤ 1000000000) :
    Calls Tryd.prog 9 #[.slice A bs.length c] w (ReadNew w bs) := by
  have hq : ((bs.length : Int) != 64) = true := by rw [bne_iff_ne]; omega
  have HR := Lib.hid (show readOK bs = false by unfold readOK; rw [decide_eq_false h]; rfl)
  clear h
  go_enter Tryd.func9, Tryd.ntmps9
  go_wp2
  exact bodyPost_ret (results_cell_tmp (t := 25) (p := 2) (u := 3) rfl _ _ w.heap.size _ (0, 0) _ rfl (heap_alloc_new w _) Tryd.underlying25 rfl Tryd.sizeF) rfl (ReadNew.no HR.out ((Below.refl _ _).alloc (Nat.le_refl _) _))
set_option maxRecDepth 100000 in
set_option maxHeartbeats 2000000 in
theorem read_sector (bs : List Nat) (A : Option Addr) (c : Nat) (w : World) (hl : bs.length = 64) (hA : By w w.heap.size A bs) (hW : Widths w) :
    Calls Tryd.prog 9 #[.slice A bs.length c] w (ReadNew w bs) := by
  have hat := fun (W : World) (a : Option Addr) (len cap : Nat) (hn : 64 ≤ len) => run_arrayAt (P := Tryd.prog) (w := W) 45 5 64 a len cap Tryd.underlying45 hn
  have HL := Lib.hid hl
  have HA := Lib.hid hA
  have HBy := Lib.hid hA.1
  have HW := Lib.hid hW
  obtain ⟨b, off, rfl, hbw, hcells⟩ := hA.at_ (by omega)
  rw [hl]
  have HV := Lib.hid (fun W (hW : Below w.heap.size w W) => (show ∀ j u, (vals bs)[j]? = some u → W.cell? ⟨b, off + j, none⟩ = some u from fun j u hu => by
    obtain ⟨hj, rfl⟩ := vals_get hu
    exact (hW.cell (p := ⟨b, off + j, none⟩) hbw).trans (hcells j hj)))
  obtain ⟨Z, hZ⟩ : ∃ Z, Z = vals (List.replicate 64 0) := ⟨_, rfl⟩
  have HZ := Lib.hid (show (Tryd.prog.info? 45).map (·.zero) = some (some (.agg Z.toArray)) by rw [hZ]; exact zero64)
  have HZl := Lib.hid (show Z.length = 64 by rw [hZ]; rfl)
  have HI := Lib.hid (show (Tryd.prog.info? 45).map (·.size) = some (vals bs).length by rw [vals_length, hl]; exact Tryd.size45)
  have HB1 := Lib.hid ((Below.refl w.heap.size w).alloc (Nat.le_refl _) (.cells #[.int .i64 0, .int .i64 0, .int .i64 0, .int .i64 0, .int .u32 0, .slice none 0 0] 25))
  have hr1 : ((w.alloc (.cells #[.int .i64 0, .int .i64 0, .int .i64 0, .int .i64 0, .int .u32 0, .slice none 0 0] 25)).alloc (.cells Z.toArray 45)).heap[w.heap.size + 1]? = some (.cells ([] ++ Z ++ []).toArray 45 (0, 0)) := by
    have h := heap_alloc2_new w (.cells #[.int .i64 0, .int .i64 0, .int .i64 0, .int .i64 0, .int .u32 0, .slice none 0 0] 25) (.cells Z.toArray 45)
    simpa using h
  have hr0 : ((w.alloc (.cells #[.int .i64 0, .int .i64 0, .int .i64 0, .int .i64 0, .int .u32 0, .slice none 0 0] 25)).alloc (.cells Z.toArray 45)).heap[w.heap.size]? = some (.cells #[.int .i64 0, .int .i64 0, .int .i64 0, .int .i64 0, .int .u32 0, .slice none 0 0] 25 (0, 0)) := by
    have h := heap_alloc2_old w (.cells #[.int .i64 0, .int .i64 0, .int .i64 0, .int .i64 0, .int .u32 0, .slice none 0 0] 25) (.cells Z.toArray 45)
    simpa using h
  have hb2 := HB1.out.alloc (by simp) (.cells Z.toArray 45)
  have hz2 : ((w.alloc (.cells #[.int .i64 0, .int .i64 0, .int .i64 0, .int .i64 0, .int .u32 0, .slice none 0 0] 25)).alloc (.cells Z.toArray 45)).heap.size = w.heap.size + 2 := by simp
  have hs3 := setRow_heap ((w.alloc (.cells #[.int .i64 0, .int .i64 0, .int .i64 0, .int .i64 0, .int .u32 0, .slice none 0 0] 25)).alloc (.cells Z.toArray 45)) (w.heap.size + 1) _ (vals bs).toArray _ _ hr1
  have hg3 := grown_setRow ((w.alloc (.cells #[.int .i64 0, .int .i64 0, .int .i64 0, .int .i64 0, .int .u32 0, .slice none 0 0] 25)).alloc (.cells Z.toArray 45)) (w.heap.size + 1) (vals bs).toArray
  have HR1 := Lib.hid hr1
  obtain ⟨w3, hw3⟩ : ∃ x, x = World.setRow ((w.alloc (.cells #[.int .i64 0, .int .i64 0, .int .i64 0, .int .i64 0, .int .u32 0, .slice none 0 0] 25)).alloc (.cells Z.toArray 45)) (w.heap.size + 1) (vals bs).toArray := ⟨_, rfl⟩
  rw [← hw3] at hs3 hg3
  have hb3 := hb2.grown hg3 (by simp; omega) (fun k e => by cases e; omega)
  have hz3 : w3.heap.size = w.heap.size + 2 := by rw [hw3]; simp
  have H30 := Lib.hid ((hg3.block w.heap.size (by omega) (by simp)).trans hr0)
  have HP := Lib.hid (parse_any bs w3 HL.out HBy.out (HW.out.below hb3))
  have H3 := Lib.hid (show w3.heap[w.heap.size + 1]? = some (.cells (vals bs).toArray 45 (0, 0)) from hs3)
  have HB3 := Lib.hid hb3
  have HZ3 := Lib.hid hz3
  have HV3 := Lib.hid (show ∀ W, Below w3.heap.size w3 W → ∀ j u, (vals bs)[j]? = some u → W.cell? ⟨w.heap.size + 1, 0 + j, none⟩ = some u from fun W hW j u hu => by
    rw [Nat.zero_add, cell_of_row W _ j _ _ _ ((hW.block (w.heap.size + 1) (by omega)).trans (hs3))]
    simpa using hu)
  have HC3 := Lib.hid (HV3.out _ (Below.refl _ _))
  rw [hw3] at HC3
  have e3 : (vals bs).toArray = ([] ++ vals bs ++ []).toArray := by simp
  have HC4 := HC3
  rw [e3] at HC4
  have HW3 := Lib.hid hw3
  clear e3
  have HB1x := Lib.hid HB1.out
  clear hr1 hr0 hb2 hz2 hs3 hg3 hb3 hz3 hw3 HB1
  clear hA hW hcells hZ hl
  go_enter Tryd.func9, Tryd.ntmps9
  go_wp2_with (first
    | (refine wpList_load_part rfl 45 (.tmp 13) rfl b off rfl (vals bs) _ (HV.out _ HB1x.out) Tryd.underlying45 rfl HI.out ?_)
    | (with_reducible refine wpList_alloc_any rfl 45 rfl Z.toArray HZ.out ?_)
    | (refine wpList_store_part rfl 45 (.tmp 4) (.tmp 14) rfl (w.heap.size + 1) 0 ?_ (vals bs) ?_ 45 [] Z [] HR1.out rfl ?_ HI.out vals_one ?_)
    | (refine wpList_load_part rfl 45 (.tmp 4) rfl (w.heap.size + 1) 0 (by simp [Act.eval, Act.put]) (vals bs) _ HC4.out Tryd.underlying45 rfl HI.out ?_)
    | (refine wpList_load_part rfl 45 (.tmp 4) rfl (w.heap.size + 1) 0 (by simp [Act.eval, Act.put]) (vals bs) _ HC3.out Tryd.underlying45 rfl HI.out ?_)
    | fail)
  · rw [HZl.out, vals_length, HL.out]
  rw [← HW3.out]
  refine HP.out.mono ?_
  rintro e w4 ⟨A4, c4, rfl, hv4, hb4, hf4⟩
  have HF4 := Lib.hid (show ∀ b, A4 = some b → w.heap.size ≤ b.block from fun b e => by have h1 := hf4 b e; have h2 := HZ3.out; omega)
  clear hf4
  have HFm := Lib.hid (show readOK bs = (mayB (frameOf bs) && decide (Crc.sealed (secB (frameOf bs)) = bs)) by unfold readOK; rw [decide_eq_true HL.out, Bool.true_and])
  have HRF := Lib.hid (show readOK bs = true → readF bs = frameOf bs ∧ readE bs = 0 from fun h => by unfold readF readE; rw [if_pos h, if_pos h]; exact ⟨rfl, rfl⟩)
  generalize frameOf bs = F at *
  have HX1 := Lib.hid (frv_one A4 c4 F)
  have HXl := Lib.hid (show (frv A4 c4 F).length = 6 from rfl)
  obtain ⟨xs, hxs⟩ : ∃ xs, xs = frv A4 c4 F := ⟨_, rfl⟩
  rw [← hxs] at HX1 HXl
  rw [← hxs]
  have HX := Lib.hid hxs
  have HV4 := Lib.hid hv4
  have HB4 := Lib.hid hb4
  clear hv4 hb4 hxs
  have hr5 := heap_alloc_new w4 (.cells #[.int .i64 0, .int .i64 0, .int .i64 0, .int .i64 0, .int .u32 0, .slice none 0 0] 25)
  have hb5 := HB4.out.alloc HB4.out.size (.cells #[.int .i64 0, .int .i64 0, .int .i64 0, .int .i64 0, .int .u32 0, .slice none 0 0] 25)
  have hz5 : (w4.alloc (.cells #[.int .i64 0, .int .i64 0, .int .i64 0, .int .i64 0, .int .u32 0, .slice none 0 0] 25)).heap.size = w4.heap.size + 1 := by simp
  have hv5 := HV4.out.below ((Below.refl w4.heap.size w4).alloc (Nat.le_refl _) (.cells #[.int .i64 0, .int .i64 0, .int .i64 0, .int .i64 0, .int .u32 0, .slice none 0 0] 25)) (Nat.le_refl _)
  have hs6 := setRow_heap (w4.alloc (.cells #[.int .i64 0, .int .i64 0, .int .i64 0, .int .i64 0, .int .u32 0, .slice none 0 0] 25)) w4.heap.size _ xs.toArray _ _ hr5
  have hg6 := grown_setRow (w4.alloc (.cells #[.int .i64 0, .int .i64 0, .int .i64 0, .int .i64 0, .int .u32 0, .slice none 0 0] 25)) w4.heap.size xs.toArray
  have HR5 := Lib.hid hr5
  obtain ⟨w6, hw6⟩ : ∃ x, x = World.setRow (w4.alloc (.cells #[.int .i64 0, .int .i64 0, .int .i64 0, .int .i64 0, .int .u32 0, .slice none 0 0] 25)) w4.heap.size xs.toArray := ⟨_, rfl⟩
  rw [← hw6] at hs6 hg6
  have hz6 : w6.heap.size = w4.heap.size + 1 := by rw [hw6]; simp
  have HB6 := Lib.hid (hb5.trans ((only_below hg6 (Nat.le_refl _) (by omega)).mono HB4.out.size))
  have HBw := Lib.hid (HB3.out.trans (HB6.out.mono HB3.out.size))
  have hv6 := (hv5.below (only_below hg6 (Nat.le_refl _) (by omega)) (Nat.le_refl _)).mono (show w4.heap.size ≤ w6.heap.size by omega)
  have HV6 := Lib.hid hv6
  have H6 := Lib.hid hs6
  have HZ6 := Lib.hid hz6
  have HX6 := Lib.hid (show ∀ W, Below w6.heap.size w6 W → ∀ j u, xs[j]? = some u → W.cell? ⟨w4.heap.size, 0 + j, none⟩ = some u from fun W hW j u hu => by
    rw [Nat.zero_add, cell_of_row W _ j _ _ _ ((hW.block w4.heap.size (by omega)).trans hs6)]
    simpa using hu)
  have HC6 := Lib.hid (HX6.out _ (Below.refl _ _))
  rw [hw6] at HC6
  have e3 : xs.toArray = ([] ++ xs ++ []).toArray := by simp
  have HC7 := HC6
  rw [e3] at HC7
  have HW6 := Lib.hid hw6
  have HI6 := Lib.hid (show (Tryd.prog.info? 25).map (·.size) = some xs.length by rw [HXl.out]; exact Tryd.sizeF)
  clear e3 hr5 hb5 hz5 hv5 hs6 hg6 hw6 hz6 hv6
  go_wp2_with (first
    | (refine wpList_store_part rfl 25 (.tmp 5) (.tmp 16) rfl w4.heap.size 0 (by simp [Act.eval, Act.put]) xs (by simp [Act.eval, Act.put]) 25 [] [.int .i64 0, .int .i64 0, .int .i64 0, .int .i64 0, .int .u32 0, .slice none 0 0] [] HR5.out rfl ?_ HI6.out HX1.out ?_)
    | (refine wpList_load_part rfl 25 (.tmp 5) rfl w4.heap.size 0 (by simp [Act.eval, Act.put]) xs _ HC7.out Tryd.underlying25 rfl HI6.out ?_)
    | (refine wpList_load_part rfl 25 (.tmp 5) rfl w4.heap.size 0 (by simp [Act.eval, Act.put]) xs _ HC6.out Tryd.underlying25 rfl HI6.out ?_)
    | fail)
  · rw [HXl.out]; rfl
  rw [← HW6.out]
  have HS := Lib.hid (show ∀ W, Below w6.heap.size w6 W → (∀ j u, (vals bs)[j]? = some u → W.cell? ⟨w.heap.size + 1, 0 + j, none⟩ = some u) ∧ (∀ j u, xs[j]? = some u → W.cell? ⟨w4.heap.size, 0 + j, none⟩ = some u) ∧ W.heap[w.heap.size]? = some (.cells #[.int .i64 0, .int .i64 0, .int .i64 0, .int .i64 0, .int .u32 0, .slice none 0 0] 25 (0, 0)) ∧ Below w.heap.size w W ∧ FrV W w6.heap.size (frv A4 c4 F) F from fun W hW => by
    have h3W : Below w3.heap.size w3 W := HB6.out.trans (hW.mono (by have := HB6.out.size; omega))
    exact ⟨HV3.out W h3W, HX6.out W hW, (h3W.block w.heap.size (by have := HZ3.out; omega)).trans H30.out, HB3.out.trans (h3W.mono HB3.out.size), HV6.out.below hW (Nat.le_refl _)⟩)
  cases hm : mayB F with
  | false =>
    have HN := Lib.hid (show readOK bs = false by rw [HFm.out, hm]; rfl)
    have h := bytes_no F A4 c4 w6 HV6.out hm
    rw [← HX.out] at h
    have HBn := Lib.hid h
    clear h HFm hm HP
    refine HBn.out.mono ?_
    rintro e w7 ⟨rfl, hb7⟩
    have HB7 := Lib.hid hb7
    clear hb7 HBn
    go_wp2_with fail
    refine wp_region_held_drew (S := fun W => W = w7.drew) (by kernel_rfl) rfl (fun hHeld => ?_)
    refine wpAnyH_take (i := 0) (v := ?_) rfl (by kernel_rfl) (by kernel_rfl) (by kernel_rfl) (fun _ _ _ h => h) (Or.inl ⟨by rfl, ?_⟩) (by assumption) ?_
    rotate_left
    · simp only [List.getElem_toArray, List.getElem_cons_zero, List.getElem_cons_succ]; intro W hSw; (try dsimp only at hSw); go_simp; all_goals with_reducible rfl
    simp only [Act.put, List.getElem_toArray, List.getElem_cons_zero, List.getElem_cons_succ, List.setIfInBounds_toArray, List.set_cons_zero, List.set_cons_succ]
    refine wpAnyH_take (i := 1) (v := ?_) rfl (by kernel_rfl) (by kernel_rfl) (by kernel_rfl) (fun _ _ _ h => h) (Or.inl ⟨by rfl, ?_⟩) (by assumption) ?_
    rotate_left
    · simp only [List.getElem_toArray, List.getElem_cons_zero, List.getElem_cons_succ]; intro W hSw; (try dsimp only at hSw); go_simp; all_goals with_reducible rfl
    simp only [Act.put, List.getElem_toArray, List.getElem_cons_zero, List.getElem_cons_succ, List.setIfInBounds_toArray, List.set_cons_zero, List.set_cons_succ]
    refine wpAnyH_take (i := 2) (v := ?_) rfl (by kernel_rfl) (by kernel_rfl) (by kernel_rfl) (fun _ _ _ h => h) (Or.inl ⟨by rfl, ?_⟩) (by assumption) ?_
    rotate_left
    · simp only [List.getElem_toArray, List.getElem_cons_zero, List.getElem_cons_succ]; intro W hSw; (try dsimp only at hSw); go_simp; all_goals with_reducible rfl
    simp only [Act.put, List.getElem_toArray, List.getElem_cons_zero, List.getElem_cons_succ, List.setIfInBounds_toArray, List.set_cons_zero, List.set_cons_succ]
    refine wpAnyH_take (i := 3) (v := undef) rfl (by kernel_rfl) (by kernel_rfl) (by kernel_rfl) (fun _ _ _ h => h) (Or.inr ⟨by rfl, rfl⟩) (by assumption) ?_
    (try simp only [Act.put, List.getElem_toArray, List.getElem_cons_zero, List.getElem_cons_succ, List.setIfInBounds_toArray, List.set_cons_zero, List.set_cons_succ])
    refine wpAnyH_take (i := 4) (v := undef) rfl (by kernel_rfl) (by kernel_rfl) (by kernel_rfl) (fun _ _ _ h => h) (Or.inr ⟨by rfl, rfl⟩) (by assumption) ?_
    (try simp only [Act.put, List.getElem_toArray, List.getElem_cons_zero, List.getElem_cons_succ, List.setIfInBounds_toArray, List.set_cons_zero, List.set_cons_succ])
    refine wpAnyH_take (i := 5) (v := undef) rfl (by kernel_rfl) (by kernel_rfl) (by kernel_rfl) (fun _ _ _ h => h) (Or.inr ⟨by rfl, rfl⟩) (by assumption) ?_
    (try simp only [Act.put, List.getElem_toArray, List.getElem_cons_zero, List.getElem_cons_succ, List.setIfInBounds_toArray, List.set_cons_zero, List.set_cons_succ])
    refine wpAnyH_take (i := 6) (v := undef) rfl (by kernel_rfl) (by kernel_rfl) (by kernel_rfl) (fun _ _ _ h => h) (Or.inr ⟨by rfl, rfl⟩) (by assumption) ?_
    (try simp only [Act.put, List.getElem_toArray, List.getElem_cons_zero, List.getElem_cons_succ, List.setIfInBounds_toArray, List.set_cons_zero, List.set_cons_succ])
    refine wpAnyH_take (i := 7) (v := undef) rfl (by kernel_rfl) (by kernel_rfl) (by kernel_rfl) (fun _ _ _ h => h) (Or.inr ⟨by rfl, rfl⟩) (by assumption) ?_
    (try simp only [Act.put, List.getElem_toArray, List.getElem_cons_zero, List.getElem_cons_succ, List.setIfInBounds_toArray, List.set_cons_zero, List.set_cons_succ])
    refine wpAnyH_take (i := 8) (v := ?_) rfl (by kernel_rfl) (by kernel_rfl) (by kernel_rfl) (fun _ _ _ h => h) (Or.inl ⟨by rfl, ?_⟩) (by assumption) ?_
    rotate_left
    · simp only [List.getElem_toArray, List.getElem_cons_zero, List.getElem_cons_succ]; intro W hSw; (try dsimp only at hSw); go_simp; all_goals with_reducible rfl
    simp only [Act.put, List.getElem_toArray, List.getElem_cons_zero, List.getElem_cons_succ, List.setIfInBounds_toArray, List.set_cons_zero, List.set_cons_succ]
    refine wpAnyH_done (by kernel_rfl) ?_ _
    obtain ⟨-, -, hr, hbw, -⟩ := HS.out _ (HB7.out.trans (Below.refl _ _).drew)
    obtain ⟨w8, hw8⟩ : ∃ x, x = World.setRow w7.drew w.heap.size #[.int .i64 0, .int .i64 0, .int .i64 0, .int .i64 0, .int .u32 0, .slice none 0 0] := ⟨_, rfl⟩
    have HR := Lib.hid hr
    have HR8 := Lib.hid (show w8.heap[w.heap.size]? = some (.cells #[.int .i64 0, .int .i64 0, .int .i64 0, .int .i64 0, .int .u32 0, .slice none 0 0] 25 (0, 0)) by rw [hw8]; exact setRow_heap _ _ _ _ _ _ hr)
    have HB8 := Lib.hid (show Below w.heap.size w w8 by rw [hw8]; exact hbw.grown (grown_setRow w7.drew w.heap.size _) hbw.size (fun k e => by cases e; omega))
    have HW8 := Lib.hid hw8
    clear hr hbw hw8 hHeld
    go_wp2_with (first
      | (refine wpList_store_part rfl 25 (.tmp 2) (.tmp 31) rfl w.heap.size 0 (by simp [Act.eval, Act.put]) [.int .i64 0, .int .i64 0, .int .i64 0, .int .i64 0, .int .u32 0, .slice none 0 0] (by simp [Act.eval, Act.put]) 25 [] [.int .i64 0, .int .i64 0, .int .i64 0, .int .i64 0, .int .u32 0, .slice none 0 0] [] HR.out rfl rfl Tryd.sizeF (by decide) ?_))
    rw [← HW8.out]
    exact bodyPost_ret (results_cell_tmp (t := 25) (p := 2) (u := 3) rfl _ _ w.heap.size _ (0, 0) _ rfl HR8.out Tryd.underlying25 rfl Tryd.sizeF) rfl (ReadNew.no HN.out HB8.out)
  | true =>
    have h := bytes_yes F A4 c4 w6 HV6.out hm (HW.out.below HBw.out)
    rw [← HX.out] at h
    have HBy6 := Lib.hid h
    have HSl := Lib.hid (show (Crc.sealed (secB F)).length = 64 by rw [Crc.sealed_length, secB_length (may_load hm)])
    have HSb := Lib.hid (Crc.sealed_lt (secB_lt (f := F) HV6.out.fine.load))
    rw [hm, Bool.true_and] at HFm
    clear h hm
    refine HBy6.out.mono ?_
    rintro e w7 ⟨v, rfl, hv⟩
    obtain ⟨g, cp, rfl, hy7, hl7, hc7, hg7, hgw7, -⟩ := hv.block HSb.out (by rw [HSl.out]; omega)
    have HB7 := Lib.hid hv.2
    have HSS := Lib.hid (show ∀ j u, (vals (Crc.sealed (secB F)))[j]? = some u → w7.drew.cell? ⟨g, 0 + j, none⟩ = some u from fun j u hu => by
      obtain ⟨hj, rfl⟩ := vals_get hu
      obtain ⟨b', off', e', -, hc⟩ := hy7.at_ (by rw [HSl.out]; omega)
      cases e'
      exact hc j hj)
    generalize Crc.sealed (secB F) = ys at *
    rw [HSl.out] at hl7
    have HY7 := Lib.hid hy7
    clear hy7 hv HBy6
    rw [HSl.out]
    go_wp2_with fail
    have hq := fun W => bytes_neq W 45 64 Tryd.underlying45 bs ys HL.out HSl.out
    refine wp_region_held_drew (S := fun W => W = w7.drew) (by kernel_rfl) rfl (fun hHeld => ?_)
    refine wpAnyH_take (i := 0) (v := ?_) rfl (by kernel_rfl) (by kernel_rfl) (by kernel_rfl) (fun _ _ _ h => h) (Or.inl ⟨by rfl, ?_⟩) (by assumption) ?_
    rotate_left
    · simp only [List.getElem_toArray, List.getElem_cons_zero, List.getElem_cons_succ]; intro W hSw; (try dsimp only at hSw); go_simp; all_goals with_reducible rfl
    simp only [Act.put, List.getElem_toArray, List.getElem_cons_zero, List.getElem_cons_succ, List.setIfInBounds_toArray, List.set_cons_zero, List.set_cons_succ]
    refine wpAnyH_take (i := 1) (v := ?_) rfl (by kernel_rfl) (by kernel_rfl) (by kernel_rfl) (fun _ _ _ h => h) (Or.inl ⟨by rfl, ?_⟩) (by assumption) ?_
    rotate_left
    · simp only [List.getElem_toArray, List.getElem_cons_zero, List.getElem_cons_succ]; intro W hSw; (try dsimp only at hSw); go_simp; all_goals with_reducible rfl
    simp only [Act.put, List.getElem_toArray, List.getElem_cons_zero, List.getElem_cons_succ, List.setIfInBounds_toArray, List.set_cons_zero, List.set_cons_succ]
    refine wpAnyH_take (i := 2) (v := ?_) rfl (by kernel_rfl) (by kernel_rfl) (by kernel_rfl) (fun _ _ _ h => h) (Or.inl ⟨by rfl, ?_⟩) (by assumption) ?_
    rotate_left
    · simp only [List.getElem_toArray, List.getElem_cons_zero, List.getElem_cons_succ]; intro W hSw; (try dsimp only at hSw); go_simp; all_goals with_reducible rfl
    simp only [Act.put, List.getElem_toArray, List.getElem_cons_zero, List.getElem_cons_succ, List.setIfInBounds_toArray, List.set_cons_zero, List.set_cons_succ]
    refine wpAnyH_take (i := 3) (v := ?_) rfl (by kernel_rfl) (by kernel_rfl) (by kernel_rfl) (fun _ _ _ h => h) (Or.inl ⟨by rfl, ?_⟩) (by assumption) ?_
    rotate_left
    · simp only [List.getElem_toArray, List.getElem_cons_zero, List.getElem_cons_succ]; intro W hSw; (try dsimp only at hSw); subst hSw; refine exec_load_part 45 (.tmp 4) ?_ (w.heap.size + 1) 0 ?_ (vals bs) _ (HS.out _ (HB7.out.trans (Below.refl _ _).drew)).1 Tryd.underlying45 ?_ HI.out <;> rfl
    simp only [Act.put, List.getElem_toArray, List.getElem_cons_zero, List.getElem_cons_succ, List.setIfInBounds_toArray, List.set_cons_zero, List.set_cons_succ]
    refine wpAnyH_take (i := 4) (v := ?_) rfl (by kernel_rfl) (by kernel_rfl) (by kernel_rfl) (fun _ _ _ h => h) (Or.inl ⟨by rfl, ?_⟩) (by assumption) ?_
    rotate_left
    · simp only [List.getElem_toArray, List.getElem_cons_zero, List.getElem_cons_succ]; intro W hSw; (try dsimp only at hSw); go_simp; all_goals with_reducible rfl
    simp only [Act.put, List.getElem_toArray, List.getElem_cons_zero, List.getElem_cons_succ, List.setIfInBounds_toArray, List.set_cons_zero, List.set_cons_succ]
    refine wpAnyH_take (i := 5) (v := ?_) rfl (by kernel_rfl) (by kernel_rfl) (by kernel_rfl) (fun _ _ _ h => h) (Or.inl ⟨by rfl, ?_⟩) (by assumption) ?_
    rotate_left
    · simp only [List.getElem_toArray, List.getElem_cons_zero, List.getElem_cons_succ]; intro W hSw; (try dsimp only at hSw); go_simp; all_goals with_reducible rfl
    simp only [Act.put, List.getElem_toArray, List.getElem_cons_zero, List.getElem_cons_succ, List.setIfInBounds_toArray, List.set_cons_zero, List.set_cons_succ]
    refine wpAnyH_take (i := 6) (v := ?_) rfl (by kernel_rfl) (by kernel_rfl) (by kernel_rfl) (fun _ _ _ h => h) (Or.inl ⟨by rfl, ?_⟩) (by assumption) ?_
    rotate_left
    · simp only [List.getElem_toArray, List.getElem_cons_zero, List.getElem_cons_succ]; intro W hSw; (try dsimp only at hSw); subst hSw; refine exec_load_part 45 (.tmp 27) ?_ g 0 ?_ (vals ys) _ HSS.out Tryd.underlying45 ?_ (by rw [vals_length, HSl.out]; exact Tryd.size45) <;> rfl
    simp only [Act.put, List.getElem_toArray, List.getElem_cons_zero, List.getElem_cons_succ, List.setIfInBounds_toArray, List.set_cons_zero, List.set_cons_succ]
    refine wpAnyH_take (i := 7) (v := ?_) rfl (by kernel_rfl) (by kernel_rfl) (by kernel_rfl) (fun _ _ _ h => h) (Or.inl ⟨by rfl, ?_⟩) (by assumption) ?_
    rotate_left
    · simp only [List.getElem_toArray, List.getElem_cons_zero, List.getElem_cons_succ]; intro W hSw; (try dsimp only at hSw); go_simp; all_goals with_reducible rfl
    simp only [Act.put, List.getElem_toArray, List.getElem_cons_zero, List.getElem_cons_succ, List.setIfInBounds_toArray, List.set_cons_zero, List.set_cons_succ]
    refine wpAnyH_take (i := 8) (v := ?_) rfl (by kernel_rfl) (by kernel_rfl) (by kernel_rfl) (fun _ _ _ h => h) (Or.inl ⟨by rfl, ?_⟩) (by assumption) ?_
    rotate_left
    · simp only [List.getElem_toArray, List.getElem_cons_zero, List.getElem_cons_succ]; intro W hSw; (try dsimp only at hSw); go_simp; all_goals with_reducible rfl
    simp only [Act.put, List.getElem_toArray, List.getElem_cons_zero, List.getElem_cons_succ, List.setIfInBounds_toArray, List.set_cons_zero, List.set_cons_succ]
    refine wpAnyH_done (by kernel_rfl) ?_ _
    obtain ⟨-, hxs, hr, hbw, hfv⟩ := HS.out _ (HB7.out.trans (Below.refl _ _).drew)
    have HXS := Lib.hid hxs
    have HR := Lib.hid hr
    have HBw2 := Lib.hid hbw
    have HFv := Lib.hid hfv
    have hlt7 : w6.heap.size ≤ w7.drew.heap.size := HB7.out.size
    have hlt0 : w.heap.size < w6.heap.size := by have := HB3.out.size; have := HZ3.out; have := HB4.out.size; have := HZ6.out; omega
    clear hxs hr hbw hfv hHeld
    cases hd : decide (bs = ys) with
    | false =>
      have HN := Lib.hid (show readOK bs = false by
        rw [HFm.out]
        rw [decide_eq_false_iff_not] at hd ⊢
        exact fun e => hd e.symm)
      obtain ⟨w8, hw8⟩ : ∃ x, x = World.setRow w7.drew w.heap.size #[.int .i64 0, .int .i64 0, .int .i64 0, .int .i64 0, .int .u32 0, .slice none 0 0] := ⟨_, rfl⟩
      have HR8 := Lib.hid (show w8.heap[w.heap.size]? = some (.cells #[.int .i64 0, .int .i64 0, .int .i64 0, .int .i64 0, .int .u32 0, .slice none 0 0] 25 (0, 0)) by rw [hw8]; exact setRow_heap _ _ _ _ _ _ HR.out)
      have HB8 := Lib.hid (show Below w.heap.size w w8 by rw [hw8]; exact HBw2.out.grown (grown_setRow w7.drew w.heap.size _) HBw2.out.size (fun k e => by cases e; omega))
      have HW8 := Lib.hid hw8
      clear hw8 hd HFm
      go_wp2_with (first
        | (refine wpList_store_part rfl 25 (.tmp 2) (.tmp 31) rfl w.heap.size 0 (by simp [Act.eval, Act.put]) [.int .i64 0, .int .i64 0, .int .i64 0, .int .i64 0, .int .u32 0, .slice none 0 0] (by simp [Act.eval, Act.put]) 25 [] [.int .i64 0, .int .i64 0, .int .i64 0, .int .i64 0, .int .u32 0, .slice none 0 0] [] HR.out rfl rfl Tryd.sizeF (by decide) ?_))
      rw [← HW8.out]
      exact bodyPost_ret (results_cell_tmp (t := 25) (p := 2) (u := 3) rfl _ _ w.heap.size _ (0, 0) _ rfl HR8.out Tryd.underlying25 rfl Tryd.sizeF) rfl (ReadNew.no HN.out HB8.out)
    | true =>
      have HN := Lib.hid (HRF.out (show readOK bs = true by
        rw [HFm.out]
        rw [decide_eq_true_eq] at hd ⊢
        exact hd.symm))
      obtain ⟨w8, hw8⟩ : ∃ x, x = World.setRow w7.drew w.heap.size xs.toArray := ⟨_, rfl⟩
      have HR8 := Lib.hid (show w8.heap[w.heap.size]? = some (.cells xs.toArray 25 (0, 0)) by rw [hw8]; exact setRow_heap _ _ _ _ _ _ HR.out)
      have hg8 : w7.drew.grownBy w8 (some w.heap.size) := by rw [hw8]; exact grown_setRow w7.drew w.heap.size _
      have HB8 := Lib.hid (HBw2.out.grown hg8 HBw2.out.size (fun k e => by cases e; omega))
      have hy8 := (HFv.out.load_by.off_row hlt7 HR.out (by intro u hu n e; subst e; simp at hu) hg8).mono (show w6.heap.size ≤ w8.heap.size by have := hg8.size; omega)
      have HF8 := Lib.hid (show FrV w8 w8.heap.size (frv A4 c4 F) F from ⟨A4, c4, rfl, hy8, HFv.out.load_le.1, HFv.out.load_le.2.1, HFv.out.load_le.2.2, HFv.out.fine⟩)
      have HW8 := Lib.hid hw8
      have HIz := Lib.hid (show (Tryd.prog.info? 25).map (·.size) = some xs.toArray.size by rw [List.size_toArray]; exact HI6.out)
      clear hw8 hd HFm hy8 hg8
      go_wp2_with (first
        | (refine wpList_load_part rfl 25 (.tmp 5) rfl w4.heap.size 0 (by simp [Act.eval, Act.put]) xs _ HXS.out Tryd.underlying25 rfl HI6.out ?_)
        | (refine wpList_store_part rfl 25 (.tmp 2) (.tmp 32) rfl w.heap.size 0 (by simp [Act.eval, Act.put]) xs (by simp [Act.eval, Act.put]) 25 [] [.int .i64 0, .int .i64 0, .int .i64 0, .int .i64 0, .int .u32 0, .slice none 0 0] [] HR.out rfl ?_ HI6.out HX1.out ?_))
      · rw [HXl.out]; rfl
      rw [← HW8.out]
      refine bodyPost_ret (results_cell_tmp (t := 25) (p := 2) (u := 3) rfl _ _ w.heap.size _ (0, 0) _ rfl HR8.out Tryd.underlying25 rfl HIz.out) rfl ?_
      obtain ⟨e1, e2⟩ := HN.out
      unfold ReadNew
      rw [e1, e2, HX.out]
      exact ⟨A4, c4, rfl, HF8.out, HB8.out, HF4.out⟩
theorem read_new (bs : List Nat) (A : Option Addr) (c : Nat) (w : World) (hl : bs.length ≤ 1000000000) (hA : By w w.heap.size A bs) (hW : Widths w) :
    Calls Tryd.prog 9 #[.slice A bs.length c] w (ReadNew w bs) := by
  by_cases h : bs.length = 64
  · exact read_sector bs A c w h hA hW
  · exact read_length bs A c w h hl
theorem read_any (bs : List Nat) (A : Option Addr) (c : Nat) (w : World) (hl : bs.length ≤ 1000000000) (hA : By w w.heap.size A bs) (hW : Widths w) :
    Calls Tryd.prog 9 #[.slice A bs.length c] w (ReadOut w bs) := (read_new bs A c w hl hA hW).mono fun _ _ h => h.out
end Go.Proofs.YtehkohnpfbdngaaDoor
