/-
  Bytes, by contract.
-/
import Derived.Test.YtehkohnpfbdngaaDoorHead
import Derived.Test.YtehkohnpfbdngaaDoorJoin
import Derived.Test.YtehkohnpfbdngaaDoorSeal
namespace Go.Proofs.YtehkohnpfbdngaaDoor
open Go.RowKit

/-- a frame's 60 bytes -/
def secB (f : Fr) : List Nat := (headB f ++ f.load) ++ List.replicate (60 - (headB f ++ f.load).length) 0
theorem secB_length {f : Fr} (h : f.load.length ≤ 45) : (secB f).length = 60 := by
  unfold secB
  rw [List.length_append, List.length_replicate, List.length_append, headB_length]
  omega
theorem headB_lt (f : Fr) : ∀ x ∈ headB f, x < 256 := fun x hx => pre_lt f 5 x hx
theorem secB_lt {f : Fr} (h : ∀ x ∈ f.load, x < 256) : ∀ x ∈ secB f, x < 256 := by
  intro x hx
  unfold secB at hx
  rcases List.mem_append.1 hx with hx | hx
  · rcases List.mem_append.1 hx with hx | hx
    · exact headB_lt f x hx
    · exact h x hx
  · have := List.eq_of_mem_replicate hx
    omega
theorem zero60 : (Tryd.prog.info? 40).map (·.zero) = some (some (.agg (vals (List.replicate 60 0)).toArray)) := by kernel_rfl

set_option maxHeartbeats 1000000 in
theorem bytes_no (f : Fr) (A : Option Addr) (c : Nat) (w : World) (hv : FrV w w.heap.size (frv A c f) f) (hm : mayB f = false) :
    Calls Tryd.prog 7 #[.agg (frv A c f).toArray] w fun e w' => e = .returned (.tuple #[.slice none 0 0, .int .i64 2]) ∧ Below w.heap.size w w' := by
  have hb := (Below.refl w.heap.size w).alloc (Nat.le_refl _) (.cells (frv A c f).toArray 25)
  have hM := may_any f A c _ ((hv.below hb (Nat.le_refl _)).mono hb.size)
  rw [hm] at hM
  have HM := Lib.hid hM
  have HB := Lib.hid hb
  clear hM hb hv hm
  unfold frv at *
  go_enter Tryd.func7, Tryd.ntmps7
  go_wp2_with fail
  refine HM.out.mono ?_
  rintro e w1 ⟨rfl, hb1⟩
  have HB1 := Lib.hid (HB.out.trans (hb1.mono HB.out.size))
  clear hb1
  go_wp2
  go_ret2
  exact ⟨rfl, HB1.out⟩

set_option maxRecDepth 100000 in
set_option maxHeartbeats 2000000 in
theorem bytes_yes (f : Fr) (A : Option Addr) (c : Nat) (w : World) (hv : FrV w w.heap.size (frv A c f) f) (hm : mayB f = true) (hW : Widths w) :
    Calls Tryd.prog 7 #[.agg (frv A c f).toArray] w fun e w' => ∃ v, e = .returned (.tuple #[v, .int .i64 0]) ∧ New w w' (Crc.sealed (secB f)) v := by
  have hb := (Below.refl w.heap.size w).alloc (Nat.le_refl _) (.cells (frv A c f).toArray 25)
  have hM := may_any f A c _ ((hv.below hb (Nat.le_refl _)).mono hb.size)
  rw [hm] at hM
  have HM := Lib.hid hM
  have HB := Lib.hid hb
  have G0 := Lib.hid (heap_alloc_new w (.cells (frv A c f).toArray 25))
  have GZ := Lib.hid (show (w.alloc (.cells (frv A c f).toArray 25)).heap.size = w.heap.size + 1 by simp)
  have l1 := may_one hm
  have l2 := may_load hm
  have HHead := Lib.hid (fun W (hW' : Widths W) => head_any f A c W hm hv.fine.mark hW')
  have HLY := Lib.hid hv.load_by
  have HLc := Lib.hid hv.load_le
  have HF := Lib.hid hv.fine.load
  have HW := Lib.hid hW
  obtain ⟨Z, hZ⟩ : ∃ Z, Z = vals (List.replicate 60 0) := ⟨_, rfl⟩
  have HZ := Lib.hid (show (Tryd.prog.info? 40).map (·.zero) = some (some (.agg Z.toArray)) by rw [hZ]; exact zero60)
  have HS1 := Lib.hid (show splice Z 0 (vals (headB f)) = vals (headB f ++ List.replicate 45 0) by
    have h := splice_more [] (headB f) 60 (by rw [headB_length]; simp)
    simp only [List.nil_append, headB_length, List.length_nil, Nat.sub_zero] at h
    rw [hZ]; exact h)
  have HS2 := Lib.hid (show splice (vals (headB f ++ List.replicate 45 0)) 15 (vals f.load) = vals (secB f) by
    have h := splice_more (headB f) f.load 60 (by rw [headB_length]; omega)
    rw [headB_length] at h
    exact h)
  have HSec := Lib.hid (show secB f = (headB f ++ f.load) ++ List.replicate (60 - (headB f ++ f.load).length) 0 from rfl)
  have HSl := Lib.hid (secB_length (f := f) l2)
  have HSlt := Lib.hid (secB_lt (f := f) hv.fine.load)
  have HHl := Lib.hid (headB_length f)
  have HZl := Lib.hid (show Z.length = 60 by rw [hZ]; rfl)
  clear hM hb hv hm hW hZ
  unfold frv at *
  go_enter Tryd.func7, Tryd.ntmps7
  go_wp2_with fail
  generalize w.alloc (.cells #[.int .i64 f.seq, .int .i64 f.inc, .int .i64 f.part, .int .i64 f.of, .int .u32 (f.mark : Nat), .slice A f.load.length c] 25) = w0 at *
  refine HM.out.mono ?_
  rintro e w1 ⟨rfl, hb1⟩
  have HB1 := Lib.hid hb1
  clear hb1 HM
  go_wp2_with (first
    | (with_reducible refine wpList_alloc_any rfl 40 rfl Z.toArray HZ.out ?_))
  have hb2 := HB1.out.alloc HB1.out.size (.cells Z.toArray 40)
  have hr2 := heap_alloc_new w1 (.cells Z.toArray 40)
  have hz2 : w1.heap.size < (w1.alloc (.cells Z.toArray 40)).heap.size := by simp
  have HB2 := Lib.hid hb2
  have HR2 := Lib.hid hr2
  have HZ2 := Lib.hid hz2
  clear hb2 hr2 hz2
  have hS : ∀ W, Below w0.heap.size w0 W → W.cell? ⟨w.heap.size, 0, none⟩ = some (.int .i64 f.seq) ∧ W.cell? ⟨w.heap.size, 1, none⟩ = some (.int .i64 f.inc) ∧ W.cell? ⟨w.heap.size, 2, none⟩ = some (.int .i64 f.part) ∧ W.cell? ⟨w.heap.size, 3, none⟩ = some (.int .i64 f.of) ∧ W.cell? ⟨w.heap.size, 4, none⟩ = some (.int .u32 (f.mark : Nat)) ∧ W.cell? ⟨w.heap.size, 5, none⟩ = some (.slice A f.load.length c) := fun W hW => by
    have hc : ∀ j, W.cell? ⟨w.heap.size, j, none⟩ = _ := fun j => (hW.cell (p := ⟨w.heap.size, j, none⟩) (by have := GZ.out; simp; omega)).trans (cell_of_row w0 w.heap.size j _ _ _ G0.out)
    exact ⟨hc 0, hc 1, hc 2, hc 3, hc 4, hc 5⟩
  have HS := Lib.hid hS
  clear hS
  have hg : w0.heap.size ≤ w1.heap.size := HB1.out.size
  generalize w1.alloc (.cells Z.toArray 40) = w2 at *
  generalize w1.heap.size = g at *
  have HY2 := Lib.hid (fun W (hW : Below w0.heap.size w0 W) => (HLY.out.below (HB.out.trans (hW.mono HB.out.size)) (Nat.le_refl _)))
  have HG := Lib.hid hg
  go_wp2_with fail
  refine wp_region_held_drew (S := fun W => W.cell? ⟨w.heap.size, 0, none⟩ = some (.int .i64 f.seq) ∧ W.cell? ⟨w.heap.size, 1, none⟩ = some (.int .i64 f.inc) ∧ W.cell? ⟨w.heap.size, 2, none⟩ = some (.int .i64 f.part) ∧ W.cell? ⟨w.heap.size, 3, none⟩ = some (.int .i64 f.of) ∧ W.cell? ⟨w.heap.size, 4, none⟩ = some (.int .u32 (f.mark : Nat)) ∧ W.cell? ⟨w.heap.size, 5, none⟩ = some (.slice A f.load.length c)) (by kernel_rfl) (HS.out _ HB2.out.drew) (fun hHeld => ?_)
  refine wpAnyH_take (i := 0) (v := ?_) rfl (by kernel_rfl) (by kernel_rfl) (by kernel_rfl) (fun _ _ _ h => h) (Or.inl ⟨by rfl, ?_⟩) (by assumption) ?_
  rotate_left
  · simp only [List.getElem_toArray, List.getElem_cons_zero, List.getElem_cons_succ]; intro W hSw; (try dsimp only at hSw); go_simp; all_goals with_reducible rfl
  simp only [Act.put, List.getElem_toArray, List.getElem_cons_zero, List.getElem_cons_succ, List.setIfInBounds_toArray, List.set_cons_zero, List.set_cons_succ]
  refine wpAnyH_take (i := 1) (v := ?_) rfl (by kernel_rfl) (by kernel_rfl) (by kernel_rfl) (fun _ _ _ h => h) (Or.inl ⟨by rfl, ?_⟩) (by assumption) ?_
  rotate_left
  · simp only [List.getElem_toArray, List.getElem_cons_zero, List.getElem_cons_succ]; intro W hSw; (try dsimp only at hSw); go_simp; all_goals with_reducible rfl
  simp only [Act.put, List.getElem_toArray, List.getElem_cons_zero, List.getElem_cons_succ, List.setIfInBounds_toArray, List.set_cons_zero, List.set_cons_succ]
  refine wpAnyH_ready (rs := [2]) (by kernel_rfl) (by simp) ?_
  refine AllReadyH.cons rfl (fun K hK => ?_) AllReadyH.nil
  simp only [List.getElem_toArray, List.getElem_cons_zero, List.getElem_cons_succ]
  go_simp
  refine (HHead.out w2.drew (HW.out.below (HB.out.trans (HB2.out.drew.mono HB.out.size)))).mono ?_
  rintro e w3 ⟨A3, c3, rfl, hy3, hb3⟩
  have hb03 : Below w0.heap.size w0 w3 := HB2.out.drew.trans (hb3.mono HB2.out.drew.size)
  have hr3 := (hb3.block g HZ2.out).trans HR2.out
  have HB3 := Lib.hid hb03
  have HR3 := Lib.hid hr3
  have HY3 := Lib.hid hy3.src
  go_wp2_with fail
  refine hK.out _ _ (HS.out _ hb03) (fun hHeldN => ?_)
  clear hK K hHeld
  have hHeld := hHeldN
  clear hHeldN
  (try simp only [Act.put, List.getElem_toArray, List.getElem_cons_zero, List.getElem_cons_succ, List.setIfInBounds_toArray, List.set_cons_zero, List.set_cons_succ])
  clear hb3 hb03 hr3 hy3
  refine wpAnyH_ready (rs := [3]) (by kernel_rfl) (by simp) ?_
  refine AllReadyH.cons rfl (fun K hK => ?_) AllReadyH.nil
  simp only [List.getElem_toArray, List.getElem_cons_zero, List.getElem_cons_succ]
  have n1 := Lib.hid (vals_length (headB f))
  rw [HHl.out] at n1
  rw [if_pos (by rfl)]
  refine wp_copy_splice rfl (.tmp 9) (.tmp 11) 23 23 rfl 5 Tryd.underlying23 Tryd.size5 (some ⟨g, 0, none⟩) A3 60 60 15 c3 rfl rfl g 0 Z 40 HR3.out (vals (headB f)) (by rw [n1.out]; rfl) (fun h => ⟨rfl, HY3.out h⟩) (by rw [n1.out, HZl.out]; omega) vals_one w0.heap.size w0 HB3.out HG.out ?_
  intro w4 hr4 hb4
  rw [HS1.out] at hr4
  rw [n1.out]
  refine hK.out _ _ (HS.out _ hb4) (fun hHeldN => ?_)
  clear hK K hHeld
  have hHeld := hHeldN
  clear hHeldN
  (try simp only [Act.put, List.getElem_toArray, List.getElem_cons_zero, List.getElem_cons_succ, List.setIfInBounds_toArray, List.set_cons_zero, List.set_cons_succ])
  refine wpAnyH_take (i := 4) (v := ?_) rfl (by kernel_rfl) (by kernel_rfl) (by kernel_rfl) (fun _ _ _ h => h) (Or.inl ⟨by rfl, ?_⟩) (by assumption) ?_
  rotate_left
  · simp only [List.getElem_toArray, List.getElem_cons_zero, List.getElem_cons_succ]; intro W hSw; (try dsimp only at hSw); go_simp; all_goals with_reducible rfl
  simp only [Act.put, List.getElem_toArray, List.getElem_cons_zero, List.getElem_cons_succ, List.setIfInBounds_toArray, List.set_cons_zero, List.set_cons_succ]
  refine wpAnyH_done (by kernel_rfl) ?_ _
  have HB4 := Lib.hid hb4
  have HR4 := Lib.hid hr4.out
  have HY4 := Lib.hid ((HY2.out w4.drew hb4.drew).src)
  clear hb4 hr4 hHeld
  go_wp2_with fail
  refine wp_region_held_drew (S := fun W => W.cell? ⟨w.heap.size, 0, none⟩ = some (.int .i64 f.seq) ∧ W.cell? ⟨w.heap.size, 1, none⟩ = some (.int .i64 f.inc) ∧ W.cell? ⟨w.heap.size, 2, none⟩ = some (.int .i64 f.part) ∧ W.cell? ⟨w.heap.size, 3, none⟩ = some (.int .i64 f.of) ∧ W.cell? ⟨w.heap.size, 4, none⟩ = some (.int .u32 (f.mark : Nat)) ∧ W.cell? ⟨w.heap.size, 5, none⟩ = some (.slice A f.load.length c)) (by kernel_rfl) (HS.out _ HB4.out.drew) (fun hHeld => ?_)
  refine wpAnyH_take (i := 0) (v := ?_) rfl (by kernel_rfl) (by kernel_rfl) (by kernel_rfl) (fun _ _ _ h => h) (Or.inl ⟨by rfl, ?_⟩) (by assumption) ?_
  rotate_left
  · simp only [List.getElem_toArray, List.getElem_cons_zero, List.getElem_cons_succ]; intro W hSw; (try dsimp only at hSw); go_simp; all_goals with_reducible rfl
  simp only [Act.put, List.getElem_toArray, List.getElem_cons_zero, List.getElem_cons_succ, List.setIfInBounds_toArray, List.set_cons_zero, List.set_cons_succ]
  refine wpAnyH_take (i := 1) (v := ?_) rfl (by kernel_rfl) (by kernel_rfl) (by kernel_rfl) (fun _ _ _ h => h) (Or.inl ⟨by rfl, ?_⟩) (by assumption) ?_
  rotate_left
  · simp only [List.getElem_toArray, List.getElem_cons_zero, List.getElem_cons_succ]; intro W hSw; (try dsimp only at hSw); go_simp; all_goals with_reducible rfl
  simp only [Act.put, List.getElem_toArray, List.getElem_cons_zero, List.getElem_cons_succ, List.setIfInBounds_toArray, List.set_cons_zero, List.set_cons_succ]
  refine wpAnyH_take (i := 2) (v := ?_) rfl (by kernel_rfl) (by kernel_rfl) (by kernel_rfl) (fun _ _ _ h => h) (Or.inl ⟨by rfl, ?_⟩) (by assumption) ?_
  rotate_left
  · simp only [List.getElem_toArray, List.getElem_cons_zero, List.getElem_cons_succ]; intro W hSw; (try dsimp only at hSw); go_simp; all_goals with_reducible rfl
  simp only [Act.put, List.getElem_toArray, List.getElem_cons_zero, List.getElem_cons_succ, List.setIfInBounds_toArray, List.set_cons_zero, List.set_cons_succ]
  refine wpAnyH_take (i := 3) (v := ?_) rfl (by kernel_rfl) (by kernel_rfl) (by kernel_rfl) (fun _ _ _ h => h) (Or.inl ⟨by rfl, ?_⟩) (by assumption) ?_
  rotate_left
  · simp only [List.getElem_toArray, List.getElem_cons_zero, List.getElem_cons_succ]; intro W hSw; (try dsimp only at hSw); go_simp; all_goals with_reducible rfl
  simp only [Act.put, List.getElem_toArray, List.getElem_cons_zero, List.getElem_cons_succ, List.setIfInBounds_toArray, List.set_cons_zero, List.set_cons_succ]
  refine wpAnyH_ready (rs := [4]) (by kernel_rfl) (by simp) ?_
  refine AllReadyH.cons rfl (fun K hK => ?_) AllReadyH.nil
  simp only [List.getElem_toArray, List.getElem_cons_zero, List.getElem_cons_succ]
  have n2 := Lib.hid (vals_length f.load)
  have n3 := Lib.hid (show (vals (headB f ++ List.replicate 45 0)).length = 60 by rw [vals_length, List.length_append, List.length_replicate, HHl.out])
  rw [if_pos (by rfl)]
  refine wp_copy_splice rfl (.tmp 14) (.tmp 16) 23 23 rfl 5 Tryd.underlying23 Tryd.size5 (some ⟨g, 15, none⟩) A 45 45 f.load.length c rfl rfl g 15 (vals (headB f ++ List.replicate 45 0)) 40 HR4.out (vals f.load) (by rw [n2.out]; exact (Nat.min_eq_left (by omega)).symm) (fun h => ⟨rfl, HY4.out h⟩) (by rw [n2.out, n3.out]; omega) vals_one w0.heap.size w0 HB4.out.drew HG.out ?_
  intro w5 hr5 hb5
  rw [HS2.out] at hr5
  refine hK.out _ _ (HS.out _ hb5) (fun hHeldN => ?_)
  clear hK K hHeld
  have hHeld := hHeldN
  clear hHeldN
  (try simp only [Act.put, List.getElem_toArray, List.getElem_cons_zero, List.getElem_cons_succ, List.setIfInBounds_toArray, List.set_cons_zero, List.set_cons_succ])
  refine wpAnyH_done (by kernel_rfl) ?_ _
  have hgz : g < w5.heap.size := by
    have h := hr5.out
    rcases Nat.lt_or_ge g w5.heap.size with h' | h'
    · exact h'
    · rw [Array.getElem?_eq_none h'] at h; cases h
  have HB5 := Lib.hid (HB.out.trans (hb5.mono HB.out.size))
  have hSeal := seal_any (secB f) (some ⟨g, 0, none⟩) 60 w5 ((By.of_row hr5.out (by rw [List.toList_toArray]; exact List.take_of_length_le (by rw [vals_length]; exact Nat.le_refl _)) HSlt.out).mono hgz) (by rw [HSl.out]; omega) (by rw [HSl.out]; omega)
  rw [HSl.out] at hSeal
  have HSeal := Lib.hid hSeal
  clear hSeal hr5 hb5 hHeld hgz
  go_wp2_with fail
  refine HSeal.out.mono ?_
  rintro e w6 ⟨v, rfl, hv⟩
  have HV := Lib.hid hv
  clear hv
  go_wp2
  go_ret2
  exact ⟨v, rfl, own_mono HV.out.1 HB5.out.size, HB5.out.trans (HV.out.2.mono HB5.out.size)⟩
end Go.Proofs.YtehkohnpfbdngaaDoor
