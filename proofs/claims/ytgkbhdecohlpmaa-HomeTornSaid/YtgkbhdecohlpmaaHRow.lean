/-
  Read's bytes as a row of their own, that may be written to.
-/
import Derived.Test.YtgkbhdecohlpmaaHFacts
namespace Go.Proofs.Ytgkbhdecohlpmaa
set_option maxRecDepth 100000
open Go.RowKit Dk
set_option maxRecDepth 100000

set_option maxHeartbeats 400000 in
theorem read_row {w : World} {S : Nat → Prop} {a : Nat} {d : Dk.Dk} (h : Disk w S a d) (hd : d.down = false) {n : Nat} (hn : n < 34) : Calls Try.prog 18 #[.pointer (some ⟨a, 0, none⟩), .int .i64 (n : Int)] w fun e w' =>
    ∃ g, e = .returned (.tuple #[.slice (some ⟨g, 0, none⟩) 64 64, .int .i64 0]) ∧ (w.heap.size ≤ g ∧ g < w'.heap.size) ∧ w'.heap[g]? = some (.cells (vals (d.newest n)).toArray 55 (0, 0)) ∧ Below w.heap.size w w' := by
  have hs := h.newest_sec hn
  have HR := Lib.hid (refuses_any h)
  have HN := Lib.hid (sector_any (n : Int) w)
  rw [decide_eq_true (by omega)] at HN
  rw [hd] at HR
  have HW := Lib.hid (newest_any h hn)
  obtain ⟨Z, hZ, hz⟩ : ∃ Z, (Try.prog.info? 55).map (·.zero) = some (some (.agg Z)) ∧ Z = (vals (List.replicate 64 0)).toArray := ⟨_, sector_zero, rfl⟩
  have HS := Lib.hid (show Z.size = (vals (d.newest n)).toArray.size by rw [hz]; simp [vals_length, hs.1])
  have HZ := Lib.hid hZ
  have HI := Lib.hid (show (Try.prog.info? 55).map (·.size) = some (vals (d.newest n)).toArray.size by rw [sector_size]; simp [vals_length, hs.1])
  have H1 := Lib.hid (show (vals (d.newest n)).toArray.all (·.oneCell') = true from Array.all_eq_true_iff_forall_mem.2 fun u hu => vals_one u (by simpa using hu))
  generalize d.newest n = bs at hs HW HS HI H1 ⊢
  clear h hd hZ hz
  go_enter Try.func18, Try.ntmps18
  go_wp2_with fail
  refine HR.out.mono ?_
  rintro e w' ⟨rfl, rfl⟩
  go_wp2_with fail
  refine HN.out.mono ?_
  rintro e w' ⟨rfl, rfl⟩
  go_wp2_with fail
  refine HW.out.mono ?_
  rintro e w1 ⟨rfl, hb1⟩
  unfold sval
  have hb2 := hb1.alloc hb1.size (.cells Z 55)
  have hg2 := heap_alloc_new w1 (.cells Z 55)
  have HG := Lib.hid hg2
  have hb3 := below_setRow hb2 hb1.size (vals bs).toArray
  have hg3 := setRow_heap (w1.alloc (.cells Z 55)) w1.heap.size Z (vals bs).toArray 55 _ hg2
  have HB := Lib.hid (And.intro (show w'.heap.size ≤ w1.heap.size ∧ w1.heap.size < ((w1.alloc (.cells Z 55)).setRow w1.heap.size (vals bs).toArray).heap.size from ⟨hb1.size, by simp⟩) (And.intro hg3 hb3))
  clear hb2 hg2 hb3 hg3
  go_wp2_with (first
    | (refine wpList_alloc_any rfl 55 rfl Z HZ.out ?_)
    | (refine wpList_store_row rfl 55 _ _ rfl w1.heap.size (vals bs).toArray rfl rfl 55 Z HG.out HI.out HS.out H1.out ?_))
  go_ret2
  exact ⟨_, rfl, HB.out.1, HB.out.2.1, HB.out.2.2⟩


theorem vals_set (bs : List Nat) (j z : Nat) : (vals bs).toArray.setIfInBounds j (.int .u8 (z : Int)) = (vals (bs.set j z)).toArray := by
  unfold vals
  rw [List.setIfInBounds_toArray, List.map_set]
theorem Held.set {w W : World} {S : Nat → Prop} {a : Nat} {d : Dk.Dk} (h : Held w W S a d []) {g : Nat} (hg : ¬ S g) (hw : w.heap.size ≤ g) (j : Nat) (u : Value) : Held w (W.setCell ⟨g, j, none⟩ u) S a d [] := by
  have hz : (W.setCell ⟨g, j, none⟩ u).heap.size = W.heap.size := by simp [World.setCell]
  refine Held.mk0 ⟨h.mine.disk.keep (fun k hk => Below.heap_setCell _ _ _ _ (fun e => hg (by rw [← show k = g from e]; exact hk))) (by omega), h.mine.new, h.mine.keeps.grown (grown_setCell W g j u) h.mine.keeps.size (fun k e => by cases e; exact hw)⟩
theorem at_tmod (z : Int) (hz : -9223372036854775808 ≤ z ∧ z ≤ 9223372036854775807) : ∃ i : Nat, i < 64 ∧ (wrap64 (z.tmod 64 + 64)).tmod 64 = (i : Int) := by
  have h1 : -64 < z.tmod 64 ∧ z.tmod 64 < 64 := by
    have := Int.tmod_lt_of_pos z (show (0 : Int) < 64 by omega)
    have := Int.lt_tmod_of_pos z (show (0 : Int) < 64 by omega)
    omega
  have h2 : wrap64 (z.tmod 64 + 64) = z.tmod 64 + 64 := by
    have := i64_wraps (z.tmod 64 + 64).toNat (by omega)
    rw [Int.toNat_of_nonneg (by omega), IntKind.wrap_i64] at this
    unfold wrap64
    omega
  rw [h2]
  have h3 := Int.tmod_nonneg (a := z.tmod 64 + 64) 64 (by omega)
  have h4 := Int.tmod_lt_of_pos (z.tmod 64 + 64) (show (0 : Int) < 64 by omega)
  exact ⟨((z.tmod 64 + 64).tmod 64).toNat, by omega, by omega⟩
end Go.Proofs.Ytgkbhdecohlpmaa
