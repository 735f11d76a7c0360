/-
  Read, Durable: bytes of new memory.
-/
import Derived.Test.YtgkbhdecohlpmaaDkNewest
import Derived.Laws.MakeOwn
namespace Go.Proofs.Ytgkbhdecohlpmaa.Dk
set_option maxRecDepth 100000
open Go.RowKit Go.Maps

theorem read_nil (z : Int) (w : World) : Calls Try.prog 18 #[.pointer none, .int .i64 z] w fun e w' => e = .returned (.tuple #[.slice none 0 0, .int .i64 1]) ∧ w' = w := by
  go_enter Try.func18, Try.ntmps18
  go_wp2_with fail
  refine (refuses_nil w).mono ?_
  rintro e w' ⟨rfl, rfl⟩
  go_wp2
  go_ret2
  exact ⟨rfl, rfl⟩
theorem read_down {w : World} {S : Nat → Prop} {a : Nat} {d : Dk} (h : Disk w S a d) (hd : d.down = true) (z : Int) : Calls Try.prog 18 #[.pointer (some ⟨a, 0, none⟩), .int .i64 z] w fun e w' => e = .returned (.tuple #[.slice none 0 0, .int .i64 30]) ∧ w' = w := by
  have HR := Lib.hid (refuses_any h)
  rw [hd] at HR
  clear h hd
  go_enter Try.func18, Try.ntmps18
  go_wp2_with fail
  refine HR.out.mono ?_
  rintro e w' ⟨rfl, rfl⟩
  go_wp2
  go_ret2
  exact ⟨rfl, rfl⟩
theorem read_arg {w : World} {S : Nat → Prop} {a : Nat} {d : Dk} (h : Disk w S a d) (hd : d.down = false) (z : Int) (hz : ¬ (0 ≤ z ∧ z < 34)) : Calls Try.prog 18 #[.pointer (some ⟨a, 0, none⟩), .int .i64 z] w fun e w' => e = .returned (.tuple #[.slice none 0 0, .int .i64 2]) ∧ w' = w := by
  have HR := Lib.hid (refuses_any h)
  have HN := Lib.hid (sector_any z w)
  rw [decide_eq_false hz] at HN
  rw [hd] at HR
  clear h hd hz
  go_enter Try.func18, Try.ntmps18
  go_wp2_with fail
  refine HR.out.mono ?_
  rintro e w' ⟨rfl, rfl⟩
  go_wp2_with fail
  refine HN.out.mono ?_
  rintro e w' ⟨rfl, rfl⟩
  go_wp2
  go_ret2
  exact ⟨rfl, rfl⟩
/-- bytes of new memory -/
def Fresh (w w' : World) (bs : List Nat) (v : Value) : Prop := ∃ g c, v = .slice (some ⟨g, 0, none⟩) bs.length c ∧ w.heap.size ≤ g ∧ g < w'.heap.size ∧ By w' w'.heap.size (some ⟨g, 0, none⟩) bs ∧ bs.length ≤ c ∧ c ≤ maxLen
set_option maxHeartbeats 400000 in
theorem read_ok {w : World} {S : Nat → Prop} {a : Nat} {d : Dk} (h : Disk w S a d) (hd : d.down = false) {n : Nat} (hn : n < 34) : Calls Try.prog 18 #[.pointer (some ⟨a, 0, none⟩), .int .i64 (n : Int)] w fun e w' =>
    ∃ v, e = .returned (.tuple #[v, .int .i64 0]) ∧ Fresh w w' (d.newest n) v ∧ Below w.heap.size w w' := by
  have hs := h.newest_sec hn
  have HR := Lib.hid (refuses_any h)
  have HN := Lib.hid (sector_any (n : Int) w)
  rw [decide_eq_true (by omega)] at HN
  rw [hd] at HR
  have HW := Lib.hid (newest_any h hn)
  obtain ⟨Z, hZ, hz⟩ : ∃ Z, (Try.prog.info? 55).map (·.zero) = some (some (.agg Z)) ∧ Z = (vals (List.replicate 64 0)).toArray := ⟨_, sector_zero, rfl⟩
  have HS := Lib.hid (show Z.size = (vals (d.newest n)).toArray.size by rw [hz]; simp [vals_length, hs.1])
  have HZ := Lib.hid hZ
  have HI := Lib.hid (show (Try.prog.info? 55).map (·.size) = some (vals (d.newest n)).toArray.size by rw [sector_size]; simp [vals_length, hs.1])
  have H1 := Lib.hid (show (vals (d.newest n)).toArray.all (·.oneCell') = true from Array.all_eq_true_iff_forall_mem.2 fun u hu => vals_one u (by simpa using hu))
  generalize d.newest n = bs at hs HW HS HI H1 ⊢
  clear h hd hZ hz
  go_enter Try.func18, Try.ntmps18
  go_wp2_with fail
  refine HR.out.mono ?_
  rintro e w' ⟨rfl, rfl⟩
  go_wp2_with fail
  refine HN.out.mono ?_
  rintro e w' ⟨rfl, rfl⟩
  go_wp2_with fail
  refine HW.out.mono ?_
  rintro e w1 ⟨rfl, hb1⟩
  unfold sval
  have hb2 := hb1.alloc hb1.size (.cells Z 55)
  have hg2 := heap_alloc_new w1 (.cells Z 55)
  have HG := Lib.hid hg2
  have hb3 := below_setRow hb2 hb1.size (vals bs).toArray
  have hg3 := setRow_heap (w1.alloc (.cells Z 55)) w1.heap.size Z (vals bs).toArray 55 _ hg2
  have HB := Lib.hid (show Below w'.heap.size w' ((w1.alloc (.cells Z 55)).setRow w1.heap.size (vals bs).toArray) ∧ Fresh w' ((w1.alloc (.cells Z 55)).setRow w1.heap.size (vals bs).toArray) bs (.slice (some ⟨w1.heap.size, 0, none⟩) 64 64) from
    ⟨hb3, w1.heap.size, 64, by rw [hs.1], hb1.size, by simp, (By.of_row hg3 (by rw [show (vals bs).toArray.toList = vals bs by simp]; exact List.take_of_length_le (by rw [vals_length]; exact Nat.le_refl _)) hs.2).mono (by simp), by rw [hs.1]; omega, by unfold maxLen; omega⟩)
  clear hb2 hg2 hb3 hg3
  go_wp2_with (first
    | (refine wpList_alloc_any rfl 55 rfl Z HZ.out ?_)
    | (refine wpList_store_row rfl 55 _ _ rfl w1.heap.size (vals bs).toArray rfl rfl 55 Z HG.out HI.out HS.out H1.out ?_))
  go_ret2
  exact ⟨_, rfl, HB.out.2, HB.out.1⟩

theorem ahead_succ (f : Nat → List Nat) (n : Nat) : ahead f (n + 1) = ahead f n ++ f n := by
  unfold ahead
  rw [List.range_succ, List.flatMap_append]
  simp
end Go.Proofs.Ytgkbhdecohlpmaa.Dk
