/-
  Texts Dctor, Dflds, Dclo, joined.
-/
import Derived.Deep.RegionHeld3
import Derived.Deep.DeepCutAuto
import Derived.Test.YtaokhbodmodcgaaJ6
set_option linter.all false
section
/-
  The developers' fields: what makes each.
-/
namespace Go.Proofs.Ytaokhbodmodcgaa
open Go.RowKit
set_option maxRecDepth 100000

def FldMade (w : World) (X : Nat) (k : FK) (e : Ending) (w' : World) : Prop := ∃ fs, e = .returned (.agg fs.toArray) ∧ Below w.heap.size w w' ∧ FldC w' w.heap.size w'.heap.size X k fs
set_option maxHeartbeats 2000000 in
theorem name_dev (w : World) (X : Nat) : Calls Try.prog 55 #[ptr X 0] w (FldMade w X .name) := by
  obtain ⟨w0, hw0⟩ : ∃ w0, w0 = w.alloc (.cells #[.nilFunc, .nilFunc, .nilFunc, .nilFunc] 55) := ⟨_, rfl⟩
  have hb0 : Below w.heap.size w w0 := by rw [hw0]; exact (Below.refl _ w).alloc (Nat.le_refl _) _
  have hz0 : w0.heap.size = w.heap.size + 1 := by rw [hw0]; simp
  have g0 : w0.heap[w.heap.size]? = some (.cells #[.nilFunc, .nilFunc, .nilFunc, .nilFunc] 55 (0, 0)) := by rw [hw0]; exact heap_alloc_new w _
  have HA := Lib.hid (at_name w0 ⟨X, 1, none⟩ 16 70 71 #[])
  have HF := Lib.hid (And.intro hb0 (And.intro hz0 g0))
  have HW0 := Lib.hid hw0
  clear hw0 hb0 hz0 g0
  go_enter Try.func55, Try.ntmps55
  go_wp2_with (rw [← HW0.out])
  refine HA.out.mono ?_
  rintro e w1 ⟨fs, rfl, hb1, bp, bm, bu, bg, rfl, f1, f2, f3, f4⟩
  obtain ⟨hb0, hz0, g0⟩ := HF.out
  have L0 := Lib.hid ((hb1.block w.heap.size (by omega)).trans g0)
  have HI := Lib.hid (show (Try.prog.info? 55).map (·.size) = some (#[.func (.func 92) #[] #[ptr bm 0, ptr bp 0], .func (.func 93) #[] #[ptr bu 0, ptr bp 0], .func (.func 94) #[] #[ptr bg 0, ptr bp 0], .func (.func 95) #[] #[ptr bp 0]] : Array Value).size from sizeFld)
  have HS := Lib.hid (show (#[.nilFunc, .nilFunc, .nilFunc, .nilFunc] : Array Value).size = (#[.func (.func 92) #[] #[ptr bm 0, ptr bp 0], .func (.func 93) #[] #[ptr bu 0, ptr bp 0], .func (.func 94) #[] #[ptr bg 0, ptr bp 0], .func (.func 95) #[] #[ptr bp 0]] : Array Value).size from rfl)
  have H1 := Lib.hid (show (#[.func (.func 92) #[] #[ptr bm 0, ptr bp 0], .func (.func 93) #[] #[ptr bu 0, ptr bp 0], .func (.func 94) #[] #[ptr bg 0, ptr bp 0], .func (.func 95) #[] #[ptr bp 0]] : Array Value).all (·.oneCell') = true from by simp [Value.oneCell'])
  have hb2 := below_setRow (hb0.trans (hb1.mono (by omega))) (Nat.le_refl w.heap.size) #[.func (.func 92) #[] #[ptr bm 0, ptr bp 0], .func (.func 93) #[] #[ptr bu 0, ptr bp 0], .func (.func 94) #[] #[ptr bg 0, ptr bp 0], .func (.func 95) #[] #[ptr bp 0]]
  have hk2 : ∀ b, w0.heap.size ≤ b → b < w1.heap.size → (w1.setRow w.heap.size #[.func (.func 92) #[] #[ptr bm 0, ptr bp 0], .func (.func 93) #[] #[ptr bu 0, ptr bp 0], .func (.func 94) #[] #[ptr bg 0, ptr bp 0], .func (.func 95) #[] #[ptr bp 0]]).heap[b]? = w1.heap[b]? := fun b h1 _ => setRow_other _ _ _ _ (by omega)
  have hsz : (w1.setRow w.heap.size #[.func (.func 92) #[] #[ptr bm 0, ptr bp 0], .func (.func 93) #[] #[ptr bu 0, ptr bp 0], .func (.func 94) #[] #[ptr bg 0, ptr bp 0], .func (.func 95) #[] #[ptr bp 0]]).heap.size = w1.heap.size := by simp [World.setRow]
  have HC := Lib.hid (show Below w.heap.size w (w1.setRow w.heap.size #[.func (.func 92) #[] #[ptr bm 0, ptr bp 0], .func (.func 93) #[] #[ptr bu 0, ptr bp 0], .func (.func 94) #[] #[ptr bg 0, ptr bp 0], .func (.func 95) #[] #[ptr bp 0]]) ∧ FldC (w1.setRow w.heap.size #[.func (.func 92) #[] #[ptr bm 0, ptr bp 0], .func (.func 93) #[] #[ptr bu 0, ptr bp 0], .func (.func 94) #[] #[ptr bg 0, ptr bp 0], .func (.func 95) #[] #[ptr bp 0]]) w.heap.size (w1.setRow w.heap.size #[.func (.func 92) #[] #[ptr bm 0, ptr bp 0], .func (.func 93) #[] #[ptr bu 0, ptr bp 0], .func (.func 94) #[] #[ptr bg 0, ptr bp 0], .func (.func 95) #[] #[ptr bp 0]]).heap.size X .name [.func (.func 92) #[] #[ptr bm 0, ptr bp 0], .func (.func 93) #[] #[ptr bu 0, ptr bp 0], .func (.func 94) #[] #[ptr bg 0, ptr bp 0], .func (.func 95) #[] #[ptr bp 0]] from
    ⟨hb2, bp, bm, bu, bg, rfl, (f1.keep hk2).wide (by omega) (by omega), (f2.keep hk2).wide (by omega) (by omega), (f3.keep hk2).wide (by omega) (by omega), (f4.keep hk2).wide (by omega) (by omega)⟩)
  have HR := Lib.hid (setRow_heap w1 w.heap.size #[.nilFunc, .nilFunc, .nilFunc, .nilFunc] #[.func (.func 92) #[] #[ptr bm 0, ptr bp 0], .func (.func 93) #[] #[ptr bu 0, ptr bp 0], .func (.func 94) #[] #[ptr bg 0, ptr bp 0], .func (.func 95) #[] #[ptr bp 0]] 55 (0, 0) L0.out)
  clear hb0 hz0 g0 hb1 f1 f2 f3 f4 hb2 hk2 hsz
  go_wp2_with (refine wpList_store_row rfl 55 _ _ rfl w.heap.size #[.func (.func 92) #[] #[ptr bm 0, ptr bp 0], .func (.func 93) #[] #[ptr bu 0, ptr bp 0], .func (.func 94) #[] #[ptr bg 0, ptr bp 0], .func (.func 95) #[] #[ptr bp 0]] rfl rfl 55 #[.nilFunc, .nilFunc, .nilFunc, .nilFunc] L0.out HI.out HS.out H1.out ?_)
  exact bodyPost_ret (results_cell_one (t := 55) (p := 2) rfl _ _ w.heap.size _ (0, 0) _ rfl HR.out Try.underlying55 rfl HI.out) rfl ⟨_, rfl, HC.out.1, HC.out.2⟩
set_option maxHeartbeats 2000000 in
theorem writes_dev (w : World) (X : Nat) : Calls Try.prog 56 #[ptr X 0] w (FldMade w X .writes) := by
  obtain ⟨w0, hw0⟩ : ∃ w0, w0 = w.alloc (.cells #[.nilFunc, .nilFunc, .nilFunc, .nilFunc] 55) := ⟨_, rfl⟩
  have hb0 : Below w.heap.size w w0 := by rw [hw0]; exact (Below.refl _ w).alloc (Nat.le_refl _) _
  have hz0 : w0.heap.size = w.heap.size + 1 := by rw [hw0]; simp
  have g0 : w0.heap[w.heap.size]? = some (.cells #[.nilFunc, .nilFunc, .nilFunc, .nilFunc] 55 (0, 0)) := by rw [hw0]; exact heap_alloc_new w _
  have HA := Lib.hid (at_writes w0 ⟨X, 5, none⟩ 18 73 74 #[])
  have HF := Lib.hid (And.intro hb0 (And.intro hz0 g0))
  have HW0 := Lib.hid hw0
  clear hw0 hb0 hz0 g0
  go_enter Try.func56, Try.ntmps56
  go_wp2_with (rw [← HW0.out])
  refine HA.out.mono ?_
  rintro e w1 ⟨fs, rfl, hb1, bp, bm, bu, bg, rfl, f1, f2, f3, f4⟩
  obtain ⟨hb0, hz0, g0⟩ := HF.out
  have L0 := Lib.hid ((hb1.block w.heap.size (by omega)).trans g0)
  have HI := Lib.hid (show (Try.prog.info? 55).map (·.size) = some (#[.func (.func 96) #[] #[ptr bm 0, ptr bp 0], .func (.func 97) #[] #[ptr bu 0, ptr bp 0], .func (.func 98) #[] #[ptr bg 0, ptr bp 0], .func (.func 99) #[] #[ptr bp 0]] : Array Value).size from sizeFld)
  have HS := Lib.hid (show (#[.nilFunc, .nilFunc, .nilFunc, .nilFunc] : Array Value).size = (#[.func (.func 96) #[] #[ptr bm 0, ptr bp 0], .func (.func 97) #[] #[ptr bu 0, ptr bp 0], .func (.func 98) #[] #[ptr bg 0, ptr bp 0], .func (.func 99) #[] #[ptr bp 0]] : Array Value).size from rfl)
  have H1 := Lib.hid (show (#[.func (.func 96) #[] #[ptr bm 0, ptr bp 0], .func (.func 97) #[] #[ptr bu 0, ptr bp 0], .func (.func 98) #[] #[ptr bg 0, ptr bp 0], .func (.func 99) #[] #[ptr bp 0]] : Array Value).all (·.oneCell') = true from by simp [Value.oneCell'])
  have hb2 := below_setRow (hb0.trans (hb1.mono (by omega))) (Nat.le_refl w.heap.size) #[.func (.func 96) #[] #[ptr bm 0, ptr bp 0], .func (.func 97) #[] #[ptr bu 0, ptr bp 0], .func (.func 98) #[] #[ptr bg 0, ptr bp 0], .func (.func 99) #[] #[ptr bp 0]]
  have hk2 : ∀ b, w0.heap.size ≤ b → b < w1.heap.size → (w1.setRow w.heap.size #[.func (.func 96) #[] #[ptr bm 0, ptr bp 0], .func (.func 97) #[] #[ptr bu 0, ptr bp 0], .func (.func 98) #[] #[ptr bg 0, ptr bp 0], .func (.func 99) #[] #[ptr bp 0]]).heap[b]? = w1.heap[b]? := fun b h1 _ => setRow_other _ _ _ _ (by omega)
  have hsz : (w1.setRow w.heap.size #[.func (.func 96) #[] #[ptr bm 0, ptr bp 0], .func (.func 97) #[] #[ptr bu 0, ptr bp 0], .func (.func 98) #[] #[ptr bg 0, ptr bp 0], .func (.func 99) #[] #[ptr bp 0]]).heap.size = w1.heap.size := by simp [World.setRow]
  have HC := Lib.hid (show Below w.heap.size w (w1.setRow w.heap.size #[.func (.func 96) #[] #[ptr bm 0, ptr bp 0], .func (.func 97) #[] #[ptr bu 0, ptr bp 0], .func (.func 98) #[] #[ptr bg 0, ptr bp 0], .func (.func 99) #[] #[ptr bp 0]]) ∧ FldC (w1.setRow w.heap.size #[.func (.func 96) #[] #[ptr bm 0, ptr bp 0], .func (.func 97) #[] #[ptr bu 0, ptr bp 0], .func (.func 98) #[] #[ptr bg 0, ptr bp 0], .func (.func 99) #[] #[ptr bp 0]]) w.heap.size (w1.setRow w.heap.size #[.func (.func 96) #[] #[ptr bm 0, ptr bp 0], .func (.func 97) #[] #[ptr bu 0, ptr bp 0], .func (.func 98) #[] #[ptr bg 0, ptr bp 0], .func (.func 99) #[] #[ptr bp 0]]).heap.size X .writes [.func (.func 96) #[] #[ptr bm 0, ptr bp 0], .func (.func 97) #[] #[ptr bu 0, ptr bp 0], .func (.func 98) #[] #[ptr bg 0, ptr bp 0], .func (.func 99) #[] #[ptr bp 0]] from
    ⟨hb2, bp, bm, bu, bg, rfl, (f1.keep hk2).wide (by omega) (by omega), (f2.keep hk2).wide (by omega) (by omega), (f3.keep hk2).wide (by omega) (by omega), (f4.keep hk2).wide (by omega) (by omega)⟩)
  have HR := Lib.hid (setRow_heap w1 w.heap.size #[.nilFunc, .nilFunc, .nilFunc, .nilFunc] #[.func (.func 96) #[] #[ptr bm 0, ptr bp 0], .func (.func 97) #[] #[ptr bu 0, ptr bp 0], .func (.func 98) #[] #[ptr bg 0, ptr bp 0], .func (.func 99) #[] #[ptr bp 0]] 55 (0, 0) L0.out)
  clear hb0 hz0 g0 hb1 f1 f2 f3 f4 hb2 hk2 hsz
  go_wp2_with (refine wpList_store_row rfl 55 _ _ rfl w.heap.size #[.func (.func 96) #[] #[ptr bm 0, ptr bp 0], .func (.func 97) #[] #[ptr bu 0, ptr bp 0], .func (.func 98) #[] #[ptr bg 0, ptr bp 0], .func (.func 99) #[] #[ptr bp 0]] rfl rfl 55 #[.nilFunc, .nilFunc, .nilFunc, .nilFunc] L0.out HI.out HS.out H1.out ?_)
  exact bodyPost_ret (results_cell_one (t := 55) (p := 2) rfl _ _ w.heap.size _ (0, 0) _ rfl HR.out Try.underlying55 rfl HI.out) rfl ⟨_, rfl, HC.out.1, HC.out.2⟩
set_option maxHeartbeats 2000000 in
theorem give_dev (w : World) (X : Nat) : Calls Try.prog 58 #[ptr X 0] w (FldMade w X .give) := by
  obtain ⟨w0, hw0⟩ : ∃ w0, w0 = w.alloc (.cells #[.nilFunc, .nilFunc, .nilFunc, .nilFunc] 55) := ⟨_, rfl⟩
  have hb0 : Below w.heap.size w w0 := by rw [hw0]; exact (Below.refl _ w).alloc (Nat.le_refl _) _
  have hz0 : w0.heap.size = w.heap.size + 1 := by rw [hw0]; simp
  have g0 : w0.heap[w.heap.size]? = some (.cells #[.nilFunc, .nilFunc, .nilFunc, .nilFunc] 55 (0, 0)) := by rw [hw0]; exact heap_alloc_new w _
  have HA := Lib.hid (at_int w0 ⟨X, 6, none⟩ 76 77 78 #[])
  have HF := Lib.hid (And.intro hb0 (And.intro hz0 g0))
  have HW0 := Lib.hid hw0
  clear hw0 hb0 hz0 g0
  go_enter Try.func58, Try.ntmps58
  go_wp2_with (rw [← HW0.out])
  refine HA.out.mono ?_
  rintro e w1 ⟨fs, rfl, hb1, bp, bm, bu, bg, rfl, f1, f2, f3, f4⟩
  obtain ⟨hb0, hz0, g0⟩ := HF.out
  have L0 := Lib.hid ((hb1.block w.heap.size (by omega)).trans g0)
  have HI := Lib.hid (show (Try.prog.info? 55).map (·.size) = some (#[.func (.func 100) #[] #[ptr bm 0, ptr bp 0], .func (.func 101) #[] #[ptr bu 0, ptr bp 0], .func (.func 102) #[] #[ptr bg 0, ptr bp 0], .func (.func 103) #[] #[ptr bp 0]] : Array Value).size from sizeFld)
  have HS := Lib.hid (show (#[.nilFunc, .nilFunc, .nilFunc, .nilFunc] : Array Value).size = (#[.func (.func 100) #[] #[ptr bm 0, ptr bp 0], .func (.func 101) #[] #[ptr bu 0, ptr bp 0], .func (.func 102) #[] #[ptr bg 0, ptr bp 0], .func (.func 103) #[] #[ptr bp 0]] : Array Value).size from rfl)
  have H1 := Lib.hid (show (#[.func (.func 100) #[] #[ptr bm 0, ptr bp 0], .func (.func 101) #[] #[ptr bu 0, ptr bp 0], .func (.func 102) #[] #[ptr bg 0, ptr bp 0], .func (.func 103) #[] #[ptr bp 0]] : Array Value).all (·.oneCell') = true from by simp [Value.oneCell'])
  have hb2 := below_setRow (hb0.trans (hb1.mono (by omega))) (Nat.le_refl w.heap.size) #[.func (.func 100) #[] #[ptr bm 0, ptr bp 0], .func (.func 101) #[] #[ptr bu 0, ptr bp 0], .func (.func 102) #[] #[ptr bg 0, ptr bp 0], .func (.func 103) #[] #[ptr bp 0]]
  have hk2 : ∀ b, w0.heap.size ≤ b → b < w1.heap.size → (w1.setRow w.heap.size #[.func (.func 100) #[] #[ptr bm 0, ptr bp 0], .func (.func 101) #[] #[ptr bu 0, ptr bp 0], .func (.func 102) #[] #[ptr bg 0, ptr bp 0], .func (.func 103) #[] #[ptr bp 0]]).heap[b]? = w1.heap[b]? := fun b h1 _ => setRow_other _ _ _ _ (by omega)
  have hsz : (w1.setRow w.heap.size #[.func (.func 100) #[] #[ptr bm 0, ptr bp 0], .func (.func 101) #[] #[ptr bu 0, ptr bp 0], .func (.func 102) #[] #[ptr bg 0, ptr bp 0], .func (.func 103) #[] #[ptr bp 0]]).heap.size = w1.heap.size := by simp [World.setRow]
  have HC := Lib.hid (show Below w.heap.size w (w1.setRow w.heap.size #[.func (.func 100) #[] #[ptr bm 0, ptr bp 0], .func (.func 101) #[] #[ptr bu 0, ptr bp 0], .func (.func 102) #[] #[ptr bg 0, ptr bp 0], .func (.func 103) #[] #[ptr bp 0]]) ∧ FldC (w1.setRow w.heap.size #[.func (.func 100) #[] #[ptr bm 0, ptr bp 0], .func (.func 101) #[] #[ptr bu 0, ptr bp 0], .func (.func 102) #[] #[ptr bg 0, ptr bp 0], .func (.func 103) #[] #[ptr bp 0]]) w.heap.size (w1.setRow w.heap.size #[.func (.func 100) #[] #[ptr bm 0, ptr bp 0], .func (.func 101) #[] #[ptr bu 0, ptr bp 0], .func (.func 102) #[] #[ptr bg 0, ptr bp 0], .func (.func 103) #[] #[ptr bp 0]]).heap.size X .give [.func (.func 100) #[] #[ptr bm 0, ptr bp 0], .func (.func 101) #[] #[ptr bu 0, ptr bp 0], .func (.func 102) #[] #[ptr bg 0, ptr bp 0], .func (.func 103) #[] #[ptr bp 0]] from
    ⟨hb2, bp, bm, bu, bg, rfl, (f1.keep hk2).wide (by omega) (by omega), (f2.keep hk2).wide (by omega) (by omega), (f3.keep hk2).wide (by omega) (by omega), (f4.keep hk2).wide (by omega) (by omega)⟩)
  have HR := Lib.hid (setRow_heap w1 w.heap.size #[.nilFunc, .nilFunc, .nilFunc, .nilFunc] #[.func (.func 100) #[] #[ptr bm 0, ptr bp 0], .func (.func 101) #[] #[ptr bu 0, ptr bp 0], .func (.func 102) #[] #[ptr bg 0, ptr bp 0], .func (.func 103) #[] #[ptr bp 0]] 55 (0, 0) L0.out)
  clear hb0 hz0 g0 hb1 f1 f2 f3 f4 hb2 hk2 hsz
  go_wp2_with (refine wpList_store_row rfl 55 _ _ rfl w.heap.size #[.func (.func 100) #[] #[ptr bm 0, ptr bp 0], .func (.func 101) #[] #[ptr bu 0, ptr bp 0], .func (.func 102) #[] #[ptr bg 0, ptr bp 0], .func (.func 103) #[] #[ptr bp 0]] rfl rfl 55 #[.nilFunc, .nilFunc, .nilFunc, .nilFunc] L0.out HI.out HS.out H1.out ?_)
  exact bodyPost_ret (results_cell_one (t := 55) (p := 2) rfl _ _ w.heap.size _ (0, 0) _ rfl HR.out Try.underlying55 rfl HI.out) rfl ⟨_, rfl, HC.out.1, HC.out.2⟩
set_option maxHeartbeats 2000000 in
theorem yesf_dev (w : World) (X : Nat) : Calls Try.prog 61 #[ptr X 0] w (FldMade w X .yes) := by
  obtain ⟨w0, hw0⟩ : ∃ w0, w0 = w.alloc (.cells #[.nilFunc, .nilFunc, .nilFunc, .nilFunc] 55) := ⟨_, rfl⟩
  have hb0 : Below w.heap.size w w0 := by rw [hw0]; exact (Below.refl _ w).alloc (Nat.le_refl _) _
  have hz0 : w0.heap.size = w.heap.size + 1 := by rw [hw0]; simp
  have g0 : w0.heap[w.heap.size]? = some (.cells #[.nilFunc, .nilFunc, .nilFunc, .nilFunc] 55 (0, 0)) := by rw [hw0]; exact heap_alloc_new w _
  have HA := Lib.hid (at_bool w0 ⟨X, 4, none⟩ 80 82 83 #[])
  have HF := Lib.hid (And.intro hb0 (And.intro hz0 g0))
  have HW0 := Lib.hid hw0
  clear hw0 hb0 hz0 g0
  go_enter Try.func61, Try.ntmps61
  go_wp2_with (rw [← HW0.out])
  refine HA.out.mono ?_
  rintro e w1 ⟨fs, rfl, hb1, bp, bm, bu, bg, rfl, f1, f2, f3, f4⟩
  obtain ⟨hb0, hz0, g0⟩ := HF.out
  have L0 := Lib.hid ((hb1.block w.heap.size (by omega)).trans g0)
  have HI := Lib.hid (show (Try.prog.info? 55).map (·.size) = some (#[.func (.func 105) #[] #[ptr bm 0, ptr bp 0], .func (.func 106) #[] #[ptr bu 0, ptr bp 0], .func (.func 107) #[] #[ptr bg 0, ptr bp 0], .func (.func 108) #[] #[ptr bp 0]] : Array Value).size from sizeFld)
  have HS := Lib.hid (show (#[.nilFunc, .nilFunc, .nilFunc, .nilFunc] : Array Value).size = (#[.func (.func 105) #[] #[ptr bm 0, ptr bp 0], .func (.func 106) #[] #[ptr bu 0, ptr bp 0], .func (.func 107) #[] #[ptr bg 0, ptr bp 0], .func (.func 108) #[] #[ptr bp 0]] : Array Value).size from rfl)
  have H1 := Lib.hid (show (#[.func (.func 105) #[] #[ptr bm 0, ptr bp 0], .func (.func 106) #[] #[ptr bu 0, ptr bp 0], .func (.func 107) #[] #[ptr bg 0, ptr bp 0], .func (.func 108) #[] #[ptr bp 0]] : Array Value).all (·.oneCell') = true from by simp [Value.oneCell'])
  have hb2 := below_setRow (hb0.trans (hb1.mono (by omega))) (Nat.le_refl w.heap.size) #[.func (.func 105) #[] #[ptr bm 0, ptr bp 0], .func (.func 106) #[] #[ptr bu 0, ptr bp 0], .func (.func 107) #[] #[ptr bg 0, ptr bp 0], .func (.func 108) #[] #[ptr bp 0]]
  have hk2 : ∀ b, w0.heap.size ≤ b → b < w1.heap.size → (w1.setRow w.heap.size #[.func (.func 105) #[] #[ptr bm 0, ptr bp 0], .func (.func 106) #[] #[ptr bu 0, ptr bp 0], .func (.func 107) #[] #[ptr bg 0, ptr bp 0], .func (.func 108) #[] #[ptr bp 0]]).heap[b]? = w1.heap[b]? := fun b h1 _ => setRow_other _ _ _ _ (by omega)
  have hsz : (w1.setRow w.heap.size #[.func (.func 105) #[] #[ptr bm 0, ptr bp 0], .func (.func 106) #[] #[ptr bu 0, ptr bp 0], .func (.func 107) #[] #[ptr bg 0, ptr bp 0], .func (.func 108) #[] #[ptr bp 0]]).heap.size = w1.heap.size := by simp [World.setRow]
  have HC := Lib.hid (show Below w.heap.size w (w1.setRow w.heap.size #[.func (.func 105) #[] #[ptr bm 0, ptr bp 0], .func (.func 106) #[] #[ptr bu 0, ptr bp 0], .func (.func 107) #[] #[ptr bg 0, ptr bp 0], .func (.func 108) #[] #[ptr bp 0]]) ∧ FldC (w1.setRow w.heap.size #[.func (.func 105) #[] #[ptr bm 0, ptr bp 0], .func (.func 106) #[] #[ptr bu 0, ptr bp 0], .func (.func 107) #[] #[ptr bg 0, ptr bp 0], .func (.func 108) #[] #[ptr bp 0]]) w.heap.size (w1.setRow w.heap.size #[.func (.func 105) #[] #[ptr bm 0, ptr bp 0], .func (.func 106) #[] #[ptr bu 0, ptr bp 0], .func (.func 107) #[] #[ptr bg 0, ptr bp 0], .func (.func 108) #[] #[ptr bp 0]]).heap.size X .yes [.func (.func 105) #[] #[ptr bm 0, ptr bp 0], .func (.func 106) #[] #[ptr bu 0, ptr bp 0], .func (.func 107) #[] #[ptr bg 0, ptr bp 0], .func (.func 108) #[] #[ptr bp 0]] from
    ⟨hb2, bp, bm, bu, bg, rfl, (f1.keep hk2).wide (by omega) (by omega), (f2.keep hk2).wide (by omega) (by omega), (f3.keep hk2).wide (by omega) (by omega), (f4.keep hk2).wide (by omega) (by omega)⟩)
  have HR := Lib.hid (setRow_heap w1 w.heap.size #[.nilFunc, .nilFunc, .nilFunc, .nilFunc] #[.func (.func 105) #[] #[ptr bm 0, ptr bp 0], .func (.func 106) #[] #[ptr bu 0, ptr bp 0], .func (.func 107) #[] #[ptr bg 0, ptr bp 0], .func (.func 108) #[] #[ptr bp 0]] 55 (0, 0) L0.out)
  clear hb0 hz0 g0 hb1 f1 f2 f3 f4 hb2 hk2 hsz
  go_wp2_with (refine wpList_store_row rfl 55 _ _ rfl w.heap.size #[.func (.func 105) #[] #[ptr bm 0, ptr bp 0], .func (.func 106) #[] #[ptr bu 0, ptr bp 0], .func (.func 107) #[] #[ptr bg 0, ptr bp 0], .func (.func 108) #[] #[ptr bp 0]] rfl rfl 55 #[.nilFunc, .nilFunc, .nilFunc, .nilFunc] L0.out HI.out HS.out H1.out ?_)
  exact bodyPost_ret (results_cell_one (t := 55) (p := 2) rfl _ _ w.heap.size _ (0, 0) _ rfl HR.out Try.underlying55 rfl HI.out) rfl ⟨_, rfl, HC.out.1, HC.out.2⟩
set_option maxHeartbeats 2000000 in
theorem shardsf_dev (w : World) (X : Nat) : Calls Try.prog 63 #[ptr X 0] w (FldMade w X .shards) := by
  obtain ⟨w0, hw0⟩ : ∃ w0, w0 = w.alloc (.cells #[.nilFunc, .nilFunc, .nilFunc, .nilFunc] 55) := ⟨_, rfl⟩
  have hb0 : Below w.heap.size w w0 := by rw [hw0]; exact (Below.refl _ w).alloc (Nat.le_refl _) _
  have hz0 : w0.heap.size = w.heap.size + 1 := by rw [hw0]; simp
  have g0 : w0.heap[w.heap.size]? = some (.cells #[.nilFunc, .nilFunc, .nilFunc, .nilFunc] 55 (0, 0)) := by rw [hw0]; exact heap_alloc_new w _
  have HA := Lib.hid (at_int w0 ⟨X, 8, none⟩ 84 77 78 #[])
  have HF := Lib.hid (And.intro hb0 (And.intro hz0 g0))
  have HW0 := Lib.hid hw0
  clear hw0 hb0 hz0 g0
  go_enter Try.func63, Try.ntmps63
  go_wp2_with (rw [← HW0.out])
  refine HA.out.mono ?_
  rintro e w1 ⟨fs, rfl, hb1, bp, bm, bu, bg, rfl, f1, f2, f3, f4⟩
  obtain ⟨hb0, hz0, g0⟩ := HF.out
  have L0 := Lib.hid ((hb1.block w.heap.size (by omega)).trans g0)
  have HI := Lib.hid (show (Try.prog.info? 55).map (·.size) = some (#[.func (.func 100) #[] #[ptr bm 0, ptr bp 0], .func (.func 101) #[] #[ptr bu 0, ptr bp 0], .func (.func 102) #[] #[ptr bg 0, ptr bp 0], .func (.func 103) #[] #[ptr bp 0]] : Array Value).size from sizeFld)
  have HS := Lib.hid (show (#[.nilFunc, .nilFunc, .nilFunc, .nilFunc] : Array Value).size = (#[.func (.func 100) #[] #[ptr bm 0, ptr bp 0], .func (.func 101) #[] #[ptr bu 0, ptr bp 0], .func (.func 102) #[] #[ptr bg 0, ptr bp 0], .func (.func 103) #[] #[ptr bp 0]] : Array Value).size from rfl)
  have H1 := Lib.hid (show (#[.func (.func 100) #[] #[ptr bm 0, ptr bp 0], .func (.func 101) #[] #[ptr bu 0, ptr bp 0], .func (.func 102) #[] #[ptr bg 0, ptr bp 0], .func (.func 103) #[] #[ptr bp 0]] : Array Value).all (·.oneCell') = true from by simp [Value.oneCell'])
  have hb2 := below_setRow (hb0.trans (hb1.mono (by omega))) (Nat.le_refl w.heap.size) #[.func (.func 100) #[] #[ptr bm 0, ptr bp 0], .func (.func 101) #[] #[ptr bu 0, ptr bp 0], .func (.func 102) #[] #[ptr bg 0, ptr bp 0], .func (.func 103) #[] #[ptr bp 0]]
  have hk2 : ∀ b, w0.heap.size ≤ b → b < w1.heap.size → (w1.setRow w.heap.size #[.func (.func 100) #[] #[ptr bm 0, ptr bp 0], .func (.func 101) #[] #[ptr bu 0, ptr bp 0], .func (.func 102) #[] #[ptr bg 0, ptr bp 0], .func (.func 103) #[] #[ptr bp 0]]).heap[b]? = w1.heap[b]? := fun b h1 _ => setRow_other _ _ _ _ (by omega)
  have hsz : (w1.setRow w.heap.size #[.func (.func 100) #[] #[ptr bm 0, ptr bp 0], .func (.func 101) #[] #[ptr bu 0, ptr bp 0], .func (.func 102) #[] #[ptr bg 0, ptr bp 0], .func (.func 103) #[] #[ptr bp 0]]).heap.size = w1.heap.size := by simp [World.setRow]
  have HC := Lib.hid (show Below w.heap.size w (w1.setRow w.heap.size #[.func (.func 100) #[] #[ptr bm 0, ptr bp 0], .func (.func 101) #[] #[ptr bu 0, ptr bp 0], .func (.func 102) #[] #[ptr bg 0, ptr bp 0], .func (.func 103) #[] #[ptr bp 0]]) ∧ FldC (w1.setRow w.heap.size #[.func (.func 100) #[] #[ptr bm 0, ptr bp 0], .func (.func 101) #[] #[ptr bu 0, ptr bp 0], .func (.func 102) #[] #[ptr bg 0, ptr bp 0], .func (.func 103) #[] #[ptr bp 0]]) w.heap.size (w1.setRow w.heap.size #[.func (.func 100) #[] #[ptr bm 0, ptr bp 0], .func (.func 101) #[] #[ptr bu 0, ptr bp 0], .func (.func 102) #[] #[ptr bg 0, ptr bp 0], .func (.func 103) #[] #[ptr bp 0]]).heap.size X .shards [.func (.func 100) #[] #[ptr bm 0, ptr bp 0], .func (.func 101) #[] #[ptr bu 0, ptr bp 0], .func (.func 102) #[] #[ptr bg 0, ptr bp 0], .func (.func 103) #[] #[ptr bp 0]] from
    ⟨hb2, bp, bm, bu, bg, rfl, (f1.keep hk2).wide (by omega) (by omega), (f2.keep hk2).wide (by omega) (by omega), (f3.keep hk2).wide (by omega) (by omega), (f4.keep hk2).wide (by omega) (by omega)⟩)
  have HR := Lib.hid (setRow_heap w1 w.heap.size #[.nilFunc, .nilFunc, .nilFunc, .nilFunc] #[.func (.func 100) #[] #[ptr bm 0, ptr bp 0], .func (.func 101) #[] #[ptr bu 0, ptr bp 0], .func (.func 102) #[] #[ptr bg 0, ptr bp 0], .func (.func 103) #[] #[ptr bp 0]] 55 (0, 0) L0.out)
  clear hb0 hz0 g0 hb1 f1 f2 f3 f4 hb2 hk2 hsz
  go_wp2_with (refine wpList_store_row rfl 55 _ _ rfl w.heap.size #[.func (.func 100) #[] #[ptr bm 0, ptr bp 0], .func (.func 101) #[] #[ptr bu 0, ptr bp 0], .func (.func 102) #[] #[ptr bg 0, ptr bp 0], .func (.func 103) #[] #[ptr bp 0]] rfl rfl 55 #[.nilFunc, .nilFunc, .nilFunc, .nilFunc] L0.out HI.out HS.out H1.out ?_)
  exact bodyPost_ret (results_cell_one (t := 55) (p := 2) rfl _ _ w.heap.size _ (0, 0) _ rfl HR.out Try.underlying55 rfl HI.out) rfl ⟨_, rfl, HC.out.1, HC.out.2⟩
set_option maxHeartbeats 2000000 in
theorem changef_dev (w : World) (X : Nat) : Calls Try.prog 64 #[ptr X 0] w (FldMade w X .change) := by
  obtain ⟨w0, hw0⟩ : ∃ w0, w0 = w.alloc (.cells #[.nilFunc, .nilFunc, .nilFunc, .nilFunc] 55) := ⟨_, rfl⟩
  have hb0 : Below w.heap.size w w0 := by rw [hw0]; exact (Below.refl _ w).alloc (Nat.le_refl _) _
  have hz0 : w0.heap.size = w.heap.size + 1 := by rw [hw0]; simp
  have g0 : w0.heap[w.heap.size]? = some (.cells #[.nilFunc, .nilFunc, .nilFunc, .nilFunc] 55 (0, 0)) := by rw [hw0]; exact heap_alloc_new w _
  have HA := Lib.hid (at_change w0 ⟨X, 9, none⟩ 86 87 88 #[])
  have HF := Lib.hid (And.intro hb0 (And.intro hz0 g0))
  have HW0 := Lib.hid hw0
  clear hw0 hb0 hz0 g0
  go_enter Try.func64, Try.ntmps64
  go_wp2_with (rw [← HW0.out])
  refine HA.out.mono ?_
  rintro e w1 ⟨fs, rfl, hb1, bp, bm, bu, bg, rfl, f1, f2, f3, f4⟩
  obtain ⟨hb0, hz0, g0⟩ := HF.out
  have L0 := Lib.hid ((hb1.block w.heap.size (by omega)).trans g0)
  have HI := Lib.hid (show (Try.prog.info? 55).map (·.size) = some (#[.func (.func 109) #[] #[ptr bm 0, ptr bp 0], .func (.func 110) #[] #[ptr bu 0, ptr bp 0], .func (.func 111) #[] #[ptr bg 0, ptr bp 0], .func (.func 112) #[] #[ptr bp 0]] : Array Value).size from sizeFld)
  have HS := Lib.hid (show (#[.nilFunc, .nilFunc, .nilFunc, .nilFunc] : Array Value).size = (#[.func (.func 109) #[] #[ptr bm 0, ptr bp 0], .func (.func 110) #[] #[ptr bu 0, ptr bp 0], .func (.func 111) #[] #[ptr bg 0, ptr bp 0], .func (.func 112) #[] #[ptr bp 0]] : Array Value).size from rfl)
  have H1 := Lib.hid (show (#[.func (.func 109) #[] #[ptr bm 0, ptr bp 0], .func (.func 110) #[] #[ptr bu 0, ptr bp 0], .func (.func 111) #[] #[ptr bg 0, ptr bp 0], .func (.func 112) #[] #[ptr bp 0]] : Array Value).all (·.oneCell') = true from by simp [Value.oneCell'])
  have hb2 := below_setRow (hb0.trans (hb1.mono (by omega))) (Nat.le_refl w.heap.size) #[.func (.func 109) #[] #[ptr bm 0, ptr bp 0], .func (.func 110) #[] #[ptr bu 0, ptr bp 0], .func (.func 111) #[] #[ptr bg 0, ptr bp 0], .func (.func 112) #[] #[ptr bp 0]]
  have hk2 : ∀ b, w0.heap.size ≤ b → b < w1.heap.size → (w1.setRow w.heap.size #[.func (.func 109) #[] #[ptr bm 0, ptr bp 0], .func (.func 110) #[] #[ptr bu 0, ptr bp 0], .func (.func 111) #[] #[ptr bg 0, ptr bp 0], .func (.func 112) #[] #[ptr bp 0]]).heap[b]? = w1.heap[b]? := fun b h1 _ => setRow_other _ _ _ _ (by omega)
  have hsz : (w1.setRow w.heap.size #[.func (.func 109) #[] #[ptr bm 0, ptr bp 0], .func (.func 110) #[] #[ptr bu 0, ptr bp 0], .func (.func 111) #[] #[ptr bg 0, ptr bp 0], .func (.func 112) #[] #[ptr bp 0]]).heap.size = w1.heap.size := by simp [World.setRow]
  have HC := Lib.hid (show Below w.heap.size w (w1.setRow w.heap.size #[.func (.func 109) #[] #[ptr bm 0, ptr bp 0], .func (.func 110) #[] #[ptr bu 0, ptr bp 0], .func (.func 111) #[] #[ptr bg 0, ptr bp 0], .func (.func 112) #[] #[ptr bp 0]]) ∧ FldC (w1.setRow w.heap.size #[.func (.func 109) #[] #[ptr bm 0, ptr bp 0], .func (.func 110) #[] #[ptr bu 0, ptr bp 0], .func (.func 111) #[] #[ptr bg 0, ptr bp 0], .func (.func 112) #[] #[ptr bp 0]]) w.heap.size (w1.setRow w.heap.size #[.func (.func 109) #[] #[ptr bm 0, ptr bp 0], .func (.func 110) #[] #[ptr bu 0, ptr bp 0], .func (.func 111) #[] #[ptr bg 0, ptr bp 0], .func (.func 112) #[] #[ptr bp 0]]).heap.size X .change [.func (.func 109) #[] #[ptr bm 0, ptr bp 0], .func (.func 110) #[] #[ptr bu 0, ptr bp 0], .func (.func 111) #[] #[ptr bg 0, ptr bp 0], .func (.func 112) #[] #[ptr bp 0]] from
    ⟨hb2, bp, bm, bu, bg, rfl, (f1.keep hk2).wide (by omega) (by omega), (f2.keep hk2).wide (by omega) (by omega), (f3.keep hk2).wide (by omega) (by omega), (f4.keep hk2).wide (by omega) (by omega)⟩)
  have HR := Lib.hid (setRow_heap w1 w.heap.size #[.nilFunc, .nilFunc, .nilFunc, .nilFunc] #[.func (.func 109) #[] #[ptr bm 0, ptr bp 0], .func (.func 110) #[] #[ptr bu 0, ptr bp 0], .func (.func 111) #[] #[ptr bg 0, ptr bp 0], .func (.func 112) #[] #[ptr bp 0]] 55 (0, 0) L0.out)
  clear hb0 hz0 g0 hb1 f1 f2 f3 f4 hb2 hk2 hsz
  go_wp2_with (refine wpList_store_row rfl 55 _ _ rfl w.heap.size #[.func (.func 109) #[] #[ptr bm 0, ptr bp 0], .func (.func 110) #[] #[ptr bu 0, ptr bp 0], .func (.func 111) #[] #[ptr bg 0, ptr bp 0], .func (.func 112) #[] #[ptr bp 0]] rfl rfl 55 #[.nilFunc, .nilFunc, .nilFunc, .nilFunc] L0.out HI.out HS.out H1.out ?_)
  exact bodyPost_ret (results_cell_one (t := 55) (p := 2) rfl _ _ w.heap.size _ (0, 0) _ rfl HR.out Try.underlying55 rfl HI.out) rfl ⟨_, rfl, HC.out.1, HC.out.2⟩
set_option maxHeartbeats 2000000 in
theorem take_dev (w : World) (X : Nat)  : Calls Try.prog 59 #[ptr X 0] w (FldMade w X .take) := by
  obtain ⟨w0, hw0⟩ : ∃ w0, w0 = (w.alloc (.cells #[ptr X 0] 51)).alloc (.cells #[.nilFunc, .nilFunc, .nilFunc, .nilFunc] 55) := ⟨_, rfl⟩
  have hb0 : Below w.heap.size w w0 := by rw [hw0]; exact ((Below.refl _ w).alloc (Nat.le_refl _) _).alloc (by simp) _
  have hz0 : w0.heap.size = w.heap.size + 2 := by rw [hw0]; simp
  have gx : w0.heap[w.heap.size]? = some (.cells #[ptr X 0] 51 (0, 0)) := by rw [hw0]; exact (Below.heap_alloc _ _ _ (by simp)).trans (heap_alloc_new w _)
  have g0 : w0.heap[w.heap.size + 1]? = some (.cells #[.nilFunc, .nilFunc, .nilFunc, .nilFunc] 55 (0, 0)) := by
    rw [hw0]
    have h := heap_alloc_new (w.alloc (.cells #[ptr X 0] 51)) (.cells #[.nilFunc, .nilFunc, .nilFunc, .nilFunc] 55)
    rwa [World.size_alloc] at h
  have HA := Lib.hid (at_int w0 ⟨X, 7, none⟩ 79 77 78 #[ptr w.heap.size 0])
  have HF := Lib.hid (And.intro hb0 (And.intro hz0 (And.intro g0 gx)))
  have HW0 := Lib.hid hw0
  clear hw0 hb0 hz0 g0
  have cx : w0.cell? ⟨w.heap.size, 0, none⟩ = some (ptr X 0) := by rw [cell_of_row w0 _ 0 _ _ _ gx]; rfl
  clear gx
  go_enter Try.func59, Try.ntmps59
  go_wp2_with (rw [← HW0.out])
  refine HA.out.mono ?_
  rintro e w1 ⟨fs, rfl, hb1, bp, bm, bu, bg, rfl, f1, f2, f3, f4⟩
  obtain ⟨hb0, hz0, g0, gx⟩ := HF.out
  have L0 := Lib.hid ((hb1.block (w.heap.size + 1) (by omega)).trans g0)
  have HI := Lib.hid (show (Try.prog.info? 55).map (·.size) = some (#[.func (.func 100) #[] #[ptr bm 0, ptr bp 0], .func (.func 101) #[] #[ptr bu 0, ptr bp 0], .func (.func 102) #[] #[ptr bg 0, ptr bp 0], .func (.func 103) #[] #[ptr bp 0]] : Array Value).size from sizeFld)
  have HS := Lib.hid (show (#[.nilFunc, .nilFunc, .nilFunc, .nilFunc] : Array Value).size = (#[.func (.func 100) #[] #[ptr bm 0, ptr bp 0], .func (.func 101) #[] #[ptr bu 0, ptr bp 0], .func (.func 102) #[] #[ptr bg 0, ptr bp 0], .func (.func 103) #[] #[ptr bp 0]] : Array Value).size from rfl)
  have H1 := Lib.hid (show (#[.func (.func 100) #[] #[ptr bm 0, ptr bp 0], .func (.func 101) #[] #[ptr bu 0, ptr bp 0], .func (.func 102) #[] #[ptr bg 0, ptr bp 0], .func (.func 103) #[] #[ptr bp 0]] : Array Value).all (·.oneCell') = true from by simp [Value.oneCell'])
  have hb2 := below_setRow (hb0.trans (hb1.mono (by omega))) (show w.heap.size ≤ w.heap.size + 1 by omega) #[.func (.func 100) #[] #[ptr bm 0, ptr bp 0], .func (.func 101) #[] #[ptr bu 0, ptr bp 0], .func (.func 102) #[] #[ptr bg 0, ptr bp 0], .func (.func 103) #[] #[ptr bp 0]]
  have hk2 : ∀ b, w0.heap.size ≤ b → b < w1.heap.size → (w1.setRow (w.heap.size + 1) #[.func (.func 100) #[] #[ptr bm 0, ptr bp 0], .func (.func 101) #[] #[ptr bu 0, ptr bp 0], .func (.func 102) #[] #[ptr bg 0, ptr bp 0], .func (.func 103) #[] #[ptr bp 0]]).heap[b]? = w1.heap[b]? := fun b h1 _ => setRow_other _ _ _ _ (by omega)
  have hsz : (w1.setRow (w.heap.size + 1) #[.func (.func 100) #[] #[ptr bm 0, ptr bp 0], .func (.func 101) #[] #[ptr bu 0, ptr bp 0], .func (.func 102) #[] #[ptr bg 0, ptr bp 0], .func (.func 103) #[] #[ptr bp 0]]).heap.size = w1.heap.size := by simp [World.setRow]
  have hs1 := hb1.size
  have hx2 : FBox (w1.setRow (w.heap.size + 1) #[.func (.func 100) #[] #[ptr bm 0, ptr bp 0], .func (.func 101) #[] #[ptr bu 0, ptr bp 0], .func (.func 102) #[] #[ptr bg 0, ptr bp 0], .func (.func 103) #[] #[ptr bp 0]]) w.heap.size (w1.setRow (w.heap.size + 1) #[.func (.func 100) #[] #[ptr bm 0, ptr bp 0], .func (.func 101) #[] #[ptr bu 0, ptr bp 0], .func (.func 102) #[] #[ptr bg 0, ptr bp 0], .func (.func 103) #[] #[ptr bp 0]]).heap.size w.heap.size (ptr X 0) :=
    ⟨Nat.le_refl _, by omega, by rw [cell_of_row _ _ 0 _ _ _ ((setRow_other w1 (w.heap.size + 1) w.heap.size #[.func (.func 100) #[] #[ptr bm 0, ptr bp 0], .func (.func 101) #[] #[ptr bu 0, ptr bp 0], .func (.func 102) #[] #[ptr bg 0, ptr bp 0], .func (.func 103) #[] #[ptr bp 0]] (by omega)).trans ((hb1.block w.heap.size (by omega)).trans gx))]; rfl⟩
  have HC := Lib.hid (show Below w.heap.size w (w1.setRow (w.heap.size + 1) #[.func (.func 100) #[] #[ptr bm 0, ptr bp 0], .func (.func 101) #[] #[ptr bu 0, ptr bp 0], .func (.func 102) #[] #[ptr bg 0, ptr bp 0], .func (.func 103) #[] #[ptr bp 0]]) ∧ FldC (w1.setRow (w.heap.size + 1) #[.func (.func 100) #[] #[ptr bm 0, ptr bp 0], .func (.func 101) #[] #[ptr bu 0, ptr bp 0], .func (.func 102) #[] #[ptr bg 0, ptr bp 0], .func (.func 103) #[] #[ptr bp 0]]) w.heap.size (w1.setRow (w.heap.size + 1) #[.func (.func 100) #[] #[ptr bm 0, ptr bp 0], .func (.func 101) #[] #[ptr bu 0, ptr bp 0], .func (.func 102) #[] #[ptr bg 0, ptr bp 0], .func (.func 103) #[] #[ptr bp 0]]).heap.size X .take [.func (.func 100) #[] #[ptr bm 0, ptr bp 0], .func (.func 101) #[] #[ptr bu 0, ptr bp 0], .func (.func 102) #[] #[ptr bg 0, ptr bp 0], .func (.func 103) #[] #[ptr bp 0]] from
    ⟨hb2, w.heap.size, hx2, bp, bm, bu, bg, rfl, (f1.keep hk2).wide (by omega) (by omega), (f2.keep hk2).wide (by omega) (by omega), (f3.keep hk2).wide (by omega) (by omega), (f4.keep hk2).wide (by omega) (by omega)⟩)
  have HR := Lib.hid (setRow_heap w1 (w.heap.size + 1) #[.nilFunc, .nilFunc, .nilFunc, .nilFunc] #[.func (.func 100) #[] #[ptr bm 0, ptr bp 0], .func (.func 101) #[] #[ptr bu 0, ptr bp 0], .func (.func 102) #[] #[ptr bg 0, ptr bp 0], .func (.func 103) #[] #[ptr bp 0]] 55 (0, 0) L0.out)
  clear hb0 hz0 g0 gx hb1 f1 f2 f3 f4 hb2 hk2 hsz hs1 hx2
  go_wp2_with (refine wpList_store_row rfl 55 _ _ rfl (w.heap.size + 1) #[.func (.func 100) #[] #[ptr bm 0, ptr bp 0], .func (.func 101) #[] #[ptr bu 0, ptr bp 0], .func (.func 102) #[] #[ptr bg 0, ptr bp 0], .func (.func 103) #[] #[ptr bp 0]] rfl rfl 55 #[.nilFunc, .nilFunc, .nilFunc, .nilFunc] L0.out HI.out HS.out H1.out ?_)
  exact bodyPost_ret (results_cell_one (t := 55) (p := 2) rfl _ _ (w.heap.size + 1) _ (0, 0) _ rfl HR.out Try.underlying55 rfl HI.out) rfl ⟨_, rfl, HC.out.1, HC.out.2⟩
set_option maxHeartbeats 2000000 in
theorem num_dev (w : World) (X : Nat) (m : Int) : Calls Try.prog 67 #[ptr X 0, .int .i64 m] w (FldMade w X (.num m)) := by
  obtain ⟨w0, hw0⟩ : ∃ w0, w0 = (w.alloc (.cells #[.int .i64 m] 3)).alloc (.cells #[.nilFunc, .nilFunc, .nilFunc, .nilFunc] 55) := ⟨_, rfl⟩
  have hb0 : Below w.heap.size w w0 := by rw [hw0]; exact ((Below.refl _ w).alloc (Nat.le_refl _) _).alloc (by simp) _
  have hz0 : w0.heap.size = w.heap.size + 2 := by rw [hw0]; simp
  have gx : w0.heap[w.heap.size]? = some (.cells #[.int .i64 m] 3 (0, 0)) := by rw [hw0]; exact (Below.heap_alloc _ _ _ (by simp)).trans (heap_alloc_new w _)
  have g0 : w0.heap[w.heap.size + 1]? = some (.cells #[.nilFunc, .nilFunc, .nilFunc, .nilFunc] 55 (0, 0)) := by
    rw [hw0]
    have h := heap_alloc_new (w.alloc (.cells #[.int .i64 m] 3)) (.cells #[.nilFunc, .nilFunc, .nilFunc, .nilFunc] 55)
    rwa [World.size_alloc] at h
  have HA := Lib.hid (at_int w0 ⟨X, 11, none⟩ 89 90 91 #[ptr w.heap.size 0])
  have HF := Lib.hid (And.intro hb0 (And.intro hz0 (And.intro g0 gx)))
  have HW0 := Lib.hid hw0
  clear hw0 hb0 hz0 g0
  have cx : w0.cell? ⟨w.heap.size, 0, none⟩ = some (.int .i64 m) := by rw [cell_of_row w0 _ 0 _ _ _ gx]; rfl
  clear gx
  go_enter Try.func67, Try.ntmps67
  go_wp2_with (rw [← HW0.out])
  refine HA.out.mono ?_
  rintro e w1 ⟨fs, rfl, hb1, bp, bm, bu, bg, rfl, f1, f2, f3, f4⟩
  obtain ⟨hb0, hz0, g0, gx⟩ := HF.out
  have L0 := Lib.hid ((hb1.block (w.heap.size + 1) (by omega)).trans g0)
  have HI := Lib.hid (show (Try.prog.info? 55).map (·.size) = some (#[.func (.func 100) #[] #[ptr bm 0, ptr bp 0], .func (.func 101) #[] #[ptr bu 0, ptr bp 0], .func (.func 102) #[] #[ptr bg 0, ptr bp 0], .func (.func 103) #[] #[ptr bp 0]] : Array Value).size from sizeFld)
  have HS := Lib.hid (show (#[.nilFunc, .nilFunc, .nilFunc, .nilFunc] : Array Value).size = (#[.func (.func 100) #[] #[ptr bm 0, ptr bp 0], .func (.func 101) #[] #[ptr bu 0, ptr bp 0], .func (.func 102) #[] #[ptr bg 0, ptr bp 0], .func (.func 103) #[] #[ptr bp 0]] : Array Value).size from rfl)
  have H1 := Lib.hid (show (#[.func (.func 100) #[] #[ptr bm 0, ptr bp 0], .func (.func 101) #[] #[ptr bu 0, ptr bp 0], .func (.func 102) #[] #[ptr bg 0, ptr bp 0], .func (.func 103) #[] #[ptr bp 0]] : Array Value).all (·.oneCell') = true from by simp [Value.oneCell'])
  have hb2 := below_setRow (hb0.trans (hb1.mono (by omega))) (show w.heap.size ≤ w.heap.size + 1 by omega) #[.func (.func 100) #[] #[ptr bm 0, ptr bp 0], .func (.func 101) #[] #[ptr bu 0, ptr bp 0], .func (.func 102) #[] #[ptr bg 0, ptr bp 0], .func (.func 103) #[] #[ptr bp 0]]
  have hk2 : ∀ b, w0.heap.size ≤ b → b < w1.heap.size → (w1.setRow (w.heap.size + 1) #[.func (.func 100) #[] #[ptr bm 0, ptr bp 0], .func (.func 101) #[] #[ptr bu 0, ptr bp 0], .func (.func 102) #[] #[ptr bg 0, ptr bp 0], .func (.func 103) #[] #[ptr bp 0]]).heap[b]? = w1.heap[b]? := fun b h1 _ => setRow_other _ _ _ _ (by omega)
  have hsz : (w1.setRow (w.heap.size + 1) #[.func (.func 100) #[] #[ptr bm 0, ptr bp 0], .func (.func 101) #[] #[ptr bu 0, ptr bp 0], .func (.func 102) #[] #[ptr bg 0, ptr bp 0], .func (.func 103) #[] #[ptr bp 0]]).heap.size = w1.heap.size := by simp [World.setRow]
  have hs1 := hb1.size
  have hx2 : FBox (w1.setRow (w.heap.size + 1) #[.func (.func 100) #[] #[ptr bm 0, ptr bp 0], .func (.func 101) #[] #[ptr bu 0, ptr bp 0], .func (.func 102) #[] #[ptr bg 0, ptr bp 0], .func (.func 103) #[] #[ptr bp 0]]) w.heap.size (w1.setRow (w.heap.size + 1) #[.func (.func 100) #[] #[ptr bm 0, ptr bp 0], .func (.func 101) #[] #[ptr bu 0, ptr bp 0], .func (.func 102) #[] #[ptr bg 0, ptr bp 0], .func (.func 103) #[] #[ptr bp 0]]).heap.size w.heap.size (.int .i64 m) :=
    ⟨Nat.le_refl _, by omega, by rw [cell_of_row _ _ 0 _ _ _ ((setRow_other w1 (w.heap.size + 1) w.heap.size #[.func (.func 100) #[] #[ptr bm 0, ptr bp 0], .func (.func 101) #[] #[ptr bu 0, ptr bp 0], .func (.func 102) #[] #[ptr bg 0, ptr bp 0], .func (.func 103) #[] #[ptr bp 0]] (by omega)).trans ((hb1.block w.heap.size (by omega)).trans gx))]; rfl⟩
  have HC := Lib.hid (show Below w.heap.size w (w1.setRow (w.heap.size + 1) #[.func (.func 100) #[] #[ptr bm 0, ptr bp 0], .func (.func 101) #[] #[ptr bu 0, ptr bp 0], .func (.func 102) #[] #[ptr bg 0, ptr bp 0], .func (.func 103) #[] #[ptr bp 0]]) ∧ FldC (w1.setRow (w.heap.size + 1) #[.func (.func 100) #[] #[ptr bm 0, ptr bp 0], .func (.func 101) #[] #[ptr bu 0, ptr bp 0], .func (.func 102) #[] #[ptr bg 0, ptr bp 0], .func (.func 103) #[] #[ptr bp 0]]) w.heap.size (w1.setRow (w.heap.size + 1) #[.func (.func 100) #[] #[ptr bm 0, ptr bp 0], .func (.func 101) #[] #[ptr bu 0, ptr bp 0], .func (.func 102) #[] #[ptr bg 0, ptr bp 0], .func (.func 103) #[] #[ptr bp 0]]).heap.size X (.num m) [.func (.func 100) #[] #[ptr bm 0, ptr bp 0], .func (.func 101) #[] #[ptr bu 0, ptr bp 0], .func (.func 102) #[] #[ptr bg 0, ptr bp 0], .func (.func 103) #[] #[ptr bp 0]] from
    ⟨hb2, w.heap.size, hx2, bp, bm, bu, bg, rfl, (f1.keep hk2).wide (by omega) (by omega), (f2.keep hk2).wide (by omega) (by omega), (f3.keep hk2).wide (by omega) (by omega), (f4.keep hk2).wide (by omega) (by omega)⟩)
  have HR := Lib.hid (setRow_heap w1 (w.heap.size + 1) #[.nilFunc, .nilFunc, .nilFunc, .nilFunc] #[.func (.func 100) #[] #[ptr bm 0, ptr bp 0], .func (.func 101) #[] #[ptr bu 0, ptr bp 0], .func (.func 102) #[] #[ptr bg 0, ptr bp 0], .func (.func 103) #[] #[ptr bp 0]] 55 (0, 0) L0.out)
  clear hb0 hz0 g0 gx hb1 f1 f2 f3 f4 hb2 hk2 hsz hs1 hx2
  go_wp2_with (refine wpList_store_row rfl 55 _ _ rfl (w.heap.size + 1) #[.func (.func 100) #[] #[ptr bm 0, ptr bp 0], .func (.func 101) #[] #[ptr bu 0, ptr bp 0], .func (.func 102) #[] #[ptr bg 0, ptr bp 0], .func (.func 103) #[] #[ptr bp 0]] rfl rfl 55 #[.nilFunc, .nilFunc, .nilFunc, .nilFunc] L0.out HI.out HS.out H1.out ?_)
  exact bodyPost_ret (results_cell_one (t := 55) (p := 4) rfl _ _ (w.heap.size + 1) _ (0, 0) _ rfl HR.out Try.underlying55 rfl HI.out) rfl ⟨_, rfl, HC.out.1, HC.out.2⟩

/-- a list of fields in memory -/
def FldsAt (w : World) (N M X : Nat) (ks : List FK) (L : Option Addr) : Prop :=
  ∀ i (h : i < ks.length), ∃ g fs, L = some ⟨g, 0, none⟩ ∧ N ≤ g ∧ g < M ∧ FldC w N M X ks[i] fs ∧ ∀ j u, fs[j]? = some u → w.cell? ⟨g, i * 4 + j, none⟩ = some u
def FldsMade (w : World) (X : Nat) (ks : List FK) (e : Ending) (w' : World) : Prop := ∃ L, e = .returned (.slice L ks.length ks.length) ∧ Below w.heap.size w w' ∧ FldsAt w' w.heap.size w'.heap.size X ks L
theorem four {fs : List Value} (h : fs.length = 4) : ∃ a b c d, fs = [a, b, c, d] := by
  match fs, h with
  | [a, b, c, d], _ => exact ⟨a, b, c, d, rfl⟩
def FldL (w : World) (N M X : Nat) : List FK → List (List Value) → Prop
  | [], [] => True
  | k :: ks, f :: fs => FldC w N M X k f ∧ FldL w N M X ks fs
  | _, _ => False
theorem FldL.at_ {w : World} {N M X : Nat} {ks : List FK} : ∀ {fss : List (List Value)}, FldL w N M X ks fss → ∀ i (h : i < ks.length), ∃ fs, FldC w N M X ks[i] fs ∧ ∀ j u, fs[j]? = some u → fss.flatten[i * 4 + j]? = some u := by
  induction ks with
  | nil => intro fss _ i h; simp at h
  | cons k ks ih =>
    intro fss hf i hi
    cases fss with
    | nil => exact hf.elim
    | cons f fs =>
      obtain ⟨h1, h2⟩ := hf
      have h4 := h1.four
      cases i with
      | zero =>
        refine ⟨f, h1, fun j u hu => ?_⟩
        have hj := (List.getElem?_eq_some_iff.1 hu).1
        rw [List.flatten_cons, Nat.zero_mul, Nat.zero_add, List.getElem?_append_left hj]
        exact hu
      | succ i =>
        obtain ⟨g, hg, hc⟩ := ih h2 i (by simpa using hi)
        refine ⟨g, hg, fun j u hu => ?_⟩
        rw [List.flatten_cons, List.getElem?_append_right (by omega), h4, show (i + 1) * 4 + j - 4 = i * 4 + j by omega]
        exact hc j u hu
theorem flds_made {w w2 : World} {X : Nat} {ks : List FK} {fss : List (List Value)} {cs : Array Value} {T : TypeId} {n : Nat} (hb : Below w.heap.size w w2) (hf : FldL w2 w.heap.size w2.heap.size X ks fss) (hc : cs = fss.flatten.toArray) (hn : n = ks.length) :
    FldsMade w X ks (.returned (.slice (some ⟨w2.heap.size, 0, none⟩) n n)) (w2.alloc (.cells cs T)) := by
  subst hn
  have hb2 : Below w2.heap.size w2 (w2.alloc (.cells cs T)) := (Below.refl _ w2).alloc (Nat.le_refl _) _
  refine ⟨_, rfl, hb.trans (hb2.mono hb.size), fun i hi => ?_⟩
  obtain ⟨fs, h1, h2⟩ := hf.at_ i hi
  refine ⟨w2.heap.size, fs, rfl, hb.size, by simp, (h1.keep fun b _ hb => hb2.block b hb).wide (Nat.le_refl _) (by simp), fun j u hu => ?_⟩
  rw [cell_of_row _ _ _ _ _ _ (heap_alloc_new w2 (.cells cs T)), hc]
  simpa using h2 j u hu
theorem FldC.on {w0 w w' : World} {X : Nat} {k : FK} {fs : List Value} {N M : Nat} (h : FldC w N M X k fs) (hM : M ≤ w.heap.size) (hN : w0.heap.size ≤ N) (hb : Below w.heap.size w w') : FldC w' w0.heap.size w'.heap.size X k fs :=
  (h.keep fun b _ hb2 => hb.block b (by omega)).wide hN (by have := hb.size; omega)
set_option maxHeartbeats 2000000 in
theorem kinds1_dev (w : World) (X : Nat) : Calls Try.prog 54 #[ptr X 0] w (FldsMade w X [.name, .writes]) := by
  have H1 := Lib.hid (fun W => name_dev W X)
  have H2 := Lib.hid (fun W => writes_dev W X)
  go_enter Try.func54, Try.ntmps54
  go_wp2_with fail
  refine (H1.out _).mono ?_
  rintro e w1 ⟨fs1, rfl, hb1, hf1⟩
  obtain ⟨a1, b1, c1, d1, rfl⟩ := four hf1.four
  have HB1 := Lib.hid hb1
  have HF1 := Lib.hid hf1
  clear hb1 hf1
  go_wp2_with fail
  refine (H2.out _).mono ?_
  rintro e w2 ⟨fs2, rfl, hb2, hf2⟩
  obtain ⟨a2, b2, c2, d2, rfl⟩ := four hf2.four
  have HB2 := Lib.hid hb2
  have HF2 := Lib.hid hf2
  clear hb2 hf2
  go_wp2_with fail
  go_ret
  have s1 := HB1.out.size
  have s2 := HB2.out.size
  exact flds_made (fss := [[a1, b1, c1, d1], [a2, b2, c2, d2]]) (HB1.out.trans (HB2.out.mono s1)) ⟨HF1.out.on (Nat.le_refl _) (Nat.le_refl _) HB2.out, HF2.out.wide s1 (Nat.le_refl _), trivial⟩ rfl rfl
set_option maxHeartbeats 2000000 in
theorem kinds2_dev (w : World) (X : Nat) : Calls Try.prog 57 #[ptr X 0] w (FldsMade w X [.name, .writes, .give, .take]) := by
  have H1 := Lib.hid (fun W => name_dev W X)
  have H2 := Lib.hid (fun W => writes_dev W X)
  have H3 := Lib.hid (fun W => give_dev W X)
  have H4 := Lib.hid (fun W => take_dev W X)
  go_enter Try.func57, Try.ntmps57
  go_wp2_with fail
  refine (H1.out _).mono ?_
  rintro e w1 ⟨fs1, rfl, hb1, hf1⟩
  obtain ⟨a1, b1, c1, d1, rfl⟩ := four hf1.four
  have HB1 := Lib.hid hb1
  have HF1 := Lib.hid hf1
  clear hb1 hf1
  go_wp2_with fail
  refine (H2.out _).mono ?_
  rintro e w2 ⟨fs2, rfl, hb2, hf2⟩
  obtain ⟨a2, b2, c2, d2, rfl⟩ := four hf2.four
  have HB2 := Lib.hid hb2
  have HF2 := Lib.hid hf2
  clear hb2 hf2
  go_wp2_with fail
  refine (H3.out _).mono ?_
  rintro e w3 ⟨fs3, rfl, hb3, hf3⟩
  obtain ⟨a3, b3, c3, d3, rfl⟩ := four hf3.four
  have HB3 := Lib.hid hb3
  have HF3 := Lib.hid hf3
  clear hb3 hf3
  go_wp2_with fail
  refine (H4.out _).mono ?_
  rintro e w4 ⟨fs4, rfl, hb4, hf4⟩
  obtain ⟨a4, b4, c4, d4, rfl⟩ := four hf4.four
  have HB4 := Lib.hid hb4
  have HF4 := Lib.hid hf4
  clear hb4 hf4
  go_wp2_with fail
  go_ret
  have s1 := HB1.out.size
  have s2 := HB2.out.size
  have s3 := HB3.out.size
  have s4 := HB4.out.size
  have b34 := HB3.out.trans (HB4.out.mono s3)
  have b24 := HB2.out.trans (b34.mono s2)
  exact flds_made (fss := [[a1, b1, c1, d1], [a2, b2, c2, d2], [a3, b3, c3, d3], [a4, b4, c4, d4]]) (HB1.out.trans (b24.mono s1)) ⟨HF1.out.on (Nat.le_refl _) (Nat.le_refl _) b24, HF2.out.on (Nat.le_refl _) s1 b34, HF3.out.on (Nat.le_refl _) (by omega) HB4.out, HF4.out.wide (by omega) (Nat.le_refl _), trivial⟩ rfl rfl
set_option maxHeartbeats 2000000 in
theorem kinds3_dev (w : World) (X : Nat) : Calls Try.prog 60 #[ptr X 0] w (FldsMade w X [.name, .yes]) := by
  have H1 := Lib.hid (fun W => name_dev W X)
  have H2 := Lib.hid (fun W => yesf_dev W X)
  go_enter Try.func60, Try.ntmps60
  go_wp2_with fail
  refine (H1.out _).mono ?_
  rintro e w1 ⟨fs1, rfl, hb1, hf1⟩
  obtain ⟨a1, b1, c1, d1, rfl⟩ := four hf1.four
  have HB1 := Lib.hid hb1
  have HF1 := Lib.hid hf1
  clear hb1 hf1
  go_wp2_with fail
  refine (H2.out _).mono ?_
  rintro e w2 ⟨fs2, rfl, hb2, hf2⟩
  obtain ⟨a2, b2, c2, d2, rfl⟩ := four hf2.four
  have HB2 := Lib.hid hb2
  have HF2 := Lib.hid hf2
  clear hb2 hf2
  go_wp2_with fail
  go_ret
  have s1 := HB1.out.size
  have s2 := HB2.out.size
  exact flds_made (fss := [[a1, b1, c1, d1], [a2, b2, c2, d2]]) (HB1.out.trans (HB2.out.mono s1)) ⟨HF1.out.on (Nat.le_refl _) (Nat.le_refl _) HB2.out, HF2.out.wide s1 (Nat.le_refl _), trivial⟩ rfl rfl
set_option maxHeartbeats 2000000 in
theorem kinds4_dev (w : World) (X : Nat) : Calls Try.prog 62 #[ptr X 0] w (FldsMade w X [.name, .shards, .change]) := by
  have H1 := Lib.hid (fun W => name_dev W X)
  have H2 := Lib.hid (fun W => shardsf_dev W X)
  have H3 := Lib.hid (fun W => changef_dev W X)
  go_enter Try.func62, Try.ntmps62
  go_wp2_with fail
  refine (H1.out _).mono ?_
  rintro e w1 ⟨fs1, rfl, hb1, hf1⟩
  obtain ⟨a1, b1, c1, d1, rfl⟩ := four hf1.four
  have HB1 := Lib.hid hb1
  have HF1 := Lib.hid hf1
  clear hb1 hf1
  go_wp2_with fail
  refine (H2.out _).mono ?_
  rintro e w2 ⟨fs2, rfl, hb2, hf2⟩
  obtain ⟨a2, b2, c2, d2, rfl⟩ := four hf2.four
  have HB2 := Lib.hid hb2
  have HF2 := Lib.hid hf2
  clear hb2 hf2
  go_wp2_with fail
  refine (H3.out _).mono ?_
  rintro e w3 ⟨fs3, rfl, hb3, hf3⟩
  obtain ⟨a3, b3, c3, d3, rfl⟩ := four hf3.four
  have HB3 := Lib.hid hb3
  have HF3 := Lib.hid hf3
  clear hb3 hf3
  go_wp2_with fail
  go_ret
  have s1 := HB1.out.size
  have s2 := HB2.out.size
  have s3 := HB3.out.size
  have b24 := HB2.out.trans (HB3.out.mono s2)
  exact flds_made (fss := [[a1, b1, c1, d1], [a2, b2, c2, d2], [a3, b3, c3, d3]]) (HB1.out.trans (b24.mono s1)) ⟨HF1.out.on (Nat.le_refl _) (Nat.le_refl _) b24, HF2.out.on (Nat.le_refl _) s1 HB3.out, HF3.out.wide (by omega) (Nat.le_refl _), trivial⟩ rfl rfl
set_option maxHeartbeats 2000000 in
theorem kinds5_dev (w : World) (X : Nat) : Calls Try.prog 65 #[ptr X 0] w (FldsMade w X [.name]) := by
  have H1 := Lib.hid (fun W => name_dev W X)
  go_enter Try.func65, Try.ntmps65
  go_wp2_with fail
  refine (H1.out _).mono ?_
  rintro e w1 ⟨fs1, rfl, hb1, hf1⟩
  obtain ⟨a1, b1, c1, d1, rfl⟩ := four hf1.four
  have HB1 := Lib.hid hb1
  have HF1 := Lib.hid hf1
  clear hb1 hf1
  go_wp2_with fail
  go_ret
  exact flds_made (fss := [[a1, b1, c1, d1]]) HB1.out ⟨HF1.out, trivial⟩ rfl rfl
set_option maxHeartbeats 2000000 in
theorem kinds6_dev (w : World) (X : Nat) : Calls Try.prog 66 #[ptr X 0] w (FldsMade w X [.num 1048577]) := by
  have H1 := Lib.hid (fun W => num_dev W X 1048577)
  go_enter Try.func66, Try.ntmps66
  go_wp2_with fail
  refine (H1.out _).mono ?_
  rintro e w1 ⟨fs1, rfl, hb1, hf1⟩
  obtain ⟨a1, b1, c1, d1, rfl⟩ := four hf1.four
  have HB1 := Lib.hid hb1
  have HF1 := Lib.hid hf1
  clear hb1 hf1
  go_wp2_with fail
  go_ret
  exact flds_made (fss := [[a1, b1, c1, d1]]) HB1.out ⟨HF1.out, trivial⟩ rfl rfl
set_option maxHeartbeats 2000000 in
theorem kinds7_dev (w : World) (X : Nat) : Calls Try.prog 68 #[ptr X 0] w (FldsMade w X [.num 1048576]) := by
  have H1 := Lib.hid (fun W => num_dev W X 1048576)
  go_enter Try.func68, Try.ntmps68
  go_wp2_with fail
  refine (H1.out _).mono ?_
  rintro e w1 ⟨fs1, rfl, hb1, hf1⟩
  obtain ⟨a1, b1, c1, d1, rfl⟩ := four hf1.four
  have HB1 := Lib.hid hb1
  have HF1 := Lib.hid hf1
  clear hb1 hf1
  go_wp2_with fail
  go_ret
  exact flds_made (fss := [[a1, b1, c1, d1]]) HB1.out ⟨HF1.out, trivial⟩ rfl rfl
end Go.Proofs.Ytaokhbodmodcgaa
end

section
/-
  The developers' fields of a kind.
-/
namespace Go.Proofs.Ytaokhbodmodcgaa
open Go.RowKit
set_option maxRecDepth 100000

theorem sizeK : (Try.prog.info? 81).map (·.size) = some 8 := by kernel_rfl
theorem kinds_dev (w : World) : Calls Try.prog 49 #[] w fun e w' => e = .returned (.agg #[.nilFunc, fun0 54, fun0 57, fun0 60, fun0 62, fun0 65, fun0 66, fun0 68]) ∧ Below w.heap.size w w' := by
  have HZ := Lib.hid (heap_alloc_new w (.cells #[.nilFunc, .nilFunc, .nilFunc, .nilFunc, .nilFunc, .nilFunc, .nilFunc, .nilFunc] 81))
  have HI := Lib.hid (show (Try.prog.info? 81).map (·.size) = some (#[.nilFunc, fun0 54, fun0 57, fun0 60, fun0 62, fun0 65, fun0 66, fun0 68] : Array Value).size from sizeK)
  have HS := Lib.hid (show (#[.nilFunc, .nilFunc, .nilFunc, .nilFunc, .nilFunc, .nilFunc, .nilFunc, .nilFunc] : Array Value).size = (#[.nilFunc, fun0 54, fun0 57, fun0 60, fun0 62, fun0 65, fun0 66, fun0 68] : Array Value).size from rfl)
  have H1 := Lib.hid (show (#[.nilFunc, fun0 54, fun0 57, fun0 60, fun0 62, fun0 65, fun0 66, fun0 68] : Array Value).all (·.oneCell') = true from by simp [Value.oneCell'])
  obtain ⟨hb, hg, _⟩ := box_made w #[.nilFunc, .nilFunc, .nilFunc, .nilFunc, .nilFunc, .nilFunc, .nilFunc, .nilFunc] #[.nilFunc, fun0 54, fun0 57, fun0 60, fun0 62, fun0 65, fun0 66, fun0 68] 81
  have HB := Lib.hid hb
  have HG := Lib.hid hg
  clear hb hg
  go_enter Try.func49, Try.ntmps49
  go_wp2_with (refine wpList_store_row rfl 81 _ _ rfl w.heap.size #[.nilFunc, fun0 54, fun0 57, fun0 60, fun0 62, fun0 65, fun0 66, fun0 68] rfl rfl 81 #[.nilFunc, .nilFunc, .nilFunc, .nilFunc, .nilFunc, .nilFunc, .nilFunc, .nilFunc] HZ.out HI.out HS.out H1.out ?_)
  exact bodyPost_ret (results_cell_one (t := 81) (p := 0) rfl _ _ w.heap.size _ (0, 0) _ rfl HG.out Try.underlying81 rfl HI.out) rfl ⟨rfl, HB.out⟩
theorem run_index_one {P : Program} (w : World) (t e : TypeId) (n i : Nat) (kk : IntKind) (cs : Array Value) (h : P.underlying t = some (.array n e)) (d : TypeDesc) (he : P.underlying e = some d) (hd : (match d with | .struct _ | .array _ _ => true | _ => false) = false) (hs : (P.info? e).map (·.size) = some 1) (hi : i < n) (v : Value) (hv : cs[i]? = some v) :
    (Instr.index t (.agg cs) (.int kk (i : Int))).run P w = .ok v w := by
  cases hq : P.info? e with
  | none => simp [hq] at hs
  | some x =>
    have hz : x.size = 1 := by simpa [hq] using hs
    have hagg : (isAgg e).run P w = .ok false w := by
      unfold isAgg
      rw [Sem.run_bind, run_underlying he w]
      cases d <;> simp_all
    simp [Instr.index, run_underlying h, asIntOf, hi, part, hagg, sizeOf, typeInfo, hq, hz, hv, go_sem]
theorem sizeKf : (Try.prog.info? 50).map (·.size) = some 1 := by kernel_rfl
theorem index_kinds (W : World) (i : Nat) (hi : i < 8) (v : Value) (hv : (#[.nilFunc, fun0 54, fun0 57, fun0 60, fun0 62, fun0 65, fun0 66, fun0 68] : Array Value)[i]? = some v) : (Instr.index 81 (.agg #[.nilFunc, fun0 54, fun0 57, fun0 60, fun0 62, fun0 65, fun0 66, fun0 68]) (.int .i8 (i : Int))).run Try.prog W = .ok v W :=
  run_index_one W 81 50 8 i .i8 #[.nilFunc, fun0 54, fun0 57, fun0 60, fun0 62, fun0 65, fun0 66, fun0 68] Try.underlying81 _ Try.underlying50 rfl sizeKf hi v hv
set_option maxHeartbeats 4000000 in
theorem fields_dev (w : World) (X : Nat) (k : Int) (hc : w.cell? ⟨X, 0, none⟩ = some (.int .i8 k)) (hX : X < w.heap.size) : Calls Try.prog 27 #[ptr X 0] w fun e w' =>
    ∃ L c, e = .returned (.slice L (kindsF k).length c) ∧ Below w.heap.size w w' ∧ FldsAt w' w.heap.size w'.heap.size X (kindsF k) L := by
  have HIn := Lib.hid (fun W => within8_any k 1 7 W)
  have HK := Lib.hid (fun W => kinds_dev W)
  have HX := Lib.hid hX
  clear hX
  by_cases hk : 1 ≤ k ∧ k ≤ 7
  · have h0 : inB k 1 7 = true := decide_eq_true hk
    rw [h0] at HIn
    rcases kinds_of hk with rfl | rfl | rfl | rfl | rfl | rfl | rfl
    · show Calls _ _ _ _ fun e w' => ∃ L c, e = .returned (.slice L 2 c) ∧ _
      have HKd := Lib.hid (fun W => kinds1_dev W X)
      have HC := Lib.hid hc
      have hidx : ∀ W, (Instr.index 81 (.agg #[.nilFunc, fun0 54, fun0 57, fun0 60, fun0 62, fun0 65, fun0 66, fun0 68]) (.int .i8 1)).run Try.prog W = .ok (fun0 54) W := fun W => index_kinds W 1 (by omega) _ rfl
      clear hk h0
      go_enter Try.func27, Try.ntmps27
      go_wp2_with fail
      refine (HIn.out _).mono ?_
      rintro e w1 ⟨rfl, rfl⟩
      go_wp2_with fail
      refine wp_region_held_drew (S := fun W => W.cell? ⟨X, 0, none⟩ = some (.int .i8 1)) (by kernel_rfl) HC.out (fun hHeld => ?_)
      refine wpAnyH_take (i := 1) (v := ?_) rfl (by kernel_rfl) (by kernel_rfl) (by kernel_rfl) (fun _ _ _ h => h) (Or.inl ⟨by rfl, ?_⟩) (by assumption) ?_
      rotate_left
      · simp only [List.getElem_toArray, List.getElem_cons_zero, List.getElem_cons_succ]; intro W hSw; (try dsimp only at hSw); go_simp; all_goals with_reducible rfl
      simp only [Act.put, List.getElem_toArray, List.getElem_cons_zero, List.getElem_cons_succ, List.setIfInBounds_toArray, List.set_cons_zero, List.set_cons_succ]
      refine wpAnyH_take (i := 2) (v := ?_) rfl (by kernel_rfl) (by kernel_rfl) (by kernel_rfl) (fun _ _ _ h => h) (Or.inl ⟨by rfl, ?_⟩) (by assumption) ?_
      rotate_left
      · simp only [List.getElem_toArray, List.getElem_cons_zero, List.getElem_cons_succ]; intro W hSw; (try dsimp only at hSw); go_simp; all_goals with_reducible rfl
      simp only [Act.put, List.getElem_toArray, List.getElem_cons_zero, List.getElem_cons_succ, List.setIfInBounds_toArray, List.set_cons_zero, List.set_cons_succ]
      refine wpAnyH_take (i := 3) (v := ?_) rfl (by kernel_rfl) (by kernel_rfl) (by kernel_rfl) (fun _ _ _ h => h) (Or.inl ⟨by rfl, ?_⟩) (by assumption) ?_
      rotate_left
      · simp only [List.getElem_toArray, List.getElem_cons_zero, List.getElem_cons_succ]; intro W hSw; (try dsimp only at hSw); go_simp; all_goals with_reducible rfl
      simp only [Act.put, List.getElem_toArray, List.getElem_cons_zero, List.getElem_cons_succ, List.setIfInBounds_toArray, List.set_cons_zero, List.set_cons_succ]
      refine wpAnyH_take (i := 4) (v := ?_) rfl (by kernel_rfl) (by kernel_rfl) (by kernel_rfl) (fun _ _ _ h => h) (Or.inl ⟨by rfl, ?_⟩) (by assumption) ?_
      rotate_left
      · simp only [List.getElem_toArray, List.getElem_cons_zero, List.getElem_cons_succ]; intro W hSw; (try dsimp only at hSw); go_simp; all_goals with_reducible rfl
      simp only [Act.put, List.getElem_toArray, List.getElem_cons_zero, List.getElem_cons_succ, List.setIfInBounds_toArray, List.set_cons_zero, List.set_cons_succ]
      refine wpAnyH_take (i := 6) (v := ?_) rfl (by kernel_rfl) (by kernel_rfl) (by kernel_rfl) (fun _ _ _ h => h) (Or.inl ⟨by rfl, ?_⟩) (by assumption) ?_
      rotate_left
      · simp only [List.getElem_toArray, List.getElem_cons_zero, List.getElem_cons_succ]; intro W hSw; (try dsimp only at hSw); go_simp; all_goals with_reducible rfl
      simp only [Act.put, List.getElem_toArray, List.getElem_cons_zero, List.getElem_cons_succ, List.setIfInBounds_toArray, List.set_cons_zero, List.set_cons_succ]
      refine wpAnyH_ready (rs := [0]) (by kernel_rfl) (by simp) ?_
      refine AllReadyH.cons rfl (fun K hK => ?_) AllReadyH.nil
      simp only [List.getElem_toArray, List.getElem_cons_zero, List.getElem_cons_succ]
      go_simp
      refine (HK.out _).mono ?_
      rintro e w2 ⟨rfl, hb2⟩
      have HB2 := Lib.hid ((Below.refl w1.heap.size w1).drew.trans hb2)
      go_wp2_with fail
      refine hK.out _ _ ((show w2.cell? ⟨X, 0, none⟩ = some (.int .i8 1) from (hb2.cell HX.out).trans HC.out)) (fun hHeldN => ?_)
      clear hK K hHeld
      have hHeld := hHeldN
      clear hHeldN
      (try simp only [Act.put, List.getElem_toArray, List.getElem_cons_zero, List.getElem_cons_succ, List.setIfInBounds_toArray, List.set_cons_zero, List.set_cons_succ])
      clear hb2
      refine wpAnyH_take (i := 5) (v := ?_) rfl (by kernel_rfl) (by kernel_rfl) (by kernel_rfl) (fun _ _ _ h => h) (Or.inl ⟨by rfl, ?_⟩) (by assumption) ?_
      rotate_left
      · simp only [List.getElem_toArray, List.getElem_cons_zero, List.getElem_cons_succ]; intro W hSw; (try dsimp only at hSw); go_simp; all_goals with_reducible rfl
      simp only [Act.put, List.getElem_toArray, List.getElem_cons_zero, List.getElem_cons_succ, List.setIfInBounds_toArray, List.set_cons_zero, List.set_cons_succ]
      refine wpAnyH_ready (rs := [7]) (by kernel_rfl) (by simp) ?_
      refine AllReadyH.cons rfl (fun K hK => ?_) AllReadyH.nil
      simp only [List.getElem_toArray, List.getElem_cons_zero, List.getElem_cons_succ]
      go_simp
      refine (HKd.out _).mono ?_
      rintro e w3 ⟨L, rfl, hb3, hf3⟩
      have HB3 := Lib.hid hb3
      have HF3 := Lib.hid hf3
      clear hb3 hf3
      go_wp2_with fail
      refine hK.out _ _ ((show w3.cell? ⟨X, 0, none⟩ = some (.int .i8 1) from (HB3.out.cell (by have := HB2.out.size; have := HX.out; simp; omega)).trans ((HB2.out.cell HX.out).trans HC.out))) (fun hHeldN => ?_)
      clear hK K hHeld
      have hHeld := hHeldN
      clear hHeldN
      (try simp only [Act.put, List.getElem_toArray, List.getElem_cons_zero, List.getElem_cons_succ, List.setIfInBounds_toArray, List.set_cons_zero, List.set_cons_succ])
      refine wpAnyH_take (i := 8) (v := ?_) rfl (by kernel_rfl) (by kernel_rfl) (by kernel_rfl) (fun _ _ _ h => h) (Or.inl ⟨by rfl, ?_⟩) (by assumption) ?_
      rotate_left
      · simp only [List.getElem_toArray, List.getElem_cons_zero, List.getElem_cons_succ]; intro W hSw; (try dsimp only at hSw); go_simp; all_goals with_reducible rfl
      simp only [Act.put, List.getElem_toArray, List.getElem_cons_zero, List.getElem_cons_succ, List.setIfInBounds_toArray, List.set_cons_zero, List.set_cons_succ]
      refine wpAnyH_done (by kernel_rfl) ?_ _
      go_wp2_with fail
      go_ret
      have s2 := HB2.out.size
      exact ⟨L, _, rfl, HB2.out.trans (HB3.out.mono s2), fun i hi => by
        obtain ⟨g, fs, e, h1, h2, h3, h4⟩ := HF3.out i hi
        exact ⟨g, fs, e, by omega, h2, h3.wide s2 (Nat.le_refl _), h4⟩⟩
    · show Calls _ _ _ _ fun e w' => ∃ L c, e = .returned (.slice L 4 c) ∧ _
      have HKd := Lib.hid (fun W => kinds2_dev W X)
      have HC := Lib.hid hc
      have hidx : ∀ W, (Instr.index 81 (.agg #[.nilFunc, fun0 54, fun0 57, fun0 60, fun0 62, fun0 65, fun0 66, fun0 68]) (.int .i8 2)).run Try.prog W = .ok (fun0 57) W := fun W => index_kinds W 2 (by omega) _ rfl
      clear hk h0
      go_enter Try.func27, Try.ntmps27
      go_wp2_with fail
      refine (HIn.out _).mono ?_
      rintro e w1 ⟨rfl, rfl⟩
      go_wp2_with fail
      refine wp_region_held_drew (S := fun W => W.cell? ⟨X, 0, none⟩ = some (.int .i8 2)) (by kernel_rfl) HC.out (fun hHeld => ?_)
      refine wpAnyH_take (i := 1) (v := ?_) rfl (by kernel_rfl) (by kernel_rfl) (by kernel_rfl) (fun _ _ _ h => h) (Or.inl ⟨by rfl, ?_⟩) (by assumption) ?_
      rotate_left
      · simp only [List.getElem_toArray, List.getElem_cons_zero, List.getElem_cons_succ]; intro W hSw; (try dsimp only at hSw); go_simp; all_goals with_reducible rfl
      simp only [Act.put, List.getElem_toArray, List.getElem_cons_zero, List.getElem_cons_succ, List.setIfInBounds_toArray, List.set_cons_zero, List.set_cons_succ]
      refine wpAnyH_take (i := 2) (v := ?_) rfl (by kernel_rfl) (by kernel_rfl) (by kernel_rfl) (fun _ _ _ h => h) (Or.inl ⟨by rfl, ?_⟩) (by assumption) ?_
      rotate_left
      · simp only [List.getElem_toArray, List.getElem_cons_zero, List.getElem_cons_succ]; intro W hSw; (try dsimp only at hSw); go_simp; all_goals with_reducible rfl
      simp only [Act.put, List.getElem_toArray, List.getElem_cons_zero, List.getElem_cons_succ, List.setIfInBounds_toArray, List.set_cons_zero, List.set_cons_succ]
      refine wpAnyH_take (i := 3) (v := ?_) rfl (by kernel_rfl) (by kernel_rfl) (by kernel_rfl) (fun _ _ _ h => h) (Or.inl ⟨by rfl, ?_⟩) (by assumption) ?_
      rotate_left
      · simp only [List.getElem_toArray, List.getElem_cons_zero, List.getElem_cons_succ]; intro W hSw; (try dsimp only at hSw); go_simp; all_goals with_reducible rfl
      simp only [Act.put, List.getElem_toArray, List.getElem_cons_zero, List.getElem_cons_succ, List.setIfInBounds_toArray, List.set_cons_zero, List.set_cons_succ]
      refine wpAnyH_take (i := 4) (v := ?_) rfl (by kernel_rfl) (by kernel_rfl) (by kernel_rfl) (fun _ _ _ h => h) (Or.inl ⟨by rfl, ?_⟩) (by assumption) ?_
      rotate_left
      · simp only [List.getElem_toArray, List.getElem_cons_zero, List.getElem_cons_succ]; intro W hSw; (try dsimp only at hSw); go_simp; all_goals with_reducible rfl
      simp only [Act.put, List.getElem_toArray, List.getElem_cons_zero, List.getElem_cons_succ, List.setIfInBounds_toArray, List.set_cons_zero, List.set_cons_succ]
      refine wpAnyH_take (i := 6) (v := ?_) rfl (by kernel_rfl) (by kernel_rfl) (by kernel_rfl) (fun _ _ _ h => h) (Or.inl ⟨by rfl, ?_⟩) (by assumption) ?_
      rotate_left
      · simp only [List.getElem_toArray, List.getElem_cons_zero, List.getElem_cons_succ]; intro W hSw; (try dsimp only at hSw); go_simp; all_goals with_reducible rfl
      simp only [Act.put, List.getElem_toArray, List.getElem_cons_zero, List.getElem_cons_succ, List.setIfInBounds_toArray, List.set_cons_zero, List.set_cons_succ]
      refine wpAnyH_ready (rs := [0]) (by kernel_rfl) (by simp) ?_
      refine AllReadyH.cons rfl (fun K hK => ?_) AllReadyH.nil
      simp only [List.getElem_toArray, List.getElem_cons_zero, List.getElem_cons_succ]
      go_simp
      refine (HK.out _).mono ?_
      rintro e w2 ⟨rfl, hb2⟩
      have HB2 := Lib.hid ((Below.refl w1.heap.size w1).drew.trans hb2)
      go_wp2_with fail
      refine hK.out _ _ ((show w2.cell? ⟨X, 0, none⟩ = some (.int .i8 2) from (hb2.cell HX.out).trans HC.out)) (fun hHeldN => ?_)
      clear hK K hHeld
      have hHeld := hHeldN
      clear hHeldN
      (try simp only [Act.put, List.getElem_toArray, List.getElem_cons_zero, List.getElem_cons_succ, List.setIfInBounds_toArray, List.set_cons_zero, List.set_cons_succ])
      clear hb2
      refine wpAnyH_take (i := 5) (v := ?_) rfl (by kernel_rfl) (by kernel_rfl) (by kernel_rfl) (fun _ _ _ h => h) (Or.inl ⟨by rfl, ?_⟩) (by assumption) ?_
      rotate_left
      · simp only [List.getElem_toArray, List.getElem_cons_zero, List.getElem_cons_succ]; intro W hSw; (try dsimp only at hSw); go_simp; all_goals with_reducible rfl
      simp only [Act.put, List.getElem_toArray, List.getElem_cons_zero, List.getElem_cons_succ, List.setIfInBounds_toArray, List.set_cons_zero, List.set_cons_succ]
      refine wpAnyH_ready (rs := [7]) (by kernel_rfl) (by simp) ?_
      refine AllReadyH.cons rfl (fun K hK => ?_) AllReadyH.nil
      simp only [List.getElem_toArray, List.getElem_cons_zero, List.getElem_cons_succ]
      go_simp
      refine (HKd.out _).mono ?_
      rintro e w3 ⟨L, rfl, hb3, hf3⟩
      have HB3 := Lib.hid hb3
      have HF3 := Lib.hid hf3
      clear hb3 hf3
      go_wp2_with fail
      refine hK.out _ _ ((show w3.cell? ⟨X, 0, none⟩ = some (.int .i8 2) from (HB3.out.cell (by have := HB2.out.size; have := HX.out; simp; omega)).trans ((HB2.out.cell HX.out).trans HC.out))) (fun hHeldN => ?_)
      clear hK K hHeld
      have hHeld := hHeldN
      clear hHeldN
      (try simp only [Act.put, List.getElem_toArray, List.getElem_cons_zero, List.getElem_cons_succ, List.setIfInBounds_toArray, List.set_cons_zero, List.set_cons_succ])
      refine wpAnyH_take (i := 8) (v := ?_) rfl (by kernel_rfl) (by kernel_rfl) (by kernel_rfl) (fun _ _ _ h => h) (Or.inl ⟨by rfl, ?_⟩) (by assumption) ?_
      rotate_left
      · simp only [List.getElem_toArray, List.getElem_cons_zero, List.getElem_cons_succ]; intro W hSw; (try dsimp only at hSw); go_simp; all_goals with_reducible rfl
      simp only [Act.put, List.getElem_toArray, List.getElem_cons_zero, List.getElem_cons_succ, List.setIfInBounds_toArray, List.set_cons_zero, List.set_cons_succ]
      refine wpAnyH_done (by kernel_rfl) ?_ _
      go_wp2_with fail
      go_ret
      have s2 := HB2.out.size
      exact ⟨L, _, rfl, HB2.out.trans (HB3.out.mono s2), fun i hi => by
        obtain ⟨g, fs, e, h1, h2, h3, h4⟩ := HF3.out i hi
        exact ⟨g, fs, e, by omega, h2, h3.wide s2 (Nat.le_refl _), h4⟩⟩
    · show Calls _ _ _ _ fun e w' => ∃ L c, e = .returned (.slice L 2 c) ∧ _
      have HKd := Lib.hid (fun W => kinds3_dev W X)
      have HC := Lib.hid hc
      have hidx : ∀ W, (Instr.index 81 (.agg #[.nilFunc, fun0 54, fun0 57, fun0 60, fun0 62, fun0 65, fun0 66, fun0 68]) (.int .i8 3)).run Try.prog W = .ok (fun0 60) W := fun W => index_kinds W 3 (by omega) _ rfl
      clear hk h0
      go_enter Try.func27, Try.ntmps27
      go_wp2_with fail
      refine (HIn.out _).mono ?_
      rintro e w1 ⟨rfl, rfl⟩
      go_wp2_with fail
      refine wp_region_held_drew (S := fun W => W.cell? ⟨X, 0, none⟩ = some (.int .i8 3)) (by kernel_rfl) HC.out (fun hHeld => ?_)
      refine wpAnyH_take (i := 1) (v := ?_) rfl (by kernel_rfl) (by kernel_rfl) (by kernel_rfl) (fun _ _ _ h => h) (Or.inl ⟨by rfl, ?_⟩) (by assumption) ?_
      rotate_left
      · simp only [List.getElem_toArray, List.getElem_cons_zero, List.getElem_cons_succ]; intro W hSw; (try dsimp only at hSw); go_simp; all_goals with_reducible rfl
      simp only [Act.put, List.getElem_toArray, List.getElem_cons_zero, List.getElem_cons_succ, List.setIfInBounds_toArray, List.set_cons_zero, List.set_cons_succ]
      refine wpAnyH_take (i := 2) (v := ?_) rfl (by kernel_rfl) (by kernel_rfl) (by kernel_rfl) (fun _ _ _ h => h) (Or.inl ⟨by rfl, ?_⟩) (by assumption) ?_
      rotate_left
      · simp only [List.getElem_toArray, List.getElem_cons_zero, List.getElem_cons_succ]; intro W hSw; (try dsimp only at hSw); go_simp; all_goals with_reducible rfl
      simp only [Act.put, List.getElem_toArray, List.getElem_cons_zero, List.getElem_cons_succ, List.setIfInBounds_toArray, List.set_cons_zero, List.set_cons_succ]
      refine wpAnyH_take (i := 3) (v := ?_) rfl (by kernel_rfl) (by kernel_rfl) (by kernel_rfl) (fun _ _ _ h => h) (Or.inl ⟨by rfl, ?_⟩) (by assumption) ?_
      rotate_left
      · simp only [List.getElem_toArray, List.getElem_cons_zero, List.getElem_cons_succ]; intro W hSw; (try dsimp only at hSw); go_simp; all_goals with_reducible rfl
      simp only [Act.put, List.getElem_toArray, List.getElem_cons_zero, List.getElem_cons_succ, List.setIfInBounds_toArray, List.set_cons_zero, List.set_cons_succ]
      refine wpAnyH_take (i := 4) (v := ?_) rfl (by kernel_rfl) (by kernel_rfl) (by kernel_rfl) (fun _ _ _ h => h) (Or.inl ⟨by rfl, ?_⟩) (by assumption) ?_
      rotate_left
      · simp only [List.getElem_toArray, List.getElem_cons_zero, List.getElem_cons_succ]; intro W hSw; (try dsimp only at hSw); go_simp; all_goals with_reducible rfl
      simp only [Act.put, List.getElem_toArray, List.getElem_cons_zero, List.getElem_cons_succ, List.setIfInBounds_toArray, List.set_cons_zero, List.set_cons_succ]
      refine wpAnyH_take (i := 6) (v := ?_) rfl (by kernel_rfl) (by kernel_rfl) (by kernel_rfl) (fun _ _ _ h => h) (Or.inl ⟨by rfl, ?_⟩) (by assumption) ?_
      rotate_left
      · simp only [List.getElem_toArray, List.getElem_cons_zero, List.getElem_cons_succ]; intro W hSw; (try dsimp only at hSw); go_simp; all_goals with_reducible rfl
      simp only [Act.put, List.getElem_toArray, List.getElem_cons_zero, List.getElem_cons_succ, List.setIfInBounds_toArray, List.set_cons_zero, List.set_cons_succ]
      refine wpAnyH_ready (rs := [0]) (by kernel_rfl) (by simp) ?_
      refine AllReadyH.cons rfl (fun K hK => ?_) AllReadyH.nil
      simp only [List.getElem_toArray, List.getElem_cons_zero, List.getElem_cons_succ]
      go_simp
      refine (HK.out _).mono ?_
      rintro e w2 ⟨rfl, hb2⟩
      have HB2 := Lib.hid ((Below.refl w1.heap.size w1).drew.trans hb2)
      go_wp2_with fail
      refine hK.out _ _ ((show w2.cell? ⟨X, 0, none⟩ = some (.int .i8 3) from (hb2.cell HX.out).trans HC.out)) (fun hHeldN => ?_)
      clear hK K hHeld
      have hHeld := hHeldN
      clear hHeldN
      (try simp only [Act.put, List.getElem_toArray, List.getElem_cons_zero, List.getElem_cons_succ, List.setIfInBounds_toArray, List.set_cons_zero, List.set_cons_succ])
      clear hb2
      refine wpAnyH_take (i := 5) (v := ?_) rfl (by kernel_rfl) (by kernel_rfl) (by kernel_rfl) (fun _ _ _ h => h) (Or.inl ⟨by rfl, ?_⟩) (by assumption) ?_
      rotate_left
      · simp only [List.getElem_toArray, List.getElem_cons_zero, List.getElem_cons_succ]; intro W hSw; (try dsimp only at hSw); go_simp; all_goals with_reducible rfl
      simp only [Act.put, List.getElem_toArray, List.getElem_cons_zero, List.getElem_cons_succ, List.setIfInBounds_toArray, List.set_cons_zero, List.set_cons_succ]
      refine wpAnyH_ready (rs := [7]) (by kernel_rfl) (by simp) ?_
      refine AllReadyH.cons rfl (fun K hK => ?_) AllReadyH.nil
      simp only [List.getElem_toArray, List.getElem_cons_zero, List.getElem_cons_succ]
      go_simp
      refine (HKd.out _).mono ?_
      rintro e w3 ⟨L, rfl, hb3, hf3⟩
      have HB3 := Lib.hid hb3
      have HF3 := Lib.hid hf3
      clear hb3 hf3
      go_wp2_with fail
      refine hK.out _ _ ((show w3.cell? ⟨X, 0, none⟩ = some (.int .i8 3) from (HB3.out.cell (by have := HB2.out.size; have := HX.out; simp; omega)).trans ((HB2.out.cell HX.out).trans HC.out))) (fun hHeldN => ?_)
      clear hK K hHeld
      have hHeld := hHeldN
      clear hHeldN
      (try simp only [Act.put, List.getElem_toArray, List.getElem_cons_zero, List.getElem_cons_succ, List.setIfInBounds_toArray, List.set_cons_zero, List.set_cons_succ])
      refine wpAnyH_take (i := 8) (v := ?_) rfl (by kernel_rfl) (by kernel_rfl) (by kernel_rfl) (fun _ _ _ h => h) (Or.inl ⟨by rfl, ?_⟩) (by assumption) ?_
      rotate_left
      · simp only [List.getElem_toArray, List.getElem_cons_zero, List.getElem_cons_succ]; intro W hSw; (try dsimp only at hSw); go_simp; all_goals with_reducible rfl
      simp only [Act.put, List.getElem_toArray, List.getElem_cons_zero, List.getElem_cons_succ, List.setIfInBounds_toArray, List.set_cons_zero, List.set_cons_succ]
      refine wpAnyH_done (by kernel_rfl) ?_ _
      go_wp2_with fail
      go_ret
      have s2 := HB2.out.size
      exact ⟨L, _, rfl, HB2.out.trans (HB3.out.mono s2), fun i hi => by
        obtain ⟨g, fs, e, h1, h2, h3, h4⟩ := HF3.out i hi
        exact ⟨g, fs, e, by omega, h2, h3.wide s2 (Nat.le_refl _), h4⟩⟩
    · show Calls _ _ _ _ fun e w' => ∃ L c, e = .returned (.slice L 3 c) ∧ _
      have HKd := Lib.hid (fun W => kinds4_dev W X)
      have HC := Lib.hid hc
      have hidx : ∀ W, (Instr.index 81 (.agg #[.nilFunc, fun0 54, fun0 57, fun0 60, fun0 62, fun0 65, fun0 66, fun0 68]) (.int .i8 4)).run Try.prog W = .ok (fun0 62) W := fun W => index_kinds W 4 (by omega) _ rfl
      clear hk h0
      go_enter Try.func27, Try.ntmps27
      go_wp2_with fail
      refine (HIn.out _).mono ?_
      rintro e w1 ⟨rfl, rfl⟩
      go_wp2_with fail
      refine wp_region_held_drew (S := fun W => W.cell? ⟨X, 0, none⟩ = some (.int .i8 4)) (by kernel_rfl) HC.out (fun hHeld => ?_)
      refine wpAnyH_take (i := 1) (v := ?_) rfl (by kernel_rfl) (by kernel_rfl) (by kernel_rfl) (fun _ _ _ h => h) (Or.inl ⟨by rfl, ?_⟩) (by assumption) ?_
      rotate_left
      · simp only [List.getElem_toArray, List.getElem_cons_zero, List.getElem_cons_succ]; intro W hSw; (try dsimp only at hSw); go_simp; all_goals with_reducible rfl
      simp only [Act.put, List.getElem_toArray, List.getElem_cons_zero, List.getElem_cons_succ, List.setIfInBounds_toArray, List.set_cons_zero, List.set_cons_succ]
      refine wpAnyH_take (i := 2) (v := ?_) rfl (by kernel_rfl) (by kernel_rfl) (by kernel_rfl) (fun _ _ _ h => h) (Or.inl ⟨by rfl, ?_⟩) (by assumption) ?_
      rotate_left
      · simp only [List.getElem_toArray, List.getElem_cons_zero, List.getElem_cons_succ]; intro W hSw; (try dsimp only at hSw); go_simp; all_goals with_reducible rfl
      simp only [Act.put, List.getElem_toArray, List.getElem_cons_zero, List.getElem_cons_succ, List.setIfInBounds_toArray, List.set_cons_zero, List.set_cons_succ]
      refine wpAnyH_take (i := 3) (v := ?_) rfl (by kernel_rfl) (by kernel_rfl) (by kernel_rfl) (fun _ _ _ h => h) (Or.inl ⟨by rfl, ?_⟩) (by assumption) ?_
      rotate_left
      · simp only [List.getElem_toArray, List.getElem_cons_zero, List.getElem_cons_succ]; intro W hSw; (try dsimp only at hSw); go_simp; all_goals with_reducible rfl
      simp only [Act.put, List.getElem_toArray, List.getElem_cons_zero, List.getElem_cons_succ, List.setIfInBounds_toArray, List.set_cons_zero, List.set_cons_succ]
      refine wpAnyH_take (i := 4) (v := ?_) rfl (by kernel_rfl) (by kernel_rfl) (by kernel_rfl) (fun _ _ _ h => h) (Or.inl ⟨by rfl, ?_⟩) (by assumption) ?_
      rotate_left
      · simp only [List.getElem_toArray, List.getElem_cons_zero, List.getElem_cons_succ]; intro W hSw; (try dsimp only at hSw); go_simp; all_goals with_reducible rfl
      simp only [Act.put, List.getElem_toArray, List.getElem_cons_zero, List.getElem_cons_succ, List.setIfInBounds_toArray, List.set_cons_zero, List.set_cons_succ]
      refine wpAnyH_take (i := 6) (v := ?_) rfl (by kernel_rfl) (by kernel_rfl) (by kernel_rfl) (fun _ _ _ h => h) (Or.inl ⟨by rfl, ?_⟩) (by assumption) ?_
      rotate_left
      · simp only [List.getElem_toArray, List.getElem_cons_zero, List.getElem_cons_succ]; intro W hSw; (try dsimp only at hSw); go_simp; all_goals with_reducible rfl
      simp only [Act.put, List.getElem_toArray, List.getElem_cons_zero, List.getElem_cons_succ, List.setIfInBounds_toArray, List.set_cons_zero, List.set_cons_succ]
      refine wpAnyH_ready (rs := [0]) (by kernel_rfl) (by simp) ?_
      refine AllReadyH.cons rfl (fun K hK => ?_) AllReadyH.nil
      simp only [List.getElem_toArray, List.getElem_cons_zero, List.getElem_cons_succ]
      go_simp
      refine (HK.out _).mono ?_
      rintro e w2 ⟨rfl, hb2⟩
      have HB2 := Lib.hid ((Below.refl w1.heap.size w1).drew.trans hb2)
      go_wp2_with fail
      refine hK.out _ _ ((show w2.cell? ⟨X, 0, none⟩ = some (.int .i8 4) from (hb2.cell HX.out).trans HC.out)) (fun hHeldN => ?_)
      clear hK K hHeld
      have hHeld := hHeldN
      clear hHeldN
      (try simp only [Act.put, List.getElem_toArray, List.getElem_cons_zero, List.getElem_cons_succ, List.setIfInBounds_toArray, List.set_cons_zero, List.set_cons_succ])
      clear hb2
      refine wpAnyH_take (i := 5) (v := ?_) rfl (by kernel_rfl) (by kernel_rfl) (by kernel_rfl) (fun _ _ _ h => h) (Or.inl ⟨by rfl, ?_⟩) (by assumption) ?_
      rotate_left
      · simp only [List.getElem_toArray, List.getElem_cons_zero, List.getElem_cons_succ]; intro W hSw; (try dsimp only at hSw); go_simp; all_goals with_reducible rfl
      simp only [Act.put, List.getElem_toArray, List.getElem_cons_zero, List.getElem_cons_succ, List.setIfInBounds_toArray, List.set_cons_zero, List.set_cons_succ]
      refine wpAnyH_ready (rs := [7]) (by kernel_rfl) (by simp) ?_
      refine AllReadyH.cons rfl (fun K hK => ?_) AllReadyH.nil
      simp only [List.getElem_toArray, List.getElem_cons_zero, List.getElem_cons_succ]
      go_simp
      refine (HKd.out _).mono ?_
      rintro e w3 ⟨L, rfl, hb3, hf3⟩
      have HB3 := Lib.hid hb3
      have HF3 := Lib.hid hf3
      clear hb3 hf3
      go_wp2_with fail
      refine hK.out _ _ ((show w3.cell? ⟨X, 0, none⟩ = some (.int .i8 4) from (HB3.out.cell (by have := HB2.out.size; have := HX.out; simp; omega)).trans ((HB2.out.cell HX.out).trans HC.out))) (fun hHeldN => ?_)
      clear hK K hHeld
      have hHeld := hHeldN
      clear hHeldN
      (try simp only [Act.put, List.getElem_toArray, List.getElem_cons_zero, List.getElem_cons_succ, List.setIfInBounds_toArray, List.set_cons_zero, List.set_cons_succ])
      refine wpAnyH_take (i := 8) (v := ?_) rfl (by kernel_rfl) (by kernel_rfl) (by kernel_rfl) (fun _ _ _ h => h) (Or.inl ⟨by rfl, ?_⟩) (by assumption) ?_
      rotate_left
      · simp only [List.getElem_toArray, List.getElem_cons_zero, List.getElem_cons_succ]; intro W hSw; (try dsimp only at hSw); go_simp; all_goals with_reducible rfl
      simp only [Act.put, List.getElem_toArray, List.getElem_cons_zero, List.getElem_cons_succ, List.setIfInBounds_toArray, List.set_cons_zero, List.set_cons_succ]
      refine wpAnyH_done (by kernel_rfl) ?_ _
      go_wp2_with fail
      go_ret
      have s2 := HB2.out.size
      exact ⟨L, _, rfl, HB2.out.trans (HB3.out.mono s2), fun i hi => by
        obtain ⟨g, fs, e, h1, h2, h3, h4⟩ := HF3.out i hi
        exact ⟨g, fs, e, by omega, h2, h3.wide s2 (Nat.le_refl _), h4⟩⟩
    · show Calls _ _ _ _ fun e w' => ∃ L c, e = .returned (.slice L 1 c) ∧ _
      have HKd := Lib.hid (fun W => kinds5_dev W X)
      have HC := Lib.hid hc
      have hidx : ∀ W, (Instr.index 81 (.agg #[.nilFunc, fun0 54, fun0 57, fun0 60, fun0 62, fun0 65, fun0 66, fun0 68]) (.int .i8 5)).run Try.prog W = .ok (fun0 65) W := fun W => index_kinds W 5 (by omega) _ rfl
      clear hk h0
      go_enter Try.func27, Try.ntmps27
      go_wp2_with fail
      refine (HIn.out _).mono ?_
      rintro e w1 ⟨rfl, rfl⟩
      go_wp2_with fail
      refine wp_region_held_drew (S := fun W => W.cell? ⟨X, 0, none⟩ = some (.int .i8 5)) (by kernel_rfl) HC.out (fun hHeld => ?_)
      refine wpAnyH_take (i := 1) (v := ?_) rfl (by kernel_rfl) (by kernel_rfl) (by kernel_rfl) (fun _ _ _ h => h) (Or.inl ⟨by rfl, ?_⟩) (by assumption) ?_
      rotate_left
      · simp only [List.getElem_toArray, List.getElem_cons_zero, List.getElem_cons_succ]; intro W hSw; (try dsimp only at hSw); go_simp; all_goals with_reducible rfl
      simp only [Act.put, List.getElem_toArray, List.getElem_cons_zero, List.getElem_cons_succ, List.setIfInBounds_toArray, List.set_cons_zero, List.set_cons_succ]
      refine wpAnyH_take (i := 2) (v := ?_) rfl (by kernel_rfl) (by kernel_rfl) (by kernel_rfl) (fun _ _ _ h => h) (Or.inl ⟨by rfl, ?_⟩) (by assumption) ?_
      rotate_left
      · simp only [List.getElem_toArray, List.getElem_cons_zero, List.getElem_cons_succ]; intro W hSw; (try dsimp only at hSw); go_simp; all_goals with_reducible rfl
      simp only [Act.put, List.getElem_toArray, List.getElem_cons_zero, List.getElem_cons_succ, List.setIfInBounds_toArray, List.set_cons_zero, List.set_cons_succ]
      refine wpAnyH_take (i := 3) (v := ?_) rfl (by kernel_rfl) (by kernel_rfl) (by kernel_rfl) (fun _ _ _ h => h) (Or.inl ⟨by rfl, ?_⟩) (by assumption) ?_
      rotate_left
      · simp only [List.getElem_toArray, List.getElem_cons_zero, List.getElem_cons_succ]; intro W hSw; (try dsimp only at hSw); go_simp; all_goals with_reducible rfl
      simp only [Act.put, List.getElem_toArray, List.getElem_cons_zero, List.getElem_cons_succ, List.setIfInBounds_toArray, List.set_cons_zero, List.set_cons_succ]
      refine wpAnyH_take (i := 4) (v := ?_) rfl (by kernel_rfl) (by kernel_rfl) (by kernel_rfl) (fun _ _ _ h => h) (Or.inl ⟨by rfl, ?_⟩) (by assumption) ?_
      rotate_left
      · simp only [List.getElem_toArray, List.getElem_cons_zero, List.getElem_cons_succ]; intro W hSw; (try dsimp only at hSw); go_simp; all_goals with_reducible rfl
      simp only [Act.put, List.getElem_toArray, List.getElem_cons_zero, List.getElem_cons_succ, List.setIfInBounds_toArray, List.set_cons_zero, List.set_cons_succ]
      refine wpAnyH_take (i := 6) (v := ?_) rfl (by kernel_rfl) (by kernel_rfl) (by kernel_rfl) (fun _ _ _ h => h) (Or.inl ⟨by rfl, ?_⟩) (by assumption) ?_
      rotate_left
      · simp only [List.getElem_toArray, List.getElem_cons_zero, List.getElem_cons_succ]; intro W hSw; (try dsimp only at hSw); go_simp; all_goals with_reducible rfl
      simp only [Act.put, List.getElem_toArray, List.getElem_cons_zero, List.getElem_cons_succ, List.setIfInBounds_toArray, List.set_cons_zero, List.set_cons_succ]
      refine wpAnyH_ready (rs := [0]) (by kernel_rfl) (by simp) ?_
      refine AllReadyH.cons rfl (fun K hK => ?_) AllReadyH.nil
      simp only [List.getElem_toArray, List.getElem_cons_zero, List.getElem_cons_succ]
      go_simp
      refine (HK.out _).mono ?_
      rintro e w2 ⟨rfl, hb2⟩
      have HB2 := Lib.hid ((Below.refl w1.heap.size w1).drew.trans hb2)
      go_wp2_with fail
      refine hK.out _ _ ((show w2.cell? ⟨X, 0, none⟩ = some (.int .i8 5) from (hb2.cell HX.out).trans HC.out)) (fun hHeldN => ?_)
      clear hK K hHeld
      have hHeld := hHeldN
      clear hHeldN
      (try simp only [Act.put, List.getElem_toArray, List.getElem_cons_zero, List.getElem_cons_succ, List.setIfInBounds_toArray, List.set_cons_zero, List.set_cons_succ])
      clear hb2
      refine wpAnyH_take (i := 5) (v := ?_) rfl (by kernel_rfl) (by kernel_rfl) (by kernel_rfl) (fun _ _ _ h => h) (Or.inl ⟨by rfl, ?_⟩) (by assumption) ?_
      rotate_left
      · simp only [List.getElem_toArray, List.getElem_cons_zero, List.getElem_cons_succ]; intro W hSw; (try dsimp only at hSw); go_simp; all_goals with_reducible rfl
      simp only [Act.put, List.getElem_toArray, List.getElem_cons_zero, List.getElem_cons_succ, List.setIfInBounds_toArray, List.set_cons_zero, List.set_cons_succ]
      refine wpAnyH_ready (rs := [7]) (by kernel_rfl) (by simp) ?_
      refine AllReadyH.cons rfl (fun K hK => ?_) AllReadyH.nil
      simp only [List.getElem_toArray, List.getElem_cons_zero, List.getElem_cons_succ]
      go_simp
      refine (HKd.out _).mono ?_
      rintro e w3 ⟨L, rfl, hb3, hf3⟩
      have HB3 := Lib.hid hb3
      have HF3 := Lib.hid hf3
      clear hb3 hf3
      go_wp2_with fail
      refine hK.out _ _ ((show w3.cell? ⟨X, 0, none⟩ = some (.int .i8 5) from (HB3.out.cell (by have := HB2.out.size; have := HX.out; simp; omega)).trans ((HB2.out.cell HX.out).trans HC.out))) (fun hHeldN => ?_)
      clear hK K hHeld
      have hHeld := hHeldN
      clear hHeldN
      (try simp only [Act.put, List.getElem_toArray, List.getElem_cons_zero, List.getElem_cons_succ, List.setIfInBounds_toArray, List.set_cons_zero, List.set_cons_succ])
      refine wpAnyH_take (i := 8) (v := ?_) rfl (by kernel_rfl) (by kernel_rfl) (by kernel_rfl) (fun _ _ _ h => h) (Or.inl ⟨by rfl, ?_⟩) (by assumption) ?_
      rotate_left
      · simp only [List.getElem_toArray, List.getElem_cons_zero, List.getElem_cons_succ]; intro W hSw; (try dsimp only at hSw); go_simp; all_goals with_reducible rfl
      simp only [Act.put, List.getElem_toArray, List.getElem_cons_zero, List.getElem_cons_succ, List.setIfInBounds_toArray, List.set_cons_zero, List.set_cons_succ]
      refine wpAnyH_done (by kernel_rfl) ?_ _
      go_wp2_with fail
      go_ret
      have s2 := HB2.out.size
      exact ⟨L, _, rfl, HB2.out.trans (HB3.out.mono s2), fun i hi => by
        obtain ⟨g, fs, e, h1, h2, h3, h4⟩ := HF3.out i hi
        exact ⟨g, fs, e, by omega, h2, h3.wide s2 (Nat.le_refl _), h4⟩⟩
    · show Calls _ _ _ _ fun e w' => ∃ L c, e = .returned (.slice L 1 c) ∧ _
      have HKd := Lib.hid (fun W => kinds6_dev W X)
      have HC := Lib.hid hc
      have hidx : ∀ W, (Instr.index 81 (.agg #[.nilFunc, fun0 54, fun0 57, fun0 60, fun0 62, fun0 65, fun0 66, fun0 68]) (.int .i8 6)).run Try.prog W = .ok (fun0 66) W := fun W => index_kinds W 6 (by omega) _ rfl
      clear hk h0
      go_enter Try.func27, Try.ntmps27
      go_wp2_with fail
      refine (HIn.out _).mono ?_
      rintro e w1 ⟨rfl, rfl⟩
      go_wp2_with fail
      refine wp_region_held_drew (S := fun W => W.cell? ⟨X, 0, none⟩ = some (.int .i8 6)) (by kernel_rfl) HC.out (fun hHeld => ?_)
      refine wpAnyH_take (i := 1) (v := ?_) rfl (by kernel_rfl) (by kernel_rfl) (by kernel_rfl) (fun _ _ _ h => h) (Or.inl ⟨by rfl, ?_⟩) (by assumption) ?_
      rotate_left
      · simp only [List.getElem_toArray, List.getElem_cons_zero, List.getElem_cons_succ]; intro W hSw; (try dsimp only at hSw); go_simp; all_goals with_reducible rfl
      simp only [Act.put, List.getElem_toArray, List.getElem_cons_zero, List.getElem_cons_succ, List.setIfInBounds_toArray, List.set_cons_zero, List.set_cons_succ]
      refine wpAnyH_take (i := 2) (v := ?_) rfl (by kernel_rfl) (by kernel_rfl) (by kernel_rfl) (fun _ _ _ h => h) (Or.inl ⟨by rfl, ?_⟩) (by assumption) ?_
      rotate_left
      · simp only [List.getElem_toArray, List.getElem_cons_zero, List.getElem_cons_succ]; intro W hSw; (try dsimp only at hSw); go_simp; all_goals with_reducible rfl
      simp only [Act.put, List.getElem_toArray, List.getElem_cons_zero, List.getElem_cons_succ, List.setIfInBounds_toArray, List.set_cons_zero, List.set_cons_succ]
      refine wpAnyH_take (i := 3) (v := ?_) rfl (by kernel_rfl) (by kernel_rfl) (by kernel_rfl) (fun _ _ _ h => h) (Or.inl ⟨by rfl, ?_⟩) (by assumption) ?_
      rotate_left
      · simp only [List.getElem_toArray, List.getElem_cons_zero, List.getElem_cons_succ]; intro W hSw; (try dsimp only at hSw); go_simp; all_goals with_reducible rfl
      simp only [Act.put, List.getElem_toArray, List.getElem_cons_zero, List.getElem_cons_succ, List.setIfInBounds_toArray, List.set_cons_zero, List.set_cons_succ]
      refine wpAnyH_take (i := 4) (v := ?_) rfl (by kernel_rfl) (by kernel_rfl) (by kernel_rfl) (fun _ _ _ h => h) (Or.inl ⟨by rfl, ?_⟩) (by assumption) ?_
      rotate_left
      · simp only [List.getElem_toArray, List.getElem_cons_zero, List.getElem_cons_succ]; intro W hSw; (try dsimp only at hSw); go_simp; all_goals with_reducible rfl
      simp only [Act.put, List.getElem_toArray, List.getElem_cons_zero, List.getElem_cons_succ, List.setIfInBounds_toArray, List.set_cons_zero, List.set_cons_succ]
      refine wpAnyH_take (i := 6) (v := ?_) rfl (by kernel_rfl) (by kernel_rfl) (by kernel_rfl) (fun _ _ _ h => h) (Or.inl ⟨by rfl, ?_⟩) (by assumption) ?_
      rotate_left
      · simp only [List.getElem_toArray, List.getElem_cons_zero, List.getElem_cons_succ]; intro W hSw; (try dsimp only at hSw); go_simp; all_goals with_reducible rfl
      simp only [Act.put, List.getElem_toArray, List.getElem_cons_zero, List.getElem_cons_succ, List.setIfInBounds_toArray, List.set_cons_zero, List.set_cons_succ]
      refine wpAnyH_ready (rs := [0]) (by kernel_rfl) (by simp) ?_
      refine AllReadyH.cons rfl (fun K hK => ?_) AllReadyH.nil
      simp only [List.getElem_toArray, List.getElem_cons_zero, List.getElem_cons_succ]
      go_simp
      refine (HK.out _).mono ?_
      rintro e w2 ⟨rfl, hb2⟩
      have HB2 := Lib.hid ((Below.refl w1.heap.size w1).drew.trans hb2)
      go_wp2_with fail
      refine hK.out _ _ ((show w2.cell? ⟨X, 0, none⟩ = some (.int .i8 6) from (hb2.cell HX.out).trans HC.out)) (fun hHeldN => ?_)
      clear hK K hHeld
      have hHeld := hHeldN
      clear hHeldN
      (try simp only [Act.put, List.getElem_toArray, List.getElem_cons_zero, List.getElem_cons_succ, List.setIfInBounds_toArray, List.set_cons_zero, List.set_cons_succ])
      clear hb2
      refine wpAnyH_take (i := 5) (v := ?_) rfl (by kernel_rfl) (by kernel_rfl) (by kernel_rfl) (fun _ _ _ h => h) (Or.inl ⟨by rfl, ?_⟩) (by assumption) ?_
      rotate_left
      · simp only [List.getElem_toArray, List.getElem_cons_zero, List.getElem_cons_succ]; intro W hSw; (try dsimp only at hSw); go_simp; all_goals with_reducible rfl
      simp only [Act.put, List.getElem_toArray, List.getElem_cons_zero, List.getElem_cons_succ, List.setIfInBounds_toArray, List.set_cons_zero, List.set_cons_succ]
      refine wpAnyH_ready (rs := [7]) (by kernel_rfl) (by simp) ?_
      refine AllReadyH.cons rfl (fun K hK => ?_) AllReadyH.nil
      simp only [List.getElem_toArray, List.getElem_cons_zero, List.getElem_cons_succ]
      go_simp
      refine (HKd.out _).mono ?_
      rintro e w3 ⟨L, rfl, hb3, hf3⟩
      have HB3 := Lib.hid hb3
      have HF3 := Lib.hid hf3
      clear hb3 hf3
      go_wp2_with fail
      refine hK.out _ _ ((show w3.cell? ⟨X, 0, none⟩ = some (.int .i8 6) from (HB3.out.cell (by have := HB2.out.size; have := HX.out; simp; omega)).trans ((HB2.out.cell HX.out).trans HC.out))) (fun hHeldN => ?_)
      clear hK K hHeld
      have hHeld := hHeldN
      clear hHeldN
      (try simp only [Act.put, List.getElem_toArray, List.getElem_cons_zero, List.getElem_cons_succ, List.setIfInBounds_toArray, List.set_cons_zero, List.set_cons_succ])
      refine wpAnyH_take (i := 8) (v := ?_) rfl (by kernel_rfl) (by kernel_rfl) (by kernel_rfl) (fun _ _ _ h => h) (Or.inl ⟨by rfl, ?_⟩) (by assumption) ?_
      rotate_left
      · simp only [List.getElem_toArray, List.getElem_cons_zero, List.getElem_cons_succ]; intro W hSw; (try dsimp only at hSw); go_simp; all_goals with_reducible rfl
      simp only [Act.put, List.getElem_toArray, List.getElem_cons_zero, List.getElem_cons_succ, List.setIfInBounds_toArray, List.set_cons_zero, List.set_cons_succ]
      refine wpAnyH_done (by kernel_rfl) ?_ _
      go_wp2_with fail
      go_ret
      have s2 := HB2.out.size
      exact ⟨L, _, rfl, HB2.out.trans (HB3.out.mono s2), fun i hi => by
        obtain ⟨g, fs, e, h1, h2, h3, h4⟩ := HF3.out i hi
        exact ⟨g, fs, e, by omega, h2, h3.wide s2 (Nat.le_refl _), h4⟩⟩
    · show Calls _ _ _ _ fun e w' => ∃ L c, e = .returned (.slice L 1 c) ∧ _
      have HKd := Lib.hid (fun W => kinds7_dev W X)
      have HC := Lib.hid hc
      have hidx : ∀ W, (Instr.index 81 (.agg #[.nilFunc, fun0 54, fun0 57, fun0 60, fun0 62, fun0 65, fun0 66, fun0 68]) (.int .i8 7)).run Try.prog W = .ok (fun0 68) W := fun W => index_kinds W 7 (by omega) _ rfl
      clear hk h0
      go_enter Try.func27, Try.ntmps27
      go_wp2_with fail
      refine (HIn.out _).mono ?_
      rintro e w1 ⟨rfl, rfl⟩
      go_wp2_with fail
      refine wp_region_held_drew (S := fun W => W.cell? ⟨X, 0, none⟩ = some (.int .i8 7)) (by kernel_rfl) HC.out (fun hHeld => ?_)
      refine wpAnyH_take (i := 1) (v := ?_) rfl (by kernel_rfl) (by kernel_rfl) (by kernel_rfl) (fun _ _ _ h => h) (Or.inl ⟨by rfl, ?_⟩) (by assumption) ?_
      rotate_left
      · simp only [List.getElem_toArray, List.getElem_cons_zero, List.getElem_cons_succ]; intro W hSw; (try dsimp only at hSw); go_simp; all_goals with_reducible rfl
      simp only [Act.put, List.getElem_toArray, List.getElem_cons_zero, List.getElem_cons_succ, List.setIfInBounds_toArray, List.set_cons_zero, List.set_cons_succ]
      refine wpAnyH_take (i := 2) (v := ?_) rfl (by kernel_rfl) (by kernel_rfl) (by kernel_rfl) (fun _ _ _ h => h) (Or.inl ⟨by rfl, ?_⟩) (by assumption) ?_
      rotate_left
      · simp only [List.getElem_toArray, List.getElem_cons_zero, List.getElem_cons_succ]; intro W hSw; (try dsimp only at hSw); go_simp; all_goals with_reducible rfl
      simp only [Act.put, List.getElem_toArray, List.getElem_cons_zero, List.getElem_cons_succ, List.setIfInBounds_toArray, List.set_cons_zero, List.set_cons_succ]
      refine wpAnyH_take (i := 3) (v := ?_) rfl (by kernel_rfl) (by kernel_rfl) (by kernel_rfl) (fun _ _ _ h => h) (Or.inl ⟨by rfl, ?_⟩) (by assumption) ?_
      rotate_left
      · simp only [List.getElem_toArray, List.getElem_cons_zero, List.getElem_cons_succ]; intro W hSw; (try dsimp only at hSw); go_simp; all_goals with_reducible rfl
      simp only [Act.put, List.getElem_toArray, List.getElem_cons_zero, List.getElem_cons_succ, List.setIfInBounds_toArray, List.set_cons_zero, List.set_cons_succ]
      refine wpAnyH_take (i := 4) (v := ?_) rfl (by kernel_rfl) (by kernel_rfl) (by kernel_rfl) (fun _ _ _ h => h) (Or.inl ⟨by rfl, ?_⟩) (by assumption) ?_
      rotate_left
      · simp only [List.getElem_toArray, List.getElem_cons_zero, List.getElem_cons_succ]; intro W hSw; (try dsimp only at hSw); go_simp; all_goals with_reducible rfl
      simp only [Act.put, List.getElem_toArray, List.getElem_cons_zero, List.getElem_cons_succ, List.setIfInBounds_toArray, List.set_cons_zero, List.set_cons_succ]
      refine wpAnyH_take (i := 6) (v := ?_) rfl (by kernel_rfl) (by kernel_rfl) (by kernel_rfl) (fun _ _ _ h => h) (Or.inl ⟨by rfl, ?_⟩) (by assumption) ?_
      rotate_left
      · simp only [List.getElem_toArray, List.getElem_cons_zero, List.getElem_cons_succ]; intro W hSw; (try dsimp only at hSw); go_simp; all_goals with_reducible rfl
      simp only [Act.put, List.getElem_toArray, List.getElem_cons_zero, List.getElem_cons_succ, List.setIfInBounds_toArray, List.set_cons_zero, List.set_cons_succ]
      refine wpAnyH_ready (rs := [0]) (by kernel_rfl) (by simp) ?_
      refine AllReadyH.cons rfl (fun K hK => ?_) AllReadyH.nil
      simp only [List.getElem_toArray, List.getElem_cons_zero, List.getElem_cons_succ]
      go_simp
      refine (HK.out _).mono ?_
      rintro e w2 ⟨rfl, hb2⟩
      have HB2 := Lib.hid ((Below.refl w1.heap.size w1).drew.trans hb2)
      go_wp2_with fail
      refine hK.out _ _ ((show w2.cell? ⟨X, 0, none⟩ = some (.int .i8 7) from (hb2.cell HX.out).trans HC.out)) (fun hHeldN => ?_)
      clear hK K hHeld
      have hHeld := hHeldN
      clear hHeldN
      (try simp only [Act.put, List.getElem_toArray, List.getElem_cons_zero, List.getElem_cons_succ, List.setIfInBounds_toArray, List.set_cons_zero, List.set_cons_succ])
      clear hb2
      refine wpAnyH_take (i := 5) (v := ?_) rfl (by kernel_rfl) (by kernel_rfl) (by kernel_rfl) (fun _ _ _ h => h) (Or.inl ⟨by rfl, ?_⟩) (by assumption) ?_
      rotate_left
      · simp only [List.getElem_toArray, List.getElem_cons_zero, List.getElem_cons_succ]; intro W hSw; (try dsimp only at hSw); go_simp; all_goals with_reducible rfl
      simp only [Act.put, List.getElem_toArray, List.getElem_cons_zero, List.getElem_cons_succ, List.setIfInBounds_toArray, List.set_cons_zero, List.set_cons_succ]
      refine wpAnyH_ready (rs := [7]) (by kernel_rfl) (by simp) ?_
      refine AllReadyH.cons rfl (fun K hK => ?_) AllReadyH.nil
      simp only [List.getElem_toArray, List.getElem_cons_zero, List.getElem_cons_succ]
      go_simp
      refine (HKd.out _).mono ?_
      rintro e w3 ⟨L, rfl, hb3, hf3⟩
      have HB3 := Lib.hid hb3
      have HF3 := Lib.hid hf3
      clear hb3 hf3
      go_wp2_with fail
      refine hK.out _ _ ((show w3.cell? ⟨X, 0, none⟩ = some (.int .i8 7) from (HB3.out.cell (by have := HB2.out.size; have := HX.out; simp; omega)).trans ((HB2.out.cell HX.out).trans HC.out))) (fun hHeldN => ?_)
      clear hK K hHeld
      have hHeld := hHeldN
      clear hHeldN
      (try simp only [Act.put, List.getElem_toArray, List.getElem_cons_zero, List.getElem_cons_succ, List.setIfInBounds_toArray, List.set_cons_zero, List.set_cons_succ])
      refine wpAnyH_take (i := 8) (v := ?_) rfl (by kernel_rfl) (by kernel_rfl) (by kernel_rfl) (fun _ _ _ h => h) (Or.inl ⟨by rfl, ?_⟩) (by assumption) ?_
      rotate_left
      · simp only [List.getElem_toArray, List.getElem_cons_zero, List.getElem_cons_succ]; intro W hSw; (try dsimp only at hSw); go_simp; all_goals with_reducible rfl
      simp only [Act.put, List.getElem_toArray, List.getElem_cons_zero, List.getElem_cons_succ, List.setIfInBounds_toArray, List.set_cons_zero, List.set_cons_succ]
      refine wpAnyH_done (by kernel_rfl) ?_ _
      go_wp2_with fail
      go_ret
      have s2 := HB2.out.size
      exact ⟨L, _, rfl, HB2.out.trans (HB3.out.mono s2), fun i hi => by
        obtain ⟨g, fs, e, h1, h2, h3, h4⟩ := HF3.out i hi
        exact ⟨g, fs, e, by omega, h2, h3.wide s2 (Nat.le_refl _), h4⟩⟩
  · have h0 : inB k 1 7 = false := decide_eq_false hk
    rw [h0] at HIn
    have h : kindsF k = [] := by unfold kindsF; rw [if_neg (by omega), if_neg (by omega), if_neg (by omega), if_neg (by omega), if_neg (by omega), if_neg (by omega), if_neg (by omega)]
    rw [h]
    clear h0 hk h
    go_enter Try.func27, Try.ntmps27
    go_wp2_with fail
    refine (HIn.out _).mono ?_
    rintro e w1 ⟨rfl, rfl⟩
    go_wp2
    go_ret
    exact ⟨none, 0, rfl, Below.refl _ _, fun i hi => absurd hi (by simp)⟩
end Go.Proofs.Ytaokhbodmodcgaa
end

section
/-
  The developers' fields: what their closures answer. (Written by mkclo.py.)
-/
namespace Go.Proofs.Ytaokhbodmodcgaa
open Go.RowKit
set_option maxRecDepth 100000

theorem takef_dev (t g : Int) (bx X : Nat) (w : World) (hx : w.cell? ⟨bx, 0, none⟩ = some (ptr X 0)) (hg : w.cell? ⟨X, 6, none⟩ = some (.int .i64 g)) : Calls Try.prog 79 #[.int .i64 t, ptr bx 0] w fun e w' => e = .returned (.bool (takeB t g)) ∧ w' = w := by
  have HA := Lib.hid (fun W => stripes_dev t W)
  obtain ⟨E, hE⟩ : ∃ E, E = takeB t g := ⟨_, rfl⟩
  rw [← hE]
  unfold takeB at hE
  obtain ⟨z, hz⟩ : ∃ z, z = bits .and .i64 t g := ⟨_, rfl⟩
  have hz' := hz.symm
  rw [← hz] at hE
  generalize inB t 0 255 = p at *
  cases p with
  | false =>
    have HE := Lib.hid (show E = false from hE)
    clear hE hz
    go_enter Try.func79, Try.ntmps79
    go_wp2_with fail
    refine (HA.out _).mono ?_
    rintro e w2 ⟨rfl, rfl⟩
    go_wp2
    go_ret
    exact ⟨by rw [HE.out]; rfl, rfl⟩
  | true =>
    by_cases h0 : z = 0
    · have HE := Lib.hid (show E = true by rw [hE, h0]; rfl)
      have hq : (z == 0) = true := by simp [h0]
      clear hE hz h0
      go_enter Try.func79, Try.ntmps79
      go_wp2_with fail
      refine (HA.out _).mono ?_
      rintro e w2 ⟨rfl, rfl⟩
      go_wp2
      go_ret
      exact ⟨by rw [HE.out]; rfl, rfl⟩
    · have HE := Lib.hid (show E = false by rw [hE, Bool.true_and]; simp [h0])
      have hq : (z == 0) = false := by simp [h0]
      clear hE hz h0
      go_enter Try.func79, Try.ntmps79
      go_wp2_with fail
      refine (HA.out _).mono ?_
      rintro e w2 ⟨rfl, rfl⟩
      go_wp2
      go_ret
      exact ⟨by rw [HE.out]; rfl, rfl⟩

set_option maxHeartbeats 2000000 in
theorem may_name (w : World) (X : Nat) (P : Nat → Prop) (A : Option Addr) (c : Nat) (r : Rc) (bm bp : Nat) (hX : RBox w X P A c r) (hm : w.cell? ⟨bm, 0, none⟩ = some (fun0 16)) (hp : w.cell? ⟨bp, 0, none⟩ = some (ptr X 1)) (hbm : bm < w.heap.size) (hbp : bp < w.heap.size) :
    Calls Try.prog 92 #[ptr bm 0, ptr bp 0] w fun e w' => e = .returned (.bool (mayF .name r)) ∧ Below w.heap.size w w' := by
  have HM := Lib.hid (show Calls Try.prog 16 #[.agg (nmv r.name).toArray] w.drew fun e w' => e = .returned (.bool (mayF .name r)) ∧ Below w.heap.size w.drew w' from (named_dev r.name _).mono fun e w' h => ⟨h.1, h.2⟩)
  have HS := Lib.hid (show ∀ W, Below w.heap.size w W → W.cell? ⟨bm, 0, none⟩ = some (fun0 16) ∧ W.cell? ⟨bp, 0, none⟩ = some (ptr X 1) ∧ (∀ j u, (nmv r.name)[j]? = some u → W.cell? ⟨X, 1 + j, none⟩ = some u) from fun W hW =>
    ⟨(hW.cell hbm).trans hm, (hW.cell hbp).trans hp, (fun j u hu => by have hj := (List.getElem?_eq_some_iff.1 hu).1; match j, hu with | 0, hu => cases hu; exact (hX.below hW).cell 1 rfl | 1, hu => cases hu; exact (hX.below hW).cell 2 rfl | 2, hu => cases hu; exact (hX.below hW).cell 3 rfl)⟩)
  clear hX hm hp hbm hbp
  go_enter Try.func92, Try.ntmps92
  go_wp2_with fail
  refine wp_region_held_drew (S := fun W => W.cell? ⟨bm, 0, none⟩ = some (fun0 16) ∧ W.cell? ⟨bp, 0, none⟩ = some (ptr X 1) ∧ (∀ j u, (nmv r.name)[j]? = some u → W.cell? ⟨X, 1 + j, none⟩ = some u)) (by kernel_rfl) (HS.out _ (Below.refl _ _).drew) (fun hHeld => ?_)
  refine wpAnyH_take (i := 0) (v := ?_) rfl (by kernel_rfl) (by kernel_rfl) (by kernel_rfl) (fun _ _ _ h => h) (Or.inl ⟨by rfl, ?_⟩) (by assumption) ?_
  rotate_left
  · simp only [List.getElem_toArray, List.getElem_cons_zero, List.getElem_cons_succ]; intro W hSw; (try dsimp only at hSw); go_simp; all_goals with_reducible rfl
  simp only [Act.put, List.getElem_toArray, List.getElem_cons_zero, List.getElem_cons_succ, List.setIfInBounds_toArray, List.set_cons_zero, List.set_cons_succ]
  refine wpAnyH_take (i := 1) (v := ?_) rfl (by kernel_rfl) (by kernel_rfl) (by kernel_rfl) (fun _ _ _ h => h) (Or.inl ⟨by rfl, ?_⟩) (by assumption) ?_
  rotate_left
  · simp only [List.getElem_toArray, List.getElem_cons_zero, List.getElem_cons_succ]; intro W hSw; (try dsimp only at hSw); go_simp; all_goals with_reducible rfl
  simp only [Act.put, List.getElem_toArray, List.getElem_cons_zero, List.getElem_cons_succ, List.setIfInBounds_toArray, List.set_cons_zero, List.set_cons_succ]
  refine wpAnyH_take (i := 2) (v := ?_) rfl (by kernel_rfl) (by kernel_rfl) (by kernel_rfl) (fun _ _ _ h => h) (Or.inl ⟨by rfl, ?_⟩) (by assumption) ?_
  rotate_left
  · simp only [List.getElem_toArray, List.getElem_cons_zero, List.getElem_cons_succ]; intro W hSw; (try dsimp only at hSw); go_simp; all_goals with_reducible rfl
  simp only [Act.put, List.getElem_toArray, List.getElem_cons_zero, List.getElem_cons_succ, List.setIfInBounds_toArray, List.set_cons_zero, List.set_cons_succ]
  refine wpAnyH_take (i := 3) (v := ?_) rfl (by kernel_rfl) (by kernel_rfl) (by kernel_rfl) (fun _ _ _ h => h) (Or.inl ⟨by rfl, ?_⟩) (by assumption) ?_
  rotate_left
  · simp only [List.getElem_toArray, List.getElem_cons_zero, List.getElem_cons_succ]; intro W hSw; (try dsimp only at hSw); refine exec_load_part 24 (.tmp 5) ?_ X 1 ?_ (nmv r.name) _ hSw.2.2 Try.underlying24 ?_ ?_ <;> first | rfl | exact sizeN
  simp only [Act.put, List.getElem_toArray, List.getElem_cons_zero, List.getElem_cons_succ, List.setIfInBounds_toArray, List.set_cons_zero, List.set_cons_succ]
  refine wpAnyH_ready (rs := [4]) (by kernel_rfl) (by simp) ?_
  refine AllReadyH.cons rfl (fun K hK => ?_) AllReadyH.nil
  simp only [List.getElem_toArray, List.getElem_cons_zero, List.getElem_cons_succ]
  go_simp
  refine HM.out.mono ?_
  rintro e w2 ⟨rfl, hb2⟩
  have HB2 := Lib.hid ((Below.refl w.heap.size w).drew.trans hb2)
  clear hb2
  go_wp2_with fail
  refine hK.out _ _ (HS.out _ HB2.out) (fun hHeldN => ?_)
  clear hK K hHeld
  have hHeld := hHeldN
  clear hHeldN
  (try simp only [Act.put, List.getElem_toArray, List.getElem_cons_zero, List.getElem_cons_succ, List.setIfInBounds_toArray, List.set_cons_zero, List.set_cons_succ])
  refine wpAnyH_take (i := 5) (v := ?_) rfl (by kernel_rfl) (by kernel_rfl) (by kernel_rfl) (fun _ _ _ h => h) (Or.inl ⟨by rfl, ?_⟩) (by assumption) ?_
  rotate_left
  · simp only [List.getElem_toArray, List.getElem_cons_zero, List.getElem_cons_succ]; intro W hSw; (try dsimp only at hSw); go_simp; all_goals with_reducible rfl
  simp only [Act.put, List.getElem_toArray, List.getElem_cons_zero, List.getElem_cons_succ, List.setIfInBounds_toArray, List.set_cons_zero, List.set_cons_succ]
  refine wpAnyH_done (by kernel_rfl) ?_ _
  go_wp2_with fail
  go_ret
  exact ⟨rfl, HB2.out⟩

set_option maxHeartbeats 2000000 in
theorem may_writes (w : World) (X : Nat) (P : Nat → Prop) (A : Option Addr) (c : Nat) (r : Rc) (bm bp : Nat) (hX : RBox w X P A c r) (hm : w.cell? ⟨bm, 0, none⟩ = some (fun0 18)) (hp : w.cell? ⟨bp, 0, none⟩ = some (ptr X 5)) (hbm : bm < w.heap.size) (hbp : bp < w.heap.size) :
    Calls Try.prog 96 #[ptr bm 0, ptr bp 0] w fun e w' => e = .returned (.bool (mayF .writes r)) ∧ Below w.heap.size w w' := by
  have HM := Lib.hid (show Calls Try.prog 18 #[.slice A r.writes.length c] w.drew fun e w' => e = .returned (.bool (mayF .writes r)) ∧ Below w.heap.size w.drew w' from (written_dev r.writes A c w.drew P (hX.wrs.at_.keep (Nat.le_refl _) fun _ _ _ => rfl) hX.fine.writes).mono fun e w' h => h)
  have HS := Lib.hid (show ∀ W, Below w.heap.size w W → W.cell? ⟨bm, 0, none⟩ = some (fun0 18) ∧ W.cell? ⟨bp, 0, none⟩ = some (ptr X 5) ∧ W.cell? ⟨X, 5, none⟩ = some (.slice A r.writes.length c) from fun W hW =>
    ⟨(hW.cell hbm).trans hm, (hW.cell hbp).trans hp, ((hX.below hW).cell 5 rfl)⟩)
  clear hX hm hp hbm hbp
  go_enter Try.func96, Try.ntmps96
  go_wp2_with fail
  refine wp_region_held_drew (S := fun W => W.cell? ⟨bm, 0, none⟩ = some (fun0 18) ∧ W.cell? ⟨bp, 0, none⟩ = some (ptr X 5) ∧ W.cell? ⟨X, 5, none⟩ = some (.slice A r.writes.length c)) (by kernel_rfl) (HS.out _ (Below.refl _ _).drew) (fun hHeld => ?_)
  refine wpAnyH_take (i := 0) (v := ?_) rfl (by kernel_rfl) (by kernel_rfl) (by kernel_rfl) (fun _ _ _ h => h) (Or.inl ⟨by rfl, ?_⟩) (by assumption) ?_
  rotate_left
  · simp only [List.getElem_toArray, List.getElem_cons_zero, List.getElem_cons_succ]; intro W hSw; (try dsimp only at hSw); go_simp; all_goals with_reducible rfl
  simp only [Act.put, List.getElem_toArray, List.getElem_cons_zero, List.getElem_cons_succ, List.setIfInBounds_toArray, List.set_cons_zero, List.set_cons_succ]
  refine wpAnyH_take (i := 1) (v := ?_) rfl (by kernel_rfl) (by kernel_rfl) (by kernel_rfl) (fun _ _ _ h => h) (Or.inl ⟨by rfl, ?_⟩) (by assumption) ?_
  rotate_left
  · simp only [List.getElem_toArray, List.getElem_cons_zero, List.getElem_cons_succ]; intro W hSw; (try dsimp only at hSw); go_simp; all_goals with_reducible rfl
  simp only [Act.put, List.getElem_toArray, List.getElem_cons_zero, List.getElem_cons_succ, List.setIfInBounds_toArray, List.set_cons_zero, List.set_cons_succ]
  refine wpAnyH_take (i := 2) (v := ?_) rfl (by kernel_rfl) (by kernel_rfl) (by kernel_rfl) (fun _ _ _ h => h) (Or.inl ⟨by rfl, ?_⟩) (by assumption) ?_
  rotate_left
  · simp only [List.getElem_toArray, List.getElem_cons_zero, List.getElem_cons_succ]; intro W hSw; (try dsimp only at hSw); go_simp; all_goals with_reducible rfl
  simp only [Act.put, List.getElem_toArray, List.getElem_cons_zero, List.getElem_cons_succ, List.setIfInBounds_toArray, List.set_cons_zero, List.set_cons_succ]
  refine wpAnyH_take (i := 3) (v := ?_) rfl (by kernel_rfl) (by kernel_rfl) (by kernel_rfl) (fun _ _ _ h => h) (Or.inl ⟨by rfl, ?_⟩) (by assumption) ?_
  rotate_left
  · simp only [List.getElem_toArray, List.getElem_cons_zero, List.getElem_cons_succ]; intro W hSw; (try dsimp only at hSw); go_simp; all_goals with_reducible rfl
  simp only [Act.put, List.getElem_toArray, List.getElem_cons_zero, List.getElem_cons_succ, List.setIfInBounds_toArray, List.set_cons_zero, List.set_cons_succ]
  refine wpAnyH_ready (rs := [4]) (by kernel_rfl) (by simp) ?_
  refine AllReadyH.cons rfl (fun K hK => ?_) AllReadyH.nil
  simp only [List.getElem_toArray, List.getElem_cons_zero, List.getElem_cons_succ]
  go_simp
  refine HM.out.mono ?_
  rintro e w2 ⟨rfl, hb2⟩
  have HB2 := Lib.hid ((Below.refl w.heap.size w).drew.trans hb2)
  clear hb2
  go_wp2_with fail
  refine hK.out _ _ (HS.out _ HB2.out) (fun hHeldN => ?_)
  clear hK K hHeld
  have hHeld := hHeldN
  clear hHeldN
  (try simp only [Act.put, List.getElem_toArray, List.getElem_cons_zero, List.getElem_cons_succ, List.setIfInBounds_toArray, List.set_cons_zero, List.set_cons_succ])
  refine wpAnyH_take (i := 5) (v := ?_) rfl (by kernel_rfl) (by kernel_rfl) (by kernel_rfl) (fun _ _ _ h => h) (Or.inl ⟨by rfl, ?_⟩) (by assumption) ?_
  rotate_left
  · simp only [List.getElem_toArray, List.getElem_cons_zero, List.getElem_cons_succ]; intro W hSw; (try dsimp only at hSw); go_simp; all_goals with_reducible rfl
  simp only [Act.put, List.getElem_toArray, List.getElem_cons_zero, List.getElem_cons_succ, List.setIfInBounds_toArray, List.set_cons_zero, List.set_cons_succ]
  refine wpAnyH_done (by kernel_rfl) ?_ _
  go_wp2_with fail
  go_ret
  exact ⟨rfl, HB2.out⟩

set_option maxHeartbeats 2000000 in
theorem may_give (w : World) (X : Nat) (P : Nat → Prop) (A : Option Addr) (c : Nat) (r : Rc) (bm bp : Nat) (hX : RBox w X P A c r) (hm : w.cell? ⟨bm, 0, none⟩ = some (fun0 76)) (hp : w.cell? ⟨bp, 0, none⟩ = some (ptr X 6)) (hbm : bm < w.heap.size) (hbp : bp < w.heap.size) :
    Calls Try.prog 100 #[ptr bm 0, ptr bp 0] w fun e w' => e = .returned (.bool (mayF .give r)) ∧ Below w.heap.size w w' := by
  have HM := Lib.hid (show Calls Try.prog 76 #[.int .i64 r.give] w.drew fun e w' => e = .returned (.bool (mayF .give r)) ∧ Below w.heap.size w.drew w' from (stripes_dev r.give _).mono fun e w' h => ⟨h.1, by rw [h.2]; exact Below.refl _ _⟩)
  have HS := Lib.hid (show ∀ W, Below w.heap.size w W → W.cell? ⟨bm, 0, none⟩ = some (fun0 76) ∧ W.cell? ⟨bp, 0, none⟩ = some (ptr X 6) ∧ W.cell? ⟨X, 6, none⟩ = some (.int .i64 r.give) from fun W hW =>
    ⟨(hW.cell hbm).trans hm, (hW.cell hbp).trans hp, ((hX.below hW).cell 6 rfl)⟩)
  clear hX hm hp hbm hbp
  go_enter Try.func100, Try.ntmps100
  go_wp2_with fail
  refine wp_region_held_drew (S := fun W => W.cell? ⟨bm, 0, none⟩ = some (fun0 76) ∧ W.cell? ⟨bp, 0, none⟩ = some (ptr X 6) ∧ W.cell? ⟨X, 6, none⟩ = some (.int .i64 r.give)) (by kernel_rfl) (HS.out _ (Below.refl _ _).drew) (fun hHeld => ?_)
  refine wpAnyH_take (i := 0) (v := ?_) rfl (by kernel_rfl) (by kernel_rfl) (by kernel_rfl) (fun _ _ _ h => h) (Or.inl ⟨by rfl, ?_⟩) (by assumption) ?_
  rotate_left
  · simp only [List.getElem_toArray, List.getElem_cons_zero, List.getElem_cons_succ]; intro W hSw; (try dsimp only at hSw); go_simp; all_goals with_reducible rfl
  simp only [Act.put, List.getElem_toArray, List.getElem_cons_zero, List.getElem_cons_succ, List.setIfInBounds_toArray, List.set_cons_zero, List.set_cons_succ]
  refine wpAnyH_take (i := 1) (v := ?_) rfl (by kernel_rfl) (by kernel_rfl) (by kernel_rfl) (fun _ _ _ h => h) (Or.inl ⟨by rfl, ?_⟩) (by assumption) ?_
  rotate_left
  · simp only [List.getElem_toArray, List.getElem_cons_zero, List.getElem_cons_succ]; intro W hSw; (try dsimp only at hSw); go_simp; all_goals with_reducible rfl
  simp only [Act.put, List.getElem_toArray, List.getElem_cons_zero, List.getElem_cons_succ, List.setIfInBounds_toArray, List.set_cons_zero, List.set_cons_succ]
  refine wpAnyH_take (i := 2) (v := ?_) rfl (by kernel_rfl) (by kernel_rfl) (by kernel_rfl) (fun _ _ _ h => h) (Or.inl ⟨by rfl, ?_⟩) (by assumption) ?_
  rotate_left
  · simp only [List.getElem_toArray, List.getElem_cons_zero, List.getElem_cons_succ]; intro W hSw; (try dsimp only at hSw); go_simp; all_goals with_reducible rfl
  simp only [Act.put, List.getElem_toArray, List.getElem_cons_zero, List.getElem_cons_succ, List.setIfInBounds_toArray, List.set_cons_zero, List.set_cons_succ]
  refine wpAnyH_take (i := 3) (v := ?_) rfl (by kernel_rfl) (by kernel_rfl) (by kernel_rfl) (fun _ _ _ h => h) (Or.inl ⟨by rfl, ?_⟩) (by assumption) ?_
  rotate_left
  · simp only [List.getElem_toArray, List.getElem_cons_zero, List.getElem_cons_succ]; intro W hSw; (try dsimp only at hSw); go_simp; all_goals with_reducible rfl
  simp only [Act.put, List.getElem_toArray, List.getElem_cons_zero, List.getElem_cons_succ, List.setIfInBounds_toArray, List.set_cons_zero, List.set_cons_succ]
  refine wpAnyH_ready (rs := [4]) (by kernel_rfl) (by simp) ?_
  refine AllReadyH.cons rfl (fun K hK => ?_) AllReadyH.nil
  simp only [List.getElem_toArray, List.getElem_cons_zero, List.getElem_cons_succ]
  go_simp
  refine HM.out.mono ?_
  rintro e w2 ⟨rfl, hb2⟩
  have HB2 := Lib.hid ((Below.refl w.heap.size w).drew.trans hb2)
  clear hb2
  go_wp2_with fail
  refine hK.out _ _ (HS.out _ HB2.out) (fun hHeldN => ?_)
  clear hK K hHeld
  have hHeld := hHeldN
  clear hHeldN
  (try simp only [Act.put, List.getElem_toArray, List.getElem_cons_zero, List.getElem_cons_succ, List.setIfInBounds_toArray, List.set_cons_zero, List.set_cons_succ])
  refine wpAnyH_take (i := 5) (v := ?_) rfl (by kernel_rfl) (by kernel_rfl) (by kernel_rfl) (fun _ _ _ h => h) (Or.inl ⟨by rfl, ?_⟩) (by assumption) ?_
  rotate_left
  · simp only [List.getElem_toArray, List.getElem_cons_zero, List.getElem_cons_succ]; intro W hSw; (try dsimp only at hSw); go_simp; all_goals with_reducible rfl
  simp only [Act.put, List.getElem_toArray, List.getElem_cons_zero, List.getElem_cons_succ, List.setIfInBounds_toArray, List.set_cons_zero, List.set_cons_succ]
  refine wpAnyH_done (by kernel_rfl) ?_ _
  go_wp2_with fail
  go_ret
  exact ⟨rfl, HB2.out⟩

set_option maxHeartbeats 2000000 in
theorem may_take (w : World) (X : Nat) (P : Nat → Prop) (A : Option Addr) (c : Nat) (r : Rc) (bm bp : Nat) (bx : Nat) (hbx : w.cell? ⟨bx, 0, none⟩ = some (ptr X 0)) (hX : RBox w X P A c r) (hm : w.cell? ⟨bm, 0, none⟩ = some (.func (.func 79) #[] #[ptr bx 0])) (hp : w.cell? ⟨bp, 0, none⟩ = some (ptr X 7)) (hbm : bm < w.heap.size) (hbp : bp < w.heap.size) :
    Calls Try.prog 100 #[ptr bm 0, ptr bp 0] w fun e w' => e = .returned (.bool (mayF .take r)) ∧ Below w.heap.size w w' := by
  have HM := Lib.hid (show Calls Try.prog 79 #[.int .i64 r.take, ptr bx 0] w.drew fun e w' => e = .returned (.bool (mayF .take r)) ∧ Below w.heap.size w.drew w' from (takef_dev r.take r.give bx X _ (by exact hbx) (by exact hX.cell 6 rfl)).mono fun e w' h => ⟨h.1, by rw [h.2]; exact Below.refl _ _⟩)
  have HS := Lib.hid (show ∀ W, Below w.heap.size w W → W.cell? ⟨bm, 0, none⟩ = some (.func (.func 79) #[] #[ptr bx 0]) ∧ W.cell? ⟨bp, 0, none⟩ = some (ptr X 7) ∧ W.cell? ⟨X, 7, none⟩ = some (.int .i64 r.take) from fun W hW =>
    ⟨(hW.cell hbm).trans hm, (hW.cell hbp).trans hp, ((hX.below hW).cell 7 rfl)⟩)
  clear hX hm hp hbm hbp hbx
  go_enter Try.func100, Try.ntmps100
  go_wp2_with fail
  refine wp_region_held_drew (S := fun W => W.cell? ⟨bm, 0, none⟩ = some (.func (.func 79) #[] #[ptr bx 0]) ∧ W.cell? ⟨bp, 0, none⟩ = some (ptr X 7) ∧ W.cell? ⟨X, 7, none⟩ = some (.int .i64 r.take)) (by kernel_rfl) (HS.out _ (Below.refl _ _).drew) (fun hHeld => ?_)
  refine wpAnyH_take (i := 0) (v := ?_) rfl (by kernel_rfl) (by kernel_rfl) (by kernel_rfl) (fun _ _ _ h => h) (Or.inl ⟨by rfl, ?_⟩) (by assumption) ?_
  rotate_left
  · simp only [List.getElem_toArray, List.getElem_cons_zero, List.getElem_cons_succ]; intro W hSw; (try dsimp only at hSw); go_simp; all_goals with_reducible rfl
  simp only [Act.put, List.getElem_toArray, List.getElem_cons_zero, List.getElem_cons_succ, List.setIfInBounds_toArray, List.set_cons_zero, List.set_cons_succ]
  refine wpAnyH_take (i := 1) (v := ?_) rfl (by kernel_rfl) (by kernel_rfl) (by kernel_rfl) (fun _ _ _ h => h) (Or.inl ⟨by rfl, ?_⟩) (by assumption) ?_
  rotate_left
  · simp only [List.getElem_toArray, List.getElem_cons_zero, List.getElem_cons_succ]; intro W hSw; (try dsimp only at hSw); go_simp; all_goals with_reducible rfl
  simp only [Act.put, List.getElem_toArray, List.getElem_cons_zero, List.getElem_cons_succ, List.setIfInBounds_toArray, List.set_cons_zero, List.set_cons_succ]
  refine wpAnyH_take (i := 2) (v := ?_) rfl (by kernel_rfl) (by kernel_rfl) (by kernel_rfl) (fun _ _ _ h => h) (Or.inl ⟨by rfl, ?_⟩) (by assumption) ?_
  rotate_left
  · simp only [List.getElem_toArray, List.getElem_cons_zero, List.getElem_cons_succ]; intro W hSw; (try dsimp only at hSw); go_simp; all_goals with_reducible rfl
  simp only [Act.put, List.getElem_toArray, List.getElem_cons_zero, List.getElem_cons_succ, List.setIfInBounds_toArray, List.set_cons_zero, List.set_cons_succ]
  refine wpAnyH_take (i := 3) (v := ?_) rfl (by kernel_rfl) (by kernel_rfl) (by kernel_rfl) (fun _ _ _ h => h) (Or.inl ⟨by rfl, ?_⟩) (by assumption) ?_
  rotate_left
  · simp only [List.getElem_toArray, List.getElem_cons_zero, List.getElem_cons_succ]; intro W hSw; (try dsimp only at hSw); go_simp; all_goals with_reducible rfl
  simp only [Act.put, List.getElem_toArray, List.getElem_cons_zero, List.getElem_cons_succ, List.setIfInBounds_toArray, List.set_cons_zero, List.set_cons_succ]
  refine wpAnyH_ready (rs := [4]) (by kernel_rfl) (by simp) ?_
  refine AllReadyH.cons rfl (fun K hK => ?_) AllReadyH.nil
  simp only [List.getElem_toArray, List.getElem_cons_zero, List.getElem_cons_succ]
  go_simp
  refine HM.out.mono ?_
  rintro e w2 ⟨rfl, hb2⟩
  have HB2 := Lib.hid ((Below.refl w.heap.size w).drew.trans hb2)
  clear hb2
  go_wp2_with fail
  refine hK.out _ _ (HS.out _ HB2.out) (fun hHeldN => ?_)
  clear hK K hHeld
  have hHeld := hHeldN
  clear hHeldN
  (try simp only [Act.put, List.getElem_toArray, List.getElem_cons_zero, List.getElem_cons_succ, List.setIfInBounds_toArray, List.set_cons_zero, List.set_cons_succ])
  refine wpAnyH_take (i := 5) (v := ?_) rfl (by kernel_rfl) (by kernel_rfl) (by kernel_rfl) (fun _ _ _ h => h) (Or.inl ⟨by rfl, ?_⟩) (by assumption) ?_
  rotate_left
  · simp only [List.getElem_toArray, List.getElem_cons_zero, List.getElem_cons_succ]; intro W hSw; (try dsimp only at hSw); go_simp; all_goals with_reducible rfl
  simp only [Act.put, List.getElem_toArray, List.getElem_cons_zero, List.getElem_cons_succ, List.setIfInBounds_toArray, List.set_cons_zero, List.set_cons_succ]
  refine wpAnyH_done (by kernel_rfl) ?_ _
  go_wp2_with fail
  go_ret
  exact ⟨rfl, HB2.out⟩

set_option maxHeartbeats 2000000 in
theorem may_yes (w : World) (X : Nat) (P : Nat → Prop) (A : Option Addr) (c : Nat) (r : Rc) (bm bp : Nat) (hX : RBox w X P A c r) (hm : w.cell? ⟨bm, 0, none⟩ = some (fun0 80)) (hp : w.cell? ⟨bp, 0, none⟩ = some (ptr X 4)) (hbm : bm < w.heap.size) (hbp : bp < w.heap.size) :
    Calls Try.prog 105 #[ptr bm 0, ptr bp 0] w fun e w' => e = .returned (.bool (mayF .yes r)) ∧ Below w.heap.size w w' := by
  have HM := Lib.hid (show Calls Try.prog 80 #[.bool r.yes] w.drew fun e w' => e = .returned (.bool (mayF .yes r)) ∧ Below w.heap.size w.drew w' from (yes_dev r.yes _).mono fun e w' h => ⟨h.1, by rw [h.2]; exact Below.refl _ _⟩)
  have HS := Lib.hid (show ∀ W, Below w.heap.size w W → W.cell? ⟨bm, 0, none⟩ = some (fun0 80) ∧ W.cell? ⟨bp, 0, none⟩ = some (ptr X 4) ∧ W.cell? ⟨X, 4, none⟩ = some (.bool r.yes) from fun W hW =>
    ⟨(hW.cell hbm).trans hm, (hW.cell hbp).trans hp, ((hX.below hW).cell 4 rfl)⟩)
  clear hX hm hp hbm hbp
  go_enter Try.func105, Try.ntmps105
  go_wp2_with fail
  refine wp_region_held_drew (S := fun W => W.cell? ⟨bm, 0, none⟩ = some (fun0 80) ∧ W.cell? ⟨bp, 0, none⟩ = some (ptr X 4) ∧ W.cell? ⟨X, 4, none⟩ = some (.bool r.yes)) (by kernel_rfl) (HS.out _ (Below.refl _ _).drew) (fun hHeld => ?_)
  refine wpAnyH_take (i := 0) (v := ?_) rfl (by kernel_rfl) (by kernel_rfl) (by kernel_rfl) (fun _ _ _ h => h) (Or.inl ⟨by rfl, ?_⟩) (by assumption) ?_
  rotate_left
  · simp only [List.getElem_toArray, List.getElem_cons_zero, List.getElem_cons_succ]; intro W hSw; (try dsimp only at hSw); go_simp; all_goals with_reducible rfl
  simp only [Act.put, List.getElem_toArray, List.getElem_cons_zero, List.getElem_cons_succ, List.setIfInBounds_toArray, List.set_cons_zero, List.set_cons_succ]
  refine wpAnyH_take (i := 1) (v := ?_) rfl (by kernel_rfl) (by kernel_rfl) (by kernel_rfl) (fun _ _ _ h => h) (Or.inl ⟨by rfl, ?_⟩) (by assumption) ?_
  rotate_left
  · simp only [List.getElem_toArray, List.getElem_cons_zero, List.getElem_cons_succ]; intro W hSw; (try dsimp only at hSw); go_simp; all_goals with_reducible rfl
  simp only [Act.put, List.getElem_toArray, List.getElem_cons_zero, List.getElem_cons_succ, List.setIfInBounds_toArray, List.set_cons_zero, List.set_cons_succ]
  refine wpAnyH_take (i := 2) (v := ?_) rfl (by kernel_rfl) (by kernel_rfl) (by kernel_rfl) (fun _ _ _ h => h) (Or.inl ⟨by rfl, ?_⟩) (by assumption) ?_
  rotate_left
  · simp only [List.getElem_toArray, List.getElem_cons_zero, List.getElem_cons_succ]; intro W hSw; (try dsimp only at hSw); go_simp; all_goals with_reducible rfl
  simp only [Act.put, List.getElem_toArray, List.getElem_cons_zero, List.getElem_cons_succ, List.setIfInBounds_toArray, List.set_cons_zero, List.set_cons_succ]
  refine wpAnyH_take (i := 3) (v := ?_) rfl (by kernel_rfl) (by kernel_rfl) (by kernel_rfl) (fun _ _ _ h => h) (Or.inl ⟨by rfl, ?_⟩) (by assumption) ?_
  rotate_left
  · simp only [List.getElem_toArray, List.getElem_cons_zero, List.getElem_cons_succ]; intro W hSw; (try dsimp only at hSw); go_simp; all_goals with_reducible rfl
  simp only [Act.put, List.getElem_toArray, List.getElem_cons_zero, List.getElem_cons_succ, List.setIfInBounds_toArray, List.set_cons_zero, List.set_cons_succ]
  refine wpAnyH_ready (rs := [4]) (by kernel_rfl) (by simp) ?_
  refine AllReadyH.cons rfl (fun K hK => ?_) AllReadyH.nil
  simp only [List.getElem_toArray, List.getElem_cons_zero, List.getElem_cons_succ]
  go_simp
  refine HM.out.mono ?_
  rintro e w2 ⟨rfl, hb2⟩
  have HB2 := Lib.hid ((Below.refl w.heap.size w).drew.trans hb2)
  clear hb2
  go_wp2_with fail
  refine hK.out _ _ (HS.out _ HB2.out) (fun hHeldN => ?_)
  clear hK K hHeld
  have hHeld := hHeldN
  clear hHeldN
  (try simp only [Act.put, List.getElem_toArray, List.getElem_cons_zero, List.getElem_cons_succ, List.setIfInBounds_toArray, List.set_cons_zero, List.set_cons_succ])
  refine wpAnyH_take (i := 5) (v := ?_) rfl (by kernel_rfl) (by kernel_rfl) (by kernel_rfl) (fun _ _ _ h => h) (Or.inl ⟨by rfl, ?_⟩) (by assumption) ?_
  rotate_left
  · simp only [List.getElem_toArray, List.getElem_cons_zero, List.getElem_cons_succ]; intro W hSw; (try dsimp only at hSw); go_simp; all_goals with_reducible rfl
  simp only [Act.put, List.getElem_toArray, List.getElem_cons_zero, List.getElem_cons_succ, List.setIfInBounds_toArray, List.set_cons_zero, List.set_cons_succ]
  refine wpAnyH_done (by kernel_rfl) ?_ _
  go_wp2_with fail
  go_ret
  exact ⟨rfl, HB2.out⟩

set_option maxHeartbeats 2000000 in
theorem may_shards (w : World) (X : Nat) (P : Nat → Prop) (A : Option Addr) (c : Nat) (r : Rc) (bm bp : Nat) (hX : RBox w X P A c r) (hm : w.cell? ⟨bm, 0, none⟩ = some (fun0 84)) (hp : w.cell? ⟨bp, 0, none⟩ = some (ptr X 8)) (hbm : bm < w.heap.size) (hbp : bp < w.heap.size) :
    Calls Try.prog 100 #[ptr bm 0, ptr bp 0] w fun e w' => e = .returned (.bool (mayF .shards r)) ∧ Below w.heap.size w w' := by
  have HM := Lib.hid (show Calls Try.prog 84 #[.int .i64 r.shards] w.drew fun e w' => e = .returned (.bool (mayF .shards r)) ∧ Below w.heap.size w.drew w' from (shards_dev r.shards _ hX.fine.shards).mono fun e w' h => ⟨h.1, by rw [h.2]; exact Below.refl _ _⟩)
  have HS := Lib.hid (show ∀ W, Below w.heap.size w W → W.cell? ⟨bm, 0, none⟩ = some (fun0 84) ∧ W.cell? ⟨bp, 0, none⟩ = some (ptr X 8) ∧ W.cell? ⟨X, 8, none⟩ = some (.int .i64 r.shards) from fun W hW =>
    ⟨(hW.cell hbm).trans hm, (hW.cell hbp).trans hp, ((hX.below hW).cell 8 rfl)⟩)
  clear hX hm hp hbm hbp
  go_enter Try.func100, Try.ntmps100
  go_wp2_with fail
  refine wp_region_held_drew (S := fun W => W.cell? ⟨bm, 0, none⟩ = some (fun0 84) ∧ W.cell? ⟨bp, 0, none⟩ = some (ptr X 8) ∧ W.cell? ⟨X, 8, none⟩ = some (.int .i64 r.shards)) (by kernel_rfl) (HS.out _ (Below.refl _ _).drew) (fun hHeld => ?_)
  refine wpAnyH_take (i := 0) (v := ?_) rfl (by kernel_rfl) (by kernel_rfl) (by kernel_rfl) (fun _ _ _ h => h) (Or.inl ⟨by rfl, ?_⟩) (by assumption) ?_
  rotate_left
  · simp only [List.getElem_toArray, List.getElem_cons_zero, List.getElem_cons_succ]; intro W hSw; (try dsimp only at hSw); go_simp; all_goals with_reducible rfl
  simp only [Act.put, List.getElem_toArray, List.getElem_cons_zero, List.getElem_cons_succ, List.setIfInBounds_toArray, List.set_cons_zero, List.set_cons_succ]
  refine wpAnyH_take (i := 1) (v := ?_) rfl (by kernel_rfl) (by kernel_rfl) (by kernel_rfl) (fun _ _ _ h => h) (Or.inl ⟨by rfl, ?_⟩) (by assumption) ?_
  rotate_left
  · simp only [List.getElem_toArray, List.getElem_cons_zero, List.getElem_cons_succ]; intro W hSw; (try dsimp only at hSw); go_simp; all_goals with_reducible rfl
  simp only [Act.put, List.getElem_toArray, List.getElem_cons_zero, List.getElem_cons_succ, List.setIfInBounds_toArray, List.set_cons_zero, List.set_cons_succ]
  refine wpAnyH_take (i := 2) (v := ?_) rfl (by kernel_rfl) (by kernel_rfl) (by kernel_rfl) (fun _ _ _ h => h) (Or.inl ⟨by rfl, ?_⟩) (by assumption) ?_
  rotate_left
  · simp only [List.getElem_toArray, List.getElem_cons_zero, List.getElem_cons_succ]; intro W hSw; (try dsimp only at hSw); go_simp; all_goals with_reducible rfl
  simp only [Act.put, List.getElem_toArray, List.getElem_cons_zero, List.getElem_cons_succ, List.setIfInBounds_toArray, List.set_cons_zero, List.set_cons_succ]
  refine wpAnyH_take (i := 3) (v := ?_) rfl (by kernel_rfl) (by kernel_rfl) (by kernel_rfl) (fun _ _ _ h => h) (Or.inl ⟨by rfl, ?_⟩) (by assumption) ?_
  rotate_left
  · simp only [List.getElem_toArray, List.getElem_cons_zero, List.getElem_cons_succ]; intro W hSw; (try dsimp only at hSw); go_simp; all_goals with_reducible rfl
  simp only [Act.put, List.getElem_toArray, List.getElem_cons_zero, List.getElem_cons_succ, List.setIfInBounds_toArray, List.set_cons_zero, List.set_cons_succ]
  refine wpAnyH_ready (rs := [4]) (by kernel_rfl) (by simp) ?_
  refine AllReadyH.cons rfl (fun K hK => ?_) AllReadyH.nil
  simp only [List.getElem_toArray, List.getElem_cons_zero, List.getElem_cons_succ]
  go_simp
  refine HM.out.mono ?_
  rintro e w2 ⟨rfl, hb2⟩
  have HB2 := Lib.hid ((Below.refl w.heap.size w).drew.trans hb2)
  clear hb2
  go_wp2_with fail
  refine hK.out _ _ (HS.out _ HB2.out) (fun hHeldN => ?_)
  clear hK K hHeld
  have hHeld := hHeldN
  clear hHeldN
  (try simp only [Act.put, List.getElem_toArray, List.getElem_cons_zero, List.getElem_cons_succ, List.setIfInBounds_toArray, List.set_cons_zero, List.set_cons_succ])
  refine wpAnyH_take (i := 5) (v := ?_) rfl (by kernel_rfl) (by kernel_rfl) (by kernel_rfl) (fun _ _ _ h => h) (Or.inl ⟨by rfl, ?_⟩) (by assumption) ?_
  rotate_left
  · simp only [List.getElem_toArray, List.getElem_cons_zero, List.getElem_cons_succ]; intro W hSw; (try dsimp only at hSw); go_simp; all_goals with_reducible rfl
  simp only [Act.put, List.getElem_toArray, List.getElem_cons_zero, List.getElem_cons_succ, List.setIfInBounds_toArray, List.set_cons_zero, List.set_cons_succ]
  refine wpAnyH_done (by kernel_rfl) ?_ _
  go_wp2_with fail
  go_ret
  exact ⟨rfl, HB2.out⟩

set_option maxHeartbeats 2000000 in
theorem may_change (w : World) (X : Nat) (P : Nat → Prop) (A : Option Addr) (c : Nat) (r : Rc) (bm bp : Nat) (hX : RBox w X P A c r) (hm : w.cell? ⟨bm, 0, none⟩ = some (fun0 86)) (hp : w.cell? ⟨bp, 0, none⟩ = some (ptr X 9)) (hbm : bm < w.heap.size) (hbp : bp < w.heap.size) :
    Calls Try.prog 109 #[ptr bm 0, ptr bp 0] w fun e w' => e = .returned (.bool (mayF .change r)) ∧ Below w.heap.size w w' := by
  have HM := Lib.hid (show Calls Try.prog 86 #[.agg #[.int .i64 r.stripe, .int .i64 r.dest]] w.drew fun e w' => e = .returned (.bool (mayF .change r)) ∧ Below w.heap.size w.drew w' from (change_dev r.stripe r.dest _).mono fun e w' h => h)
  have HS := Lib.hid (show ∀ W, Below w.heap.size w W → W.cell? ⟨bm, 0, none⟩ = some (fun0 86) ∧ W.cell? ⟨bp, 0, none⟩ = some (ptr X 9) ∧ (∀ j u, ([.int .i64 r.stripe, .int .i64 r.dest])[j]? = some u → W.cell? ⟨X, 9 + j, none⟩ = some u) from fun W hW =>
    ⟨(hW.cell hbm).trans hm, (hW.cell hbp).trans hp, (fun j u hu => by have hj := (List.getElem?_eq_some_iff.1 hu).1; match j, hu with | 0, hu => cases hu; exact (hX.below hW).cell 9 rfl | 1, hu => cases hu; exact (hX.below hW).cell 10 rfl)⟩)
  clear hX hm hp hbm hbp
  go_enter Try.func109, Try.ntmps109
  go_wp2_with fail
  refine wp_region_held_drew (S := fun W => W.cell? ⟨bm, 0, none⟩ = some (fun0 86) ∧ W.cell? ⟨bp, 0, none⟩ = some (ptr X 9) ∧ (∀ j u, ([.int .i64 r.stripe, .int .i64 r.dest])[j]? = some u → W.cell? ⟨X, 9 + j, none⟩ = some u)) (by kernel_rfl) (HS.out _ (Below.refl _ _).drew) (fun hHeld => ?_)
  refine wpAnyH_take (i := 0) (v := ?_) rfl (by kernel_rfl) (by kernel_rfl) (by kernel_rfl) (fun _ _ _ h => h) (Or.inl ⟨by rfl, ?_⟩) (by assumption) ?_
  rotate_left
  · simp only [List.getElem_toArray, List.getElem_cons_zero, List.getElem_cons_succ]; intro W hSw; (try dsimp only at hSw); go_simp; all_goals with_reducible rfl
  simp only [Act.put, List.getElem_toArray, List.getElem_cons_zero, List.getElem_cons_succ, List.setIfInBounds_toArray, List.set_cons_zero, List.set_cons_succ]
  refine wpAnyH_take (i := 1) (v := ?_) rfl (by kernel_rfl) (by kernel_rfl) (by kernel_rfl) (fun _ _ _ h => h) (Or.inl ⟨by rfl, ?_⟩) (by assumption) ?_
  rotate_left
  · simp only [List.getElem_toArray, List.getElem_cons_zero, List.getElem_cons_succ]; intro W hSw; (try dsimp only at hSw); go_simp; all_goals with_reducible rfl
  simp only [Act.put, List.getElem_toArray, List.getElem_cons_zero, List.getElem_cons_succ, List.setIfInBounds_toArray, List.set_cons_zero, List.set_cons_succ]
  refine wpAnyH_take (i := 2) (v := ?_) rfl (by kernel_rfl) (by kernel_rfl) (by kernel_rfl) (fun _ _ _ h => h) (Or.inl ⟨by rfl, ?_⟩) (by assumption) ?_
  rotate_left
  · simp only [List.getElem_toArray, List.getElem_cons_zero, List.getElem_cons_succ]; intro W hSw; (try dsimp only at hSw); go_simp; all_goals with_reducible rfl
  simp only [Act.put, List.getElem_toArray, List.getElem_cons_zero, List.getElem_cons_succ, List.setIfInBounds_toArray, List.set_cons_zero, List.set_cons_succ]
  refine wpAnyH_take (i := 3) (v := ?_) rfl (by kernel_rfl) (by kernel_rfl) (by kernel_rfl) (fun _ _ _ h => h) (Or.inl ⟨by rfl, ?_⟩) (by assumption) ?_
  rotate_left
  · simp only [List.getElem_toArray, List.getElem_cons_zero, List.getElem_cons_succ]; intro W hSw; (try dsimp only at hSw); refine exec_load_part 27 (.tmp 5) ?_ X 9 ?_ ([.int .i64 r.stripe, .int .i64 r.dest]) _ hSw.2.2 Try.underlying27 ?_ ?_ <;> first | rfl | exact sizeC
  simp only [Act.put, List.getElem_toArray, List.getElem_cons_zero, List.getElem_cons_succ, List.setIfInBounds_toArray, List.set_cons_zero, List.set_cons_succ]
  refine wpAnyH_ready (rs := [4]) (by kernel_rfl) (by simp) ?_
  refine AllReadyH.cons rfl (fun K hK => ?_) AllReadyH.nil
  simp only [List.getElem_toArray, List.getElem_cons_zero, List.getElem_cons_succ]
  go_simp
  refine HM.out.mono ?_
  rintro e w2 ⟨rfl, hb2⟩
  have HB2 := Lib.hid ((Below.refl w.heap.size w).drew.trans hb2)
  clear hb2
  go_wp2_with fail
  refine hK.out _ _ (HS.out _ HB2.out) (fun hHeldN => ?_)
  clear hK K hHeld
  have hHeld := hHeldN
  clear hHeldN
  (try simp only [Act.put, List.getElem_toArray, List.getElem_cons_zero, List.getElem_cons_succ, List.setIfInBounds_toArray, List.set_cons_zero, List.set_cons_succ])
  refine wpAnyH_take (i := 5) (v := ?_) rfl (by kernel_rfl) (by kernel_rfl) (by kernel_rfl) (fun _ _ _ h => h) (Or.inl ⟨by rfl, ?_⟩) (by assumption) ?_
  rotate_left
  · simp only [List.getElem_toArray, List.getElem_cons_zero, List.getElem_cons_succ]; intro W hSw; (try dsimp only at hSw); go_simp; all_goals with_reducible rfl
  simp only [Act.put, List.getElem_toArray, List.getElem_cons_zero, List.getElem_cons_succ, List.setIfInBounds_toArray, List.set_cons_zero, List.set_cons_succ]
  refine wpAnyH_done (by kernel_rfl) ?_ _
  go_wp2_with fail
  go_ret
  exact ⟨rfl, HB2.out⟩

set_option maxHeartbeats 2000000 in
theorem may_num (w : World) (X : Nat) (P : Nat → Prop) (A : Option Addr) (c : Nat) (r : Rc) (m : Int) (bm bp : Nat) (bx : Nat) (hbx : w.cell? ⟨bx, 0, none⟩ = some (.int .i64 m)) (hX : RBox w X P A c r) (hm : w.cell? ⟨bm, 0, none⟩ = some (.func (.func 89) #[] #[ptr bx 0])) (hp : w.cell? ⟨bp, 0, none⟩ = some (ptr X 11)) (hbm : bm < w.heap.size) (hbp : bp < w.heap.size) :
    Calls Try.prog 100 #[ptr bm 0, ptr bp 0] w fun e w' => e = .returned (.bool (mayF (.num m) r)) ∧ Below w.heap.size w w' := by
  have HM := Lib.hid (show Calls Try.prog 89 #[.int .i64 r.n, ptr bx 0] w.drew fun e w' => e = .returned (.bool (mayF (.num m) r)) ∧ Below w.heap.size w.drew w' from (number_dev r.n m bx _ (by exact hbx)).mono fun e w' h => ⟨h.1, by rw [h.2]; exact Below.refl _ _⟩)
  have HS := Lib.hid (show ∀ W, Below w.heap.size w W → W.cell? ⟨bm, 0, none⟩ = some (.func (.func 89) #[] #[ptr bx 0]) ∧ W.cell? ⟨bp, 0, none⟩ = some (ptr X 11) ∧ W.cell? ⟨X, 11, none⟩ = some (.int .i64 r.n) from fun W hW =>
    ⟨(hW.cell hbm).trans hm, (hW.cell hbp).trans hp, ((hX.below hW).cell 11 rfl)⟩)
  clear hX hm hp hbm hbp hbx
  go_enter Try.func100, Try.ntmps100
  go_wp2_with fail
  refine wp_region_held_drew (S := fun W => W.cell? ⟨bm, 0, none⟩ = some (.func (.func 89) #[] #[ptr bx 0]) ∧ W.cell? ⟨bp, 0, none⟩ = some (ptr X 11) ∧ W.cell? ⟨X, 11, none⟩ = some (.int .i64 r.n)) (by kernel_rfl) (HS.out _ (Below.refl _ _).drew) (fun hHeld => ?_)
  refine wpAnyH_take (i := 0) (v := ?_) rfl (by kernel_rfl) (by kernel_rfl) (by kernel_rfl) (fun _ _ _ h => h) (Or.inl ⟨by rfl, ?_⟩) (by assumption) ?_
  rotate_left
  · simp only [List.getElem_toArray, List.getElem_cons_zero, List.getElem_cons_succ]; intro W hSw; (try dsimp only at hSw); go_simp; all_goals with_reducible rfl
  simp only [Act.put, List.getElem_toArray, List.getElem_cons_zero, List.getElem_cons_succ, List.setIfInBounds_toArray, List.set_cons_zero, List.set_cons_succ]
  refine wpAnyH_take (i := 1) (v := ?_) rfl (by kernel_rfl) (by kernel_rfl) (by kernel_rfl) (fun _ _ _ h => h) (Or.inl ⟨by rfl, ?_⟩) (by assumption) ?_
  rotate_left
  · simp only [List.getElem_toArray, List.getElem_cons_zero, List.getElem_cons_succ]; intro W hSw; (try dsimp only at hSw); go_simp; all_goals with_reducible rfl
  simp only [Act.put, List.getElem_toArray, List.getElem_cons_zero, List.getElem_cons_succ, List.setIfInBounds_toArray, List.set_cons_zero, List.set_cons_succ]
  refine wpAnyH_take (i := 2) (v := ?_) rfl (by kernel_rfl) (by kernel_rfl) (by kernel_rfl) (fun _ _ _ h => h) (Or.inl ⟨by rfl, ?_⟩) (by assumption) ?_
  rotate_left
  · simp only [List.getElem_toArray, List.getElem_cons_zero, List.getElem_cons_succ]; intro W hSw; (try dsimp only at hSw); go_simp; all_goals with_reducible rfl
  simp only [Act.put, List.getElem_toArray, List.getElem_cons_zero, List.getElem_cons_succ, List.setIfInBounds_toArray, List.set_cons_zero, List.set_cons_succ]
  refine wpAnyH_take (i := 3) (v := ?_) rfl (by kernel_rfl) (by kernel_rfl) (by kernel_rfl) (fun _ _ _ h => h) (Or.inl ⟨by rfl, ?_⟩) (by assumption) ?_
  rotate_left
  · simp only [List.getElem_toArray, List.getElem_cons_zero, List.getElem_cons_succ]; intro W hSw; (try dsimp only at hSw); go_simp; all_goals with_reducible rfl
  simp only [Act.put, List.getElem_toArray, List.getElem_cons_zero, List.getElem_cons_succ, List.setIfInBounds_toArray, List.set_cons_zero, List.set_cons_succ]
  refine wpAnyH_ready (rs := [4]) (by kernel_rfl) (by simp) ?_
  refine AllReadyH.cons rfl (fun K hK => ?_) AllReadyH.nil
  simp only [List.getElem_toArray, List.getElem_cons_zero, List.getElem_cons_succ]
  go_simp
  refine HM.out.mono ?_
  rintro e w2 ⟨rfl, hb2⟩
  have HB2 := Lib.hid ((Below.refl w.heap.size w).drew.trans hb2)
  clear hb2
  go_wp2_with fail
  refine hK.out _ _ (HS.out _ HB2.out) (fun hHeldN => ?_)
  clear hK K hHeld
  have hHeld := hHeldN
  clear hHeldN
  (try simp only [Act.put, List.getElem_toArray, List.getElem_cons_zero, List.getElem_cons_succ, List.setIfInBounds_toArray, List.set_cons_zero, List.set_cons_succ])
  refine wpAnyH_take (i := 5) (v := ?_) rfl (by kernel_rfl) (by kernel_rfl) (by kernel_rfl) (fun _ _ _ h => h) (Or.inl ⟨by rfl, ?_⟩) (by assumption) ?_
  rotate_left
  · simp only [List.getElem_toArray, List.getElem_cons_zero, List.getElem_cons_succ]; intro W hSw; (try dsimp only at hSw); go_simp; all_goals with_reducible rfl
  simp only [Act.put, List.getElem_toArray, List.getElem_cons_zero, List.getElem_cons_succ, List.setIfInBounds_toArray, List.set_cons_zero, List.set_cons_succ]
  refine wpAnyH_done (by kernel_rfl) ?_ _
  go_wp2_with fail
  go_ret
  exact ⟨rfl, HB2.out⟩

end Go.Proofs.Ytaokhbodmodcgaa
end
