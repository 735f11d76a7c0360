/-
  parse, by contract: the one frame whose sector some bytes can be.
-/
import Derived.Test.YtehkohnpfbdngaaDoorHead
import Derived.Test.YtehkohnpfbdngaaDoorGet
import Derived.Test.YtehkohnpfbdngaaDoorLoad
namespace Go.Proofs.YtehkohnpfbdngaaDoor
open Go.RowKit

/-- the numbers that stand ahead of the load -/
def nv (b : List Nat) : Nat → Nat
  | 0 => num ((b.drop 0).take 6)
  | 1 => num ((b.drop 6).take 3)
  | 2 => num ((b.drop 9).take 1)
  | 3 => num ((b.drop 10).take 1)
  | _ => num ((b.drop 11).take 4)
def nrow (b : List Nat) (k : Nat) : Array Value := #[.int .i64 ((if 0 < k then nv b 0 else 0 : Nat) : Int), .int .i64 ((if 1 < k then nv b 1 else 0 : Nat) : Int), .int .i64 ((if 2 < k then nv b 2 else 0 : Nat) : Int), .int .i64 ((if 3 < k then nv b 3 else 0 : Nat) : Int), .int .i64 ((if 4 < k then nv b 4 else 0 : Nat) : Int)]
def atp : Nat → Nat
  | 0 => 0
  | 1 => 6
  | 2 => 9
  | 3 => 10
  | 4 => 11
  | _ => 15
/-- the frame that bytes can be -/
def frameOf (b : List Nat) : Fr := ⟨(nv b 0 : Nat), (nv b 1 : Nat), (nv b 2 / 16 : Nat), (nv b 2 % 16 : Nat), nv b 4, (b.drop 15).take (min (nv b 3) 45)⟩
theorem nv_lt {b : List Nat} (hl : b.length = 64) (hb : ∀ x ∈ b, x < 256) : nv b 0 < 281474976710656 ∧ nv b 1 < 16777216 ∧ nv b 2 < 256 ∧ nv b 3 < 256 ∧ nv b 4 < 4294967296 := by
  have h : ∀ a m, a + m ≤ 64 → num ((b.drop a).take m) < 256 ^ m := fun a m ham => by
    have h1 := num_lt ((b.drop a).take m) fun x hx => hb x (List.mem_of_mem_drop (List.mem_of_mem_take hx))
    rwa [List.length_take, List.length_drop, hl, Nat.min_eq_left (by omega)] at h1
  exact ⟨h 0 6 (by omega), h 6 3 (by omega), h 9 1 (by omega), h 10 1 (by omega), h 11 4 (by omega)⟩
theorem frameOf_fine {b : List Nat} (hl : b.length = 64) (hb : ∀ x ∈ b, x < 256) : (frameOf b).Fine := by
  obtain ⟨h0, h1, h2, h3, h4⟩ := nv_lt hl hb
  exact ⟨by simp only [frameOf]; omega, by simp only [frameOf]; omega, by simp only [frameOf]; omega, by simp only [frameOf]; omega, h4, fun x hx => hb x (List.mem_of_mem_drop (List.mem_of_mem_take hx))⟩
theorem and_15 (n : Nat) (hn : n < 281474976710656) : bits .and .i64 (n : Int) 15 = ((n % 16 : Nat) : Int) := by
  have h := i64_and_nat n 15 (by omega) (by omega)
  rwa [nat_mask4] at h

theorem nrow_set (b : List Nat) {k : Nat} (h : k < 5) : (nrow b k).setIfInBounds k (.int .i64 (nv b k : Nat)) = nrow b (k + 1) := by
  rcases six_ways (show k < 6 by omega) with rfl | rfl | rfl | rfl | rfl | rfl
  · rfl
  · rfl
  · rfl
  · rfl
  · rfl
  · omega
theorem nrow_size (b : List Nat) (k : Nat) : (nrow b k).size = 5 := rfl
theorem part_by {w : World} {B g : Nat} {bs : List Nat} (h : By w B (some ⟨g, 0, none⟩) bs) (n : Nat) (_hl : n ≤ 1000) : By w B (some ⟨g, 15, none⟩) ((bs.drop 15).take n) := by
  by_cases hz : bs.length = 15
  · have : (bs.drop 15).take n = [] := by rw [List.drop_of_length_le (by omega)]; simp
    rw [this]
    exact By.nil_
  · have h1 := h.drop (c := bs.length) 15 (Nat.le_refl _)
    rw [if_neg hz, Option.map_some, add_flat, Nat.zero_add] at h1
    exact h1.take n
set_option maxRecDepth 100000 in
set_option maxHeartbeats 2000000 in
theorem parse_any (bs : List Nat) (w : World) (hl : bs.length = 64) (hb : ∀ x ∈ bs, x < 256) (hW : Widths w) :
    Calls Tryd.prog 21 #[.agg (vals bs).toArray] w fun e w' => ∃ A' c', e = .returned (.agg (frv A' c' (frameOf bs)).toArray) ∧ FrV w' w'.heap.size (frv A' c' (frameOf bs)) (frameOf bs) ∧ Below w.heap.size w w' ∧ ∀ b, A' = some b → w.heap.size ≤ b.block := by
  obtain ⟨V, hV⟩ : ∃ V, V = (vals bs).toArray := ⟨_, rfl⟩
  rw [← hV]
  have HV := Lib.hid hV
  have HL := Lib.hid hl
  have HBl := Lib.hid hb
  have HW := Lib.hid hW
  have HN := Lib.hid (nv_lt hl hb)
  have HFi := Lib.hid (frameOf_fine hl hb)
  obtain ⟨hz0, t0, t1, t2, t3, t4⟩ := hW
  have G0 := Lib.hid (show (((w.alloc (.cells V 45)).alloc (.cells #[.int .i64 0, .int .i64 0, .int .i64 0, .int .i64 0, .int .u32 0, .slice none 0 0] 25)).alloc (.cells #[.int .i64 0, .int .i64 0, .int .i64 0, .int .i64 0, .int .i64 0] 58)).heap[w.heap.size]? = some (.cells V 45 (0, 0)) from
    (((Below.refl (w.alloc (.cells V 45)).heap.size _).alloc (Nat.le_refl _) (.cells #[.int .i64 0, .int .i64 0, .int .i64 0, .int .i64 0, .int .u32 0, .slice none 0 0] 25)).alloc (by simp) (.cells #[.int .i64 0, .int .i64 0, .int .i64 0, .int .i64 0, .int .i64 0] 58)).block w.heap.size (by simp) |>.trans (heap_alloc_new w _))
  have G1 := Lib.hid (show (((w.alloc (.cells V 45)).alloc (.cells #[.int .i64 0, .int .i64 0, .int .i64 0, .int .i64 0, .int .u32 0, .slice none 0 0] 25)).alloc (.cells #[.int .i64 0, .int .i64 0, .int .i64 0, .int .i64 0, .int .i64 0] 58)).heap[w.heap.size + 1]? = some (.cells #[.int .i64 0, .int .i64 0, .int .i64 0, .int .i64 0, .int .u32 0, .slice none 0 0] 25 (0, 0)) by
    have h := heap_alloc2_old (w.alloc (.cells V 45)) (.cells #[.int .i64 0, .int .i64 0, .int .i64 0, .int .i64 0, .int .u32 0, .slice none 0 0] 25) (.cells #[.int .i64 0, .int .i64 0, .int .i64 0, .int .i64 0, .int .i64 0] 58)
    simpa using h)
  have G2 := Lib.hid (show (((w.alloc (.cells V 45)).alloc (.cells #[.int .i64 0, .int .i64 0, .int .i64 0, .int .i64 0, .int .u32 0, .slice none 0 0] 25)).alloc (.cells #[.int .i64 0, .int .i64 0, .int .i64 0, .int .i64 0, .int .i64 0] 58)).heap[w.heap.size + 2]? = some (.cells #[.int .i64 0, .int .i64 0, .int .i64 0, .int .i64 0, .int .i64 0] 58 (0, 0)) by
    have h := heap_alloc2_new (w.alloc (.cells V 45)) (.cells #[.int .i64 0, .int .i64 0, .int .i64 0, .int .i64 0, .int .u32 0, .slice none 0 0] 25) (.cells #[.int .i64 0, .int .i64 0, .int .i64 0, .int .i64 0, .int .i64 0] 58)
    simpa using h)
  have GB := Lib.hid ((((Below.refl w.heap.size w).alloc (Nat.le_refl _) (.cells V 45)).alloc (by simp) (.cells #[.int .i64 0, .int .i64 0, .int .i64 0, .int .i64 0, .int .u32 0, .slice none 0 0] 25)).alloc (by simp; omega) (.cells #[.int .i64 0, .int .i64 0, .int .i64 0, .int .i64 0, .int .i64 0] 58))
  have GZ := Lib.hid (show (((w.alloc (.cells V 45)).alloc (.cells #[.int .i64 0, .int .i64 0, .int .i64 0, .int .i64 0, .int .u32 0, .slice none 0 0] 25)).alloc (.cells #[.int .i64 0, .int .i64 0, .int .i64 0, .int .i64 0, .int .i64 0] 58)).heap.size = w.heap.size + 3 by simp)
  clear hV hl hb
  go_enter Tryd.func21, Tryd.ntmps21
  go_wp2_with fail
  simp only [Nat.add_assoc, Nat.reduceAdd]
  generalize ((w.alloc (.cells V 45)).alloc (.cells #[.int .i64 0, .int .i64 0, .int .i64 0, .int .i64 0, .int .u32 0, .slice none 0 0] 25)).alloc (.cells #[.int .i64 0, .int .i64 0, .int .i64 0, .int .i64 0, .int .i64 0] 58) = w3 at *
  go_loopw [4, 9] (fun at_ i wr => ∃ k : Nat, k ≤ 5 ∧ i = .int .i64 k ∧ at_ = .int .i64 (atp k) ∧ wr.heap[w.heap.size + 2]? = some (.cells (nrow bs k) 58 (0, 0)) ∧ Below (w.heap.size + 2) w3 wr) (fun _ i _ => 5 - (intOf i).toNat)
  case atStart => exact ⟨0, by omega, rfl, rfl, G2.out, Below.refl _ _⟩
  case round =>
    obtain ⟨k, hk, rfl, rfl, hrow, hb⟩ := hrel
    have HB := Lib.hid hb
    have HR := Lib.hid hrow
    have HY := Lib.hid (show By wr wr.heap.size (some ⟨w.heap.size, 0, none⟩) bs from (By.of_row ((hb.block w.heap.size (by omega)).trans G0.out) (by rw [HV.out, List.toList_toArray]; exact List.take_of_length_le (by rw [vals_length]; exact Nat.le_refl _)) HBl.out).mono (by have := hb.size; have := GZ.out; omega))
    clear hb hrow
    by_cases hlt : k < 5
    · have h5 : k = 0 ∨ k = 1 ∨ k = 2 ∨ k = 3 ∨ k = 4 := by omega
      rcases h5 with rfl | rfl | rfl | rfl | rfl
      · rw [show ((atp 0 : Nat) : Int) = 0 from rfl]
        have hG : Calls Tryd.prog 36 #[.slice (some ⟨w.heap.size, 0, none⟩) 64 64, .int .i64 0, .int .i64 6] wr fun e w' => e = .returned (.tuple #[.int .i64 (nv bs 0 : Nat), .int .i64 0]) ∧ wr = w' := by
          have h := get_yes bs 0 6 (by omega) (by omega) (by have := HL.out; omega) (some ⟨w.heap.size, 0, none⟩) 64 wr HY.out (by have := HL.out; omega)
          rw [HL.out] at h
          exact h
        have hx : ∀ W, (Instr.index 58 (.agg #[.int .i64 6, .int .i64 3, .int .i64 1, .int .i64 1, .int .i64 4]) (.int .i64 0)).run Tryd.prog W = .ok (.int .i64 6) W := fun W =>
          run_index_cell (P := Tryd.prog) W 58 3 5 0 #[.int .i64 6, .int .i64 3, .int .i64 1, .int .i64 1, .int .i64 4] Tryd.underlying58 .i64 Tryd.underlying3 (by kernel_rfl) (by omega) _ rfl
        have hcell : wr.cell? ⟨w.heap.size + 2, 0, none⟩ = some (.int .i64 0) := by rw [cell_of_row wr _ 0 _ _ _ HR.out]; rfl
        have hfr := frozen_of_row wr (w.heap.size + 2) 0 _ _ HR.out
        have HN2 := Lib.hid ((heap_setCell_same wr (w.heap.size + 2) 0 _ _ (.int .i64 (nv bs 0 : Nat)) HR.out).trans (by rw [nrow_set bs (by omega)]))
        have HB2 := Lib.hid (HB.out.setCell (p := ⟨w.heap.size + 2, 0, none⟩) (Nat.le_refl _) (.int .i64 (nv bs 0 : Nat)))
        have HG := Lib.hid hG
        clear hG
        generalize nv bs 0 = v at *
        go_wp2_with fail
        refine HG.out.mono ?_
        rintro e w4 ⟨rfl, rfl⟩
        go_wp2
        go_roundw
        case rel => exact ⟨0 + 1, by omega, rfl, rfl, HN2.out, HB2.out⟩
        case measure => simp [intOf]
      · rw [show ((atp 1 : Nat) : Int) = 6 from rfl]
        have hG : Calls Tryd.prog 36 #[.slice (some ⟨w.heap.size, 0, none⟩) 64 64, .int .i64 6, .int .i64 3] wr fun e w' => e = .returned (.tuple #[.int .i64 (nv bs 1 : Nat), .int .i64 0]) ∧ wr = w' := by
          have h := get_yes bs 6 3 (by omega) (by omega) (by have := HL.out; omega) (some ⟨w.heap.size, 0, none⟩) 64 wr HY.out (by have := HL.out; omega)
          rw [HL.out] at h
          exact h
        have hx : ∀ W, (Instr.index 58 (.agg #[.int .i64 6, .int .i64 3, .int .i64 1, .int .i64 1, .int .i64 4]) (.int .i64 1)).run Tryd.prog W = .ok (.int .i64 3) W := fun W =>
          run_index_cell (P := Tryd.prog) W 58 3 5 1 #[.int .i64 6, .int .i64 3, .int .i64 1, .int .i64 1, .int .i64 4] Tryd.underlying58 .i64 Tryd.underlying3 (by kernel_rfl) (by omega) _ rfl
        have hcell : wr.cell? ⟨w.heap.size + 2, 1, none⟩ = some (.int .i64 0) := by rw [cell_of_row wr _ 1 _ _ _ HR.out]; rfl
        have hfr := frozen_of_row wr (w.heap.size + 2) 1 _ _ HR.out
        have HN2 := Lib.hid ((heap_setCell_same wr (w.heap.size + 2) 1 _ _ (.int .i64 (nv bs 1 : Nat)) HR.out).trans (by rw [nrow_set bs (by omega)]))
        have HB2 := Lib.hid (HB.out.setCell (p := ⟨w.heap.size + 2, 1, none⟩) (Nat.le_refl _) (.int .i64 (nv bs 1 : Nat)))
        have HG := Lib.hid hG
        clear hG
        generalize nv bs 1 = v at *
        go_wp2_with fail
        refine HG.out.mono ?_
        rintro e w4 ⟨rfl, rfl⟩
        go_wp2
        go_roundw
        case rel => exact ⟨1 + 1, by omega, rfl, rfl, HN2.out, HB2.out⟩
        case measure => simp [intOf]
      · rw [show ((atp 2 : Nat) : Int) = 9 from rfl]
        have hG : Calls Tryd.prog 36 #[.slice (some ⟨w.heap.size, 0, none⟩) 64 64, .int .i64 9, .int .i64 1] wr fun e w' => e = .returned (.tuple #[.int .i64 (nv bs 2 : Nat), .int .i64 0]) ∧ wr = w' := by
          have h := get_yes bs 9 1 (by omega) (by omega) (by have := HL.out; omega) (some ⟨w.heap.size, 0, none⟩) 64 wr HY.out (by have := HL.out; omega)
          rw [HL.out] at h
          exact h
        have hx : ∀ W, (Instr.index 58 (.agg #[.int .i64 6, .int .i64 3, .int .i64 1, .int .i64 1, .int .i64 4]) (.int .i64 2)).run Tryd.prog W = .ok (.int .i64 1) W := fun W =>
          run_index_cell (P := Tryd.prog) W 58 3 5 2 #[.int .i64 6, .int .i64 3, .int .i64 1, .int .i64 1, .int .i64 4] Tryd.underlying58 .i64 Tryd.underlying3 (by kernel_rfl) (by omega) _ rfl
        have hcell : wr.cell? ⟨w.heap.size + 2, 2, none⟩ = some (.int .i64 0) := by rw [cell_of_row wr _ 2 _ _ _ HR.out]; rfl
        have hfr := frozen_of_row wr (w.heap.size + 2) 2 _ _ HR.out
        have HN2 := Lib.hid ((heap_setCell_same wr (w.heap.size + 2) 2 _ _ (.int .i64 (nv bs 2 : Nat)) HR.out).trans (by rw [nrow_set bs (by omega)]))
        have HB2 := Lib.hid (HB.out.setCell (p := ⟨w.heap.size + 2, 2, none⟩) (Nat.le_refl _) (.int .i64 (nv bs 2 : Nat)))
        have HG := Lib.hid hG
        clear hG
        generalize nv bs 2 = v at *
        go_wp2_with fail
        refine HG.out.mono ?_
        rintro e w4 ⟨rfl, rfl⟩
        go_wp2
        go_roundw
        case rel => exact ⟨2 + 1, by omega, rfl, rfl, HN2.out, HB2.out⟩
        case measure => simp [intOf]
      · rw [show ((atp 3 : Nat) : Int) = 10 from rfl]
        have hG : Calls Tryd.prog 36 #[.slice (some ⟨w.heap.size, 0, none⟩) 64 64, .int .i64 10, .int .i64 1] wr fun e w' => e = .returned (.tuple #[.int .i64 (nv bs 3 : Nat), .int .i64 0]) ∧ wr = w' := by
          have h := get_yes bs 10 1 (by omega) (by omega) (by have := HL.out; omega) (some ⟨w.heap.size, 0, none⟩) 64 wr HY.out (by have := HL.out; omega)
          rw [HL.out] at h
          exact h
        have hx : ∀ W, (Instr.index 58 (.agg #[.int .i64 6, .int .i64 3, .int .i64 1, .int .i64 1, .int .i64 4]) (.int .i64 3)).run Tryd.prog W = .ok (.int .i64 1) W := fun W =>
          run_index_cell (P := Tryd.prog) W 58 3 5 3 #[.int .i64 6, .int .i64 3, .int .i64 1, .int .i64 1, .int .i64 4] Tryd.underlying58 .i64 Tryd.underlying3 (by kernel_rfl) (by omega) _ rfl
        have hcell : wr.cell? ⟨w.heap.size + 2, 3, none⟩ = some (.int .i64 0) := by rw [cell_of_row wr _ 3 _ _ _ HR.out]; rfl
        have hfr := frozen_of_row wr (w.heap.size + 2) 3 _ _ HR.out
        have HN2 := Lib.hid ((heap_setCell_same wr (w.heap.size + 2) 3 _ _ (.int .i64 (nv bs 3 : Nat)) HR.out).trans (by rw [nrow_set bs (by omega)]))
        have HB2 := Lib.hid (HB.out.setCell (p := ⟨w.heap.size + 2, 3, none⟩) (Nat.le_refl _) (.int .i64 (nv bs 3 : Nat)))
        have HG := Lib.hid hG
        clear hG
        generalize nv bs 3 = v at *
        go_wp2_with fail
        refine HG.out.mono ?_
        rintro e w4 ⟨rfl, rfl⟩
        go_wp2
        go_roundw
        case rel => exact ⟨3 + 1, by omega, rfl, rfl, HN2.out, HB2.out⟩
        case measure => simp [intOf]
      · rw [show ((atp 4 : Nat) : Int) = 11 from rfl]
        have hG : Calls Tryd.prog 36 #[.slice (some ⟨w.heap.size, 0, none⟩) 64 64, .int .i64 11, .int .i64 4] wr fun e w' => e = .returned (.tuple #[.int .i64 (nv bs 4 : Nat), .int .i64 0]) ∧ wr = w' := by
          have h := get_yes bs 11 4 (by omega) (by omega) (by have := HL.out; omega) (some ⟨w.heap.size, 0, none⟩) 64 wr HY.out (by have := HL.out; omega)
          rw [HL.out] at h
          exact h
        have hx : ∀ W, (Instr.index 58 (.agg #[.int .i64 6, .int .i64 3, .int .i64 1, .int .i64 1, .int .i64 4]) (.int .i64 4)).run Tryd.prog W = .ok (.int .i64 4) W := fun W =>
          run_index_cell (P := Tryd.prog) W 58 3 5 4 #[.int .i64 6, .int .i64 3, .int .i64 1, .int .i64 1, .int .i64 4] Tryd.underlying58 .i64 Tryd.underlying3 (by kernel_rfl) (by omega) _ rfl
        have hcell : wr.cell? ⟨w.heap.size + 2, 4, none⟩ = some (.int .i64 0) := by rw [cell_of_row wr _ 4 _ _ _ HR.out]; rfl
        have hfr := frozen_of_row wr (w.heap.size + 2) 4 _ _ HR.out
        have HN2 := Lib.hid ((heap_setCell_same wr (w.heap.size + 2) 4 _ _ (.int .i64 (nv bs 4 : Nat)) HR.out).trans (by rw [nrow_set bs (by omega)]))
        have HB2 := Lib.hid (HB.out.setCell (p := ⟨w.heap.size + 2, 4, none⟩) (Nat.le_refl _) (.int .i64 (nv bs 4 : Nat)))
        have HG := Lib.hid hG
        clear hG
        generalize nv bs 4 = v at *
        go_wp2_with fail
        refine HG.out.mono ?_
        rintro e w4 ⟨rfl, rfl⟩
        go_wp2
        go_roundw
        case rel => exact ⟨4 + 1, by omega, rfl, rfl, HN2.out, HB2.out⟩
        case measure => simp [intOf]
    · obtain rfl : k = 5 := by omega
      have c0 : wr.cell? ⟨w.heap.size + 2, 0, none⟩ = some (.int .i64 (nv bs 0 : Nat)) := by rw [cell_of_row wr _ 0 _ _ _ HR.out]; rfl
      have c1 : wr.cell? ⟨w.heap.size + 2, 1, none⟩ = some (.int .i64 (nv bs 1 : Nat)) := by rw [cell_of_row wr _ 1 _ _ _ HR.out]; rfl
      have c2 : wr.cell? ⟨w.heap.size + 2, 2, none⟩ = some (.int .i64 (nv bs 2 : Nat)) := by rw [cell_of_row wr _ 2 _ _ _ HR.out]; rfl
      have c3 : wr.cell? ⟨w.heap.size + 2, 3, none⟩ = some (.int .i64 (nv bs 3 : Nat)) := by rw [cell_of_row wr _ 3 _ _ _ HR.out]; rfl
      have c4 : wr.cell? ⟨w.heap.size + 2, 4, none⟩ = some (.int .i64 (nv bs 4 : Nat)) := by rw [cell_of_row wr _ 4 _ _ _ HR.out]; rfl
      rw [show ((atp 5 : Nat) : Int) = 15 from rfl]
      obtain ⟨b0, b1, b2, b3, b4⟩ := HN.out
      have hsz : w.heap.size + 2 < wr.heap.size := by have := HB.out.size; have := GZ.out; omega
      have HO := Lib.hid (show frameOf bs = ⟨(nv bs 0 : Nat), (nv bs 1 : Nat), (nv bs 2 / 16 : Nat), (nv bs 2 % 16 : Nat), nv bs 4, (bs.drop 15).take (min (nv bs 3) 45)⟩ from rfl)
      have hand := and_15 (nv bs 2) (by omega)
      have hconv : IntKind.u32.wrap ((nv bs 4 : Nat) : Int) = ((nv bs 4 : Nat) : Int) := by rw [IntKind.wrap_u32]; omega
      generalize nv bs 0 = n0 at *
      generalize nv bs 1 = n1 at *
      generalize nv bs 2 = n2 at *
      generalize nv bs 3 = n3 at *
      generalize nv bs 4 = n4 at *
      clear HN
      by_cases h0 : n3 = 0
      · subst h0
        have hlen : ((bs.drop 15).take 0).length = 0 := by rw [List.length_take, List.length_drop, HL.out]; omega
        have hyl : By wr wr.heap.size (some ⟨w.heap.size, 0, none⟩) ((bs.drop 15).take 0) := By.nil_
        have HLoad := Lib.hid (load_any ((bs.drop 15).take 0) (some ⟨w.heap.size, 0, none⟩) ((bs.drop 15).take 0).length wr.drew hyl.drew (by rw [hlen]; omega))
        rw [hlen] at HLoad
        have HO2 := Lib.hid (show frv (some ⟨wr.heap.size, 0, none⟩) 0 (frameOf bs) = [.int .i64 (n0 : Nat), .int .i64 (n1 : Nat), .int .i64 ((n2 : Int) / 16), .int .i64 (n2 % 16 : Nat), .int .u32 (n4 : Nat), .slice (some ⟨wr.heap.size, 0, none⟩) 0 0] by
          rw [HO.out]
          unfold frv
          dsimp only
          rw [show min 0 45 = 0 by omega, hlen]
          rfl)
        have HLo := Lib.hid (show (frameOf bs).load = (bs.drop 15).take 0 by rw [HO.out]; dsimp only; rw [show min 0 45 = 0 by omega])
        have HLen := Lib.hid hlen
        have hS : ∀ W, Below wr.heap.size wr W → W.cell? ⟨w.heap.size + 2, 0, none⟩ = some (.int .i64 (n0 : Nat)) ∧ W.cell? ⟨w.heap.size + 2, 1, none⟩ = some (.int .i64 (n1 : Nat)) ∧ W.cell? ⟨w.heap.size + 2, 2, none⟩ = some (.int .i64 (n2 : Nat)) ∧ W.cell? ⟨w.heap.size + 2, 4, none⟩ = some (.int .i64 (n4 : Nat)) := fun W hW =>
          ⟨(hW.cell (p := ⟨w.heap.size + 2, 0, none⟩) hsz).trans c0, (hW.cell (p := ⟨w.heap.size + 2, 1, none⟩) hsz).trans c1, (hW.cell (p := ⟨w.heap.size + 2, 2, none⟩) hsz).trans c2, (hW.cell (p := ⟨w.heap.size + 2, 4, none⟩) hsz).trans c4⟩
        have HS := Lib.hid hS
        clear hS hyl hlen
        go_wp2_with fail
        clear c0 c1 c2 c3 c4
        refine wp_region_held_drew (S := fun W => W.cell? ⟨w.heap.size + 2, 0, none⟩ = some (.int .i64 (n0 : Nat)) ∧ W.cell? ⟨w.heap.size + 2, 1, none⟩ = some (.int .i64 (n1 : Nat)) ∧ W.cell? ⟨w.heap.size + 2, 2, none⟩ = some (.int .i64 (n2 : Nat)) ∧ W.cell? ⟨w.heap.size + 2, 4, none⟩ = some (.int .i64 (n4 : Nat))) (by kernel_rfl) (HS.out _ (Below.refl _ _).drew) (fun hHeld => ?_)
        refine wpAnyH_take (i := 0) (v := ?_) rfl (by kernel_rfl) (by kernel_rfl) (by kernel_rfl) (fun _ _ _ h => h) (Or.inl ⟨by rfl, ?_⟩) (by assumption) ?_
        rotate_left
        · simp only [List.getElem_toArray, List.getElem_cons_zero, List.getElem_cons_succ]; intro W hSw; (try dsimp only at hSw); go_simp; all_goals with_reducible rfl
        simp only [Act.put, List.getElem_toArray, List.getElem_cons_zero, List.getElem_cons_succ, List.setIfInBounds_toArray, List.set_cons_zero, List.set_cons_succ]
        refine wpAnyH_take (i := 1) (v := ?_) rfl (by kernel_rfl) (by kernel_rfl) (by kernel_rfl) (fun _ _ _ h => h) (Or.inl ⟨by rfl, ?_⟩) (by assumption) ?_
        rotate_left
        · simp only [List.getElem_toArray, List.getElem_cons_zero, List.getElem_cons_succ]; intro W hSw; (try dsimp only at hSw); go_simp; all_goals with_reducible rfl
        simp only [Act.put, List.getElem_toArray, List.getElem_cons_zero, List.getElem_cons_succ, List.setIfInBounds_toArray, List.set_cons_zero, List.set_cons_succ]
        refine wpAnyH_take (i := 2) (v := ?_) rfl (by kernel_rfl) (by kernel_rfl) (by kernel_rfl) (fun _ _ _ h => h) (Or.inl ⟨by rfl, ?_⟩) (by assumption) ?_
        rotate_left
        · simp only [List.getElem_toArray, List.getElem_cons_zero, List.getElem_cons_succ]; intro W hSw; (try dsimp only at hSw); go_simp; all_goals with_reducible rfl
        simp only [Act.put, List.getElem_toArray, List.getElem_cons_zero, List.getElem_cons_succ, List.setIfInBounds_toArray, List.set_cons_zero, List.set_cons_succ]
        refine wpAnyH_take (i := 3) (v := ?_) rfl (by kernel_rfl) (by kernel_rfl) (by kernel_rfl) (fun _ _ _ h => h) (Or.inl ⟨by rfl, ?_⟩) (by assumption) ?_
        rotate_left
        · simp only [List.getElem_toArray, List.getElem_cons_zero, List.getElem_cons_succ]; intro W hSw; (try dsimp only at hSw); go_simp; all_goals with_reducible rfl
        simp only [Act.put, List.getElem_toArray, List.getElem_cons_zero, List.getElem_cons_succ, List.setIfInBounds_toArray, List.set_cons_zero, List.set_cons_succ]
        refine wpAnyH_take (i := 4) (v := ?_) rfl (by kernel_rfl) (by kernel_rfl) (by kernel_rfl) (fun _ _ _ h => h) (Or.inl ⟨by rfl, ?_⟩) (by assumption) ?_
        rotate_left
        · simp only [List.getElem_toArray, List.getElem_cons_zero, List.getElem_cons_succ]; intro W hSw; (try dsimp only at hSw); go_simp; all_goals with_reducible rfl
        simp only [Act.put, List.getElem_toArray, List.getElem_cons_zero, List.getElem_cons_succ, List.setIfInBounds_toArray, List.set_cons_zero, List.set_cons_succ]
        refine wpAnyH_take (i := 5) (v := ?_) rfl (by kernel_rfl) (by kernel_rfl) (by kernel_rfl) (fun _ _ _ h => h) (Or.inl ⟨by rfl, ?_⟩) (by assumption) ?_
        rotate_left
        · simp only [List.getElem_toArray, List.getElem_cons_zero, List.getElem_cons_succ]; intro W hSw; (try dsimp only at hSw); go_simp; all_goals with_reducible rfl
        simp only [Act.put, List.getElem_toArray, List.getElem_cons_zero, List.getElem_cons_succ, List.setIfInBounds_toArray, List.set_cons_zero, List.set_cons_succ]
        refine wpAnyH_take (i := 6) (v := ?_) rfl (by kernel_rfl) (by kernel_rfl) (by kernel_rfl) (fun _ _ _ h => h) (Or.inl ⟨by rfl, ?_⟩) (by assumption) ?_
        rotate_left
        · simp only [List.getElem_toArray, List.getElem_cons_zero, List.getElem_cons_succ]; intro W hSw; (try dsimp only at hSw); go_simp; all_goals with_reducible rfl
        simp only [Act.put, List.getElem_toArray, List.getElem_cons_zero, List.getElem_cons_succ, List.setIfInBounds_toArray, List.set_cons_zero, List.set_cons_succ]
        refine wpAnyH_take (i := 7) (v := ?_) rfl (by kernel_rfl) (by kernel_rfl) (by kernel_rfl) (fun _ _ _ h => h) (Or.inl ⟨by rfl, ?_⟩) (by assumption) ?_
        rotate_left
        · simp only [List.getElem_toArray, List.getElem_cons_zero, List.getElem_cons_succ]; intro W hSw; (try dsimp only at hSw); go_simp; all_goals with_reducible rfl
        simp only [Act.put, List.getElem_toArray, List.getElem_cons_zero, List.getElem_cons_succ, List.setIfInBounds_toArray, List.set_cons_zero, List.set_cons_succ]
        refine wpAnyH_take (i := 8) (v := ?_) rfl (by kernel_rfl) (by kernel_rfl) (by kernel_rfl) (fun _ _ _ h => h) (Or.inl ⟨by rfl, ?_⟩) (by assumption) ?_
        rotate_left
        · simp only [List.getElem_toArray, List.getElem_cons_zero, List.getElem_cons_succ]; intro W hSw; (try dsimp only at hSw); go_simp; all_goals with_reducible rfl
        simp only [Act.put, List.getElem_toArray, List.getElem_cons_zero, List.getElem_cons_succ, List.setIfInBounds_toArray, List.set_cons_zero, List.set_cons_succ]
        refine wpAnyH_take (i := 9) (v := ?_) rfl (by kernel_rfl) (by kernel_rfl) (by kernel_rfl) (fun _ _ _ h => h) (Or.inl ⟨by rfl, ?_⟩) (by assumption) ?_
        rotate_left
        · simp only [List.getElem_toArray, List.getElem_cons_zero, List.getElem_cons_succ]; intro W hSw; (try dsimp only at hSw); go_simp; all_goals with_reducible rfl
        simp only [Act.put, List.getElem_toArray, List.getElem_cons_zero, List.getElem_cons_succ, List.setIfInBounds_toArray, List.set_cons_zero, List.set_cons_succ]
        refine wpAnyH_take (i := 10) (v := ?_) rfl (by kernel_rfl) (by kernel_rfl) (by kernel_rfl) (fun _ _ _ h => h) (Or.inl ⟨by rfl, ?_⟩) (by assumption) ?_
        rotate_left
        · simp only [List.getElem_toArray, List.getElem_cons_zero, List.getElem_cons_succ]; intro W hSw; (try dsimp only at hSw); go_simp; all_goals with_reducible rfl
        simp only [Act.put, List.getElem_toArray, List.getElem_cons_zero, List.getElem_cons_succ, List.setIfInBounds_toArray, List.set_cons_zero, List.set_cons_succ]
        refine wpAnyH_take (i := 11) (v := ?_) rfl (by kernel_rfl) (by kernel_rfl) (by kernel_rfl) (fun _ _ _ h => h) (Or.inl ⟨by rfl, ?_⟩) (by assumption) ?_
        rotate_left
        · simp only [List.getElem_toArray, List.getElem_cons_zero, List.getElem_cons_succ]; intro W hSw; (try dsimp only at hSw); go_simp; all_goals with_reducible rfl
        simp only [Act.put, List.getElem_toArray, List.getElem_cons_zero, List.getElem_cons_succ, List.setIfInBounds_toArray, List.set_cons_zero, List.set_cons_succ]
        refine wpAnyH_take (i := 12) (v := ?_) rfl (by kernel_rfl) (by kernel_rfl) (by kernel_rfl) (fun _ _ _ h => h) (Or.inl ⟨by rfl, ?_⟩) (by assumption) ?_
        rotate_left
        · simp only [List.getElem_toArray, List.getElem_cons_zero, List.getElem_cons_succ]; intro W hSw; (try dsimp only at hSw); go_simp; all_goals with_reducible rfl
        simp only [Act.put, List.getElem_toArray, List.getElem_cons_zero, List.getElem_cons_succ, List.setIfInBounds_toArray, List.set_cons_zero, List.set_cons_succ]
        refine wpAnyH_take (i := 13) (v := ?_) rfl (by kernel_rfl) (by kernel_rfl) (by kernel_rfl) (fun _ _ _ h => h) (Or.inl ⟨by rfl, ?_⟩) (by assumption) ?_
        rotate_left
        · simp only [List.getElem_toArray, List.getElem_cons_zero, List.getElem_cons_succ]; intro W hSw; (try dsimp only at hSw); go_simp; all_goals with_reducible rfl
        simp only [Act.put, List.getElem_toArray, List.getElem_cons_zero, List.getElem_cons_succ, List.setIfInBounds_toArray, List.set_cons_zero, List.set_cons_succ]
        refine wpAnyH_take (i := 14) (v := ?_) rfl (by kernel_rfl) (by kernel_rfl) (by kernel_rfl) (fun _ _ _ h => h) (Or.inl ⟨by rfl, ?_⟩) (by assumption) ?_
        rotate_left
        · simp only [List.getElem_toArray, List.getElem_cons_zero, List.getElem_cons_succ]; intro W hSw; (try dsimp only at hSw); go_simp; all_goals with_reducible rfl
        simp only [Act.put, List.getElem_toArray, List.getElem_cons_zero, List.getElem_cons_succ, List.setIfInBounds_toArray, List.set_cons_zero, List.set_cons_succ]
        refine wpAnyH_take (i := 15) (v := ?_) rfl (by kernel_rfl) (by kernel_rfl) (by kernel_rfl) (fun _ _ _ h => h) (Or.inl ⟨by rfl, ?_⟩) (by assumption) ?_
        rotate_left
        · simp only [List.getElem_toArray, List.getElem_cons_zero, List.getElem_cons_succ]; intro W hSw; (try dsimp only at hSw); go_simp; all_goals with_reducible rfl
        simp only [Act.put, List.getElem_toArray, List.getElem_cons_zero, List.getElem_cons_succ, List.setIfInBounds_toArray, List.set_cons_zero, List.set_cons_succ]
        refine wpAnyH_take (i := 16) (v := ?_) rfl (by kernel_rfl) (by kernel_rfl) (by kernel_rfl) (fun _ _ _ h => h) (Or.inl ⟨by rfl, ?_⟩) (by assumption) ?_
        rotate_left
        · simp only [List.getElem_toArray, List.getElem_cons_zero, List.getElem_cons_succ]; intro W hSw; (try dsimp only at hSw); go_simp; all_goals with_reducible rfl
        simp only [Act.put, List.getElem_toArray, List.getElem_cons_zero, List.getElem_cons_succ, List.setIfInBounds_toArray, List.set_cons_zero, List.set_cons_succ]
        refine wpAnyH_ready (rs := [17]) (by kernel_rfl) (by simp) ?_
        refine AllReadyH.cons rfl (fun K hK => ?_) AllReadyH.nil
        simp only [List.getElem_toArray, List.getElem_cons_zero, List.getElem_cons_succ]
        go_simp
        refine HLoad.out.mono ?_
        rintro e w5 ⟨rfl, hy5, hs5, hb5⟩
        have hb35 : Below wr.heap.size wr w5 := (Below.refl _ _).drew.trans hb5
        go_wp2_with fail
        refine hK.out _ _ (HS.out _ hb35) (fun hHeldN => ?_)
        clear hK K hHeld
        have hHeld := hHeldN
        clear hHeldN
        (try simp only [Act.put, List.getElem_toArray, List.getElem_cons_zero, List.getElem_cons_succ, List.setIfInBounds_toArray, List.set_cons_zero, List.set_cons_succ])
        refine wpAnyH_take (i := 18) (v := ?_) rfl (by kernel_rfl) (by kernel_rfl) (by kernel_rfl) (fun _ _ _ h => h) (Or.inl ⟨by rfl, ?_⟩) (by assumption) ?_
        rotate_left
        · simp only [List.getElem_toArray, List.getElem_cons_zero, List.getElem_cons_succ]; intro W hSw; (try dsimp only at hSw); go_simp; all_goals with_reducible rfl
        simp only [Act.put, List.getElem_toArray, List.getElem_cons_zero, List.getElem_cons_succ, List.setIfInBounds_toArray, List.set_cons_zero, List.set_cons_succ]
        refine wpAnyH_ready (rs := [19]) (by kernel_rfl) (by simp) ?_
        refine AllReadyH.cons rfl (fun K hK => ?_) AllReadyH.nil
        simp only [List.getElem_toArray, List.getElem_cons_zero, List.getElem_cons_succ]
        have G5 := Lib.hid ((hb35.block (w.heap.size + 1) (by omega)).trans ((HB.out.block (w.heap.size + 1) (by omega)).trans G1.out))
        obtain ⟨xs, hxs⟩ : ∃ xs, xs = frv (some ⟨wr.heap.size, 0, none⟩) 0 (frameOf bs) := ⟨_, rfl⟩
        have HX := Lib.hid hxs
        have XS := Lib.hid (hxs.trans HO2.out)
        have XL := Lib.hid (show xs.length = 6 by rw [hxs]; rfl)
        have X1 := Lib.hid (show ∀ v ∈ xs, v.oneCell' = true by rw [hxs]; exact frv_one _ _ _)
        clear hxs HO2
        have H6 := Lib.hid (setRow_heap w5 (w.heap.size + 1) _ ([] ++ xs ++ []).toArray _ _ G5.out)
        have HG6 := Lib.hid (grown_setRow w5 (w.heap.size + 1) ([] ++ xs ++ []).toArray)
        rw [if_pos (by rfl)]
        refine wp_store_part 25 (.tmp 2) (.tmp 49) rfl (w.heap.size + 1) 0 rfl xs (by rw [XS.out]; rfl) 25 [] [.int .i64 0, .int .i64 0, .int .i64 0, .int .i64 0, .int .u32 0, .slice none 0 0] [] G5.out rfl (by rw [XL.out]; rfl) (by rw [XL.out]; kernel_rfl) X1.out ?_
        generalize w5.setRow (w.heap.size + 1) ([] ++ xs ++ []).toArray = w6 at *
        have hB35 := Lib.hid hb35
        have cx := HG6.out.block (w.heap.size + 2) (by have := hb35.size; omega) (by simp)
        have hcell : ∀ j, w6.cell? ⟨w.heap.size + 2, j, none⟩ = w5.cell? ⟨w.heap.size + 2, j, none⟩ := fun j => World.cell?_of_block (w := w5) cx
        refine hK.out _ _ (⟨(hcell 0).trans hHeld.1, (hcell 1).trans hHeld.2.1, (hcell 2).trans hHeld.2.2.1, (hcell 4).trans hHeld.2.2.2⟩) (fun hHeldN => ?_)
        clear hK K hHeld
        have hHeld := hHeldN
        clear hHeldN
        (try simp only [Act.put, List.getElem_toArray, List.getElem_cons_zero, List.getElem_cons_succ, List.setIfInBounds_toArray, List.set_cons_zero, List.set_cons_succ])
        refine wpAnyH_done (by kernel_rfl) ?_ _
        have HI := Lib.hid (show (Tryd.prog.info? 25).map (·.size) = some ([] ++ xs ++ []).toArray.size by simp only [List.nil_append, List.append_nil, List.size_toArray, XL.out]; kernel_rfl)
        have hbw : Below w.heap.size w w6 := (GB.out.trans ((HB.out.trans (hB35.out.mono (by omega))).mono (by omega))).grown HG6.out (by have := hB35.out.size; omega) (fun k e => by cases e; omega)
        have hy6 : By w6 w6.heap.size (some ⟨wr.heap.size, 0, none⟩) (frameOf bs).load := by
          rw [HLo.out]
          exact (By.only (hy5.mono (show wr.heap.size + 1 ≤ w5.heap.size from hs5)) (Nat.le_refl _) HG6.out (fun b e => by cases e; show wr.heap.size ≠ w.heap.size + 1; omega)).mono HG6.out.size
        have hv : FrV w6 w6.heap.size (frv (some ⟨wr.heap.size, 0, none⟩) 0 (frameOf bs)) (frameOf bs) := ⟨_, _, rfl, hy6, by rw [HLo.out, HLen.out]; exact Nat.le_refl _, by unfold maxLen; omega, (fun e => by cases e), HFi.out⟩
        have HVv := Lib.hid hv
        have HBw := Lib.hid hbw
        have Hfresh := Lib.hid (show w.heap.size ≤ wr.heap.size by omega)
        clear hv hbw hy6 cx hcell hHeld hy5 hs5 hb5 hb35
        go_wp2
        refine bodyPost_ret (results_cell_row rfl _ _ (w.heap.size + 1) 25 _ (0, 0) _ rfl H6.out Tryd.underlying25 rfl HI.out) rfl ⟨some ⟨wr.heap.size, 0, none⟩, 0, ?_, HVv.out, HBw.out, fun b e => by cases e; exact Hfresh.out⟩
        rw [HX.out]
        simp
      · by_cases h45 : n3 ≤ 45
        · obtain ⟨z, hz⟩ : ∃ z : Nat, (15 : Int) + (n3 : Int) = (z : Int) := ⟨15 + n3, by omega⟩
          have hr : z - 15 = n3 := by omega
          have hr2 : ¬ z = 15 := by omega
          have hr3 : ¬ 15 = z := by omega
          have hr4 : (15 : Int) ≤ (z : Int) := by omega
          have hr5 : (z : Int) ≤ 64 := by omega
          have hr6 : 15 ≤ z := by omega
          have hr7 : z ≤ 64 := by omega
          have hi45 : (n3 : Int) ≤ 45 := by omega
          have hlen : ((bs.drop 15).take n3).length = n3 := by rw [List.length_take, List.length_drop, HL.out]; omega
          have hyl : By wr wr.heap.size (some ⟨w.heap.size, 15, none⟩) ((bs.drop 15).take n3) := part_by HY.out n3 (by omega)
          have HLoad := Lib.hid (load_any ((bs.drop 15).take n3) (some ⟨w.heap.size, 15, none⟩) ((bs.drop 15).take n3).length wr.drew hyl.drew (by rw [hlen]; omega))
          rw [hlen] at HLoad
          have HO2 := Lib.hid (show frv (some ⟨wr.heap.size, 0, none⟩) n3 (frameOf bs) = [.int .i64 (n0 : Nat), .int .i64 (n1 : Nat), .int .i64 ((n2 : Int) / 16), .int .i64 (n2 % 16 : Nat), .int .u32 (n4 : Nat), .slice (some ⟨wr.heap.size, 0, none⟩) n3 n3] by
            rw [HO.out]
            unfold frv
            dsimp only
            rw [show min n3 45 = n3 by omega, hlen]
            rfl)
          have HLo := Lib.hid (show (frameOf bs).load = (bs.drop 15).take n3 by rw [HO.out]; dsimp only; rw [show min n3 45 = n3 by omega])
          have HLen := Lib.hid hlen
          have hS : ∀ W, Below wr.heap.size wr W → W.cell? ⟨w.heap.size + 2, 0, none⟩ = some (.int .i64 (n0 : Nat)) ∧ W.cell? ⟨w.heap.size + 2, 1, none⟩ = some (.int .i64 (n1 : Nat)) ∧ W.cell? ⟨w.heap.size + 2, 2, none⟩ = some (.int .i64 (n2 : Nat)) ∧ W.cell? ⟨w.heap.size + 2, 4, none⟩ = some (.int .i64 (n4 : Nat)) := fun W hW =>
            ⟨(hW.cell (p := ⟨w.heap.size + 2, 0, none⟩) hsz).trans c0, (hW.cell (p := ⟨w.heap.size + 2, 1, none⟩) hsz).trans c1, (hW.cell (p := ⟨w.heap.size + 2, 2, none⟩) hsz).trans c2, (hW.cell (p := ⟨w.heap.size + 2, 4, none⟩) hsz).trans c4⟩
          have HS := Lib.hid hS
          clear hS hyl hlen
          go_wp2_with fail
          clear c0 c1 c2 c3 c4
          refine wp_region_held_drew (S := fun W => W.cell? ⟨w.heap.size + 2, 0, none⟩ = some (.int .i64 (n0 : Nat)) ∧ W.cell? ⟨w.heap.size + 2, 1, none⟩ = some (.int .i64 (n1 : Nat)) ∧ W.cell? ⟨w.heap.size + 2, 2, none⟩ = some (.int .i64 (n2 : Nat)) ∧ W.cell? ⟨w.heap.size + 2, 4, none⟩ = some (.int .i64 (n4 : Nat))) (by kernel_rfl) (HS.out _ (Below.refl _ _).drew) (fun hHeld => ?_)
          refine wpAnyH_take (i := 0) (v := ?_) rfl (by kernel_rfl) (by kernel_rfl) (by kernel_rfl) (fun _ _ _ h => h) (Or.inl ⟨by rfl, ?_⟩) (by assumption) ?_
          rotate_left
          · simp only [List.getElem_toArray, List.getElem_cons_zero, List.getElem_cons_succ]; intro W hSw; (try dsimp only at hSw); go_simp; all_goals with_reducible rfl
          simp only [Act.put, List.getElem_toArray, List.getElem_cons_zero, List.getElem_cons_succ, List.setIfInBounds_toArray, List.set_cons_zero, List.set_cons_succ]
          refine wpAnyH_take (i := 1) (v := ?_) rfl (by kernel_rfl) (by kernel_rfl) (by kernel_rfl) (fun _ _ _ h => h) (Or.inl ⟨by rfl, ?_⟩) (by assumption) ?_
          rotate_left
          · simp only [List.getElem_toArray, List.getElem_cons_zero, List.getElem_cons_succ]; intro W hSw; (try dsimp only at hSw); go_simp; all_goals with_reducible rfl
          simp only [Act.put, List.getElem_toArray, List.getElem_cons_zero, List.getElem_cons_succ, List.setIfInBounds_toArray, List.set_cons_zero, List.set_cons_succ]
          refine wpAnyH_take (i := 2) (v := ?_) rfl (by kernel_rfl) (by kernel_rfl) (by kernel_rfl) (fun _ _ _ h => h) (Or.inl ⟨by rfl, ?_⟩) (by assumption) ?_
          rotate_left
          · simp only [List.getElem_toArray, List.getElem_cons_zero, List.getElem_cons_succ]; intro W hSw; (try dsimp only at hSw); go_simp; all_goals with_reducible rfl
          simp only [Act.put, List.getElem_toArray, List.getElem_cons_zero, List.getElem_cons_succ, List.setIfInBounds_toArray, List.set_cons_zero, List.set_cons_succ]
          refine wpAnyH_take (i := 3) (v := ?_) rfl (by kernel_rfl) (by kernel_rfl) (by kernel_rfl) (fun _ _ _ h => h) (Or.inl ⟨by rfl, ?_⟩) (by assumption) ?_
          rotate_left
          · simp only [List.getElem_toArray, List.getElem_cons_zero, List.getElem_cons_succ]; intro W hSw; (try dsimp only at hSw); go_simp; all_goals with_reducible rfl
          simp only [Act.put, List.getElem_toArray, List.getElem_cons_zero, List.getElem_cons_succ, List.setIfInBounds_toArray, List.set_cons_zero, List.set_cons_succ]
          refine wpAnyH_take (i := 4) (v := ?_) rfl (by kernel_rfl) (by kernel_rfl) (by kernel_rfl) (fun _ _ _ h => h) (Or.inl ⟨by rfl, ?_⟩) (by assumption) ?_
          rotate_left
          · simp only [List.getElem_toArray, List.getElem_cons_zero, List.getElem_cons_succ]; intro W hSw; (try dsimp only at hSw); go_simp; all_goals with_reducible rfl
          simp only [Act.put, List.getElem_toArray, List.getElem_cons_zero, List.getElem_cons_succ, List.setIfInBounds_toArray, List.set_cons_zero, List.set_cons_succ]
          refine wpAnyH_take (i := 5) (v := ?_) rfl (by kernel_rfl) (by kernel_rfl) (by kernel_rfl) (fun _ _ _ h => h) (Or.inl ⟨by rfl, ?_⟩) (by assumption) ?_
          rotate_left
          · simp only [List.getElem_toArray, List.getElem_cons_zero, List.getElem_cons_succ]; intro W hSw; (try dsimp only at hSw); go_simp; all_goals with_reducible rfl
          simp only [Act.put, List.getElem_toArray, List.getElem_cons_zero, List.getElem_cons_succ, List.setIfInBounds_toArray, List.set_cons_zero, List.set_cons_succ]
          refine wpAnyH_take (i := 6) (v := ?_) rfl (by kernel_rfl) (by kernel_rfl) (by kernel_rfl) (fun _ _ _ h => h) (Or.inl ⟨by rfl, ?_⟩) (by assumption) ?_
          rotate_left
          · simp only [List.getElem_toArray, List.getElem_cons_zero, List.getElem_cons_succ]; intro W hSw; (try dsimp only at hSw); go_simp; all_goals with_reducible rfl
          simp only [Act.put, List.getElem_toArray, List.getElem_cons_zero, List.getElem_cons_succ, List.setIfInBounds_toArray, List.set_cons_zero, List.set_cons_succ]
          refine wpAnyH_take (i := 7) (v := ?_) rfl (by kernel_rfl) (by kernel_rfl) (by kernel_rfl) (fun _ _ _ h => h) (Or.inl ⟨by rfl, ?_⟩) (by assumption) ?_
          rotate_left
          · simp only [List.getElem_toArray, List.getElem_cons_zero, List.getElem_cons_succ]; intro W hSw; (try dsimp only at hSw); go_simp; all_goals with_reducible rfl
          simp only [Act.put, List.getElem_toArray, List.getElem_cons_zero, List.getElem_cons_succ, List.setIfInBounds_toArray, List.set_cons_zero, List.set_cons_succ]
          refine wpAnyH_take (i := 8) (v := ?_) rfl (by kernel_rfl) (by kernel_rfl) (by kernel_rfl) (fun _ _ _ h => h) (Or.inl ⟨by rfl, ?_⟩) (by assumption) ?_
          rotate_left
          · simp only [List.getElem_toArray, List.getElem_cons_zero, List.getElem_cons_succ]; intro W hSw; (try dsimp only at hSw); go_simp; all_goals with_reducible rfl
          simp only [Act.put, List.getElem_toArray, List.getElem_cons_zero, List.getElem_cons_succ, List.setIfInBounds_toArray, List.set_cons_zero, List.set_cons_succ]
          refine wpAnyH_take (i := 9) (v := ?_) rfl (by kernel_rfl) (by kernel_rfl) (by kernel_rfl) (fun _ _ _ h => h) (Or.inl ⟨by rfl, ?_⟩) (by assumption) ?_
          rotate_left
          · simp only [List.getElem_toArray, List.getElem_cons_zero, List.getElem_cons_succ]; intro W hSw; (try dsimp only at hSw); go_simp; all_goals with_reducible rfl
          simp only [Act.put, List.getElem_toArray, List.getElem_cons_zero, List.getElem_cons_succ, List.setIfInBounds_toArray, List.set_cons_zero, List.set_cons_succ]
          refine wpAnyH_take (i := 10) (v := ?_) rfl (by kernel_rfl) (by kernel_rfl) (by kernel_rfl) (fun _ _ _ h => h) (Or.inl ⟨by rfl, ?_⟩) (by assumption) ?_
          rotate_left
          · simp only [List.getElem_toArray, List.getElem_cons_zero, List.getElem_cons_succ]; intro W hSw; (try dsimp only at hSw); go_simp; all_goals with_reducible rfl
          simp only [Act.put, List.getElem_toArray, List.getElem_cons_zero, List.getElem_cons_succ, List.setIfInBounds_toArray, List.set_cons_zero, List.set_cons_succ]
          refine wpAnyH_take (i := 11) (v := ?_) rfl (by kernel_rfl) (by kernel_rfl) (by kernel_rfl) (fun _ _ _ h => h) (Or.inl ⟨by rfl, ?_⟩) (by assumption) ?_
          rotate_left
          · simp only [List.getElem_toArray, List.getElem_cons_zero, List.getElem_cons_succ]; intro W hSw; (try dsimp only at hSw); go_simp; all_goals with_reducible rfl
          simp only [Act.put, List.getElem_toArray, List.getElem_cons_zero, List.getElem_cons_succ, List.setIfInBounds_toArray, List.set_cons_zero, List.set_cons_succ]
          refine wpAnyH_take (i := 12) (v := ?_) rfl (by kernel_rfl) (by kernel_rfl) (by kernel_rfl) (fun _ _ _ h => h) (Or.inl ⟨by rfl, ?_⟩) (by assumption) ?_
          rotate_left
          · simp only [List.getElem_toArray, List.getElem_cons_zero, List.getElem_cons_succ]; intro W hSw; (try dsimp only at hSw); go_simp; all_goals with_reducible rfl
          simp only [Act.put, List.getElem_toArray, List.getElem_cons_zero, List.getElem_cons_succ, List.setIfInBounds_toArray, List.set_cons_zero, List.set_cons_succ]
          refine wpAnyH_take (i := 13) (v := ?_) rfl (by kernel_rfl) (by kernel_rfl) (by kernel_rfl) (fun _ _ _ h => h) (Or.inl ⟨by rfl, ?_⟩) (by assumption) ?_
          rotate_left
          · simp only [List.getElem_toArray, List.getElem_cons_zero, List.getElem_cons_succ]; intro W hSw; (try dsimp only at hSw); go_simp; all_goals with_reducible rfl
          simp only [Act.put, List.getElem_toArray, List.getElem_cons_zero, List.getElem_cons_succ, List.setIfInBounds_toArray, List.set_cons_zero, List.set_cons_succ]
          refine wpAnyH_take (i := 14) (v := ?_) rfl (by kernel_rfl) (by kernel_rfl) (by kernel_rfl) (fun _ _ _ h => h) (Or.inl ⟨by rfl, ?_⟩) (by assumption) ?_
          rotate_left
          · simp only [List.getElem_toArray, List.getElem_cons_zero, List.getElem_cons_succ]; intro W hSw; (try dsimp only at hSw); go_simp; all_goals with_reducible rfl
          simp only [Act.put, List.getElem_toArray, List.getElem_cons_zero, List.getElem_cons_succ, List.setIfInBounds_toArray, List.set_cons_zero, List.set_cons_succ]
          refine wpAnyH_take (i := 15) (v := ?_) rfl (by kernel_rfl) (by kernel_rfl) (by kernel_rfl) (fun _ _ _ h => h) (Or.inl ⟨by rfl, ?_⟩) (by assumption) ?_
          rotate_left
          · simp only [List.getElem_toArray, List.getElem_cons_zero, List.getElem_cons_succ]; intro W hSw; (try dsimp only at hSw); go_simp; all_goals with_reducible rfl
          simp only [Act.put, List.getElem_toArray, List.getElem_cons_zero, List.getElem_cons_succ, List.setIfInBounds_toArray, List.set_cons_zero, List.set_cons_succ]
          refine wpAnyH_take (i := 16) (v := ?_) rfl (by kernel_rfl) (by kernel_rfl) (by kernel_rfl) (fun _ _ _ h => h) (Or.inl ⟨by rfl, ?_⟩) (by assumption) ?_
          rotate_left
          · simp only [List.getElem_toArray, List.getElem_cons_zero, List.getElem_cons_succ]; intro W hSw; (try dsimp only at hSw); go_simp; all_goals with_reducible rfl
          simp only [Act.put, List.getElem_toArray, List.getElem_cons_zero, List.getElem_cons_succ, List.setIfInBounds_toArray, List.set_cons_zero, List.set_cons_succ]
          refine wpAnyH_ready (rs := [17]) (by kernel_rfl) (by simp) ?_
          refine AllReadyH.cons rfl (fun K hK => ?_) AllReadyH.nil
          simp only [List.getElem_toArray, List.getElem_cons_zero, List.getElem_cons_succ]
          go_simp
          refine HLoad.out.mono ?_
          rintro e w5 ⟨rfl, hy5, hs5, hb5⟩
          have hb35 : Below wr.heap.size wr w5 := (Below.refl _ _).drew.trans hb5
          go_wp2_with fail
          refine hK.out _ _ (HS.out _ hb35) (fun hHeldN => ?_)
          clear hK K hHeld
          have hHeld := hHeldN
          clear hHeldN
          (try simp only [Act.put, List.getElem_toArray, List.getElem_cons_zero, List.getElem_cons_succ, List.setIfInBounds_toArray, List.set_cons_zero, List.set_cons_succ])
          refine wpAnyH_take (i := 18) (v := ?_) rfl (by kernel_rfl) (by kernel_rfl) (by kernel_rfl) (fun _ _ _ h => h) (Or.inl ⟨by rfl, ?_⟩) (by assumption) ?_
          rotate_left
          · simp only [List.getElem_toArray, List.getElem_cons_zero, List.getElem_cons_succ]; intro W hSw; (try dsimp only at hSw); go_simp; all_goals with_reducible rfl
          simp only [Act.put, List.getElem_toArray, List.getElem_cons_zero, List.getElem_cons_succ, List.setIfInBounds_toArray, List.set_cons_zero, List.set_cons_succ]
          refine wpAnyH_ready (rs := [19]) (by kernel_rfl) (by simp) ?_
          refine AllReadyH.cons rfl (fun K hK => ?_) AllReadyH.nil
          simp only [List.getElem_toArray, List.getElem_cons_zero, List.getElem_cons_succ]
          have G5 := Lib.hid ((hb35.block (w.heap.size + 1) (by omega)).trans ((HB.out.block (w.heap.size + 1) (by omega)).trans G1.out))
          obtain ⟨xs, hxs⟩ : ∃ xs, xs = frv (some ⟨wr.heap.size, 0, none⟩) n3 (frameOf bs) := ⟨_, rfl⟩
          have HX := Lib.hid hxs
          have XS := Lib.hid (hxs.trans HO2.out)
          have XL := Lib.hid (show xs.length = 6 by rw [hxs]; rfl)
          have X1 := Lib.hid (show ∀ v ∈ xs, v.oneCell' = true by rw [hxs]; exact frv_one _ _ _)
          clear hxs HO2
          have H6 := Lib.hid (setRow_heap w5 (w.heap.size + 1) _ ([] ++ xs ++ []).toArray _ _ G5.out)
          have HG6 := Lib.hid (grown_setRow w5 (w.heap.size + 1) ([] ++ xs ++ []).toArray)
          rw [if_pos (by rfl)]
          refine wp_store_part 25 (.tmp 2) (.tmp 49) rfl (w.heap.size + 1) 0 rfl xs (by rw [XS.out]; rfl) 25 [] [.int .i64 0, .int .i64 0, .int .i64 0, .int .i64 0, .int .u32 0, .slice none 0 0] [] G5.out rfl (by rw [XL.out]; rfl) (by rw [XL.out]; kernel_rfl) X1.out ?_
          generalize w5.setRow (w.heap.size + 1) ([] ++ xs ++ []).toArray = w6 at *
          have hB35 := Lib.hid hb35
          have cx := HG6.out.block (w.heap.size + 2) (by have := hb35.size; omega) (by simp)
          have hcell : ∀ j, w6.cell? ⟨w.heap.size + 2, j, none⟩ = w5.cell? ⟨w.heap.size + 2, j, none⟩ := fun j => World.cell?_of_block (w := w5) cx
          refine hK.out _ _ (⟨(hcell 0).trans hHeld.1, (hcell 1).trans hHeld.2.1, (hcell 2).trans hHeld.2.2.1, (hcell 4).trans hHeld.2.2.2⟩) (fun hHeldN => ?_)
          clear hK K hHeld
          have hHeld := hHeldN
          clear hHeldN
          (try simp only [Act.put, List.getElem_toArray, List.getElem_cons_zero, List.getElem_cons_succ, List.setIfInBounds_toArray, List.set_cons_zero, List.set_cons_succ])
          refine wpAnyH_done (by kernel_rfl) ?_ _
          have HI := Lib.hid (show (Tryd.prog.info? 25).map (·.size) = some ([] ++ xs ++ []).toArray.size by simp only [List.nil_append, List.append_nil, List.size_toArray, XL.out]; kernel_rfl)
          have hbw : Below w.heap.size w w6 := (GB.out.trans ((HB.out.trans (hB35.out.mono (by omega))).mono (by omega))).grown HG6.out (by have := hB35.out.size; omega) (fun k e => by cases e; omega)
          have hy6 : By w6 w6.heap.size (some ⟨wr.heap.size, 0, none⟩) (frameOf bs).load := by
            rw [HLo.out]
            exact (By.only (hy5.mono (show wr.heap.size + 1 ≤ w5.heap.size from hs5)) (Nat.le_refl _) HG6.out (fun b e => by cases e; show wr.heap.size ≠ w.heap.size + 1; omega)).mono HG6.out.size
          have hv : FrV w6 w6.heap.size (frv (some ⟨wr.heap.size, 0, none⟩) n3 (frameOf bs)) (frameOf bs) := ⟨_, _, rfl, hy6, by rw [HLo.out, HLen.out]; exact Nat.le_refl _, by unfold maxLen; omega, (fun e => by cases e), HFi.out⟩
          have HVv := Lib.hid hv
          have HBw := Lib.hid hbw
          have Hfresh := Lib.hid (show w.heap.size ≤ wr.heap.size by omega)
          clear hv hbw hy6 cx hcell hHeld hy5 hs5 hb5 hb35
          go_wp2
          refine bodyPost_ret (results_cell_row rfl _ _ (w.heap.size + 1) 25 _ (0, 0) _ rfl H6.out Tryd.underlying25 rfl HI.out) rfl ⟨some ⟨wr.heap.size, 0, none⟩, n3, ?_, HVv.out, HBw.out, fun b e => by cases e; exact Hfresh.out⟩
          rw [HX.out]
          simp
        · have hi45 : ¬ (n3 : Int) ≤ 45 := by omega
          have hlen : ((bs.drop 15).take 45).length = 45 := by rw [List.length_take, List.length_drop, HL.out]; omega
          have hyl : By wr wr.heap.size (some ⟨w.heap.size, 15, none⟩) ((bs.drop 15).take 45) := part_by HY.out 45 (by have := HL.out; omega)
          have HLoad := Lib.hid (load_any ((bs.drop 15).take 45) (some ⟨w.heap.size, 15, none⟩) ((bs.drop 15).take 45).length wr.drew hyl.drew (by rw [hlen]; omega))
          rw [hlen] at HLoad
          have HO2 := Lib.hid (show frv (some ⟨wr.heap.size, 0, none⟩) 45 (frameOf bs) = [.int .i64 (n0 : Nat), .int .i64 (n1 : Nat), .int .i64 ((n2 : Int) / 16), .int .i64 (n2 % 16 : Nat), .int .u32 (n4 : Nat), .slice (some ⟨wr.heap.size, 0, none⟩) 45 45] by
            rw [HO.out]
            unfold frv
            dsimp only
            rw [show min n3 45 = 45 by omega, hlen]
            rfl)
          have HLo := Lib.hid (show (frameOf bs).load = (bs.drop 15).take 45 by rw [HO.out]; dsimp only; rw [show min n3 45 = 45 by omega])
          have HLen := Lib.hid hlen
          have hS : ∀ W, Below wr.heap.size wr W → W.cell? ⟨w.heap.size + 2, 0, none⟩ = some (.int .i64 (n0 : Nat)) ∧ W.cell? ⟨w.heap.size + 2, 1, none⟩ = some (.int .i64 (n1 : Nat)) ∧ W.cell? ⟨w.heap.size + 2, 2, none⟩ = some (.int .i64 (n2 : Nat)) ∧ W.cell? ⟨w.heap.size + 2, 4, none⟩ = some (.int .i64 (n4 : Nat)) := fun W hW =>
            ⟨(hW.cell (p := ⟨w.heap.size + 2, 0, none⟩) hsz).trans c0, (hW.cell (p := ⟨w.heap.size + 2, 1, none⟩) hsz).trans c1, (hW.cell (p := ⟨w.heap.size + 2, 2, none⟩) hsz).trans c2, (hW.cell (p := ⟨w.heap.size + 2, 4, none⟩) hsz).trans c4⟩
          have HS := Lib.hid hS
          clear hS hyl hlen
          go_wp2_with fail
          clear c0 c1 c2 c3 c4
          refine wp_region_held_drew (S := fun W => W.cell? ⟨w.heap.size + 2, 0, none⟩ = some (.int .i64 (n0 : Nat)) ∧ W.cell? ⟨w.heap.size + 2, 1, none⟩ = some (.int .i64 (n1 : Nat)) ∧ W.cell? ⟨w.heap.size + 2, 2, none⟩ = some (.int .i64 (n2 : Nat)) ∧ W.cell? ⟨w.heap.size + 2, 4, none⟩ = some (.int .i64 (n4 : Nat))) (by kernel_rfl) (HS.out _ (Below.refl _ _).drew) (fun hHeld => ?_)
          refine wpAnyH_take (i := 0) (v := ?_) rfl (by kernel_rfl) (by kernel_rfl) (by kernel_rfl) (fun _ _ _ h => h) (Or.inl ⟨by rfl, ?_⟩) (by assumption) ?_
          rotate_left
          · simp only [List.getElem_toArray, List.getElem_cons_zero, List.getElem_cons_succ]; intro W hSw; (try dsimp only at hSw); go_simp; all_goals with_reducible rfl
          simp only [Act.put, List.getElem_toArray, List.getElem_cons_zero, List.getElem_cons_succ, List.setIfInBounds_toArray, List.set_cons_zero, List.set_cons_succ]
          refine wpAnyH_take (i := 1) (v := ?_) rfl (by kernel_rfl) (by kernel_rfl) (by kernel_rfl) (fun _ _ _ h => h) (Or.inl ⟨by rfl, ?_⟩) (by assumption) ?_
          rotate_left
          · simp only [List.getElem_toArray, List.getElem_cons_zero, List.getElem_cons_succ]; intro W hSw; (try dsimp only at hSw); go_simp; all_goals with_reducible rfl
          simp only [Act.put, List.getElem_toArray, List.getElem_cons_zero, List.getElem_cons_succ, List.setIfInBounds_toArray, List.set_cons_zero, List.set_cons_succ]
          refine wpAnyH_take (i := 2) (v := ?_) rfl (by kernel_rfl) (by kernel_rfl) (by kernel_rfl) (fun _ _ _ h => h) (Or.inl ⟨by rfl, ?_⟩) (by assumption) ?_
          rotate_left
          · simp only [List.getElem_toArray, List.getElem_cons_zero, List.getElem_cons_succ]; intro W hSw; (try dsimp only at hSw); go_simp; all_goals with_reducible rfl
          simp only [Act.put, List.getElem_toArray, List.getElem_cons_zero, List.getElem_cons_succ, List.setIfInBounds_toArray, List.set_cons_zero, List.set_cons_succ]
          refine wpAnyH_take (i := 3) (v := ?_) rfl (by kernel_rfl) (by kernel_rfl) (by kernel_rfl) (fun _ _ _ h => h) (Or.inl ⟨by rfl, ?_⟩) (by assumption) ?_
          rotate_left
          · simp only [List.getElem_toArray, List.getElem_cons_zero, List.getElem_cons_succ]; intro W hSw; (try dsimp only at hSw); go_simp; all_goals with_reducible rfl
          simp only [Act.put, List.getElem_toArray, List.getElem_cons_zero, List.getElem_cons_succ, List.setIfInBounds_toArray, List.set_cons_zero, List.set_cons_succ]
          refine wpAnyH_take (i := 4) (v := ?_) rfl (by kernel_rfl) (by kernel_rfl) (by kernel_rfl) (fun _ _ _ h => h) (Or.inl ⟨by rfl, ?_⟩) (by assumption) ?_
          rotate_left
          · simp only [List.getElem_toArray, List.getElem_cons_zero, List.getElem_cons_succ]; intro W hSw; (try dsimp only at hSw); go_simp; all_goals with_reducible rfl
          simp only [Act.put, List.getElem_toArray, List.getElem_cons_zero, List.getElem_cons_succ, List.setIfInBounds_toArray, List.set_cons_zero, List.set_cons_succ]
          refine wpAnyH_take (i := 5) (v := ?_) rfl (by kernel_rfl) (by kernel_rfl) (by kernel_rfl) (fun _ _ _ h => h) (Or.inl ⟨by rfl, ?_⟩) (by assumption) ?_
          rotate_left
          · simp only [List.getElem_toArray, List.getElem_cons_zero, List.getElem_cons_succ]; intro W hSw; (try dsimp only at hSw); go_simp; all_goals with_reducible rfl
          simp only [Act.put, List.getElem_toArray, List.getElem_cons_zero, List.getElem_cons_succ, List.setIfInBounds_toArray, List.set_cons_zero, List.set_cons_succ]
          refine wpAnyH_take (i := 6) (v := ?_) rfl (by kernel_rfl) (by kernel_rfl) (by kernel_rfl) (fun _ _ _ h => h) (Or.inl ⟨by rfl, ?_⟩) (by assumption) ?_
          rotate_left
          · simp only [List.getElem_toArray, List.getElem_cons_zero, List.getElem_cons_succ]; intro W hSw; (try dsimp only at hSw); go_simp; all_goals with_reducible rfl
          simp only [Act.put, List.getElem_toArray, List.getElem_cons_zero, List.getElem_cons_succ, List.setIfInBounds_toArray, List.set_cons_zero, List.set_cons_succ]
          refine wpAnyH_take (i := 7) (v := ?_) rfl (by kernel_rfl) (by kernel_rfl) (by kernel_rfl) (fun _ _ _ h => h) (Or.inl ⟨by rfl, ?_⟩) (by assumption) ?_
          rotate_left
          · simp only [List.getElem_toArray, List.getElem_cons_zero, List.getElem_cons_succ]; intro W hSw; (try dsimp only at hSw); go_simp; all_goals with_reducible rfl
          simp only [Act.put, List.getElem_toArray, List.getElem_cons_zero, List.getElem_cons_succ, List.setIfInBounds_toArray, List.set_cons_zero, List.set_cons_succ]
          refine wpAnyH_take (i := 8) (v := ?_) rfl (by kernel_rfl) (by kernel_rfl) (by kernel_rfl) (fun _ _ _ h => h) (Or.inl ⟨by rfl, ?_⟩) (by assumption) ?_
          rotate_left
          · simp only [List.getElem_toArray, List.getElem_cons_zero, List.getElem_cons_succ]; intro W hSw; (try dsimp only at hSw); go_simp; all_goals with_reducible rfl
          simp only [Act.put, List.getElem_toArray, List.getElem_cons_zero, List.getElem_cons_succ, List.setIfInBounds_toArray, List.set_cons_zero, List.set_cons_succ]
          refine wpAnyH_take (i := 9) (v := ?_) rfl (by kernel_rfl) (by kernel_rfl) (by kernel_rfl) (fun _ _ _ h => h) (Or.inl ⟨by rfl, ?_⟩) (by assumption) ?_
          rotate_left
          · simp only [List.getElem_toArray, List.getElem_cons_zero, List.getElem_cons_succ]; intro W hSw; (try dsimp only at hSw); go_simp; all_goals with_reducible rfl
          simp only [Act.put, List.getElem_toArray, List.getElem_cons_zero, List.getElem_cons_succ, List.setIfInBounds_toArray, List.set_cons_zero, List.set_cons_succ]
          refine wpAnyH_take (i := 10) (v := ?_) rfl (by kernel_rfl) (by kernel_rfl) (by kernel_rfl) (fun _ _ _ h => h) (Or.inl ⟨by rfl, ?_⟩) (by assumption) ?_
          rotate_left
          · simp only [List.getElem_toArray, List.getElem_cons_zero, List.getElem_cons_succ]; intro W hSw; (try dsimp only at hSw); go_simp; all_goals with_reducible rfl
          simp only [Act.put, List.getElem_toArray, List.getElem_cons_zero, List.getElem_cons_succ, List.setIfInBounds_toArray, List.set_cons_zero, List.set_cons_succ]
          refine wpAnyH_take (i := 11) (v := ?_) rfl (by kernel_rfl) (by kernel_rfl) (by kernel_rfl) (fun _ _ _ h => h) (Or.inl ⟨by rfl, ?_⟩) (by assumption) ?_
          rotate_left
          · simp only [List.getElem_toArray, List.getElem_cons_zero, List.getElem_cons_succ]; intro W hSw; (try dsimp only at hSw); go_simp; all_goals with_reducible rfl
          simp only [Act.put, List.getElem_toArray, List.getElem_cons_zero, List.getElem_cons_succ, List.setIfInBounds_toArray, List.set_cons_zero, List.set_cons_succ]
          refine wpAnyH_take (i := 12) (v := ?_) rfl (by kernel_rfl) (by kernel_rfl) (by kernel_rfl) (fun _ _ _ h => h) (Or.inl ⟨by rfl, ?_⟩) (by assumption) ?_
          rotate_left
          · simp only [List.getElem_toArray, List.getElem_cons_zero, List.getElem_cons_succ]; intro W hSw; (try dsimp only at hSw); go_simp; all_goals with_reducible rfl
          simp only [Act.put, List.getElem_toArray, List.getElem_cons_zero, List.getElem_cons_succ, List.setIfInBounds_toArray, List.set_cons_zero, List.set_cons_succ]
          refine wpAnyH_take (i := 13) (v := ?_) rfl (by kernel_rfl) (by kernel_rfl) (by kernel_rfl) (fun _ _ _ h => h) (Or.inl ⟨by rfl, ?_⟩) (by assumption) ?_
          rotate_left
          · simp only [List.getElem_toArray, List.getElem_cons_zero, List.getElem_cons_succ]; intro W hSw; (try dsimp only at hSw); go_simp; all_goals with_reducible rfl
          simp only [Act.put, List.getElem_toArray, List.getElem_cons_zero, List.getElem_cons_succ, List.setIfInBounds_toArray, List.set_cons_zero, List.set_cons_succ]
          refine wpAnyH_take (i := 14) (v := ?_) rfl (by kernel_rfl) (by kernel_rfl) (by kernel_rfl) (fun _ _ _ h => h) (Or.inl ⟨by rfl, ?_⟩) (by assumption) ?_
          rotate_left
          · simp only [List.getElem_toArray, List.getElem_cons_zero, List.getElem_cons_succ]; intro W hSw; (try dsimp only at hSw); go_simp; all_goals with_reducible rfl
          simp only [Act.put, List.getElem_toArray, List.getElem_cons_zero, List.getElem_cons_succ, List.setIfInBounds_toArray, List.set_cons_zero, List.set_cons_succ]
          refine wpAnyH_take (i := 15) (v := ?_) rfl (by kernel_rfl) (by kernel_rfl) (by kernel_rfl) (fun _ _ _ h => h) (Or.inl ⟨by rfl, ?_⟩) (by assumption) ?_
          rotate_left
          · simp only [List.getElem_toArray, List.getElem_cons_zero, List.getElem_cons_succ]; intro W hSw; (try dsimp only at hSw); go_simp; all_goals with_reducible rfl
          simp only [Act.put, List.getElem_toArray, List.getElem_cons_zero, List.getElem_cons_succ, List.setIfInBounds_toArray, List.set_cons_zero, List.set_cons_succ]
          refine wpAnyH_take (i := 16) (v := ?_) rfl (by kernel_rfl) (by kernel_rfl) (by kernel_rfl) (fun _ _ _ h => h) (Or.inl ⟨by rfl, ?_⟩) (by assumption) ?_
          rotate_left
          · simp only [List.getElem_toArray, List.getElem_cons_zero, List.getElem_cons_succ]; intro W hSw; (try dsimp only at hSw); go_simp; all_goals with_reducible rfl
          simp only [Act.put, List.getElem_toArray, List.getElem_cons_zero, List.getElem_cons_succ, List.setIfInBounds_toArray, List.set_cons_zero, List.set_cons_succ]
          refine wpAnyH_ready (rs := [17]) (by kernel_rfl) (by simp) ?_
          refine AllReadyH.cons rfl (fun K hK => ?_) AllReadyH.nil
          simp only [List.getElem_toArray, List.getElem_cons_zero, List.getElem_cons_succ]
          go_simp
          refine HLoad.out.mono ?_
          rintro e w5 ⟨rfl, hy5, hs5, hb5⟩
          have hb35 : Below wr.heap.size wr w5 := (Below.refl _ _).drew.trans hb5
          go_wp2_with fail
          refine hK.out _ _ (HS.out _ hb35) (fun hHeldN => ?_)
          clear hK K hHeld
          have hHeld := hHeldN
          clear hHeldN
          (try simp only [Act.put, List.getElem_toArray, List.getElem_cons_zero, List.getElem_cons_succ, List.setIfInBounds_toArray, List.set_cons_zero, List.set_cons_succ])
          refine wpAnyH_take (i := 18) (v := ?_) rfl (by kernel_rfl) (by kernel_rfl) (by kernel_rfl) (fun _ _ _ h => h) (Or.inl ⟨by rfl, ?_⟩) (by assumption) ?_
          rotate_left
          · simp only [List.getElem_toArray, List.getElem_cons_zero, List.getElem_cons_succ]; intro W hSw; (try dsimp only at hSw); go_simp; all_goals with_reducible rfl
          simp only [Act.put, List.getElem_toArray, List.getElem_cons_zero, List.getElem_cons_succ, List.setIfInBounds_toArray, List.set_cons_zero, List.set_cons_succ]
          refine wpAnyH_ready (rs := [19]) (by kernel_rfl) (by simp) ?_
          refine AllReadyH.cons rfl (fun K hK => ?_) AllReadyH.nil
          simp only [List.getElem_toArray, List.getElem_cons_zero, List.getElem_cons_succ]
          have G5 := Lib.hid ((hb35.block (w.heap.size + 1) (by omega)).trans ((HB.out.block (w.heap.size + 1) (by omega)).trans G1.out))
          obtain ⟨xs, hxs⟩ : ∃ xs, xs = frv (some ⟨wr.heap.size, 0, none⟩) 45 (frameOf bs) := ⟨_, rfl⟩
          have HX := Lib.hid hxs
          have XS := Lib.hid (hxs.trans HO2.out)
          have XL := Lib.hid (show xs.length = 6 by rw [hxs]; rfl)
          have X1 := Lib.hid (show ∀ v ∈ xs, v.oneCell' = true by rw [hxs]; exact frv_one _ _ _)
          clear hxs HO2
          have H6 := Lib.hid (setRow_heap w5 (w.heap.size + 1) _ ([] ++ xs ++ []).toArray _ _ G5.out)
          have HG6 := Lib.hid (grown_setRow w5 (w.heap.size + 1) ([] ++ xs ++ []).toArray)
          rw [if_pos (by rfl)]
          refine wp_store_part 25 (.tmp 2) (.tmp 49) rfl (w.heap.size + 1) 0 rfl xs (by rw [XS.out]; rfl) 25 [] [.int .i64 0, .int .i64 0, .int .i64 0, .int .i64 0, .int .u32 0, .slice none 0 0] [] G5.out rfl (by rw [XL.out]; rfl) (by rw [XL.out]; kernel_rfl) X1.out ?_
          generalize w5.setRow (w.heap.size + 1) ([] ++ xs ++ []).toArray = w6 at *
          have hB35 := Lib.hid hb35
          have cx := HG6.out.block (w.heap.size + 2) (by have := hb35.size; omega) (by simp)
          have hcell : ∀ j, w6.cell? ⟨w.heap.size + 2, j, none⟩ = w5.cell? ⟨w.heap.size + 2, j, none⟩ := fun j => World.cell?_of_block (w := w5) cx
          refine hK.out _ _ (⟨(hcell 0).trans hHeld.1, (hcell 1).trans hHeld.2.1, (hcell 2).trans hHeld.2.2.1, (hcell 4).trans hHeld.2.2.2⟩) (fun hHeldN => ?_)
          clear hK K hHeld
          have hHeld := hHeldN
          clear hHeldN
          (try simp only [Act.put, List.getElem_toArray, List.getElem_cons_zero, List.getElem_cons_succ, List.setIfInBounds_toArray, List.set_cons_zero, List.set_cons_succ])
          refine wpAnyH_done (by kernel_rfl) ?_ _
          have HI := Lib.hid (show (Tryd.prog.info? 25).map (·.size) = some ([] ++ xs ++ []).toArray.size by simp only [List.nil_append, List.append_nil, List.size_toArray, XL.out]; kernel_rfl)
          have hbw : Below w.heap.size w w6 := (GB.out.trans ((HB.out.trans (hB35.out.mono (by omega))).mono (by omega))).grown HG6.out (by have := hB35.out.size; omega) (fun k e => by cases e; omega)
          have hy6 : By w6 w6.heap.size (some ⟨wr.heap.size, 0, none⟩) (frameOf bs).load := by
            rw [HLo.out]
            exact (By.only (hy5.mono (show wr.heap.size + 1 ≤ w5.heap.size from hs5)) (Nat.le_refl _) HG6.out (fun b e => by cases e; show wr.heap.size ≠ w.heap.size + 1; omega)).mono HG6.out.size
          have hv : FrV w6 w6.heap.size (frv (some ⟨wr.heap.size, 0, none⟩) 45 (frameOf bs)) (frameOf bs) := ⟨_, _, rfl, hy6, by rw [HLo.out, HLen.out]; exact Nat.le_refl _, by unfold maxLen; omega, (fun e => by cases e), HFi.out⟩
          have HVv := Lib.hid hv
          have HBw := Lib.hid hbw
          have Hfresh := Lib.hid (show w.heap.size ≤ wr.heap.size by omega)
          clear hv hbw hy6 cx hcell hHeld hy5 hs5 hb5 hb35
          go_wp2
          refine bodyPost_ret (results_cell_row rfl _ _ (w.heap.size + 1) 25 _ (0, 0) _ rfl H6.out Tryd.underlying25 rfl HI.out) rfl ⟨some ⟨wr.heap.size, 0, none⟩, 45, ?_, HVv.out, HBw.out, fun b e => by cases e; exact Hfresh.out⟩
          rw [HX.out]
          simp
end Go.Proofs.YtehkohnpfbdngaaDoor
