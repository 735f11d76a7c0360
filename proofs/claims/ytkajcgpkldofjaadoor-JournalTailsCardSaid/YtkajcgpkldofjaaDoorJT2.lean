/-
  Texts FmParse, Arrays, FmRead, FmSector, FmCutBack, Scan, DkGround, DkDisk, DkPlain, DkNewest, DkRead, DkWrites, DkFlush, DkStore, joined.
-/
import Derived.Laws.Cover3
import Derived.Maps.RangeWalk
import Derived.Maps.OwnSet
import Derived.Maps.OwnOps
import Derived.Maps.AppendAt
import Derived.Laws.MakeOwn
import Derived.Laws.IdiomRangeMap
import Derived.LoopN
import Derived.Maps.Ext
import Derived.Deep.RegionHeld3
import Derived.Deep.AppendLies
import Derived.Test.YtkajcgpkldofjaaDoorJT1
set_option linter.all false
section
/-
  parse, by contract: the one frame whose sector some bytes can be.
-/
namespace Go.Proofs.YtkajcgpkldofjaaDoor.Fm
set_option maxRecDepth 100000
open Go.RowKit

/-- the numbers that stand ahead of the load -/
def nv (b : List Nat) : Nat → Nat
  | 0 => num ((b.drop 0).take 6)
  | 1 => num ((b.drop 6).take 3)
  | 2 => num ((b.drop 9).take 1)
  | 3 => num ((b.drop 10).take 1)
  | _ => num ((b.drop 11).take 4)
def nrow (b : List Nat) (k : Nat) : Array Value := #[.int .i64 ((if 0 < k then nv b 0 else 0 : Nat) : Int), .int .i64 ((if 1 < k then nv b 1 else 0 : Nat) : Int), .int .i64 ((if 2 < k then nv b 2 else 0 : Nat) : Int), .int .i64 ((if 3 < k then nv b 3 else 0 : Nat) : Int), .int .i64 ((if 4 < k then nv b 4 else 0 : Nat) : Int)]
def atp : Nat → Nat
  | 0 => 0
  | 1 => 6
  | 2 => 9
  | 3 => 10
  | 4 => 11
  | _ => 15
/-- the frame that bytes can be -/
def frameOf (b : List Nat) : Fr := ⟨(nv b 0 : Nat), (nv b 1 : Nat), (nv b 2 / 16 : Nat), (nv b 2 % 16 : Nat), nv b 4, (b.drop 15).take (min (nv b 3) 45)⟩
theorem nv_lt {b : List Nat} (hl : b.length = 64) (hb : ∀ x ∈ b, x < 256) : nv b 0 < 281474976710656 ∧ nv b 1 < 16777216 ∧ nv b 2 < 256 ∧ nv b 3 < 256 ∧ nv b 4 < 4294967296 := by
  have h : ∀ a m, a + m ≤ 64 → num ((b.drop a).take m) < 256 ^ m := fun a m ham => by
    have h1 := num_lt ((b.drop a).take m) fun x hx => hb x (List.mem_of_mem_drop (List.mem_of_mem_take hx))
    rwa [List.length_take, List.length_drop, hl, Nat.min_eq_left (by omega)] at h1
  exact ⟨h 0 6 (by omega), h 6 3 (by omega), h 9 1 (by omega), h 10 1 (by omega), h 11 4 (by omega)⟩
theorem frameOf_fine {b : List Nat} (hl : b.length = 64) (hb : ∀ x ∈ b, x < 256) : (frameOf b).Fine := by
  obtain ⟨h0, h1, h2, h3, h4⟩ := nv_lt hl hb
  exact ⟨by simp only [frameOf]; omega, by simp only [frameOf]; omega, by simp only [frameOf]; omega, by simp only [frameOf]; omega, h4, fun x hx => hb x (List.mem_of_mem_drop (List.mem_of_mem_take hx))⟩
theorem and_15 (n : Nat) (hn : n < 281474976710656) : bits .and .i64 (n : Int) 15 = ((n % 16 : Nat) : Int) := by
  have h := i64_and_nat n 15 (by omega) (by omega)
  rwa [nat_mask4] at h

theorem nrow_set (b : List Nat) {k : Nat} (h : k < 5) : (nrow b k).setIfInBounds k (.int .i64 (nv b k : Nat)) = nrow b (k + 1) := by
  rcases six_ways (show k < 6 by omega) with rfl | rfl | rfl | rfl | rfl | rfl
  · rfl
  · rfl
  · rfl
  · rfl
  · rfl
  · omega
theorem nrow_size (b : List Nat) (k : Nat) : (nrow b k).size = 5 := rfl
theorem part_by {w : World} {B g : Nat} {bs : List Nat} (h : By w B (some ⟨g, 0, none⟩) bs) (n : Nat) (_hl : n ≤ 1000) : By w B (some ⟨g, 15, none⟩) ((bs.drop 15).take n) := by
  by_cases hz : bs.length = 15
  · have : (bs.drop 15).take n = [] := by rw [List.drop_of_length_le (by omega)]; simp
    rw [this]
    exact By.nil_
  · have h1 := h.drop (c := bs.length) 15 (Nat.le_refl _)
    rw [if_neg hz, Option.map_some, add_flat, Nat.zero_add] at h1
    exact h1.take n
set_option maxRecDepth 100000 in
set_option maxHeartbeats 2000000 in
theorem parse_any (bs : List Nat) (w : World) (hl : bs.length = 64) (hb : ∀ x ∈ bs, x < 256) (hW : Widths w) :
    Calls Tryd.prog 69 #[.agg (vals bs).toArray] w fun e w' => ∃ A' c', e = .returned (.agg (frv A' c' (frameOf bs)).toArray) ∧ FrV w' w'.heap.size (frv A' c' (frameOf bs)) (frameOf bs) ∧ Below w.heap.size w w' ∧ ∀ b, A' = some b → w.heap.size ≤ b.block := by
  obtain ⟨V, hV⟩ : ∃ V, V = (vals bs).toArray := ⟨_, rfl⟩
  rw [← hV]
  have HV := Lib.hid hV
  have HL := Lib.hid hl
  have HBl := Lib.hid hb
  have HW := Lib.hid hW
  have HN := Lib.hid (nv_lt hl hb)
  have HFi := Lib.hid (frameOf_fine hl hb)
  obtain ⟨hz0, t0, t1, t2, t3, t4⟩ := hW
  have G0 := Lib.hid (show (((w.alloc (.cells V 70)).alloc (.cells #[.int .i64 0, .int .i64 0, .int .i64 0, .int .i64 0, .int .u32 0, .slice none 0 0] 54)).alloc (.cells #[.int .i64 0, .int .i64 0, .int .i64 0, .int .i64 0, .int .i64 0] 126)).heap[w.heap.size]? = some (.cells V 70 (0, 0)) from
    (((Below.refl (w.alloc (.cells V 70)).heap.size _).alloc (Nat.le_refl _) (.cells #[.int .i64 0, .int .i64 0, .int .i64 0, .int .i64 0, .int .u32 0, .slice none 0 0] 54)).alloc (by simp) (.cells #[.int .i64 0, .int .i64 0, .int .i64 0, .int .i64 0, .int .i64 0] 126)).block w.heap.size (by simp) |>.trans (heap_alloc_new w _))
  have G1 := Lib.hid (show (((w.alloc (.cells V 70)).alloc (.cells #[.int .i64 0, .int .i64 0, .int .i64 0, .int .i64 0, .int .u32 0, .slice none 0 0] 54)).alloc (.cells #[.int .i64 0, .int .i64 0, .int .i64 0, .int .i64 0, .int .i64 0] 126)).heap[w.heap.size + 1]? = some (.cells #[.int .i64 0, .int .i64 0, .int .i64 0, .int .i64 0, .int .u32 0, .slice none 0 0] 54 (0, 0)) by
    have h := heap_alloc2_old (w.alloc (.cells V 70)) (.cells #[.int .i64 0, .int .i64 0, .int .i64 0, .int .i64 0, .int .u32 0, .slice none 0 0] 54) (.cells #[.int .i64 0, .int .i64 0, .int .i64 0, .int .i64 0, .int .i64 0] 126)
    simpa using h)
  have G2 := Lib.hid (show (((w.alloc (.cells V 70)).alloc (.cells #[.int .i64 0, .int .i64 0, .int .i64 0, .int .i64 0, .int .u32 0, .slice none 0 0] 54)).alloc (.cells #[.int .i64 0, .int .i64 0, .int .i64 0, .int .i64 0, .int .i64 0] 126)).heap[w.heap.size + 2]? = some (.cells #[.int .i64 0, .int .i64 0, .int .i64 0, .int .i64 0, .int .i64 0] 126 (0, 0)) by
    have h := heap_alloc2_new (w.alloc (.cells V 70)) (.cells #[.int .i64 0, .int .i64 0, .int .i64 0, .int .i64 0, .int .u32 0, .slice none 0 0] 54) (.cells #[.int .i64 0, .int .i64 0, .int .i64 0, .int .i64 0, .int .i64 0] 126)
    simpa using h)
  have GB := Lib.hid ((((Below.refl w.heap.size w).alloc (Nat.le_refl _) (.cells V 70)).alloc (by simp) (.cells #[.int .i64 0, .int .i64 0, .int .i64 0, .int .i64 0, .int .u32 0, .slice none 0 0] 54)).alloc (by simp; omega) (.cells #[.int .i64 0, .int .i64 0, .int .i64 0, .int .i64 0, .int .i64 0] 126))
  have GZ := Lib.hid (show (((w.alloc (.cells V 70)).alloc (.cells #[.int .i64 0, .int .i64 0, .int .i64 0, .int .i64 0, .int .u32 0, .slice none 0 0] 54)).alloc (.cells #[.int .i64 0, .int .i64 0, .int .i64 0, .int .i64 0, .int .i64 0] 126)).heap.size = w.heap.size + 3 by simp)
  clear hV hl hb
  go_enter Tryd.func69, Tryd.ntmps69
  go_wp2_with fail
  simp only [Nat.add_assoc, Nat.reduceAdd]
  generalize ((w.alloc (.cells V 70)).alloc (.cells #[.int .i64 0, .int .i64 0, .int .i64 0, .int .i64 0, .int .u32 0, .slice none 0 0] 54)).alloc (.cells #[.int .i64 0, .int .i64 0, .int .i64 0, .int .i64 0, .int .i64 0] 126) = w3 at *
  go_loopw [4, 9] (fun at_ i wr => ∃ k : Nat, k ≤ 5 ∧ i = .int .i64 k ∧ at_ = .int .i64 (atp k) ∧ wr.heap[w.heap.size + 2]? = some (.cells (nrow bs k) 126 (0, 0)) ∧ Below (w.heap.size + 2) w3 wr) (fun _ i _ => 5 - (intOf i).toNat)
  case atStart => exact ⟨0, by omega, rfl, rfl, G2.out, Below.refl _ _⟩
  case round =>
    obtain ⟨k, hk, rfl, rfl, hrow, hb⟩ := hrel
    have HB := Lib.hid hb
    have HR := Lib.hid hrow
    have HY := Lib.hid (show By wr wr.heap.size (some ⟨w.heap.size, 0, none⟩) bs from (By.of_row ((hb.block w.heap.size (by omega)).trans G0.out) (by rw [HV.out, List.toList_toArray]; exact List.take_of_length_le (by rw [vals_length]; exact Nat.le_refl _)) HBl.out).mono (by have := hb.size; have := GZ.out; omega))
    clear hb hrow
    by_cases hlt : k < 5
    · have h5 : k = 0 ∨ k = 1 ∨ k = 2 ∨ k = 3 ∨ k = 4 := by omega
      rcases h5 with rfl | rfl | rfl | rfl | rfl
      · rw [show ((atp 0 : Nat) : Int) = 0 from rfl]
        have hG : Calls Tryd.prog 74 #[.slice (some ⟨w.heap.size, 0, none⟩) 64 64, .int .i64 0, .int .i64 6] wr fun e w' => e = .returned (.tuple #[.int .i64 (nv bs 0 : Nat), .int .i64 0]) ∧ wr = w' := by
          have h := get_yes bs 0 6 (by omega) (by omega) (by have := HL.out; omega) (some ⟨w.heap.size, 0, none⟩) 64 wr HY.out (by have := HL.out; omega)
          rw [HL.out] at h
          exact h
        have hx : ∀ W, (Instr.index 126 (.agg #[.int .i64 6, .int .i64 3, .int .i64 1, .int .i64 1, .int .i64 4]) (.int .i64 0)).run Tryd.prog W = .ok (.int .i64 6) W := fun W =>
          run_index_cell (P := Tryd.prog) W 126 3 5 0 #[.int .i64 6, .int .i64 3, .int .i64 1, .int .i64 1, .int .i64 4] Tryd.underlying126 .i64 Tryd.underlying3 (by kernel_rfl) (by omega) _ rfl
        have hcell : wr.cell? ⟨w.heap.size + 2, 0, none⟩ = some (.int .i64 0) := by rw [cell_of_row wr _ 0 _ _ _ HR.out]; rfl
        have hfr := frozen_of_row wr (w.heap.size + 2) 0 _ _ HR.out
        have HN2 := Lib.hid ((heap_setCell_same wr (w.heap.size + 2) 0 _ _ (.int .i64 (nv bs 0 : Nat)) HR.out).trans (by rw [nrow_set bs (by omega)]))
        have HB2 := Lib.hid (HB.out.setCell (p := ⟨w.heap.size + 2, 0, none⟩) (Nat.le_refl _) (.int .i64 (nv bs 0 : Nat)))
        have HG := Lib.hid hG
        clear hG
        generalize nv bs 0 = v at *
        go_wp2_with fail
        refine HG.out.mono ?_
        rintro e w4 ⟨rfl, rfl⟩
        go_wp2
        go_roundw
        case rel => exact ⟨0 + 1, by omega, rfl, rfl, HN2.out, HB2.out⟩
        case measure => simp [intOf]
      · rw [show ((atp 1 : Nat) : Int) = 6 from rfl]
        have hG : Calls Tryd.prog 74 #[.slice (some ⟨w.heap.size, 0, none⟩) 64 64, .int .i64 6, .int .i64 3] wr fun e w' => e = .returned (.tuple #[.int .i64 (nv bs 1 : Nat), .int .i64 0]) ∧ wr = w' := by
          have h := get_yes bs 6 3 (by omega) (by omega) (by have := HL.out; omega) (some ⟨w.heap.size, 0, none⟩) 64 wr HY.out (by have := HL.out; omega)
          rw [HL.out] at h
          exact h
        have hx : ∀ W, (Instr.index 126 (.agg #[.int .i64 6, .int .i64 3, .int .i64 1, .int .i64 1, .int .i64 4]) (.int .i64 1)).run Tryd.prog W = .ok (.int .i64 3) W := fun W =>
          run_index_cell (P := Tryd.prog) W 126 3 5 1 #[.int .i64 6, .int .i64 3, .int .i64 1, .int .i64 1, .int .i64 4] Tryd.underlying126 .i64 Tryd.underlying3 (by kernel_rfl) (by omega) _ rfl
        have hcell : wr.cell? ⟨w.heap.size + 2, 1, none⟩ = some (.int .i64 0) := by rw [cell_of_row wr _ 1 _ _ _ HR.out]; rfl
        have hfr := frozen_of_row wr (w.heap.size + 2) 1 _ _ HR.out
        have HN2 := Lib.hid ((heap_setCell_same wr (w.heap.size + 2) 1 _ _ (.int .i64 (nv bs 1 : Nat)) HR.out).trans (by rw [nrow_set bs (by omega)]))
        have HB2 := Lib.hid (HB.out.setCell (p := ⟨w.heap.size + 2, 1, none⟩) (Nat.le_refl _) (.int .i64 (nv bs 1 : Nat)))
        have HG := Lib.hid hG
        clear hG
        generalize nv bs 1 = v at *
        go_wp2_with fail
        refine HG.out.mono ?_
        rintro e w4 ⟨rfl, rfl⟩
        go_wp2
        go_roundw
        case rel => exact ⟨1 + 1, by omega, rfl, rfl, HN2.out, HB2.out⟩
        case measure => simp [intOf]
      · rw [show ((atp 2 : Nat) : Int) = 9 from rfl]
        have hG : Calls Tryd.prog 74 #[.slice (some ⟨w.heap.size, 0, none⟩) 64 64, .int .i64 9, .int .i64 1] wr fun e w' => e = .returned (.tuple #[.int .i64 (nv bs 2 : Nat), .int .i64 0]) ∧ wr = w' := by
          have h := get_yes bs 9 1 (by omega) (by omega) (by have := HL.out; omega) (some ⟨w.heap.size, 0, none⟩) 64 wr HY.out (by have := HL.out; omega)
          rw [HL.out] at h
          exact h
        have hx : ∀ W, (Instr.index 126 (.agg #[.int .i64 6, .int .i64 3, .int .i64 1, .int .i64 1, .int .i64 4]) (.int .i64 2)).run Tryd.prog W = .ok (.int .i64 1) W := fun W =>
          run_index_cell (P := Tryd.prog) W 126 3 5 2 #[.int .i64 6, .int .i64 3, .int .i64 1, .int .i64 1, .int .i64 4] Tryd.underlying126 .i64 Tryd.underlying3 (by kernel_rfl) (by omega) _ rfl
        have hcell : wr.cell? ⟨w.heap.size + 2, 2, none⟩ = some (.int .i64 0) := by rw [cell_of_row wr _ 2 _ _ _ HR.out]; rfl
        have hfr := frozen_of_row wr (w.heap.size + 2) 2 _ _ HR.out
        have HN2 := Lib.hid ((heap_setCell_same wr (w.heap.size + 2) 2 _ _ (.int .i64 (nv bs 2 : Nat)) HR.out).trans (by rw [nrow_set bs (by omega)]))
        have HB2 := Lib.hid (HB.out.setCell (p := ⟨w.heap.size + 2, 2, none⟩) (Nat.le_refl _) (.int .i64 (nv bs 2 : Nat)))
        have HG := Lib.hid hG
        clear hG
        generalize nv bs 2 = v at *
        go_wp2_with fail
        refine HG.out.mono ?_
        rintro e w4 ⟨rfl, rfl⟩
        go_wp2
        go_roundw
        case rel => exact ⟨2 + 1, by omega, rfl, rfl, HN2.out, HB2.out⟩
        case measure => simp [intOf]
      · rw [show ((atp 3 : Nat) : Int) = 10 from rfl]
        have hG : Calls Tryd.prog 74 #[.slice (some ⟨w.heap.size, 0, none⟩) 64 64, .int .i64 10, .int .i64 1] wr fun e w' => e = .returned (.tuple #[.int .i64 (nv bs 3 : Nat), .int .i64 0]) ∧ wr = w' := by
          have h := get_yes bs 10 1 (by omega) (by omega) (by have := HL.out; omega) (some ⟨w.heap.size, 0, none⟩) 64 wr HY.out (by have := HL.out; omega)
          rw [HL.out] at h
          exact h
        have hx : ∀ W, (Instr.index 126 (.agg #[.int .i64 6, .int .i64 3, .int .i64 1, .int .i64 1, .int .i64 4]) (.int .i64 3)).run Tryd.prog W = .ok (.int .i64 1) W := fun W =>
          run_index_cell (P := Tryd.prog) W 126 3 5 3 #[.int .i64 6, .int .i64 3, .int .i64 1, .int .i64 1, .int .i64 4] Tryd.underlying126 .i64 Tryd.underlying3 (by kernel_rfl) (by omega) _ rfl
        have hcell : wr.cell? ⟨w.heap.size + 2, 3, none⟩ = some (.int .i64 0) := by rw [cell_of_row wr _ 3 _ _ _ HR.out]; rfl
        have hfr := frozen_of_row wr (w.heap.size + 2) 3 _ _ HR.out
        have HN2 := Lib.hid ((heap_setCell_same wr (w.heap.size + 2) 3 _ _ (.int .i64 (nv bs 3 : Nat)) HR.out).trans (by rw [nrow_set bs (by omega)]))
        have HB2 := Lib.hid (HB.out.setCell (p := ⟨w.heap.size + 2, 3, none⟩) (Nat.le_refl _) (.int .i64 (nv bs 3 : Nat)))
        have HG := Lib.hid hG
        clear hG
        generalize nv bs 3 = v at *
        go_wp2_with fail
        refine HG.out.mono ?_
        rintro e w4 ⟨rfl, rfl⟩
        go_wp2
        go_roundw
        case rel => exact ⟨3 + 1, by omega, rfl, rfl, HN2.out, HB2.out⟩
        case measure => simp [intOf]
      · rw [show ((atp 4 : Nat) : Int) = 11 from rfl]
        have hG : Calls Tryd.prog 74 #[.slice (some ⟨w.heap.size, 0, none⟩) 64 64, .int .i64 11, .int .i64 4] wr fun e w' => e = .returned (.tuple #[.int .i64 (nv bs 4 : Nat), .int .i64 0]) ∧ wr = w' := by
          have h := get_yes bs 11 4 (by omega) (by omega) (by have := HL.out; omega) (some ⟨w.heap.size, 0, none⟩) 64 wr HY.out (by have := HL.out; omega)
          rw [HL.out] at h
          exact h
        have hx : ∀ W, (Instr.index 126 (.agg #[.int .i64 6, .int .i64 3, .int .i64 1, .int .i64 1, .int .i64 4]) (.int .i64 4)).run Tryd.prog W = .ok (.int .i64 4) W := fun W =>
          run_index_cell (P := Tryd.prog) W 126 3 5 4 #[.int .i64 6, .int .i64 3, .int .i64 1, .int .i64 1, .int .i64 4] Tryd.underlying126 .i64 Tryd.underlying3 (by kernel_rfl) (by omega) _ rfl
        have hcell : wr.cell? ⟨w.heap.size + 2, 4, none⟩ = some (.int .i64 0) := by rw [cell_of_row wr _ 4 _ _ _ HR.out]; rfl
        have hfr := frozen_of_row wr (w.heap.size + 2) 4 _ _ HR.out
        have HN2 := Lib.hid ((heap_setCell_same wr (w.heap.size + 2) 4 _ _ (.int .i64 (nv bs 4 : Nat)) HR.out).trans (by rw [nrow_set bs (by omega)]))
        have HB2 := Lib.hid (HB.out.setCell (p := ⟨w.heap.size + 2, 4, none⟩) (Nat.le_refl _) (.int .i64 (nv bs 4 : Nat)))
        have HG := Lib.hid hG
        clear hG
        generalize nv bs 4 = v at *
        go_wp2_with fail
        refine HG.out.mono ?_
        rintro e w4 ⟨rfl, rfl⟩
        go_wp2
        go_roundw
        case rel => exact ⟨4 + 1, by omega, rfl, rfl, HN2.out, HB2.out⟩
        case measure => simp [intOf]
    · obtain rfl : k = 5 := by omega
      have c0 : wr.cell? ⟨w.heap.size + 2, 0, none⟩ = some (.int .i64 (nv bs 0 : Nat)) := by rw [cell_of_row wr _ 0 _ _ _ HR.out]; rfl
      have c1 : wr.cell? ⟨w.heap.size + 2, 1, none⟩ = some (.int .i64 (nv bs 1 : Nat)) := by rw [cell_of_row wr _ 1 _ _ _ HR.out]; rfl
      have c2 : wr.cell? ⟨w.heap.size + 2, 2, none⟩ = some (.int .i64 (nv bs 2 : Nat)) := by rw [cell_of_row wr _ 2 _ _ _ HR.out]; rfl
      have c3 : wr.cell? ⟨w.heap.size + 2, 3, none⟩ = some (.int .i64 (nv bs 3 : Nat)) := by rw [cell_of_row wr _ 3 _ _ _ HR.out]; rfl
      have c4 : wr.cell? ⟨w.heap.size + 2, 4, none⟩ = some (.int .i64 (nv bs 4 : Nat)) := by rw [cell_of_row wr _ 4 _ _ _ HR.out]; rfl
      rw [show ((atp 5 : Nat) : Int) = 15 from rfl]
      obtain ⟨b0, b1, b2, b3, b4⟩ := HN.out
      have hsz : w.heap.size + 2 < wr.heap.size := by have := HB.out.size; have := GZ.out; omega
      have HO := Lib.hid (show frameOf bs = ⟨(nv bs 0 : Nat), (nv bs 1 : Nat), (nv bs 2 / 16 : Nat), (nv bs 2 % 16 : Nat), nv bs 4, (bs.drop 15).take (min (nv bs 3) 45)⟩ from rfl)
      have hand := and_15 (nv bs 2) (by omega)
      have hconv : IntKind.u32.wrap ((nv bs 4 : Nat) : Int) = ((nv bs 4 : Nat) : Int) := by rw [IntKind.wrap_u32]; omega
      generalize nv bs 0 = n0 at *
      generalize nv bs 1 = n1 at *
      generalize nv bs 2 = n2 at *
      generalize nv bs 3 = n3 at *
      generalize nv bs 4 = n4 at *
      clear HN
      by_cases h0 : n3 = 0
      · subst h0
        have hlen : ((bs.drop 15).take 0).length = 0 := by rw [List.length_take, List.length_drop, HL.out]; omega
        have hyl : By wr wr.heap.size (some ⟨w.heap.size, 0, none⟩) ((bs.drop 15).take 0) := By.nil_
        have HLoad := Lib.hid (load_any ((bs.drop 15).take 0) (some ⟨w.heap.size, 0, none⟩) ((bs.drop 15).take 0).length wr.drew hyl.drew (by rw [hlen]; omega))
        rw [hlen] at HLoad
        have HO2 := Lib.hid (show frv (some ⟨wr.heap.size, 0, none⟩) 0 (frameOf bs) = [.int .i64 (n0 : Nat), .int .i64 (n1 : Nat), .int .i64 ((n2 : Int) / 16), .int .i64 (n2 % 16 : Nat), .int .u32 (n4 : Nat), .slice (some ⟨wr.heap.size, 0, none⟩) 0 0] by
          rw [HO.out]
          unfold frv
          dsimp only
          rw [show min 0 45 = 0 by omega, hlen]
          rfl)
        have HLo := Lib.hid (show (frameOf bs).load = (bs.drop 15).take 0 by rw [HO.out]; dsimp only; rw [show min 0 45 = 0 by omega])
        have HLen := Lib.hid hlen
        have hS : ∀ W, Below wr.heap.size wr W → W.cell? ⟨w.heap.size + 2, 0, none⟩ = some (.int .i64 (n0 : Nat)) ∧ W.cell? ⟨w.heap.size + 2, 1, none⟩ = some (.int .i64 (n1 : Nat)) ∧ W.cell? ⟨w.heap.size + 2, 2, none⟩ = some (.int .i64 (n2 : Nat)) ∧ W.cell? ⟨w.heap.size + 2, 4, none⟩ = some (.int .i64 (n4 : Nat)) := fun W hW =>
          ⟨(hW.cell (p := ⟨w.heap.size + 2, 0, none⟩) hsz).trans c0, (hW.cell (p := ⟨w.heap.size + 2, 1, none⟩) hsz).trans c1, (hW.cell (p := ⟨w.heap.size + 2, 2, none⟩) hsz).trans c2, (hW.cell (p := ⟨w.heap.size + 2, 4, none⟩) hsz).trans c4⟩
        have HS := Lib.hid hS
        clear hS hyl hlen
        go_wp2_with fail
        clear c0 c1 c2 c3 c4
        refine wp_region_held_drew (S := fun W => W.cell? ⟨w.heap.size + 2, 0, none⟩ = some (.int .i64 (n0 : Nat)) ∧ W.cell? ⟨w.heap.size + 2, 1, none⟩ = some (.int .i64 (n1 : Nat)) ∧ W.cell? ⟨w.heap.size + 2, 2, none⟩ = some (.int .i64 (n2 : Nat)) ∧ W.cell? ⟨w.heap.size + 2, 4, none⟩ = some (.int .i64 (n4 : Nat))) (by kernel_rfl) (HS.out _ (Below.refl _ _).drew) (fun hHeld => ?_)
        refine wpAnyH_take (i := 0) (v := ?_) rfl (by kernel_rfl) (by kernel_rfl) (by kernel_rfl) (fun _ _ _ h => h) (Or.inl ⟨by rfl, ?_⟩) (by assumption) ?_
        rotate_left
        · simp only [List.getElem_toArray, List.getElem_cons_zero, List.getElem_cons_succ]; intro W hSw; (try dsimp only at hSw); go_simp; all_goals with_reducible rfl
        simp only [Act.put, List.getElem_toArray, List.getElem_cons_zero, List.getElem_cons_succ, List.setIfInBounds_toArray, List.set_cons_zero, List.set_cons_succ]
        refine wpAnyH_take (i := 1) (v := ?_) rfl (by kernel_rfl) (by kernel_rfl) (by kernel_rfl) (fun _ _ _ h => h) (Or.inl ⟨by rfl, ?_⟩) (by assumption) ?_
        rotate_left
        · simp only [List.getElem_toArray, List.getElem_cons_zero, List.getElem_cons_succ]; intro W hSw; (try dsimp only at hSw); go_simp; all_goals with_reducible rfl
        simp only [Act.put, List.getElem_toArray, List.getElem_cons_zero, List.getElem_cons_succ, List.setIfInBounds_toArray, List.set_cons_zero, List.set_cons_succ]
        refine wpAnyH_take (i := 2) (v := ?_) rfl (by kernel_rfl) (by kernel_rfl) (by kernel_rfl) (fun _ _ _ h => h) (Or.inl ⟨by rfl, ?_⟩) (by assumption) ?_
        rotate_left
        · simp only [List.getElem_toArray, List.getElem_cons_zero, List.getElem_cons_succ]; intro W hSw; (try dsimp only at hSw); go_simp; all_goals with_reducible rfl
        simp only [Act.put, List.getElem_toArray, List.getElem_cons_zero, List.getElem_cons_succ, List.setIfInBounds_toArray, List.set_cons_zero, List.set_cons_succ]
        refine wpAnyH_take (i := 3) (v := ?_) rfl (by kernel_rfl) (by kernel_rfl) (by kernel_rfl) (fun _ _ _ h => h) (Or.inl ⟨by rfl, ?_⟩) (by assumption) ?_
        rotate_left
        · simp only [List.getElem_toArray, List.getElem_cons_zero, List.getElem_cons_succ]; intro W hSw; (try dsimp only at hSw); go_simp; all_goals with_reducible rfl
        simp only [Act.put, List.getElem_toArray, List.getElem_cons_zero, List.getElem_cons_succ, List.setIfInBounds_toArray, List.set_cons_zero, List.set_cons_succ]
        refine wpAnyH_take (i := 4) (v := ?_) rfl (by kernel_rfl) (by kernel_rfl) (by kernel_rfl) (fun _ _ _ h => h) (Or.inl ⟨by rfl, ?_⟩) (by assumption) ?_
        rotate_left
        · simp only [List.getElem_toArray, List.getElem_cons_zero, List.getElem_cons_succ]; intro W hSw; (try dsimp only at hSw); go_simp; all_goals with_reducible rfl
        simp only [Act.put, List.getElem_toArray, List.getElem_cons_zero, List.getElem_cons_succ, List.setIfInBounds_toArray, List.set_cons_zero, List.set_cons_succ]
        refine wpAnyH_take (i := 5) (v := ?_) rfl (by kernel_rfl) (by kernel_rfl) (by kernel_rfl) (fun _ _ _ h => h) (Or.inl ⟨by rfl, ?_⟩) (by assumption) ?_
        rotate_left
        · simp only [List.getElem_toArray, List.getElem_cons_zero, List.getElem_cons_succ]; intro W hSw; (try dsimp only at hSw); go_simp; all_goals with_reducible rfl
        simp only [Act.put, List.getElem_toArray, List.getElem_cons_zero, List.getElem_cons_succ, List.setIfInBounds_toArray, List.set_cons_zero, List.set_cons_succ]
        refine wpAnyH_take (i := 6) (v := ?_) rfl (by kernel_rfl) (by kernel_rfl) (by kernel_rfl) (fun _ _ _ h => h) (Or.inl ⟨by rfl, ?_⟩) (by assumption) ?_
        rotate_left
        · simp only [List.getElem_toArray, List.getElem_cons_zero, List.getElem_cons_succ]; intro W hSw; (try dsimp only at hSw); go_simp; all_goals with_reducible rfl
        simp only [Act.put, List.getElem_toArray, List.getElem_cons_zero, List.getElem_cons_succ, List.setIfInBounds_toArray, List.set_cons_zero, List.set_cons_succ]
        refine wpAnyH_take (i := 7) (v := ?_) rfl (by kernel_rfl) (by kernel_rfl) (by kernel_rfl) (fun _ _ _ h => h) (Or.inl ⟨by rfl, ?_⟩) (by assumption) ?_
        rotate_left
        · simp only [List.getElem_toArray, List.getElem_cons_zero, List.getElem_cons_succ]; intro W hSw; (try dsimp only at hSw); go_simp; all_goals with_reducible rfl
        simp only [Act.put, List.getElem_toArray, List.getElem_cons_zero, List.getElem_cons_succ, List.setIfInBounds_toArray, List.set_cons_zero, List.set_cons_succ]
        refine wpAnyH_take (i := 8) (v := ?_) rfl (by kernel_rfl) (by kernel_rfl) (by kernel_rfl) (fun _ _ _ h => h) (Or.inl ⟨by rfl, ?_⟩) (by assumption) ?_
        rotate_left
        · simp only [List.getElem_toArray, List.getElem_cons_zero, List.getElem_cons_succ]; intro W hSw; (try dsimp only at hSw); go_simp; all_goals with_reducible rfl
        simp only [Act.put, List.getElem_toArray, List.getElem_cons_zero, List.getElem_cons_succ, List.setIfInBounds_toArray, List.set_cons_zero, List.set_cons_succ]
        refine wpAnyH_take (i := 9) (v := ?_) rfl (by kernel_rfl) (by kernel_rfl) (by kernel_rfl) (fun _ _ _ h => h) (Or.inl ⟨by rfl, ?_⟩) (by assumption) ?_
        rotate_left
        · simp only [List.getElem_toArray, List.getElem_cons_zero, List.getElem_cons_succ]; intro W hSw; (try dsimp only at hSw); go_simp; all_goals with_reducible rfl
        simp only [Act.put, List.getElem_toArray, List.getElem_cons_zero, List.getElem_cons_succ, List.setIfInBounds_toArray, List.set_cons_zero, List.set_cons_succ]
        refine wpAnyH_take (i := 10) (v := ?_) rfl (by kernel_rfl) (by kernel_rfl) (by kernel_rfl) (fun _ _ _ h => h) (Or.inl ⟨by rfl, ?_⟩) (by assumption) ?_
        rotate_left
        · simp only [List.getElem_toArray, List.getElem_cons_zero, List.getElem_cons_succ]; intro W hSw; (try dsimp only at hSw); go_simp; all_goals with_reducible rfl
        simp only [Act.put, List.getElem_toArray, List.getElem_cons_zero, List.getElem_cons_succ, List.setIfInBounds_toArray, List.set_cons_zero, List.set_cons_succ]
        refine wpAnyH_take (i := 11) (v := ?_) rfl (by kernel_rfl) (by kernel_rfl) (by kernel_rfl) (fun _ _ _ h => h) (Or.inl ⟨by rfl, ?_⟩) (by assumption) ?_
        rotate_left
        · simp only [List.getElem_toArray, List.getElem_cons_zero, List.getElem_cons_succ]; intro W hSw; (try dsimp only at hSw); go_simp; all_goals with_reducible rfl
        simp only [Act.put, List.getElem_toArray, List.getElem_cons_zero, List.getElem_cons_succ, List.setIfInBounds_toArray, List.set_cons_zero, List.set_cons_succ]
        refine wpAnyH_take (i := 12) (v := ?_) rfl (by kernel_rfl) (by kernel_rfl) (by kernel_rfl) (fun _ _ _ h => h) (Or.inl ⟨by rfl, ?_⟩) (by assumption) ?_
        rotate_left
        · simp only [List.getElem_toArray, List.getElem_cons_zero, List.getElem_cons_succ]; intro W hSw; (try dsimp only at hSw); go_simp; all_goals with_reducible rfl
        simp only [Act.put, List.getElem_toArray, List.getElem_cons_zero, List.getElem_cons_succ, List.setIfInBounds_toArray, List.set_cons_zero, List.set_cons_succ]
        refine wpAnyH_take (i := 13) (v := ?_) rfl (by kernel_rfl) (by kernel_rfl) (by kernel_rfl) (fun _ _ _ h => h) (Or.inl ⟨by rfl, ?_⟩) (by assumption) ?_
        rotate_left
        · simp only [List.getElem_toArray, List.getElem_cons_zero, List.getElem_cons_succ]; intro W hSw; (try dsimp only at hSw); go_simp; all_goals with_reducible rfl
        simp only [Act.put, List.getElem_toArray, List.getElem_cons_zero, List.getElem_cons_succ, List.setIfInBounds_toArray, List.set_cons_zero, List.set_cons_succ]
        refine wpAnyH_take (i := 14) (v := ?_) rfl (by kernel_rfl) (by kernel_rfl) (by kernel_rfl) (fun _ _ _ h => h) (Or.inl ⟨by rfl, ?_⟩) (by assumption) ?_
        rotate_left
        · simp only [List.getElem_toArray, List.getElem_cons_zero, List.getElem_cons_succ]; intro W hSw; (try dsimp only at hSw); go_simp; all_goals with_reducible rfl
        simp only [Act.put, List.getElem_toArray, List.getElem_cons_zero, List.getElem_cons_succ, List.setIfInBounds_toArray, List.set_cons_zero, List.set_cons_succ]
        refine wpAnyH_take (i := 15) (v := ?_) rfl (by kernel_rfl) (by kernel_rfl) (by kernel_rfl) (fun _ _ _ h => h) (Or.inl ⟨by rfl, ?_⟩) (by assumption) ?_
        rotate_left
        · simp only [List.getElem_toArray, List.getElem_cons_zero, List.getElem_cons_succ]; intro W hSw; (try dsimp only at hSw); go_simp; all_goals with_reducible rfl
        simp only [Act.put, List.getElem_toArray, List.getElem_cons_zero, List.getElem_cons_succ, List.setIfInBounds_toArray, List.set_cons_zero, List.set_cons_succ]
        refine wpAnyH_take (i := 16) (v := ?_) rfl (by kernel_rfl) (by kernel_rfl) (by kernel_rfl) (fun _ _ _ h => h) (Or.inl ⟨by rfl, ?_⟩) (by assumption) ?_
        rotate_left
        · simp only [List.getElem_toArray, List.getElem_cons_zero, List.getElem_cons_succ]; intro W hSw; (try dsimp only at hSw); go_simp; all_goals with_reducible rfl
        simp only [Act.put, List.getElem_toArray, List.getElem_cons_zero, List.getElem_cons_succ, List.setIfInBounds_toArray, List.set_cons_zero, List.set_cons_succ]
        refine wpAnyH_ready (rs := [17]) (by kernel_rfl) (by simp) ?_
        refine AllReadyH.cons rfl (fun K hK => ?_) AllReadyH.nil
        simp only [List.getElem_toArray, List.getElem_cons_zero, List.getElem_cons_succ]
        go_simp
        refine HLoad.out.mono ?_
        rintro e w5 ⟨rfl, hy5, hs5, hb5⟩
        have hb35 : Below wr.heap.size wr w5 := (Below.refl _ _).drew.trans hb5
        go_wp2_with fail
        refine hK.out _ _ (HS.out _ hb35) (fun hHeldN => ?_)
        clear hK K hHeld
        have hHeld := hHeldN
        clear hHeldN
        (try simp only [Act.put, List.getElem_toArray, List.getElem_cons_zero, List.getElem_cons_succ, List.setIfInBounds_toArray, List.set_cons_zero, List.set_cons_succ])
        refine wpAnyH_take (i := 18) (v := ?_) rfl (by kernel_rfl) (by kernel_rfl) (by kernel_rfl) (fun _ _ _ h => h) (Or.inl ⟨by rfl, ?_⟩) (by assumption) ?_
        rotate_left
        · simp only [List.getElem_toArray, List.getElem_cons_zero, List.getElem_cons_succ]; intro W hSw; (try dsimp only at hSw); go_simp; all_goals with_reducible rfl
        simp only [Act.put, List.getElem_toArray, List.getElem_cons_zero, List.getElem_cons_succ, List.setIfInBounds_toArray, List.set_cons_zero, List.set_cons_succ]
        refine wpAnyH_ready (rs := [19]) (by kernel_rfl) (by simp) ?_
        refine AllReadyH.cons rfl (fun K hK => ?_) AllReadyH.nil
        simp only [List.getElem_toArray, List.getElem_cons_zero, List.getElem_cons_succ]
        have G5 := Lib.hid ((hb35.block (w.heap.size + 1) (by omega)).trans ((HB.out.block (w.heap.size + 1) (by omega)).trans G1.out))
        obtain ⟨xs, hxs⟩ : ∃ xs, xs = frv (some ⟨wr.heap.size, 0, none⟩) 0 (frameOf bs) := ⟨_, rfl⟩
        have HX := Lib.hid hxs
        have XS := Lib.hid (hxs.trans HO2.out)
        have XL := Lib.hid (show xs.length = 6 by rw [hxs]; rfl)
        have X1 := Lib.hid (show ∀ v ∈ xs, v.oneCell' = true by rw [hxs]; exact frv_one _ _ _)
        clear hxs HO2
        have H6 := Lib.hid (setRow_heap w5 (w.heap.size + 1) _ ([] ++ xs ++ []).toArray _ _ G5.out)
        have HG6 := Lib.hid (grown_setRow w5 (w.heap.size + 1) ([] ++ xs ++ []).toArray)
        rw [if_pos (by rfl)]
        refine wp_store_part 54 (.tmp 2) (.tmp 49) rfl (w.heap.size + 1) 0 rfl xs (by rw [XS.out]; rfl) 54 [] [.int .i64 0, .int .i64 0, .int .i64 0, .int .i64 0, .int .u32 0, .slice none 0 0] [] G5.out rfl (by rw [XL.out]; rfl) (by rw [XL.out]; kernel_rfl) X1.out ?_
        generalize w5.setRow (w.heap.size + 1) ([] ++ xs ++ []).toArray = w6 at *
        have hB35 := Lib.hid hb35
        have cx := HG6.out.block (w.heap.size + 2) (by have := hb35.size; omega) (by simp)
        have hcell : ∀ j, w6.cell? ⟨w.heap.size + 2, j, none⟩ = w5.cell? ⟨w.heap.size + 2, j, none⟩ := fun j => World.cell?_of_block (w := w5) cx
        refine hK.out _ _ (⟨(hcell 0).trans hHeld.1, (hcell 1).trans hHeld.2.1, (hcell 2).trans hHeld.2.2.1, (hcell 4).trans hHeld.2.2.2⟩) (fun hHeldN => ?_)
        clear hK K hHeld
        have hHeld := hHeldN
        clear hHeldN
        (try simp only [Act.put, List.getElem_toArray, List.getElem_cons_zero, List.getElem_cons_succ, List.setIfInBounds_toArray, List.set_cons_zero, List.set_cons_succ])
        refine wpAnyH_done (by kernel_rfl) ?_ _
        have HI := Lib.hid (show (Tryd.prog.info? 54).map (·.size) = some ([] ++ xs ++ []).toArray.size by simp only [List.nil_append, List.append_nil, List.size_toArray, XL.out]; kernel_rfl)
        have hbw : Below w.heap.size w w6 := (GB.out.trans ((HB.out.trans (hB35.out.mono (by omega))).mono (by omega))).grown HG6.out (by have := hB35.out.size; omega) (fun k e => by cases e; omega)
        have hy6 : By w6 w6.heap.size (some ⟨wr.heap.size, 0, none⟩) (frameOf bs).load := by
          rw [HLo.out]
          exact (By.only (hy5.mono (show wr.heap.size + 1 ≤ w5.heap.size from hs5)) (Nat.le_refl _) HG6.out (fun b e => by cases e; show wr.heap.size ≠ w.heap.size + 1; omega)).mono HG6.out.size
        have hv : FrV w6 w6.heap.size (frv (some ⟨wr.heap.size, 0, none⟩) 0 (frameOf bs)) (frameOf bs) := ⟨_, _, rfl, hy6, by rw [HLo.out, HLen.out]; exact Nat.le_refl _, by unfold maxLen; omega, (fun e => by cases e), HFi.out⟩
        have HVv := Lib.hid hv
        have HBw := Lib.hid hbw
        have Hfresh := Lib.hid (show w.heap.size ≤ wr.heap.size by omega)
        clear hv hbw hy6 cx hcell hHeld hy5 hs5 hb5 hb35
        go_wp2
        refine bodyPost_ret (results_cell_row rfl _ _ (w.heap.size + 1) 54 _ (0, 0) _ rfl H6.out Tryd.underlying54 rfl HI.out) rfl ⟨some ⟨wr.heap.size, 0, none⟩, 0, ?_, HVv.out, HBw.out, fun b e => by cases e; exact Hfresh.out⟩
        rw [HX.out]
        simp
      · by_cases h45 : n3 ≤ 45
        · obtain ⟨z, hz⟩ : ∃ z : Nat, (15 : Int) + (n3 : Int) = (z : Int) := ⟨15 + n3, by omega⟩
          have hr : z - 15 = n3 := by omega
          have hr2 : ¬ z = 15 := by omega
          have hr3 : ¬ 15 = z := by omega
          have hr4 : (15 : Int) ≤ (z : Int) := by omega
          have hr5 : (z : Int) ≤ 64 := by omega
          have hr6 : 15 ≤ z := by omega
          have hr7 : z ≤ 64 := by omega
          have hi45 : (n3 : Int) ≤ 45 := by omega
          have hlen : ((bs.drop 15).take n3).length = n3 := by rw [List.length_take, List.length_drop, HL.out]; omega
          have hyl : By wr wr.heap.size (some ⟨w.heap.size, 15, none⟩) ((bs.drop 15).take n3) := part_by HY.out n3 (by omega)
          have HLoad := Lib.hid (load_any ((bs.drop 15).take n3) (some ⟨w.heap.size, 15, none⟩) ((bs.drop 15).take n3).length wr.drew hyl.drew (by rw [hlen]; omega))
          rw [hlen] at HLoad
          have HO2 := Lib.hid (show frv (some ⟨wr.heap.size, 0, none⟩) n3 (frameOf bs) = [.int .i64 (n0 : Nat), .int .i64 (n1 : Nat), .int .i64 ((n2 : Int) / 16), .int .i64 (n2 % 16 : Nat), .int .u32 (n4 : Nat), .slice (some ⟨wr.heap.size, 0, none⟩) n3 n3] by
            rw [HO.out]
            unfold frv
            dsimp only
            rw [show min n3 45 = n3 by omega, hlen]
            rfl)
          have HLo := Lib.hid (show (frameOf bs).load = (bs.drop 15).take n3 by rw [HO.out]; dsimp only; rw [show min n3 45 = n3 by omega])
          have HLen := Lib.hid hlen
          have hS : ∀ W, Below wr.heap.size wr W → W.cell? ⟨w.heap.size + 2, 0, none⟩ = some (.int .i64 (n0 : Nat)) ∧ W.cell? ⟨w.heap.size + 2, 1, none⟩ = some (.int .i64 (n1 : Nat)) ∧ W.cell? ⟨w.heap.size + 2, 2, none⟩ = some (.int .i64 (n2 : Nat)) ∧ W.cell? ⟨w.heap.size + 2, 4, none⟩ = some (.int .i64 (n4 : Nat)) := fun W hW =>
            ⟨(hW.cell (p := ⟨w.heap.size + 2, 0, none⟩) hsz).trans c0, (hW.cell (p := ⟨w.heap.size + 2, 1, none⟩) hsz).trans c1, (hW.cell (p := ⟨w.heap.size + 2, 2, none⟩) hsz).trans c2, (hW.cell (p := ⟨w.heap.size + 2, 4, none⟩) hsz).trans c4⟩
          have HS := Lib.hid hS
          clear hS hyl hlen
          go_wp2_with fail
          clear c0 c1 c2 c3 c4
          refine wp_region_held_drew (S := fun W => W.cell? ⟨w.heap.size + 2, 0, none⟩ = some (.int .i64 (n0 : Nat)) ∧ W.cell? ⟨w.heap.size + 2, 1, none⟩ = some (.int .i64 (n1 : Nat)) ∧ W.cell? ⟨w.heap.size + 2, 2, none⟩ = some (.int .i64 (n2 : Nat)) ∧ W.cell? ⟨w.heap.size + 2, 4, none⟩ = some (.int .i64 (n4 : Nat))) (by kernel_rfl) (HS.out _ (Below.refl _ _).drew) (fun hHeld => ?_)
          refine wpAnyH_take (i := 0) (v := ?_) rfl (by kernel_rfl) (by kernel_rfl) (by kernel_rfl) (fun _ _ _ h => h) (Or.inl ⟨by rfl, ?_⟩) (by assumption) ?_
          rotate_left
          · simp only [List.getElem_toArray, List.getElem_cons_zero, List.getElem_cons_succ]; intro W hSw; (try dsimp only at hSw); go_simp; all_goals with_reducible rfl
          simp only [Act.put, List.getElem_toArray, List.getElem_cons_zero, List.getElem_cons_succ, List.setIfInBounds_toArray, List.set_cons_zero, List.set_cons_succ]
          refine wpAnyH_take (i := 1) (v := ?_) rfl (by kernel_rfl) (by kernel_rfl) (by kernel_rfl) (fun _ _ _ h => h) (Or.inl ⟨by rfl, ?_⟩) (by assumption) ?_
          rotate_left
          · simp only [List.getElem_toArray, List.getElem_cons_zero, List.getElem_cons_succ]; intro W hSw; (try dsimp only at hSw); go_simp; all_goals with_reducible rfl
          simp only [Act.put, List.getElem_toArray, List.getElem_cons_zero, List.getElem_cons_succ, List.setIfInBounds_toArray, List.set_cons_zero, List.set_cons_succ]
          refine wpAnyH_take (i := 2) (v := ?_) rfl (by kernel_rfl) (by kernel_rfl) (by kernel_rfl) (fun _ _ _ h => h) (Or.inl ⟨by rfl, ?_⟩) (by assumption) ?_
          rotate_left
          · simp only [List.getElem_toArray, List.getElem_cons_zero, List.getElem_cons_succ]; intro W hSw; (try dsimp only at hSw); go_simp; all_goals with_reducible rfl
          simp only [Act.put, List.getElem_toArray, List.getElem_cons_zero, List.getElem_cons_succ, List.setIfInBounds_toArray, List.set_cons_zero, List.set_cons_succ]
          refine wpAnyH_take (i := 3) (v := ?_) rfl (by kernel_rfl) (by kernel_rfl) (by kernel_rfl) (fun _ _ _ h => h) (Or.inl ⟨by rfl, ?_⟩) (by assumption) ?_
          rotate_left
          · simp only [List.getElem_toArray, List.getElem_cons_zero, List.getElem_cons_succ]; intro W hSw; (try dsimp only at hSw); go_simp; all_goals with_reducible rfl
          simp only [Act.put, List.getElem_toArray, List.getElem_cons_zero, List.getElem_cons_succ, List.setIfInBounds_toArray, List.set_cons_zero, List.set_cons_succ]
          refine wpAnyH_take (i := 4) (v := ?_) rfl (by kernel_rfl) (by kernel_rfl) (by kernel_rfl) (fun _ _ _ h => h) (Or.inl ⟨by rfl, ?_⟩) (by assumption) ?_
          rotate_left
          · simp only [List.getElem_toArray, List.getElem_cons_zero, List.getElem_cons_succ]; intro W hSw; (try dsimp only at hSw); go_simp; all_goals with_reducible rfl
          simp only [Act.put, List.getElem_toArray, List.getElem_cons_zero, List.getElem_cons_succ, List.setIfInBounds_toArray, List.set_cons_zero, List.set_cons_succ]
          refine wpAnyH_take (i := 5) (v := ?_) rfl (by kernel_rfl) (by kernel_rfl) (by kernel_rfl) (fun _ _ _ h => h) (Or.inl ⟨by rfl, ?_⟩) (by assumption) ?_
          rotate_left
          · simp only [List.getElem_toArray, List.getElem_cons_zero, List.getElem_cons_succ]; intro W hSw; (try dsimp only at hSw); go_simp; all_goals with_reducible rfl
          simp only [Act.put, List.getElem_toArray, List.getElem_cons_zero, List.getElem_cons_succ, List.setIfInBounds_toArray, List.set_cons_zero, List.set_cons_succ]
          refine wpAnyH_take (i := 6) (v := ?_) rfl (by kernel_rfl) (by kernel_rfl) (by kernel_rfl) (fun _ _ _ h => h) (Or.inl ⟨by rfl, ?_⟩) (by assumption) ?_
          rotate_left
          · simp only [List.getElem_toArray, List.getElem_cons_zero, List.getElem_cons_succ]; intro W hSw; (try dsimp only at hSw); go_simp; all_goals with_reducible rfl
          simp only [Act.put, List.getElem_toArray, List.getElem_cons_zero, List.getElem_cons_succ, List.setIfInBounds_toArray, List.set_cons_zero, List.set_cons_succ]
          refine wpAnyH_take (i := 7) (v := ?_) rfl (by kernel_rfl) (by kernel_rfl) (by kernel_rfl) (fun _ _ _ h => h) (Or.inl ⟨by rfl, ?_⟩) (by assumption) ?_
          rotate_left
          · simp only [List.getElem_toArray, List.getElem_cons_zero, List.getElem_cons_succ]; intro W hSw; (try dsimp only at hSw); go_simp; all_goals with_reducible rfl
          simp only [Act.put, List.getElem_toArray, List.getElem_cons_zero, List.getElem_cons_succ, List.setIfInBounds_toArray, List.set_cons_zero, List.set_cons_succ]
          refine wpAnyH_take (i := 8) (v := ?_) rfl (by kernel_rfl) (by kernel_rfl) (by kernel_rfl) (fun _ _ _ h => h) (Or.inl ⟨by rfl, ?_⟩) (by assumption) ?_
          rotate_left
          · simp only [List.getElem_toArray, List.getElem_cons_zero, List.getElem_cons_succ]; intro W hSw; (try dsimp only at hSw); go_simp; all_goals with_reducible rfl
          simp only [Act.put, List.getElem_toArray, List.getElem_cons_zero, List.getElem_cons_succ, List.setIfInBounds_toArray, List.set_cons_zero, List.set_cons_succ]
          refine wpAnyH_take (i := 9) (v := ?_) rfl (by kernel_rfl) (by kernel_rfl) (by kernel_rfl) (fun _ _ _ h => h) (Or.inl ⟨by rfl, ?_⟩) (by assumption) ?_
          rotate_left
          · simp only [List.getElem_toArray, List.getElem_cons_zero, List.getElem_cons_succ]; intro W hSw; (try dsimp only at hSw); go_simp; all_goals with_reducible rfl
          simp only [Act.put, List.getElem_toArray, List.getElem_cons_zero, List.getElem_cons_succ, List.setIfInBounds_toArray, List.set_cons_zero, List.set_cons_succ]
          refine wpAnyH_take (i := 10) (v := ?_) rfl (by kernel_rfl) (by kernel_rfl) (by kernel_rfl) (fun _ _ _ h => h) (Or.inl ⟨by rfl, ?_⟩) (by assumption) ?_
          rotate_left
          · simp only [List.getElem_toArray, List.getElem_cons_zero, List.getElem_cons_succ]; intro W hSw; (try dsimp only at hSw); go_simp; all_goals with_reducible rfl
          simp only [Act.put, List.getElem_toArray, List.getElem_cons_zero, List.getElem_cons_succ, List.setIfInBounds_toArray, List.set_cons_zero, List.set_cons_succ]
          refine wpAnyH_take (i := 11) (v := ?_) rfl (by kernel_rfl) (by kernel_rfl) (by kernel_rfl) (fun _ _ _ h => h) (Or.inl ⟨by rfl, ?_⟩) (by assumption) ?_
          rotate_left
          · simp only [List.getElem_toArray, List.getElem_cons_zero, List.getElem_cons_succ]; intro W hSw; (try dsimp only at hSw); go_simp; all_goals with_reducible rfl
          simp only [Act.put, List.getElem_toArray, List.getElem_cons_zero, List.getElem_cons_succ, List.setIfInBounds_toArray, List.set_cons_zero, List.set_cons_succ]
          refine wpAnyH_take (i := 12) (v := ?_) rfl (by kernel_rfl) (by kernel_rfl) (by kernel_rfl) (fun _ _ _ h => h) (Or.inl ⟨by rfl, ?_⟩) (by assumption) ?_
          rotate_left
          · simp only [List.getElem_toArray, List.getElem_cons_zero, List.getElem_cons_succ]; intro W hSw; (try dsimp only at hSw); go_simp; all_goals with_reducible rfl
          simp only [Act.put, List.getElem_toArray, List.getElem_cons_zero, List.getElem_cons_succ, List.setIfInBounds_toArray, List.set_cons_zero, List.set_cons_succ]
          refine wpAnyH_take (i := 13) (v := ?_) rfl (by kernel_rfl) (by kernel_rfl) (by kernel_rfl) (fun _ _ _ h => h) (Or.inl ⟨by rfl, ?_⟩) (by assumption) ?_
          rotate_left
          · simp only [List.getElem_toArray, List.getElem_cons_zero, List.getElem_cons_succ]; intro W hSw; (try dsimp only at hSw); go_simp; all_goals with_reducible rfl
          simp only [Act.put, List.getElem_toArray, List.getElem_cons_zero, List.getElem_cons_succ, List.setIfInBounds_toArray, List.set_cons_zero, List.set_cons_succ]
          refine wpAnyH_take (i := 14) (v := ?_) rfl (by kernel_rfl) (by kernel_rfl) (by kernel_rfl) (fun _ _ _ h => h) (Or.inl ⟨by rfl, ?_⟩) (by assumption) ?_
          rotate_left
          · simp only [List.getElem_toArray, List.getElem_cons_zero, List.getElem_cons_succ]; intro W hSw; (try dsimp only at hSw); go_simp; all_goals with_reducible rfl
          simp only [Act.put, List.getElem_toArray, List.getElem_cons_zero, List.getElem_cons_succ, List.setIfInBounds_toArray, List.set_cons_zero, List.set_cons_succ]
          refine wpAnyH_take (i := 15) (v := ?_) rfl (by kernel_rfl) (by kernel_rfl) (by kernel_rfl) (fun _ _ _ h => h) (Or.inl ⟨by rfl, ?_⟩) (by assumption) ?_
          rotate_left
          · simp only [List.getElem_toArray, List.getElem_cons_zero, List.getElem_cons_succ]; intro W hSw; (try dsimp only at hSw); go_simp; all_goals with_reducible rfl
          simp only [Act.put, List.getElem_toArray, List.getElem_cons_zero, List.getElem_cons_succ, List.setIfInBounds_toArray, List.set_cons_zero, List.set_cons_succ]
          refine wpAnyH_take (i := 16) (v := ?_) rfl (by kernel_rfl) (by kernel_rfl) (by kernel_rfl) (fun _ _ _ h => h) (Or.inl ⟨by rfl, ?_⟩) (by assumption) ?_
          rotate_left
          · simp only [List.getElem_toArray, List.getElem_cons_zero, List.getElem_cons_succ]; intro W hSw; (try dsimp only at hSw); go_simp; all_goals with_reducible rfl
          simp only [Act.put, List.getElem_toArray, List.getElem_cons_zero, List.getElem_cons_succ, List.setIfInBounds_toArray, List.set_cons_zero, List.set_cons_succ]
          refine wpAnyH_ready (rs := [17]) (by kernel_rfl) (by simp) ?_
          refine AllReadyH.cons rfl (fun K hK => ?_) AllReadyH.nil
          simp only [List.getElem_toArray, List.getElem_cons_zero, List.getElem_cons_succ]
          go_simp
          refine HLoad.out.mono ?_
          rintro e w5 ⟨rfl, hy5, hs5, hb5⟩
          have hb35 : Below wr.heap.size wr w5 := (Below.refl _ _).drew.trans hb5
          go_wp2_with fail
          refine hK.out _ _ (HS.out _ hb35) (fun hHeldN => ?_)
          clear hK K hHeld
          have hHeld := hHeldN
          clear hHeldN
          (try simp only [Act.put, List.getElem_toArray, List.getElem_cons_zero, List.getElem_cons_succ, List.setIfInBounds_toArray, List.set_cons_zero, List.set_cons_succ])
          refine wpAnyH_take (i := 18) (v := ?_) rfl (by kernel_rfl) (by kernel_rfl) (by kernel_rfl) (fun _ _ _ h => h) (Or.inl ⟨by rfl, ?_⟩) (by assumption) ?_
          rotate_left
          · simp only [List.getElem_toArray, List.getElem_cons_zero, List.getElem_cons_succ]; intro W hSw; (try dsimp only at hSw); go_simp; all_goals with_reducible rfl
          simp only [Act.put, List.getElem_toArray, List.getElem_cons_zero, List.getElem_cons_succ, List.setIfInBounds_toArray, List.set_cons_zero, List.set_cons_succ]
          refine wpAnyH_ready (rs := [19]) (by kernel_rfl) (by simp) ?_
          refine AllReadyH.cons rfl (fun K hK => ?_) AllReadyH.nil
          simp only [List.getElem_toArray, List.getElem_cons_zero, List.getElem_cons_succ]
          have G5 := Lib.hid ((hb35.block (w.heap.size + 1) (by omega)).trans ((HB.out.block (w.heap.size + 1) (by omega)).trans G1.out))
          obtain ⟨xs, hxs⟩ : ∃ xs, xs = frv (some ⟨wr.heap.size, 0, none⟩) n3 (frameOf bs) := ⟨_, rfl⟩
          have HX := Lib.hid hxs
          have XS := Lib.hid (hxs.trans HO2.out)
          have XL := Lib.hid (show xs.length = 6 by rw [hxs]; rfl)
          have X1 := Lib.hid (show ∀ v ∈ xs, v.oneCell' = true by rw [hxs]; exact frv_one _ _ _)
          clear hxs HO2
          have H6 := Lib.hid (setRow_heap w5 (w.heap.size + 1) _ ([] ++ xs ++ []).toArray _ _ G5.out)
          have HG6 := Lib.hid (grown_setRow w5 (w.heap.size + 1) ([] ++ xs ++ []).toArray)
          rw [if_pos (by rfl)]
          refine wp_store_part 54 (.tmp 2) (.tmp 49) rfl (w.heap.size + 1) 0 rfl xs (by rw [XS.out]; rfl) 54 [] [.int .i64 0, .int .i64 0, .int .i64 0, .int .i64 0, .int .u32 0, .slice none 0 0] [] G5.out rfl (by rw [XL.out]; rfl) (by rw [XL.out]; kernel_rfl) X1.out ?_
          generalize w5.setRow (w.heap.size + 1) ([] ++ xs ++ []).toArray = w6 at *
          have hB35 := Lib.hid hb35
          have cx := HG6.out.block (w.heap.size + 2) (by have := hb35.size; omega) (by simp)
          have hcell : ∀ j, w6.cell? ⟨w.heap.size + 2, j, none⟩ = w5.cell? ⟨w.heap.size + 2, j, none⟩ := fun j => World.cell?_of_block (w := w5) cx
          refine hK.out _ _ (⟨(hcell 0).trans hHeld.1, (hcell 1).trans hHeld.2.1, (hcell 2).trans hHeld.2.2.1, (hcell 4).trans hHeld.2.2.2⟩) (fun hHeldN => ?_)
          clear hK K hHeld
          have hHeld := hHeldN
          clear hHeldN
          (try simp only [Act.put, List.getElem_toArray, List.getElem_cons_zero, List.getElem_cons_succ, List.setIfInBounds_toArray, List.set_cons_zero, List.set_cons_succ])
          refine wpAnyH_done (by kernel_rfl) ?_ _
          have HI := Lib.hid (show (Tryd.prog.info? 54).map (·.size) = some ([] ++ xs ++ []).toArray.size by simp only [List.nil_append, List.append_nil, List.size_toArray, XL.out]; kernel_rfl)
          have hbw : Below w.heap.size w w6 := (GB.out.trans ((HB.out.trans (hB35.out.mono (by omega))).mono (by omega))).grown HG6.out (by have := hB35.out.size; omega) (fun k e => by cases e; omega)
          have hy6 : By w6 w6.heap.size (some ⟨wr.heap.size, 0, none⟩) (frameOf bs).load := by
            rw [HLo.out]
            exact (By.only (hy5.mono (show wr.heap.size + 1 ≤ w5.heap.size from hs5)) (Nat.le_refl _) HG6.out (fun b e => by cases e; show wr.heap.size ≠ w.heap.size + 1; omega)).mono HG6.out.size
          have hv : FrV w6 w6.heap.size (frv (some ⟨wr.heap.size, 0, none⟩) n3 (frameOf bs)) (frameOf bs) := ⟨_, _, rfl, hy6, by rw [HLo.out, HLen.out]; exact Nat.le_refl _, by unfold maxLen; omega, (fun e => by cases e), HFi.out⟩
          have HVv := Lib.hid hv
          have HBw := Lib.hid hbw
          have Hfresh := Lib.hid (show w.heap.size ≤ wr.heap.size by omega)
          clear hv hbw hy6 cx hcell hHeld hy5 hs5 hb5 hb35
          go_wp2
          refine bodyPost_ret (results_cell_row rfl _ _ (w.heap.size + 1) 54 _ (0, 0) _ rfl H6.out Tryd.underlying54 rfl HI.out) rfl ⟨some ⟨wr.heap.size, 0, none⟩, n3, ?_, HVv.out, HBw.out, fun b e => by cases e; exact Hfresh.out⟩
          rw [HX.out]
          simp
        · have hi45 : ¬ (n3 : Int) ≤ 45 := by omega
          have hlen : ((bs.drop 15).take 45).length = 45 := by rw [List.length_take, List.length_drop, HL.out]; omega
          have hyl : By wr wr.heap.size (some ⟨w.heap.size, 15, none⟩) ((bs.drop 15).take 45) := part_by HY.out 45 (by have := HL.out; omega)
          have HLoad := Lib.hid (load_any ((bs.drop 15).take 45) (some ⟨w.heap.size, 15, none⟩) ((bs.drop 15).take 45).length wr.drew hyl.drew (by rw [hlen]; omega))
          rw [hlen] at HLoad
          have HO2 := Lib.hid (show frv (some ⟨wr.heap.size, 0, none⟩) 45 (frameOf bs) = [.int .i64 (n0 : Nat), .int .i64 (n1 : Nat), .int .i64 ((n2 : Int) / 16), .int .i64 (n2 % 16 : Nat), .int .u32 (n4 : Nat), .slice (some ⟨wr.heap.size, 0, none⟩) 45 45] by
            rw [HO.out]
            unfold frv
            dsimp only
            rw [show min n3 45 = 45 by omega, hlen]
            rfl)
          have HLo := Lib.hid (show (frameOf bs).load = (bs.drop 15).take 45 by rw [HO.out]; dsimp only; rw [show min n3 45 = 45 by omega])
          have HLen := Lib.hid hlen
          have hS : ∀ W, Below wr.heap.size wr W → W.cell? ⟨w.heap.size + 2, 0, none⟩ = some (.int .i64 (n0 : Nat)) ∧ W.cell? ⟨w.heap.size + 2, 1, none⟩ = some (.int .i64 (n1 : Nat)) ∧ W.cell? ⟨w.heap.size + 2, 2, none⟩ = some (.int .i64 (n2 : Nat)) ∧ W.cell? ⟨w.heap.size + 2, 4, none⟩ = some (.int .i64 (n4 : Nat)) := fun W hW =>
            ⟨(hW.cell (p := ⟨w.heap.size + 2, 0, none⟩) hsz).trans c0, (hW.cell (p := ⟨w.heap.size + 2, 1, none⟩) hsz).trans c1, (hW.cell (p := ⟨w.heap.size + 2, 2, none⟩) hsz).trans c2, (hW.cell (p := ⟨w.heap.size + 2, 4, none⟩) hsz).trans c4⟩
          have HS := Lib.hid hS
          clear hS hyl hlen
          go_wp2_with fail
          clear c0 c1 c2 c3 c4
          refine wp_region_held_drew (S := fun W => W.cell? ⟨w.heap.size + 2, 0, none⟩ = some (.int .i64 (n0 : Nat)) ∧ W.cell? ⟨w.heap.size + 2, 1, none⟩ = some (.int .i64 (n1 : Nat)) ∧ W.cell? ⟨w.heap.size + 2, 2, none⟩ = some (.int .i64 (n2 : Nat)) ∧ W.cell? ⟨w.heap.size + 2, 4, none⟩ = some (.int .i64 (n4 : Nat))) (by kernel_rfl) (HS.out _ (Below.refl _ _).drew) (fun hHeld => ?_)
          refine wpAnyH_take (i := 0) (v := ?_) rfl (by kernel_rfl) (by kernel_rfl) (by kernel_rfl) (fun _ _ _ h => h) (Or.inl ⟨by rfl, ?_⟩) (by assumption) ?_
          rotate_left
          · simp only [List.getElem_toArray, List.getElem_cons_zero, List.getElem_cons_succ]; intro W hSw; (try dsimp only at hSw); go_simp; all_goals with_reducible rfl
          simp only [Act.put, List.getElem_toArray, List.getElem_cons_zero, List.getElem_cons_succ, List.setIfInBounds_toArray, List.set_cons_zero, List.set_cons_succ]
          refine wpAnyH_take (i := 1) (v := ?_) rfl (by kernel_rfl) (by kernel_rfl) (by kernel_rfl) (fun _ _ _ h => h) (Or.inl ⟨by rfl, ?_⟩) (by assumption) ?_
          rotate_left
          · simp only [List.getElem_toArray, List.getElem_cons_zero, List.getElem_cons_succ]; intro W hSw; (try dsimp only at hSw); go_simp; all_goals with_reducible rfl
          simp only [Act.put, List.getElem_toArray, List.getElem_cons_zero, List.getElem_cons_succ, List.setIfInBounds_toArray, List.set_cons_zero, List.set_cons_succ]
          refine wpAnyH_take (i := 2) (v := ?_) rfl (by kernel_rfl) (by kernel_rfl) (by kernel_rfl) (fun _ _ _ h => h) (Or.inl ⟨by rfl, ?_⟩) (by assumption) ?_
          rotate_left
          · simp only [List.getElem_toArray, List.getElem_cons_zero, List.getElem_cons_succ]; intro W hSw; (try dsimp only at hSw); go_simp; all_goals with_reducible rfl
          simp only [Act.put, List.getElem_toArray, List.getElem_cons_zero, List.getElem_cons_succ, List.setIfInBounds_toArray, List.set_cons_zero, List.set_cons_succ]
          refine wpAnyH_take (i := 3) (v := ?_) rfl (by kernel_rfl) (by kernel_rfl) (by kernel_rfl) (fun _ _ _ h => h) (Or.inl ⟨by rfl, ?_⟩) (by assumption) ?_
          rotate_left
          · simp only [List.getElem_toArray, List.getElem_cons_zero, List.getElem_cons_succ]; intro W hSw; (try dsimp only at hSw); go_simp; all_goals with_reducible rfl
          simp only [Act.put, List.getElem_toArray, List.getElem_cons_zero, List.getElem_cons_succ, List.setIfInBounds_toArray, List.set_cons_zero, List.set_cons_succ]
          refine wpAnyH_take (i := 4) (v := ?_) rfl (by kernel_rfl) (by kernel_rfl) (by kernel_rfl) (fun _ _ _ h => h) (Or.inl ⟨by rfl, ?_⟩) (by assumption) ?_
          rotate_left
          · simp only [List.getElem_toArray, List.getElem_cons_zero, List.getElem_cons_succ]; intro W hSw; (try dsimp only at hSw); go_simp; all_goals with_reducible rfl
          simp only [Act.put, List.getElem_toArray, List.getElem_cons_zero, List.getElem_cons_succ, List.setIfInBounds_toArray, List.set_cons_zero, List.set_cons_succ]
          refine wpAnyH_take (i := 5) (v := ?_) rfl (by kernel_rfl) (by kernel_rfl) (by kernel_rfl) (fun _ _ _ h => h) (Or.inl ⟨by rfl, ?_⟩) (by assumption) ?_
          rotate_left
          · simp only [List.getElem_toArray, List.getElem_cons_zero, List.getElem_cons_succ]; intro W hSw; (try dsimp only at hSw); go_simp; all_goals with_reducible rfl
          simp only [Act.put, List.getElem_toArray, List.getElem_cons_zero, List.getElem_cons_succ, List.setIfInBounds_toArray, List.set_cons_zero, List.set_cons_succ]
          refine wpAnyH_take (i := 6) (v := ?_) rfl (by kernel_rfl) (by kernel_rfl) (by kernel_rfl) (fun _ _ _ h => h) (Or.inl ⟨by rfl, ?_⟩) (by assumption) ?_
          rotate_left
          · simp only [List.getElem_toArray, List.getElem_cons_zero, List.getElem_cons_succ]; intro W hSw; (try dsimp only at hSw); go_simp; all_goals with_reducible rfl
          simp only [Act.put, List.getElem_toArray, List.getElem_cons_zero, List.getElem_cons_succ, List.setIfInBounds_toArray, List.set_cons_zero, List.set_cons_succ]
          refine wpAnyH_take (i := 7) (v := ?_) rfl (by kernel_rfl) (by kernel_rfl) (by kernel_rfl) (fun _ _ _ h => h) (Or.inl ⟨by rfl, ?_⟩) (by assumption) ?_
          rotate_left
          · simp only [List.getElem_toArray, List.getElem_cons_zero, List.getElem_cons_succ]; intro W hSw; (try dsimp only at hSw); go_simp; all_goals with_reducible rfl
          simp only [Act.put, List.getElem_toArray, List.getElem_cons_zero, List.getElem_cons_succ, List.setIfInBounds_toArray, List.set_cons_zero, List.set_cons_succ]
          refine wpAnyH_take (i := 8) (v := ?_) rfl (by kernel_rfl) (by kernel_rfl) (by kernel_rfl) (fun _ _ _ h => h) (Or.inl ⟨by rfl, ?_⟩) (by assumption) ?_
          rotate_left
          · simp only [List.getElem_toArray, List.getElem_cons_zero, List.getElem_cons_succ]; intro W hSw; (try dsimp only at hSw); go_simp; all_goals with_reducible rfl
          simp only [Act.put, List.getElem_toArray, List.getElem_cons_zero, List.getElem_cons_succ, List.setIfInBounds_toArray, List.set_cons_zero, List.set_cons_succ]
          refine wpAnyH_take (i := 9) (v := ?_) rfl (by kernel_rfl) (by kernel_rfl) (by kernel_rfl) (fun _ _ _ h => h) (Or.inl ⟨by rfl, ?_⟩) (by assumption) ?_
          rotate_left
          · simp only [List.getElem_toArray, List.getElem_cons_zero, List.getElem_cons_succ]; intro W hSw; (try dsimp only at hSw); go_simp; all_goals with_reducible rfl
          simp only [Act.put, List.getElem_toArray, List.getElem_cons_zero, List.getElem_cons_succ, List.setIfInBounds_toArray, List.set_cons_zero, List.set_cons_succ]
          refine wpAnyH_take (i := 10) (v := ?_) rfl (by kernel_rfl) (by kernel_rfl) (by kernel_rfl) (fun _ _ _ h => h) (Or.inl ⟨by rfl, ?_⟩) (by assumption) ?_
          rotate_left
          · simp only [List.getElem_toArray, List.getElem_cons_zero, List.getElem_cons_succ]; intro W hSw; (try dsimp only at hSw); go_simp; all_goals with_reducible rfl
          simp only [Act.put, List.getElem_toArray, List.getElem_cons_zero, List.getElem_cons_succ, List.setIfInBounds_toArray, List.set_cons_zero, List.set_cons_succ]
          refine wpAnyH_take (i := 11) (v := ?_) rfl (by kernel_rfl) (by kernel_rfl) (by kernel_rfl) (fun _ _ _ h => h) (Or.inl ⟨by rfl, ?_⟩) (by assumption) ?_
          rotate_left
          · simp only [List.getElem_toArray, List.getElem_cons_zero, List.getElem_cons_succ]; intro W hSw; (try dsimp only at hSw); go_simp; all_goals with_reducible rfl
          simp only [Act.put, List.getElem_toArray, List.getElem_cons_zero, List.getElem_cons_succ, List.setIfInBounds_toArray, List.set_cons_zero, List.set_cons_succ]
          refine wpAnyH_take (i := 12) (v := ?_) rfl (by kernel_rfl) (by kernel_rfl) (by kernel_rfl) (fun _ _ _ h => h) (Or.inl ⟨by rfl, ?_⟩) (by assumption) ?_
          rotate_left
          · simp only [List.getElem_toArray, List.getElem_cons_zero, List.getElem_cons_succ]; intro W hSw; (try dsimp only at hSw); go_simp; all_goals with_reducible rfl
          simp only [Act.put, List.getElem_toArray, List.getElem_cons_zero, List.getElem_cons_succ, List.setIfInBounds_toArray, List.set_cons_zero, List.set_cons_succ]
          refine wpAnyH_take (i := 13) (v := ?_) rfl (by kernel_rfl) (by kernel_rfl) (by kernel_rfl) (fun _ _ _ h => h) (Or.inl ⟨by rfl, ?_⟩) (by assumption) ?_
          rotate_left
          · simp only [List.getElem_toArray, List.getElem_cons_zero, List.getElem_cons_succ]; intro W hSw; (try dsimp only at hSw); go_simp; all_goals with_reducible rfl
          simp only [Act.put, List.getElem_toArray, List.getElem_cons_zero, List.getElem_cons_succ, List.setIfInBounds_toArray, List.set_cons_zero, List.set_cons_succ]
          refine wpAnyH_take (i := 14) (v := ?_) rfl (by kernel_rfl) (by kernel_rfl) (by kernel_rfl) (fun _ _ _ h => h) (Or.inl ⟨by rfl, ?_⟩) (by assumption) ?_
          rotate_left
          · simp only [List.getElem_toArray, List.getElem_cons_zero, List.getElem_cons_succ]; intro W hSw; (try dsimp only at hSw); go_simp; all_goals with_reducible rfl
          simp only [Act.put, List.getElem_toArray, List.getElem_cons_zero, List.getElem_cons_succ, List.setIfInBounds_toArray, List.set_cons_zero, List.set_cons_succ]
          refine wpAnyH_take (i := 15) (v := ?_) rfl (by kernel_rfl) (by kernel_rfl) (by kernel_rfl) (fun _ _ _ h => h) (Or.inl ⟨by rfl, ?_⟩) (by assumption) ?_
          rotate_left
          · simp only [List.getElem_toArray, List.getElem_cons_zero, List.getElem_cons_succ]; intro W hSw; (try dsimp only at hSw); go_simp; all_goals with_reducible rfl
          simp only [Act.put, List.getElem_toArray, List.getElem_cons_zero, List.getElem_cons_succ, List.setIfInBounds_toArray, List.set_cons_zero, List.set_cons_succ]
          refine wpAnyH_take (i := 16) (v := ?_) rfl (by kernel_rfl) (by kernel_rfl) (by kernel_rfl) (fun _ _ _ h => h) (Or.inl ⟨by rfl, ?_⟩) (by assumption) ?_
          rotate_left
          · simp only [List.getElem_toArray, List.getElem_cons_zero, List.getElem_cons_succ]; intro W hSw; (try dsimp only at hSw); go_simp; all_goals with_reducible rfl
          simp only [Act.put, List.getElem_toArray, List.getElem_cons_zero, List.getElem_cons_succ, List.setIfInBounds_toArray, List.set_cons_zero, List.set_cons_succ]
          refine wpAnyH_ready (rs := [17]) (by kernel_rfl) (by simp) ?_
          refine AllReadyH.cons rfl (fun K hK => ?_) AllReadyH.nil
          simp only [List.getElem_toArray, List.getElem_cons_zero, List.getElem_cons_succ]
          go_simp
          refine HLoad.out.mono ?_
          rintro e w5 ⟨rfl, hy5, hs5, hb5⟩
          have hb35 : Below wr.heap.size wr w5 := (Below.refl _ _).drew.trans hb5
          go_wp2_with fail
          refine hK.out _ _ (HS.out _ hb35) (fun hHeldN => ?_)
          clear hK K hHeld
          have hHeld := hHeldN
          clear hHeldN
          (try simp only [Act.put, List.getElem_toArray, List.getElem_cons_zero, List.getElem_cons_succ, List.setIfInBounds_toArray, List.set_cons_zero, List.set_cons_succ])
          refine wpAnyH_take (i := 18) (v := ?_) rfl (by kernel_rfl) (by kernel_rfl) (by kernel_rfl) (fun _ _ _ h => h) (Or.inl ⟨by rfl, ?_⟩) (by assumption) ?_
          rotate_left
          · simp only [List.getElem_toArray, List.getElem_cons_zero, List.getElem_cons_succ]; intro W hSw; (try dsimp only at hSw); go_simp; all_goals with_reducible rfl
          simp only [Act.put, List.getElem_toArray, List.getElem_cons_zero, List.getElem_cons_succ, List.setIfInBounds_toArray, List.set_cons_zero, List.set_cons_succ]
          refine wpAnyH_ready (rs := [19]) (by kernel_rfl) (by simp) ?_
          refine AllReadyH.cons rfl (fun K hK => ?_) AllReadyH.nil
          simp only [List.getElem_toArray, List.getElem_cons_zero, List.getElem_cons_succ]
          have G5 := Lib.hid ((hb35.block (w.heap.size + 1) (by omega)).trans ((HB.out.block (w.heap.size + 1) (by omega)).trans G1.out))
          obtain ⟨xs, hxs⟩ : ∃ xs, xs = frv (some ⟨wr.heap.size, 0, none⟩) 45 (frameOf bs) := ⟨_, rfl⟩
          have HX := Lib.hid hxs
          have XS := Lib.hid (hxs.trans HO2.out)
          have XL := Lib.hid (show xs.length = 6 by rw [hxs]; rfl)
          have X1 := Lib.hid (show ∀ v ∈ xs, v.oneCell' = true by rw [hxs]; exact frv_one _ _ _)
          clear hxs HO2
          have H6 := Lib.hid (setRow_heap w5 (w.heap.size + 1) _ ([] ++ xs ++ []).toArray _ _ G5.out)
          have HG6 := Lib.hid (grown_setRow w5 (w.heap.size + 1) ([] ++ xs ++ []).toArray)
          rw [if_pos (by rfl)]
          refine wp_store_part 54 (.tmp 2) (.tmp 49) rfl (w.heap.size + 1) 0 rfl xs (by rw [XS.out]; rfl) 54 [] [.int .i64 0, .int .i64 0, .int .i64 0, .int .i64 0, .int .u32 0, .slice none 0 0] [] G5.out rfl (by rw [XL.out]; rfl) (by rw [XL.out]; kernel_rfl) X1.out ?_
          generalize w5.setRow (w.heap.size + 1) ([] ++ xs ++ []).toArray = w6 at *
          have hB35 := Lib.hid hb35
          have cx := HG6.out.block (w.heap.size + 2) (by have := hb35.size; omega) (by simp)
          have hcell : ∀ j, w6.cell? ⟨w.heap.size + 2, j, none⟩ = w5.cell? ⟨w.heap.size + 2, j, none⟩ := fun j => World.cell?_of_block (w := w5) cx
          refine hK.out _ _ (⟨(hcell 0).trans hHeld.1, (hcell 1).trans hHeld.2.1, (hcell 2).trans hHeld.2.2.1, (hcell 4).trans hHeld.2.2.2⟩) (fun hHeldN => ?_)
          clear hK K hHeld
          have hHeld := hHeldN
          clear hHeldN
          (try simp only [Act.put, List.getElem_toArray, List.getElem_cons_zero, List.getElem_cons_succ, List.setIfInBounds_toArray, List.set_cons_zero, List.set_cons_succ])
          refine wpAnyH_done (by kernel_rfl) ?_ _
          have HI := Lib.hid (show (Tryd.prog.info? 54).map (·.size) = some ([] ++ xs ++ []).toArray.size by simp only [List.nil_append, List.append_nil, List.size_toArray, XL.out]; kernel_rfl)
          have hbw : Below w.heap.size w w6 := (GB.out.trans ((HB.out.trans (hB35.out.mono (by omega))).mono (by omega))).grown HG6.out (by have := hB35.out.size; omega) (fun k e => by cases e; omega)
          have hy6 : By w6 w6.heap.size (some ⟨wr.heap.size, 0, none⟩) (frameOf bs).load := by
            rw [HLo.out]
            exact (By.only (hy5.mono (show wr.heap.size + 1 ≤ w5.heap.size from hs5)) (Nat.le_refl _) HG6.out (fun b e => by cases e; show wr.heap.size ≠ w.heap.size + 1; omega)).mono HG6.out.size
          have hv : FrV w6 w6.heap.size (frv (some ⟨wr.heap.size, 0, none⟩) 45 (frameOf bs)) (frameOf bs) := ⟨_, _, rfl, hy6, by rw [HLo.out, HLen.out]; exact Nat.le_refl _, by unfold maxLen; omega, (fun e => by cases e), HFi.out⟩
          have HVv := Lib.hid hv
          have HBw := Lib.hid hbw
          have Hfresh := Lib.hid (show w.heap.size ≤ wr.heap.size by omega)
          clear hv hbw hy6 cx hcell hHeld hy5 hs5 hb5 hb35
          go_wp2
          refine bodyPost_ret (results_cell_row rfl _ _ (w.heap.size + 1) 54 _ (0, 0) _ rfl H6.out Tryd.underlying54 rfl HI.out) rfl ⟨some ⟨wr.heap.size, 0, none⟩, 45, ?_, HVv.out, HBw.out, fun b e => by cases e; exact Hfresh.out⟩
          rw [HX.out]
          simp
end Go.Proofs.YtkajcgpkldofjaaDoor.Fm
end

section
/-
  Arrays of bytes of whatever length, as values: compared; loaded in a region that draws its order; a cell and a slot as results.
-/
namespace Go.Proofs.YtkajcgpkldofjaaDoor
set_option maxRecDepth 100000
open Go.RowKit

theorem part_byte (w : World) (xs : List Nat) (k : Nat) (h : k < xs.length) : (part 5 (vals xs).toArray (k * 1)).run Tryd.prog w = .ok (.int .u8 (xs.getD k 0 : Nat)) w := by
  have hv : (vals xs)[k]? = some (.int .u8 (xs.getD k 0 : Nat)) := by
    unfold vals
    rw [List.getElem?_map, List.getElem?_eq_getElem h, Option.map_some, getD_at _ _ h]
  simp [part, isAgg, run_underlying Tryd.underlying5, hv]
theorem eqItems_bytes (d : Nat) (xs ys : List Nat) (hy : ys.length = xs.length) : ∀ (n s : Nat) (w : World), s + n ≤ xs.length →
    (Op.eqItems (d + 1) 5 1 (vals xs).toArray (vals ys).toArray (List.range' s n)).run Tryd.prog w = .ok (decide ((xs.drop s).take n = (ys.drop s).take n)) w := by
  intro n
  induction n with
  | zero => intro s w _; simp [Op.eqItems]
  | succ n ih =>
    intro s w hn
    rw [List.range'_succ]
    simp only [Op.eqItems, Sem.run_bind, part_byte w xs s (by omega), part_byte w ys s (by omega), Result.andThen_ok, run_equalIn_int (P := Tryd.prog) w d 5 .u8 .u8 _ _ Tryd.underlying5]
    have ex : (xs.drop s).take (n + 1) = xs.getD s 0 :: (xs.drop (s + 1)).take n := by rw [List.drop_eq_getElem_cons (by omega), List.take_succ_cons, getD_at _ _ (by omega)]
    have ey : (ys.drop s).take (n + 1) = ys.getD s 0 :: (ys.drop (s + 1)).take n := by rw [List.drop_eq_getElem_cons (by omega), List.take_succ_cons, getD_at _ _ (by omega)]
    rw [ex, ey]
    clear ex ey
    generalize xs.getD s 0 = p
    generalize ys.getD s 0 = q
    by_cases h : p = q
    · subst h
      have h1 : ((p : Int) == (p : Int)) = true := by simp
      rw [h1]
      simp only [Bool.not_true, Bool.false_eq_true, if_false]
      rw [ih (s + 1) w (by omega)]
      simp
    · have h1 : ((p : Int) == (q : Int)) = false := by simp; omega
      rw [h1]
      simp [h]
theorem bytes_same_ (w : World) (t : TypeId) (n : Nat) (ht : Tryd.prog.underlying t = some (.array n 5)) (xs ys : List Nat) (hx : xs.length = n) (hy : ys.length = n) : (Op.equalIn 10000 t (.agg (vals xs).toArray) (.agg (vals ys).toArray)).run Tryd.prog w = .ok (decide (xs = ys)) w := by
  obtain ⟨i0, hi, _, hz1, _⟩ := info_parts Tryd.info5
  have hcell : Tryd.prog.cellsOf 5 = 1 := by kernel_rfl
  rw [run_equalIn_array w 9999 _ _ ht hi, hcell, List.range_eq_range', eqItems_bytes 9998 xs ys (by omega) n 0 w (by omega)]
  simp only [List.drop_zero, List.take_of_length_le (Nat.le_of_eq hx), List.take_of_length_le (Nat.le_of_eq hy)]
theorem bytes_eq (w : World) (t : TypeId) (n : Nat) (ht : Tryd.prog.underlying t = some (.array n 5)) (xs ys : List Nat) (hx : xs.length = n) (hy : ys.length = n) : (binOp .eql t (.agg (vals xs).toArray) (.agg (vals ys).toArray)).run Tryd.prog w = .ok (.bool (decide (xs = ys))) w := by
  rw [run_eql_struct, bytes_same_ w t n ht xs ys hx hy]
  rfl
theorem bytes_neq (w : World) (t : TypeId) (n : Nat) (ht : Tryd.prog.underlying t = some (.array n 5)) (xs ys : List Nat) (hx : xs.length = n) (hy : ys.length = n) : (binOp .neq t (.agg (vals xs).toArray) (.agg (vals ys).toArray)).run Tryd.prog w = .ok (.bool (!decide (xs = ys))) w := by
  rw [run_neq_struct, bytes_same_ w t n ht xs ys hx hy]
  rfl
section
variable {P : Program}
/-- a load of an array or a struct, in a region that draws its order -/
theorem exec_load_part {ρ : Operand → Value} {o : Oper} {w : World} (ty : TypeId) (x : Operand) (ho : o.op = .load ty x) (g off : Nat) (hx : ρ x = .pointer (some ⟨g, off, none⟩)) (xs : List Value) (d : TypeDesc)
    (hc : ∀ j u, xs[j]? = some u → w.cell? ⟨g, off + j, none⟩ = some u) (hu : P.underlying ty = some d) (hd : (match d with | .struct _ | .array _ _ => true | _ => false) = true) (hi : (P.info? ty).map (·.size) = some xs.length) :
    (execOp ρ o).run P w = .ok (.value (.agg xs.toArray)) w := by
  unfold execOp
  simp only [ho, hx, Instr.loadAt, Instr.sureAddr, Sem.run_bind, Sem.run_pure, Result.andThen_ok, run_load_part w g off ty xs d hc hu hd hi]
/-- results: a cell that holds an array or a struct, and a slot -/
theorem results_cell_tmp {fn : Func} {p u : Tmp} {t : TypeId} (h : fn.results = #[.cell p t, .tmp u]) (tmps : Array Value) (w : World) (g : Nat) (cs : Array Value) (fr : Nat × Nat) (d : TypeDesc)
    (hp : tmps.getD p undef = .pointer (some ⟨g, 0, none⟩)) (hg : w.heap[g]? = some (.cells cs t fr)) (hu : P.underlying t = some d) (hd : (match d with | .struct _ | .array _ _ => true | _ => false) = true) (hi : (P.info? t).map (·.size) = some cs.size) :
    (results fn tmps).run P w = .ok (.tuple #[.agg cs, tmps.getD u undef]) w := by
  have hp' : tmps[p]?.getD undef = .pointer (some ⟨g, 0, none⟩) := by simpa using hp
  simp [results, h, hp', asAddr, run_loadVar_row w g t t cs fr d hg hu hd hi]
end
end Go.Proofs.YtkajcgpkldofjaaDoor
end

section
/-
  Read, by contract.
-/
namespace Go.Proofs.YtkajcgpkldofjaaDoor.Fm
set_option maxRecDepth 100000
open Go.RowKit

/-- P4.1: whether bytes are just the sector of a frame that may be -/
def readOK (b : List Nat) : Bool := decide (b.length = 64) && (mayB (frameOf b) && decide (Crc.sealed (secB (frameOf b)) = b))
def zF : Fr := ⟨0, 0, 0, 0, 0, []⟩
def readF (b : List Nat) : Fr := if readOK b = true then frameOf b else zF
def readE (b : List Nat) : Int := if readOK b = true then 0 else 40
theorem zF_at (w : World) (B : Nat) : FrV w B (frv none 0 zF) zF := ⟨none, 0, rfl, By.nil_, Nat.le_refl _, by unfold maxLen; omega, fun _ => rfl, ⟨by decide, by decide, by decide, by decide, by decide, by decide⟩⟩
/-- what Read answers -/
def ReadOut (w : World) (bs : List Nat) (e : Ending) (w' : World) : Prop :=
  ∃ A' c', e = .returned (.tuple #[.agg (frv A' c' (readF bs)).toArray, .int .i64 (readE bs)]) ∧ FrV w' w'.heap.size (frv A' c' (readF bs)) (readF bs) ∧ Below w.heap.size w w'
/-- .. and the load in a block of its own -/
def ReadNew (w : World) (bs : List Nat) (e : Ending) (w' : World) : Prop :=
  ∃ A' c', e = .returned (.tuple #[.agg (frv A' c' (readF bs)).toArray, .int .i64 (readE bs)]) ∧ FrV w' w'.heap.size (frv A' c' (readF bs)) (readF bs) ∧ Below w.heap.size w w' ∧ ∀ b, A' = some b → w.heap.size ≤ b.block
theorem ReadNew.out {w w' : World} {bs : List Nat} {e : Ending} (h : ReadNew w bs e w') : ReadOut w bs e w' := by
  obtain ⟨A', c', h1, h2, h3, _⟩ := h
  exact ⟨A', c', h1, h2, h3⟩
theorem ReadNew.no {w w' : World} {bs : List Nat} (h : readOK bs = false) (hb : Below w.heap.size w w') : ReadNew w bs (.returned (.tuple #[.agg #[.int .i64 0, .int .i64 0, .int .i64 0, .int .i64 0, .int .u32 0, .slice none 0 0], .int .i64 40])) w' := by
  unfold ReadNew readF readE
  rw [if_neg (by rw [h]; simp), if_neg (by rw [h]; simp)]
  exact ⟨none, 0, rfl, zF_at _ _, hb, fun _ e => by cases e⟩
theorem ReadOut.no {w w' : World} {bs : List Nat} (h : readOK bs = false) (hb : Below w.heap.size w w') : ReadOut w bs (.returned (.tuple #[.agg #[.int .i64 0, .int .i64 0, .int .i64 0, .int .i64 0, .int .u32 0, .slice none 0 0], .int .i64 40])) w' := by
  unfold ReadOut readF readE
  rw [if_neg (by rw [h]; simp), if_neg (by rw [h]; simp)]
  exact ⟨none, 0, rfl, zF_at _ _, hb⟩
theorem _root_.Go.Proofs.YtkajcgpkldofjaaDoor.By.off_row {w w' : World} {B g : Nat} {A : Option Addr} {bs : List Nat} {cs : Array Value} {t : TypeId} (h : By w B A bs) (hB : B ≤ w.heap.size) (hg : w.heap[g]? = some (.cells cs t (0, 0)))
    (hc : ∀ u ∈ cs.toList, ∀ n, u ≠ .int .u8 n) (hgr : w.grownBy w' (some g)) : By w' B A bs :=
  ⟨h.1, fun hn => by
    obtain ⟨b, off, e, hb, hcell⟩ := h.2 hn
    have hbg : b ≠ g := by
      rintro rfl
      have h0 := hcell 0 hn
      rw [cell_of_row w b (off + 0) _ _ _ hg] at h0
      exact hc _ (by rw [← Array.getElem?_toList] at h0; exact List.mem_of_getElem? h0) _ rfl
    exact ⟨b, off, e, hb, fun j hj => (World.cell?_of_block (w := w) (hgr.block b (by omega) (fun e2 => hbg (by cases e2; rfl)))).trans (hcell j hj)⟩⟩
theorem zero64 : (Tryd.prog.info? 70).map (·.zero) = some (some (.agg (vals (List.replicate 64 0)).toArray)) := by kernel_rfl
theorem Tryd.size70 : (Tryd.prog.info? 70).map (·.size) = some 64 := by kernel_rfl
theorem Tryd.sizeF : (Tryd.prog.info? 54).map (·.size) = some 6 := by kernel_rfl

set_option maxHeartbeats 1000000 in
theorem read_length (bs : List Nat) (A : Option Addr) (c : Nat) (w : World) (h : ¬ bs.length = 64) (hl : bs.length ≤ 1000000000) :
    Calls Tryd.prog 61 #[.slice A bs.length c] w (ReadNew w bs) := by
  have hq : ((bs.length : Int) != 64) = true := by rw [bne_iff_ne]; omega
  have HR := Lib.hid (show readOK bs = false by unfold readOK; rw [decide_eq_false h]; rfl)
  clear h
  go_enter Tryd.func61, Tryd.ntmps61
  go_wp2
  exact bodyPost_ret (results_cell_tmp (t := 54) (p := 2) (u := 3) rfl _ _ w.heap.size _ (0, 0) _ rfl (heap_alloc_new w _) Tryd.underlying54 rfl Tryd.sizeF) rfl (ReadNew.no HR.out ((Below.refl _ _).alloc (Nat.le_refl _) _))
set_option maxRecDepth 100000 in
set_option maxHeartbeats 2000000 in
theorem read_sector (bs : List Nat) (A : Option Addr) (c : Nat) (w : World) (hl : bs.length = 64) (hA : By w w.heap.size A bs) (hW : Widths w) :
    Calls Tryd.prog 61 #[.slice A bs.length c] w (ReadNew w bs) := by
  have hat := fun (W : World) (a : Option Addr) (len cap : Nat) (hn : 64 ≤ len) => run_arrayAt (P := Tryd.prog) (w := W) 70 5 64 a len cap Tryd.underlying70 hn
  have HL := Lib.hid hl
  have HA := Lib.hid hA
  have HBy := Lib.hid hA.1
  have HW := Lib.hid hW
  obtain ⟨b, off, rfl, hbw, hcells⟩ := hA.at_ (by omega)
  rw [hl]
  have HV := Lib.hid (fun W (hW : Below w.heap.size w W) => (show ∀ j u, (vals bs)[j]? = some u → W.cell? ⟨b, off + j, none⟩ = some u from fun j u hu => by
    obtain ⟨hj, rfl⟩ := vals_get hu
    exact (hW.cell (p := ⟨b, off + j, none⟩) hbw).trans (hcells j hj)))
  obtain ⟨Z, hZ⟩ : ∃ Z, Z = vals (List.replicate 64 0) := ⟨_, rfl⟩
  have HZ := Lib.hid (show (Tryd.prog.info? 70).map (·.zero) = some (some (.agg Z.toArray)) by rw [hZ]; exact zero64)
  have HZl := Lib.hid (show Z.length = 64 by rw [hZ]; rfl)
  have HI := Lib.hid (show (Tryd.prog.info? 70).map (·.size) = some (vals bs).length by rw [vals_length, hl]; exact Tryd.size70)
  have HB1 := Lib.hid ((Below.refl w.heap.size w).alloc (Nat.le_refl _) (.cells #[.int .i64 0, .int .i64 0, .int .i64 0, .int .i64 0, .int .u32 0, .slice none 0 0] 54))
  have hr1 : ((w.alloc (.cells #[.int .i64 0, .int .i64 0, .int .i64 0, .int .i64 0, .int .u32 0, .slice none 0 0] 54)).alloc (.cells Z.toArray 70)).heap[w.heap.size + 1]? = some (.cells ([] ++ Z ++ []).toArray 70 (0, 0)) := by
    have h := heap_alloc2_new w (.cells #[.int .i64 0, .int .i64 0, .int .i64 0, .int .i64 0, .int .u32 0, .slice none 0 0] 54) (.cells Z.toArray 70)
    simpa using h
  have hr0 : ((w.alloc (.cells #[.int .i64 0, .int .i64 0, .int .i64 0, .int .i64 0, .int .u32 0, .slice none 0 0] 54)).alloc (.cells Z.toArray 70)).heap[w.heap.size]? = some (.cells #[.int .i64 0, .int .i64 0, .int .i64 0, .int .i64 0, .int .u32 0, .slice none 0 0] 54 (0, 0)) := by
    have h := heap_alloc2_old w (.cells #[.int .i64 0, .int .i64 0, .int .i64 0, .int .i64 0, .int .u32 0, .slice none 0 0] 54) (.cells Z.toArray 70)
    simpa using h
  have hb2 := HB1.out.alloc (by simp) (.cells Z.toArray 70)
  have hz2 : ((w.alloc (.cells #[.int .i64 0, .int .i64 0, .int .i64 0, .int .i64 0, .int .u32 0, .slice none 0 0] 54)).alloc (.cells Z.toArray 70)).heap.size = w.heap.size + 2 := by simp
  have hs3 := setRow_heap ((w.alloc (.cells #[.int .i64 0, .int .i64 0, .int .i64 0, .int .i64 0, .int .u32 0, .slice none 0 0] 54)).alloc (.cells Z.toArray 70)) (w.heap.size + 1) _ (vals bs).toArray _ _ hr1
  have hg3 := grown_setRow ((w.alloc (.cells #[.int .i64 0, .int .i64 0, .int .i64 0, .int .i64 0, .int .u32 0, .slice none 0 0] 54)).alloc (.cells Z.toArray 70)) (w.heap.size + 1) (vals bs).toArray
  have HR1 := Lib.hid hr1
  obtain ⟨w3, hw3⟩ : ∃ x, x = World.setRow ((w.alloc (.cells #[.int .i64 0, .int .i64 0, .int .i64 0, .int .i64 0, .int .u32 0, .slice none 0 0] 54)).alloc (.cells Z.toArray 70)) (w.heap.size + 1) (vals bs).toArray := ⟨_, rfl⟩
  rw [← hw3] at hs3 hg3
  have hb3 := hb2.grown hg3 (by simp; omega) (fun k e => by cases e; omega)
  have hz3 : w3.heap.size = w.heap.size + 2 := by rw [hw3]; simp
  have H30 := Lib.hid ((hg3.block w.heap.size (by omega) (by simp)).trans hr0)
  have HP := Lib.hid (parse_any bs w3 HL.out HBy.out (HW.out.below hb3))
  have H3 := Lib.hid (show w3.heap[w.heap.size + 1]? = some (.cells (vals bs).toArray 70 (0, 0)) from hs3)
  have HB3 := Lib.hid hb3
  have HZ3 := Lib.hid hz3
  have HV3 := Lib.hid (show ∀ W, Below w3.heap.size w3 W → ∀ j u, (vals bs)[j]? = some u → W.cell? ⟨w.heap.size + 1, 0 + j, none⟩ = some u from fun W hW j u hu => by
    rw [Nat.zero_add, cell_of_row W _ j _ _ _ ((hW.block (w.heap.size + 1) (by omega)).trans (hs3))]
    simpa using hu)
  have HC3 := Lib.hid (HV3.out _ (Below.refl _ _))
  rw [hw3] at HC3
  have e3 : (vals bs).toArray = ([] ++ vals bs ++ []).toArray := by simp
  have HC4 := HC3
  rw [e3] at HC4
  have HW3 := Lib.hid hw3
  clear e3
  have HB1x := Lib.hid HB1.out
  clear hr1 hr0 hb2 hz2 hs3 hg3 hb3 hz3 hw3 HB1
  clear hA hW hcells hZ hl
  go_enter Tryd.func61, Tryd.ntmps61
  go_wp2_with (first
    | (refine wpList_load_part rfl 70 (.tmp 13) rfl b off rfl (vals bs) _ (HV.out _ HB1x.out) Tryd.underlying70 rfl HI.out ?_)
    | (with_reducible refine wpList_alloc_any rfl 70 rfl Z.toArray HZ.out ?_)
    | (refine wpList_store_part rfl 70 (.tmp 4) (.tmp 14) rfl (w.heap.size + 1) 0 ?_ (vals bs) ?_ 70 [] Z [] HR1.out rfl ?_ HI.out vals_one ?_)
    | (refine wpList_load_part rfl 70 (.tmp 4) rfl (w.heap.size + 1) 0 (by simp [Act.eval, Act.put]) (vals bs) _ HC4.out Tryd.underlying70 rfl HI.out ?_)
    | (refine wpList_load_part rfl 70 (.tmp 4) rfl (w.heap.size + 1) 0 (by simp [Act.eval, Act.put]) (vals bs) _ HC3.out Tryd.underlying70 rfl HI.out ?_)
    | fail)
  · rw [HZl.out, vals_length, HL.out]
  rw [← HW3.out]
  refine HP.out.mono ?_
  rintro e w4 ⟨A4, c4, rfl, hv4, hb4, hf4⟩
  have HF4 := Lib.hid (show ∀ b, A4 = some b → w.heap.size ≤ b.block from fun b e => by have h1 := hf4 b e; have h2 := HZ3.out; omega)
  clear hf4
  have HFm := Lib.hid (show readOK bs = (mayB (frameOf bs) && decide (Crc.sealed (secB (frameOf bs)) = bs)) by unfold readOK; rw [decide_eq_true HL.out, Bool.true_and])
  have HRF := Lib.hid (show readOK bs = true → readF bs = frameOf bs ∧ readE bs = 0 from fun h => by unfold readF readE; rw [if_pos h, if_pos h]; exact ⟨rfl, rfl⟩)
  generalize frameOf bs = F at *
  have HX1 := Lib.hid (frv_one A4 c4 F)
  have HXl := Lib.hid (show (frv A4 c4 F).length = 6 from rfl)
  obtain ⟨xs, hxs⟩ : ∃ xs, xs = frv A4 c4 F := ⟨_, rfl⟩
  rw [← hxs] at HX1 HXl
  rw [← hxs]
  have HX := Lib.hid hxs
  have HV4 := Lib.hid hv4
  have HB4 := Lib.hid hb4
  clear hv4 hb4 hxs
  have hr5 := heap_alloc_new w4 (.cells #[.int .i64 0, .int .i64 0, .int .i64 0, .int .i64 0, .int .u32 0, .slice none 0 0] 54)
  have hb5 := HB4.out.alloc HB4.out.size (.cells #[.int .i64 0, .int .i64 0, .int .i64 0, .int .i64 0, .int .u32 0, .slice none 0 0] 54)
  have hz5 : (w4.alloc (.cells #[.int .i64 0, .int .i64 0, .int .i64 0, .int .i64 0, .int .u32 0, .slice none 0 0] 54)).heap.size = w4.heap.size + 1 := by simp
  have hv5 := HV4.out.below ((Below.refl w4.heap.size w4).alloc (Nat.le_refl _) (.cells #[.int .i64 0, .int .i64 0, .int .i64 0, .int .i64 0, .int .u32 0, .slice none 0 0] 54)) (Nat.le_refl _)
  have hs6 := setRow_heap (w4.alloc (.cells #[.int .i64 0, .int .i64 0, .int .i64 0, .int .i64 0, .int .u32 0, .slice none 0 0] 54)) w4.heap.size _ xs.toArray _ _ hr5
  have hg6 := grown_setRow (w4.alloc (.cells #[.int .i64 0, .int .i64 0, .int .i64 0, .int .i64 0, .int .u32 0, .slice none 0 0] 54)) w4.heap.size xs.toArray
  have HR5 := Lib.hid hr5
  obtain ⟨w6, hw6⟩ : ∃ x, x = World.setRow (w4.alloc (.cells #[.int .i64 0, .int .i64 0, .int .i64 0, .int .i64 0, .int .u32 0, .slice none 0 0] 54)) w4.heap.size xs.toArray := ⟨_, rfl⟩
  rw [← hw6] at hs6 hg6
  have hz6 : w6.heap.size = w4.heap.size + 1 := by rw [hw6]; simp
  have HB6 := Lib.hid (hb5.trans ((only_below hg6 (Nat.le_refl _) (by omega)).mono HB4.out.size))
  have HBw := Lib.hid (HB3.out.trans (HB6.out.mono HB3.out.size))
  have hv6 := (hv5.below (only_below hg6 (Nat.le_refl _) (by omega)) (Nat.le_refl _)).mono (show w4.heap.size ≤ w6.heap.size by omega)
  have HV6 := Lib.hid hv6
  have H6 := Lib.hid hs6
  have HZ6 := Lib.hid hz6
  have HX6 := Lib.hid (show ∀ W, Below w6.heap.size w6 W → ∀ j u, xs[j]? = some u → W.cell? ⟨w4.heap.size, 0 + j, none⟩ = some u from fun W hW j u hu => by
    rw [Nat.zero_add, cell_of_row W _ j _ _ _ ((hW.block w4.heap.size (by omega)).trans hs6)]
    simpa using hu)
  have HC6 := Lib.hid (HX6.out _ (Below.refl _ _))
  rw [hw6] at HC6
  have e3 : xs.toArray = ([] ++ xs ++ []).toArray := by simp
  have HC7 := HC6
  rw [e3] at HC7
  have HW6 := Lib.hid hw6
  have HI6 := Lib.hid (show (Tryd.prog.info? 54).map (·.size) = some xs.length by rw [HXl.out]; exact Tryd.sizeF)
  clear e3 hr5 hb5 hz5 hv5 hs6 hg6 hw6 hz6 hv6
  go_wp2_with (first
    | (refine wpList_store_part rfl 54 (.tmp 5) (.tmp 16) rfl w4.heap.size 0 (by simp [Act.eval, Act.put]) xs (by simp [Act.eval, Act.put]) 54 [] [.int .i64 0, .int .i64 0, .int .i64 0, .int .i64 0, .int .u32 0, .slice none 0 0] [] HR5.out rfl ?_ HI6.out HX1.out ?_)
    | (refine wpList_load_part rfl 54 (.tmp 5) rfl w4.heap.size 0 (by simp [Act.eval, Act.put]) xs _ HC7.out Tryd.underlying54 rfl HI6.out ?_)
    | (refine wpList_load_part rfl 54 (.tmp 5) rfl w4.heap.size 0 (by simp [Act.eval, Act.put]) xs _ HC6.out Tryd.underlying54 rfl HI6.out ?_)
    | fail)
  · rw [HXl.out]; rfl
  rw [← HW6.out]
  have HS := Lib.hid (show ∀ W, Below w6.heap.size w6 W → (∀ j u, (vals bs)[j]? = some u → W.cell? ⟨w.heap.size + 1, 0 + j, none⟩ = some u) ∧ (∀ j u, xs[j]? = some u → W.cell? ⟨w4.heap.size, 0 + j, none⟩ = some u) ∧ W.heap[w.heap.size]? = some (.cells #[.int .i64 0, .int .i64 0, .int .i64 0, .int .i64 0, .int .u32 0, .slice none 0 0] 54 (0, 0)) ∧ Below w.heap.size w W ∧ FrV W w6.heap.size (frv A4 c4 F) F from fun W hW => by
    have h3W : Below w3.heap.size w3 W := HB6.out.trans (hW.mono (by have := HB6.out.size; omega))
    exact ⟨HV3.out W h3W, HX6.out W hW, (h3W.block w.heap.size (by have := HZ3.out; omega)).trans H30.out, HB3.out.trans (h3W.mono HB3.out.size), HV6.out.below hW (Nat.le_refl _)⟩)
  cases hm : mayB F with
  | false =>
    have HN := Lib.hid (show readOK bs = false by rw [HFm.out, hm]; rfl)
    have h := bytes_no F A4 c4 w6 HV6.out hm
    rw [← HX.out] at h
    have HBn := Lib.hid h
    clear h HFm hm HP
    refine HBn.out.mono ?_
    rintro e w7 ⟨rfl, hb7⟩
    have HB7 := Lib.hid hb7
    clear hb7 HBn
    go_wp2_with fail
    refine wp_region_held_drew (S := fun W => W = w7.drew) (by kernel_rfl) rfl (fun hHeld => ?_)
    refine wpAnyH_take (i := 0) (v := ?_) rfl (by kernel_rfl) (by kernel_rfl) (by kernel_rfl) (fun _ _ _ h => h) (Or.inl ⟨by rfl, ?_⟩) (by assumption) ?_
    rotate_left
    · simp only [List.getElem_toArray, List.getElem_cons_zero, List.getElem_cons_succ]; intro W hSw; (try dsimp only at hSw); go_simp; all_goals with_reducible rfl
    simp only [Act.put, List.getElem_toArray, List.getElem_cons_zero, List.getElem_cons_succ, List.setIfInBounds_toArray, List.set_cons_zero, List.set_cons_succ]
    refine wpAnyH_take (i := 1) (v := ?_) rfl (by kernel_rfl) (by kernel_rfl) (by kernel_rfl) (fun _ _ _ h => h) (Or.inl ⟨by rfl, ?_⟩) (by assumption) ?_
    rotate_left
    · simp only [List.getElem_toArray, List.getElem_cons_zero, List.getElem_cons_succ]; intro W hSw; (try dsimp only at hSw); go_simp; all_goals with_reducible rfl
    simp only [Act.put, List.getElem_toArray, List.getElem_cons_zero, List.getElem_cons_succ, List.setIfInBounds_toArray, List.set_cons_zero, List.set_cons_succ]
    refine wpAnyH_take (i := 2) (v := ?_) rfl (by kernel_rfl) (by kernel_rfl) (by kernel_rfl) (fun _ _ _ h => h) (Or.inl ⟨by rfl, ?_⟩) (by assumption) ?_
    rotate_left
    · simp only [List.getElem_toArray, List.getElem_cons_zero, List.getElem_cons_succ]; intro W hSw; (try dsimp only at hSw); go_simp; all_goals with_reducible rfl
    simp only [Act.put, List.getElem_toArray, List.getElem_cons_zero, List.getElem_cons_succ, List.setIfInBounds_toArray, List.set_cons_zero, List.set_cons_succ]
    refine wpAnyH_take (i := 3) (v := undef) rfl (by kernel_rfl) (by kernel_rfl) (by kernel_rfl) (fun _ _ _ h => h) (Or.inr ⟨by rfl, rfl⟩) (by assumption) ?_
    (try simp only [Act.put, List.getElem_toArray, List.getElem_cons_zero, List.getElem_cons_succ, List.setIfInBounds_toArray, List.set_cons_zero, List.set_cons_succ])
    refine wpAnyH_take (i := 4) (v := undef) rfl (by kernel_rfl) (by kernel_rfl) (by kernel_rfl) (fun _ _ _ h => h) (Or.inr ⟨by rfl, rfl⟩) (by assumption) ?_
    (try simp only [Act.put, List.getElem_toArray, List.getElem_cons_zero, List.getElem_cons_succ, List.setIfInBounds_toArray, List.set_cons_zero, List.set_cons_succ])
    refine wpAnyH_take (i := 5) (v := undef) rfl (by kernel_rfl) (by kernel_rfl) (by kernel_rfl) (fun _ _ _ h => h) (Or.inr ⟨by rfl, rfl⟩) (by assumption) ?_
    (try simp only [Act.put, List.getElem_toArray, List.getElem_cons_zero, List.getElem_cons_succ, List.setIfInBounds_toArray, List.set_cons_zero, List.set_cons_succ])
    refine wpAnyH_take (i := 6) (v := undef) rfl (by kernel_rfl) (by kernel_rfl) (by kernel_rfl) (fun _ _ _ h => h) (Or.inr ⟨by rfl, rfl⟩) (by assumption) ?_
    (try simp only [Act.put, List.getElem_toArray, List.getElem_cons_zero, List.getElem_cons_succ, List.setIfInBounds_toArray, List.set_cons_zero, List.set_cons_succ])
    refine wpAnyH_take (i := 7) (v := undef) rfl (by kernel_rfl) (by kernel_rfl) (by kernel_rfl) (fun _ _ _ h => h) (Or.inr ⟨by rfl, rfl⟩) (by assumption) ?_
    (try simp only [Act.put, List.getElem_toArray, List.getElem_cons_zero, List.getElem_cons_succ, List.setIfInBounds_toArray, List.set_cons_zero, List.set_cons_succ])
    refine wpAnyH_take (i := 8) (v := ?_) rfl (by kernel_rfl) (by kernel_rfl) (by kernel_rfl) (fun _ _ _ h => h) (Or.inl ⟨by rfl, ?_⟩) (by assumption) ?_
    rotate_left
    · simp only [List.getElem_toArray, List.getElem_cons_zero, List.getElem_cons_succ]; intro W hSw; (try dsimp only at hSw); go_simp; all_goals with_reducible rfl
    simp only [Act.put, List.getElem_toArray, List.getElem_cons_zero, List.getElem_cons_succ, List.setIfInBounds_toArray, List.set_cons_zero, List.set_cons_succ]
    refine wpAnyH_done (by kernel_rfl) ?_ _
    obtain ⟨-, -, hr, hbw, -⟩ := HS.out _ (HB7.out.trans (Below.refl _ _).drew)
    obtain ⟨w8, hw8⟩ : ∃ x, x = World.setRow w7.drew w.heap.size #[.int .i64 0, .int .i64 0, .int .i64 0, .int .i64 0, .int .u32 0, .slice none 0 0] := ⟨_, rfl⟩
    have HR := Lib.hid hr
    have HR8 := Lib.hid (show w8.heap[w.heap.size]? = some (.cells #[.int .i64 0, .int .i64 0, .int .i64 0, .int .i64 0, .int .u32 0, .slice none 0 0] 54 (0, 0)) by rw [hw8]; exact setRow_heap _ _ _ _ _ _ hr)
    have HB8 := Lib.hid (show Below w.heap.size w w8 by rw [hw8]; exact hbw.grown (grown_setRow w7.drew w.heap.size _) hbw.size (fun k e => by cases e; omega))
    have HW8 := Lib.hid hw8
    clear hr hbw hw8 hHeld
    go_wp2_with (first
      | (refine wpList_store_part rfl 54 (.tmp 2) (.tmp 31) rfl w.heap.size 0 (by simp [Act.eval, Act.put]) [.int .i64 0, .int .i64 0, .int .i64 0, .int .i64 0, .int .u32 0, .slice none 0 0] (by simp [Act.eval, Act.put]) 54 [] [.int .i64 0, .int .i64 0, .int .i64 0, .int .i64 0, .int .u32 0, .slice none 0 0] [] HR.out rfl rfl Tryd.sizeF (by decide) ?_))
    rw [← HW8.out]
    exact bodyPost_ret (results_cell_tmp (t := 54) (p := 2) (u := 3) rfl _ _ w.heap.size _ (0, 0) _ rfl HR8.out Tryd.underlying54 rfl Tryd.sizeF) rfl (ReadNew.no HN.out HB8.out)
  | true =>
    have h := bytes_yes F A4 c4 w6 HV6.out hm (HW.out.below HBw.out)
    rw [← HX.out] at h
    have HBy6 := Lib.hid h
    have HSl := Lib.hid (show (Crc.sealed (secB F)).length = 64 by rw [Crc.sealed_length, secB_length (may_load hm)])
    have HSb := Lib.hid (Crc.sealed_lt (secB_lt (f := F) HV6.out.fine.load))
    rw [hm, Bool.true_and] at HFm
    clear h hm
    refine HBy6.out.mono ?_
    rintro e w7 ⟨v, rfl, hv⟩
    obtain ⟨g, cp, rfl, hy7, hl7, hc7, hg7, hgw7, -⟩ := hv.block HSb.out (by rw [HSl.out]; omega)
    have HB7 := Lib.hid hv.2
    have HSS := Lib.hid (show ∀ j u, (vals (Crc.sealed (secB F)))[j]? = some u → w7.drew.cell? ⟨g, 0 + j, none⟩ = some u from fun j u hu => by
      obtain ⟨hj, rfl⟩ := vals_get hu
      obtain ⟨b', off', e', -, hc⟩ := hy7.at_ (by rw [HSl.out]; omega)
      cases e'
      exact hc j hj)
    generalize Crc.sealed (secB F) = ys at *
    rw [HSl.out] at hl7
    have HY7 := Lib.hid hy7
    clear hy7 hv HBy6
    rw [HSl.out]
    go_wp2_with fail
    have hq := fun W => bytes_neq W 70 64 Tryd.underlying70 bs ys HL.out HSl.out
    refine wp_region_held_drew (S := fun W => W = w7.drew) (by kernel_rfl) rfl (fun hHeld => ?_)
    refine wpAnyH_take (i := 0) (v := ?_) rfl (by kernel_rfl) (by kernel_rfl) (by kernel_rfl) (fun _ _ _ h => h) (Or.inl ⟨by rfl, ?_⟩) (by assumption) ?_
    rotate_left
    · simp only [List.getElem_toArray, List.getElem_cons_zero, List.getElem_cons_succ]; intro W hSw; (try dsimp only at hSw); go_simp; all_goals with_reducible rfl
    simp only [Act.put, List.getElem_toArray, List.getElem_cons_zero, List.getElem_cons_succ, List.setIfInBounds_toArray, List.set_cons_zero, List.set_cons_succ]
    refine wpAnyH_take (i := 1) (v := ?_) rfl (by kernel_rfl) (by kernel_rfl) (by kernel_rfl) (fun _ _ _ h => h) (Or.inl ⟨by rfl, ?_⟩) (by assumption) ?_
    rotate_left
    · simp only [List.getElem_toArray, List.getElem_cons_zero, List.getElem_cons_succ]; intro W hSw; (try dsimp only at hSw); go_simp; all_goals with_reducible rfl
    simp only [Act.put, List.getElem_toArray, List.getElem_cons_zero, List.getElem_cons_succ, List.setIfInBounds_toArray, List.set_cons_zero, List.set_cons_succ]
    refine wpAnyH_take (i := 2) (v := ?_) rfl (by kernel_rfl) (by kernel_rfl) (by kernel_rfl) (fun _ _ _ h => h) (Or.inl ⟨by rfl, ?_⟩) (by assumption) ?_
    rotate_left
    · simp only [List.getElem_toArray, List.getElem_cons_zero, List.getElem_cons_succ]; intro W hSw; (try dsimp only at hSw); go_simp; all_goals with_reducible rfl
    simp only [Act.put, List.getElem_toArray, List.getElem_cons_zero, List.getElem_cons_succ, List.setIfInBounds_toArray, List.set_cons_zero, List.set_cons_succ]
    refine wpAnyH_take (i := 3) (v := ?_) rfl (by kernel_rfl) (by kernel_rfl) (by kernel_rfl) (fun _ _ _ h => h) (Or.inl ⟨by rfl, ?_⟩) (by assumption) ?_
    rotate_left
    · simp only [List.getElem_toArray, List.getElem_cons_zero, List.getElem_cons_succ]; intro W hSw; (try dsimp only at hSw); subst hSw; refine exec_load_part 70 (.tmp 4) ?_ (w.heap.size + 1) 0 ?_ (vals bs) _ (HS.out _ (HB7.out.trans (Below.refl _ _).drew)).1 Tryd.underlying70 ?_ HI.out <;> rfl
    simp only [Act.put, List.getElem_toArray, List.getElem_cons_zero, List.getElem_cons_succ, List.setIfInBounds_toArray, List.set_cons_zero, List.set_cons_succ]
    refine wpAnyH_take (i := 4) (v := ?_) rfl (by kernel_rfl) (by kernel_rfl) (by kernel_rfl) (fun _ _ _ h => h) (Or.inl ⟨by rfl, ?_⟩) (by assumption) ?_
    rotate_left
    · simp only [List.getElem_toArray, List.getElem_cons_zero, List.getElem_cons_succ]; intro W hSw; (try dsimp only at hSw); go_simp; all_goals with_reducible rfl
    simp only [Act.put, List.getElem_toArray, List.getElem_cons_zero, List.getElem_cons_succ, List.setIfInBounds_toArray, List.set_cons_zero, List.set_cons_succ]
    refine wpAnyH_take (i := 5) (v := ?_) rfl (by kernel_rfl) (by kernel_rfl) (by kernel_rfl) (fun _ _ _ h => h) (Or.inl ⟨by rfl, ?_⟩) (by assumption) ?_
    rotate_left
    · simp only [List.getElem_toArray, List.getElem_cons_zero, List.getElem_cons_succ]; intro W hSw; (try dsimp only at hSw); go_simp; all_goals with_reducible rfl
    simp only [Act.put, List.getElem_toArray, List.getElem_cons_zero, List.getElem_cons_succ, List.setIfInBounds_toArray, List.set_cons_zero, List.set_cons_succ]
    refine wpAnyH_take (i := 6) (v := ?_) rfl (by kernel_rfl) (by kernel_rfl) (by kernel_rfl) (fun _ _ _ h => h) (Or.inl ⟨by rfl, ?_⟩) (by assumption) ?_
    rotate_left
    · simp only [List.getElem_toArray, List.getElem_cons_zero, List.getElem_cons_succ]; intro W hSw; (try dsimp only at hSw); subst hSw; refine exec_load_part 70 (.tmp 27) ?_ g 0 ?_ (vals ys) _ HSS.out Tryd.underlying70 ?_ (by rw [vals_length, HSl.out]; exact Tryd.size70) <;> rfl
    simp only [Act.put, List.getElem_toArray, List.getElem_cons_zero, List.getElem_cons_succ, List.setIfInBounds_toArray, List.set_cons_zero, List.set_cons_succ]
    refine wpAnyH_take (i := 7) (v := ?_) rfl (by kernel_rfl) (by kernel_rfl) (by kernel_rfl) (fun _ _ _ h => h) (Or.inl ⟨by rfl, ?_⟩) (by assumption) ?_
    rotate_left
    · simp only [List.getElem_toArray, List.getElem_cons_zero, List.getElem_cons_succ]; intro W hSw; (try dsimp only at hSw); go_simp; all_goals with_reducible rfl
    simp only [Act.put, List.getElem_toArray, List.getElem_cons_zero, List.getElem_cons_succ, List.setIfInBounds_toArray, List.set_cons_zero, List.set_cons_succ]
    refine wpAnyH_take (i := 8) (v := ?_) rfl (by kernel_rfl) (by kernel_rfl) (by kernel_rfl) (fun _ _ _ h => h) (Or.inl ⟨by rfl, ?_⟩) (by assumption) ?_
    rotate_left
    · simp only [List.getElem_toArray, List.getElem_cons_zero, List.getElem_cons_succ]; intro W hSw; (try dsimp only at hSw); go_simp; all_goals with_reducible rfl
    simp only [Act.put, List.getElem_toArray, List.getElem_cons_zero, List.getElem_cons_succ, List.setIfInBounds_toArray, List.set_cons_zero, List.set_cons_succ]
    refine wpAnyH_done (by kernel_rfl) ?_ _
    obtain ⟨-, hxs, hr, hbw, hfv⟩ := HS.out _ (HB7.out.trans (Below.refl _ _).drew)
    have HXS := Lib.hid hxs
    have HR := Lib.hid hr
    have HBw2 := Lib.hid hbw
    have HFv := Lib.hid hfv
    have hlt7 : w6.heap.size ≤ w7.drew.heap.size := HB7.out.size
    have hlt0 : w.heap.size < w6.heap.size := by have := HB3.out.size; have := HZ3.out; have := HB4.out.size; have := HZ6.out; omega
    clear hxs hr hbw hfv hHeld
    cases hd : decide (bs = ys) with
    | false =>
      have HN := Lib.hid (show readOK bs = false by
        rw [HFm.out]
        rw [decide_eq_false_iff_not] at hd ⊢
        exact fun e => hd e.symm)
      obtain ⟨w8, hw8⟩ : ∃ x, x = World.setRow w7.drew w.heap.size #[.int .i64 0, .int .i64 0, .int .i64 0, .int .i64 0, .int .u32 0, .slice none 0 0] := ⟨_, rfl⟩
      have HR8 := Lib.hid (show w8.heap[w.heap.size]? = some (.cells #[.int .i64 0, .int .i64 0, .int .i64 0, .int .i64 0, .int .u32 0, .slice none 0 0] 54 (0, 0)) by rw [hw8]; exact setRow_heap _ _ _ _ _ _ HR.out)
      have HB8 := Lib.hid (show Below w.heap.size w w8 by rw [hw8]; exact HBw2.out.grown (grown_setRow w7.drew w.heap.size _) HBw2.out.size (fun k e => by cases e; omega))
      have HW8 := Lib.hid hw8
      clear hw8 hd HFm
      go_wp2_with (first
        | (refine wpList_store_part rfl 54 (.tmp 2) (.tmp 31) rfl w.heap.size 0 (by simp [Act.eval, Act.put]) [.int .i64 0, .int .i64 0, .int .i64 0, .int .i64 0, .int .u32 0, .slice none 0 0] (by simp [Act.eval, Act.put]) 54 [] [.int .i64 0, .int .i64 0, .int .i64 0, .int .i64 0, .int .u32 0, .slice none 0 0] [] HR.out rfl rfl Tryd.sizeF (by decide) ?_))
      rw [← HW8.out]
      exact bodyPost_ret (results_cell_tmp (t := 54) (p := 2) (u := 3) rfl _ _ w.heap.size _ (0, 0) _ rfl HR8.out Tryd.underlying54 rfl Tryd.sizeF) rfl (ReadNew.no HN.out HB8.out)
    | true =>
      have HN := Lib.hid (HRF.out (show readOK bs = true by
        rw [HFm.out]
        rw [decide_eq_true_eq] at hd ⊢
        exact hd.symm))
      obtain ⟨w8, hw8⟩ : ∃ x, x = World.setRow w7.drew w.heap.size xs.toArray := ⟨_, rfl⟩
      have HR8 := Lib.hid (show w8.heap[w.heap.size]? = some (.cells xs.toArray 54 (0, 0)) by rw [hw8]; exact setRow_heap _ _ _ _ _ _ HR.out)
      have hg8 : w7.drew.grownBy w8 (some w.heap.size) := by rw [hw8]; exact grown_setRow w7.drew w.heap.size _
      have HB8 := Lib.hid (HBw2.out.grown hg8 HBw2.out.size (fun k e => by cases e; omega))
      have hy8 := (HFv.out.load_by.off_row hlt7 HR.out (by intro u hu n e; subst e; simp at hu) hg8).mono (show w6.heap.size ≤ w8.heap.size by have := hg8.size; omega)
      have HF8 := Lib.hid (show FrV w8 w8.heap.size (frv A4 c4 F) F from ⟨A4, c4, rfl, hy8, HFv.out.load_le.1, HFv.out.load_le.2.1, HFv.out.load_le.2.2, HFv.out.fine⟩)
      have HW8 := Lib.hid hw8
      have HIz := Lib.hid (show (Tryd.prog.info? 54).map (·.size) = some xs.toArray.size by rw [List.size_toArray]; exact HI6.out)
      clear hw8 hd HFm hy8 hg8
      go_wp2_with (first
        | (refine wpList_load_part rfl 54 (.tmp 5) rfl w4.heap.size 0 (by simp [Act.eval, Act.put]) xs _ HXS.out Tryd.underlying54 rfl HI6.out ?_)
        | (refine wpList_store_part rfl 54 (.tmp 2) (.tmp 32) rfl w.heap.size 0 (by simp [Act.eval, Act.put]) xs (by simp [Act.eval, Act.put]) 54 [] [.int .i64 0, .int .i64 0, .int .i64 0, .int .i64 0, .int .u32 0, .slice none 0 0] [] HR.out rfl ?_ HI6.out HX1.out ?_))
      · rw [HXl.out]; rfl
      rw [← HW8.out]
      refine bodyPost_ret (results_cell_tmp (t := 54) (p := 2) (u := 3) rfl _ _ w.heap.size _ (0, 0) _ rfl HR8.out Tryd.underlying54 rfl HIz.out) rfl ?_
      obtain ⟨e1, e2⟩ := HN.out
      unfold ReadNew
      rw [e1, e2, HX.out]
      exact ⟨A4, c4, rfl, HF8.out, HB8.out, HF4.out⟩
theorem read_new (bs : List Nat) (A : Option Addr) (c : Nat) (w : World) (hl : bs.length ≤ 1000000000) (hA : By w w.heap.size A bs) (hW : Widths w) :
    Calls Tryd.prog 61 #[.slice A bs.length c] w (ReadNew w bs) := by
  by_cases h : bs.length = 64
  · exact read_sector bs A c w h hA hW
  · exact read_length bs A c w h hl
theorem read_any (bs : List Nat) (A : Option Addr) (c : Nat) (w : World) (hl : bs.length ≤ 1000000000) (hA : By w w.heap.size A bs) (hW : Widths w) :
    Calls Tryd.prog 61 #[.slice A bs.length c] w (ReadOut w bs) := (read_new bs A c w hl hA hW).mono fun _ _ h => h.out
end Go.Proofs.YtkajcgpkldofjaaDoor.Fm
end

section
/-
  A frame's own sector: what it reads as.
-/
namespace Go.Proofs.YtkajcgpkldofjaaDoor.Fm
set_option maxRecDepth 100000
open Go.RowKit

theorem drop_more (a r : List Nat) (n k : Nat) (h : a.length = n) : (a ++ r).drop (n + k) = r.drop k := by
  rw [← List.drop_drop, List.drop_left' h]
/-- the bytes of a frame's sector, one behind the other -/
theorem sector_parts (f : Fr) {s i p o : Nat} (e1 : f.seq = s) (e2 : f.inc = i) (e3 : f.part = p) (e4 : f.of = o) :
    ∃ R, Crc.sealed (secB f) = dig s 6 ++ (dig i 3 ++ (dig (16 * p + o) 1 ++ (dig f.load.length 1 ++ (dig f.mark 4 ++ (f.load ++ R))))) := by
  refine ⟨List.replicate (60 - (headB f ++ f.load).length) 0 ++ Crc.tail (Crc.sum (secB f)), ?_⟩
  show secB f ++ Crc.tail (Crc.sum (secB f)) = _
  conv => lhs; arg 1; unfold secB
  generalize List.replicate (60 - (headB f ++ f.load).length) 0 = Z
  generalize Crc.tail (Crc.sum (secB f)) = T
  unfold headB
  rw [e1, e2, e3, e4]
  simp only [Int.toNat_natCast, List.append_assoc]
theorem frame_own {f : Fr} (hm : mayB f = true) (hk : f.mark < 4294967296) : frameOf (Crc.sealed (secB f)) = f ∧ nv (Crc.sealed (secB f)) 3 = f.load.length := by
  obtain ⟨s, i, p, o, e1, e2, e3, e4, b1, b2, b3, b4, b5, b6, b7, b8⟩ := may_nat hm
  obtain ⟨R, hR⟩ := sector_parts f e1 e2 e3 e4
  generalize Crc.sealed (secB f) = X at *
  have d6 := dig_length 6 s
  have d3 := dig_length 3 i
  have d1 := dig_length 1 (16 * p + o)
  have d1' := dig_length 1 f.load.length
  have d4 := dig_length 4 f.mark
  have x6 : X.drop 6 = dig i 3 ++ (dig (16 * p + o) 1 ++ (dig f.load.length 1 ++ (dig f.mark 4 ++ (f.load ++ R)))) := by rw [hR]; exact List.drop_left' d6
  have x9 : X.drop 9 = dig (16 * p + o) 1 ++ (dig f.load.length 1 ++ (dig f.mark 4 ++ (f.load ++ R))) := by
    rw [show (9 : Nat) = 6 + 3 from rfl, ← List.drop_drop, x6]; exact List.drop_left' d3
  have x10 : X.drop 10 = dig f.load.length 1 ++ (dig f.mark 4 ++ (f.load ++ R)) := by
    rw [show (10 : Nat) = 9 + 1 from rfl, ← List.drop_drop, x9]; exact List.drop_left' d1
  have x11 : X.drop 11 = dig f.mark 4 ++ (f.load ++ R) := by
    rw [show (11 : Nat) = 10 + 1 from rfl, ← List.drop_drop, x10]; exact List.drop_left' d1'
  have x15 : X.drop 15 = f.load ++ R := by
    rw [show (15 : Nat) = 11 + 4 from rfl, ← List.drop_drop, x11]; exact List.drop_left' d4
  have n0 : nv X 0 = s := by
    show num ((X.drop 0).take 6) = s
    rw [List.drop_zero, hR, List.take_left' d6]
    exact num_dig 6 s (by omega)
  have n1 : nv X 1 = i := by
    show num ((X.drop 6).take 3) = i
    rw [x6, List.take_left' d3]
    exact num_dig 3 i (by omega)
  have n2 : nv X 2 = 16 * p + o := by
    show num ((X.drop 9).take 1) = _
    rw [x9, List.take_left' d1]
    exact num_dig 1 _ (by omega)
  have n3 : nv X 3 = f.load.length := by
    show num ((X.drop 10).take 1) = _
    rw [x10, List.take_left' d1']
    exact num_dig 1 _ (by omega)
  have n4 : nv X 4 = f.mark := by
    show num ((X.drop 11).take 4) = _
    rw [x11, List.take_left' d4]
    exact num_dig 4 _ (by omega)
  refine ⟨?_, n3⟩
  unfold frameOf
  rw [n0, n1, n2, n3, n4, x15, Nat.min_eq_left b8, List.take_left' rfl]
  rw [Fr.ext_iff']
  exact ⟨e1.symm, e2.symm, by rw [e3]; show (((16 * p + o) / 16 : Nat) : Int) = _; omega, by rw [e4]; show (((16 * p + o) % 16 : Nat) : Int) = _; omega, rfl, rfl⟩
theorem read_own {f : Fr} (hm : mayB f = true) (hk : f.mark < 4294967296) : readOK (Crc.sealed (secB f)) = true ∧ readF (Crc.sealed (secB f)) = f ∧ readE (Crc.sealed (secB f)) = 0 := by
  have h := (frame_own hm hk).1
  have hr : readOK (Crc.sealed (secB f)) = true := by
    unfold readOK
    rw [h, hm, Crc.sealed_length, secB_length (may_load hm)]
    simp
  unfold readF readE
  rw [if_pos hr, if_pos hr]
  exact ⟨hr, h, rfl⟩
theorem read_only {b : List Nat} (h : readOK b = true) : b.length = 64 ∧ mayB (frameOf b) = true ∧ Crc.sealed (secB (frameOf b)) = b := by
  unfold readOK at h
  simp only [Bool.and_eq_true, decide_eq_true_eq] at h
  exact ⟨h.1, h.2.1, h.2.2⟩
theorem read_unsealed {b : List Nat} (h : Crc.isSealed b = false) : readOK b = false := by
  cases hr : readOK b with
  | false => rfl
  | true =>
    obtain ⟨_, _, h3⟩ := read_only hr
    rw [← h3, Crc.isSealed_sealed] at h
    cases h
theorem read_great {b : List Nat} (hb : ∀ x ∈ b, x < 256) (h : 45 < nv b 3) : readOK b = false := by
  cases hr : readOK b with
  | false => rfl
  | true =>
    obtain ⟨h1, h2, h3⟩ := read_only hr
    have h4 := (frame_own h2 (frameOf_fine h1 hb).mark).2
    rw [h3] at h4
    have := may_load h2
    omega
theorem read_long {b : List Nat} (h : ¬ b.length = 64) : readOK b = false := by
  unfold readOK
  rw [decide_eq_false h]
  rfl
end Go.Proofs.YtkajcgpkldofjaaDoor.Fm
end

section
/-
  Plain facts on cutting and joining: the frames of a record may be, have its bytes, and are joined.
-/
namespace Go.Proofs.YtkajcgpkldofjaaDoor.Fm
set_option maxRecDepth 100000

theorem cut_ways {n : Nat} {seq inc : Int} (h : cutE n seq inc = 0) : cutN n = 1 ∧ n ≤ 45 ∨ cutN n = 2 ∧ 45 < n := by
  obtain ⟨h1, h2, _, _, _, _, h7, _⟩ := cutE_yes h
  unfold cutN at *
  omega
theorem cutAll_one {b : List Nat} {seq inc : Int} (h : cutN b.length = 1) : cutAll b seq inc = [cutOne b seq inc 0] := by
  unfold cutAll; rw [h]; rfl
theorem cutAll_two {b : List Nat} {seq inc : Int} (h : cutN b.length = 2) : cutAll b seq inc = [cutOne b seq inc 0, cutOne b seq inc 1] := by
  unfold cutAll; rw [h]; rfl
theorem cutAll_length (b : List Nat) (seq inc : Int) : (cutAll b seq inc).length = cutN b.length := by
  unfold cutAll; simp
theorem cutAll_get {b : List Nat} {seq inc : Int} {k : Nat} (h : k < (cutAll b seq inc).length) : (cutAll b seq inc)[k] = cutOne b seq inc k := by simp [cutAll]
theorem cutL_yes {b : List Nat} {seq inc : Int} (h : cutE b.length seq inc = 0) : cutL b seq inc = cutAll b seq inc := by unfold cutL; rw [if_pos h]
theorem cutL_no {b : List Nat} {seq inc : Int} (h : ¬ cutE b.length seq inc = 0) : cutL b seq inc = [] := by unfold cutL; rw [if_neg h]
theorem loads_cut {b : List Nat} {seq inc : Int} (h : cutE b.length seq inc = 0) : loads (cutAll b seq inc) = b := by
  obtain ⟨h1, h2, _⟩ := cutE_yes h
  rcases cut_ways h with ⟨hn, hl⟩ | ⟨hn, hl⟩
  · rw [cutAll_one hn]
    simp [loads, cutOne, List.take_of_length_le hl]
  · rw [cutAll_two hn]
    simp only [loads, cutOne, List.flatMap_cons, List.flatMap_nil, List.append_nil, Nat.zero_mul, List.drop_zero, Nat.one_mul]
    rw [List.take_of_length_le (l := b.drop 45) (by rw [List.length_drop]; omega), List.take_append_drop]
theorem may_cut {b : List Nat} {seq inc : Int} (h : cutE b.length seq inc = 0) : (cutAll b seq inc).all mayB = true := by
  obtain ⟨h1, h2, h3, h4, h5, h6, _⟩ := cutE_yes h
  rcases cut_ways h with ⟨hn, hl⟩ | ⟨hn, hl⟩
  · rw [cutAll_one hn, List.all_cons, List.all_nil, Bool.and_true]
    unfold mayB cutOne
    rw [decide_eq_true_eq, hn]
    simp only [List.length_take, List.length_drop]
    rw [hn] at h4
    omega
  · rw [cutAll_two hn, List.all_cons, List.all_cons, List.all_nil, Bool.and_true, Bool.and_eq_true]
    rw [hn] at h4
    unfold mayB cutOne
    rw [decide_eq_true_eq, decide_eq_true_eq, hn]
    simp only [List.length_take, List.length_drop]
    omega
/-- P4.3: Join of Cut -/
theorem join_cut {b : List Nat} {seq inc : Int} (h : cutE b.length seq inc = 0) : joinB (cutAll b seq inc) = true := by
  have hl := loads_cut h
  have hm := may_cut h
  obtain ⟨_, _, _, _, _, _, h7, h8⟩ := cutE_yes h
  have hlen := cutAll_length b seq inc
  have h0 : (cutAll b seq inc)[0]? = some (cutOne b seq inc 0) := by
    rcases cut_ways h with ⟨hn, _⟩ | ⟨hn, _⟩
    · rw [cutAll_one hn]; rfl
    · rw [cutAll_two hn]; rfl
  have hseq : (cutOne b seq inc 0).seq = seq := by simp [cutOne]
  generalize hx : cutAll b seq inc = l at *
  cases l with
  | nil => simp at h0
  | cons f r =>
    simp only [List.getElem?_cons_zero, Option.some.injEq] at h0
    have hs : f.seq = seq := by rw [h0]; exact hseq
    have hi : f.inc = inc := by rw [h0]; rfl
    have h2 : (f :: r).length ≤ 2 := by omega
    unfold joinB
    simp only [hl, hm, decide_eq_true h2, Bool.true_and, hs, hi]
    rw [decide_eq_true_eq]
    exact ⟨h, hx⟩
theorem join_first {f : Fr} (h : ¬ f.part = 0) : joinB [f] = false := by
  cases hj : joinB [f] with
  | false => rfl
  | true =>
    exfalso
    unfold joinB at hj
    simp only [Bool.and_eq_true, decide_eq_true_eq] at hj
    obtain ⟨_, hE, hc⟩ := hj
    rcases cut_ways hE with ⟨hn, _⟩ | ⟨hn, _⟩
    · rw [cutAll_one hn] at hc
      have := congrArg (fun l => l.map Fr.part) hc
      simp [cutOne] at this
      omega
    · rw [cutAll_two hn] at hc
      simp at hc
end Go.Proofs.YtkajcgpkldofjaaDoor.Fm
end

section
/-
  A journal as plain data: what a scan finds in sectors.
-/
namespace Go.Proofs.YtkajcgpkldofjaaDoor
open Go.RowKit Fm

/-- the bytes of a frame's sector -/
def byB (f : Fr) : List Nat := Crc.sealed (secB f)
/-- a sequence -/
def isSeq (s : Int) : Bool := decide (1 ≤ s) && decide (s ≤ 1099511627776)
/-- is a frame the next part of the record begun? -/
def followsB (begun : List Fr) (f : Fr) : Bool :=
  match begun with
  | [] => decide (f.part = 0)
  | g :: _ => decide (f.part = (begun.length : Nat)) && (decide (f.of = g.of) && (decide (f.mark = g.mark) && decide (f.inc = g.inc)))
/-- P6's Words: a good sector -/
def goodB (bs : List Nat) (seq inc : Int) (begun : List Fr) : Bool :=
  readOK bs && (decide ((readF bs).seq = seq) && (decide (inc ≤ (readF bs).inc) && followsB begun (readF bs)))
/-- P6's Words: scanning, so many sectors at most -/
def scanN (rd : Int → List Nat) : Nat → Int → Int → List Fr → List (Int × List Nat) → Int → List (Int × List Nat) × Int
  | 0, _, _, _, out, next => (out, next)
  | k + 1, seq, inc, begun, out, next =>
    if (isSeq seq && goodB (rd seq) seq inc begun) = true then
      (if (readF (rd seq)).part < (readF (rd seq)).of - 1 then scanN rd k (seq + 1) (readF (rd seq)).inc (begun ++ [readF (rd seq)]) out next
      else if joinB (begun ++ [readF (rd seq)]) = true then scanN rd k (seq + 1) (readF (rd seq)).inc [] (out ++ [(((begun ++ [readF (rd seq)]).headD zF).seq, joinR (begun ++ [readF (rd seq)]))]) (seq + 1)
      else (out, next))
    else (out, next)

section
variable {rd : Int → List Nat} {s i inc next : Int} {k : Nat} {b : List Nat} {out : List (Int × List Nat)}

theorem scan_bad {begun : List Fr} (h : isSeq s = false ∨ goodB (rd s) s inc begun = false) : scanN rd k s inc begun out next = (out, next) := by
  cases k with
  | zero => rfl
  | succ k =>
    have e : (isSeq s && goodB (rd s) s inc begun) = false := by rcases h with h | h <;> rw [h] <;> simp
    rw [scanN, if_neg (by rw [e]; simp)]
theorem cut_frame (hb : ∀ x ∈ b, x < 256) (hE : cutE b.length s i = 0) {j : Nat} (hj : j < cutN b.length) : mayB (cutOne b s i j) = true ∧ (cutOne b s i j).mark < 4294967296 := by
  have hm := may_cut hE
  rw [List.all_eq_true] at hm
  have hl : j < (cutAll b s i).length := by rw [cutAll_length]; exact hj
  have h := hm _ (List.getElem_mem hl)
  rw [cutAll_get] at h
  exact ⟨h, Crc.sum_lt hb⟩
theorem cut_read (hb : ∀ x ∈ b, x < 256) (hE : cutE b.length s i = 0) {j : Nat} (hj : j < cutN b.length) : readOK (byB (cutOne b s i j)) = true ∧ readF (byB (cutOne b s i j)) = cutOne b s i j := by
  obtain ⟨h1, h2⟩ := cut_frame hb hE hj
  obtain ⟨h3, h4, _⟩ := read_own h1 h2
  exact ⟨h3, h4⟩
theorem seq_cut (hE : cutE b.length s i = 0) {j : Nat} (hj : j < cutN b.length) : isSeq (s + (j : Int)) = true := by
  obtain ⟨_, _, h3, h4, _⟩ := cutE_yes hE
  unfold isSeq
  simp only [Bool.and_eq_true, decide_eq_true_eq]
  omega
theorem cut_good0 (hb : ∀ x ∈ b, x < 256) (hE : cutE b.length s i = 0) (hi : inc ≤ i) : goodB (byB (cutOne b s i 0)) s inc [] = true := by
  obtain ⟨_, _, _, _, _, _, _, h8⟩ := cutE_yes hE
  obtain ⟨h1, h2⟩ := cut_read hb hE (j := 0) (by omega)
  unfold goodB followsB
  rw [h1, h2]
  simp [cutOne, hi]
theorem cut_good1 (hb : ∀ x ∈ b, x < 256) (hE : cutE b.length s i = 0) (h2n : cutN b.length = 2) : goodB (byB (cutOne b s i 1)) (s + 1) i [cutOne b s i 0] = true := by
  obtain ⟨h1, h2⟩ := cut_read hb hE (j := 1) (by omega)
  unfold goodB followsB
  rw [h1, h2]
  simp [cutOne]

/-- a record whose sectors are all there is found -/
theorem scan_rec (hb : ∀ x ∈ b, x < 256) (hE : cutE b.length s i = 0) (hi : inc ≤ i) (hrd : ∀ j, j < cutN b.length → rd (s + (j : Int)) = byB (cutOne b s i j)) (k : Nat) :
    scanN rd (k + cutN b.length) s inc [] out next = scanN rd k (s + (cutN b.length : Nat)) i [] (out ++ [(s, b)]) (s + (cutN b.length : Nat)) := by
  have hj := join_cut hE
  have hl := loads_cut hE
  rcases cut_ways hE with ⟨hn, _⟩ | ⟨hn, _⟩
  · have r0 := hrd 0 (by omega)
    have q0 := seq_cut hE (j := 0) (by omega)
    have g0 := cut_good0 hb hE hi
    obtain ⟨_, e0⟩ := cut_read hb hE (j := 0) (by omega)
    rw [show s + ((0 : Nat) : Int) = s by omega] at r0 q0
    rw [cutAll_one hn] at hj hl
    rw [hn, scanN, r0, q0, g0, e0, if_pos (by rfl), if_neg (by simp [cutOne, hn]), List.nil_append, if_pos hj]
    unfold joinR
    rw [if_pos hj, hl]
    simp [cutOne]
  · have r0 := hrd 0 (by omega)
    have r1 := hrd 1 (by omega)
    have q0 := seq_cut hE (j := 0) (by omega)
    have q1 := seq_cut hE (j := 1) (by omega)
    have g0 := cut_good0 hb hE hi
    have g1 := cut_good1 hb hE hn
    obtain ⟨_, e0⟩ := cut_read hb hE (j := 0) (by omega)
    obtain ⟨_, e1⟩ := cut_read hb hE (j := 1) (by omega)
    rw [show s + ((0 : Nat) : Int) = s by omega] at r0 q0
    rw [show s + ((1 : Nat) : Int) = s + 1 by omega] at r1 q1
    rw [cutAll_two hn] at hj hl
    have i0 : (cutOne b s i 0).inc = i := rfl
    rw [hn, show k + 2 = (k + 1) + 1 by omega, scanN, r0, q0, g0, e0, if_pos (by rfl), if_pos (by simp [cutOne, hn]), List.nil_append, i0, scanN, r1, q1, g1, e1, if_pos (by rfl), if_neg (by simp [cutOne, hn]),
      show [cutOne b s i 0] ++ [cutOne b s i 1] = [cutOne b s i 0, cutOne b s i 1] from rfl, if_pos hj]
    unfold joinR
    rw [if_pos hj, hl, show s + 1 + 1 = s + ((2 : Nat) : Int) by omega]
    simp [cutOne]
/-- a record whose first sector is not good, or that wants another one that is not there, ends the scan -/
theorem scan_half (hb : ∀ x ∈ b, x < 256) (hE : cutE b.length s i = 0) (hi : inc ≤ i) (hn : cutN b.length = 2) (h0 : rd s = byB (cutOne b s i 0)) (h1 : k = 1 ∨ ∀ j, goodB (rd (s + 1)) (s + 1) j [cutOne b s i 0] = false) :
    scanN rd k s inc [] out next = (out, next) := by
  cases k with
  | zero => rfl
  | succ k =>
    have q0 := seq_cut hE (j := 0) (by omega)
    have g0 := cut_good0 hb hE hi
    obtain ⟨_, e0⟩ := cut_read hb hE (j := 0) (by omega)
    rw [show s + ((0 : Nat) : Int) = s by omega] at q0
    rw [scanN, h0, q0, g0, e0, if_pos (by rfl), if_pos (by simp [cutOne, hn]), List.nil_append]
    rcases h1 with h1 | h1
    · obtain rfl : k = 0 := by omega
      rfl
    · exact scan_bad (Or.inr (h1 _))
end

/-! ### records, one behind the other -/
/-- how many sectors records want -/
def total : List (List Nat) → Nat
  | [] => 0
  | b :: r => cutN b.length + total r
def framesOf (s i : Int) : List (List Nat) → List Fr
  | [] => []
  | b :: r => cutAll b s i ++ framesOf (s + (cutN b.length : Nat)) i r
/-- where the records of a scan begin -/
def recsAt (s : Int) : List (List Nat) → List (Int × List Nat)
  | [] => []
  | b :: r => (s, b) :: recsAt (s + (cutN b.length : Nat)) r
/-- records that are appended from s on, all of one incarnation -/
def Recs (s i : Int) : List (List Nat) → Prop
  | [] => True
  | b :: r => (cutE b.length s i = 0 ∧ ∀ x ∈ b, x < 256) ∧ Recs (s + (cutN b.length : Nat)) i r
theorem framesOf_length (s i : Int) (l : List (List Nat)) : (framesOf s i l).length = total l := by
  induction l generalizing s with
  | nil => rfl
  | cons b r ih => simp [framesOf, total, cutAll_length, ih]
theorem total_append (l m : List (List Nat)) : total (l ++ m) = total l + total m := by
  induction l with
  | nil => simp [total]
  | cons b r ih => simp [total, ih]; omega
theorem framesOf_append (s i : Int) (l m : List (List Nat)) : framesOf s i (l ++ m) = framesOf s i l ++ framesOf (s + (total l : Nat)) i m := by
  induction l generalizing s with
  | nil => simp [framesOf, total]
  | cons b r ih =>
    simp only [List.cons_append, framesOf, ih, total, List.append_assoc]
    rw [show s + ((cutN b.length : Nat) : Int) + ((total r : Nat) : Int) = s + ((cutN b.length + total r : Nat) : Int) by omega]
theorem recsAt_append (s : Int) (l m : List (List Nat)) : recsAt s (l ++ m) = recsAt s l ++ recsAt (s + (total l : Nat)) m := by
  induction l generalizing s with
  | nil => simp [recsAt, total]
  | cons b r ih =>
    simp only [List.cons_append, recsAt, ih, total]
    rw [show s + ((cutN b.length : Nat) : Int) + ((total r : Nat) : Int) = s + ((cutN b.length + total r : Nat) : Int) by omega]
theorem Recs.append {s i : Int} {l m : List (List Nat)} (h : Recs s i l) (h' : Recs (s + (total l : Nat)) i m) : Recs s i (l ++ m) := by
  induction l generalizing s with
  | nil => simpa [Recs, total] using h'
  | cons b r ih =>
    refine ⟨h.1, ih h.2 ?_⟩
    rw [show s + ((cutN b.length : Nat) : Int) + ((total r : Nat) : Int) = s + ((cutN b.length + total r : Nat) : Int) by omega]
    exact h'
theorem recsAt_map (s : Int) (l : List (List Nat)) : (recsAt s l).map (·.2) = l := by
  induction l generalizing s with
  | nil => rfl
  | cons b r ih => simp [recsAt, ih]
theorem recsAt_length (s : Int) (l : List (List Nat)) : (recsAt s l).length = l.length := by
  have h := congrArg List.length (recsAt_map s l)
  simpa using h
theorem frames_get0 {s i : Int} {b : List Nat} {r : List (List Nat)} {j : Nat} (hj : j < cutN b.length) : (framesOf s i (b :: r))[j]? = some (cutOne b s i j) := by
  have hl : j < (cutAll b s i).length := by rw [cutAll_length]; exact hj
  rw [framesOf, List.getElem?_append_left hl, List.getElem?_eq_getElem hl, cutAll_get]
theorem frames_get1 (s i : Int) (b : List Nat) (r : List (List Nat)) (j : Nat) : (framesOf s i (b :: r))[cutN b.length + j]? = (framesOf (s + (cutN b.length : Nat)) i r)[j]? := by
  rw [framesOf, List.getElem?_append_right (by rw [cutAll_length]; omega), cutAll_length, Nat.add_sub_cancel_left]

/-- all are there: all are found -/
theorem scan_recs {rd : Int → List Nat} {i : Int} : ∀ (l : List (List Nat)) (s inc : Int) (out : List (Int × List Nat)) (k : Nat), Recs s i l → inc ≤ i → (∀ (j : Nat) (f : Fr), (framesOf s i l)[j]? = some f → rd (s + (j : Int)) = byB f) →
    scanN rd (k + total l) s inc [] out s = scanN rd k (s + (total l : Nat)) (if l = [] then inc else i) [] (out ++ recsAt s l) (s + (total l : Nat))
  | [], s, inc, out, k, _, _, _ => by simp [total, recsAt]
  | b :: r, s, inc, out, k, h, hi, hrd => by
    have h1 := scan_rec (next := s) (out := out) h.1.2 h.1.1 hi (fun j hj => hrd j _ (frames_get0 hj)) (k + total r)
    rw [total, show k + (cutN b.length + total r) = k + total r + cutN b.length by omega, h1,
      scan_recs r (s + (cutN b.length : Nat)) i (out ++ [(s, b)]) k h.2 (Int.le_refl _) (fun j f hf => by
        have h2 := hrd (cutN b.length + j) f (by rw [frames_get1]; exact hf)
        rw [show s + ((cutN b.length + j : Nat) : Int) = s + ((cutN b.length : Nat) : Int) + (j : Int) by omega] at h2
        exact h2)]
    rw [if_neg (by simp : ¬ (b :: r) = []), recsAt, List.append_assoc, show s + ((cutN b.length : Nat) : Int) + ((total r : Nat) : Int) = s + ((cutN b.length + total r : Nat) : Int) by omega]
    cases r <;> rfl
/-- some are there: a beginning is found, and all of which all sectors are there ahead of it -/
theorem scan_some {rd : Int → List Nat} {i : Int} : ∀ (l : List (List Nat)) (s inc : Int) (out : List (Int × List Nat)) (k : Nat), Recs s i l → inc ≤ i →
    (∀ (j : Nat) (f : Fr), (framesOf s i l)[j]? = some f → rd (s + (j : Int)) = byB f ∨ readOK (rd (s + (j : Int))) = false) → (total l < k → readOK (rd (s + (total l : Nat))) = false) →
    ∃ r, r ≤ l.length ∧ scanN rd k s inc [] out s = (out ++ recsAt s (l.take r), s + (total (l.take r) : Nat)) ∧
      ∀ q, q ≤ l.length → total (l.take q) ≤ k → (∀ (j : Nat) (f : Fr), (framesOf s i (l.take q))[j]? = some f → rd (s + (j : Int)) = byB f) → q ≤ r
  | [], s, inc, out, k, _, _, _, hend => by
    refine ⟨0, Nat.le_refl _, ?_, fun q hq _ _ => by simpa using hq⟩
    cases k with
    | zero => simp [scanN, recsAt, total]
    | succ k =>
      have h := hend (by simp [total])
      rw [total, show s + ((0 : Nat) : Int) = s by omega] at h
      rw [scan_bad (Or.inr (by unfold goodB; rw [h]; rfl))]
      simp [recsAt, total]
  | b :: r, s, inc, out, k, h, hi, hrd, hend => by
    have hc := cut_ways h.1.1
    by_cases hall : cutN b.length ≤ k ∧ ∀ j, j < cutN b.length → rd (s + (j : Int)) = byB (cutOne b s i j)
    · obtain ⟨k', rfl⟩ : ∃ k', k = k' + cutN b.length := ⟨k - cutN b.length, by omega⟩
      have hfwd : ∀ (j : Nat) (f : Fr), (framesOf (s + (cutN b.length : Nat)) i r)[j]? = some f → rd (s + (cutN b.length : Nat) + (j : Int)) = byB f ∨ readOK (rd (s + (cutN b.length : Nat) + (j : Int))) = false := fun j f hf => by
        have h2 := hrd (cutN b.length + j) f (by rw [frames_get1]; exact hf)
        rw [show s + ((cutN b.length + j : Nat) : Int) = s + ((cutN b.length : Nat) : Int) + (j : Int) by omega] at h2
        exact h2
      have hend' : total r < k' → readOK (rd (s + (cutN b.length : Nat) + (total r : Nat))) = false := fun hlt => by
        have h2 := hend (by unfold total; omega)
        rw [total, show s + ((cutN b.length + total r : Nat) : Int) = s + ((cutN b.length : Nat) : Int) + ((total r : Nat) : Int) by omega] at h2
        exact h2
      obtain ⟨q, hq, he, hq2⟩ := scan_some r (s + (cutN b.length : Nat)) i (out ++ [(s, b)]) k' h.2 (Int.le_refl _) hfwd hend'
      refine ⟨q + 1, by simpa using hq, ?_, fun p hp hpk hpf => ?_⟩
      · rw [scan_rec h.1.2 h.1.1 hi hall.2, he, List.take_succ_cons, recsAt, total, List.append_assoc, show s + ((cutN b.length : Nat) : Int) + ((total (r.take q) : Nat) : Int) = s + ((cutN b.length + total (r.take q) : Nat) : Int) by omega]
        rfl
      · cases p with
        | zero => omega
        | succ p =>
          have := hq2 p (by simpa using hp) (by rw [List.take_succ_cons, total] at hpk; omega) (fun j f hf => by
            have h2 := hpf (cutN b.length + j) f (by rw [List.take_succ_cons, frames_get1]; exact hf)
            rw [show s + ((cutN b.length + j : Nat) : Int) = s + ((cutN b.length : Nat) : Int) + (j : Int) by omega] at h2
            exact h2)
          omega
    · refine ⟨0, Nat.zero_le _, ?_, fun p hp hpk hpf => ?_⟩
      · have stop : scanN rd k s inc [] out s = (out, s) := by
          by_cases h0 : rd s = byB (cutOne b s i 0)
          · rcases hc with ⟨hn, _⟩ | ⟨hn, _⟩
            · cases k with
              | zero => rfl
              | succ k =>
                refine absurd ⟨by omega, fun j hj => ?_⟩ hall
                obtain rfl : j = 0 := by omega
                rw [show s + ((0 : Nat) : Int) = s by omega]
                exact h0
            · by_cases hk : k ≤ 1
              · cases k with
                | zero => rfl
                | succ k => exact scan_half h.1.2 h.1.1 hi hn h0 (Or.inl (by omega))
              · refine scan_half h.1.2 h.1.1 hi hn h0 (Or.inr fun j => ?_)
                rcases hrd 1 _ (frames_get0 (by omega)) with h1 | h1
                · refine absurd ⟨by omega, fun j hj => ?_⟩ hall
                  have : j = 0 ∨ j = 1 := by omega
                  rcases this with rfl | rfl
                  · rw [show s + ((0 : Nat) : Int) = s by omega]; exact h0
                  · exact h1
                · rw [show s + ((1 : Nat) : Int) = s + 1 by omega] at h1
                  unfold goodB; rw [h1]; rfl
          · rcases hrd 0 _ (frames_get0 (by omega)) with h1 | h1
            · rw [show s + ((0 : Nat) : Int) = s by omega] at h1; exact absurd h1 h0
            · rw [show s + ((0 : Nat) : Int) = s by omega] at h1
              exact scan_bad (Or.inr (by unfold goodB; rw [h1]; rfl))
        rw [stop]; simp [recsAt, total]
      · cases p with
        | zero => exact Nat.le_refl _
        | succ p =>
          refine absurd ⟨?_, fun j hj => hpf j _ (by rw [List.take_succ_cons]; exact frames_get0 hj)⟩ hall
          rw [List.take_succ_cons, total] at hpk; omega
end Go.Proofs.YtkajcgpkldofjaaDoor
end

section
/-
  A part of a block read and written as one value; what stays while some blocks turn; arrays of 64 bytes.
-/
namespace Go.Proofs.YtkajcgpkldofjaaDoor.Dk
set_option maxRecDepth 100000
open Go.RowKit Go.Maps

/-! ### a part of a block -/
section
variable {P : Program}
theorem run_load_part (w : World) (g off : Nat) (ty : TypeId) (xs : List Value) (d : TypeDesc) (hc : ∀ j u, xs[j]? = some u → w.cell? ⟨g, off + j, none⟩ = some u)
    (hu : P.underlying ty = some d) (hd : (match d with | .struct _ | .array _ _ => true | _ => false) = true) (hi : (P.info? ty).map (·.size) = some xs.length) :
    (loadVar ty ⟨g, off, none⟩).run P w = .ok (.agg xs.toArray) w := by
  have hl := run_loadCells_list (P := P) w ⟨g, off, none⟩ xs (fun j v hv => by rw [add_flat]; exact hc j v hv)
  cases hq : P.info? ty with
  | none => simp [hq] at hi
  | some i =>
    have hs : i.size = xs.length := by simpa [hq] using hi
    have hagg : (isAgg ty).run P w = .ok true w := by
      unfold isAgg
      rw [Sem.run_bind, run_underlying hu w]
      cases d <;> simp_all
    simp [loadVar, Sem.run_bind, hagg, sizeOf, typeInfo, hq, hs, hl]
theorem wp_load_part {o : Oper} {a : Act} {w : World} {K : Act → World → Prop} {Q : Exit → Act → World → Prop} (ty : TypeId) (x : Operand) (ho : o.op = .load ty x)
    (g off : Nat) (hx : a.eval x = .pointer (some ⟨g, off, none⟩)) (xs : List Value) (d : TypeDesc) (hc : ∀ j u, xs[j]? = some u → w.cell? ⟨g, off + j, none⟩ = some u)
    (hu : P.underlying ty = some d) (hd : (match d with | .struct _ | .array _ _ => true | _ => false) = true) (hi : (P.info? ty).map (·.size) = some xs.length)
    (h : K (a.put o.dst (.agg xs.toArray)) w) : o.wp P a w K Q := by
  unfold Oper.wp execOp
  simp only [ho, hx, Instr.loadAt, Instr.sureAddr, Sem.run_bind, Sem.run_pure, Result.andThen_ok, run_load_part w g off ty xs d hc hu hd hi]
  exact h
theorem wpList_load_part {ops : Array Oper} {rest : List Oper} {o : Oper} {a : Act} {w : World} {Q : Exit → Act → World → Prop} (hgd : o.guard = none) (ty : TypeId) (x : Operand) (ho : o.op = .load ty x)
    (g off : Nat) (hx : a.eval x = .pointer (some ⟨g, off, none⟩)) (xs : List Value) (d : TypeDesc) (hc : ∀ j u, xs[j]? = some u → w.cell? ⟨g, off + j, none⟩ = some u)
    (hu : P.underlying ty = some d) (hd : (match d with | .struct _ | .array _ _ => true | _ => false) = true) (hi : (P.info? ty).map (·.size) = some xs.length)
    (h : wpList P ops Q rest (a.put o.dst (.agg xs.toArray)) w) : wpList P ops Q (o :: rest) a w :=
  wpList_plain hgd fun _ hK => wp_load_part ty x ho g off hx xs d hc hu hd hi (hK _ _ h)

theorem run_storeCells_part (g : Nat) (t : TypeId) : ∀ (vs : List Value) (off i : Nat) (pre post old : List Value) (w : World), w.heap[g]? = some (.cells (pre ++ old ++ post).toArray t (0, 0)) → pre.length = off + i → old.length = vs.length →
    (∀ v ∈ vs, v.oneCell' = true) → (storeCells ⟨g, off, none⟩ vs i).run P w = .ok () (w.setRow g (pre ++ vs ++ post).toArray)
  | [], off, i, pre, post, old, w, hg, _, hl, _ => by
    obtain rfl : old = [] := List.eq_nil_of_length_eq_zero (by simpa using hl)
    have := run_storeCells_from (P := P) g t [] (pre ++ [] ++ post).length (pre ++ [] ++ post).toArray w hg (by simp) (by simp)
    simp only [storeCells, List.append_nil] at this ⊢
    rw [List.take_of_length_le (by simp)] at this
    simpa using this
  | v :: rest, off, i, pre, post, old, w, hg, hp, hl, h1 => by
    obtain ⟨y, ys, rfl⟩ : ∃ y ys, old = y :: ys := by
      cases old with
      | nil => simp at hl
      | cons y ys => exact ⟨y, ys, rfl⟩
    have hat : (pre ++ y :: ys ++ post).toArray[off + i]? = some y := by
      rw [← hp]; simp
    have hcell : w.cell? ⟨g, off + i, none⟩ = some y := by rw [cell_of_row w g (off + i) _ _ _ hg]; exact hat
    have hfro := frozen_of_row w g (off + i) _ _ hg
    have hst : (store ((⟨g, off, none⟩ : Addr).add i) v).run P w = .ok () (w.setCell ⟨g, off + i, none⟩ v) := by
      rw [add_flat, run_store P w _ v _ (h1 v (by simp)), hcell]
      simp [hfro]
    have hset : (pre ++ y :: ys ++ post).toArray.setIfInBounds (off + i) v = ((pre ++ [v]) ++ ys ++ post).toArray := by
      rw [← hp]; simp
    have hg2 : (w.setCell ⟨g, off + i, none⟩ v).heap[g]? = some (.cells ((pre ++ [v]) ++ ys ++ post).toArray t (0, 0)) := by
      rw [heap_setCell_same w g (off + i) _ _ v hg, hset]
    have ih := run_storeCells_part g t rest off (i + 1) (pre ++ [v]) post ys (w.setCell ⟨g, off + i, none⟩ v) hg2 (by simp; omega) (by simpa using hl) (fun x hx => h1 x (by simp [hx]))
    simp only [storeCells, Sem.run_bind, hst, Result.andThen_ok, ih]
    rw [setCell_eq_setRow w g (off + i) _ _ _ v hg, setRow_setRow]
    simp

theorem run_store_part (w : World) (g : Nat) (t ty : TypeId) (pre old post xs : List Value) (hg : w.heap[g]? = some (.cells (pre ++ old ++ post).toArray t (0, 0))) (ho : old.length = xs.length)
    (hi : (P.info? ty).map (·.size) = some xs.length) (h1 : ∀ v ∈ xs, v.oneCell' = true) :
    (storeVar ty ⟨g, pre.length, none⟩ (.agg xs.toArray)).run P w = .ok () (w.setRow g (pre ++ xs ++ post).toArray) := by
  have := run_storeCells_part (P := P) g t xs pre.length 0 pre post old w hg rfl ho h1
  cases hq : P.info? ty with
  | none => simp [hq] at hi
  | some i =>
    have hs : xs.length = i.size := by simp [hq] at hi; omega
    simp [storeVar, sizeOf, typeInfo, hq, Value.cells, hs, this]
theorem wp_store_part {o : Oper} {a : Act} {w : World} {K : Act → World → Prop} {Q : Exit → Act → World → Prop} (ty : TypeId) (x y : Operand) (ho : o.op = .store ty x y)
    (g off : Nat) (hx : a.eval x = .pointer (some ⟨g, off, none⟩)) (xs : List Value) (hy : a.eval y = .agg xs.toArray) (t : TypeId) (pre old post : List Value)
    (hg : w.heap[g]? = some (.cells (pre ++ old ++ post).toArray t (0, 0))) (hoff : pre.length = off) (hold : old.length = xs.length) (hi : (P.info? ty).map (·.size) = some xs.length) (h1 : ∀ v ∈ xs, v.oneCell' = true)
    (h : K (a.put o.dst undef) (w.setRow g (pre ++ xs ++ post).toArray)) : o.wp P a w K Q := by
  subst hoff
  unfold Oper.wp execOp
  simp only [ho, hx, hy, Instr.storeAt, Instr.sureAddr, Sem.run_bind, Sem.run_pure, Result.andThen_ok, run_store_part w g t ty pre old post xs hg hold hi h1]
  exact h
theorem wpList_store_part {ops : Array Oper} {rest : List Oper} {o : Oper} {a : Act} {w : World} {Q : Exit → Act → World → Prop} (hgd : o.guard = none) (ty : TypeId) (x y : Operand) (ho : o.op = .store ty x y)
    (g off : Nat) (hx : a.eval x = .pointer (some ⟨g, off, none⟩)) (xs : List Value) (hy : a.eval y = .agg xs.toArray) (t : TypeId) (pre old post : List Value)
    (hg : w.heap[g]? = some (.cells (pre ++ old ++ post).toArray t (0, 0))) (hoff : pre.length = off) (hold : old.length = xs.length) (hi : (P.info? ty).map (·.size) = some xs.length) (h1 : ∀ v ∈ xs, v.oneCell' = true)
    (h : wpList P ops Q rest (a.put o.dst undef) (w.setRow g (pre ++ xs ++ post).toArray)) : wpList P ops Q (o :: rest) a w :=
  wpList_plain hgd fun _ hK => wp_store_part ty x y ho g off hx xs hy t pre old post hg hoff hold hi h1 (hK _ _ h)

/-- a step of a region that draws its order -/
theorem step_of_wp_ {ops : Array Oper} {o : Oper} {a : Act} {w : World} {K : Act → World → Prop} {Q : Exit → Act → World → Prop} {E : Prop} (hgd : o.guard = none) (h : o.wp P a w K Q) : if Region.wanted o (yielded ops a.tmps) = true then Oper.wp P o a w K Q else E := by
  have hw : Region.wanted o (yielded ops a.tmps) = true := by simp [Region.wanted, hgd]
  rw [if_pos hw]
  exact h
theorem wp_value {o : Oper} {a : Act} {w w' : World} {K : Act → World → Prop} {Q : Exit → Act → World → Prop} {v : Value} (hrun : (execOp a.eval o).run P w = .ok (.value v) w') (h : K (a.put o.dst v) w') : o.wp P a w K Q := by
  unfold Oper.wp
  rw [hrun, Oper.upon_value]
  exact h
theorem wp_mapUpdate {o : Oper} {a : Act} {w w' : World} {K : Act → World → Prop} {Q : Exit → Act → World → Prop} (t : TypeId) (m x v : Operand) (hop : o.op = .mapUpdate t m x v) (M key val : Value) (hm : a.eval m = M) (hx : a.eval x = key) (hv : a.eval v = val)
    (hrun : (Instr.mapUpdate t M key val).run P w = .ok () w') (h : K (a.put o.dst undef) w') : o.wp P a w K Q := by
  unfold Oper.wp
  simp [execOp, hop, hm, hx, hv, hrun, Result.andThen]
  exact h
theorem laid_from : ∀ (vs Z pre : List Value), vs.length ≤ Z.length → List.foldl (fun (cs : Array Value) (x : Value × Nat) => cs.setIfInBounds x.snd x.fst) (pre ++ Z).toArray (vs.zipIdx pre.length) = (pre ++ (vs ++ Z.drop vs.length)).toArray := by
  intro vs
  induction vs with
  | nil => intro Z pre _; simp
  | cons v t ih =>
    intro Z pre h
    cases Z with
    | nil => simp at h
    | cons z r =>
      rw [List.zipIdx_cons, List.foldl_cons]
      have e : (pre ++ z :: r).toArray.setIfInBounds pre.length v = ((pre ++ [v]) ++ r).toArray := by simp [List.set_append]
      have hi := ih r (pre ++ [v]) (by simpa using h)
      rw [List.length_append, List.length_singleton] at hi
      rw [e, hi]
      simp
theorem fill_one (xs : List Value) (base : Array Value) (n : Nat) (hn : xs.length = n) (hb : base.size = n) : Instr.fill (fun i => some (i * n, n)) base [(0, .agg xs.toArray)] = some xs.toArray := by
  have h := laid_from xs base.toList [] (by simp; omega)
  rw [List.drop_of_length_le (by simp; omega)] at h
  simp only [Instr.fill, Value.cells, List.size_toArray, hn, hb]
  simp only [Nat.zero_mul, Nat.zero_add, ne_eq, not_true_eq_false, decide_false, Bool.false_or, gt_iff_lt, Nat.lt_irrefl]
  simp at h
  simpa using h
/-- a slice literal of one array -/
theorem run_buildSlice_one (w : World) (t e : TypeId) (i : TypeInfo) (z : Value) (n : Nat) (ht : P.underlying t = some (.slice e)) (hi : P.info? e = some i) (hz : i.zero = some z) (hs : i.size = n) (h0 : 0 < n) (h1 : n ≤ 1000) (xs : List Value) (hx : xs.length = n) :
    (Instr.buildSlice t 1 #[(0, .agg xs.toArray)]).run P w = .ok (.slice (some ⟨w.heap.size, 0, none⟩) 1 1) (w.alloc (.cells xs.toArray e)) := by
  have hf := fill_one xs ((Array.range n).map (z.cells[· % z.cells.size]!)) n hx (by simp)
  have h2 : ¬ 16777216 < n := by omega
  have h3 : ¬ n = 0 := by omega
  simp [Instr.buildSlice, run_underlying ht, sizeOf, typeInfo, zeroValue, hi, hz, hs, h2, h3, hf, newRow]

/-- a new variable of whatever type -/
theorem wp_alloc_any {o : Oper} {a : Act} {w : World} {K : Act → World → Prop} {Q : Exit → Act → World → Prop} (ty : TypeId) (ho : o.op = .alloc ty) (z : Array Value) (hz : (P.info? ty).map (·.zero) = some (some (.agg z)))
    (h : K (a.put o.dst (.pointer (some ⟨w.heap.size, 0, none⟩))) (w.alloc (.cells z ty))) : o.wp P a w K Q := by
  have hzv : (zeroValue ty).run P w = .ok (.agg z) w := by
    cases hq : P.info? ty with
    | none => simp [hq] at hz
    | some i =>
      have hs : i.zero = some (.agg z) := by simpa [hq] using hz
      simp [zeroValue, typeInfo, hq, hs]
  unfold Oper.wp execOp
  simp only [ho, Instr.alloc, Sem.run_bind, hzv, Result.andThen_ok]
  simp [newVar, newRow, Value.cells, go_sem, Result.andThen]
  exact h
theorem wpList_alloc_any {ops : Array Oper} {rest : List Oper} {o : Oper} {a : Act} {w : World} {Q : Exit → Act → World → Prop} (hgd : o.guard = none) (ty : TypeId) (ho : o.op = .alloc ty) (z : Array Value) (hz : (P.info? ty).map (·.zero) = some (some (.agg z)))
    (h : wpList P ops Q rest (a.put o.dst (.pointer (some ⟨w.heap.size, 0, none⟩))) (w.alloc (.cells z ty))) : wpList P ops Q (o :: rest) a w := by
  refine wpList_plain hgd fun _ hK => ?_
  have hzv : (zeroValue ty).run P w = .ok (.agg z) w := by
    cases hq : P.info? ty with
    | none => simp [hq] at hz
    | some i =>
      have hs : i.zero = some (.agg z) := by simpa [hq] using hz
      simp [zeroValue, typeInfo, hq, hs]
  unfold Oper.wp execOp
  simp only [ho, Instr.alloc, Sem.run_bind, hzv, Result.andThen_ok]
  simp [newVar, newRow, Value.cells, go_sem, Result.andThen]
  exact hK _ _ h
end

/-! ### what stays -/
/-- No block has turned but those of S. -/
structure Kept (S : Nat → Prop) (w w' : World) : Prop where
  os : w'.os = w.os
  tape : w'.tape = w.tape
  output : w'.output = w.output
  size : w.heap.size ≤ w'.heap.size
  block : ∀ k, k < w.heap.size → ¬ S k → w'.heap[k]? = w.heap[k]?
section
variable {S S' : Nat → Prop} {a b c w w' : World}
theorem Kept.refl (S : Nat → Prop) (w : World) : Kept S w w := ⟨rfl, rfl, rfl, Nat.le_refl _, fun _ _ _ => rfl⟩
theorem Kept.trans (h : Kept S a b) (k : Kept S' b c) (hs : ∀ i, i < a.heap.size → S' i → S i) : Kept S a c :=
  ⟨k.os.trans h.os, k.tape.trans h.tape, k.output.trans h.output, Nat.le_trans h.size k.size, fun i hi hne => (k.block i (Nat.lt_of_lt_of_le hi h.size) (fun e => hne (hs i hi e))).trans (h.block i hi hne)⟩
theorem Kept.mono (h : Kept S a b) (hs : ∀ i, i < a.heap.size → S i → S' i) : Kept S' a b := ⟨h.os, h.tape, h.output, h.size, fun i hi hne => h.block i hi (fun e => hne (hs i hi e))⟩
theorem Kept.grown (h : Kept S a b) {row : Option Nat} (hg : b.grownBy c row) (hr : ∀ k, row = some k → k < a.heap.size → S k) : Kept S a c :=
  ⟨hg.os.trans h.os, hg.tape.trans h.tape, hg.output.trans h.output, Nat.le_trans h.size hg.size, fun i hi hne => (hg.block i (Nat.lt_of_lt_of_le hi h.size) (fun e => hne (hr i e.symm hi))).trans (h.block i hi hne)⟩
theorem Kept.below (h : Kept S a b) {B : Nat} (hB : B ≤ b.heap.size) (hw : Below B b c) (hS : a.heap.size ≤ B ∨ ∀ k, B ≤ k → k < a.heap.size → S k) : Kept S a c :=
  ⟨hw.os.trans h.os, hw.tape.trans h.tape, hw.output.trans h.output, Nat.le_trans h.size hw.size, fun i hi hne => (hw.block i (by
    rcases hS with hS | hS
    · omega
    · rcases Nat.lt_or_ge i B with h1 | h1
      · exact h1
      · exact absurd (hS i h1 hi) hne)).trans (h.block i hi hne)⟩
theorem Kept.of_below {B : Nat} (hw : Below B a b) (hB : a.heap.size ≤ B) : Kept S a b := ⟨hw.os, hw.tape, hw.output, hw.size, fun i hi _ => hw.block i (by omega)⟩
theorem Kept.to_below (h : Kept S a b) {B : Nat} (hB : B ≤ a.heap.size) (hs : ∀ k, k < B → ¬ S k) : Below B a b := ⟨h.os, h.tape, h.output, h.size, fun i hi => h.block i (by omega) (hs i hi)⟩
theorem Kept.alloc (h : Kept S a b) (o : Obj) : Kept S a (b.alloc o) := h.grown (World.grownBy_alloc b o none) (fun _ e => by cases e)
theorem Kept.drew (h : Kept S a b) : Kept S a b.drew := ⟨h.os, h.tape, h.output, h.size, h.block⟩
theorem grown_setRow (w : World) (g : Nat) (cs : Array Value) : w.grownBy (w.setRow g cs) (some g) := ⟨rfl, rfl, rfl, by simp, fun k _ hk => setRow_other w g k _ (fun e => hk (by rw [e]))⟩
theorem grown_setCell (w : World) (g j : Nat) (u : Value) : w.grownBy (w.setCell ⟨g, j, none⟩ u) (some g) := only_set (only_refl w (some g)) u
theorem Kept.cell (h : Kept S a b) {p : Addr} (hp : p.block < a.heap.size) (hn : ¬ S p.block) : b.cell? p = a.cell? p := World.cell?_of_block (w := a) (h.block p.block hp hn)
end

/-! ### arrays of 64 bytes -/
theorem Tryd.info71 : (Tryd.prog.info? 71).map (fun i => (i.zero, i.size, i.bytes)) = some (some (.agg (Array.replicate 64 (.int .u8 0))), 64, 64) := by kernel_rfl
theorem sector_size : (Tryd.prog.info? 71).map (·.size) = some 64 := by kernel_rfl
theorem sector_zero : (Tryd.prog.info? 71).map (·.zero) = some (some (.agg (vals (List.replicate 64 0)).toArray)) := by kernel_rfl
theorem sector_info (bs : List Nat) (h : bs.length = 64) : (Tryd.prog.info? 71).map (·.size) = some (vals bs).length := by rw [vals_length, h]; exact sector_size
/-- the bytes of a sector -/
def Sec (bs : List Nat) : Prop := bs.length = 64 ∧ ∀ x ∈ bs, x < 256
/-- some bytes, and 0s behind them -/
def padded (bs : List Nat) : List Nat := bs ++ List.replicate (64 - bs.length) 0
theorem padded_sec {bs : List Nat} (h : bs.length ≤ 64) (hb : ∀ x ∈ bs, x < 256) : Sec (padded bs) := by
  refine ⟨by simp [padded]; omega, fun x hx => ?_⟩
  rcases List.mem_append.1 hx with h1 | h1
  · exact hb x h1
  · have := List.eq_of_mem_replicate h1
    omega
/-- a sector, as a value -/
def sval (bs : List Nat) : Value := .agg (vals bs).toArray
theorem sec_zero : Sec (List.replicate 64 0) := ⟨by simp, fun x hx => by have := List.eq_of_mem_replicate hx; omega⟩
end Go.Proofs.YtkajcgpkldofjaaDoor.Dk
end

section
/-
  A disk in memory: its sectors as they are durably, and the writes since, a row of them for each sector.
-/
namespace Go.Proofs.YtkajcgpkldofjaaDoor.Dk
set_option maxRecDepth 100000
open Go.RowKit Go.Maps

/-- a disk, as it is thought -/
structure Dk where
  dur : Nat → List Nat
  cache : Nat → List (List Nat)
  down : Bool

/-! ### 34 sectors, one behind the other -/
def flat (f : Nat → List Nat) : List Nat := (List.range 34).flatMap f
def ahead (f : Nat → List Nat) (n : Nat) : List Nat := (List.range n).flatMap f
def behindS (f : Nat → List Nat) (n : Nat) : List Nat := (List.range' (n + 1) (33 - n)).flatMap f
def upd {α : Type} (f : Nat → α) (n : Nat) (x : α) : Nat → α := fun k => if k = n then x else f k
theorem upd_same {α : Type} (f : Nat → α) (n : Nat) (x : α) : upd f n x n = x := by simp [upd]
theorem upd_other {α : Type} (f : Nat → α) {n k : Nat} (x : α) (h : k ≠ n) : upd f n x k = f k := by simp [upd, h]
theorem flat_split (f : Nat → List Nat) {n : Nat} (h : n < 34) : flat f = ahead f n ++ f n ++ behindS f n := by
  have e : List.range 34 = List.range n ++ (n :: List.range' (n + 1) (33 - n)) := by
    have h1 : List.range 34 = List.range' 0 n ++ List.range' (0 + n) (34 - n) := by
      have h2 := List.range'_append_1 (s := 0) (m := n) (n := 34 - n)
      rw [show n + (34 - n) = 34 by omega] at h2
      rw [List.range_eq_range', h2]
    rw [h1, ← List.range_eq_range', Nat.zero_add, show 34 - n = (33 - n) + 1 by omega, List.range'_succ]
  unfold flat ahead behindS
  rw [e, List.flatMap_append, List.flatMap_cons, List.append_assoc]
theorem flatMap_len {f : Nat → List Nat} {l : List Nat} (h : ∀ n ∈ l, (f n).length = 64) : (l.flatMap f).length = l.length * 64 := by
  induction l with
  | nil => rfl
  | cons a r ih =>
    rw [List.flatMap_cons, List.length_append, ih (fun n hn => h n (List.mem_cons_of_mem _ hn)), h a List.mem_cons_self, List.length_cons, Nat.succ_mul, Nat.add_comm]
theorem flat_len {f : Nat → List Nat} (h : ∀ n, n < 34 → Sec (f n)) : (flat f).length = 2176 := by
  unfold flat
  rw [flatMap_len (fun n hn => (h n (List.mem_range.1 hn)).1), List.length_range]
theorem ahead_len {f : Nat → List Nat} (h : ∀ n, n < 34 → Sec (f n)) {n : Nat} (hn : n ≤ 34) : (ahead f n).length = n * 64 := by
  unfold ahead
  rw [flatMap_len (fun k hk => (h k (by have := List.mem_range.1 hk; omega)).1), List.length_range]
theorem flat_lt {f : Nat → List Nat} (h : ∀ n, n < 34 → Sec (f n)) : ∀ x ∈ flat f, x < 256 := by
  intro x hx
  obtain ⟨n, hn, h1⟩ := List.mem_flatMap.1 hx
  exact (h n (List.mem_range.1 hn)).2 x h1
theorem flatMap_congr' {f g : Nat → List Nat} {l : List Nat} (h : ∀ n ∈ l, f n = g n) : l.flatMap f = l.flatMap g := by
  induction l with
  | nil => rfl
  | cons a r ih => rw [List.flatMap_cons, List.flatMap_cons, h a List.mem_cons_self, ih (fun n hn => h n (List.mem_cons_of_mem _ hn))]
theorem flat_congr {f g : Nat → List Nat} (h : ∀ n, n < 34 → f n = g n) : flat f = flat g := flatMap_congr' fun n hn => h n (List.mem_range.1 hn)
theorem flat_upd (f : Nat → List Nat) {n : Nat} (h : n < 34) (s : List Nat) : flat (upd f n s) = ahead f n ++ s ++ behindS f n := by
  rw [flat_split (upd f n s) h, upd_same]
  congr 1
  · congr 1
    exact flatMap_congr' fun k hk => upd_other _ _ (by have := List.mem_range.1 hk; omega)
  · exact flatMap_congr' fun k hk => upd_other _ _ (by have := (List.mem_range'_1.1 hk).1; omega)

/-- the cells of a disk -/
def rowD (f : Nat → List Nat) (m : Option Nat) (dn : Bool) : List Value := vals (flat f) ++ [.map m, .bool dn]
theorem rowD_split (f : Nat → List Nat) (m : Option Nat) (dn : Bool) {n : Nat} (h : n < 34) : rowD f m dn = vals (ahead f n) ++ vals (f n) ++ (vals (behindS f n) ++ [.map m, .bool dn]) := by
  unfold rowD
  rw [flat_split f h, vals_append, vals_append]
  simp only [List.append_assoc]
theorem rowD_upd (f : Nat → List Nat) (m : Option Nat) (dn : Bool) {n : Nat} (h : n < 34) (s : List Nat) : rowD (upd f n s) m dn = vals (ahead f n) ++ vals s ++ (vals (behindS f n) ++ [.map m, .bool dn]) := by
  unfold rowD
  rw [flat_upd f h, vals_append, vals_append]
  simp only [List.append_assoc]
theorem rowD_len {f : Nat → List Nat} (h : ∀ n, n < 34 → Sec (f n)) (m : Option Nat) (dn : Bool) : (rowD f m dn).length = 2178 := by
  simp [rowD, vals_length, flat_len h]
theorem rowD_map {f : Nat → List Nat} (h : ∀ n, n < 34 → Sec (f n)) (m : Option Nat) (dn : Bool) : (rowD f m dn)[2176]? = some (.map m) := by
  have e : (vals (flat f)).length = 2176 := by rw [vals_length, flat_len h]
  unfold rowD
  rw [List.getElem?_append_right (by omega), e]; rfl
theorem rowD_down {f : Nat → List Nat} (h : ∀ n, n < 34 → Sec (f n)) (m : Option Nat) (dn : Bool) : (rowD f m dn)[2177]? = some (.bool dn) := by
  have e : (vals (flat f)).length = 2176 := by rw [vals_length, flat_len h]
  unfold rowD
  rw [List.getElem?_append_right (by omega), e]; rfl
theorem rowD_sec {f : Nat → List Nat} (h : ∀ n, n < 34 → Sec (f n)) (m : Option Nat) (dn : Bool) {n : Nat} (hn : n < 34) : ∀ j u, (vals (f n))[j]? = some u → (rowD f m dn)[n * 64 + j]? = some u := by
  intro j u hu
  have hj := (List.getElem?_eq_some_iff.1 hu).1
  have e : (vals (ahead f n)).length = n * 64 := by rw [vals_length, ahead_len h (by omega)]
  rw [rowD_split f m dn hn, List.append_assoc, List.getElem?_append_right (by omega), e, Nat.add_sub_cancel_left, List.getElem?_append_left hj]
  exact hu
theorem rowD_setMap {f : Nat → List Nat} (h : ∀ n, n < 34 → Sec (f n)) (m m' : Option Nat) (dn : Bool) : (rowD f m dn).toArray.setIfInBounds 2176 (.map m') = (rowD f m' dn).toArray := by
  have e : (vals (flat f)).length = 2176 := by rw [vals_length, flat_len h]
  unfold rowD
  rw [List.setIfInBounds_toArray, List.set_append_right _ _ (by omega), e]; rfl
theorem rowD_setDown {f : Nat → List Nat} (h : ∀ n, n < 34 → Sec (f n)) (m : Option Nat) (dn dn' : Bool) : (rowD f m dn).toArray.setIfInBounds 2177 (.bool dn') = (rowD f m dn').toArray := by
  have e : (vals (flat f)).length = 2176 := by rw [vals_length, flat_len h]
  unfold rowD
  rw [List.setIfInBounds_toArray, List.set_append_right _ _ (by omega), e]; rfl
theorem rowD_one (f : Nat → List Nat) (m : Option Nat) (dn : Bool) : ∀ u ∈ rowD f m dn, u.oneCell' = true := by
  intro u hu
  rcases List.mem_append.1 hu with h | h
  · exact vals_one u h
  · rcases List.mem_cons.1 h with rfl | h
    · rfl
    · obtain rfl := List.mem_singleton.1 h; rfl

/-! ### the cache: a map of rows of sectors -/
/-- How an element of the map is told: as it lies. -/
def held (v : Value) : Option (DataW Value × List MemPlace) := some (.held v, [])
/-- no writes -/
def nilS : Value := .slice none 0 0
def key (n : Nat) : Lit := .int .i64 (n : Int)
/-- The values V n are rows of the writes c n, in blocks of S, no two in one. -/
structure Slots (w : World) (S : Nat → Prop) (c : Nat → List (List Nat)) (V : Nat → Value) : Prop where
  own : ∀ n, n < 34 → w.ownsRow 0 71 64 (V n) (c n).length (vals (c n).flatten)
  mine : ∀ n g, n < 34 → (V n).ownBlock = some g → S g
  apart : ∀ n n' g, n < 34 → n' < 34 → n ≠ n' → (V n).ownBlock = some g → (V n').ownBlock ≠ some g
/-- Block b is a map that has V n at n, just where there are writes of n. -/
def Mapped (w : World) (b : Nat) (c : Nat → List (List Nat)) (V : Nat → Value) : Prop :=
  ∃ D : DataW Value, w.ownsMap Tryd.prog 3 held b 34 D ∧ (∀ kl, Maps.has D kl = true → ∃ n, n < 34 ∧ kl = key n) ∧
    ∀ n, n < 34 → Maps.has D (key n) = !(c n).isEmpty ∧ D.atKey (key n) (.held nilS) = .held (V n)
/-- The disk at block a is d, and the blocks of S are its own. -/
structure Disk (w : World) (S : Nat → Prop) (a : Nat) (d : Dk) : Prop where
  mine : S a
  old : ∀ k, S k → k < w.heap.size
  secs : ∀ n, n < 34 → Sec (d.dur n)
  puts : ∀ n, n < 34 → ∀ b ∈ d.cache n, Sec b
  body : ∃ m, w.heap[a]? = some (.cells (rowD d.dur m d.down).toArray 75 (0, 0)) ∧
    ((m = none ∧ ∀ n, n < 34 → d.cache n = []) ∨ ∃ b V, m = some b ∧ S b ∧ Mapped w b d.cache V ∧ Slots w S d.cache V)

section
variable {w w' : World} {S S' : Nat → Prop} {a b : Nat} {d : Dk} {c : Nat → List (List Nat)} {V : Nat → Value}
theorem owns_keep {base e size n : Nat} {v : Value} {xs : List Value} (h : w.ownsRow base e size v n xs) (hk : ∀ g, v.ownBlock = some g → w'.heap[g]? = w.heap[g]?) : w'.ownsRow base e size v n xs := by
  obtain ⟨h1, h2⟩ := h
  refine ⟨h1, ?_⟩
  rcases h2 with h2 | ⟨g, cap, cur, rfl, hg, hh, r⟩
  · exact Or.inl h2
  · exact Or.inr ⟨g, cap, cur, rfl, hg, (hk g rfl).trans hh, r⟩
theorem Slots.keep (h : Slots w S c V) (hk : ∀ k, S k → w'.heap[k]? = w.heap[k]?) : Slots w' S c V :=
  ⟨fun n hn => owns_keep (h.own n hn) fun g hg => hk g (h.mine n g hn hg), h.mine, h.apart⟩
theorem Slots.mono (h : Slots w S c V) (hs : ∀ k, S k → S' k) : Slots w S' c V := ⟨h.own, fun n g hn hg => hs g (h.mine n g hn hg), h.apart⟩
theorem Mapped.keep (h : Mapped w b c V) (hk : w'.heap[b]? = w.heap[b]?) : Mapped w' b c V := by
  obtain ⟨D, ⟨es, clock, hb, r⟩, h2⟩ := h
  exact ⟨D, ⟨es, clock, hk.trans hb, r⟩, h2⟩
theorem Disk.keep (h : Disk w S a d) (hk : ∀ k, S k → w'.heap[k]? = w.heap[k]?) (hs : w.heap.size ≤ w'.heap.size) : Disk w' S a d := by
  refine ⟨h.mine, fun k hk' => Nat.lt_of_lt_of_le (h.old k hk') hs, h.secs, h.puts, ?_⟩
  obtain ⟨m, hb, hm⟩ := h.body
  refine ⟨m, (hk a h.mine).trans hb, hm.imp id ?_⟩
  rintro ⟨b, V, rfl, hS, hM, hV⟩
  exact ⟨b, V, rfl, hS, hM.keep (hk b hS), hV.keep hk⟩
theorem Disk.below {B : Nat} (h : Disk w S a d) (hb : Below B w w') (hB : w.heap.size ≤ B) : Disk w' S a d := h.keep (fun k hk => hb.block k (by have := h.old k hk; omega)) hb.size
theorem Disk.mono (h : Disk w S a d) (hs : ∀ k, S k → S' k) (ho : ∀ k, S' k → k < w.heap.size) : Disk w S' a d := by
  refine ⟨hs _ h.mine, ho, h.secs, h.puts, ?_⟩
  obtain ⟨m, hb, hm⟩ := h.body
  refine ⟨m, hb, hm.imp id ?_⟩
  rintro ⟨b, V, rfl, hS, hM, hV⟩
  exact ⟨b, V, rfl, hs b hS, hM, hV.mono hs⟩
theorem Disk.drew (h : Disk w S a d) : Disk w.drew S a d := h.keep (fun _ _ => rfl) (Nat.le_refl _)
theorem Disk.lt (h : Disk w S a d) : a < w.heap.size := h.old a h.mine
/-- the cells that the calls read -/
theorem Disk.cells (h : Disk w S a d) : ∃ m, w.heap[a]? = some (.cells (rowD d.dur m d.down).toArray 75 (0, 0)) ∧ w.cell? ⟨a, 2176, none⟩ = some (.map m) ∧ w.cell? ⟨a, 2177, none⟩ = some (.bool d.down) ∧
    (∀ j, w.frozen? ⟨a, j, none⟩ = false) ∧ ((m = none ∧ ∀ n, n < 34 → d.cache n = []) ∨ ∃ b V, m = some b ∧ S b ∧ Mapped w b d.cache V ∧ Slots w S d.cache V) := by
  obtain ⟨m, hb, hm⟩ := h.body
  refine ⟨m, hb, ?_, ?_, fun j => frozen_of_row w a j _ _ hb, hm⟩
  · rw [cell_of_row w a 2176 _ _ _ hb]; simpa using rowD_map h.secs m d.down
  · rw [cell_of_row w a 2177 _ _ _ hb]; simpa using rowD_down h.secs m d.down

theorem Slots.row_at (h : Slots w S c V) {n g : Nat} (hn : n < 34) (hg : (V n).ownBlock = some g) : ∃ cur fr, w.heap[g]? = some (.cells cur 71 fr) := by
  rcases (h.own n hn).2 with ⟨e, _⟩ | ⟨g', cap, cur, e, _, hh, _⟩
  · rw [e] at hg; cases hg
  · rw [e] at hg
    obtain rfl : g' = g := by simpa [Value.ownBlock] using hg
    exact ⟨_, _, hh⟩
theorem Slots.ne_disk (h : Slots w S c V) {cs : Array Value} {fr : Nat × Nat} (hb : w.heap[a]? = some (.cells cs 75 fr)) {n g : Nat} (hn : n < 34) (hg : (V n).ownBlock = some g) : g ≠ a := by
  rintro rfl
  obtain ⟨cur, fr', hh⟩ := h.row_at hn hg
  rw [hb] at hh; cases hh
theorem Mapped.at_ (h : Mapped w b c V) : ∃ es clock, w.heap[b]? = some (.map es clock) := by
  obtain ⟨D, ⟨es, clock, hb, _⟩, _⟩ := h
  exact ⟨es, clock, hb⟩
theorem Mapped.ne_cells (h : Mapped w b c V) {t : TypeId} {cs : Array Value} {fr : Nat × Nat} (hb : w.heap[a]? = some (.cells cs t fr)) : b ≠ a := by
  rintro rfl
  obtain ⟨es, clock, hh⟩ := h.at_
  rw [hb] at hh; cases hh
theorem Slots.ne_map {V' : Nat → Value} {c' : Nat → List (List Nat)} (h : Slots w S c V) (hM : Mapped w b c' V') {n g : Nat} (hn : n < 34) (hg : (V n).ownBlock = some g) : g ≠ b := by
  rintro rfl
  obtain ⟨cur, fr', hh⟩ := h.row_at hn hg
  obtain ⟨es, clock, hh'⟩ := hM.at_
  rw [hh] at hh'; cases hh'
/-- The cache, where the disk's own block alone has turned. -/
theorem cache_keep {m : Option Nat} {cs : Array Value} {fr : Nat × Nat} (hb : w.heap[a]? = some (.cells cs 75 fr)) (hold : ∀ k, S k → k < w.heap.size)
    (hm : (m = none ∧ ∀ n, n < 34 → c n = []) ∨ ∃ b V, m = some b ∧ S b ∧ Mapped w b c V ∧ Slots w S c V) (hg : w.grownBy w' (some a)) :
    (m = none ∧ ∀ n, n < 34 → c n = []) ∨ ∃ b V, m = some b ∧ S b ∧ Mapped w' b c V ∧ Slots w' S c V := by
  refine hm.imp id ?_
  rintro ⟨b, V, rfl, hS, hM, hV⟩
  refine ⟨b, V, rfl, hS, hM.keep (hg.block b (hold b hS) (fun e => hM.ne_cells hb (by cases e; rfl))), ⟨fun n hn => owns_keep (hV.own n hn) fun g hg' => hg.block g (hold g (hV.mine n g hn hg')) (fun e => hV.ne_disk hb hn hg' (by cases e; rfl)), hV.mine, hV.apart⟩⟩

/-- what is at n -/
theorem Mapped.look (h : Mapped w b c V) {n : Nat} (hn : n < 34) : (Instr.lookup 73 (.map (some b)) (.int .i64 (n : Int)) false).run Tryd.prog w = .ok (V n) w := by
  obtain ⟨D, hown, _, hat⟩ := h
  have hz : (zeroValue 110).run Tryd.prog w = .ok nilS w := by kernel_rfl
  have hw : (Lit.int .i64 (n : Int)).wf = true := WalkArith.wf_i64 (by omega)
  obtain ⟨v, ps, hrun, hv⟩ := hown.lookup (Maps.int_keyed Tryd.underlying3) Tryd.underlying73 hz (zd := .held nilS) (zp := []) rfl (keyOf_int_mk Tryd.underlying3 hw)
  have h1 := (hat n hn).2
  unfold key at h1
  rw [h1] at hv
  simp only [held, Option.some.injEq, Prod.mk.injEq, DataW.held.injEq] at hv
  rw [hrun, hv.1]
end

/-! ### what the document says -/
/-- sector n as it is read -/
def Dk.newest (d : Dk) (n : Nat) : List Nat := ((d.cache n).getLast?).getD (d.dur n)
def Dk.fresh : Dk := ⟨fun _ => List.replicate 64 0, fun _ => [], false⟩
/-- how many writes were made -/
def Dk.writes (d : Dk) : Nat := ((List.range 34).map fun n => (d.cache n).length).sum
theorem Disk.newest_sec {w : World} {S : Nat → Prop} {a : Nat} {d : Dk} (h : Disk w S a d) {n : Nat} (hn : n < 34) : Sec (d.newest n) := by
  unfold Dk.newest
  cases e : (d.cache n).getLast? with
  | none => exact h.secs n hn
  | some b => exact h.puts n hn b (List.mem_of_getLast? e)
end Go.Proofs.YtkajcgpkldofjaaDoor.Dk
end

section
/-
  The calls that read: who refuses, which sectors there are, up and down, the newest write.
-/
namespace Go.Proofs.YtkajcgpkldofjaaDoor.Dk
set_option maxRecDepth 100000
open Go.RowKit Go.Maps

theorem sector_any (z : Int) (w : World) : Calls Tryd.prog 53 #[.int .i64 z] w fun e w' => e = .returned (.bool (decide (0 ≤ z ∧ z < 34))) ∧ w' = w := by
  by_cases h0 : z ≥ 0
  · by_cases h1 : z < 34
    · have hd : decide (0 ≤ z ∧ z < 34) = true := by simp; omega
      rw [hd]
      go_enter Tryd.func53, Tryd.ntmps53
      go_wp2
      go_ret
      exact ⟨rfl, rfl⟩
    · have hd : decide (0 ≤ z ∧ z < 34) = false := by simp; omega
      rw [hd]
      go_enter Tryd.func53, Tryd.ntmps53
      go_wp2
      go_ret
      exact ⟨rfl, rfl⟩
  · have hd : decide (0 ≤ z ∧ z < 34) = false := by simp; omega
    rw [hd]
    go_enter Tryd.func53, Tryd.ntmps53
    go_wp2
    go_ret
    exact ⟨rfl, rfl⟩

theorem refuses_nil (w : World) : Calls Tryd.prog 29 #[.pointer none] w fun e w' => e = .returned (.int .i64 1) ∧ w' = w := by
  go_enter Tryd.func29, Tryd.ntmps29
  go_wp2
  go_ret
  exact ⟨rfl, rfl⟩
theorem refuses_any {w : World} {S : Nat → Prop} {a : Nat} {d : Dk} (h : Disk w S a d) : Calls Tryd.prog 29 #[.pointer (some ⟨a, 0, none⟩)] w fun e w' => e = .returned (.int .i64 (if d.down then 30 else 0)) ∧ w' = w := by
  obtain ⟨m, _, _, hc, _, _⟩ := h.cells
  clear h
  cases hd : d.down with
  | true =>
    rw [hd] at hc
    go_enter Tryd.func29, Tryd.ntmps29
    go_wp2
    go_ret
    exact ⟨rfl, rfl⟩
  | false =>
    rw [hd] at hc
    go_enter Tryd.func29, Tryd.ntmps29
    go_wp2
    go_ret
    exact ⟨rfl, rfl⟩

theorem up_nil (w : World) : Calls Tryd.prog 16 #[.pointer none] w fun e w' => e = .returned (.int .i64 1) ∧ w' = w := by
  go_enter Tryd.func16, Tryd.ntmps16
  go_wp2
  go_ret
  exact ⟨rfl, rfl⟩
/-- Behind a call of a method: the disk is d', nothing has turned but its own blocks; what it has beside those is new. -/
def Goes (w w' : World) (S : Nat → Prop) (a : Nat) (d' : Dk) : Prop := ∃ S', Disk w' S' a d' ∧ Kept S w w' ∧ ∀ k, S' k → S k ∨ w.heap.size ≤ k
theorem Goes.same {w w' : World} {S : Nat → Prop} {a : Nat} {d : Dk} (h : Disk w S a d) (hb : Below w.heap.size w w') : Goes w w' S a d :=
  ⟨S, h.below hb (Nat.le_refl _), Kept.of_below hb (Nat.le_refl _), fun _ hk => Or.inl hk⟩

theorem up_any {w : World} {S : Nat → Prop} {a : Nat} {d : Dk} (h : Disk w S a d) : Calls Tryd.prog 16 #[.pointer (some ⟨a, 0, none⟩)] w fun e w' =>
    e = .returned (.int .i64 (if d.down then 0 else 2)) ∧ Goes w w' S a { d with down := false } := by
  obtain ⟨m, hb, _, hc, hf, hm⟩ := h.cells
  have hf1 := hf 2177
  cases hd : d.down with
  | false =>
    have H := Lib.hid (show Goes w w S a { d with down := false } by have := Goes.same h (Below.refl _ w); rwa [show { d with down := false } = d by rw [← hd]])
    clear h hm hb
    rw [hd] at hc
    go_enter Tryd.func16, Tryd.ntmps16
    go_wp2
    go_ret
    exact ⟨rfl, H.out⟩
  | true =>
    have H := Lib.hid (show Goes w (w.setCell ⟨a, 2177, none⟩ (.bool false)) S a { d with down := false } by
      have hg := grown_setCell w a 2177 (.bool false)
      refine ⟨S, ⟨h.mine, fun k hk => Nat.lt_of_lt_of_le (h.old k hk) hg.size, h.secs, h.puts, m, ?_, cache_keep hb h.old hm hg⟩, (Kept.refl S w).grown hg (fun k e _ => by cases e; exact h.mine), fun _ hk => Or.inl hk⟩
      rw [heap_setCell_same w a 2177 _ _ _ hb, rowD_setDown h.secs])
    clear h hm hb
    rw [hd] at hc
    go_enter Tryd.func16, Tryd.ntmps16
    go_wp2
    go_ret
    exact ⟨rfl, H.out⟩
end Go.Proofs.YtkajcgpkldofjaaDoor.Dk
end

section
/-
  A new disk; the newest write of a sector.
-/
namespace Go.Proofs.YtkajcgpkldofjaaDoor.Dk
set_option maxRecDepth 100000
open Go.RowKit Go.Maps

theorem disk_zero : (Tryd.prog.info? 75).map (·.zero) = some (some (.agg (rowD Dk.fresh.dur none false).toArray)) := by kernel_rfl
theorem disk_size : (Tryd.prog.info? 75).map (·.size) = some 2178 := by kernel_rfl
theorem fresh_secs : ∀ n, n < 34 → Sec (Dk.fresh.dur n) := fun _ _ => sec_zero

theorem new_disk (w : World) : Calls Tryd.prog 14 #[] w fun e w' => e = .returned (.pointer (some ⟨w.heap.size, 0, none⟩)) ∧ Disk w' (fun k => k = w.heap.size) w.heap.size Dk.fresh ∧ Below w.heap.size w w' ∧ w'.heap.size = w.heap.size + 1 := by
  obtain ⟨Z, hZ, hz⟩ : ∃ Z, (Tryd.prog.info? 75).map (·.zero) = some (some (.agg Z)) ∧ Z = (rowD Dk.fresh.dur none false).toArray := ⟨_, disk_zero, rfl⟩
  have H := Lib.hid (show Disk (w.alloc (.cells Z 75)) (fun k => k = w.heap.size) w.heap.size Dk.fresh ∧ Below w.heap.size w (w.alloc (.cells Z 75)) from
    ⟨⟨rfl, fun k hk => by rw [hk]; simp, fresh_secs, fun _ _ _ hb => by simp [Dk.fresh] at hb, none, by rw [hz]; exact heap_alloc_new w _, Or.inl ⟨rfl, fun _ _ => rfl⟩⟩, (Below.refl _ w).alloc (Nat.le_refl _) _⟩)
  have HZ := Lib.hid hZ
  clear hZ hz
  go_enter Tryd.func14, Tryd.ntmps14
  go_wp2_with (refine wpList_alloc_any rfl 75 rfl Z HZ.out ?_)
  go_ret
  exact ⟨rfl, H.out.1, H.out.2, by simp⟩

/-- what a look-up finds -/
theorem look_cases {w : World} {S : Nat → Prop} {m : Option Nat} {c : Nat → List (List Nat)} (hm : (m = none ∧ ∀ n, n < 34 → c n = []) ∨ ∃ b V, m = some b ∧ S b ∧ Mapped w b c V ∧ Slots w S c V) {n : Nat} (hn : n < 34) :
    ∃ v, (Instr.lookup 73 (.map m) (.int .i64 (n : Int)) false).run Tryd.prog w = .ok v w ∧ ((v = .slice none 0 0 ∧ c n = []) ∨
      ∃ g cap cur, v = .slice (some ⟨g, 0, none⟩) (c n).length cap ∧ S g ∧ w.heap[g]? = some (.cells cur 71 (0, 0)) ∧ (c n).length ≤ cap ∧ cap ≤ maxLen ∧ cur.toList.take ((c n).length * 64) = vals (c n).flatten ∧ c n ≠ []) := by
  rcases hm with ⟨rfl, hc⟩ | ⟨b, V, rfl, _, hM, hV⟩
  · refine ⟨nilS, ?_, Or.inl ⟨rfl, hc n hn⟩⟩
    have hz : (zeroValue 110).run Tryd.prog w = .ok nilS w := by kernel_rfl
    exact Maps.look_nil false (Maps.int_keyed Tryd.underlying3) Tryd.underlying73 hz (keyOf_int_mk Tryd.underlying3 (WalkArith.wf_i64 (by omega)))
  · refine ⟨V n, hM.look hn, ?_⟩
    by_cases h0 : c n = []
    · left
      refine ⟨?_, h0⟩
      obtain ⟨D, _, _, hat⟩ := hM
      have h1 := hat n hn
      rw [h0] at h1
      have h2 := atKey_of_not_has h1.1 (DataW.held nilS)
      rw [h1.2] at h2
      exact DataW.held.inj h2
    · right
      rcases (hV.own n hn).2 with ⟨_, h1⟩ | ⟨g, cap, cur, e, _, hh, h2, h3, _, h5⟩
      · exact absurd (List.eq_nil_of_length_eq_zero h1) h0
      · exact ⟨g, cap, cur, e, hV.mine n g hn (by rw [e]; rfl), hh, h2, h3, h5, h0⟩

theorem results_sec {fn : Func} {p : Tmp} (h : fn.results = #[.cell p 71]) (tmps : Array Value) (w : World) (g : Nat) (bs : List Nat) (hl : bs.length = 64)
    (hp : tmps.getD p undef = .pointer (some ⟨g, 0, none⟩)) (hg : w.heap[g]? = some (.cells (vals bs).toArray 71 (0, 0))) :
    (results fn tmps).run Tryd.prog w = .ok (sval bs) w :=
  results_cell_row h tmps w g 71 (vals bs).toArray (0, 0) _ hp hg Tryd.underlying71 rfl (by rw [sector_size]; simp [vals_length, hl])
theorem row_cells {w : World} {g : Nat} {t : TypeId} {fr : Nat × Nat} {cs : List Value} (hg : w.heap[g]? = some (.cells cs.toArray t fr)) {off : Nat} {xs : List Value} (h : ∀ j u, xs[j]? = some u → cs[off + j]? = some u) :
    ∀ j u, xs[j]? = some u → w.cell? ⟨g, off + j, none⟩ = some u := by
  intro j u hu
  rw [cell_of_row w g (off + j) _ _ _ hg]
  simpa using h j u hu

set_option maxHeartbeats 400000 in
theorem newest_any {w : World} {S : Nat → Prop} {a : Nat} {d : Dk} (h : Disk w S a d) {n : Nat} (hn : n < 34) :
    Calls Tryd.prog 31 #[.pointer (some ⟨a, 0, none⟩), .int .i64 (n : Int)] w fun e w' => e = .returned (sval (d.newest n)) ∧ Below w.heap.size w w' := by
  have hs := h.newest_sec hn
  have hn1 := hs.1
  obtain ⟨Z, hZ, hz⟩ : ∃ Z, (Tryd.prog.info? 71).map (·.zero) = some (some (.agg Z)) ∧ Z = (vals (List.replicate 64 0)).toArray := ⟨_, sector_zero, rfl⟩
  have hzl : Z.size = 64 := by rw [hz]; simp [vals_length]
  have HZ := Lib.hid hZ
  clear hZ hz
  obtain ⟨w1, hw1⟩ : ∃ w1, w1 = w.alloc (.cells Z 71) := ⟨_, rfl⟩
  have hB1 : Below w.heap.size w w1 := by rw [hw1]; exact (Below.refl _ w).alloc (Nat.le_refl _) _
  have HR := Lib.hid (show w1.heap[w.heap.size]? = some (.cells Z 71 (0, 0)) by rw [hw1]; exact heap_alloc_new w _)
  have hd1 := h.below hB1 (Nat.le_refl _)
  obtain ⟨m, hb, hc, _, _, hm⟩ := hd1.cells
  obtain ⟨v, hlook, hv⟩ := look_cases hm hn
  have HW := Lib.hid hw1
  have HB := Lib.hid (below_setRow hB1 (Nat.le_refl _) (vals (d.newest n)).toArray)
  have HI := Lib.hid (show (Tryd.prog.info? 71).map (·.size) = some (vals (d.newest n)).toArray.size by rw [sector_size]; simp [vals_length, hs.1])
  have HI' := Lib.hid (sector_info _ hs.1)
  have HS := Lib.hid (show Z.size = (vals (d.newest n)).toArray.size by rw [hzl]; simp [vals_length, hs.1])
  have H1 := Lib.hid (show (vals (d.newest n)).toArray.all (·.oneCell') = true from Array.all_eq_true_iff_forall_mem.2 fun u hu => vals_one u (by simpa using hu))
  have HE := Lib.hid (setRow_heap w1 w.heap.size Z (vals (d.newest n)).toArray 71 _ HR.out)
  clear hw1 hB1 hm hzl
  rcases hv with ⟨rfl, h0⟩ | ⟨g, cap, cur, rfl, _, hg, hle, hmax, ht, h0⟩
  · have e : d.newest n = d.dur n := by unfold Dk.newest; rw [h0]; rfl
    have HC := Lib.hid (row_cells hb (rowD_sec h.secs m d.down hn))
    rw [e] at HI HI' HS H1 HE HB hn1 ⊢
    clear hb h hd1 hs
    go_enter Tryd.func31, Tryd.ntmps31
    go_wp2_with (first
      | (refine wpList_alloc_any rfl 71 rfl Z HZ.out ?_; rw [← HW.out])
      | (refine wpList_load_part rfl 71 _ rfl a (n * 64) rfl (vals (d.dur n)) _ HC.out Tryd.underlying71 rfl HI'.out ?_)
      | (refine wpList_store_row rfl 71 _ _ rfl w.heap.size (vals (d.dur n)).toArray rfl rfl 71 Z HR.out HI.out HS.out H1.out ?_))
    exact bodyPost_ret (results_sec rfl _ _ w.heap.size _ hn1 rfl HE.out) rfl ⟨rfl, HB.out⟩
  · obtain ⟨ws, x, hws⟩ : ∃ ws x, d.cache n = ws ++ [x] := ⟨(d.cache n).dropLast, (d.cache n).getLast h0, (List.dropLast_concat_getLast h0).symm⟩
    have e : d.newest n = x := by unfold Dk.newest; rw [hws]; simp
    have hwl : ∀ b ∈ ws, b.length = 64 := fun b hb' => (h.puts n hn b (by rw [hws]; simp [hb'])).1
    have hfl : (vals ws.flatten).length = ws.length * 64 := by
      rw [vals_length]
      clear hws
      induction ws with
      | nil => rfl
      | cons b r ih => rw [List.flatten_cons, List.length_append, ih (fun c hc => hwl c (List.mem_cons_of_mem _ hc)), hwl b List.mem_cons_self, List.length_cons, Nat.succ_mul, Nat.add_comm]
    have HC := Lib.hid (show ∀ j u, (vals x)[j]? = some u → w1.cell? ⟨g, ws.length * 64 + j, none⟩ = some u by
      intro j u hu
      have hj := (List.getElem?_eq_some_iff.1 hu).1
      rw [← e, vals_length, hs.1] at hj
      rw [cell_of_row w1 g _ cur _ _ hg]
      have h2 : (cur.toList.take ((d.cache n).length * 64))[ws.length * 64 + j]? = some u := by
        rw [ht, hws, List.flatten_append, vals_append, List.getElem?_append_right (by omega), hfl, Nat.add_sub_cancel_left]
        simpa using hu
      rw [List.getElem?_take_of_lt (by rw [hws]; simp; omega)] at h2
      simpa using h2)
    rw [e] at HI HI' HS H1 HE HB hn1 ⊢
    rw [hws] at hlook hle ht
    simp only [List.length_append, List.length_cons, List.length_nil, Nat.zero_add] at hlook hle
    have hk : ws.length + 1 ≤ maxLen := Nat.le_trans hle hmax
    generalize ws.length = k at hlook hle HC hk
    clear hb h hd1 hs hws e hwl hfl ht h0
    unfold maxLen at hk hmax
    go_enter Tryd.func31, Tryd.ntmps31
    go_wp2_with (first
      | (refine wpList_alloc_any rfl 71 rfl Z HZ.out ?_; rw [← HW.out])
      | (refine wpList_load_part rfl 71 _ rfl g (k * 64) rfl (vals x) _ HC.out Tryd.underlying71 rfl HI'.out ?_)
      | (refine wpList_store_row rfl 71 _ _ rfl w.heap.size (vals x).toArray rfl rfl 71 Z HR.out HI.out HS.out H1.out ?_))
    exact bodyPost_ret (results_sec rfl _ _ w.heap.size _ hn1 rfl HE.out) rfl ⟨rfl, HB.out⟩
end Go.Proofs.YtkajcgpkldofjaaDoor.Dk
end

section
/-
  Read, Durable: bytes of new memory.
-/
namespace Go.Proofs.YtkajcgpkldofjaaDoor.Dk
set_option maxRecDepth 100000
open Go.RowKit Go.Maps

theorem read_nil (z : Int) (w : World) : Calls Tryd.prog 60 #[.pointer none, .int .i64 z] w fun e w' => e = .returned (.tuple #[.slice none 0 0, .int .i64 1]) ∧ w' = w := by
  go_enter Tryd.func60, Tryd.ntmps60
  go_wp2_with fail
  refine (refuses_nil w).mono ?_
  rintro e w' ⟨rfl, rfl⟩
  go_wp2
  go_ret2
  exact ⟨rfl, rfl⟩
theorem read_down {w : World} {S : Nat → Prop} {a : Nat} {d : Dk} (h : Disk w S a d) (hd : d.down = true) (z : Int) : Calls Tryd.prog 60 #[.pointer (some ⟨a, 0, none⟩), .int .i64 z] w fun e w' => e = .returned (.tuple #[.slice none 0 0, .int .i64 30]) ∧ w' = w := by
  have HR := Lib.hid (refuses_any h)
  rw [hd] at HR
  clear h hd
  go_enter Tryd.func60, Tryd.ntmps60
  go_wp2_with fail
  refine HR.out.mono ?_
  rintro e w' ⟨rfl, rfl⟩
  go_wp2
  go_ret2
  exact ⟨rfl, rfl⟩
theorem read_arg {w : World} {S : Nat → Prop} {a : Nat} {d : Dk} (h : Disk w S a d) (hd : d.down = false) (z : Int) (hz : ¬ (0 ≤ z ∧ z < 34)) : Calls Tryd.prog 60 #[.pointer (some ⟨a, 0, none⟩), .int .i64 z] w fun e w' => e = .returned (.tuple #[.slice none 0 0, .int .i64 2]) ∧ w' = w := by
  have HR := Lib.hid (refuses_any h)
  have HN := Lib.hid (sector_any z w)
  rw [decide_eq_false hz] at HN
  rw [hd] at HR
  clear h hd hz
  go_enter Tryd.func60, Tryd.ntmps60
  go_wp2_with fail
  refine HR.out.mono ?_
  rintro e w' ⟨rfl, rfl⟩
  go_wp2_with fail
  refine HN.out.mono ?_
  rintro e w' ⟨rfl, rfl⟩
  go_wp2
  go_ret2
  exact ⟨rfl, rfl⟩
/-- bytes of new memory -/
def Fresh (w w' : World) (bs : List Nat) (v : Value) : Prop := ∃ g c, v = .slice (some ⟨g, 0, none⟩) bs.length c ∧ w.heap.size ≤ g ∧ g < w'.heap.size ∧ By w' w'.heap.size (some ⟨g, 0, none⟩) bs ∧ bs.length ≤ c ∧ c ≤ maxLen
set_option maxHeartbeats 400000 in
theorem read_ok {w : World} {S : Nat → Prop} {a : Nat} {d : Dk} (h : Disk w S a d) (hd : d.down = false) {n : Nat} (hn : n < 34) : Calls Tryd.prog 60 #[.pointer (some ⟨a, 0, none⟩), .int .i64 (n : Int)] w fun e w' =>
    ∃ v, e = .returned (.tuple #[v, .int .i64 0]) ∧ Fresh w w' (d.newest n) v ∧ Below w.heap.size w w' := by
  have hs := h.newest_sec hn
  have HR := Lib.hid (refuses_any h)
  have HN := Lib.hid (sector_any (n : Int) w)
  rw [decide_eq_true (by omega)] at HN
  rw [hd] at HR
  have HW := Lib.hid (newest_any h hn)
  obtain ⟨Z, hZ, hz⟩ : ∃ Z, (Tryd.prog.info? 71).map (·.zero) = some (some (.agg Z)) ∧ Z = (vals (List.replicate 64 0)).toArray := ⟨_, sector_zero, rfl⟩
  have HS := Lib.hid (show Z.size = (vals (d.newest n)).toArray.size by rw [hz]; simp [vals_length, hs.1])
  have HZ := Lib.hid hZ
  have HI := Lib.hid (show (Tryd.prog.info? 71).map (·.size) = some (vals (d.newest n)).toArray.size by rw [sector_size]; simp [vals_length, hs.1])
  have H1 := Lib.hid (show (vals (d.newest n)).toArray.all (·.oneCell') = true from Array.all_eq_true_iff_forall_mem.2 fun u hu => vals_one u (by simpa using hu))
  generalize d.newest n = bs at hs HW HS HI H1 ⊢
  clear h hd hZ hz
  go_enter Tryd.func60, Tryd.ntmps60
  go_wp2_with fail
  refine HR.out.mono ?_
  rintro e w' ⟨rfl, rfl⟩
  go_wp2_with fail
  refine HN.out.mono ?_
  rintro e w' ⟨rfl, rfl⟩
  go_wp2_with fail
  refine HW.out.mono ?_
  rintro e w1 ⟨rfl, hb1⟩
  unfold sval
  have hb2 := hb1.alloc hb1.size (.cells Z 71)
  have hg2 := heap_alloc_new w1 (.cells Z 71)
  have HG := Lib.hid hg2
  have hb3 := below_setRow hb2 hb1.size (vals bs).toArray
  have hg3 := setRow_heap (w1.alloc (.cells Z 71)) w1.heap.size Z (vals bs).toArray 71 _ hg2
  have HB := Lib.hid (show Below w'.heap.size w' ((w1.alloc (.cells Z 71)).setRow w1.heap.size (vals bs).toArray) ∧ Fresh w' ((w1.alloc (.cells Z 71)).setRow w1.heap.size (vals bs).toArray) bs (.slice (some ⟨w1.heap.size, 0, none⟩) 64 64) from
    ⟨hb3, w1.heap.size, 64, by rw [hs.1], hb1.size, by simp, (By.of_row hg3 (by rw [show (vals bs).toArray.toList = vals bs by simp]; exact List.take_of_length_le (by rw [vals_length]; exact Nat.le_refl _)) hs.2).mono (by simp), by rw [hs.1]; omega, by unfold maxLen; omega⟩)
  clear hb2 hg2 hb3 hg3
  go_wp2_with (first
    | (refine wpList_alloc_any rfl 71 rfl Z HZ.out ?_)
    | (refine wpList_store_row rfl 71 _ _ rfl w1.heap.size (vals bs).toArray rfl rfl 71 Z HG.out HI.out HS.out H1.out ?_))
  go_ret2
  exact ⟨_, rfl, HB.out.2, HB.out.1⟩

theorem ahead_succ (f : Nat → List Nat) (n : Nat) : ahead f (n + 1) = ahead f n ++ f n := by
  unfold ahead
  rw [List.range_succ, List.flatMap_append]
  simp
end Go.Proofs.YtkajcgpkldofjaaDoor.Dk
end

section
/-
  Writes: the writes are counted in whatever order the map gives them.
-/
namespace Go.Proofs.YtkajcgpkldofjaaDoor.Dk
set_option maxRecDepth 100000
open Go.RowKit Go.Maps

def sumF (f : Nat → Nat) (N : Nat) : Nat := ((List.range N).map f).sum
theorem sumF_succ (f : Nat → Nat) (N : Nat) : sumF f (N + 1) = sumF f N + f N := by
  unfold sumF
  rw [List.range_succ, List.map_append, List.sum_append]
  simp
theorem sumF_congr {f g : Nat → Nat} {N : Nat} (h : ∀ n, n < N → f n = g n) : sumF f N = sumF g N := by
  induction N with
  | zero => rfl
  | succ N ih => rw [sumF_succ, sumF_succ, ih (fun n hn => h n (by omega)), h N (by omega)]
theorem sumF_le {f g : Nat → Nat} {N : Nat} (h : ∀ n, n < N → f n ≤ g n) : sumF f N ≤ sumF g N := by
  induction N with
  | zero => exact Nat.le_refl _
  | succ N ih =>
    rw [sumF_succ, sumF_succ]
    have h1 := ih (fun n hn => h n (by omega))
    have h2 := h N (by omega)
    omega
theorem sumF_upd {f g : Nat → Nat} {k x : Nat} (h : ∀ n, n ≠ k → g n = f n) (hk : g k = f k + x) : ∀ N, k < N → sumF g N = sumF f N + x
  | 0, h0 => by omega
  | N + 1, h0 => by
    rw [sumF_succ, sumF_succ]
    by_cases e : k = N
    · subst e
      rw [sumF_congr (f := g) (g := f) (fun n hn => h n (by omega)), hk]; omega
    · rw [sumF_upd h hk N (by omega), h N (by omega)]; omega
theorem sumF_zero {f : Nat → Nat} {N : Nat} (h : ∀ n, n < N → f n = 0) : sumF f N = 0 := by
  induction N with
  | zero => rfl
  | succ N ih => rw [sumF_succ, ih (fun n hn => h n (by omega)), h N (by omega)]

/-- those of the entries that have come -/
def come {H : Type} (D : DataW H) (left : Lit → Bool) (c : Nat → Nat) (n : Nat) : Nat := if Maps.has D (key n) && !left (key n) then c n else 0
theorem key_inj {n k : Nat} (h : key n = key k) : n = k := by
  unfold key at h
  have := (Lit.int.inj h).2
  omega
theorem sameKey_key (n k : Nat) : (key n).sameKey (key k) = decide (n = k) := by
  by_cases h : n = k
  · subst h; simp [Lit.sameKey, key]
  · rw [decide_eq_false h]
    exact Maps.sameKey_ne (fun e => h (key_inj e))

theorem come_all {H : Type} {D : DataW H} {left : Lit → Bool} {C : Nat → List (List Nat)} {n : Nat} (h : Maps.has D (key n) = !(C n).isEmpty) (hl : ∀ kl, left kl = false) : come D left (fun n => (C n).length) n = (C n).length := by
  simp only [come]
  rw [hl (key n), h]
  cases e : C n <;> simp
theorem come_other {H : Type} {D : DataW H} {left : Lit → Bool} {c : Nat → Nat} {n i : Nat} (h : i ≠ n) : come D (fun z => left z && !z.sameKey (key n)) c i = come D left c i := by
  simp [come, sameKey_key, h]
theorem come_same {H : Type} {D : DataW H} {left : Lit → Bool} {c : Nat → Nat} {n : Nat} (h : Maps.has D (key n) = true) (hl : left (key n) = true) : come D (fun z => left z && !z.sameKey (key n)) c n = come D left c n + c n := by
  simp [come, sameKey_key, h, hl]
theorem below_grown {w w' : World} (h : Below w.heap.size w w') : w.grownBy w' none := ⟨h.os, h.tape, h.output, h.size, fun k hk _ => h.block k hk⟩
theorem Slots.val {w : World} {S : Nat → Prop} {c : Nat → List (List Nat)} {V : Nat → Value} (h : Slots w S c V) {n : Nat} (hn : n < 34) : ∃ A cap, V n = .slice A (c n).length cap := by
  rcases (h.own n hn).2 with ⟨e, h0⟩ | ⟨g, cap, _, e, _⟩
  · exact ⟨none, 0, by rw [e, h0]⟩
  · exact ⟨_, _, e⟩
theorem writes_eq (d : Dk) : d.writes = sumF (fun n => (d.cache n).length) 34 := rfl

/-- what an entry of the cache is, as the map gives it -/
theorem Mapped.entry {D : DataW Value} {c : Nat → List (List Nat)} {V : Nat → Value} (h1 : ∀ kl, Maps.has D kl = true → ∃ n, n < 34 ∧ kl = key n)
    (h2 : ∀ n, n < 34 → Maps.has D (key n) = !(c n).isEmpty ∧ D.atKey (key n) (.held nilS) = .held (V n))
    {x : Int} {v : Value} {kl : Lit} {y : DataW Value × List MemPlace} (hk : keyOf Tryd.prog 3 (.int .i64 x) = some kl) (hl : Maps.has D kl = true) (hy : held v = some y) (hat : ∀ zd, D.atKey kl zd = y.1) :
    ∃ n : Nat, n < 34 ∧ x = (n : Int) ∧ kl = key n ∧ v = V n ∧ c n ≠ [] := by
  obtain ⟨n, hn, rfl⟩ := h1 kl hl
  obtain ⟨x', ex, ekl, _⟩ := Maps.keyOf_int_inv Tryd.underlying3 hk
  cases ex
  have hx : x = (n : Int) := by
    unfold key at ekl
    exact (Lit.int.inj ekl).2.symm
  have h3 := h2 n hn
  have h4 := hat (.held nilS)
  rw [h3.2] at h4
  unfold held at hy
  cases hy
  refine ⟨n, hn, hx, rfl, (DataW.held.inj h4).symm, fun e => ?_⟩
  rw [h3.1, e] at hl
  cases hl

end Go.Proofs.YtkajcgpkldofjaaDoor.Dk
end

section
/-
  Flush: the newest write of each sector becomes durable, in whatever order the map gives the sectors.
-/
namespace Go.Proofs.YtkajcgpkldofjaaDoor.Dk
set_option maxRecDepth 100000
open Go.RowKit Go.Maps Go.MapKept Go.ChangeMaps

def Dk.flush (d : Dk) : Dk := ⟨d.newest, fun _ => [], d.down⟩
theorem flush_nil (w : World) : Calls Tryd.prog 18 #[.pointer none] w fun e w' => e = .returned (.int .i64 1) ∧ w' = w := by
  go_enter Tryd.func18, Tryd.ntmps18
  go_wp2_with fail
  refine (refuses_nil w).mono ?_
  rintro e w' ⟨rfl, rfl⟩
  go_wp2
  go_ret
  exact ⟨rfl, rfl⟩
theorem flush_down {w : World} {S : Nat → Prop} {a : Nat} {d : Dk} (h : Disk w S a d) (hd : d.down = true) : Calls Tryd.prog 18 #[.pointer (some ⟨a, 0, none⟩)] w fun e w' => e = .returned (.int .i64 30) ∧ w' = w := by
  have HR := Lib.hid (refuses_any h)
  rw [hd] at HR
  clear h hd
  go_enter Tryd.func18, Tryd.ntmps18
  go_wp2_with fail
  refine HR.out.mono ?_
  rintro e w' ⟨rfl, rfl⟩
  go_wp2
  go_ret
  exact ⟨rfl, rfl⟩

/-- An emptied map. -/
theorem mapped_empty {w : World} {b clock : Nat} (hb : w.heap[b]? = some (.map #[] clock)) : Mapped w b (fun _ => []) (fun _ => nilS) :=
  ⟨.map [], ⟨#[], clock, hb, ⟨by simp, stamped_empty clock, by simp⟩, by simp, rfl⟩, fun kl hk => by simp [Maps.has] at hk, fun n _ => ⟨by simp [Maps.has], rfl⟩⟩
theorem slots_empty (w : World) (S : Nat → Prop) : Slots w S (fun _ => []) (fun _ => nilS) :=
  ⟨fun _ _ => ⟨rfl, Or.inl ⟨rfl, rfl⟩⟩, fun _ _ _ e => (by cases e), fun _ _ _ _ _ _ e => (by cases e)⟩
theorem run_clear (w : World) (b : Nat) (ty : TypeId) {es : Array MapEntry} {clock : Nat} (hb : w.heap[b]? = some (.map es clock)) :
    (Builtin.clear_ #[73] ty #[.map (some b)]).run Tryd.prog w = .ok (.tuple #[]) (setBlock w b (.map #[] clock)) := by
  simp [Builtin.clear_, run_underlying Tryd.underlying73, MapKept.run_getObj_map hb, MapKept.run_setObj_map _ hb, Result.andThen]
  rfl
theorem run_clear_nil (w : World) (ty : TypeId) : (Builtin.clear_ #[73] ty #[.map none]).run Tryd.prog w = .ok (.tuple #[]) w := by
  simp [Builtin.clear_, run_underlying Tryd.underlying73, Result.andThen]

theorem Disk.same_as {w : World} {S : Nat → Prop} {a : Nat} {d d' : Dk} (h : Disk w S a d) (hf : ∀ n, n < 34 → d'.dur n = d.dur n) (hc : ∀ n, n < 34 → d'.cache n = d.cache n) (hd : d'.down = d.down) : Disk w S a d' := by
  refine ⟨h.mine, h.old, fun n hn => by rw [hf n hn]; exact h.secs n hn, fun n hn => by rw [hc n hn]; exact h.puts n hn, ?_⟩
  obtain ⟨m, hb, hm⟩ := h.body
  refine ⟨m, ?_, ?_⟩
  · rw [hb, hd]
    unfold rowD
    rw [flat_congr hf]
  · refine hm.imp (fun h1 => ⟨h1.1, fun n hn => by rw [hc n hn]; exact h1.2 n hn⟩) ?_
    rintro ⟨b, V, e, hS, ⟨D, hown, h1, h2⟩, hV⟩
    exact ⟨b, V, e, hS, ⟨D, hown, h1, fun n hn => by rw [hc n hn]; exact h2 n hn⟩, ⟨fun n hn => by rw [hc n hn]; exact hV.own n hn, hV.mine, hV.apart⟩⟩

theorem World.ownsMap.at_ {H : Type} {P : Program} {k : TypeId} {R : Value → Option (DataW H × List MemPlace)} {w : World} {b n : Nat} {D : DataW H} (h : w.ownsMap P k R b n D) : ∃ es clock, w.heap[b]? = some (.map es clock) := by
  obtain ⟨es, clock, hb, _⟩ := h
  exact ⟨es, clock, hb⟩

/-- The disk while its cache is made durable. -/
theorem Disk.stored {w : World} {S : Nat → Prop} {a : Nat} {d : Dk} {m : Option Nat} (h : Disk w S a d) (hb : w.heap[a]? = some (.cells (rowD d.dur m d.down).toArray 75 (0, 0)))
    (hm : (m = none ∧ ∀ n, n < 34 → d.cache n = []) ∨ ∃ b V, m = some b ∧ S b ∧ Mapped w b d.cache V ∧ Slots w S d.cache V) {n : Nat} (hn : n < 34) {s : List Nat} (hs : Sec s) :
    Disk (w.setRow a (vals (ahead d.dur n) ++ vals s ++ (vals (behindS d.dur n) ++ [Value.map m, .bool d.down])).toArray) S a { d with dur := upd d.dur n s } := by
  have hg := grown_setRow w a (vals (ahead d.dur n) ++ vals s ++ (vals (behindS d.dur n) ++ [Value.map m, .bool d.down])).toArray
  refine ⟨h.mine, fun k hk => Nat.lt_of_lt_of_le (h.old k hk) hg.size, fun k hk => ?_, h.puts, m, ?_, cache_keep hb h.old hm hg⟩
  · show Sec (upd d.dur n s k)
    by_cases e : k = n
    · subst e; rw [upd_same]; exact hs
    · rw [upd_other _ _ e]; exact h.secs k hk
  · rw [← rowD_upd _ _ _ hn]
    exact setRow_heap w a _ _ 75 _ hb

set_option maxHeartbeats 1000000 in
theorem flush_ok {w : World} {S : Nat → Prop} {a : Nat} {d : Dk} (h : Disk w S a d) (hd : d.down = false) : Calls Tryd.prog 18 #[.pointer (some ⟨a, 0, none⟩)] w fun e w' =>
    e = .returned (.int .i64 0) ∧ Goes w w' S a d.flush := by
  have HR := Lib.hid (refuses_any h)
  rw [hd] at HR
  obtain ⟨m, hb, hc, _, _, hm⟩ := h.cells
  have HD := Lib.hid h
  rcases hm with ⟨rfl, h0⟩ | ⟨b, V, rfl, hS, hM, hV⟩
  · have hrn := fun w => run_range_nilMap (P := Tryd.prog) w 73 _ _ Tryd.underlying73
    have hnn := fun (w : World) ty a b s => run_next_nilMap (P := Tryd.prog) w ty a b s
    have hcl := fun (w : World) ty => run_clear_nil w ty
    have hc' : (w.alloc (.mapIter none 0 #[] 0)).cell? ⟨a, 2176, none⟩ = some (.map none) := by
      rw [World.cell?_of_block (w := w) (Below.heap_alloc w _ a h.lt)]; exact hc
    have HB := Lib.hid ((Below.refl w.heap.size w).alloc (Nat.le_refl _) (.mapIter none 0 #[] 0))
    have H0 := Lib.hid h0
    clear h0 h hb
    go_enter Tryd.func18, Tryd.ntmps18
    go_wp2_with fail
    refine HR.out.mono ?_
    rintro e w' ⟨rfl, rfl⟩
    go_wp2
    refine wp_loop_rounds 1 ?_
    rw [rounds_succ]
    go_wp2
    go_ret
    refine ⟨rfl, S, ?_, Kept.of_below HB.out (Nat.le_refl _), fun _ hk => Or.inl hk⟩
    refine (HD.out.below HB.out (Nat.le_refl _)).same_as (fun n hn => ?_) (fun n hn => (H0.out n hn).symm) rfl
    show d.newest n = d.dur n
    unfold Dk.newest
    rw [H0.out n hn]; rfl
  · have hba := hM.ne_cells hb
    have hMc := hM.at_
    obtain ⟨D, hown, h1, h2⟩ := hM
    have H12 := Lib.hid (And.intro h1 h2)
    have HDn := Lib.hid hd
    clear h hb h1 h2 hd
    go_enter Tryd.func18, Tryd.ntmps18
    go_wp2_with fail
    refine HR.out.mono ?_
    rintro e w' ⟨rfl, rfl⟩
    go_wp2_with (at_range; refine wpList_range_own _ rfl _ 73 rfl 3 110 (Maps.int_keyed Tryd.underlying3) Tryd.underlying73 held b 34 D rfl hown ?_; intro w0 hrg0 hg0 hs0)
    go_frame
    go_loopw [4] (fun _ wr => ∃ left cnt f, wr.ranges Tryd.prog 3 held b w'.heap.size 34 D left cnt ∧ (∀ kl, left kl = true → Maps.has D kl = true) ∧ Disk wr S a { d with dur := f } ∧ wr.cell? ⟨a, 2176, none⟩ = some (.map (some b)) ∧
      (∀ n, n < 34 → f n = if Maps.has D (key n) && !left (key n) then d.newest n else d.dur n) ∧ Kept S w' wr) (fun _ wr => wr.rangeLeft b w'.heap.size)
    case atStart =>
      refine ⟨_, _, d.dur, hrg0, fun _ h => h, HD.out.keep (fun k hk => hg0.block k (HD.out.old k hk) (by simp)) hg0.size, ?_, fun n hn => ?_, (Kept.refl S w').grown hg0 (fun _ e => by cases e)⟩
      · exact (World.cell?_of_block (w := w') (hg0.block a HD.out.lt (by simp))).trans hc
      · cases Maps.has D (key n) <;> rfl
    case round =>
      obtain ⟨left, cnt, f, hrg, hsub, hdk, hcm, hf, hk⟩ := hrel
      have HT := Lib.hid hrg
      have HS := Lib.hid hsub
      have HF := Lib.hid hf
      have HK := Lib.hid hk
      have HDk := Lib.hid hdk
      have HCM := Lib.hid hcm
      clear hsub hf hk hdk hcm
      go_wp2_with (at_next; refine wpList_next_ranges _ rfl _ rfl 3 (Maps.int_keyed Tryd.underlying3) held (Value.int .i64) (fun v => v) (fun k kl hk => by obtain ⟨x, rfl, _⟩ := Maps.keyOf_int_inv Tryd.underlying3 hk; exact ⟨x, rfl⟩) (fun v y _ => ⟨v, rfl⟩) b w'.heap.size 34 _ _ _ rfl hrg ?_ ?_)
      · intro _ hl0
        obtain ⟨es, clock, hmb⟩ := World.ownsMap.at_ HT.out.owns
        have hcl := fun ty => run_clear wr b ty hmb
        obtain ⟨w3, hw3⟩ : ∃ w3, w3 = setBlock wr b (.map #[] clock) := ⟨_, rfl⟩
        rw [← hw3] at hcl
        have hcm := HCM.out
        have HG := Lib.hid (show Disk w3 S a d.flush ∧ Kept S w' w3 from by
          have hg3 : wr.grownBy w3 (some b) := by rw [hw3]; exact ⟨rfl, rfl, rfl, by simp [setBlock], fun i _ hi => heap_setBlock_other hmb _ (fun e => hi (by rw [e]))⟩
          refine ⟨?_, HK.out.grown hg3 (fun k e _ => by cases e; exact hS)⟩
          obtain ⟨m', hb', hc', _, _, hm'⟩ := HDk.out.cells
          rw [hcm] at hc'
          cases hc'
          have hd3 : Disk w3 S a ⟨f, fun _ => [], d.down⟩ := ⟨HDk.out.mine, fun k hk => Nat.lt_of_lt_of_le (HDk.out.old k hk) hg3.size, HDk.out.secs, fun _ _ _ h => by simp at h, some b, (hg3.block a HDk.out.lt (fun e => hba (by cases e; rfl))).trans hb',
            Or.inr ⟨b, fun _ => nilS, rfl, hS, mapped_empty (clock := clock) (by rw [hw3]; exact heap_setBlock_same hmb _), slots_empty w3 S⟩⟩
          refine hd3.same_as (fun n hn => ?_) (fun _ _ => rfl) rfl
          show d.newest n = f n
          rw [HF.out n hn, hl0 (key n), (H12.out.2 n hn).1]
          unfold Dk.newest
          cases e : d.cache n <;> simp)
        clear hrg hmb hw3 hrg0 hg0 hs0 hown
        go_wp2
        go_ret
        exact ⟨rfl, S, HG.out.1, HG.out.2, fun _ hk => Or.inl hk⟩
      · intro x v kl yd yp w1 cnt1 hkey hlk hv hat hrg1 hlt hg1 hs1 hen
        obtain ⟨n, hn, rfl, rfl, rfl, hne⟩ := Mapped.entry H12.out.1 H12.out.2 hkey (HS.out kl hlk) hv hat
        have hd1 : Disk w1 S a { d with dur := f } := HDk.out.keep (fun k hk => hg1.block k (HDk.out.old k hk) (fun e => by cases e; have := HD.out.old _ hk; omega)) hg1.size
        have hcm1 : w1.cell? ⟨a, 2176, none⟩ = some (.map (some b)) := (World.cell?_of_block (w := wr) (hg1.block a HDk.out.lt (fun e => by cases e; have := HD.out.lt; omega))).trans HCM.out
        have HN := Lib.hid (show ∀ W, Below w1.heap.size w1 W → Calls Tryd.prog 31 #[.pointer (some ⟨a, 0, none⟩), .int .i64 (n : Int)] W fun e w' => e = .returned (sval (d.newest n)) ∧ Below W.heap.size W w' from fun W hW => by
          have h1 := newest_any (hd1.below hW (Nat.le_refl _)) hn
          rwa [show Dk.newest { d with dur := f } n = d.newest n by
            unfold Dk.newest
            cases e : (d.cache n).getLast? with
            | none => exact absurd (List.getLast?_eq_none_iff.1 e) hne
            | some x => simp [e]] at h1)
        have hni : (n : Int) < 34 := by omega
        have H1 := Lib.hid hd1
        have HC1 := Lib.hid hcm1
        have HG1 := Lib.hid hg1
        have HR1 := Lib.hid hrg1
        have HLT := Lib.hid hlt
        clear hd1 hcm1 hg1 hrg1 hlt hat hv hkey hrg hrg0 hg0 hs0 hown
        go_wp2_with fail
        refine wp_region_held_drew (S := fun _ => True) (by kernel_rfl) trivial (fun hHeld => ?_)
        refine wpAnyH_take (i := 0) (v := ?_) rfl (by kernel_rfl) (by kernel_rfl) (by kernel_rfl) (fun _ _ _ h => h) (Or.inl ⟨by rfl, ?_⟩) (by assumption) ?_
        rotate_left
        · simp only [List.getElem_toArray, List.getElem_cons_zero, List.getElem_cons_succ]; intro W hSw; (try dsimp only at hSw); go_simp; all_goals with_reducible rfl
        simp only [Act.put, List.getElem_toArray, List.getElem_cons_zero, List.getElem_cons_succ, List.setIfInBounds_toArray, List.set_cons_zero, List.set_cons_succ]
        refine wpAnyH_take (i := 1) (v := ?_) rfl (by kernel_rfl) (by kernel_rfl) (by kernel_rfl) (fun _ _ _ h => h) (Or.inl ⟨by rfl, ?_⟩) (by assumption) ?_
        rotate_left
        · simp only [List.getElem_toArray, List.getElem_cons_zero, List.getElem_cons_succ]; intro W hSw; (try dsimp only at hSw); go_simp; all_goals with_reducible rfl
        simp only [Act.put, List.getElem_toArray, List.getElem_cons_zero, List.getElem_cons_succ, List.setIfInBounds_toArray, List.set_cons_zero, List.set_cons_succ]
        refine wpAnyH_take (i := 2) (v := ?_) rfl (by kernel_rfl) (by kernel_rfl) (by kernel_rfl) (fun _ _ _ h => h) (Or.inl ⟨by rfl, ?_⟩) (by assumption) ?_
        rotate_left
        · simp only [List.getElem_toArray, List.getElem_cons_zero, List.getElem_cons_succ]; intro W hSw; (try dsimp only at hSw); go_simp; all_goals with_reducible rfl
        simp only [Act.put, List.getElem_toArray, List.getElem_cons_zero, List.getElem_cons_succ, List.setIfInBounds_toArray, List.set_cons_zero, List.set_cons_succ]
        refine wpAnyH_take (i := 3) (v := ?_) rfl (by kernel_rfl) (by kernel_rfl) (by kernel_rfl) (fun _ _ _ h => h) (Or.inl ⟨by rfl, ?_⟩) (by assumption) ?_
        rotate_left
        · simp only [List.getElem_toArray, List.getElem_cons_zero, List.getElem_cons_succ]; intro W hSw; (try dsimp only at hSw); go_simp; all_goals with_reducible rfl
        simp only [Act.put, List.getElem_toArray, List.getElem_cons_zero, List.getElem_cons_succ, List.setIfInBounds_toArray, List.set_cons_zero, List.set_cons_succ]
        refine wpAnyH_take (i := 5) (v := ?_) rfl (by kernel_rfl) (by kernel_rfl) (by kernel_rfl) (fun _ _ _ h => h) (Or.inl ⟨by rfl, ?_⟩) (by assumption) ?_
        rotate_left
        · simp only [List.getElem_toArray, List.getElem_cons_zero, List.getElem_cons_succ]; intro W hSw; (try dsimp only at hSw); go_simp; all_goals with_reducible rfl
        simp only [Act.put, List.getElem_toArray, List.getElem_cons_zero, List.getElem_cons_succ, List.setIfInBounds_toArray, List.set_cons_zero, List.set_cons_succ]
        refine wpAnyH_take (i := 6) (v := ?_) rfl (by kernel_rfl) (by kernel_rfl) (by kernel_rfl) (fun _ _ _ h => h) (Or.inl ⟨by rfl, ?_⟩) (by assumption) ?_
        rotate_left
        · simp only [List.getElem_toArray, List.getElem_cons_zero, List.getElem_cons_succ]; intro W hSw; (try dsimp only at hSw); go_simp; all_goals with_reducible rfl
        simp only [Act.put, List.getElem_toArray, List.getElem_cons_zero, List.getElem_cons_succ, List.setIfInBounds_toArray, List.set_cons_zero, List.set_cons_succ]
        refine wpAnyH_ready (rs := [4]) (by kernel_rfl) (by simp) ?_
        refine AllReadyH.cons rfl (fun K hK => ?_) AllReadyH.nil
        simp only [List.getElem_toArray, List.getElem_cons_zero, List.getElem_cons_succ]
        go_simp
        refine (HN.out _ (Below.refl _ _).drew).mono ?_
        rintro e w2 ⟨rfl, hb2⟩
        unfold sval
        go_wp2_with fail
        refine hK.out _ _ trivial (fun hHeld2 => ?_)
        clear hK K
        (try simp only [Act.put, List.getElem_toArray, List.getElem_cons_zero, List.getElem_cons_succ, List.setIfInBounds_toArray, List.set_cons_zero, List.set_cons_succ])
        refine wpAnyH_take (i := 7) (v := ?_) rfl (by kernel_rfl) (by kernel_rfl) (by kernel_rfl) (fun _ _ _ h => h) (Or.inl ⟨by rfl, ?_⟩) (by assumption) ?_
        rotate_left
        · simp only [List.getElem_toArray, List.getElem_cons_zero, List.getElem_cons_succ]; intro W hSw; (try dsimp only at hSw); go_simp; all_goals with_reducible rfl
        simp only [Act.put, List.getElem_toArray, List.getElem_cons_zero, List.getElem_cons_succ, List.setIfInBounds_toArray, List.set_cons_zero, List.set_cons_succ]
        refine wpAnyH_ready (rs := [8]) (by kernel_rfl) (by simp) ?_
        refine AllReadyH.cons rfl (fun K hK => ?_) AllReadyH.nil
        simp only [List.getElem_toArray, List.getElem_cons_zero, List.getElem_cons_succ]
        have hb12 : Below w1.heap.size w1 w2 := (Below.refl _ w1).drew.trans hb2
        have hd2 := H1.out.below hb12 (Nat.le_refl _)
        obtain ⟨m2, hrow, hcm2, _, _, hm2⟩ := hd2.cells
        obtain rfl : m2 = some b := by
          rw [hb12.cell H1.out.lt, HC1.out] at hcm2
          cases hcm2; rfl
        have hsn := HD.out.newest_sec hn
        have hst := hd2.stored hrow hm2 hn hsn
        have hgr := grown_setRow w2 a (vals (ahead f n) ++ vals (d.newest n) ++ (vals (behindS f n) ++ [Value.map (some b), .bool d.down])).toArray
        have hrow2 := hrow
        rw [rowD_split _ _ _ hn] at hrow2
        rw [if_pos]
        rotate_left
        · simp [Region.wanted]
        refine wp_store_part 71 (.tmp 26) (.tmp 23) rfl a (n * 64) rfl (vals (d.newest n)) rfl 75 (vals (ahead f n)) (vals (f n)) (vals (behindS f n) ++ [Value.map (some b), .bool d.down]) hrow2 (by rw [vals_length]; exact ahead_len hd2.secs (by omega)) (by rw [vals_length, vals_length, hsn.1]; exact (hd2.secs n hn).1) (sector_info _ hsn.1) vals_one ?_
        refine hK.out _ _ trivial (fun hHeld3 => ?_)
        clear hK K
        refine wpAnyH_done (by kernel_rfl) ?_ _
        generalize hw3 : w2.setRow a (vals (ahead f n) ++ vals (d.newest n) ++ (vals (behindS f n) ++ [Value.map (some b), .bool d.down])).toArray = w3 at hst hgr ⊢
        replace hw3 := hw3.symm
        have hne2 : w'.heap.size ≠ a := by have := HD.out.lt; omega
        have HREL := Lib.hid (show w3.ranges Tryd.prog 3 held b w'.heap.size 34 D (fun z => left z && !z.sameKey (key n)) cnt1 ∧ Disk w3 S a { d with dur := upd f n (d.newest n) } ∧ w3.cell? ⟨a, 2176, none⟩ = some (.map (some b)) ∧
            (∀ k, k < 34 → upd f n (d.newest n) k = if Maps.has D (key k) && !(left (key k) && !(key k).sameKey (key n)) then d.newest k else d.dur k) ∧ Kept S w' w3 from by
          have hrg3 := (HR1.out.kept (below_grown hb12) (by simp) (by simp)).kept hgr (fun e => hba (by cases e; rfl)) (fun e => hne2 (by cases e; rfl))
          refine ⟨hrg3, hst, ?_, fun k hk => ?_, ?_⟩
          · obtain ⟨m3, hb3, hc3, _, _, hm3⟩ := hst.cells
            have h5 : w3.heap[a]? = some (.cells (rowD (upd f n (d.newest n)) (some b) d.down).toArray 75 (0, 0)) := by
              rw [rowD_upd _ _ _ hn, hw3]
              exact setRow_heap w2 a _ _ 75 _ hrow
            rw [cell_of_row w3 a 2176 _ _ _ h5]
            simpa using rowD_map hst.secs (some b) d.down
          · by_cases e : k = n
            · subst e
              rw [upd_same, sameKey_key, decide_eq_true rfl, HS.out _ hlk]
              simp
            · rw [upd_other _ _ e, sameKey_key, decide_eq_false e, HF.out k hk]
              simp
          · exact ((HK.out.grown HG1.out (fun k e hk => by cases e; omega)).below (Nat.le_refl _) hb12 (Or.inl (by
              have := HK.out.size; have := HG1.out.size; omega))).grown hgr (fun k e _ => by cases e; exact HD.out.mine))
        have HM := Lib.hid (show w3.rangeLeft b w'.heap.size < wr.rangeLeft b w'.heap.size by rw [HREL.out.1.left_eq, HT.out.left_eq]; exact HLT.out)
        clear hst hgr hw3 hrow hrow2 hcm2 hm2 hd2 hb12 hb2 hsn
        (try simp only [Act.put, List.getElem_toArray, List.getElem_cons_zero, List.getElem_cons_succ, List.setIfInBounds_toArray, List.set_cons_zero, List.set_cons_succ])
        go_wp2
        go_roundw
        case rel => exact ⟨_, _, _, HREL.out.1, fun kl hk => HS.out kl (by simp at hk; exact hk.1), HREL.out.2.1, HREL.out.2.2.1, HREL.out.2.2.2.1, HREL.out.2.2.2.2⟩
        case measure => exact HM.out
end Go.Proofs.YtkajcgpkldofjaaDoor.Dk
end

section
/-
  One more write in the cache: the row of its sector has grown, the map has it.
-/
namespace Go.Proofs.YtkajcgpkldofjaaDoor.Dk
set_option maxRecDepth 100000
open Go.RowKit Go.Maps Go.MapKept Go.ChangeMaps

theorem nodup_below : ∀ (N : Nat) (l : List Nat), l.Nodup → (∀ x ∈ l, x < N) → l.length ≤ N
  | 0, l, _, h => by
    cases l with
    | nil => exact Nat.le_refl _
    | cons x r => exact absurd (h x List.mem_cons_self) (by omega)
  | N + 1, l, hn, h => by
    have h1 := nodup_below N (l.filter (fun x => decide (x ≠ N))) (hn.filter _) (fun x hx => by
      have h2 := List.mem_filter.1 hx
      have h3 := h x h2.1
      have h4 : x ≠ N := by simpa using h2.2
      omega)
    have h5 : l.length ≤ (l.filter (fun x => decide (x ≠ N))).length + 1 := by
      clear h h1
      induction l with
      | nil => simp
      | cons a r ih =>
        have hr := (List.nodup_cons.1 hn)
        by_cases e : a = N
        · subst e
          have : r.filter (fun x => decide (x ≠ a)) = r := List.filter_eq_self.2 fun x hx => by
            have : x ≠ a := fun e => hr.1 (e ▸ hx)
            simpa using this
          rw [List.filter_cons_of_neg (by simp), this]
          exact Nat.le_refl _
        · have := ih hr.2
          simp only [List.filter_cons]
          rw [if_pos (by simpa using e)]
          simp only [List.length_cons]
          omega
    omega
def at_ : Lit → Nat
  | .int _ z => z.toNat
  | _ => 0
theorem sameKey_self {k : Lit} (h : WideAt.IsKeyLit k) : k.sameKey k = true := by
  cases k <;> simp_all [Lit.sameKey, WideAt.IsKeyLit]
/-- A map whose keys are sectors has no more than 34 entries. -/
theorem own34 {w : World} {b N : Nat} {D : DataW Value} (h : w.ownsMap Tryd.prog 3 held b N D) (hk : ∀ kl, Maps.has D kl = true → ∃ n, n < 34 ∧ kl = key n) : w.ownsMap Tryd.prog 3 held b 34 D := by
  obtain ⟨es', e, hp, hl⟩ := h.entries (Maps.int_keyed Tryd.underlying3)
  have hkeys : ∀ p ∈ es', ∃ n, n < 34 ∧ p.1 = key n := fun p hp' => by
    refine hk p.1 ?_
    rw [e, Maps.has_eq, List.any_eq_true]
    exact ⟨p, hp', sameKey_self (hl p hp')⟩
  have hlen : es'.length ≤ 34 := by
    have h1 := nodup_below 34 (es'.map fun p => at_ p.1) ?_ ?_
    · simpa using h1
    · rw [List.nodup_iff_pairwise_ne, List.pairwise_map]
      refine hp.imp_of_mem ?_
      intro p q hp' hq' hne
      obtain ⟨n, hn, e1⟩ := hkeys p hp'
      obtain ⟨m, hm, e2⟩ := hkeys q hq'
      rw [e1, e2] at hne ⊢
      intro he
      simp only [at_, key, Int.toNat_natCast] at he
      exact hne (by rw [he])
    · intro x hx
      obtain ⟨p, hp', rfl⟩ := List.mem_map.1 hx
      obtain ⟨n, hn, e1⟩ := hkeys p hp'
      rw [e1]
      simpa [at_, key] using hn
  obtain ⟨es, clock, hb, F, _, hD⟩ := h
  refine ⟨es, clock, hb, F, ?_, hD⟩
  rw [hD] at e
  cases e
  rw [length_read] at hlen
  exact hlen
theorem Disk.appended {w w4 w5 w6 : World} {S : Nat → Prop} {a b g cap : Nat} {d : Dk} {n : Nat} {p : List Nat} {D : DataW Value} {V : Nat → Value} (h : Disk w S a d) (hn : n < 34) (hp : Sec p)
    (hb : w.heap[a]? = some (.cells (rowD d.dur (some b) d.down).toArray 75 (0, 0))) (hS : S b) (hown : w.ownsMap Tryd.prog 3 held b 34 D) (hk : ∀ kl, Maps.has D kl = true → ∃ n, n < 34 ∧ kl = key n)
    (hD : ∀ n, n < 34 → Maps.has D (key n) = !(d.cache n).isEmpty ∧ D.atKey (key n) (.held nilS) = .held (V n)) (hV : Slots w S d.cache V)
    (h4 : Below w.heap.size w w4) (h5 : w4.grownBy w5 (V n).ownBlock) (hrow : w5.ownsRow 0 71 64 (.slice (some ⟨g, 0, none⟩) ((d.cache n).length + 1) cap) ((d.cache n).length + 1) (vals (d.cache n).flatten ++ vals p))
    (hg : (V n).ownBlock = some g ∨ w.heap.size ≤ g) (hlt : g < w5.heap.size) (h6 : w5.grownBy w6 (some b)) {N : Nat} (hown6 : w6.ownsMap Tryd.prog 3 held b N (D.put (key n) (.held (.slice (some ⟨g, 0, none⟩) ((d.cache n).length + 1) cap)))) :
    Goes w w6 S a { d with cache := upd d.cache n (d.cache n ++ [p]) } := by
  have hM : Mapped w b d.cache V := ⟨D, hown, hk, hD⟩
  have hba := hM.ne_cells hb
  have hSg : ∀ k, (V n).ownBlock = some k → S k := fun k e => hV.mine n k hn e
  have hsz : w.heap.size ≤ w6.heap.size := Nat.le_trans h4.size (Nat.le_trans h5.size h6.size)
  -- what lies in blocks of w that are neither the row nor the map stays
  have stays : ∀ k, k < w.heap.size → some k ≠ (V n).ownBlock → k ≠ b → w6.heap[k]? = w.heap[k]? := fun k h1 h2 h3 => by
    have s4 := h4.size
    have s5 := h5.size
    exact ((h6.block k (by omega) (fun e => h3 (by cases e; rfl))).trans (h5.block k (by omega) h2)).trans (h4.block k h1)
  have hgb : g ≠ b := by
    rintro rfl
    rcases hg with h1 | h1
    · exact hV.ne_map hM hn h1 rfl
    · have := h.old _ hS; omega
  have hrow6 : w6.ownsRow 0 71 64 (.slice (some ⟨g, 0, none⟩) ((d.cache n).length + 1) cap) ((d.cache n).length + 1) (vals (d.cache n).flatten ++ vals p) :=
    owns_keep hrow fun k e => by
      obtain rfl : g = k := by simpa [Value.ownBlock] using e
      exact h6.block g hlt (fun e => hgb (by cases e; rfl))
  have hmap := hown.isMap
  have hik : WideAt.IsKeyLit (key n) := trivial
  have hk' : ∀ kl, Maps.has (D.put (key n) (.held (.slice (some ⟨g, 0, none⟩) ((d.cache n).length + 1) cap))) kl = true → ∃ n, n < 34 ∧ kl = key n := fun kl hkl => by
    by_cases e : kl = key n
    · exact ⟨n, hn, e⟩
    · rw [has_put_other e] at hkl
      exact hk kl hkl
  refine ⟨fun k => S k ∨ (w.heap.size ≤ k ∧ k < w6.heap.size), ⟨Or.inl h.mine, fun k hk2 => ?_, h.secs, fun m hm x hx => ?_, some b, ?_, Or.inr ⟨b, upd V n (.slice (some ⟨g, 0, none⟩) ((d.cache n).length + 1) cap), rfl, Or.inl hS, ⟨_, own34 hown6 hk', hk', fun m hm => ?_⟩, ⟨fun m hm => ?_, fun m k hm e => ?_, fun m m' k hm hm' hne e => ?_⟩⟩⟩,
    ⟨(h6.os.trans h5.os).trans h4.os, (h6.tape.trans h5.tape).trans h4.tape, (h6.output.trans h5.output).trans h4.output, hsz, fun k h1 h2 => stays k h1 (fun e => h2 (hSg k e.symm)) (fun e => h2 (e ▸ hS))⟩, fun k hk2 => hk2.imp id (·.1)⟩
  · rcases hk2 with h1 | h1
    · have := h.old k h1; omega
    · exact h1.2
  · by_cases e : m = n
    · subst e
      rw [show ({ d with cache := upd d.cache m (d.cache m ++ [p]) } : Dk).cache m = d.cache m ++ [p] from upd_same _ _ _] at hx
      rcases List.mem_append.1 hx with h1 | h1
      · exact h.puts m hm x h1
      · rw [List.mem_singleton.1 h1]; exact hp
    · rw [show ({ d with cache := upd d.cache n (d.cache n ++ [p]) } : Dk).cache m = d.cache m from upd_other _ _ e] at hx
      exact h.puts m hm x hx
  · rw [stays a h.lt (fun e => hV.ne_disk hb hn e.symm rfl) (fun e => hba e.symm)]
    exact hb
  · show Maps.has _ (key m) = !(upd d.cache n (d.cache n ++ [p]) m).isEmpty ∧ _ = DataW.held (upd V n _ m)
    by_cases e : m = n
    · subst e
      rw [upd_same, upd_same, has_put_same hmap hik, atKey_put_same hmap hik]
      exact ⟨by cases d.cache m <;> rfl, rfl⟩
    · rw [upd_other _ _ e, upd_other _ _ e, has_put_other (fun h => e (key_inj h)), atKey_put_other (fun h => e (key_inj h))]
      exact hD m hm
  · show w6.ownsRow 0 _ 64 (upd V n _ m) (upd d.cache n (d.cache n ++ [p]) m).length (vals (upd d.cache n (d.cache n ++ [p]) m).flatten)
    by_cases e : m = n
    · subst e
      rw [upd_same, upd_same, List.length_append, List.flatten_append, vals_append]
      simpa using hrow6
    · rw [upd_other _ _ e, upd_other _ _ e]
      exact owns_keep (hV.own m hm) fun k hk2 => stays k (h.old k (hV.mine m k hm hk2)) (fun h2 => hV.apart n m k hn hm (fun h3 => e h3.symm) h2.symm hk2) (hV.ne_map hM hm hk2)
  · by_cases e2 : m = n
    · subst e2
      rw [upd_same] at e
      obtain rfl : g = k := by simpa [Value.ownBlock] using e
      rcases hg with h1 | h1
      · exact Or.inl (hSg g h1)
      · exact Or.inr ⟨h1, Nat.lt_of_lt_of_le hlt h6.size⟩
    · rw [upd_other _ _ e2] at e
      exact Or.inl (hV.mine m k hm e)
  · by_cases e1 : m = n
    · subst e1
      rw [upd_same] at e
      rw [upd_other _ _ (fun h => hne h.symm)]
      obtain rfl : g = k := by simpa [Value.ownBlock] using e
      rcases hg with h1 | h1
      · exact hV.apart m m' g hn hm' hne h1
      · intro h2
        have := h.old g (hV.mine m' g hm' h2)
        omega
    · rw [upd_other _ _ e1] at e
      by_cases e2 : m' = n
      · subst e2
        rw [upd_same]
        intro h2
        obtain rfl : g = k := by simpa [Value.ownBlock] using h2
        rcases hg with h1 | h1
        · exact hV.apart m m' g hm hn hne e h1
        · have := h.old g (hV.mine m g hm e)
          omega
      · rw [upd_other _ _ e2]
        exact hV.apart m m' k hm hm' hne e
end Go.Proofs.YtkajcgpkldofjaaDoor.Dk
end
