/-
  What the statements compare with: Bytes, values, wakes.
-/
import Derived.Test.YtaapkohcembjbaaRefBlocks
import Derived.Test.YtaapkohcembjbaaRefValues
import Derived.Test.YtaapkohcembjbaaRefPut
import Derived.Test.YtaapkohcembjbaaGet
import Derived.Lib.SlBytesConst
namespace Go.Proofs.Ytaapkohcembjbaa
open Go.RowKit

set_option maxHeartbeats 400000 in
theorem bytes_same (bs : List Nat) (A B : Option Addr) (c d : Nat) (w : World) (hA : By w w.heap.size A bs) (hB : By w w.heap.size B bs) :
    Calls Try.prog 11 #[.slice A bs.length c, .slice B bs.length d] w fun e w' => e = .returned (.bool true) ∧ w = w' := by
  have k1 := conv_str w hA c
  have k2 := conv_str w hB d
  go_enter Try.func11, Try.ntmps11
  go_wp2
  go_ret
  exact ⟨rfl, rfl⟩

/-- the eight cells of a block -/
theorem By.eight {w : World} {B b off : Nat} {bs : List Nat} {k n : Nat} (h : By w B (some ⟨b, off, none⟩) bs) (hn : bs.length = 8 * n) (hk : k < n) : ∀ j, j < 8 → w.cell? ⟨b, off + k * 8 + j, none⟩ = some (.int .u8 (bs.getD (k * 8 + j) 0 : Nat)) := by
  intro j hj
  obtain ⟨b', off', e, _, hc⟩ := h.at_ (by omega)
  obtain ⟨rfl, rfl⟩ : b = b' ∧ off = off' := by simpa using e
  rw [Nat.add_assoc]
  exact hc _ (by omega)
theorem neq_same (w : World) (x0 x1 x2 x3 x4 x5 x6 x7 : Nat) : (binOp .neq 36 (.agg #[.int .u8 (x0 : Int), .int .u8 (x1 : Int), .int .u8 (x2 : Int), .int .u8 (x3 : Int), .int .u8 (x4 : Int), .int .u8 (x5 : Int), .int .u8 (x6 : Int), .int .u8 (x7 : Int)]) (.agg #[.int .u8 (x0 : Int), .int .u8 (x1 : Int), .int .u8 (x2 : Int), .int .u8 (x3 : Int), .int .u8 (x4 : Int), .int .u8 (x5 : Int), .int .u8 (x6 : Int), .int .u8 (x7 : Int)])).run Try.prog w = .ok (.bool false) w := by
  have h := arr_neq w [x0, x1, x2, x3, x4, x5, x6, x7] [x0, x1, x2, x3, x4, x5, x6, x7] rfl rfl
  rw [decide_eq_true rfl] at h
  exact h
theorem eq_same (w : World) (x0 x1 x2 x3 x4 x5 x6 x7 : Nat) : (binOp .eql 36 (.agg #[.int .u8 (x0 : Int), .int .u8 (x1 : Int), .int .u8 (x2 : Int), .int .u8 (x3 : Int), .int .u8 (x4 : Int), .int .u8 (x5 : Int), .int .u8 (x6 : Int), .int .u8 (x7 : Int)]) (.agg #[.int .u8 (x0 : Int), .int .u8 (x1 : Int), .int .u8 (x2 : Int), .int .u8 (x3 : Int), .int .u8 (x4 : Int), .int .u8 (x5 : Int), .int .u8 (x6 : Int), .int .u8 (x7 : Int)])).run Try.prog w = .ok (.bool true) w := by
  have h := arr_eq w [x0, x1, x2, x3, x4, x5, x6, x7] [x0, x1, x2, x3, x4, x5, x6, x7] rfl rfl
  rw [decide_eq_true rfl] at h
  exact h
/-- the cells of a local block -/
theorem eight_cells {w : World} {g : Nat} {vs : List Nat} (hg : w.heap[g]? = some (.cells (vals vs).toArray 36 (0, 0))) (hl : vs.length = 8) : ∀ j, j < 8 → w.cell? ⟨g, j, none⟩ = some (.int .u8 (vs.getD j 0 : Nat)) := fun j hj => by
  rw [cell_of_row w g j _ _ _ hg]
  unfold vals
  rw [List.getElem?_toArray, List.getElem?_map, List.getElem?_eq_getElem (by omega), Option.map_some, getD_at _ _ (by omega)]

set_option maxHeartbeats 1000000 in
theorem values_same (bs : List Nat) (n : Nat) (hn : bs.length = 8 * n) (A B : Option Addr) (c d : Nat) (w : World) (hA : By w w.heap.size A bs) (hB : By w w.heap.size B bs) (hl : n ≤ 1000000) :
    Calls Try.prog 20 #[.slice A n c, .slice B n d] w fun e w' => e = .returned (.bool true) ∧ Below w.heap.size w w' := by
  have HA := Lib.hid hA
  have HB := Lib.hid hB
  clear hA hB
  go_enter Try.func20, Try.ntmps20
  go_wp2
  go_loopw [5] (fun i wr => ∃ k : Nat, k ≤ n ∧ i = .int .i64 k ∧ Below w.heap.size w wr) (fun i _ => n - (intOf i).toNat)
  case atStart => exact ⟨0, by omega, rfl, Below.refl _ _⟩
  case round =>
    obtain ⟨k, hk, rfl, hb⟩ := hrel
    by_cases hlt : k < n
    · obtain ⟨b, off, rfl, hbw, _⟩ := HA.out.at_ (by omega)
      obtain ⟨b', off', rfl, hbw', _⟩ := HB.out.at_ (by omega)
      have c0 := (HA.out.below hb (Nat.le_refl _)).eight hn hlt
      have d0 := (HB.out.below hb (Nat.le_refl _)).eight hn hlt
      have a0 := c0 0 (by omega)
      have a1 := c0 1 (by omega)
      have a2 := c0 2 (by omega)
      have a3 := c0 3 (by omega)
      have a4 := c0 4 (by omega)
      have a5 := c0 5 (by omega)
      have a6 := c0 6 (by omega)
      have a7 := c0 7 (by omega)
      have b0 := d0 0 (by omega)
      have b1 := d0 1 (by omega)
      have b2 := d0 2 (by omega)
      have b3 := d0 3 (by omega)
      have b4 := d0 4 (by omega)
      have b5 := d0 5 (by omega)
      have b6 := d0 6 (by omega)
      have b7 := d0 7 (by omega)
      clear c0 d0
      rw [Nat.add_zero] at a0 b0
      generalize bs.getD (k * 8 + 0) 0 = x0 at *
      generalize bs.getD (k * 8 + 1) 0 = x1 at *
      generalize bs.getD (k * 8 + 2) 0 = x2 at *
      generalize bs.getD (k * 8 + 3) 0 = x3 at *
      generalize bs.getD (k * 8 + 4) 0 = x4 at *
      generalize bs.getD (k * 8 + 5) 0 = x5 at *
      generalize bs.getD (k * 8 + 6) 0 = x6 at *
      generalize bs.getD (k * 8 + 7) 0 = x7 at *
      have hq := fun w => neq_same w x0 x1 x2 x3 x4 x5 x6 x7
      have HBW := Lib.hid hb
      clear hb
      go_wp2_with fail
      go_region
      go_wp2
      go_roundw
      case rel => exact ⟨k + 1, by omega, by go_num, HBW.out.drew⟩
      case measure => simp [intOf]; omega
    · obtain rfl : k = n := by omega
      go_wp2
      go_ret
      exact ⟨rfl, hb⟩

theorem chars_vals : (vals [49, 50, 51, 52, 53, 54, 55, 56]).toArray = #[.int .u8 49, .int .u8 50, .int .u8 51, .int .u8 52, .int .u8 53, .int .u8 54, .int .u8 55, .int .u8 56] := rfl
theorem digits_258 : [] ++ dig 258 3 = [2, 1, 0] := rfl
theorem num_21 : num (([2, 1, 0].drop 0).take 2) = 258 := rfl

set_option maxHeartbeats 1000000 in
theorem wakes_any (w : World) :
    Calls Try.prog 6 #[] w fun e w' => e = .returned (.bool true) ∧ Below w.heap.size w w' := by
  have kc := fun (w : World) (C : Array Value) (n c : Nat) => Lib.run_convert_bytes_const (P := Try.prog) w 22 5 C n c Try.underlying22 Try.underlying5
  have HP := Lib.hid (put_yes [] 258 3 (by decide) (by decide) (by decide) none 0 w By.nil_ (by simp))
  rw [digits_258] at HP
  go_enter Try.func6, Try.ntmps6
  go_wp2_with fail
  refine HP.out.mono ?_
  rintro e w1 ⟨v, rfl, hv⟩
  have hb1 := hv.2
  obtain ⟨g, c, rfl, hy, _, _, hg0, hg1, _⟩ := hv.block (by decide) (by decide)
  have HG := Lib.hid (get_yes [2, 1, 0] 0 2 (by decide) (by decide) (by decide) (some ⟨g, 0, none⟩) c w1 hy (by simp))
  rw [num_21] at HG
  have HB1 := Lib.hid hb1
  have HY := Lib.hid hy
  clear hb1 hy hv
  go_wp2_with fail
  refine HG.out.mono ?_
  rintro e w2 ⟨rfl, rfl⟩
  go_wp2_with fail
  rw [← chars_vals]
  have HV := Lib.hid (value_any [49, 50, 51, 52, 53, 54, 55, 56] rfl (some ⟨w1.heap.size, 0, none⟩) 8 (w1.alloc (.cells (vals [49, 50, 51, 52, 53, 54, 55, 56]).toArray 5 (8, 9)))
    (by
      have h := By.of_row (bs := [49, 50, 51, 52, 53, 54, 55, 56]) (heap_alloc_new w1 (.cells (vals [49, 50, 51, 52, 53, 54, 55, 56]).toArray 5 (8, 9))) (by rfl) (by decide)
      exact h.mono (by simp)))
  refine HV.out.mono ?_
  rintro e w3 ⟨rfl, hb3⟩
  have hb13 : Below w1.heap.size w1 w3 := ((Below.refl w1.heap.size w1).alloc (Nat.le_refl _) _).trans (hb3.mono (by simp))
  have HB3 := Lib.hid (HB1.out.trans (hb13.mono HB1.out.size))
  have HI := Lib.hid (arr_info [49, 50, 51, 52, 53, 54, 55, 56] rfl)
  have H1 := Lib.hid (arr_one [49, 50, 51, 52, 53, 54, 55, 56])
  have HS := Lib.hid (arr_size [49, 50, 51, 52, 53, 54, 55, 56] rfl)
  have H0 := Lib.hid (heap_alloc_new w3 (.cells Z8.toArray 36))
  have HZ := Lib.hid (show Z8 = [.int .u8 0, .int .u8 0, .int .u8 0, .int .u8 0, .int .u8 0, .int .u8 0, .int .u8 0, .int .u8 0] from rfl)
  have HR := Lib.hid (setRow_heap _ _ _ (vals [49, 50, 51, 52, 53, 54, 55, 56]).toArray _ _ H0.out)
  have hB6 := below_setRow ((Below.refl w3.heap.size w3).alloc (Nat.le_refl _) (.cells Z8.toArray 36)) (Nat.le_refl _) (vals [49, 50, 51, 52, 53, 54, 55, 56]).toArray
  have HB6 := Lib.hid (HB3.out.trans (hB6.mono HB3.out.size))
  have hy6 := (HY.out.below hb13 (Nat.le_refl _)).below hB6 hb13.size
  have c7 := (cell_of_row _ w3.heap.size 7 _ _ _ HR.out).trans (show _ = some (Value.int .u8 56) from rfl)
  rw [HZ.out] at H0 HS HR HB6 hy6 c7
  obtain ⟨g', o', eg, _, hcells⟩ := hy6.at_ (by decide)
  cases eg
  have c0 := hcells 0 (by decide)
  have c1 := hcells 1 (by decide)
  have c2 := hcells 2 (by decide)
  clear hcells hy6 hB6 hb3 HV hb13 HP HG
  go_wp2_with (first
    | (refine wpList_store_row rfl 36 _ _ rfl w3.heap.size (vals [49, 50, 51, 52, 53, 54, 55, 56]).toArray rfl rfl 36 _ H0.out HI.out HS.out H1.out ?_))
  go_ret
  exact ⟨rfl, HB6.out⟩
end Go.Proofs.Ytaapkohcembjbaa
