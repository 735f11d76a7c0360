/-
  The document's SameValues, of blocks that are the same.
-/
import Derived.Test.YtgkbhdecohlpmaaHSays
import Derived.Test.YtgkbhdecohlpmaaArrays
namespace Go.Proofs.Ytgkbhdecohlpmaa
set_option maxRecDepth 100000
open Go.RowKit

/-- the eight cells of a block -/
theorem By.eight {w : World} {B b off : Nat} {bs : List Nat} {k n : Nat} (h : By w B (some ⟨b, off, none⟩) bs) (hn : bs.length = 8 * n) (hk : k < n) : ∀ j, j < 8 → w.cell? ⟨b, off + k * 8 + j, none⟩ = some (.int .u8 (bs.getD (k * 8 + j) 0 : Nat)) := by
  intro j hj
  obtain ⟨b', off', e, _, hc⟩ := h.at_ (by omega)
  obtain ⟨rfl, rfl⟩ : b = b' ∧ off = off' := by simpa using e
  rw [Nat.add_assoc]
  exact hc _ (by omega)
theorem neq_same (w : World) (x0 x1 x2 x3 x4 x5 x6 x7 : Nat) : (binOp .neq 49 (.agg #[.int .u8 (x0 : Int), .int .u8 (x1 : Int), .int .u8 (x2 : Int), .int .u8 (x3 : Int), .int .u8 (x4 : Int), .int .u8 (x5 : Int), .int .u8 (x6 : Int), .int .u8 (x7 : Int)]) (.agg #[.int .u8 (x0 : Int), .int .u8 (x1 : Int), .int .u8 (x2 : Int), .int .u8 (x3 : Int), .int .u8 (x4 : Int), .int .u8 (x5 : Int), .int .u8 (x6 : Int), .int .u8 (x7 : Int)])).run Try.prog w = .ok (.bool false) w := by
  have h := bytes_neq w 49 8 Try.underlying49 [x0, x1, x2, x3, x4, x5, x6, x7] [x0, x1, x2, x3, x4, x5, x6, x7] rfl rfl
  rw [decide_eq_true rfl] at h
  exact h
set_option maxHeartbeats 1000000 in
theorem samev_any (bs : List Nat) (n : Nat) (hn : bs.length = 8 * n) (A B : Option Addr) (c d : Nat) (w : World) (hA : By w w.heap.size A bs) (hB : By w w.heap.size B bs) (hl : n ≤ 1000000) :
    Calls Try.prog 10 #[.slice A n c, .slice B n d] w fun e w' => e = .returned (.bool true) ∧ Below w.heap.size w w' := by
  have HA := Lib.hid hA
  have HB := Lib.hid hB
  clear hA hB
  go_enter Try.func10, Try.ntmps10
  go_wp2
  go_loopw [5] (fun i wr => ∃ k : Nat, k ≤ n ∧ i = .int .i64 k ∧ Below w.heap.size w wr) (fun i _ => n - (intOf i).toNat)
  case atStart => exact ⟨0, by omega, rfl, Below.refl _ _⟩
  case round =>
    obtain ⟨k, hk, rfl, hb⟩ := hrel
    by_cases hlt : k < n
    · obtain ⟨b, off, rfl, hbw, _⟩ := HA.out.at_ (by omega)
      obtain ⟨b', off', rfl, hbw', _⟩ := HB.out.at_ (by omega)
      have c0 := (HA.out.below hb (Nat.le_refl _)).eight hn hlt
      have d0 := (HB.out.below hb (Nat.le_refl _)).eight hn hlt
      have a0 := c0 0 (by omega)
      have a1 := c0 1 (by omega)
      have a2 := c0 2 (by omega)
      have a3 := c0 3 (by omega)
      have a4 := c0 4 (by omega)
      have a5 := c0 5 (by omega)
      have a6 := c0 6 (by omega)
      have a7 := c0 7 (by omega)
      have b0 := d0 0 (by omega)
      have b1 := d0 1 (by omega)
      have b2 := d0 2 (by omega)
      have b3 := d0 3 (by omega)
      have b4 := d0 4 (by omega)
      have b5 := d0 5 (by omega)
      have b6 := d0 6 (by omega)
      have b7 := d0 7 (by omega)
      clear c0 d0
      rw [Nat.add_zero] at a0 b0
      generalize bs.getD (k * 8 + 0) 0 = x0 at *
      generalize bs.getD (k * 8 + 1) 0 = x1 at *
      generalize bs.getD (k * 8 + 2) 0 = x2 at *
      generalize bs.getD (k * 8 + 3) 0 = x3 at *
      generalize bs.getD (k * 8 + 4) 0 = x4 at *
      generalize bs.getD (k * 8 + 5) 0 = x5 at *
      generalize bs.getD (k * 8 + 6) 0 = x6 at *
      generalize bs.getD (k * 8 + 7) 0 = x7 at *
      have hq := fun w => neq_same w x0 x1 x2 x3 x4 x5 x6 x7
      have HBW := Lib.hid hb
      clear hb
      go_wp2_with fail
      go_region
      go_wp2
      go_roundw
      case rel => exact ⟨k + 1, by omega, by go_num, HBW.out.drew⟩
      case measure => simp [intOf]; omega
    · obtain rfl : k = n := by omega
      go_wp2
      go_ret
      exact ⟨rfl, hb⟩

end Go.Proofs.Ytgkbhdecohlpmaa
