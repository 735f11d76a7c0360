/-
  Values, of the program and of the document, by contract.
-/
import Derived.Test.YtaapkohcembjbaaBlocks
import Derived.Deep.RegionLaw
namespace Go.Proofs.Ytaapkohcembjbaa
open Go.RowKit

theorem splice_next (bs Z : List Value) (k : Nat) (hk : k * 8 + 8 ≤ bs.length) :
    splice (bs.take (k * 8) ++ Z.drop (k * 8)) (k * 8) ((bs.drop (k * 8)).take 8) = bs.take ((k + 1) * 8) ++ Z.drop ((k + 1) * 8) := by
  unfold splice
  have h1 : (bs.take (k * 8)).length = k * 8 := by rw [List.length_take]; omega
  have h2 : ((bs.drop (k * 8)).take 8).length = 8 := by rw [List.length_take, List.length_drop]; omega
  rw [h2, List.take_append_of_le_length (by omega), List.take_of_length_le (Nat.le_of_eq h1), List.drop_append, h1, List.drop_of_length_le (l := bs.take (k * 8)) (by omega), List.nil_append, List.drop_drop, ← List.append_assoc,
    ← List.take_add, show k * 8 + (k * 8 + 8 - k * 8) = (k + 1) * 8 by omega, show k * 8 + 8 = (k + 1) * 8 by omega]

set_option maxHeartbeats 1000000 in
theorem values_any (bs : List Nat) (n : Nat) (hn : bs.length = 8 * n) (A : Option Addr) (c : Nat) (w : World) (hA : By w w.heap.size A bs) (hl : n ≤ 1000000) :
    Calls Try.prog 18 #[.slice A n c] w fun e w' => ∃ v, e = .returned v ∧ New w w' bs v := by
  have hmk := run_make_row' (P := Try.prog) 22 5 (.int .u8 0) 1 Try.underlying22 Try.info5 rfl .i64 .i64 (n * 8) (by omega) (by omega)
  rw [show ((n * 8 : Nat) : Int) = (n : Int) * 8 by omega] at hmk
  obtain ⟨Z, hZ, hZl⟩ := made_zeros (n * 8)
  rw [hZ] at hmk
  clear hZ
  have H0 := Lib.hid (heap_alloc_new w (.cells Z.toArray 5))
  have B0 := Lib.hid ((Below.refl w.heap.size w).alloc (Nat.le_refl _) (.cells Z.toArray 5))
  have HA := Lib.hid hA
  clear hA
  go_enter Try.func18, Try.ntmps18
  go_wp2
  go_loopw [4, 11] (fun _ i wr => ∃ k : Nat, k ≤ n ∧ i = .int .i64 k ∧ wr.heap[w.heap.size]? = some (.cells ((vals bs).take (k * 8) ++ Z.drop (k * 8)).toArray 5 (0, 0)) ∧ Below w.heap.size w wr) (fun _ i _ => n - (intOf i).toNat)
  case atStart => exact ⟨0, by omega, rfl, by simpa using H0.out, B0.out⟩
  case round =>
    obtain ⟨k, hk, rfl, h0, hb⟩ := hrel
    by_cases hlt : k < n
    · obtain ⟨b, off, rfl, hbw, hcells⟩ := HA.out.at_ (by omega)
      have n1 := Lib.hid (show (((vals bs).drop (k * 8)).take 8).length = 8 by rw [List.length_take, List.length_drop, vals_length]; omega)
      have n2 := Lib.hid (show ((vals bs).take (k * 8) ++ Z.drop (k * 8)).length = 8 * n by rw [List.length_append, List.length_take, List.length_drop, vals_length]; omega)
      have HS := Lib.hid (splice_next (vals bs) Z k (by rw [vals_length]; omega))
      have H1 := Lib.hid (show ∀ v ∈ ((vals bs).drop (k * 8)).take 8, v.oneCell' = true from fun v hv => vals_one v (List.mem_of_mem_drop (List.mem_of_mem_take hv)))
      have HE := Lib.hid (show ∀ j v, (((vals bs).drop (k * 8)).take 8)[j]? = some v → wr.cell? ((⟨b, off + k * 8, none⟩ : Addr).add j) = some v from fun j v hv => by
        have hj : j < 8 := by
          have := (List.getElem?_eq_some_iff.1 hv).1
          rw [n1.out] at this; exact this
        rw [List.getElem?_take, if_pos hj, List.getElem?_drop] at hv
        obtain ⟨h1, rfl⟩ := vals_get hv
        rw [add_flat, Nat.add_assoc]
        exact (hb.cell hbw).trans (hcells _ h1))
      have HX := Lib.hid h0
      have HB := Lib.hid hb
      have hne : ¬ n * 8 = k * 8 := by omega
      have g1 : (k : Int) * 8 ≤ (n : Int) * 8 := by omega
      have g0 : (0 : Int) ≤ (k : Int) * 8 := by omega
      have g3 : IntKind.i64.wrap ((k : Int) * 8) = (k : Int) * 8 := by rw [IntKind.wrap_i64]; omega
      have g4 : ((k : Int) * 8).toNat = k * 8 := by omega
      have g2 : (k : Int) < (n : Int) := by omega
      generalize ((vals bs).drop (k * 8)).take 8 = Y at *
      generalize (vals bs).take (k * 8) ++ Z.drop (k * 8) = X at *
      clear h0 hb hcells
      go_wp2_with fail
      go_region_law (refine step_copy_splice rfl (.tmp 17) (.tmp 21) 22 22 rfl 5 Try.underlying22 Try.size5 (some ⟨w.heap.size, k * 8, none⟩) (some ⟨b, off + k * 8, none⟩) (n * 8 - k * 8) (n * 8 - k * 8) 8 8 (by simp [Act.eval, Act.put]) (by simp [Act.eval, Act.put]) w.heap.size (k * 8) X 5 HX.out Y (by rw [n1.out]; exact (Nat.min_eq_left (by omega)).symm) (fun _ => ⟨rfl, _, rfl, HE.out⟩) (by rw [n1.out, n2.out]; omega) H1.out w.heap.size w HB.out.drew (Nat.le_refl _) ?_; intro w4 hg4 hb4; rw [HS.out] at hg4)
      go_wp2
      go_roundw
      case rel => exact ⟨k + 1, by omega, by go_num, hg4.out, hb4⟩
      case measure => simp [intOf]; omega
    · obtain rfl : k = n := by omega
      have e : (vals bs).take (k * 8) ++ Z.drop (k * 8) = vals bs := by
        rw [List.take_of_length_le (by rw [vals_length]; omega), List.drop_of_length_le (by omega), List.append_nil]
      rw [e] at h0
      have hr := New.of_row h0 (Nat.le_refl _) hb (by unfold maxLen; omega)
      rw [hn, Nat.mul_comm] at hr
      clear h0 hb
      go_wp2
      go_ret
      exact ⟨_, rfl, hr⟩
end Go.Proofs.Ytaapkohcembjbaa
