/-
  Get, of the program, by contract.
-/
import Derived.Test.YtgkbhdecohlpmaaNum
namespace Go.Proofs.Ytgkbhdecohlpmaa
set_option maxRecDepth 100000
open Go.RowKit

theorem wid_yes {m : Nat} (h1 : 1 ≤ m) (h6 : m ≤ 6) : wid m = true := by unfold wid; simp; omega
theorem wid_of {z : Int} (h : wid z = true) : ∃ m : Nat, z = m ∧ 1 ≤ m ∧ m ≤ 6 := by
  unfold wid at h
  rw [decide_eq_true_eq] at h
  exact ⟨z.toNat, by omega, by omega, by omega⟩
theorem six_ways {k : Nat} (h : k < 6) : k = 0 ∨ k = 1 ∨ k = 2 ∨ k = 3 ∨ k = 4 ∨ k = 5 := by omega
/-- the part that stands at a place -/
theorem part_snoc (bs : List Nat) (a k : Nat) (h : a + k < bs.length) : (bs.drop a).take (k + 1) = (bs.drop a).take k ++ [bs.getD (a + k) 0] := by
  rw [List.take_succ_eq_append_getElem (by rw [List.length_drop]; omega), List.getElem_drop, getD_at _ _ h]
theorem part_length (bs : List Nat) (a k : Nat) (h : a + k ≤ bs.length) : ((bs.drop a).take k).length = k := by
  rw [List.length_take, List.length_drop]; omega

set_option maxHeartbeats 400000 in
theorem get_yes (bs : List Nat) (a m : Nat) (hm : 1 ≤ m) (hm6 : m ≤ 6) (ha : a + m ≤ bs.length) (A : Option Addr) (c : Nat) (w : World) (hA : By w w.heap.size A bs) (hl : bs.length ≤ 100000000) :
    Calls Try.prog 49 #[.slice A bs.length c, .int .i64 (a : Int), .int .i64 (m : Int)] w fun e w' => e = .returned (.tuple #[.int .i64 (num ((bs.drop a).take m) : Nat), .int .i64 0]) ∧ w = w' := by
  have hw := Lib.hid (isWidth_any m)
  rw [wid_yes hm hm6] at hw
  obtain ⟨b, off, rfl, hb, hcells⟩ := hA.at_ (by omega)
  have hbl := hA.1
  clear hA
  go_enter Try.func49, Try.ntmps49
  go_wp2_with fail
  refine (hw.out _).mono ?_
  rintro e w1 ⟨rfl, rfl⟩
  go_wp2
  go_loop [8, 9, 24] (fun n _ i => ∃ k : Nat, k ≤ m ∧ i = .int .i64 k ∧ n = .int .i64 (num ((bs.drop a).take k) : Nat)) (fun _ _ i => m - (intOf i).toNat)
  case atStart => exact ⟨0, by omega, rfl, rfl⟩
  case round =>
    obtain ⟨k, hk, rfl, rfl⟩ := hrel
    by_cases hlt : k < m
    · have hk6 : k < 6 := by omega
      have hp := part_snoc bs a k (by omega)
      have hpl := part_length bs a k (by omega)
      have hcell := hcells (a + k) (by omega)
      have hlen : a + k < bs.length := by omega
      have hN := num_lt ((bs.drop a).take k) fun x hx => hbl x (List.mem_of_mem_drop (List.mem_of_mem_take hx))
      have hB : bs.getD (a + k) 0 < 256 := by rw [getD_at _ _ hlen]; exact hbl _ (List.getElem_mem hlen)
      have hs := num_snoc (bs.getD (a + k) 0) ((bs.drop a).take k)
      rw [← hp, hpl] at hs
      rw [hpl] at hN
      have ho := or_hi k _ _ hN hB hk6
      rw [← hs] at ho
      clear hp hpl hcells hbl hs
      generalize bs.getD (a + k) 0 = B at *
      generalize num ((bs.drop a).take k) = N at *
      obtain ⟨N', hN'⟩ : ∃ N', num ((bs.drop a).take (k + 1)) = N' := ⟨_, rfl⟩
      rw [hN'] at ho
      have HN := Lib.hid hN'
      clear hN'
      rcases six_ways hk6 with rfl | rfl | rfl | rfl | rfl | rfl
      · rw [show ((B * 256 ^ 0 : Nat) : Int) = (B : Int) by omega] at ho
        rw [Nat.add_zero] at hcell
        go_wp2
        exact ⟨⟨1, by omega, rfl, by rw [HN.out]⟩, by simp [intOf]; omega⟩
      · rw [show ((B * 256 ^ 1 : Nat) : Int) = (B : Int) * 256 by omega] at ho
        go_wp2
        exact ⟨⟨2, by omega, rfl, by rw [HN.out]⟩, by simp [intOf]; omega⟩
      · rw [show ((B * 256 ^ 2 : Nat) : Int) = (B : Int) * 65536 by omega] at ho
        go_wp2
        exact ⟨⟨3, by omega, rfl, by rw [HN.out]⟩, by simp [intOf]; omega⟩
      · rw [show ((B * 256 ^ 3 : Nat) : Int) = (B : Int) * 16777216 by omega] at ho
        go_wp2
        exact ⟨⟨4, by omega, rfl, by rw [HN.out]⟩, by simp [intOf]; omega⟩
      · rw [show ((B * 256 ^ 4 : Nat) : Int) = (B : Int) * 4294967296 by omega] at ho
        go_wp2
        exact ⟨⟨5, by omega, rfl, by rw [HN.out]⟩, by simp [intOf]; omega⟩
      · rw [show ((B * 256 ^ 5 : Nat) : Int) = (B : Int) * 1099511627776 by omega] at ho
        go_wp2
        exact ⟨⟨6, by omega, rfl, by rw [HN.out]⟩, by simp [intOf]; omega⟩
    · obtain rfl : k = m := by omega
      go_wp2
      go_ret2
      exact ⟨rfl, rfl⟩

set_option maxHeartbeats 400000 in
theorem get_width (n : Nat) (a z : Int) (hz : wid z = false) (A : Option Addr) (c : Nat) (w : World) :
    Calls Try.prog 49 #[.slice A n c, .int .i64 a, .int .i64 z] w fun e w' => e = .returned (.tuple #[.int .i64 0, .int .i64 2]) ∧ w = w' := by
  have hw := Lib.hid (isWidth_any z)
  rw [hz] at hw
  go_enter Try.func49, Try.ntmps49
  go_wp2_with fail
  refine (hw.out _).mono ?_
  rintro e w1 ⟨rfl, rfl⟩
  go_wp2
  go_ret2
  exact ⟨rfl, rfl⟩
set_option maxHeartbeats 400000 in
theorem get_place (n : Nat) (a : Int) (m : Nat) (hm : 1 ≤ m) (hm6 : m ≤ 6) (ha : a < 0 ∨ (n : Int) - m < a) (hn : n ≤ 100000000) (A : Option Addr) (c : Nat) (w : World) :
    Calls Try.prog 49 #[.slice A n c, .int .i64 a, .int .i64 (m : Int)] w fun e w' => e = .returned (.tuple #[.int .i64 0, .int .i64 40]) ∧ w = w' := by
  have hw := Lib.hid (isWidth_any m)
  rw [wid_yes hm hm6] at hw
  by_cases h0 : a < 0
  all_goals
    go_enter Try.func49, Try.ntmps49
    go_wp2_with fail
    refine (hw.out _).mono ?_
    rintro e w1 ⟨rfl, rfl⟩
    go_wp2
    go_ret2
    exact ⟨rfl, rfl⟩

end Go.Proofs.Ytgkbhdecohlpmaa
