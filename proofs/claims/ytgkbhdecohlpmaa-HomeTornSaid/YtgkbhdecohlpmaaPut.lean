/-
  Put, of the program, by contract.
-/
import Derived.Test.YtgkbhdecohlpmaaNum
import Derived.Deep.OwnRows
namespace Go.Proofs.Ytgkbhdecohlpmaa
set_option maxRecDepth 100000
open Go.RowKit

theorem copied (bs ds : List Value) (Z : List Value) (hZ : Z.length = bs.length + ds.length) : splice (splice Z 0 bs) bs.length ds = bs ++ ds := by
  have := splice_splice_splice Z bs ds [] bs.length ds.length rfl rfl (by simp [hZ])
  rw [List.append_nil] at this
  rw [← this]
  have hl : (splice (splice Z 0 bs) bs.length ds).length = bs.length + ds.length := by
    rw [length_splice, length_splice, hZ] <;> simp [length_splice, hZ]
  generalize splice (splice Z 0 bs) bs.length ds = Y at hl
  unfold splice
  simp only [List.length_nil, Nat.add_zero, List.nil_append, List.take_append_drop]

/-- a block of n zero bytes -/
theorem made_zeros (n : Nat) : ∃ Z : List Value, madeCells #[.int .u8 0] n = Z.toArray ∧ Z.length = n := ⟨(madeCells #[.int .u8 0] n).toList, by simp, by simp [size_madeCells]⟩
theorem Try.size5 : (Try.prog.info? 5).map (·.size) = some 1 := by kernel_rfl


theorem New.of_row {w w' : World} {bs : List Nat} {g : Nat} (hg : w'.heap[g]? = some (.cells (vals bs).toArray 5 (0, 0))) (hge : w.heap.size ≤ g) (hb : Below w.heap.size w w') (hl : bs.length ≤ maxLen) :
    New w w' bs (.slice (some ⟨g, 0, none⟩) bs.length bs.length) :=
  ⟨⟨by rw [vals_length, Nat.mul_one], Or.inr ⟨g, bs.length, _, rfl, hge, hg, Nat.le_refl _, hl, by simp [vals_length], by simp [vals_length, List.take_of_length_le]⟩⟩, hb⟩

set_option maxHeartbeats 400000 in
theorem behind_any (bs ds : List Nat) (A D : Option Addr) (c cd : Nat) (w : World) (hA : By w w.heap.size A bs) (hD : By w w.heap.size D ds) (hl : bs.length + ds.length ≤ 1000000000) :
    Calls Try.prog 48 #[.slice A bs.length c, .slice D ds.length cd] w fun e w' => ∃ v, e = .returned v ∧ New w w' (bs ++ ds) v := by
  have hmk := run_make_row' (P := Try.prog) 44 5 (.int .u8 0) 1 Try.underlying44 Try.info5 rfl .i64 .i64 (bs.length + ds.length) (by omega) (by omega)
  rw [show ((bs.length + ds.length : Nat) : Int) = (bs.length : Int) + (ds.length : Int) by omega] at hmk
  obtain ⟨Z, hZ, hZl⟩ := made_zeros (bs.length + ds.length)
  rw [hZ] at hmk
  have HB := Lib.hid (Below.refl w.heap.size w)
  have n1 := Lib.hid (vals_length bs)
  have n2 := Lib.hid (vals_length ds)
  have ZL := Lib.hid hZl
  have H0 := Lib.hid (heap_alloc_new w (.cells Z.toArray 5))
  have B0 := Lib.hid ((Below.refl w.heap.size w).alloc (Nat.le_refl _) (.cells Z.toArray 5))
  have A0 := Lib.hid ((hA.below B0.out (Nat.le_refl _)).src)
  have HC := Lib.hid (show splice (splice Z 0 (vals bs)) bs.length (vals ds) = vals (bs ++ ds) by
    have h := copied (vals bs) (vals ds) Z (by rw [hZl, vals_length, vals_length])
    rw [vals_length] at h
    rw [h, vals_append])
  have HD := Lib.hid hD
  have HP := Lib.hid (show (bs ++ ds).length = bs.length + ds.length from List.length_append)
  generalize bs ++ ds = P at HC HP ⊢
  clear hZ hZl hA hD HB
  go_enter Try.func48, Try.ntmps48
  go_wp2_with (first
    | (with_reducible refine wpList_copy_splice rfl (.tmp 13) (.tmp 14) 44 44 rfl 5 Try.underlying44 Try.size5 _ _ _ _ _ _ rfl rfl w.heap.size 0 Z 5 H0.out (vals bs) (by rw [n1.out]; simp only [Nat.min_def]; split <;> omega) (fun h => ⟨rfl, A0.out h⟩) (by rw [n1.out, ZL.out]; omega) vals_one w.heap.size w B0.out (Nat.le_refl _) ?_; intro w2 hg2 hb2; rw [n1.out])
    | (with_reducible refine wpList_copy_splice rfl (.tmp 18) (.tmp 19) 44 44 rfl 5 Try.underlying44 Try.size5 _ _ _ _ _ _ rfl rfl w.heap.size bs.length (splice Z 0 (vals bs)) 5 hg2.out (vals ds) (by rw [n2.out]; simp only [Nat.min_def]; split <;> omega) (by
        intro h
        have h' := h
        rw [n2.out] at h'
        have e := List.length_pos_iff.1 h'
        exact ⟨by simp [e], (HD.out.below hb2 (Nat.le_refl _)).src h⟩) (by rw [length_splice _ _ _ (by rw [n1.out, ZL.out]; omega), n2.out, ZL.out]; omega) vals_one w.heap.size w hb2 (Nat.le_refl _) ?_; intro w3 hg3 hb3; rw [HC.out] at hg3))
  all_goals
    go_ret
    have hr := New.of_row hg3.out (Nat.le_refl _) hb3 (by rw [HP.out]; unfold maxLen; omega)
    rw [HP.out] at hr
    refine ⟨_, ?_, hr⟩
    simp_all

/-- the array of digits behind k rounds -/
def digRow (n k : Nat) : Array Value := (vals (dig n k ++ List.replicate (6 - k) 0)).toArray
theorem digRow_size (n k : Nat) (h : k ≤ 6) : (digRow n k).size = 6 := by simp [digRow, vals_length, dig_length]; omega
theorem digRow_set (n k : Nat) (h : k < 6) : (digRow n k).setIfInBounds k (.int .u8 (n / 256 ^ k % 256 : Nat)) = digRow n (k + 1) := by
  unfold digRow
  rw [dig_succ, show 6 - k = (6 - (k + 1)) + 1 by omega, List.replicate_succ, List.append_assoc]
  simp [vals, dig_length, List.set_append]
theorem digRow_take (n k : Nat) : (digRow n k).toList.take (dig n k).length = vals (dig n k) := by
  unfold digRow
  rw [vals_append]
  simp [vals_length, List.take_append]
theorem digRow_zero (n : Nat) : digRow n 0 = #[.int .u8 0, .int .u8 0, .int .u8 0, .int .u8 0, .int .u8 0, .int .u8 0] := rfl
theorem six_cases {k : Nat} (h : k < 6) : k = 0 ∨ k = 1 ∨ k = 2 ∨ k = 3 ∨ k = 4 ∨ k = 5 := by omega

set_option maxHeartbeats 400000 in
theorem put_yes (bs : List Nat) (n m : Nat) (hn : n < 256 ^ m) (hm : 1 ≤ m) (hm6 : m ≤ 6) (A : Option Addr) (c : Nat) (w : World) (hA : By w w.heap.size A bs) (hl : bs.length ≤ 100000000) :
    Calls Try.prog 43 #[.slice A bs.length c, .int .i64 (n : Int), .int .i64 (m : Int)] w fun e w' => ∃ v, e = .returned (.tuple #[v, .int .i64 0]) ∧ New w w' (bs ++ dig n m) v := by
  have hf := fits_yes hm hm6 hn
  have hw := Lib.hid (fits_any n m)
  rw [hf] at hw
  have hn48 : n < 281474976710656 := Nat.lt_of_lt_of_le hn (pow_le6 hm6)
  have HA := Lib.hid hA
  clear hn hf hA
  go_enter Try.func43, Try.ntmps43
  go_wp2_with fail
  refine (hw.out _).mono ?_
  rintro e w1 ⟨rfl, rfl⟩
  go_wp2
  go_loopw [9, 15] (fun _ i wr => ∃ k : Nat, k ≤ m ∧ i = .int .i64 k ∧ wr.heap[w.heap.size]? = some (.cells (digRow n k) 103 (0, 0)) ∧ Below w.heap.size w wr) (fun _ i _ => m - (intOf i).toNat)
  case atStart =>
    refine ⟨0, by omega, rfl, ?_, (Below.refl _ _).alloc (Nat.le_refl _) _⟩
    rw [digRow_zero]
    exact heap_alloc_new w _
  case round =>
    obtain ⟨k, hk, rfl, h0, hb⟩ := hrel
    by_cases hlt : k < m
    · have hk6 : k < 6 := by omega
      obtain ⟨v, hc⟩ : ∃ v, wr.cell? ⟨w.heap.size, k, none⟩ = some v := ⟨(digRow n k)[k]'(by rw [digRow_size _ _ (by omega)]; exact hk6), by rw [cell_of_row wr _ k _ _ _ h0]; simp⟩
      have hfr := frozen_of_row wr w.heap.size k _ _ h0
      have HN := Lib.hid ((heap_setCell_same wr w.heap.size k _ _ (.int .u8 (n / 256 ^ k % 256 : Nat)) h0).trans (by rw [digRow_set n k hk6]))
      have HB := Lib.hid (hb.setCell (p := ⟨w.heap.size, k, none⟩) (Nat.le_refl _) (.int .u8 (n / 256 ^ k % 256 : Nat)))
      clear h0 hb
      rcases six_cases hk6 with rfl | rfl | rfl | rfl | rfl | rfl
      · rw [show ((n / 256 ^ 0 % 256 : Nat) : Int) = (n : Int) % 256 by omega] at HN HB
        go_wp2
        exact ⟨⟨1, by omega, rfl, HN.out, HB.out⟩, by simp [intOf]; omega⟩
      · rw [show ((n / 256 ^ 1 % 256 : Nat) : Int) = (n : Int) / 256 % 256 by omega] at HN HB
        go_wp2
        exact ⟨⟨2, by omega, rfl, HN.out, HB.out⟩, by simp [intOf]; omega⟩
      · rw [show ((n / 256 ^ 2 % 256 : Nat) : Int) = (n : Int) / 65536 % 256 by omega] at HN HB
        go_wp2
        exact ⟨⟨3, by omega, rfl, HN.out, HB.out⟩, by simp [intOf]; omega⟩
      · rw [show ((n / 256 ^ 3 % 256 : Nat) : Int) = (n : Int) / 16777216 % 256 by omega] at HN HB
        go_wp2
        exact ⟨⟨4, by omega, rfl, HN.out, HB.out⟩, by simp [intOf]; omega⟩
      · rw [show ((n / 256 ^ 4 % 256 : Nat) : Int) = (n : Int) / 4294967296 % 256 by omega] at HN HB
        go_wp2
        exact ⟨⟨5, by omega, rfl, HN.out, HB.out⟩, by simp [intOf]; omega⟩
      · rw [show ((n / 256 ^ 5 % 256 : Nat) : Int) = (n : Int) / 1099511627776 by omega] at HN HB
        go_wp2
        exact ⟨⟨6, by omega, rfl, HN.out, HB.out⟩, by simp [intOf]; omega⟩
    · obtain rfl : k = m := by omega
      have hD : By wr (w.heap.size + 1) (some ⟨w.heap.size, 0, none⟩) (dig n k) := By.of_row h0 (digRow_take n k) (dig_lt k n)
      have hs : w.heap.size + 1 ≤ wr.heap.size := by
        rcases Nat.lt_or_ge w.heap.size wr.heap.size with h | h
        · exact h
        · rw [Array.getElem?_eq_none h] at h0; cases h0
      have HW := Lib.hid (behind_any bs (dig n k) A (some ⟨w.heap.size, 0, none⟩) c 6 wr ((HA.out.below hb (Nat.le_refl _)).mono hb.size) (hD.mono hs) (by rw [dig_length]; omega))
      rw [dig_length] at HW
      have HB := Lib.hid hb
      clear h0 hD hb
      have g0 : (0 : Int) ≤ (k : Int) := by omega
      have g6 : (k : Int) ≤ 6 := by omega
      go_wp2_with fail
      refine HW.out.mono ?_
      rintro e w3 ⟨v, rfl, hv⟩
      go_wp2
      go_ret2
      exact ⟨v, rfl, own_mono hv.1 HB.out.size, HB.out.trans (hv.2.mono HB.out.size)⟩

set_option maxHeartbeats 400000 in
theorem put_no (bs : Nat) (n z : Int) (hf : fits n z = false) (A : Option Addr) (c : Nat) (w : World) :
    Calls Try.prog 43 #[.slice A bs c, .int .i64 n, .int .i64 z] w fun e w' => e = .returned (.tuple #[.slice none 0 0, .int .i64 2]) ∧ w = w' := by
  have hw := Lib.hid (fits_any n z)
  rw [hf] at hw
  go_enter Try.func43, Try.ntmps43
  go_wp2_with fail
  refine (hw.out _).mono ?_
  rintro e w1 ⟨rfl, rfl⟩
  go_wp2
  go_ret2
  exact ⟨rfl, rfl⟩
end Go.Proofs.Ytgkbhdecohlpmaa
