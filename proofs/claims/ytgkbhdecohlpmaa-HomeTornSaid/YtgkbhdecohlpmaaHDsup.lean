/-
  The developers' answers: the superblock of a sector's bytes.
-/
import Derived.Test.YtgkbhdecohlpmaaHDblk
import Derived.Test.YtgkbhdecohlpmaaGet
namespace Go.Proofs.Ytgkbhdecohlpmaa
set_option maxRecDepth 100000
open Go.RowKit
set_option maxRecDepth 100000

theorem num_le : ∀ l : List Nat, num l = Crc.le l := by
  intro l
  induction l with
  | nil => rfl
  | cons a l ih => rw [num, Crc.le, ih]
/-- where number k begins -/
def offN : Nat → Nat
  | 0 => 0
  | k + 1 => offN k + wdN k
theorem offN_le {k : Nat} (h : k ≤ 13) : offN k ≤ 27 ∧ (k < 13 → offN k + wdN k ≤ 27) := by
  have : k = 0 ∨ k = 1 ∨ k = 2 ∨ k = 3 ∨ k = 4 ∨ k = 5 ∨ k = 6 ∨ k = 7 ∨ k = 8 ∨ k = 9 ∨ k = 10 ∨ k = 11 ∨ k = 12 ∨ k = 13 := by omega
  rcases this with rfl | rfl | rfl | rfl | rfl | rfl | rfl | rfl | rfl | rfl | rfl | rfl | rfl | rfl <;> decide
/-- number k of a sector's bytes -/
def zS (bs : List Nat) (k : Nat) : Nat := Crc.le ((bs.drop (offN k)).take (wdN k))
def rowS (bs : List Nat) (k : Nat) : Array Value := ((List.range 13).map fun j => Value.int .i64 (if j < k then (zS bs j : Int) else 0)).toArray
theorem rowS_size (bs : List Nat) (k : Nat) : (rowS bs k).size = 13 := by simp [rowS]
theorem rowS_get (bs : List Nat) (k j : Nat) (h : j < 13) : (rowS bs k)[j]? = some (.int .i64 (if j < k then (zS bs j : Int) else 0)) := by
  unfold rowS
  simp [h]
theorem rowS_set (bs : List Nat) (k : Nat) (h : k < 13) : (rowS bs k).setIfInBounds k (.int .i64 (zS bs k : Int)) = rowS bs (k + 1) := by
  apply Array.ext_getElem?
  intro j
  rcases Nat.lt_or_ge j 13 with hj | hj
  · rw [rowS_get bs (k + 1) j hj]
    by_cases e : k = j
    · subst e
      rw [Array.getElem?_setIfInBounds_self_of_lt (by rw [rowS_size]; exact h), if_pos (by omega)]
    · rw [Array.getElem?_setIfInBounds_ne e, rowS_get bs k j hj]
      by_cases h2 : j < k
      · rw [if_pos h2, if_pos (by omega)]
      · rw [if_neg h2, if_neg (by omega)]
  · rw [Array.getElem?_eq_none (by rw [Array.size_setIfInBounds, rowS_size]; exact hj), Array.getElem?_eq_none (by rw [rowS_size]; exact hj)]
theorem rowS_zero (bs : List Nat) : rowS bs 0 = zeroS.cells := by
  unfold rowS
  rw [zero_cells]
  simp
  rfl
theorem le_one (bs : List Nat) (i : Nat) (h : i < bs.length) : Crc.le ((bs.drop i).take 1) = bs[i] := by
  rw [List.drop_eq_getElem_cons h, List.take_succ_cons, List.take_zero]
  simp [Crc.le]
theorem rowS_all {bs : List Nat} (h : bs.length = 64) : rowS bs 13 = (supOf bs).cells := by
  have hm : (bs.drop 19).take 8 = [bs[19], bs[20], bs[21], bs[22], bs[23], bs[24], bs[25], bs[26]] := by
    rw [List.drop_eq_getElem_cons (by omega), List.drop_eq_getElem_cons (by omega), List.drop_eq_getElem_cons (by omega), List.drop_eq_getElem_cons (by omega), List.drop_eq_getElem_cons (by omega), List.drop_eq_getElem_cons (by omega), List.drop_eq_getElem_cons (by omega), List.drop_eq_getElem_cons (by omega)]
    rfl
  unfold rowS Sup.cells supOf Sup.ints
  rw [hm]
  rw [show List.range 13 = [0, 1, 2, 3, 4, 5, 6, 7, 8, 9, 10, 11, 12] from rfl]
  simp only [List.map_cons, List.map_nil]
  unfold zS
  rw [show offN 0 = 0 from rfl, show offN 1 = 6 from rfl, show offN 2 = 12 from rfl, show offN 3 = 13 from rfl, show offN 4 = 16 from rfl, show offN 5 = 19 from rfl, show offN 6 = 20 from rfl, show offN 7 = 21 from rfl, show offN 8 = 22 from rfl, show offN 9 = 23 from rfl, show offN 10 = 24 from rfl, show offN 11 = 25 from rfl, show offN 12 = 26 from rfl]
  rw [show wdN 0 = 6 from rfl, show wdN 1 = 6 from rfl, show wdN 2 = 1 from rfl, show wdN 3 = 3 from rfl, show wdN 4 = 3 from rfl, show wdN 5 = 1 from rfl, show wdN 6 = 1 from rfl, show wdN 7 = 1 from rfl, show wdN 8 = 1 from rfl, show wdN 9 = 1 from rfl, show wdN 10 = 1 from rfl, show wdN 11 = 1 from rfl, show wdN 12 = 1 from rfl]
  rw [le_one bs 19 (by omega), le_one bs 20 (by omega), le_one bs 21 (by omega), le_one bs 22 (by omega), le_one bs 23 (by omega), le_one bs 24 (by omega), le_one bs 25 (by omega), le_one bs 26 (by omega), List.drop_zero]
  simp only [show (0 : Nat) < 13 by omega, show (1 : Nat) < 13 by omega, show (2 : Nat) < 13 by omega, show (3 : Nat) < 13 by omega, show (4 : Nat) < 13 by omega, show (5 : Nat) < 13 by omega, show (6 : Nat) < 13 by omega, show (7 : Nat) < 13 by omega, show (8 : Nat) < 13 by omega, show (9 : Nat) < 13 by omega, show (10 : Nat) < 13 by omega, show (11 : Nat) < 13 by omega, show (12 : Nat) < 13 by omega, if_true]
theorem supOf_fine {bs : List Nat} (h : Dk.Sec bs) : (supOf bs).Fine := by
  have hl := h.1
  have hp : ∀ i m, m ≤ 6 → Crc.le ((bs.drop i).take m) < 9223372036854775808 := fun i m hm => by
    have h1 := Crc.le_lt (bs := (bs.drop i).take m) fun b hb => h.2 b (List.mem_of_mem_drop (List.mem_of_mem_take hb))
    have h2 : ((bs.drop i).take m).length ≤ 6 := by rw [List.length_take]; omega
    have h3 : 2 ^ (8 * ((bs.drop i).take m).length) ≤ 2 ^ 48 := Nat.pow_le_pow_right (by omega) (by omega)
    have h4 : (2 : Nat) ^ 48 < 9223372036854775808 := by decide
    omega
  refine ⟨by unfold supOf; simp; omega, fun z hz => ?_⟩
  unfold supOf Sup.ints at hz
  simp only [List.mem_cons] at hz
  rcases hz with rfl | rfl | rfl | rfl | rfl | hz
  · have := hp 0 6 (by omega); rw [List.drop_zero] at this; omega
  · have := hp 6 6 (by omega); omega
  · have := hp 12 1 (by omega); omega
  · have := hp 13 3 (by omega); omega
  · have := hp 16 3 (by omega); omega
  · obtain ⟨x, hx, rfl⟩ := List.mem_map.1 hz
    have := h.2 x (List.mem_of_mem_drop (List.mem_of_mem_take hx))
    omega
set_option maxHeartbeats 2000000 in
theorem superOf_dev (bs : List Nat) (hb : Dk.Sec bs) (w : World) :
    Calls Try.prog 44 #[.agg (vals bs).toArray] w fun e w' => e = .returned (.agg (supOf bs).cells) ∧ Below w.heap.size w w' := by
  have HAl := Lib.hid (rowS_all hb.1)
  have HIr := Lib.hid (fun k => show (Try.prog.info? 25).map (·.size) = some (rowS bs k).size by rw [super_info, rowS_size])
  obtain ⟨w1, hw1⟩ : ∃ w1, w1 = w.alloc (.cells (vals bs).toArray 64) := ⟨_, rfl⟩
  obtain ⟨Z, hZ⟩ : ∃ Z, Z = zeroS.cells := ⟨_, rfl⟩
  have HZ := Lib.hid (show (Try.prog.info? 25).map (·.zero) = some (some (.agg Z)) by rw [hZ, zero_cells]; kernel_rfl)
  obtain ⟨w2, hw2⟩ : ∃ w2, w2 = w1.alloc (.cells Z 25) := ⟨_, rfl⟩
  obtain ⟨w3, hw3⟩ : ∃ w3, w3 = w2.alloc (.cells Z 25) := ⟨_, rfl⟩
  have hs1 : w1.heap.size = w.heap.size + 1 := by rw [hw1]; simp
  have hs2 : w2.heap.size = w1.heap.size + 1 := by rw [hw2]; simp
  have hs3 : w3.heap.size = w2.heap.size + 1 := by rw [hw3]; simp
  have hb1 : Below w.heap.size w w1 := by rw [hw1]; exact (Below.refl _ w).alloc (Nat.le_refl _) _
  have hb2 : Below w1.heap.size w1 w2 := by rw [hw2]; exact (Below.refl _ w1).alloc (Nat.le_refl _) _
  have hb3 : Below w2.heap.size w2 w3 := by rw [hw3]; exact (Below.refl _ w2).alloc (Nat.le_refl _) _
  have H0 := Lib.hid (show w3.heap[w.heap.size]? = some (.cells (vals bs).toArray 64 (0, 0)) from (hb3.block _ (by omega)).trans ((hb2.block _ (by omega)).trans (by rw [hw1]; exact heap_alloc_new w _)))
  have H1 := Lib.hid (show w3.heap[w1.heap.size]? = some (.cells Z 25 (0, 0)) from (hb3.block _ (by omega)).trans (by rw [hw2]; exact heap_alloc_new w1 _))
  have H2 := Lib.hid (show w3.heap[w2.heap.size]? = some (.cells (rowS bs 0) 25 (0, 0)) by rw [hw3, heap_alloc_new w2 _, hZ, rowS_zero])
  have HB3 := Lib.hid (hb1.trans ((hb2.trans (hb3.mono hb2.size)).mono hb1.size))
  have HG := Lib.hid (show w.heap.size < w2.heap.size ∧ w.heap.size < w1.heap.size ∧ w1.heap.size < w2.heap.size ∧ w3.heap.size = w2.heap.size + 1 by omega)
  have HNu := Lib.hid (numbers_dev w2.heap.size w3 (by omega))
  have HGet := Lib.hid (fun W (hW : W.heap[w.heap.size]? = some (.cells (vals bs).toArray 64 (0, 0))) k (hk : k < 13) => show Calls Try.prog 49 #[.slice (some ⟨w.heap.size, 0, none⟩) 64 64, .int .i64 (offN k : Nat), .int .i64 (wdN k : Nat)] W fun e w' => e = .returned (.tuple #[.int .i64 (zS bs k : Nat), .int .i64 0]) ∧ W = w' from by
    have hlt : w.heap.size < W.heap.size := (Array.getElem?_eq_some_iff.1 hW).1
    have hy : By W W.heap.size (some ⟨w.heap.size, 0, none⟩) bs := (By.of_row hW (by rw [List.take_of_length_le (by simp [vals_length])]) hb.2).mono hlt
    have := get_yes bs (offN k) (wdN k) (wdN_ok k).1 (wdN_ok k).2 (by have := (offN_le (k := k) (by omega)).2 hk; rw [hb.1]; omega) (some ⟨w.heap.size, 0, none⟩) 64 W hy (by rw [hb.1]; omega)
    rw [num_le, hb.1] at this
    exact this)
  have HW1 := Lib.hid hw1
  have HW2 := Lib.hid hw2
  have HW3 := Lib.hid hw3
  have HSz := Lib.hid (show Z.size = 13 by rw [hZ]; rfl)
  generalize hgg1 : w1.heap.size = g2 at *
  generalize hgg2 : w2.heap.size = g3 at *
  have HQ1 := Lib.hid hgg1
  have HQ2 := Lib.hid hgg2
  clear hb hZ hw1 hw2 hw3 hs1 hs2 hs3 hb1 hb2 hb3 hgg1 hgg2
  go_enter Try.func44, Try.ntmps44
  go_wp2_with (first
    | (rw [← HW1.out])
    | (refine wpList_alloc_any rfl 25 rfl Z HZ.out ?_; (first | (rw [← HW2.out, HQ1.out]) | (rw [← HW3.out, HQ2.out]))))
  refine HNu.out.mono ?_
  rintro e w4 ⟨v, rfl, hv, hb4⟩
  obtain ⟨b, off, c, rfl, hbb, hbl, hc1, hc2, hat⟩ := nums_at hv
  have HAt := Lib.hid hat
  have HBl := Lib.hid (show w3.heap.size ≤ b ∧ b < w4.heap.size from ⟨hbb, hbl⟩)
  have HB4 := Lib.hid (HB3.out.trans (hb4.mono HB3.out.size))
  have H0_ := Lib.hid ((hb4.block _ (by have := HG.out; omega)).trans H0.out)
  have H1_ := Lib.hid ((hb4.block _ (by have := HG.out; omega)).trans H1.out)
  have H2_ := Lib.hid ((hb4.block _ (by have := HG.out; omega)).trans H2.out)
  clear hv hb4 hat hbb hbl H0 H1 H2
  go_wp2
  go_loopw [4, 9] (fun fr i wr => ∃ k : Nat, k ≤ 13 ∧ i = .int .i64 (k : Int) ∧ fr = .int .i64 (offN k : Nat) ∧ wr.heap[w.heap.size]? = some (.cells (vals bs).toArray 64 (0, 0)) ∧ wr.heap[g2]? = some (.cells Z 25 (0, 0)) ∧ wr.heap[g3]? = some (.cells (rowS bs k) 25 (0, 0)) ∧ NumsAt wr g3 b off ∧ b < wr.heap.size ∧ Below w.heap.size w wr) (fun _ i _ => 13 - (intOf i).toNat)
  case atStart => exact ⟨0, by omega, rfl, rfl, H0_.out, H1_.out, H2_.out, HAt.out, HBl.out.2, HB4.out⟩
  case round =>
    clear H0_ H1_ H2_ HAt HB4
    obtain ⟨k, hk, rfl, rfl, h0, h1, h2, hat, hbl, hb⟩ := hrel
    have H0 := Lib.hid h0
    have H1 := Lib.hid h1
    have H2 := Lib.hid h2
    have HBr := Lib.hid hb
    have HLb := Lib.hid hbl
    clear h0 h1 h2 hb
    by_cases hlt : k < 13
    · obtain ⟨l0, l1, l2, l3⟩ := hat.four hlt
      have HAt := Lib.hid hat
      have hki : (k : Int) < 13 := by omega
      have hw : IntKind.i64.wrap ((k : Int) + 1) = (k : Int) + 1 := by rw [IntKind.wrap_i64]; omega
      have hof := offN_le (k := k) (by omega)
      have hwf : IntKind.i64.wrap (((offN k : Nat) : Int) + ((wdN k : Nat) : Int)) = ((offN k : Nat) : Int) + ((wdN k : Nat) : Int) := by have := hof.2 hlt; rw [IntKind.wrap_i64]; omega
      have HOs := Lib.hid (show ((offN k : Nat) : Int) + ((wdN k : Nat) : Int) = ((offN (k + 1) : Nat) : Int) by show _ = ((offN k + wdN k : Nat) : Int); omega)
      obtain ⟨w5, hw5⟩ : ∃ x, x = (wr.alloc (.cells #[.pointer (some ⟨g3, k, none⟩), .int .i64 (wdN k : Nat), .int .i64 (loN k), .int .i64 (hiN k)] 76)).drew := ⟨_, rfl⟩
      have hb5 : Below wr.heap.size wr w5 := by rw [hw5]; exact ((Below.refl _ wr).alloc (Nat.le_refl _) _).drew
      have hg5 : w5.heap[wr.heap.size]? = some (.cells #[.pointer (some ⟨g3, k, none⟩), .int .i64 (wdN k : Nat), .int .i64 (loN k), .int .i64 (hiN k)] 76 (0, 0)) := by rw [hw5]; exact heap_alloc_new wr _
      have hz5 : w5.heap.size = wr.heap.size + 1 := by rw [hw5]; simp [World.drew]
      have lt0 := (Array.getElem?_eq_some_iff.1 H0.out).1
      have lt1 := (Array.getElem?_eq_some_iff.1 H1.out).1
      have lt2 := (Array.getElem?_eq_some_iff.1 H2.out).1
      have h05 := (hb5.block _ lt0).trans H0.out
      have h15 := (hb5.block _ lt1).trans H1.out
      have h25 := (hb5.block _ lt2).trans H2.out
      have HS5 := Lib.hid (show w5.cell? ⟨wr.heap.size, 0, none⟩ = some (.pointer (some ⟨g3, k, none⟩)) ∧ w5.cell? ⟨wr.heap.size, 1, none⟩ = some (.int .i64 (wdN k : Nat)) from ⟨by rw [cell_of_row _ _ 0 _ _ _ hg5]; rfl, by rw [cell_of_row _ _ 1 _ _ _ hg5]; rfl⟩)
      have HC2 := Lib.hid (show w5.cell? ⟨g3, k, none⟩ = some (.int .i64 0) by rw [cell_of_row w5 g3 k _ _ _ h25, rowS_get bs k k hlt, if_neg (by omega)])
      have HF2 := Lib.hid (frozen_of_row w5 g3 k _ _ h25)
      obtain ⟨w6, hw6⟩ : ∃ x, x = w5.setCell ⟨g3, k, none⟩ (.int .i64 (zS bs k : Int)) := ⟨_, rfl⟩
      have hg6 : w5.grownBy w6 (some g3) := by rw [hw6]; exact only_set (only_refl w5 (some g3)) _
      have hz6 : w5.heap.size ≤ w6.heap.size := hg6.size
      have hr6 : w6.heap[g3]? = some (.cells (rowS bs (k + 1)) 25 (0, 0)) := by rw [hw6, heap_setCell_same w5 g3 k _ _ _ h25, rowS_set bs k hlt]
      have hgg := HG.out
      have hbl2 := HBl.out
      have HR6 := Lib.hid hr6
      have HR60 := Lib.hid ((hg6.block _ (by omega) (by intro e; cases e; omega)).trans h05)
      have HR61 := Lib.hid ((hg6.block _ (by omega) (by intro e; cases e; omega)).trans h15)
      have hc6 : ∀ j, w6.cell? ⟨wr.heap.size, j, none⟩ = w5.cell? ⟨wr.heap.size, j, none⟩ := fun j => World.cell?_of_block (w := w5) (hg6.block _ (by show wr.heap.size < _; omega) (by intro e; have e2 : wr.heap.size = g3 := Option.some.inj e; omega))
      have HS6 := Lib.hid (show w6.cell? ⟨wr.heap.size, 0, none⟩ = some (.pointer (some ⟨g3, k, none⟩)) ∧ w6.cell? ⟨wr.heap.size, 1, none⟩ = some (.int .i64 (wdN k : Nat)) from ⟨(hc6 0).trans HS5.out.1, (hc6 1).trans HS5.out.2⟩)
      have HAt6 := Lib.hid (show NumsAt w6 g3 b off from fun i hi j u hu => (World.cell?_of_block (w := w5) (hg6.block _ (by show b < _; have := HLb.out; omega) (by intro e; have e2 : b = g3 := Option.some.inj e; omega))).trans ((hb5.cell (p := ⟨b, off + i * 4 + j, none⟩) HLb.out).trans (HAt.out i hi j u hu)))
      have HB6 := Lib.hid (show Below w.heap.size w w6 from (HBr.out.trans (hb5.mono HBr.out.size)).trans ⟨hg6.os, hg6.tape, hg6.output, hg6.size, fun q hq => hg6.block q (by have := HBr.out.size; omega) (by intro e; cases e; omega)⟩)
      have HL6 := Lib.hid (show b < w6.heap.size by have := HLb.out; omega)
      have HGt := Lib.hid (HGet.out w5 h05 k hlt)
      have HW5 := Lib.hid hw5
      have HW6 := Lib.hid hw6
      generalize zS bs k = zz at *
      clear hw5 hb5 hg5 hz5 lt0 lt1 lt2 h05 h15 h25 hw6 hg6 hz6 hr6 hgg hbl2 hc6 hat
      go_wp2
      refine wp_region_held_drew (S := fun W => W.cell? ⟨wr.heap.size, 0, none⟩ = some (.pointer (some ⟨g3, k, none⟩)) ∧ W.cell? ⟨wr.heap.size, 1, none⟩ = some (.int .i64 (wdN k : Nat))) (by kernel_rfl) (by rw [← HW5.out]; exact HS5.out) (fun hHeld => ?_)
      rw [← HW5.out]
      refine wpAnyH_take (i := 0) (v := ?_) rfl (by kernel_rfl) (by kernel_rfl) (by kernel_rfl) (fun _ _ _ h => h) (Or.inl ⟨by rfl, ?_⟩) (by assumption) ?_
      rotate_left
      · simp only [List.getElem_toArray, List.getElem_cons_zero, List.getElem_cons_succ]; intro W hSw; (try dsimp only at hSw); go_simp; all_goals with_reducible rfl
      simp only [Act.put, List.getElem_toArray, List.getElem_cons_zero, List.getElem_cons_succ, List.setIfInBounds_toArray, List.set_cons_zero, List.set_cons_succ]
      refine wpAnyH_take (i := 1) (v := ?_) rfl (by kernel_rfl) (by kernel_rfl) (by kernel_rfl) (fun _ _ _ h => h) (Or.inl ⟨by rfl, ?_⟩) (by assumption) ?_
      rotate_left
      · simp only [List.getElem_toArray, List.getElem_cons_zero, List.getElem_cons_succ]; intro W hSw; (try dsimp only at hSw); go_simp; all_goals with_reducible rfl
      simp only [Act.put, List.getElem_toArray, List.getElem_cons_zero, List.getElem_cons_succ, List.setIfInBounds_toArray, List.set_cons_zero, List.set_cons_succ]
      refine wpAnyH_take (i := 2) (v := ?_) rfl (by kernel_rfl) (by kernel_rfl) (by kernel_rfl) (fun _ _ _ h => h) (Or.inl ⟨by rfl, ?_⟩) (by assumption) ?_
      rotate_left
      · simp only [List.getElem_toArray, List.getElem_cons_zero, List.getElem_cons_succ]; intro W hSw; (try dsimp only at hSw); go_simp; all_goals with_reducible rfl
      simp only [Act.put, List.getElem_toArray, List.getElem_cons_zero, List.getElem_cons_succ, List.setIfInBounds_toArray, List.set_cons_zero, List.set_cons_succ]
      refine wpAnyH_take (i := 3) (v := ?_) rfl (by kernel_rfl) (by kernel_rfl) (by kernel_rfl) (fun _ _ _ h => h) (Or.inl ⟨by rfl, ?_⟩) (by assumption) ?_
      rotate_left
      · simp only [List.getElem_toArray, List.getElem_cons_zero, List.getElem_cons_succ]; intro W hSw; (try dsimp only at hSw); go_simp; all_goals with_reducible rfl
      simp only [Act.put, List.getElem_toArray, List.getElem_cons_zero, List.getElem_cons_succ, List.setIfInBounds_toArray, List.set_cons_zero, List.set_cons_succ]
      refine wpAnyH_take (i := 4) (v := ?_) rfl (by kernel_rfl) (by kernel_rfl) (by kernel_rfl) (fun _ _ _ h => h) (Or.inl ⟨by rfl, ?_⟩) (by assumption) ?_
      rotate_left
      · simp only [List.getElem_toArray, List.getElem_cons_zero, List.getElem_cons_succ]; intro W hSw; (try dsimp only at hSw); go_simp; all_goals with_reducible rfl
      simp only [Act.put, List.getElem_toArray, List.getElem_cons_zero, List.getElem_cons_succ, List.setIfInBounds_toArray, List.set_cons_zero, List.set_cons_succ]
      refine wpAnyH_take (i := 5) (v := ?_) rfl (by kernel_rfl) (by kernel_rfl) (by kernel_rfl) (fun _ _ _ h => h) (Or.inl ⟨by rfl, ?_⟩) (by assumption) ?_
      rotate_left
      · simp only [List.getElem_toArray, List.getElem_cons_zero, List.getElem_cons_succ]; intro W hSw; (try dsimp only at hSw); go_simp; all_goals with_reducible rfl
      simp only [Act.put, List.getElem_toArray, List.getElem_cons_zero, List.getElem_cons_succ, List.setIfInBounds_toArray, List.set_cons_zero, List.set_cons_succ]
      refine wpAnyH_ready (rs := [6]) (by kernel_rfl) (by simp) ?_
      refine AllReadyH.cons rfl (fun K hK => ?_) AllReadyH.nil
      simp only [List.getElem_toArray, List.getElem_cons_zero, List.getElem_cons_succ]
      go_simp
      refine HGt.out.mono ?_
      rintro e w7 ⟨rfl, rfl⟩
      go_wp2_with fail
      refine hK.out _ _ (HS5.out) (fun hHeldN => ?_)
      clear hK K hHeld
      have hHeld := hHeldN
      clear hHeldN
      (try simp only [Act.put, List.getElem_toArray, List.getElem_cons_zero, List.getElem_cons_succ, List.setIfInBounds_toArray, List.set_cons_zero, List.set_cons_succ])
      refine wpAnyH_take (i := 7) (v := ?_) rfl (by kernel_rfl) (by kernel_rfl) (by kernel_rfl) (fun _ _ _ h => h) (Or.inl ⟨by rfl, ?_⟩) (by assumption) ?_
      rotate_left
      · simp only [List.getElem_toArray, List.getElem_cons_zero, List.getElem_cons_succ]; intro W hSw; (try dsimp only at hSw); go_simp; all_goals with_reducible rfl
      simp only [Act.put, List.getElem_toArray, List.getElem_cons_zero, List.getElem_cons_succ, List.setIfInBounds_toArray, List.set_cons_zero, List.set_cons_succ]
      refine wpAnyH_take (i := 8) (v := ?_) rfl (by kernel_rfl) (by kernel_rfl) (by kernel_rfl) (fun _ _ _ h => h) (Or.inl ⟨by rfl, ?_⟩) (by assumption) ?_
      rotate_left
      · simp only [List.getElem_toArray, List.getElem_cons_zero, List.getElem_cons_succ]; intro W hSw; (try dsimp only at hSw); go_simp; all_goals with_reducible rfl
      simp only [Act.put, List.getElem_toArray, List.getElem_cons_zero, List.getElem_cons_succ, List.setIfInBounds_toArray, List.set_cons_zero, List.set_cons_succ]
      refine wpAnyH_take (i := 9) (v := ?_) rfl (by kernel_rfl) (by kernel_rfl) (by kernel_rfl) (fun _ _ _ h => h) (Or.inl ⟨by rfl, ?_⟩) (by assumption) ?_
      rotate_left
      · simp only [List.getElem_toArray, List.getElem_cons_zero, List.getElem_cons_succ]; intro W hSw; (try dsimp only at hSw); go_simp; all_goals with_reducible rfl
      simp only [Act.put, List.getElem_toArray, List.getElem_cons_zero, List.getElem_cons_succ, List.setIfInBounds_toArray, List.set_cons_zero, List.set_cons_succ]
      refine wpAnyH_take (i := 10) (v := ?_) rfl (by kernel_rfl) (by kernel_rfl) (by kernel_rfl) (fun _ _ _ h => h) (Or.inl ⟨by rfl, ?_⟩) (by assumption) ?_
      rotate_left
      · simp only [List.getElem_toArray, List.getElem_cons_zero, List.getElem_cons_succ]; intro W hSw; (try dsimp only at hSw); go_simp; all_goals with_reducible rfl
      simp only [Act.put, List.getElem_toArray, List.getElem_cons_zero, List.getElem_cons_succ, List.setIfInBounds_toArray, List.set_cons_zero, List.set_cons_succ]
      refine wpAnyH_ready (rs := [11]) (by kernel_rfl) (by simp) ?_
      refine AllReadyH.cons rfl (fun K hK => ?_) AllReadyH.nil
      simp only [List.getElem_toArray, List.getElem_cons_zero, List.getElem_cons_succ]
      have c2 := HC2.out
      have f2 := HF2.out
      go_simp
      rw [← HW6.out]
      clear c2 f2
      refine hK.out _ _ (HS6.out) (fun hHeldN => ?_)
      clear hK K hHeld
      have hHeld := hHeldN
      clear hHeldN
      (try simp only [Act.put, List.getElem_toArray, List.getElem_cons_zero, List.getElem_cons_succ, List.setIfInBounds_toArray, List.set_cons_zero, List.set_cons_succ])
      refine wpAnyH_done (by kernel_rfl) ?_ _
      obtain ⟨c60, c61⟩ := HS6.out
      go_wp2
      go_roundw
      case rel => exact ⟨k + 1, by omega, by simp, by rw [HOs.out], HR60.out, HR61.out, HR6.out, HAt6.out, HL6.out, HB6.out⟩
      case measure => simp [intOf]; omega
    · obtain rfl : k = 13 := by omega
      clear hat
      have HI := Lib.hid (HIr.out 13)
      have HSz2 := Lib.hid (show Z.size = (rowS bs 13).size by rw [HSz.out, rowS_size])
      have HOa := Lib.hid (show (rowS bs 13).all (·.oneCell') = true by rw [HAl.out]; exact cells_all)
      rw [HAl.out] at H2 HI HSz2 HOa
      generalize hsc : (supOf bs).cells = cs at *
      have HCs := Lib.hid hsc
      clear hsc
      go_wp2_with (first
        | (refine wpList_load_row rfl 25 _ rfl g3 rfl 25 cs (0, 0) _ H2.out Try.underlying25 rfl HI.out ?_)
        | (refine wpList_store_row rfl 25 _ _ rfl g2 cs rfl rfl 25 Z H1.out HI.out HSz2.out HOa.out ?_))
      exact bodyPost_ret (results_cell1H (t := 25) (p := 2) rfl _ _ g2 cs (0, 0) _ rfl (setRow_heap _ _ _ _ _ _ H1.out) Try.underlying25 rfl HI.out) rfl ⟨by rw [HCs.out], below_setRow HBr.out (by have := HG.out; omega) _⟩
end Go.Proofs.Ytgkbhdecohlpmaa
