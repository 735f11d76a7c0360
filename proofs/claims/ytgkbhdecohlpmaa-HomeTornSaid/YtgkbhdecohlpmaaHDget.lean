/-
  The developers' answers: the superblock of a disk; all ten contracts.
-/
import Derived.Test.YtgkbhdecohlpmaaHDmax
namespace Go.Proofs.Ytgkbhdecohlpmaa
set_option maxRecDepth 100000
open Go.RowKit
set_option maxRecDepth 100000

theorem sec_same (w : World) (D d : Nat) (hD : D = d + 2) (xs ys : List Nat) (hx : xs.length = 64) (hy : ys.length = 64) : (Op.equalIn D 64 (.agg (vals xs).toArray) (.agg (vals ys).toArray)).run Try.prog w = .ok (decide (xs = ys)) w := by
  subst hD
  obtain ⟨i0, hi, _, hz1, _⟩ := info_parts Try.info5
  have hcell : Try.prog.cellsOf 5 = 1 := by kernel_rfl
  rw [run_equalIn_array w (d + 1) _ _ Try.underlying64 hi, hcell, List.range_eq_range', eqItems_bytes d xs ys (by omega) 64 0 w (by omega)]
  simp only [List.drop_zero, List.take_of_length_le (Nat.le_of_eq hx), List.take_of_length_le (Nat.le_of_eq hy)]
theorem part_secA (w : World) (a b : List Nat) (ha : a.length = 64) : (part 64 (vals (a ++ b)).toArray (0 * 64)).run Try.prog w = .ok (.agg (vals a).toArray) w := by
  obtain ⟨i, hi, hs⟩ : ∃ i, Try.prog.info? 64 = some i ∧ i.size = 64 := by
    have h := hsec_size
    cases hq : Try.prog.info? 64 with
    | none => rw [hq] at h; cases h
    | some i => rw [hq] at h; exact ⟨i, rfl, Option.some.inj h⟩
  have e : (vals (a ++ b)).toArray.extract 0 64 = (vals a).toArray := by
    rw [vals_append, List.extract_toArray]
    congr 1
    simp only [List.extract, Nat.sub_zero, List.drop_zero]
    exact List.take_left' (by rw [vals_length, ha])
  have e2 : (vals (a ++ b)).take 64 = vals a := by rw [vals_append]; exact List.take_left' (by rw [vals_length, ha])
  simp only [Nat.zero_mul, part, isAgg, Sem.run_bind, run_underlying Try.underlying64, Result.andThen_ok, Sem.run_pure, if_true, sizeOf, typeInfo, hi, hs, Nat.zero_add, e]
  simp [hi, hs, e2]
theorem part_secB (w : World) (a b : List Nat) (ha : a.length = 64) (hb : b.length = 64) : (part 64 (vals (a ++ b)).toArray (1 * 64)).run Try.prog w = .ok (.agg (vals b).toArray) w := by
  obtain ⟨i, hi, hs⟩ : ∃ i, Try.prog.info? 64 = some i ∧ i.size = 64 := by
    have h := hsec_size
    cases hq : Try.prog.info? 64 with
    | none => rw [hq] at h; cases h
    | some i => rw [hq] at h; exact ⟨i, rfl, Option.some.inj h⟩
  have e : (vals (a ++ b)).toArray.extract 64 128 = (vals b).toArray := by
    rw [vals_append, List.extract_toArray]
    congr 1
    simp only [List.extract]
    rw [List.drop_left' (by rw [vals_length, ha]), List.take_of_length_le (by rw [vals_length, hb]; decide)]
  have e2 : ((vals (a ++ b)).drop 64).take 64 = vals b := by rw [vals_append, List.drop_left' (by rw [vals_length, ha]), List.take_of_length_le (by rw [vals_length, hb]; decide)]
  simp only [Nat.one_mul, part, isAgg, Sem.run_bind, run_underlying Try.underlying64, Result.andThen_ok, Sem.run_pure, if_true, sizeOf, typeInfo, hi, hs, e]
  simp [hi, hs, e2]
theorem items_no (w : World) (D : Nat) (xs ys : Array Value) (x y : Value) (is : List Nat) (i c : Nat) (hx : (part 64 xs (i * c)).run Try.prog w = .ok x w) (hy : (part 64 ys (i * c)).run Try.prog w = .ok y w) (he : (Op.equalIn D 64 x y).run Try.prog w = .ok false w) :
    (Op.eqItems D 64 c xs ys (i :: is)).run Try.prog w = .ok false w := by
  simp only [Op.eqItems, Sem.run_bind, hx, hy, he, Result.andThen_ok, Bool.not_false, if_true, Sem.run_pure]
theorem items_yes (w : World) (D : Nat) (xs ys : Array Value) (x y : Value) (is : List Nat) (i c : Nat) (hx : (part 64 xs (i * c)).run Try.prog w = .ok x w) (hy : (part 64 ys (i * c)).run Try.prog w = .ok y w) (he : (Op.equalIn D 64 x y).run Try.prog w = .ok true w) :
    (Op.eqItems D 64 c xs ys (i :: is)).run Try.prog w = (Op.eqItems D 64 c xs ys is).run Try.prog w := by
  simp only [Op.eqItems, Sem.run_bind, hx, hy, he, Result.andThen_ok, Bool.not_true, Bool.false_eq_true, if_false]
theorem items_nil (w : World) (D : Nat) (xs ys : Array Value) (c : Nat) : (Op.eqItems D 64 c xs ys []).run Try.prog w = .ok true w := by
  simp only [Op.eqItems, Sem.run_pure]
theorem two_same (w : World) (D d2 d : Nat) (h1 : D = d2 + 1) (h2 : d2 = d + 2) (a b c e : List Nat) (ha : a.length = 64) (hb : b.length = 64) (hc : c.length = 64) (he : e.length = 64) :
    (Op.equalIn D 82 (.agg (vals (a ++ b)).toArray) (.agg (vals (c ++ e)).toArray)).run Try.prog w = .ok (decide (a = c) && decide (b = e)) w := by
  subst h1
  obtain ⟨i, hi, hs⟩ : ∃ i, Try.prog.info? 64 = some i ∧ i.size = 64 := by
    have h := hsec_size
    cases hq : Try.prog.info? 64 with
    | none => rw [hq] at h; cases h
    | some i => rw [hq] at h; exact ⟨i, rfl, Option.some.inj h⟩
  have hcell : Try.prog.cellsOf 64 = 64 := by unfold Program.cellsOf; rw [hi]; exact hs
  have e1 := sec_same w d2 d h2 a c ha hc
  have e2 := sec_same w d2 d h2 b e hb he
  rw [run_equalIn_array w d2 _ _ Try.underlying82 hi, hcell, show List.range 2 = [0, 1] from rfl]
  by_cases h : a = c
  · rw [decide_eq_true h] at e1 ⊢
    rw [items_yes w d2 _ _ _ _ _ 0 64 (part_secA w a b ha) (part_secA w c e hc) e1]
    by_cases h3 : b = e
    · rw [decide_eq_true h3] at e2 ⊢
      rw [items_yes w d2 _ _ _ _ _ 1 64 (part_secB w a b ha hb) (part_secB w c e hc he) e2, items_nil]
      rfl
    · rw [decide_eq_false h3] at e2 ⊢
      rw [items_no w d2 _ _ _ _ _ 1 64 (part_secB w a b ha hb) (part_secB w c e hc he) e2]
      rfl
  · rw [decide_eq_false h] at e1 ⊢
    rw [items_no w d2 _ _ _ _ _ 0 64 (part_secA w a b ha) (part_secA w c e hc) e1]
    rfl
theorem two_eq (w : World) (a b c e : List Nat) (ha : a.length = 64) (hb : b.length = 64) (hc : c.length = 64) (he : e.length = 64) :
    (binOp .eql 82 (.agg (vals (a ++ b)).toArray) (.agg (vals (c ++ e)).toArray)).run Try.prog w = .ok (.bool (decide (a = c) && decide (b = e))) w := by
  rw [run_eql_struct, two_same w 10000 9999 9997 rfl rfl a b c e ha hb hc he]
  rfl
theorem gets_nil_dev : GetSNil := by
  intro w
  rw [zero_cells]
  go_enter Try.func15, Try.ntmps15
  go_wp2
  exact bodyPost_ret (v := .tuple #[.agg #[.int .i64 0, .int .i64 0, .int .i64 0, .int .i64 0, .int .i64 0, .int .i64 0, .int .i64 0, .int .i64 0, .int .i64 0, .int .i64 0, .int .i64 0, .int .i64 0, .int .i64 0], .int .i64 1]) (by simp [results, Try.results15, go_sem]) rfl ⟨rfl, (Below.refl _ _).alloc (Nat.le_refl _) _⟩
def zer64 : List Nat := List.replicate 64 0
theorem getSp_first {s0 s1 : List Nat} (h0 : s0 = zer64) (h1 : s1 = zer64) : getSp s0 s1 = some firstS := by subst h0; subst h1; exact get_first
theorem getSp_none {s0 s1 : List Nat} (hl0 : s0.length = 64) (hl1 : s1.length = 64) (h : ¬ (s0 = zer64 ∧ s1 = zer64)) (hs : stK s0 s1 2 = []) : getSp s0 s1 = none := by
  have e : stK s0 s1 2 = (readSp 0 s0).toList ++ (readSp 1 s1).toList := rfl
  rw [e, List.append_eq_nil_iff] at hs
  unfold getSp
  cases h0 : readSp 0 s0 with
  | some x => rw [h0] at hs; cases hs.1
  | none =>
    cases h1 : readSp 1 s1 with
    | some x => rw [h1] at hs; cases hs.2
    | none =>
      simp only
      rw [if_neg]
      rintro ⟨z0, z1⟩
      rw [allZ_eq hl0, decide_eq_true_eq] at z0
      rw [allZ_eq hl1, decide_eq_true_eq] at z1
      exact h ⟨z0, z1⟩
theorem getSp_some {s0 s1 : List Nat} (hs : stK s0 s1 2 ≠ []) : getSp s0 s1 = some (bestK (stK s0 s1 2) (stK s0 s1 2).length) := by
  have e : stK s0 s1 2 = (readSp 0 s0).toList ++ (readSp 1 s1).toList := rfl
  rw [e] at hs ⊢
  unfold getSp
  cases h0 : readSp 0 s0 with
  | some x =>
    cases h1 : readSp 1 s1 with
    | some y =>
      show (if x.gen < y.gen then some y else some x) = some (bestK [x, y] (1 + 1))
      rw [bestK, bestK_one]
      show _ = some (if x.gen < y.gen then y else x)
      split <;> rfl
    | none =>
      show some x = some (bestK [x] 1)
      rw [bestK_one]; rfl
  | none =>
    cases h1 : readSp 1 s1 with
    | some y =>
      show some y = some (bestK [y] 1)
      rw [bestK_one]; rfl
    | none => rw [h0, h1] at hs; exact absurd rfl hs
theorem two_zero : (Try.prog.info? 82).map (·.zero) = some (some (.agg (vals (zer64 ++ zer64)).toArray)) := by kernel_rfl
theorem two_size : (Try.prog.info? 82).map (·.size) = some 128 := by kernel_rfl
theorem hsec_info (bs : List Nat) (h : bs.length = 64) : (Try.prog.info? 64).map (·.size) = some (vals bs).length := by rw [vals_length, h]; exact hsec_size
theorem OwnS.slice {w : World} {base : Nat} {l : List Sup} {v : Value} (h : OwnS w base l v) : ∃ A c, v = .slice A l.length c := by
  rcases h.2 with ⟨e, h0⟩ | ⟨g, cap, cur, e, _⟩
  · exact ⟨none, 0, by rw [e, h0]⟩
  · exact ⟨_, _, e⟩
def both (s0 s1 : List Nat) (k : Int) : List Nat := if k = 0 then [] ++ zer64 ++ zer64 else if k = 1 then [] ++ s0 ++ zer64 else s0 ++ s1 ++ []
theorem both2 (s0 s1 : List Nat) : both s0 s1 2 = s0 ++ s1 := by unfold both; simp
theorem zer_len : zer64.length = 64 := by unfold zer64; simp
def GotS (s0 s1 : List Nat) (w : World) (e : Ending) (w' : World) : Prop := ∃ s : Sup, e = .returned (.tuple #[.agg s.cells, .int .i64 (if (getSp s0 s1).isSome then 0 else 40)]) ∧ s.Fine ∧ (∀ x, getSp s0 s1 = some x → s = x) ∧ Below w.heap.size w w'
theorem GotS.some {s0 s1 : List Nat} {w w' : World} {e : Ending} {s : Sup} (h : getSp s0 s1 = some s) (hf : s.Fine) (he : e = .returned (.tuple #[.agg s.cells, .int .i64 0])) (hb : Below w.heap.size w w') : GotS s0 s1 w e w' := by
  refine ⟨s, by rw [he, h]; rfl, hf, fun x hx => ?_, hb⟩
  rw [h] at hx
  exact Option.some.inj hx
theorem zero_fine : zeroS.Fine := ⟨rfl, by unfold zeroS Sup.ints zeros8; simp only [List.replicate, List.mem_cons, List.not_mem_nil, or_false]; intro z hz; omega⟩
theorem GotS.none {s0 s1 : List Nat} {w w' : World} {e : Ending} (h : getSp s0 s1 = none) (he : e = .returned (.tuple #[.agg zeroS.cells, .int .i64 40])) (hb : Below w.heap.size w w') : GotS s0 s1 w e w' := by
  refine ⟨zeroS, by rw [he, h]; rfl, zero_fine, fun x hx => ?_, hb⟩
  rw [h] at hx
  cases hx
set_option maxHeartbeats 4000000 in
theorem gets_dev : GetSSays := by
  intro w S a d h hd
  have hs0 := h.newest_sec (n := 0) (by omega)
  have hs1 := h.newest_sec (n := 1) (by omega)
  have HRd0 := Lib.hid (fun W (hW : Below w.heap.size w W) => hread_dev (h.below hW (Nat.le_refl _)) hd (n := 0) (by omega))
  have HRd1 := Lib.hid (fun W (hW : Below w.heap.size w W) => hread_dev (h.below hW (Nat.le_refl _)) hd (n := 1) (by omega))
  rw [show ((0 : Nat) : Int) = 0 from rfl] at HRd0
  rw [show ((1 : Nat) : Int) = 1 from rfl] at HRd1
  unfold supAt
  generalize d.newest 0 = s0 at *
  generalize d.newest 1 = s1 at *
  have HL0 := Lib.hid hs0.1
  have HL1 := Lib.hid hs1.1
  have HZe := Lib.hid zer_len
  obtain ⟨Zs, hZs⟩ : ∃ Z, Z = zeroS.cells := ⟨_, rfl⟩
  have HZs := Lib.hid (show (Try.prog.info? 25).map (·.zero) = some (some (.agg Zs)) by rw [hZs, zero_cells]; kernel_rfl)
  obtain ⟨Zt, hZt⟩ : ∃ Z, Z = (vals (zer64 ++ zer64)).toArray := ⟨_, rfl⟩
  have HZt := Lib.hid (show (Try.prog.info? 82).map (·.zero) = some (some (.agg Zt)) by rw [hZt]; exact two_zero)
  obtain ⟨w1, hw1⟩ : ∃ w1, w1 = w.alloc (.cells Zs 25) := ⟨_, rfl⟩
  obtain ⟨w2, hw2⟩ : ∃ w2, w2 = w1.alloc (.cells Zt 82) := ⟨_, rfl⟩
  have hz1 : w1.heap.size = w.heap.size + 1 := by rw [hw1]; simp
  have hz2 : w2.heap.size = w1.heap.size + 1 := by rw [hw2]; simp
  have hb1 : Below w.heap.size w w1 := by rw [hw1]; exact (Below.refl _ w).alloc (Nat.le_refl _) _
  have hb2 : Below w1.heap.size w1 w2 := by rw [hw2]; exact (Below.refl _ w1).alloc (Nat.le_refl _) _
  have H2_ := Lib.hid (show w2.heap[w.heap.size]? = some (.cells Zs 25 (0, 0)) from (hb2.block _ (by omega)).trans (by rw [hw1]; exact heap_alloc_new w _))
  have H4_ := Lib.hid (show w2.heap[w1.heap.size]? = some (.cells (vals (both s0 s1 0)).toArray 82 (0, 0)) by rw [hw2, heap_alloc_new w1 _, hZt]; rfl)
  have HB2 := Lib.hid (hb1.trans (hb2.mono hb1.size))
  have HG := Lib.hid (show w.heap.size < w1.heap.size by omega)
  have HW1 := Lib.hid hw1
  have HW2 := Lib.hid hw2
  have HZz := Lib.hid hZs
  have HZtt := Lib.hid hZt
  have H0 := Lib.hid hs0
  have H1 := Lib.hid hs1
  generalize hg4 : w1.heap.size = g4 at *
  have HQ1 := Lib.hid hg4
  show Calls Try.prog 15 #[.pointer (some ⟨a, 0, none⟩)] w (GotS s0 s1 w)
  clear h hd hs0 hs1 hZs hZt hw1 hw2 hz1 hz2 hb1 hb2 hg4
  go_enter Try.func15, Try.ntmps15
  go_wp2_with (first | (refine wpList_alloc_any rfl 25 rfl Zs HZs.out ?_; rw [← HW1.out]) | (refine wpList_alloc_any rfl 82 rfl Zt HZt.out ?_; rw [HQ1.out, ← HW2.out]))
  go_loopw [12] (fun i wr => ∃ k : Int, (k = 0 ∨ k = 1 ∨ k = 2) ∧ i = .int .i64 k ∧ wr.heap[w.heap.size]? = some (.cells Zs 25 (0, 0)) ∧ wr.heap[g4]? = some (.cells (vals (both s0 s1 k)).toArray 82 (0, 0)) ∧ Below w.heap.size w wr) (fun i _ => 2 - (intOf i).toNat)
  case atStart => exact ⟨0, by omega, rfl, H2_.out, H4_.out, HB2.out⟩
  case round =>
    clear H2_ H4_ HB2
    obtain ⟨k, hk, rfl, h2, h4, hb⟩ := hrel
    have HBr := Lib.hid hb
    have H2 := Lib.hid h2
    have HL2 := Lib.hid (Array.getElem?_eq_some_iff.1 h2).1
    have HL4 := Lib.hid (Array.getElem?_eq_some_iff.1 h4).1
    rcases hk with rfl | rfl | rfl
    · have H4 := Lib.hid (show wr.heap[g4]? = some (.cells (vals [] ++ vals zer64 ++ vals zer64).toArray 82 (0, 0)) by rw [h4, ← vals_append, ← vals_append]; rfl)
      clear hb h2 h4
      have HR := Lib.hid (show Calls Try.prog 25 #[.pointer (some ⟨a, 0, none⟩), .int .i64 0] wr fun e w' => e = .returned (.tuple #[.agg (vals s0).toArray, .int .i64 0]) ∧ Below wr.heap.size wr w' from HRd0.out wr HBr.out)
      go_wp2_with (fail)
      refine HR.out.mono ?_
      rintro e w4 ⟨rfl, hb4⟩
      have h44 := (hb4.block _ HL4.out).trans H4.out
      have H44 := Lib.hid h44
      have H24 := Lib.hid ((hb4.block _ HL2.out).trans H2.out)
      have HB4 := Lib.hid (HBr.out.trans (hb4.mono HBr.out.size))
      obtain ⟨w5, hw5⟩ : ∃ x, x = w4.setRow g4 (vals [] ++ vals s0 ++ vals zer64).toArray := ⟨_, rfl⟩
      have H45 := Lib.hid (show w5.heap[g4]? = some (.cells (vals (both s0 s1 1)).toArray 82 (0, 0)) by rw [hw5, setRow_heap _ _ _ _ _ _ h44, ← vals_append, ← vals_append]; rfl)
      have H25 := Lib.hid (show w5.heap[w.heap.size]? = some (.cells Zs 25 (0, 0)) by rw [hw5]; exact (setRow_other _ _ _ _ (by have := HG.out; omega)).trans H24.out)
      have HB5 := Lib.hid (show Below w.heap.size w w5 by rw [hw5]; exact below_setRow HB4.out (by have := HG.out; omega) _)
      have HW5 := Lib.hid hw5
      clear h44 hb4 hw5
      go_wp2_with (refine wpList_store_part rfl 64 (.tmp 22) (.tmp 20) rfl g4 0 rfl (vals s0) rfl 82 (vals []) (vals zer64) (vals zer64) H44.out (by rw [vals_length, List.length_nil]) (by rw [vals_length, vals_length, HZe.out, HL0.out]) (hsec_info _ HL0.out) vals_one ?_; rw [← HW5.out])
      go_roundw
      case rel => exact ⟨1, by omega, rfl, H25.out, H45.out, HB5.out⟩
      case measure => simp [intOf]
    · have H4 := Lib.hid (show wr.heap[g4]? = some (.cells (vals s0 ++ vals zer64 ++ vals []).toArray 82 (0, 0)) by rw [h4, ← vals_append, ← vals_append]; simp [both])
      clear hb h2 h4
      have HR := Lib.hid (show Calls Try.prog 25 #[.pointer (some ⟨a, 0, none⟩), .int .i64 1] wr fun e w' => e = .returned (.tuple #[.agg (vals s1).toArray, .int .i64 0]) ∧ Below wr.heap.size wr w' from HRd1.out wr HBr.out)
      go_wp2_with (fail)
      refine HR.out.mono ?_
      rintro e w4 ⟨rfl, hb4⟩
      have h44 := (hb4.block _ HL4.out).trans H4.out
      have H44 := Lib.hid h44
      have H24 := Lib.hid ((hb4.block _ HL2.out).trans H2.out)
      have HB4 := Lib.hid (HBr.out.trans (hb4.mono HBr.out.size))
      obtain ⟨w5, hw5⟩ : ∃ x, x = w4.setRow g4 (vals s0 ++ vals s1 ++ vals []).toArray := ⟨_, rfl⟩
      have H45 := Lib.hid (show w5.heap[g4]? = some (.cells (vals (both s0 s1 2)).toArray 82 (0, 0)) by rw [hw5, setRow_heap _ _ _ _ _ _ h44, ← vals_append, ← vals_append]; rfl)
      have H25 := Lib.hid (show w5.heap[w.heap.size]? = some (.cells Zs 25 (0, 0)) by rw [hw5]; exact (setRow_other _ _ _ _ (by have := HG.out; omega)).trans H24.out)
      have HB5 := Lib.hid (show Below w.heap.size w w5 by rw [hw5]; exact below_setRow HB4.out (by have := HG.out; omega) _)
      have HW5 := Lib.hid hw5
      clear h44 hb4 hw5
      go_wp2_with (refine wpList_store_part rfl 64 (.tmp 22) (.tmp 20) rfl g4 64 rfl (vals s1) rfl 82 (vals s0) (vals zer64) (vals []) H44.out (by rw [vals_length, HL0.out]) (by rw [vals_length, vals_length, HZe.out, HL1.out]) (hsec_info _ HL1.out) vals_one ?_; rw [← HW5.out])
      go_roundw
      case rel => exact ⟨2, by omega, rfl, H25.out, H45.out, HB5.out⟩
      case measure => simp [intOf]
    · rw [both2] at h4
      have H4 := Lib.hid h4
      clear hb h2 h4
      have hl0 := HL0.out
      have hl1 := HL1.out
      have HIt := Lib.hid (show (Try.prog.info? 82).map (·.size) = some (vals (s0 ++ s1)).toArray.size by rw [two_size, vals_size, List.length_append, hl0, hl1])
      have HZb := Lib.hid (show (Try.prog.info? 82).map (·.zero) = some (some (.agg Zt)) from HZt.out)
      have HSs := Lib.hid (fun (s : Sup) (hf : s.Fine) => show (Try.prog.info? 25).map (·.size) = some s.cells.size ∧ Zs.size = s.cells.size by
        rw [super_info, cells_len hf]; exact ⟨rfl, by rw [HZz.out]; rfl⟩)
      have hE : ∀ W, (binOp .eql 82 (.agg (vals (s0 ++ s1)).toArray) (.agg Zt)).run Try.prog W = .ok (.bool (decide (s0 = zer64) && decide (s1 = zer64))) W := fun W => by
        rw [HZtt.out]; exact two_eq W s0 s1 zer64 zer64 hl0 hl1 zer_len zer_len
      have HFn := Lib.hid (stK_fine H0.out H1.out 2)
      have HSt := Lib.hid (fun W => standing_dev s0 s1 H0.out H1.out W)
      clear hl0 hl1
      by_cases hz : s0 = zer64 ∧ s1 = zer64
      · rw [decide_eq_true hz.1, decide_eq_true hz.2, Bool.and_self] at hE
        have HG2 := Lib.hid (fun e w' => GotS.some (w := w) (e := e) (w' := w') (getSp_first hz.1 hz.2) first_fine)
        have HE := Lib.hid hE
        clear hz hE
        have heq := HE.out
        go_wp2_with (first | (refine wpList_load_row rfl 82 _ rfl g4 rfl 82 (vals (s0 ++ s1)).toArray (0, 0) _ H4.out Try.underlying82 rfl HIt.out ?_) | (refine wpList_build_zero rfl 82 rfl 2 64 Try.underlying82 Zt HZb.out 64 hsec_size ?_))
        refine (first_dev _).mono ?_
        rintro e w6 ⟨rfl, hb6⟩
        have H26 := Lib.hid ((hb6.block _ HL2.out).trans H2.out)
        have HB6 := Lib.hid (HBr.out.trans (hb6.mono HBr.out.size))
        have HIf := Lib.hid (HSs.out firstS first_fine)
        have HAf := Lib.hid (cells_all (s := firstS))
        clear hb6 heq
        generalize hR : firstS.cells = R at *
        have HR := Lib.hid hR
        clear hR
        go_wp2_with (refine wpList_store_row rfl 25 _ _ rfl w.heap.size R rfl rfl 25 Zs H26.out HIf.out.1 HIf.out.2 HAf.out ?_)
        exact bodyPost_ret (results_cell_tmp (t := 25) (p := 2) (u := 3) rfl _ _ w.heap.size R (0, 0) _ rfl (setRow_heap _ _ _ _ _ _ H26.out) Try.underlying25 rfl HIf.out.1) rfl (HG2.out _ _ rfl (below_setRow HB6.out (Nat.le_refl _) _))
      · have hE0 : (decide (s0 = zer64) && decide (s1 = zer64)) = false := by
          rw [Bool.and_eq_false_iff]
          by_cases h : s0 = zer64
          · exact Or.inr (decide_eq_false fun h2 => hz ⟨h, h2⟩)
          · exact Or.inl (decide_eq_false h)
        rw [hE0] at hE
        have HE := Lib.hid hE
        have HNz := Lib.hid hz
        clear hz hE hE0
        have heq := HE.out
        go_wp2_with (first | (refine wpList_load_row rfl 82 _ rfl g4 rfl 82 (vals (s0 ++ s1)).toArray (0, 0) _ H4.out Try.underlying82 rfl HIt.out ?_) | (refine wpList_build_zero rfl 82 rfl 2 64 Try.underlying82 Zt HZb.out 64 hsec_size ?_))
        clear heq
        refine (HSt.out _).mono ?_
        rintro e w6 ⟨v, rfl, hv, hb6⟩
        have H26 := Lib.hid ((hb6.block _ HL2.out).trans H2.out)
        have HL26 := Lib.hid (Nat.lt_of_lt_of_le HL2.out hb6.size)
        have HB6 := Lib.hid (HBr.out.trans (hb6.mono HBr.out.size))
        clear hb6
        by_cases hn : stK s0 s1 2 = []
        · have HG2 := Lib.hid (fun e w' => GotS.none (w := w) (e := e) (w' := w') (getSp_none HL0.out HL1.out HNz.out hn))
          rw [hn] at hv
          obtain ⟨A6, c6, rfl⟩ := hv.slice
          have HIf := Lib.hid (HSs.out zeroS zero_fine)
          have HAf := Lib.hid (cells_all (s := zeroS))
          clear hn hv
          rw [zero_cells] at HIf HAf
          go_wp2_with (refine wpList_store_row rfl 25 _ _ rfl w.heap.size #[.int .i64 0, .int .i64 0, .int .i64 0, .int .i64 0, .int .i64 0, .int .i64 0, .int .i64 0, .int .i64 0, .int .i64 0, .int .i64 0, .int .i64 0, .int .i64 0, .int .i64 0] rfl rfl 25 Zs H26.out HIf.out.1 HIf.out.2 HAf.out ?_)
          exact bodyPost_ret (results_cell_tmp (t := 25) (p := 2) (u := 3) rfl _ _ w.heap.size #[.int .i64 0, .int .i64 0, .int .i64 0, .int .i64 0, .int .i64 0, .int .i64 0, .int .i64 0, .int .i64 0, .int .i64 0, .int .i64 0, .int .i64 0, .int .i64 0, .int .i64 0] (0, 0) _ rfl (setRow_heap _ _ _ _ _ _ H26.out) Try.underlying25 rfl HIf.out.1) rfl (HG2.out _ _ (by rw [zero_cells]; rfl) (below_setRow HB6.out (Nat.le_refl _) _))
        · have hlen : 0 < (stK s0 s1 2).length := List.length_pos_iff.2 hn
          have HG2 := Lib.hid (fun e w' => GotS.some (w := w) (e := e) (w' := w') (getSp_some hn) (bestK_fine HFn.out hlen (Nat.le_refl _)))
          have HBf := Lib.hid (bestK_fine HFn.out hlen (Nat.le_refl _))
          obtain ⟨b, off, c, rfl, hbl, _, _, hat⟩ := sups_at hv HFn.out hlen
          have HMx := Lib.hid (max_dev (stK s0 s1 2) HFn.out hlen (stK_few _ _ _) b off c w6 hat hbl)
          clear hn hv hbl hat
          generalize bestK (stK s0 s1 2) (stK s0 s1 2).length = best at *
          generalize (stK s0 s1 2).length = n at *
          have q1 : ((n : Int) == 0) = false := by simp; omega
          have q2 : decide ((n : Int) = 0) = false := by simp; omega
          go_wp2_with (fail)
          refine HMx.out.mono ?_
          rintro e w7 ⟨rfl, hb7⟩
          replace H26 := Lib.hid ((hb7.block _ HL26.out).trans H26.out)
          replace HB6 := Lib.hid (HB6.out.trans (hb7.mono HB6.out.size))
          have HIf := Lib.hid (HSs.out best HBf.out)
          have HAf := Lib.hid (cells_all (s := best))
          clear hb7 q1 q2
          generalize hR : best.cells = R at *
          have HR := Lib.hid hR
          clear hR
          go_wp2_with (refine wpList_store_row rfl 25 _ _ rfl w.heap.size R rfl rfl 25 Zs H26.out HIf.out.1 HIf.out.2 HAf.out ?_)
          exact bodyPost_ret (results_cell_tmp (t := 25) (p := 2) (u := 3) rfl _ _ w.heap.size R (0, 0) _ rfl (setRow_heap _ _ _ _ _ _ H26.out) Try.underlying25 rfl HIf.out.1) rfl (HG2.out _ _ rfl (below_setRow HB6.out (Nat.le_refl _) _))
/-- all ten -/
theorem calls9 : Calls9 := ⟨put_dev, put_nil_dev, get_dev, get_nil_dev, puts_dev, puts_nil_dev, gets_dev, gets_nil_dev, mayH_dev, first_dev⟩
end Go.Proofs.Ytgkbhdecohlpmaa
