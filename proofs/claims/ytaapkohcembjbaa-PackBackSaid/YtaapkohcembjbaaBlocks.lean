/-
  Blocks: arrays of eight bytes, rows of them as bytes.
-/
import Derived.Test.YtaapkohcembjbaaPut
namespace Go.Proofs.Ytaapkohcembjbaa
open Go.RowKit

/-- an array of bytes, as a value -/
def arr (bs : List Nat) : Value := .agg (vals bs).toArray
theorem part_arr (w : World) (xs : List Nat) (k : Nat) (h : k < xs.length) : (part 5 (vals xs).toArray (k * 1)).run Try.prog w = .ok (.int .u8 (xs.getD k 0 : Nat)) w := by
  have hv : (vals xs)[k]? = some (.int .u8 (xs.getD k 0 : Nat)) := by
    unfold vals
    rw [List.getElem?_map, List.getElem?_eq_getElem h, Option.map_some, getD_at _ _ h]
  simp [part, isAgg, run_underlying Try.underlying5, hv]
theorem eqItems_arr (d : Nat) (xs ys : List Nat) (hy : ys.length = xs.length) : ∀ (n s : Nat) (w : World), s + n ≤ xs.length →
    (Op.eqItems (d + 1) 5 1 (vals xs).toArray (vals ys).toArray (List.range' s n)).run Try.prog w = .ok (decide ((xs.drop s).take n = (ys.drop s).take n)) w := by
  intro n
  induction n with
  | zero => intro s w _; simp [Op.eqItems]
  | succ n ih =>
    intro s w hn
    rw [List.range'_succ]
    simp only [Op.eqItems, Sem.run_bind, part_arr w xs s (by omega), part_arr w ys s (by omega), Result.andThen_ok, run_equalIn_int (P := Try.prog) w d 5 .u8 .u8 _ _ Try.underlying5]
    have ex : (xs.drop s).take (n + 1) = xs.getD s 0 :: (xs.drop (s + 1)).take n := by rw [List.drop_eq_getElem_cons (by omega), List.take_succ_cons, getD_at _ _ (by omega)]
    have ey : (ys.drop s).take (n + 1) = ys.getD s 0 :: (ys.drop (s + 1)).take n := by rw [List.drop_eq_getElem_cons (by omega), List.take_succ_cons, getD_at _ _ (by omega)]
    rw [ex, ey]
    clear ex ey
    generalize xs.getD s 0 = p
    generalize ys.getD s 0 = q
    by_cases h : p = q
    · subst h
      have h1 : ((p : Int) == (p : Int)) = true := by simp
      rw [h1]
      simp only [Bool.not_true, Bool.false_eq_true, if_false]
      rw [ih (s + 1) w (by omega)]
      simp
    · have h1 : ((p : Int) == (q : Int)) = false := by simp; omega
      rw [h1]
      simp [h]
theorem arr_same (w : World) (xs ys : List Nat) (hx : xs.length = 8) (hy : ys.length = 8) : (Op.equalIn 10000 36 (.agg (vals xs).toArray) (.agg (vals ys).toArray)).run Try.prog w = .ok (decide (xs = ys)) w := by
  obtain ⟨i0, hi, _, hz1, _⟩ := info_parts Try.info5
  have hcell : Try.prog.cellsOf 5 = 1 := by kernel_rfl
  rw [run_equalIn_array w 9999 _ _ Try.underlying36 hi, hcell, List.range_eq_range', eqItems_arr 9998 xs ys (by omega) 8 0 w (by omega)]
  simp only [List.drop_zero, List.take_of_length_le (Nat.le_of_eq hx), List.take_of_length_le (Nat.le_of_eq hy)]
theorem arr_eq (w : World) (xs ys : List Nat) (hx : xs.length = 8) (hy : ys.length = 8) : (binOp .eql 36 (arr xs) (arr ys)).run Try.prog w = .ok (.bool (decide (xs = ys))) w := by
  unfold arr
  rw [run_eql_struct, arr_same w xs ys hx hy]
  rfl
theorem arr_neq (w : World) (xs ys : List Nat) (hx : xs.length = 8) (hy : ys.length = 8) : (binOp .neq 36 (arr xs) (arr ys)).run Try.prog w = .ok (.bool (!decide (xs = ys))) w := by
  unfold arr
  rw [run_neq_struct, arr_same w xs ys hx hy]
  rfl

theorem Try.info36 : (Try.prog.info? 36).map (fun i => (i.zero, i.size, i.bytes)) = some (some (.agg #[.int .u8 0, .int .u8 0, .int .u8 0, .int .u8 0, .int .u8 0, .int .u8 0, .int .u8 0, .int .u8 0]), 8, 8) := by kernel_rfl

/-- eight zero bytes -/
def Z8 : List Value := [.int .u8 0, .int .u8 0, .int .u8 0, .int .u8 0, .int .u8 0, .int .u8 0, .int .u8 0, .int .u8 0]
theorem arr_info (bs : List Nat) (h : bs.length = 8) : (Try.prog.info? 36).map (·.size) = some (vals bs).toArray.size := by
  rw [show (vals bs).toArray.size = 8 by simp [vals_length, h]]; kernel_rfl
theorem arr_one (bs : List Nat) : (vals bs).toArray.all (·.oneCell') = true := Array.all_eq_true_iff_forall_mem.2 fun u hu => vals_one u (by simpa using hu)
theorem arr_size (bs : List Nat) (h : bs.length = 8) : Z8.toArray.size = (vals bs).toArray.size := by simp [Z8, vals_length, h]
theorem whole (Z ds : List Value) (h : Z.length = ds.length) : splice Z 0 ds = ds := by
  unfold splice
  rw [List.drop_of_length_le (by omega)]
  simp

theorem results_arr {fn : Func} {p u : Tmp} (h : fn.results = #[.cell p 36, .tmp u]) (tmps : Array Value) (w : World) (g : Nat) (bs : List Nat) (hl : bs.length = 8)
    (hp : tmps.getD p undef = .pointer (some ⟨g, 0, none⟩)) (hg : w.heap[g]? = some (.cells (vals bs).toArray 36 (0, 0))) :
    (results fn tmps).run Try.prog w = .ok (.tuple #[arr bs, tmps.getD u undef]) w := by
  have hp' : tmps[p]?.getD undef = .pointer (some ⟨g, 0, none⟩) := by simpa using hp
  simp [results, h, hp', asAddr, run_loadVar_row w g 36 36 (vals bs).toArray (0, 0) _ hg Try.underlying36 rfl (arr_info bs hl), arr]
/-- the block that has no other bytes than 0 -/
def zero8 : List Nat := [0, 0, 0, 0, 0, 0, 0, 0]

set_option maxHeartbeats 400000 in
theorem value_any (bs : List Nat) (hn : bs.length = 8) (A : Option Addr) (c : Nat) (w : World) (hA : By w w.heap.size A bs) :
    Calls Try.prog 16 #[.slice A bs.length c] w fun e w' => e = .returned (.tuple #[arr bs, .int .i64 0]) ∧ Below w.heap.size w w' := by
  have n1 := Lib.hid (show (vals bs).length = 8 by rw [vals_length, hn])
  have HI := Lib.hid (arr_info bs hn)
  have H1 := Lib.hid (arr_one bs)
  have HS := Lib.hid (arr_size bs hn)
  have H0 := Lib.hid (heap_alloc2_new w (.cells Z8.toArray 36) (.cells Z8.toArray 36))
  have HR := Lib.hid (heap_alloc_new w (.cells Z8.toArray 36))
  have B1 := Lib.hid ((Below.refl w.heap.size w).alloc (Nat.le_refl _) (.cells Z8.toArray 36))
  have B0 := Lib.hid ((Below.refl (w.heap.size + 1) (w.alloc (.cells Z8.toArray 36))).alloc (by simp) (.cells Z8.toArray 36))
  have A0 := Lib.hid (((hA.below B1.out (Nat.le_refl _)).below B0.out (Nat.le_succ _)).src)
  have HC := Lib.hid (whole Z8 (vals bs) (by rw [vals_length, hn]; rfl))
  have HZ := Lib.hid (show Z8 = [.int .u8 0, .int .u8 0, .int .u8 0, .int .u8 0, .int .u8 0, .int .u8 0, .int .u8 0, .int .u8 0] from rfl)
  rw [hn]
  rw [HZ.out] at H0 B0 A0 HC HR B1 HS
  go_enter Try.func16, Try.ntmps16
  go_wp2_with (first
    | (with_reducible refine wpList_copy_splice rfl (.tmp 9) (.tmp 10) 22 22 rfl 5 Try.underlying22 Try.size5 _ _ _ _ _ _ rfl rfl (w.heap.size + 1) 0 _ 36 H0.out (vals bs) (by rw [n1.out]; simp) (fun h => ⟨rfl, A0.out h⟩) (by rw [n1.out]; simp) vals_one (w.heap.size + 1) _ B0.out (Nat.le_refl _) ?_; intro w3 hg3 hb3; rw [HC.out] at hg3; replace hb3 := Lib.hid hb3)
    | (refine wpList_load_row rfl 36 _ rfl (w.heap.size + 1) rfl 36 (vals bs).toArray (0, 0) _ hg3.out Try.underlying36 rfl HI.out ?_)
    | (refine wpList_store_row rfl 36 _ _ rfl w.heap.size (vals bs).toArray rfl rfl 36 _ ((hb3.out.block _ (Nat.lt_succ_self _)).trans HR.out) HI.out HS.out H1.out ?_))
  have hB := below_setRow (B1.out.trans (hb3.out.mono (Nat.le_succ _))) (Nat.le_refl _) (vals bs).toArray
  exact bodyPost_ret (results_arr rfl _ _ w.heap.size bs hn rfl (setRow_heap _ _ _ _ _ _ ((hb3.out.block _ (Nat.lt_succ_self _)).trans HR.out))) rfl ⟨rfl, hB⟩

set_option maxHeartbeats 400000 in
theorem value_no (n : Nat) (hn : ¬ n = 8) (A : Option Addr) (c : Nat) (w : World) :
    Calls Try.prog 16 #[.slice A n c] w fun e w' => e = .returned (.tuple #[arr zero8, .int .i64 2]) ∧ Below w.heap.size w w' := by
  have hn' : ((n : Int) != 8) = true := by simp; omega
  have HI := Lib.hid (arr_info zero8 rfl)
  have H1 := Lib.hid (arr_one zero8)
  have HS := Lib.hid (arr_size zero8 rfl)
  have H0 := Lib.hid (heap_alloc2_new w (.cells (vals zero8).toArray 36) (.cells (vals zero8).toArray 36))
  have HR := Lib.hid (heap_alloc2_old w (.cells (vals zero8).toArray 36) (.cells (vals zero8).toArray 36))
  have B0 := Lib.hid (((Below.refl w.heap.size w).alloc (Nat.le_refl _) (.cells (vals zero8).toArray 36)).alloc (by simp) (.cells (vals zero8).toArray 36))
  have HZ := Lib.hid (show vals zero8 = [.int .u8 0, .int .u8 0, .int .u8 0, .int .u8 0, .int .u8 0, .int .u8 0, .int .u8 0, .int .u8 0] from rfl)
  have HA := Lib.hid (show arr zero8 = .agg #[.int .u8 0, .int .u8 0, .int .u8 0, .int .u8 0, .int .u8 0, .int .u8 0, .int .u8 0, .int .u8 0] from rfl)
  rw [HZ.out] at H0 B0 HR HS HI H1
  go_enter Try.func16, Try.ntmps16
  go_wp2_with (first
    | (refine wpList_load_row rfl 36 _ rfl (w.heap.size + 1) rfl 36 #[.int .u8 0, .int .u8 0, .int .u8 0, .int .u8 0, .int .u8 0, .int .u8 0, .int .u8 0, .int .u8 0] (0, 0) _ H0.out Try.underlying36 rfl HI.out ?_)
    | (refine wpList_store_row rfl 36 _ _ rfl w.heap.size #[.int .u8 0, .int .u8 0, .int .u8 0, .int .u8 0, .int .u8 0, .int .u8 0, .int .u8 0, .int .u8 0] rfl rfl 36 _ HR.out HI.out rfl H1.out ?_))
  have hr := setRow_heap _ _ _ #[.int .u8 0, .int .u8 0, .int .u8 0, .int .u8 0, .int .u8 0, .int .u8 0, .int .u8 0, .int .u8 0] _ _ HR.out
  have hB := below_setRow B0.out (Nat.le_refl _) #[.int .u8 0, .int .u8 0, .int .u8 0, .int .u8 0, .int .u8 0, .int .u8 0, .int .u8 0, .int .u8 0]
  exact bodyPost_ret (results_arr rfl _ _ w.heap.size zero8 rfl rfl hr) rfl ⟨rfl, hB⟩
end Go.Proofs.Ytaapkohcembjbaa
