import Derived.Test.YtgkbhdecohlpmaaBits
namespace Go.Proofs.Ytgkbhdecohlpmaa
set_option maxRecDepth 100000
open Go.RowKit
set_option maxHeartbeats 400000 in
theorem shift_any (x : Nat) (hx : x < 4294967296) (w : World) :
    Calls Try.prog 53 #[.int .u32 (x : Int)] w fun e w' => e = .returned (.int .u32 (Crc.sh x : Nat)) ∧ w = w' := by
  by_cases h : x % 2 = 1
  · have hd := one_ne x hx h
    have H := Lib.hid h; clear h
    go_enter Try.func53, Try.ntmps53
    go_wp2
    go_ret
    exact ⟨ret_int (sh_odd x hx H.out), rfl⟩
  · have hd := one_ne' x hx h
    have H := Lib.hid h; clear h
    go_enter Try.func53, Try.ntmps53
    go_wp2
    go_ret
    exact ⟨ret_int (sh_even x H.out), rfl⟩

set_option maxHeartbeats 400000 in
theorem fill_any (h g : Nat) (cs : Array Value) (w : World) (hh : h < 16) (hg : w.heap[g]? = some (.cells cs 107 (0, 0))) (hcs : cs.size = 16) :
    Calls Try.prog 52 #[.int .i64 (h : Int), .pointer (some ⟨g, 0, none⟩)] w fun e w' => e = .returned (.tuple #[]) ∧ w.setCell ⟨g, h, none⟩ (.int .u32 (Crc.half h : Nat)) = w' := by
  have hc : ∃ v, w.cell? ⟨g, h, none⟩ = some v := ⟨cs[h]'(by omega), by rw [cell_of_row w g h cs _ _ hg]; simp⟩
  obtain ⟨v, hc⟩ := hc
  have hf : w.frozen? ⟨g, h, none⟩ = false := frozen_of_row w g h cs _ hg
  clear hg hcs
  go_enter Try.func52, Try.ntmps52
  go_wp2
  go_loop [3, 6] (fun r i => ∃ k : Nat, k ≤ 4 ∧ i = .int .i64 k ∧ r = .int .u32 (Crc.shn k h : Nat)) (fun _ i => 4 - (intOf i).toNat)
  case atStart => exact ⟨0, by omega, rfl, rfl⟩
  case round =>
    obtain ⟨k, hk, rfl, rfl⟩ := hrel
    have hr := Crc.shn_lt k (x := h) (by omega)
    by_cases hlt : k < 4
    · go_wp2_with (go_at_call 53; refine (shift_any _ hr _).mono ?_; rintro e w' ⟨rfl, rfl⟩)
      go_round
      case rel => exact ⟨k + 1, by omega, by go_num, by rw [Crc.shn_succ]⟩
      case measure => simp [intOf]; omega
    · obtain rfl : k = 4 := by omega
      go_wp2
      go_end0
      exact ⟨rfl, rfl⟩

/-- the table behind k rounds -/
def row (k : Nat) : Array Value := ((List.range 16).map fun i => Value.int .u32 ((if i < k then Crc.half i else 0 : Nat) : Int)).toArray
theorem row_size (k : Nat) : (row k).size = 16 := by simp [row]
theorem row_set (k : Nat) : (row k).setIfInBounds k (.int .u32 (Crc.half k : Nat)) = row (k + 1) := by
  apply Array.ext
  · simp [row]
  · intro i h1 h2
    rw [Array.getElem_setIfInBounds (by simpa [row] using h2)]
    simp only [row, List.getElem_toArray, List.getElem_map, List.getElem_range]
    split
    · next e => subst e; rw [if_pos (by omega)]
    · next e =>
      congr 2
      by_cases hk : i < k
      · rw [if_pos hk, if_pos (by omega)]
      · rw [if_neg hk, if_neg (by omega)]
theorem row_get (i : Nat) (h : i < 16) : (row 16)[i]? = some (.int .u32 (Crc.half i : Nat)) := by
  rw [Array.getElem?_eq_getElem (by rw [row_size]; exact h)]
  simp only [row, List.getElem_toArray, List.getElem_map, List.getElem_range]
  rw [if_pos h]
theorem row_zero : row 0 = #[.int .u32 0, .int .u32 0, .int .u32 0, .int .u32 0, .int .u32 0, .int .u32 0, .int .u32 0, .int .u32 0, .int .u32 0, .int .u32 0, .int .u32 0, .int .u32 0, .int .u32 0, .int .u32 0, .int .u32 0, .int .u32 0] := by
  simp [row, List.range, List.range.loop]
theorem row_one (k : Nat) : (row k).all (·.oneCell') = true := by
  simp [row, Value.oneCell']

theorem below_setRow {B : Nat} {a w : World} (h : Below B a w) {g : Nat} (hg : B ≤ g) (cs : Array Value) : Below B a (w.setRow g cs) :=
  h.trans ⟨rfl, rfl, rfl, by simp, fun k hk => setRow_other w g k cs (by omega)⟩

set_option maxHeartbeats 400000 in
theorem halves_any (w : World) :
    Calls Try.prog 50 #[] w fun e w' => e = .returned (.agg (row 16)) ∧ Below w.heap.size w w' := by
  have hmf : ∀ (fn : Fn) (first cap : Array Value) (w : World), (Instr.makeFunc fn first cap).run Try.prog w = .ok (.func fn first cap) w := fun _ _ _ _ => rfl
  go_enter Try.func50, Try.ntmps50
  go_wp2
  go_loopw [3, 5] (fun _ i wr => ∃ k : Nat, k ≤ 16 ∧ i = .int .i64 k ∧ wr.heap[w.heap.size]? = some (.cells (row 0) 107 (0, 0)) ∧ wr.heap[w.heap.size + 1]? = some (.cells (row k) 107 (0, 0)) ∧ Below w.heap.size w wr) (fun _ i _ => 16 - (intOf i).toNat)
  case atStart =>
    refine ⟨0, by omega, rfl, ?_, ?_, ((Below.refl _ _).alloc (Nat.le_refl _) _).alloc (by simp) _⟩
    · rw [heap_alloc2_old, row_zero]
    · rw [heap_alloc2_new, row_zero]
  case round =>
    obtain ⟨k, hk, rfl, h0, h1, hb⟩ := hrel
    by_cases hlt : k < 16
    · go_wp2_with (go_at_call 52; refine (fill_any k _ _ _ hlt h1 (row_size k)).mono ?_; rintro e w' ⟨rfl, rfl⟩)
      go_roundw
      case rel => exact ⟨k + 1, by omega, by go_num, by rw [heap_setCell_other _ _ _ _ (by simp)]; exact h0, by rw [heap_setCell_same _ _ _ _ _ _ h1, row_set], hb.setCell (by simp) _⟩
      case measure => simp [intOf]; omega
    · obtain rfl : k = 16 := by omega
      have hi : (Try.prog.info? 107).map (·.size) = some (row 16).size := by rw [row_size]; kernel_rfl
      have ho : (row 0).size = (row 16).size := by rw [row_size, row_size]
      have HI := Lib.hid hi
      have HO := Lib.hid ho
      have H0 := Lib.hid h0
      have H1 := Lib.hid h1
      clear hi ho h0 h1
      go_wp2_with (first | (refine wpList_load_row rfl 107 _ rfl (w.heap.size + 1) rfl 107 (row 16) (0, 0) _ H1.out Try.underlying107 rfl HI.out ?_) | (refine wpList_store_row rfl 107 _ _ rfl w.heap.size (row 16) rfl rfl 107 (row 0) H0.out HI.out HO.out (row_one 16) ?_))
      exact bodyPost_ret (results_cell_row rfl _ _ w.heap.size 107 (row 16) (0, 0) _ rfl (setRow_heap _ _ _ _ _ _ H0.out) Try.underlying107 rfl HI.out) rfl ⟨rfl, below_setRow hb (Nat.le_refl _) _⟩
end Go.Proofs.Ytgkbhdecohlpmaa
