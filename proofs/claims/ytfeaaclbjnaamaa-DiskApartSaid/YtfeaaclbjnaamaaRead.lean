/-
  Read, Durable: bytes of new memory.
-/
import Derived.Test.YtfeaaclbjnaamaaNewest
import Derived.Laws.MakeOwn
namespace Go.Proofs.Ytfeaaclbjnaamaa
open Go.RowKit Go.Maps

theorem read_nil (z : Int) (w : World) : Calls Try.prog 14 #[.pointer none, .int .i64 z] w fun e w' => e = .returned (.tuple #[.slice none 0 0, .int .i64 1]) ∧ w' = w := by
  go_enter Try.func14, Try.ntmps14
  go_wp2_with fail
  refine (refuses_nil w).mono ?_
  rintro e w' ⟨rfl, rfl⟩
  go_wp2
  go_ret2
  exact ⟨rfl, rfl⟩
theorem read_down {w : World} {S : Nat → Prop} {a : Nat} {d : Dk} (h : Disk w S a d) (hd : d.down = true) (z : Int) : Calls Try.prog 14 #[.pointer (some ⟨a, 0, none⟩), .int .i64 z] w fun e w' => e = .returned (.tuple #[.slice none 0 0, .int .i64 30]) ∧ w' = w := by
  have HR := Lib.hid (refuses_any h)
  rw [hd] at HR
  clear h hd
  go_enter Try.func14, Try.ntmps14
  go_wp2_with fail
  refine HR.out.mono ?_
  rintro e w' ⟨rfl, rfl⟩
  go_wp2
  go_ret2
  exact ⟨rfl, rfl⟩
theorem read_arg {w : World} {S : Nat → Prop} {a : Nat} {d : Dk} (h : Disk w S a d) (hd : d.down = false) (z : Int) (hz : ¬ (0 ≤ z ∧ z < 34)) : Calls Try.prog 14 #[.pointer (some ⟨a, 0, none⟩), .int .i64 z] w fun e w' => e = .returned (.tuple #[.slice none 0 0, .int .i64 2]) ∧ w' = w := by
  have HR := Lib.hid (refuses_any h)
  have HN := Lib.hid (sector_any z w)
  rw [decide_eq_false hz] at HN
  rw [hd] at HR
  clear h hd hz
  go_enter Try.func14, Try.ntmps14
  go_wp2_with fail
  refine HR.out.mono ?_
  rintro e w' ⟨rfl, rfl⟩
  go_wp2_with fail
  refine HN.out.mono ?_
  rintro e w' ⟨rfl, rfl⟩
  go_wp2
  go_ret2
  exact ⟨rfl, rfl⟩
/-- bytes of new memory -/
def Fresh (w w' : World) (bs : List Nat) (v : Value) : Prop := ∃ g c, v = .slice (some ⟨g, 0, none⟩) bs.length c ∧ w.heap.size ≤ g ∧ g < w'.heap.size ∧ By w' w'.heap.size (some ⟨g, 0, none⟩) bs ∧ bs.length ≤ c ∧ c ≤ maxLen
set_option maxHeartbeats 400000 in
theorem read_ok {w : World} {S : Nat → Prop} {a : Nat} {d : Dk} (h : Disk w S a d) (hd : d.down = false) {n : Nat} (hn : n < 34) : Calls Try.prog 14 #[.pointer (some ⟨a, 0, none⟩), .int .i64 (n : Int)] w fun e w' =>
    ∃ v, e = .returned (.tuple #[v, .int .i64 0]) ∧ Fresh w w' (d.newest n) v ∧ Below w.heap.size w w' := by
  have hs := h.newest_sec hn
  have HR := Lib.hid (refuses_any h)
  have HN := Lib.hid (sector_any (n : Int) w)
  rw [decide_eq_true (by omega)] at HN
  rw [hd] at HR
  have HW := Lib.hid (newest_any h hn)
  obtain ⟨Z, hZ, hz⟩ : ∃ Z, (Try.prog.info? 44).map (·.zero) = some (some (.agg Z)) ∧ Z = (vals (List.replicate 64 0)).toArray := ⟨_, sector_zero, rfl⟩
  have HS := Lib.hid (show Z.size = (vals (d.newest n)).toArray.size by rw [hz]; simp [vals_length, hs.1])
  have HZ := Lib.hid hZ
  have HI := Lib.hid (show (Try.prog.info? 44).map (·.size) = some (vals (d.newest n)).toArray.size by rw [sector_size]; simp [vals_length, hs.1])
  have H1 := Lib.hid (show (vals (d.newest n)).toArray.all (·.oneCell') = true from Array.all_eq_true_iff_forall_mem.2 fun u hu => vals_one u (by simpa using hu))
  generalize d.newest n = bs at hs HW HS HI H1 ⊢
  clear h hd hZ hz
  go_enter Try.func14, Try.ntmps14
  go_wp2_with fail
  refine HR.out.mono ?_
  rintro e w' ⟨rfl, rfl⟩
  go_wp2_with fail
  refine HN.out.mono ?_
  rintro e w' ⟨rfl, rfl⟩
  go_wp2_with fail
  refine HW.out.mono ?_
  rintro e w1 ⟨rfl, hb1⟩
  unfold sval
  have hb2 := hb1.alloc hb1.size (.cells Z 44)
  have hg2 := heap_alloc_new w1 (.cells Z 44)
  have HG := Lib.hid hg2
  have hb3 := below_setRow hb2 hb1.size (vals bs).toArray
  have hg3 := setRow_heap (w1.alloc (.cells Z 44)) w1.heap.size Z (vals bs).toArray 44 _ hg2
  have HB := Lib.hid (show Below w'.heap.size w' ((w1.alloc (.cells Z 44)).setRow w1.heap.size (vals bs).toArray) ∧ Fresh w' ((w1.alloc (.cells Z 44)).setRow w1.heap.size (vals bs).toArray) bs (.slice (some ⟨w1.heap.size, 0, none⟩) 64 64) from
    ⟨hb3, w1.heap.size, 64, by rw [hs.1], hb1.size, by simp, (By.of_row hg3 (by rw [show (vals bs).toArray.toList = vals bs by simp]; exact List.take_of_length_le (by rw [vals_length]; exact Nat.le_refl _)) hs.2).mono (by simp), by rw [hs.1]; omega, by unfold maxLen; omega⟩)
  clear hb2 hg2 hb3 hg3
  go_wp2_with (first
    | (refine wpList_alloc_any rfl 44 rfl Z HZ.out ?_)
    | (refine wpList_store_row rfl 44 _ _ rfl w1.heap.size (vals bs).toArray rfl rfl 44 Z HG.out HI.out HS.out H1.out ?_))
  go_ret2
  exact ⟨_, rfl, HB.out.2, HB.out.1⟩

theorem durable_nil (w : World) : Calls Try.prog 11 #[.pointer none] w fun e w' => e = .returned (.slice none 0 0) ∧ w' = w := by
  go_enter Try.func11, Try.ntmps11
  go_wp2
  go_ret
  exact ⟨rfl, rfl⟩
theorem ahead_succ (f : Nat → List Nat) (n : Nat) : ahead f (n + 1) = ahead f n ++ f n := by
  unfold ahead
  rw [List.range_succ, List.flatMap_append]
  simp
set_option maxHeartbeats 400000 in
theorem durable_any {w : World} {S : Nat → Prop} {a : Nat} {d : Dk} (h : Disk w S a d) : Calls Try.prog 11 #[.pointer (some ⟨a, 0, none⟩)] w fun e w' =>
    ∃ v, e = .returned v ∧ New w w' (flat d.dur) v := by
  obtain ⟨i0, hi0, hz0, hz1, hz2⟩ := info_parts Try.info5
  obtain ⟨w1, hmk, hown1, hg1⟩ := run_make_own (P := Try.prog) w w.heap.size 29 5 i0 (.int .u8 0) 1 Try.underlying29 hi0 hz0 hz1 .i64 .i64 2176 (by rw [hz2]; omega) (by unfold maxLen; omega) (Nat.le_refl _)
  replace hmk : (Instr.makeSlice 29 (.int .i64 0) (.int .i64 2176)).run Try.prog w = .ok (.slice (some ⟨w.heap.size, 0, none⟩) 0 2176) w1 := hmk
  have hb1 := (Below.refl w.heap.size w).grown hg1 (Nat.le_refl _) (fun _ e => by cases e)
  have HO := Lib.hid (show Own w1 w.heap.size [] (.slice (some ⟨w.heap.size, 0, none⟩) 0 2176) from hown1)
  have hlt := h.lt
  obtain ⟨m, hb, _, _, _, _⟩ := h.cells
  have hsec := Lib.hid h.secs
  have HL := Lib.hid (fun (k : Nat) (hk : k ≤ 34) => ahead_len h.secs hk)
  have HF := Lib.hid (flat_len h.secs)
  have HC := Lib.hid (fun (k : Nat) (hk : k < 34) => row_cells hb (rowD_sec h.secs m d.down hk))
  generalize d.dur = f at hsec HC hb HL HF ⊢
  clear h hb hown1 hi0 hz0 hz1 hz2 hg1
  go_enter Try.func11, Try.ntmps11
  go_wp2
  go_loopw [3, 8] (fun v i wr => ∃ k : Nat, k ≤ 34 ∧ i = .int .i64 k ∧ Own wr w.heap.size (ahead f k) v ∧ Below w.heap.size w wr) (fun _ i _ => 34 - (intOf i).toNat)
  case atStart => exact ⟨0, by omega, rfl, HO.out, hb1⟩
  case round =>
    obtain ⟨k, hk, rfl, hv, hb⟩ := hrel
    by_cases hlt' : k < 34
    · have HV := Lib.hid hv
      have HB := Lib.hid hb
      have n1 := (hsec.out k hlt').1
      have HD := Lib.hid (show By wr wr.heap.size (some ⟨a, k * 64, none⟩) (f k) from
        ⟨(hsec.out k hlt').2, fun _ => ⟨a, k * 64, rfl, Nat.lt_of_lt_of_le hlt hb.size, fun j hj => (hb.cell hlt).trans (HC.out k hlt' j _ (by
          unfold vals
          rw [List.getElem?_map, List.getElem?_eq_getElem hj, Option.map_some, getD_at _ _ hj]))⟩⟩)
      have hsz := hb.size
      have hl2 := HL.out k hk
      clear hv hb
      go_wp2_with (at_builtin; refine append_by rfl (.tmp 11) (.tmp 17) rfl w.heap.size (ahead f k) (f k) _ rfl HV.out (some ⟨a, k * 64, none⟩) 64 64 rfl n1.symm wr.heap.size HD.out (fun e => by cases e) (by omega) w HB.out hsz ?_; intro v' w2 hv2 hb2)
      go_roundw
      case rel => exact ⟨k + 1, by omega, by simp, by rw [ahead_succ]; exact hv2, hb2⟩
      case measure => simp [intOf]; omega
    · obtain rfl : k = 34 := by omega
      go_wp2
      go_ret
      exact ⟨_, rfl, by
        have e : ahead f 34 = flat f := rfl
        rw [e] at hv
        exact hv, hb⟩
end Go.Proofs.Ytfeaaclbjnaamaa
