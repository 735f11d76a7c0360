/-
  A new disk; the newest write of a sector.
-/
import Derived.Test.YtgkbhdecohlpmaaDkPlain
namespace Go.Proofs.Ytgkbhdecohlpmaa.Dk
set_option maxRecDepth 100000
open Go.RowKit Go.Maps

theorem disk_zero : (Try.prog.info? 59).map (·.zero) = some (some (.agg (rowD Dk.fresh.dur none false).toArray)) := by kernel_rfl
theorem disk_size : (Try.prog.info? 59).map (·.size) = some 2178 := by kernel_rfl
theorem fresh_secs : ∀ n, n < 34 → Sec (Dk.fresh.dur n) := fun _ _ => sec_zero

theorem new_disk (w : World) : Calls Try.prog 7 #[] w fun e w' => e = .returned (.pointer (some ⟨w.heap.size, 0, none⟩)) ∧ Disk w' (fun k => k = w.heap.size) w.heap.size Dk.fresh ∧ Below w.heap.size w w' ∧ w'.heap.size = w.heap.size + 1 := by
  obtain ⟨Z, hZ, hz⟩ : ∃ Z, (Try.prog.info? 59).map (·.zero) = some (some (.agg Z)) ∧ Z = (rowD Dk.fresh.dur none false).toArray := ⟨_, disk_zero, rfl⟩
  have H := Lib.hid (show Disk (w.alloc (.cells Z 59)) (fun k => k = w.heap.size) w.heap.size Dk.fresh ∧ Below w.heap.size w (w.alloc (.cells Z 59)) from
    ⟨⟨rfl, fun k hk => by rw [hk]; simp, fresh_secs, fun _ _ _ hb => by simp [Dk.fresh] at hb, none, by rw [hz]; exact heap_alloc_new w _, Or.inl ⟨rfl, fun _ _ => rfl⟩⟩, (Below.refl _ w).alloc (Nat.le_refl _) _⟩)
  have HZ := Lib.hid hZ
  clear hZ hz
  go_enter Try.func7, Try.ntmps7
  go_wp2_with (refine wpList_alloc_any rfl 59 rfl Z HZ.out ?_)
  go_ret
  exact ⟨rfl, H.out.1, H.out.2, by simp⟩

/-- what a look-up finds -/
theorem look_cases {w : World} {S : Nat → Prop} {m : Option Nat} {c : Nat → List (List Nat)} (hm : (m = none ∧ ∀ n, n < 34 → c n = []) ∨ ∃ b V, m = some b ∧ S b ∧ Mapped w b c V ∧ Slots w S c V) {n : Nat} (hn : n < 34) :
    ∃ v, (Instr.lookup 57 (.map m) (.int .i64 (n : Int)) false).run Try.prog w = .ok v w ∧ ((v = .slice none 0 0 ∧ c n = []) ∨
      ∃ g cap cur, v = .slice (some ⟨g, 0, none⟩) (c n).length cap ∧ S g ∧ w.heap[g]? = some (.cells cur 55 (0, 0)) ∧ (c n).length ≤ cap ∧ cap ≤ maxLen ∧ cur.toList.take ((c n).length * 64) = vals (c n).flatten ∧ c n ≠ []) := by
  rcases hm with ⟨rfl, hc⟩ | ⟨b, V, rfl, _, hM, hV⟩
  · refine ⟨nilS, ?_, Or.inl ⟨rfl, hc n hn⟩⟩
    have hz : (zeroValue 91).run Try.prog w = .ok nilS w := by kernel_rfl
    exact Maps.look_nil false (Maps.int_keyed Try.underlying3) Try.underlying57 hz (keyOf_int_mk Try.underlying3 (WalkArith.wf_i64 (by omega)))
  · refine ⟨V n, hM.look hn, ?_⟩
    by_cases h0 : c n = []
    · left
      refine ⟨?_, h0⟩
      obtain ⟨D, _, _, hat⟩ := hM
      have h1 := hat n hn
      rw [h0] at h1
      have h2 := atKey_of_not_has h1.1 (DataW.held nilS)
      rw [h1.2] at h2
      exact DataW.held.inj h2
    · right
      rcases (hV.own n hn).2 with ⟨_, h1⟩ | ⟨g, cap, cur, e, _, hh, h2, h3, _, h5⟩
      · exact absurd (List.eq_nil_of_length_eq_zero h1) h0
      · exact ⟨g, cap, cur, e, hV.mine n g hn (by rw [e]; rfl), hh, h2, h3, h5, h0⟩

theorem results_sec {fn : Func} {p : Tmp} (h : fn.results = #[.cell p 55]) (tmps : Array Value) (w : World) (g : Nat) (bs : List Nat) (hl : bs.length = 64)
    (hp : tmps.getD p undef = .pointer (some ⟨g, 0, none⟩)) (hg : w.heap[g]? = some (.cells (vals bs).toArray 55 (0, 0))) :
    (results fn tmps).run Try.prog w = .ok (sval bs) w :=
  results_cell_row h tmps w g 55 (vals bs).toArray (0, 0) _ hp hg Try.underlying55 rfl (by rw [sector_size]; simp [vals_length, hl])
theorem row_cells {w : World} {g : Nat} {t : TypeId} {fr : Nat × Nat} {cs : List Value} (hg : w.heap[g]? = some (.cells cs.toArray t fr)) {off : Nat} {xs : List Value} (h : ∀ j u, xs[j]? = some u → cs[off + j]? = some u) :
    ∀ j u, xs[j]? = some u → w.cell? ⟨g, off + j, none⟩ = some u := by
  intro j u hu
  rw [cell_of_row w g (off + j) _ _ _ hg]
  simpa using h j u hu

set_option maxHeartbeats 400000 in
theorem newest_any {w : World} {S : Nat → Prop} {a : Nat} {d : Dk} (h : Disk w S a d) {n : Nat} (hn : n < 34) :
    Calls Try.prog 34 #[.pointer (some ⟨a, 0, none⟩), .int .i64 (n : Int)] w fun e w' => e = .returned (sval (d.newest n)) ∧ Below w.heap.size w w' := by
  have hs := h.newest_sec hn
  have hn1 := hs.1
  obtain ⟨Z, hZ, hz⟩ : ∃ Z, (Try.prog.info? 55).map (·.zero) = some (some (.agg Z)) ∧ Z = (vals (List.replicate 64 0)).toArray := ⟨_, sector_zero, rfl⟩
  have hzl : Z.size = 64 := by rw [hz]; simp [vals_length]
  have HZ := Lib.hid hZ
  clear hZ hz
  obtain ⟨w1, hw1⟩ : ∃ w1, w1 = w.alloc (.cells Z 55) := ⟨_, rfl⟩
  have hB1 : Below w.heap.size w w1 := by rw [hw1]; exact (Below.refl _ w).alloc (Nat.le_refl _) _
  have HR := Lib.hid (show w1.heap[w.heap.size]? = some (.cells Z 55 (0, 0)) by rw [hw1]; exact heap_alloc_new w _)
  have hd1 := h.below hB1 (Nat.le_refl _)
  obtain ⟨m, hb, hc, _, _, hm⟩ := hd1.cells
  obtain ⟨v, hlook, hv⟩ := look_cases hm hn
  have HW := Lib.hid hw1
  have HB := Lib.hid (below_setRow hB1 (Nat.le_refl _) (vals (d.newest n)).toArray)
  have HI := Lib.hid (show (Try.prog.info? 55).map (·.size) = some (vals (d.newest n)).toArray.size by rw [sector_size]; simp [vals_length, hs.1])
  have HI' := Lib.hid (sector_info _ hs.1)
  have HS := Lib.hid (show Z.size = (vals (d.newest n)).toArray.size by rw [hzl]; simp [vals_length, hs.1])
  have H1 := Lib.hid (show (vals (d.newest n)).toArray.all (·.oneCell') = true from Array.all_eq_true_iff_forall_mem.2 fun u hu => vals_one u (by simpa using hu))
  have HE := Lib.hid (setRow_heap w1 w.heap.size Z (vals (d.newest n)).toArray 55 _ HR.out)
  clear hw1 hB1 hm hzl
  rcases hv with ⟨rfl, h0⟩ | ⟨g, cap, cur, rfl, _, hg, hle, hmax, ht, h0⟩
  · have e : d.newest n = d.dur n := by unfold Dk.newest; rw [h0]; rfl
    have HC := Lib.hid (row_cells hb (rowD_sec h.secs m d.down hn))
    rw [e] at HI HI' HS H1 HE HB hn1 ⊢
    clear hb h hd1 hs
    go_enter Try.func34, Try.ntmps34
    go_wp2_with (first
      | (refine wpList_alloc_any rfl 55 rfl Z HZ.out ?_; rw [← HW.out])
      | (refine wpList_load_part rfl 55 _ rfl a (n * 64) rfl (vals (d.dur n)) _ HC.out Try.underlying55 rfl HI'.out ?_)
      | (refine wpList_store_row rfl 55 _ _ rfl w.heap.size (vals (d.dur n)).toArray rfl rfl 55 Z HR.out HI.out HS.out H1.out ?_))
    exact bodyPost_ret (results_sec rfl _ _ w.heap.size _ hn1 rfl HE.out) rfl ⟨rfl, HB.out⟩
  · obtain ⟨ws, x, hws⟩ : ∃ ws x, d.cache n = ws ++ [x] := ⟨(d.cache n).dropLast, (d.cache n).getLast h0, (List.dropLast_concat_getLast h0).symm⟩
    have e : d.newest n = x := by unfold Dk.newest; rw [hws]; simp
    have hwl : ∀ b ∈ ws, b.length = 64 := fun b hb' => (h.puts n hn b (by rw [hws]; simp [hb'])).1
    have hfl : (vals ws.flatten).length = ws.length * 64 := by
      rw [vals_length]
      clear hws
      induction ws with
      | nil => rfl
      | cons b r ih => rw [List.flatten_cons, List.length_append, ih (fun c hc => hwl c (List.mem_cons_of_mem _ hc)), hwl b List.mem_cons_self, List.length_cons, Nat.succ_mul, Nat.add_comm]
    have HC := Lib.hid (show ∀ j u, (vals x)[j]? = some u → w1.cell? ⟨g, ws.length * 64 + j, none⟩ = some u by
      intro j u hu
      have hj := (List.getElem?_eq_some_iff.1 hu).1
      rw [← e, vals_length, hs.1] at hj
      rw [cell_of_row w1 g _ cur _ _ hg]
      have h2 : (cur.toList.take ((d.cache n).length * 64))[ws.length * 64 + j]? = some u := by
        rw [ht, hws, List.flatten_append, vals_append, List.getElem?_append_right (by omega), hfl, Nat.add_sub_cancel_left]
        simpa using hu
      rw [List.getElem?_take_of_lt (by rw [hws]; simp; omega)] at h2
      simpa using h2)
    rw [e] at HI HI' HS H1 HE HB hn1 ⊢
    rw [hws] at hlook hle ht
    simp only [List.length_append, List.length_cons, List.length_nil, Nat.zero_add] at hlook hle
    have hk : ws.length + 1 ≤ maxLen := Nat.le_trans hle hmax
    generalize ws.length = k at hlook hle HC hk
    clear hb h hd1 hs hws e hwl hfl ht h0
    unfold maxLen at hk hmax
    go_enter Try.func34, Try.ntmps34
    go_wp2_with (first
      | (refine wpList_alloc_any rfl 55 rfl Z HZ.out ?_; rw [← HW.out])
      | (refine wpList_load_part rfl 55 _ rfl g (k * 64) rfl (vals x) _ HC.out Try.underlying55 rfl HI'.out ?_)
      | (refine wpList_store_row rfl 55 _ _ rfl w.heap.size (vals x).toArray rfl rfl 55 Z HR.out HI.out HS.out H1.out ?_))
    exact bodyPost_ret (results_sec rfl _ _ w.heap.size _ hn1 rfl HE.out) rfl ⟨rfl, HB.out⟩
end Go.Proofs.Ytgkbhdecohlpmaa.Dk
