/-
  Write: one more write of a sector.
-/
import Derived.Test.YtgkbhdecohlpmaaDkStore
import Derived.Shelf.SlMaps.Clone
namespace Go.Proofs.Ytgkbhdecohlpmaa.Dk
set_option maxRecDepth 100000
open Go.RowKit Go.Maps Go.MapKept Go.ChangeMaps

def Dk.write (d : Dk) (n : Nat) (bs : List Nat) : Dk := { d with cache := upd d.cache n (d.cache n ++ [padded bs]) }
theorem write_nil (z : Int) (A : Option Addr) (l c : Nat) (w : World) : Calls Try.prog 19 #[.pointer none, .int .i64 z, .slice A l c] w fun e w' => e = .returned (.int .i64 1) ∧ w' = w := by
  go_enter Try.func19, Try.ntmps19
  go_wp2_with fail
  refine (refuses_nil w).mono ?_
  rintro e w' ⟨rfl, rfl⟩
  go_wp2
  go_ret
  exact ⟨rfl, rfl⟩
theorem write_down {w : World} {S : Nat → Prop} {a : Nat} {d : Dk} (h : Disk w S a d) (hd : d.down = true) (z : Int) (A : Option Addr) (l c : Nat) :
    Calls Try.prog 19 #[.pointer (some ⟨a, 0, none⟩), .int .i64 z, .slice A l c] w fun e w' => e = .returned (.int .i64 30) ∧ w' = w := by
  have HR := Lib.hid (refuses_any h)
  rw [hd] at HR
  clear h hd
  go_enter Try.func19, Try.ntmps19
  go_wp2_with fail
  refine HR.out.mono ?_
  rintro e w' ⟨rfl, rfl⟩
  go_wp2
  go_ret
  exact ⟨rfl, rfl⟩
theorem write_arg {w : World} {S : Nat → Prop} {a : Nat} {d : Dk} (h : Disk w S a d) (hd : d.down = false) (z : Int) (A : Option Addr) (l c : Nat) (hl : l ≤ maxLen) (hz : ¬ (0 ≤ z ∧ z < 34 ∧ l ≤ 64)) :
    Calls Try.prog 19 #[.pointer (some ⟨a, 0, none⟩), .int .i64 z, .slice A l c] w fun e w' => e = .returned (.int .i64 2) ∧ w' = w := by
  have HR := Lib.hid (refuses_any h)
  rw [hd] at HR
  clear h hd
  unfold maxLen at hl
  by_cases hs : 0 ≤ z ∧ z < 34
  · have HN := Lib.hid (sector_any z w)
    rw [decide_eq_true hs] at HN
    have hl2 : (l : Int) > 64 := by omega
    clear hz hs
    go_enter Try.func19, Try.ntmps19
    go_wp2_with fail
    refine HR.out.mono ?_
    rintro e w' ⟨rfl, rfl⟩
    go_wp2_with fail
    refine HN.out.mono ?_
    rintro e w' ⟨rfl, rfl⟩
    go_wp2
    go_ret
    exact ⟨rfl, rfl⟩
  · have HN := Lib.hid (sector_any z w)
    rw [decide_eq_false hs] at HN
    clear hz hs
    go_enter Try.func19, Try.ntmps19
    go_wp2_with fail
    refine HR.out.mono ?_
    rintro e w' ⟨rfl, rfl⟩
    go_wp2_with fail
    refine HN.out.mono ?_
    rintro e w' ⟨rfl, rfl⟩
    go_wp2
    go_ret
    exact ⟨rfl, rfl⟩

/-- A disk that has got a map. -/
theorem Disk.made {w : World} {S : Nat → Prop} {a : Nat} {d : Dk} (h : Disk w S a d) (hb : w.heap[a]? = some (.cells (rowD d.dur none d.down).toArray 59 (0, 0))) (h0 : ∀ n, n < 34 → d.cache n = []) :
    Disk ((w.alloc (.map #[] 0)).setCell ⟨a, 2176, none⟩ (.map (some w.heap.size))) (fun k => S k ∨ k = w.heap.size) a d ∧ ((w.alloc (.map #[] 0)).setCell ⟨a, 2176, none⟩ (.map (some w.heap.size))).cell? ⟨a, 2176, none⟩ = some (.map (some w.heap.size)) ∧
      Kept S w ((w.alloc (.map #[] 0)).setCell ⟨a, 2176, none⟩ (.map (some w.heap.size))) := by
  have hlt := h.lt
  have hb1 := (Below.heap_alloc w (.map #[] 0) a hlt).trans hb
  have hg := grown_setCell (w.alloc (.map #[] 0)) a 2176 (.map (some w.heap.size))
  have hrow := heap_setCell_same (w.alloc (.map #[] 0)) a 2176 _ _ (.map (some w.heap.size)) hb1
  rw [rowD_setMap h.secs] at hrow
  refine ⟨⟨Or.inl h.mine, fun k hk => ?_, h.secs, h.puts, some w.heap.size, hrow, Or.inr ⟨w.heap.size, fun _ => nilS, rfl, Or.inr rfl, ?_, ?_⟩⟩, ?_, ((Kept.refl S w).alloc _).grown hg (fun k e _ => by cases e; exact h.mine)⟩
  · refine Nat.lt_of_lt_of_le ?_ hg.size
    rcases hk with hk | hk
    · have := h.old k hk; simp; omega
    · simp; omega
  · have := mapped_empty (w := (w.alloc (.map #[] 0)).setCell ⟨a, 2176, none⟩ (.map (some w.heap.size))) (b := w.heap.size) (clock := 0) ((heap_setCell_other _ _ _ _ (by simp; omega)).trans (heap_alloc_new w _))
    obtain ⟨D, hown, h1, h2⟩ := this
    exact ⟨D, hown, h1, fun n hn => by rw [h0 n hn]; exact h2 n hn⟩
  · have := slots_empty ((w.alloc (.map #[] 0)).setCell ⟨a, 2176, none⟩ (.map (some w.heap.size))) (fun k => S k ∨ k = w.heap.size)
    exact ⟨fun n hn => by rw [h0 n hn]; exact this.own n hn, this.mine, this.apart⟩
  · rw [cell_of_row _ a 2176 _ _ _ hrow]
    simpa using rowD_map h.secs (some w.heap.size) d.down
theorem exec_load_part {P : Program} {ρ : Operand → Value} {o : Oper} {w : World} (ty : TypeId) (x : Operand) (ho : o.op = .load ty x) (g off : Nat) (hx : ρ x = .pointer (some ⟨g, off, none⟩)) (xs : List Value) (d : TypeDesc)
    (hc : ∀ j u, xs[j]? = some u → w.cell? ⟨g, off + j, none⟩ = some u) (hu : P.underlying ty = some d) (hd : (match d with | .struct _ | .array _ _ => true | _ => false) = true) (hi : (P.info? ty).map (·.size) = some xs.length) :
    (execOp ρ o).run P w = .ok (.value (.agg xs.toArray)) w := by
  unfold execOp
  simp only [ho, hx, Instr.loadAt, Instr.sureAddr, Sem.run_bind, Sem.run_pure, Result.andThen_ok, run_load_part w g off ty xs d hc hu hd hi]

theorem cell_set_other (w : World) (g j a n : Nat) (v : Value) (h : ¬ (g = a ∧ j = n)) : (w.setCell ⟨a, n, none⟩ v).cell? ⟨g, j, none⟩ = w.cell? ⟨g, j, none⟩ :=
  World.cell?_setCells_out a [v] n w ⟨g, j, none⟩ (fun e _ => by
    have e' : g = a := e
    show j < n ∨ n + 1 ≤ j
    omega)
theorem lt_of_heap {w : World} {k : Nat} {o : Obj} (h : w.heap[k]? = some o) : k < w.heap.size := (Array.getElem?_eq_some_iff.1 h).1
theorem heap_alloc_old' (w : World) (o : Obj) (k : Nat) (h : k < w.heap.size) : (w.alloc o).heap[k]? = w.heap[k]? := Below.heap_alloc w o k h
/-- a sector with bytes in front -/
theorem padded_splice {bs : List Nat} (hl : bs.length ≤ 64) : splice (vals (List.replicate 64 0)) 0 (vals bs) = vals (padded bs) := by
  unfold splice padded
  rw [vals_append]
  simp only [List.take_zero, List.nil_append, Nat.zero_add, vals_length]
  congr 1
  unfold vals
  rw [List.map_replicate, List.map_replicate, List.drop_replicate]
theorem size_u8 : (Try.prog.info? 5).map (·.size) = some 1 := by kernel_rfl

set_option maxHeartbeats 1000000 in
theorem write_go {w : World} {S : Nat → Prop} {a : Nat} {d : Dk} (h : Disk w S a d) (hd : d.down = false) {n : Nat} (hn : n < 34) {A : Option Addr} {bs : List Nat} {c : Nat} (hA : By w w.heap.size A bs) (hl : bs.length ≤ 64) (hk : (d.cache n).length ≤ 1000000000) {b : Nat}
    (hcm : w.cell? ⟨a, 2176, none⟩ = some (.map (some b))) :
    Calls Try.prog 19 #[.pointer (some ⟨a, 0, none⟩), .int .i64 (n : Int), .slice A bs.length c] w fun e w' => e = .returned (.int .i64 0) ∧ Goes w w' S a (d.write n bs) := by
  have HR := Lib.hid (refuses_any h)
  rw [hd] at HR
  have HN := Lib.hid (sector_any (n : Int) w)
  rw [decide_eq_true (by omega)] at HN
  have hl2 : ¬ (bs.length : Int) > 64 := by omega
  have hq := fun w => run_eql_map_nil_sl (P := Try.prog) w 57 _ _ (some b) Try.underlying57
  obtain ⟨Z, hZ, hz⟩ : ∃ Z : List Value, (Try.prog.info? 55).map (·.zero) = some (some (.agg Z.toArray)) ∧ Z = vals (List.replicate 64 0) := ⟨_, sector_zero, rfl⟩
  have HZ := Lib.hid hZ
  have HD := Lib.hid h
  have HA := Lib.hid hA
  have H0 := Lib.hid (heap_alloc_new w (.cells Z.toArray 55))
  have B0 := Lib.hid ((Below.refl w.heap.size w).alloc (Nat.le_refl _) (.cells Z.toArray 55))
  have A0 := Lib.hid (hA.below B0.out (Nat.le_refl _)).src
  have HC := Lib.hid (show splice Z 0 (vals bs) = vals (padded bs) by rw [hz]; exact padded_splice hl)
  have HP := Lib.hid (padded_sec hl hA.1)
  have HL := Lib.hid (show (vals bs).length ≤ Z.length by rw [hz, vals_length, vals_length]; simp; omega)
  have HK := Lib.hid hk
  have hlt := h.lt
  have n1 := vals_length bs
  clear h hd hZ hA hz hk
  go_enter Try.func19, Try.ntmps19
  go_wp2_with fail
  refine HR.out.mono ?_
  rintro e w' ⟨rfl, rfl⟩
  go_wp2_with fail
  refine HN.out.mono ?_
  rintro e w' ⟨rfl, rfl⟩
  go_wp2_with (first
    | (refine wpList_alloc_any rfl 55 rfl Z.toArray HZ.out ?_)
    | (with_reducible refine wpList_copy_splice rfl (.tmp 31) (.tmp 32) 44 44 rfl 5 Try.underlying44 size_u8 _ _ _ _ _ _ rfl rfl w'.heap.size 0 Z 55 H0.out (vals bs) (by rw [n1]; exact (Nat.min_eq_left hl).symm) (fun h => ⟨rfl, A0.out h⟩) (by have := HL.out; omega) vals_one w'.heap.size _ B0.out (Nat.le_refl _) ?_; intro w3 hg3 hb3; rw [HC.out] at hg3; replace hb3 := Lib.hid hb3))
  obtain ⟨i0, hi, hz0, hz1, hz2⟩ := info_parts Try.info55
  obtain ⟨m, hb0, hc0, _, _, hm⟩ := HD.out.cells
  rw [hcm] at hc0
  cases hc0
  rcases hm with ⟨e, _⟩ | ⟨b', V, e, hS, hM, hV⟩
  · cases e
  cases e
  have hM0 := hM
  obtain ⟨D, hown, hk1, hD⟩ := hM
  have hb3d : Below w'.heap.size w' w3.drew := hb3.out.drew
  have hg3d : w3.drew.heap[w'.heap.size]? = some (.cells (vals (padded bs)).toArray 55 (0, 0)) := hg3.out
  refine wp_region_held_drew (S := fun W => W.cell? ⟨a, 2176, none⟩ = some (.map (some b)) ∧ W.heap[w'.heap.size]? = some (.cells (vals (padded bs)).toArray 55 (0, 0))) (by kernel_rfl) ⟨(hb3d.cell HD.out.lt).trans hcm, hg3d⟩ (fun hHeld => ?_)
  generalize w3.drew = W3 at hb3d hg3d hHeld ⊢
  have HL3 := Lib.hid ((hM0.keep (hb3d.block b (HD.out.old b hS))).look hn)
  have HBS := Lib.hid (run_buildSlice_one (P := Try.prog) W3 91 55 i0 _ 64 Try.underlying91 hi hz0 hz1 (by omega) (by omega) (vals (padded bs)) (by rw [vals_length, HP.out.1]))
  have H4 := Lib.hid (hb3d.alloc hb3d.size (.cells (vals (padded bs)).toArray 55))
  have HL4 := Lib.hid ((hM0.keep (H4.out.block b (HD.out.old b hS))).look hn)
  have HO4 := Lib.hid (owns_keep (hV.own n hn) fun g hg => H4.out.block g (HD.out.old g (hV.mine n g hn hg)))
  have HM4 := Lib.hid (hown.kept (below_grown H4.out) (by simp))
  have HNB := Lib.hid (show some b ≠ (V n).ownBlock from fun e => hV.ne_map hM0 hn e.symm rfl)
  have HSZ := Lib.hid (show (W3.alloc (.cells (vals (padded bs)).toArray 55)).heap.size = W3.heap.size + 1 by simp)
  have HS4 := Lib.hid (show (W3.alloc (.cells (vals (padded bs)).toArray 55)).cell? ⟨a, 2176, none⟩ = some (.map (some b)) ∧ (W3.alloc (.cells (vals (padded bs)).toArray 55)).heap[w'.heap.size]? = some (.cells (vals (padded bs)).toArray 55 (0, 0)) from
    ⟨(H4.out.cell HD.out.lt).trans hcm, (heap_alloc_old' _ _ _ (lt_of_heap hg3d)).trans hg3d⟩)
  have HNA := Lib.hid (show some a ≠ (V n).ownBlock from fun e => hV.ne_disk hb0 hn e.symm rfl)
  have HNL := Lib.hid (show some w'.heap.size ≠ (V n).ownBlock from fun e => by have := HD.out.old _ (hV.mine n _ hn e.symm); omega)
  have HNM := Lib.hid (show a ≠ b ∧ w'.heap.size ≠ b from ⟨fun e => hM0.ne_cells hb0 e.symm, fun e => by have := HD.out.old b hS; omega⟩)
  have HLT := Lib.hid (show a < (W3.alloc (.cells (vals (padded bs)).toArray 55)).heap.size ∧ w'.heap.size < (W3.alloc (.cells (vals (padded bs)).toArray 55)).heap.size from by
    have := HD.out.lt
    have h2 := hb3d.size
    rw [HSZ.out]; omega)
  have HS5 := Lib.hid (show ∀ w5, (W3.alloc (.cells (vals (padded bs)).toArray 55)).grownBy w5 (V n).ownBlock → w5.cell? ⟨a, 2176, none⟩ = some (.map (some b)) ∧ w5.heap[w'.heap.size]? = some (.cells (vals (padded bs)).toArray 55 (0, 0)) from fun w5 h =>
    ⟨(World.cell?_of_block (w := W3.alloc (.cells (vals (padded bs)).toArray 55)) (h.block a HLT.out.1 HNA.out)).trans HS4.out.1, (h.block _ HLT.out.2 HNL.out).trans HS4.out.2⟩)
  have HS6 := Lib.hid (show ∀ w5 w6, (W3.alloc (.cells (vals (padded bs)).toArray 55)).grownBy w5 (V n).ownBlock → w5.grownBy w6 (some b) → w6.cell? ⟨a, 2176, none⟩ = some (.map (some b)) ∧ w6.heap[w'.heap.size]? = some (.cells (vals (padded bs)).toArray 55 (0, 0)) from fun w5 w6 h h' =>
    ⟨(World.cell?_of_block (w := w5) (h'.block a (Nat.lt_of_lt_of_le HLT.out.1 h.size) (fun e => HNM.out.1 (by cases e; rfl)))).trans (HS5.out w5 h).1, (h'.block _ (Nat.lt_of_lt_of_le HLT.out.2 h.size) (fun e => HNM.out.2 (by cases e; rfl))).trans (HS5.out w5 h).2⟩)
  simp only [Act.put, List.setIfInBounds_toArray, List.set_cons_succ, List.set_cons_zero]
  refine wpAnyH_take (i := 0) (v := ?_) rfl (by kernel_rfl) (by kernel_rfl) (by kernel_rfl) (fun _ _ _ h => h) (Or.inl ⟨by rfl, ?_⟩) (by assumption) ?_
  rotate_left
  · simp only [List.getElem_toArray, List.getElem_cons_zero, List.getElem_cons_succ]; intro W hSw; (try dsimp only at hSw); go_simp; all_goals with_reducible rfl
  simp only [Act.put, List.getElem_toArray, List.getElem_cons_zero, List.getElem_cons_succ, List.setIfInBounds_toArray, List.set_cons_zero, List.set_cons_succ]
  refine wpAnyH_take (i := 1) (v := ?_) rfl (by kernel_rfl) (by kernel_rfl) (by kernel_rfl) (fun _ _ _ h => h) (Or.inl ⟨by rfl, ?_⟩) (by assumption) ?_
  rotate_left
  · simp only [List.getElem_toArray, List.getElem_cons_zero, List.getElem_cons_succ]; intro W hSw; (try dsimp only at hSw); go_simp; all_goals with_reducible rfl
  simp only [Act.put, List.getElem_toArray, List.getElem_cons_zero, List.getElem_cons_succ, List.setIfInBounds_toArray, List.set_cons_zero, List.set_cons_succ]
  refine wpAnyH_take (i := 2) (v := ?_) rfl (by kernel_rfl) (by kernel_rfl) (by kernel_rfl) (fun _ _ _ h => h) (Or.inl ⟨by rfl, ?_⟩) (by assumption) ?_
  rotate_left
  · simp only [List.getElem_toArray, List.getElem_cons_zero, List.getElem_cons_succ]; intro W hSw; (try dsimp only at hSw); go_simp; all_goals with_reducible rfl
  simp only [Act.put, List.getElem_toArray, List.getElem_cons_zero, List.getElem_cons_succ, List.setIfInBounds_toArray, List.set_cons_zero, List.set_cons_succ]
  refine wpAnyH_take (i := 3) (v := ?_) rfl (by kernel_rfl) (by kernel_rfl) (by kernel_rfl) (fun _ _ _ h => h) (Or.inl ⟨by rfl, ?_⟩) (by assumption) ?_
  rotate_left
  · simp only [List.getElem_toArray, List.getElem_cons_zero, List.getElem_cons_succ]; intro W hSw; (try dsimp only at hSw); go_simp; all_goals with_reducible rfl
  simp only [Act.put, List.getElem_toArray, List.getElem_cons_zero, List.getElem_cons_succ, List.setIfInBounds_toArray, List.set_cons_zero, List.set_cons_succ]
  refine wpAnyH_take (i := 4) (v := ?_) rfl (by kernel_rfl) (by kernel_rfl) (by kernel_rfl) (fun _ _ _ h => h) (Or.inl ⟨by rfl, ?_⟩) (by assumption) ?_
  rotate_left
  · simp only [List.getElem_toArray, List.getElem_cons_zero, List.getElem_cons_succ]; intro W hSw; (try dsimp only at hSw); go_simp; all_goals with_reducible rfl
  simp only [Act.put, List.getElem_toArray, List.getElem_cons_zero, List.getElem_cons_succ, List.setIfInBounds_toArray, List.set_cons_zero, List.set_cons_succ]
  refine wpAnyH_take (i := 5) (v := ?_) rfl (by kernel_rfl) (by kernel_rfl) (by kernel_rfl) (fun _ _ _ h => h) (Or.inl ⟨by rfl, ?_⟩) (by assumption) ?_
  rotate_left
  · simp only [List.getElem_toArray, List.getElem_cons_zero, List.getElem_cons_succ]; intro W hSw; (try dsimp only at hSw); go_simp; all_goals with_reducible rfl
  simp only [Act.put, List.getElem_toArray, List.getElem_cons_zero, List.getElem_cons_succ, List.setIfInBounds_toArray, List.set_cons_zero, List.set_cons_succ]
  refine wpAnyH_take (i := 6) (v := ?_) rfl (by kernel_rfl) (by kernel_rfl) (by kernel_rfl) (fun _ _ _ h => h) (Or.inl ⟨by rfl, ?_⟩) (by assumption) ?_
  rotate_left
  · simp only [List.getElem_toArray, List.getElem_cons_zero, List.getElem_cons_succ]; intro W hSw; (try dsimp only at hSw); go_simp; all_goals with_reducible rfl
  simp only [Act.put, List.getElem_toArray, List.getElem_cons_zero, List.getElem_cons_succ, List.setIfInBounds_toArray, List.set_cons_zero, List.set_cons_succ]
  refine wpAnyH_take (i := 7) (v := ?_) rfl (by kernel_rfl) (by kernel_rfl) (by kernel_rfl) (fun _ _ _ h => h) (Or.inl ⟨by rfl, ?_⟩) (by assumption) ?_
  rotate_left
  · simp only [List.getElem_toArray, List.getElem_cons_zero, List.getElem_cons_succ]; intro W hSw; (try dsimp only at hSw); go_simp; all_goals with_reducible rfl
  simp only [Act.put, List.getElem_toArray, List.getElem_cons_zero, List.getElem_cons_succ, List.setIfInBounds_toArray, List.set_cons_zero, List.set_cons_succ]
  refine wpAnyH_take (i := 8) (v := ?_) rfl (by kernel_rfl) (by kernel_rfl) (by kernel_rfl) (fun _ _ _ h => h) (Or.inl ⟨by rfl, ?_⟩) (by assumption) ?_
  rotate_left
  · simp only [List.getElem_toArray, List.getElem_cons_zero, List.getElem_cons_succ]; intro W hSw; (try dsimp only at hSw); go_simp; all_goals with_reducible rfl
  simp only [Act.put, List.getElem_toArray, List.getElem_cons_zero, List.getElem_cons_succ, List.setIfInBounds_toArray, List.set_cons_zero, List.set_cons_succ]
  refine wpAnyH_take (i := 9) (v := ?_) rfl (by kernel_rfl) (by kernel_rfl) (by kernel_rfl) (fun _ _ _ h => h) (Or.inl ⟨by rfl, ?_⟩) (by assumption) ?_
  rotate_left
  · simp only [List.getElem_toArray, List.getElem_cons_zero, List.getElem_cons_succ]; intro W hSw; (try dsimp only at hSw); go_simp; all_goals with_reducible rfl
  simp only [Act.put, List.getElem_toArray, List.getElem_cons_zero, List.getElem_cons_succ, List.setIfInBounds_toArray, List.set_cons_zero, List.set_cons_succ]
  refine wpAnyH_take (i := 11) (v := ?_) rfl (by kernel_rfl) (by kernel_rfl) (by kernel_rfl) (fun _ _ _ h => h) (Or.inl ⟨by rfl, ?_⟩) (by assumption) ?_
  rotate_left
  · simp only [List.getElem_toArray, List.getElem_cons_zero, List.getElem_cons_succ]
    intro W hSw
    refine exec_load_part 55 (.tmp 8) ?_ w'.heap.size 0 ?_ (vals (padded bs)) _ (row_cells hSw.2 (fun j u hu => by rw [Nat.zero_add]; exact hu)) Try.underlying55 rfl (sector_info _ HP.out.1)
    · rfl
    · rfl
  simp only [Act.put, List.getElem_toArray, List.getElem_cons_zero, List.getElem_cons_succ, List.setIfInBounds_toArray, List.set_cons_zero, List.set_cons_succ]
  refine wpAnyH_ready (rs := [10, 12]) (by kernel_rfl) (by simp) ?_
  refine AllReadyH.cons rfl (fun K hK => ?_) (AllReadyH.cons rfl (fun K hK => ?_) AllReadyH.nil)
  all_goals try simp only [List.getElem_toArray, List.getElem_cons_zero, List.getElem_cons_succ]
  · rw [if_pos]
    rotate_left
    · simp [Region.wanted]
    refine wp_value (v := V n) (w' := W3) (by simp [execOp, Act.eval, HL3.out, Result.andThen]) ?_
    refine hK.out _ _ hHeld (fun hHeld2 => ?_)
    clear hK K
    (try simp only [Act.put, List.getElem_toArray, List.getElem_cons_zero, List.getElem_cons_succ, List.setIfInBounds_toArray, List.set_cons_zero, List.set_cons_succ])
    refine wpAnyH_ready (rs := [12]) (by kernel_rfl) (by simp) ?_
    refine AllReadyH.cons rfl (fun K hK => ?_) AllReadyH.nil
    simp only [List.getElem_toArray, List.getElem_cons_zero, List.getElem_cons_succ]
    rw [if_pos]
    rotate_left
    · simp [Region.wanted]
    refine wp_value (v := .slice (some ⟨W3.heap.size, 0, none⟩) 1 1) (w' := (W3.alloc (.cells (vals (padded bs)).toArray 55))) (by simp [execOp, Act.eval, HBS.out, Result.andThen]) ?_
    refine hK.out _ _ HS4.out (fun hHeld3 => ?_)
    clear hK K
    (try simp only [Act.put, List.getElem_toArray, List.getElem_cons_zero, List.getElem_cons_succ, List.setIfInBounds_toArray, List.set_cons_zero, List.set_cons_succ])
    refine wpAnyH_ready (rs := [13]) (by kernel_rfl) (by simp) ?_
    refine AllReadyH.cons rfl (fun K hK => ?_) AllReadyH.nil
    simp only [List.getElem_toArray, List.getElem_cons_zero, List.getElem_cons_succ]
    rw [if_pos]
    rotate_left
    · simp [Region.wanted]
    refine wp_append_lies _ (.tmp 44) (.tmp 46) 91 rfl 0 55 i0 _ 64 64 Try.underlying91 hi hz0 hz1 hz2 (by simp [Value.cells]) (by omega) (V n) (d.cache n).length (vals (d.cache n).flatten) rfl HO4.out ⟨W3.heap.size, 0, none⟩ 1 1 (vals (padded bs)) rfl (by rw [vals_length, HP.out.1]) (new_cells rfl) vals_one (by omega) (by have := HK.out; unfold maxLen; omega) (by have := HK.out; omega) (Nat.zero_le _) _ rfl ?_
    intro g cap w5 hrow5 hgr5 hor5 hlt5
    refine hK.out _ _ (HS5.out w5 hgr5) (fun hHeld8 => ?_)
    clear hK K
    (try simp only [Act.put, List.getElem_toArray, List.getElem_cons_zero, List.getElem_cons_succ, List.setIfInBounds_toArray, List.set_cons_zero, List.set_cons_succ])
    refine wpAnyH_ready (rs := [14]) (by kernel_rfl) (by simp) ?_
    refine AllReadyH.cons rfl (fun K hK => ?_) AllReadyH.nil
    simp only [List.getElem_toArray, List.getElem_cons_zero, List.getElem_cons_succ]
    rw [if_pos]
    rotate_left
    · simp [Region.wanted]
    obtain ⟨w6, hrun6, hown6, hgr6⟩ := (HM4.out.kept hgr5 HNB.out).update (Maps.int_keyed Try.underlying3) Try.underlying57 (by unfold maxLen; omega) (keyOf_int_mk Try.underlying3 (WalkArith.wf_i64 (n := (n : Int)) (by omega))) (val := .slice (some ⟨g, 0, none⟩) ((d.cache n).length + 1) cap) (d := .held (.slice (some ⟨g, 0, none⟩) ((d.cache n).length + 1) cap)) (ps := []) rfl
    have HG := Lib.hid (Disk.appended HD.out hn HP.out hb0 hS hown hk1 hD hV H4.out hgr5 hrow5 (hor5.imp id (fun e => by have := hb3d.size; have := HSZ.out; omega)) hlt5 hgr6 hown6)
    have hS6 := HS6.out w5 w6 hgr5 hgr6
    refine wp_mapUpdate 57 (.tmp 37) (.tmp 38) (.tmp 47) rfl _ _ _ rfl rfl rfl hrun6 ?_
    refine hK.out _ _ hS6 (fun hHeld9 => ?_)
    clear hK K
    (try simp only [Act.put, List.getElem_toArray, List.getElem_cons_zero, List.getElem_cons_succ, List.setIfInBounds_toArray, List.set_cons_zero, List.set_cons_succ])
    refine wpAnyH_done (by kernel_rfl) ?_ _
    clear hrow5 hgr5 hrun6 hown6 hgr6 hor5 hlt5 hS6 hHeld8 hHeld9
    go_wp2
    go_ret
    exact ⟨rfl, HG.out⟩
  · rw [if_pos]
    rotate_left
    · simp [Region.wanted]
    refine wp_value (v := .slice (some ⟨W3.heap.size, 0, none⟩) 1 1) (w' := (W3.alloc (.cells (vals (padded bs)).toArray 55))) (by simp [execOp, Act.eval, HBS.out, Result.andThen]) ?_
    refine hK.out _ _ HS4.out (fun hHeld2 => ?_)
    clear hK K
    (try simp only [Act.put, List.getElem_toArray, List.getElem_cons_zero, List.getElem_cons_succ, List.setIfInBounds_toArray, List.set_cons_zero, List.set_cons_succ])
    refine wpAnyH_ready (rs := [10]) (by kernel_rfl) (by simp) ?_
    refine AllReadyH.cons rfl (fun K hK => ?_) AllReadyH.nil
    simp only [List.getElem_toArray, List.getElem_cons_zero, List.getElem_cons_succ]
    rw [if_pos]
    rotate_left
    · simp [Region.wanted]
    refine wp_value (v := V n) (w' := (W3.alloc (.cells (vals (padded bs)).toArray 55))) (by simp [execOp, Act.eval, HL4.out, Result.andThen]) ?_
    refine hK.out _ _ HS4.out (fun hHeld3 => ?_)
    clear hK K
    (try simp only [Act.put, List.getElem_toArray, List.getElem_cons_zero, List.getElem_cons_succ, List.setIfInBounds_toArray, List.set_cons_zero, List.set_cons_succ])
    refine wpAnyH_ready (rs := [13]) (by kernel_rfl) (by simp) ?_
    refine AllReadyH.cons rfl (fun K hK => ?_) AllReadyH.nil
    simp only [List.getElem_toArray, List.getElem_cons_zero, List.getElem_cons_succ]
    rw [if_pos]
    rotate_left
    · simp [Region.wanted]
    refine wp_append_lies _ (.tmp 44) (.tmp 46) 91 rfl 0 55 i0 _ 64 64 Try.underlying91 hi hz0 hz1 hz2 (by simp [Value.cells]) (by omega) (V n) (d.cache n).length (vals (d.cache n).flatten) rfl HO4.out ⟨W3.heap.size, 0, none⟩ 1 1 (vals (padded bs)) rfl (by rw [vals_length, HP.out.1]) (new_cells rfl) vals_one (by omega) (by have := HK.out; unfold maxLen; omega) (by have := HK.out; omega) (Nat.zero_le _) _ rfl ?_
    intro g cap w5 hrow5 hgr5 hor5 hlt5
    refine hK.out _ _ (HS5.out w5 hgr5) (fun hHeld8 => ?_)
    clear hK K
    (try simp only [Act.put, List.getElem_toArray, List.getElem_cons_zero, List.getElem_cons_succ, List.setIfInBounds_toArray, List.set_cons_zero, List.set_cons_succ])
    refine wpAnyH_ready (rs := [14]) (by kernel_rfl) (by simp) ?_
    refine AllReadyH.cons rfl (fun K hK => ?_) AllReadyH.nil
    simp only [List.getElem_toArray, List.getElem_cons_zero, List.getElem_cons_succ]
    rw [if_pos]
    rotate_left
    · simp [Region.wanted]
    obtain ⟨w6, hrun6, hown6, hgr6⟩ := (HM4.out.kept hgr5 HNB.out).update (Maps.int_keyed Try.underlying3) Try.underlying57 (by unfold maxLen; omega) (keyOf_int_mk Try.underlying3 (WalkArith.wf_i64 (n := (n : Int)) (by omega))) (val := .slice (some ⟨g, 0, none⟩) ((d.cache n).length + 1) cap) (d := .held (.slice (some ⟨g, 0, none⟩) ((d.cache n).length + 1) cap)) (ps := []) rfl
    have HG := Lib.hid (Disk.appended HD.out hn HP.out hb0 hS hown hk1 hD hV H4.out hgr5 hrow5 (hor5.imp id (fun e => by have := hb3d.size; have := HSZ.out; omega)) hlt5 hgr6 hown6)
    have hS6 := HS6.out w5 w6 hgr5 hgr6
    refine wp_mapUpdate 57 (.tmp 37) (.tmp 38) (.tmp 47) rfl _ _ _ rfl rfl rfl hrun6 ?_
    refine hK.out _ _ hS6 (fun hHeld9 => ?_)
    clear hK K
    (try simp only [Act.put, List.getElem_toArray, List.getElem_cons_zero, List.getElem_cons_succ, List.setIfInBounds_toArray, List.set_cons_zero, List.set_cons_succ])
    refine wpAnyH_done (by kernel_rfl) ?_ _
    clear hrow5 hgr5 hrun6 hown6 hgr6 hor5 hlt5 hS6 hHeld8 hHeld9
    go_wp2
    go_ret
    exact ⟨rfl, HG.out⟩

set_option maxHeartbeats 1000000 in
theorem write_first {w : World} {S : Nat → Prop} {a : Nat} {d : Dk} (h : Disk w S a d) (hd : d.down = false) {n : Nat} (hn : n < 34) {A : Option Addr} {bs : List Nat} {c : Nat} (hA : By w w.heap.size A bs) (hl : bs.length ≤ 64)
    (hcm : w.cell? ⟨a, 2176, none⟩ = some (.map none)) :
    Calls Try.prog 19 #[.pointer (some ⟨a, 0, none⟩), .int .i64 (n : Int), .slice A bs.length c] w fun e w' => e = .returned (.int .i64 0) ∧ Goes w w' S a (d.write n bs) := by
  have HR := Lib.hid (refuses_any h)
  rw [hd] at HR
  have HN := Lib.hid (sector_any (n : Int) w)
  rw [decide_eq_true (by omega)] at HN
  have hl2 : ¬ (bs.length : Int) > 64 := by omega
  have hq := fun w => run_eql_map_nil_sl (P := Try.prog) w 57 _ _ none Try.underlying57
  have hmm := @run_makeMap Try.prog
  obtain ⟨m, hb0, hc0, _, hfr, hm⟩ := h.cells
  rw [hcm] at hc0
  cases hc0
  have h0 : ∀ n, n < 34 → d.cache n = [] := by
    rcases hm with ⟨_, h0⟩ | ⟨_, _, e, _⟩
    · exact h0
    · cases e
  have hlt0 := h.lt
  have hca : (w.alloc (.map #[] 0)).cell? ⟨a, 2176, none⟩ = some (.map none) := (World.cell?_of_block (w := w) (heap_alloc_old' w _ a hlt0)).trans hcm
  have hfa : (w.alloc (.map #[] 0)).frozen? ⟨a, 2176, none⟩ = false := (World.frozen?_of_block (w := w) (heap_alloc_old' w _ a hlt0)).trans (hfr 2176)
  obtain ⟨hmade, hcm1, hkept⟩ := Disk.made h hb0 h0
  have hbs : (Below w.heap.size w (w.alloc (.map #[] 0))) := (Below.refl _ w).alloc (Nat.le_refl _) _
  obtain ⟨W1, hW1⟩ : ∃ W1, W1 = (w.alloc (.map #[] 0)).setCell ⟨a, 2176, none⟩ (.map (some w.heap.size)) := ⟨_, rfl⟩
  rw [← hW1] at hmade hcm1 hkept
  have HW1 := Lib.hid (show W1 = (w.setCell ⟨a, 2176, none⟩ (.map (some w.heap.size))).alloc (.map #[] 0) by rw [hW1, World.setCell_alloc_past _ _ _ _ hlt0])
  have HA1 : By W1 W1.heap.size A bs := by
    have h1 := hA.below hbs (Nat.le_refl _)
    refine ⟨h1.1, fun hn' => ?_⟩
    obtain ⟨g, off, e, hg, hcell⟩ := h1.2 hn'
    refine ⟨g, off, e, Nat.lt_of_lt_of_le hg hkept.size, fun j hj => ?_⟩
    rw [hW1, cell_set_other _ _ _ _ _ _ (fun e2 => ?_)]
    · exact hcell j hj
    · have h3 := hcell j hj
      rw [e2.1, e2.2, hca] at h3
      cases h3
  have HTr := Lib.hid (show ∀ w6 d', Goes W1 w6 (fun k => S k ∨ k = w.heap.size) a d' → Goes w w6 S a d' from fun w6 d' ⟨S', hd', hk', hs'⟩ => ⟨S', hd', hkept.trans hk' (fun i hi hS' => by
      rcases hS' with h1 | h1
      · exact h1
      · omega), fun k hk => by
      rcases hs' k hk with h1 | h1
      · rcases h1 with h2 | h2
        · exact Or.inl h2
        · exact Or.inr (by omega)
      · exact Or.inr (Nat.le_trans hkept.size h1)⟩)
  have hk : (d.cache n).length ≤ 1000000000 := by rw [h0 n hn]; simp
  have hlt := hmade.lt
  have hsz1 := hkept.size
  obtain ⟨Z, hZ, hz⟩ : ∃ Z : List Value, (Try.prog.info? 55).map (·.zero) = some (some (.agg Z.toArray)) ∧ Z = vals (List.replicate 64 0) := ⟨_, sector_zero, rfl⟩
  have HZ := Lib.hid hZ
  have HD := Lib.hid hmade
  have HA := Lib.hid HA1
  have H0 := Lib.hid (heap_alloc_new W1 (.cells Z.toArray 55))
  have B0 := Lib.hid ((Below.refl W1.heap.size W1).alloc (Nat.le_refl _) (.cells Z.toArray 55))
  have A0 := Lib.hid (HA1.below B0.out (Nat.le_refl _)).src
  have HC := Lib.hid (show splice Z 0 (vals bs) = vals (padded bs) by rw [hz]; exact padded_splice hl)
  have HP := Lib.hid (padded_sec hl hA.1)
  have HL := Lib.hid (show (vals bs).length ≤ Z.length by rw [hz, vals_length, vals_length]; simp; omega)
  have HK := Lib.hid hk
  have n1 := vals_length bs
  clear h hd hZ hA hz hk hm hb0 hfr hbs HA1 hkept hmade hW1
  go_enter Try.func19, Try.ntmps19
  go_wp2_with fail
  refine HR.out.mono ?_
  rintro e w' ⟨rfl, rfl⟩
  go_wp2_with fail
  refine HN.out.mono ?_
  rintro e w' ⟨rfl, rfl⟩
  go_wp2_with (first
    | (rw [← HW1.out]; refine wpList_alloc_any rfl 55 rfl Z.toArray HZ.out ?_)
    | (with_reducible refine wpList_copy_splice rfl (.tmp 31) (.tmp 32) 44 44 rfl 5 Try.underlying44 size_u8 _ _ _ _ _ _ rfl rfl W1.heap.size 0 Z 55 H0.out (vals bs) (by rw [n1]; exact (Nat.min_eq_left hl).symm) (fun h => ⟨rfl, A0.out h⟩) (by have := HL.out; omega) vals_one W1.heap.size _ B0.out (Nat.le_refl _) ?_; intro w3 hg3 hb3; rw [HC.out] at hg3; replace hb3 := Lib.hid hb3))
  obtain ⟨i0, hi, hz0, hz1, hz2⟩ := info_parts Try.info55
  generalize hbw : w'.heap.size = b at hcm1 HW1
  obtain ⟨m, hb0, hc0, _, _, hm⟩ := HD.out.cells
  rw [hcm1] at hc0
  cases hc0
  rcases hm with ⟨e, _⟩ | ⟨b', V, e, hS, hM, hV⟩
  · cases e
  cases e
  have hM0 := hM
  obtain ⟨D, hown, hk1, hD⟩ := hM
  have hb3d : Below W1.heap.size W1 w3.drew := hb3.out.drew
  have hg3d : w3.drew.heap[W1.heap.size]? = some (.cells (vals (padded bs)).toArray 55 (0, 0)) := hg3.out
  refine wp_region_held_drew (S := fun W => W.cell? ⟨a, 2176, none⟩ = some (.map (some b)) ∧ W.heap[W1.heap.size]? = some (.cells (vals (padded bs)).toArray 55 (0, 0))) (by kernel_rfl) ⟨(hb3d.cell HD.out.lt).trans hcm1, hg3d⟩ (fun hHeld => ?_)
  generalize w3.drew = W3 at hb3d hg3d hHeld ⊢
  have HL3 := Lib.hid ((hM0.keep (hb3d.block b (HD.out.old b hS))).look hn)
  have HBS := Lib.hid (run_buildSlice_one (P := Try.prog) W3 91 55 i0 _ 64 Try.underlying91 hi hz0 hz1 (by omega) (by omega) (vals (padded bs)) (by rw [vals_length, HP.out.1]))
  have H4 := Lib.hid (hb3d.alloc hb3d.size (.cells (vals (padded bs)).toArray 55))
  have HL4 := Lib.hid ((hM0.keep (H4.out.block b (HD.out.old b hS))).look hn)
  have HO4 := Lib.hid (owns_keep (hV.own n hn) fun g hg => H4.out.block g (HD.out.old g (hV.mine n g hn hg)))
  have HM4 := Lib.hid (hown.kept (below_grown H4.out) (by simp))
  have HNB := Lib.hid (show some b ≠ (V n).ownBlock from fun e => hV.ne_map hM0 hn e.symm rfl)
  have HSZ := Lib.hid (show (W3.alloc (.cells (vals (padded bs)).toArray 55)).heap.size = W3.heap.size + 1 by simp)
  have HS4 := Lib.hid (show (W3.alloc (.cells (vals (padded bs)).toArray 55)).cell? ⟨a, 2176, none⟩ = some (.map (some b)) ∧ (W3.alloc (.cells (vals (padded bs)).toArray 55)).heap[W1.heap.size]? = some (.cells (vals (padded bs)).toArray 55 (0, 0)) from
    ⟨(H4.out.cell HD.out.lt).trans hcm1, (heap_alloc_old' _ _ _ (lt_of_heap hg3d)).trans hg3d⟩)
  have HNA := Lib.hid (show some a ≠ (V n).ownBlock from fun e => hV.ne_disk hb0 hn e.symm rfl)
  have HNL := Lib.hid (show some W1.heap.size ≠ (V n).ownBlock from fun e => by have := HD.out.old _ (hV.mine n _ hn e.symm); omega)
  have HNM := Lib.hid (show a ≠ b ∧ W1.heap.size ≠ b from ⟨fun e => hM0.ne_cells hb0 e.symm, fun e => by have := HD.out.old b hS; omega⟩)
  have HLT := Lib.hid (show a < (W3.alloc (.cells (vals (padded bs)).toArray 55)).heap.size ∧ W1.heap.size < (W3.alloc (.cells (vals (padded bs)).toArray 55)).heap.size from by
    have := HD.out.lt
    have h2 := hb3d.size
    rw [HSZ.out]; omega)
  have HS5 := Lib.hid (show ∀ w5, (W3.alloc (.cells (vals (padded bs)).toArray 55)).grownBy w5 (V n).ownBlock → w5.cell? ⟨a, 2176, none⟩ = some (.map (some b)) ∧ w5.heap[W1.heap.size]? = some (.cells (vals (padded bs)).toArray 55 (0, 0)) from fun w5 h =>
    ⟨(World.cell?_of_block (w := W3.alloc (.cells (vals (padded bs)).toArray 55)) (h.block a HLT.out.1 HNA.out)).trans HS4.out.1, (h.block _ HLT.out.2 HNL.out).trans HS4.out.2⟩)
  have HS6 := Lib.hid (show ∀ w5 w6, (W3.alloc (.cells (vals (padded bs)).toArray 55)).grownBy w5 (V n).ownBlock → w5.grownBy w6 (some b) → w6.cell? ⟨a, 2176, none⟩ = some (.map (some b)) ∧ w6.heap[W1.heap.size]? = some (.cells (vals (padded bs)).toArray 55 (0, 0)) from fun w5 w6 h h' =>
    ⟨(World.cell?_of_block (w := w5) (h'.block a (Nat.lt_of_lt_of_le HLT.out.1 h.size) (fun e => HNM.out.1 (by cases e; rfl)))).trans (HS5.out w5 h).1, (h'.block _ (Nat.lt_of_lt_of_le HLT.out.2 h.size) (fun e => HNM.out.2 (by cases e; rfl))).trans (HS5.out w5 h).2⟩)
  simp only [Act.put, List.setIfInBounds_toArray, List.set_cons_succ, List.set_cons_zero]
  refine wpAnyH_take (i := 0) (v := ?_) rfl (by kernel_rfl) (by kernel_rfl) (by kernel_rfl) (fun _ _ _ h => h) (Or.inl ⟨by rfl, ?_⟩) (by assumption) ?_
  rotate_left
  · simp only [List.getElem_toArray, List.getElem_cons_zero, List.getElem_cons_succ]; intro W hSw; (try dsimp only at hSw); go_simp; all_goals with_reducible rfl
  simp only [Act.put, List.getElem_toArray, List.getElem_cons_zero, List.getElem_cons_succ, List.setIfInBounds_toArray, List.set_cons_zero, List.set_cons_succ]
  refine wpAnyH_take (i := 1) (v := ?_) rfl (by kernel_rfl) (by kernel_rfl) (by kernel_rfl) (fun _ _ _ h => h) (Or.inl ⟨by rfl, ?_⟩) (by assumption) ?_
  rotate_left
  · simp only [List.getElem_toArray, List.getElem_cons_zero, List.getElem_cons_succ]; intro W hSw; (try dsimp only at hSw); go_simp; all_goals with_reducible rfl
  simp only [Act.put, List.getElem_toArray, List.getElem_cons_zero, List.getElem_cons_succ, List.setIfInBounds_toArray, List.set_cons_zero, List.set_cons_succ]
  refine wpAnyH_take (i := 2) (v := ?_) rfl (by kernel_rfl) (by kernel_rfl) (by kernel_rfl) (fun _ _ _ h => h) (Or.inl ⟨by rfl, ?_⟩) (by assumption) ?_
  rotate_left
  · simp only [List.getElem_toArray, List.getElem_cons_zero, List.getElem_cons_succ]; intro W hSw; (try dsimp only at hSw); go_simp; all_goals with_reducible rfl
  simp only [Act.put, List.getElem_toArray, List.getElem_cons_zero, List.getElem_cons_succ, List.setIfInBounds_toArray, List.set_cons_zero, List.set_cons_succ]
  refine wpAnyH_take (i := 3) (v := ?_) rfl (by kernel_rfl) (by kernel_rfl) (by kernel_rfl) (fun _ _ _ h => h) (Or.inl ⟨by rfl, ?_⟩) (by assumption) ?_
  rotate_left
  · simp only [List.getElem_toArray, List.getElem_cons_zero, List.getElem_cons_succ]; intro W hSw; (try dsimp only at hSw); go_simp; all_goals with_reducible rfl
  simp only [Act.put, List.getElem_toArray, List.getElem_cons_zero, List.getElem_cons_succ, List.setIfInBounds_toArray, List.set_cons_zero, List.set_cons_succ]
  refine wpAnyH_take (i := 4) (v := ?_) rfl (by kernel_rfl) (by kernel_rfl) (by kernel_rfl) (fun _ _ _ h => h) (Or.inl ⟨by rfl, ?_⟩) (by assumption) ?_
  rotate_left
  · simp only [List.getElem_toArray, List.getElem_cons_zero, List.getElem_cons_succ]; intro W hSw; (try dsimp only at hSw); go_simp; all_goals with_reducible rfl
  simp only [Act.put, List.getElem_toArray, List.getElem_cons_zero, List.getElem_cons_succ, List.setIfInBounds_toArray, List.set_cons_zero, List.set_cons_succ]
  refine wpAnyH_take (i := 5) (v := ?_) rfl (by kernel_rfl) (by kernel_rfl) (by kernel_rfl) (fun _ _ _ h => h) (Or.inl ⟨by rfl, ?_⟩) (by assumption) ?_
  rotate_left
  · simp only [List.getElem_toArray, List.getElem_cons_zero, List.getElem_cons_succ]; intro W hSw; (try dsimp only at hSw); go_simp; all_goals with_reducible rfl
  simp only [Act.put, List.getElem_toArray, List.getElem_cons_zero, List.getElem_cons_succ, List.setIfInBounds_toArray, List.set_cons_zero, List.set_cons_succ]
  refine wpAnyH_take (i := 6) (v := ?_) rfl (by kernel_rfl) (by kernel_rfl) (by kernel_rfl) (fun _ _ _ h => h) (Or.inl ⟨by rfl, ?_⟩) (by assumption) ?_
  rotate_left
  · simp only [List.getElem_toArray, List.getElem_cons_zero, List.getElem_cons_succ]; intro W hSw; (try dsimp only at hSw); go_simp; all_goals with_reducible rfl
  simp only [Act.put, List.getElem_toArray, List.getElem_cons_zero, List.getElem_cons_succ, List.setIfInBounds_toArray, List.set_cons_zero, List.set_cons_succ]
  refine wpAnyH_take (i := 7) (v := ?_) rfl (by kernel_rfl) (by kernel_rfl) (by kernel_rfl) (fun _ _ _ h => h) (Or.inl ⟨by rfl, ?_⟩) (by assumption) ?_
  rotate_left
  · simp only [List.getElem_toArray, List.getElem_cons_zero, List.getElem_cons_succ]; intro W hSw; (try dsimp only at hSw); go_simp; all_goals with_reducible rfl
  simp only [Act.put, List.getElem_toArray, List.getElem_cons_zero, List.getElem_cons_succ, List.setIfInBounds_toArray, List.set_cons_zero, List.set_cons_succ]
  refine wpAnyH_take (i := 8) (v := ?_) rfl (by kernel_rfl) (by kernel_rfl) (by kernel_rfl) (fun _ _ _ h => h) (Or.inl ⟨by rfl, ?_⟩) (by assumption) ?_
  rotate_left
  · simp only [List.getElem_toArray, List.getElem_cons_zero, List.getElem_cons_succ]; intro W hSw; (try dsimp only at hSw); go_simp; all_goals with_reducible rfl
  simp only [Act.put, List.getElem_toArray, List.getElem_cons_zero, List.getElem_cons_succ, List.setIfInBounds_toArray, List.set_cons_zero, List.set_cons_succ]
  refine wpAnyH_take (i := 9) (v := ?_) rfl (by kernel_rfl) (by kernel_rfl) (by kernel_rfl) (fun _ _ _ h => h) (Or.inl ⟨by rfl, ?_⟩) (by assumption) ?_
  rotate_left
  · simp only [List.getElem_toArray, List.getElem_cons_zero, List.getElem_cons_succ]; intro W hSw; (try dsimp only at hSw); go_simp; all_goals with_reducible rfl
  simp only [Act.put, List.getElem_toArray, List.getElem_cons_zero, List.getElem_cons_succ, List.setIfInBounds_toArray, List.set_cons_zero, List.set_cons_succ]
  refine wpAnyH_take (i := 11) (v := ?_) rfl (by kernel_rfl) (by kernel_rfl) (by kernel_rfl) (fun _ _ _ h => h) (Or.inl ⟨by rfl, ?_⟩) (by assumption) ?_
  rotate_left
  · simp only [List.getElem_toArray, List.getElem_cons_zero, List.getElem_cons_succ]
    intro W hSw
    refine exec_load_part 55 (.tmp 8) ?_ W1.heap.size 0 ?_ (vals (padded bs)) _ (row_cells hSw.2 (fun j u hu => by rw [Nat.zero_add]; exact hu)) Try.underlying55 rfl (sector_info _ HP.out.1)
    · rfl
    · rfl
  simp only [Act.put, List.getElem_toArray, List.getElem_cons_zero, List.getElem_cons_succ, List.setIfInBounds_toArray, List.set_cons_zero, List.set_cons_succ]
  refine wpAnyH_ready (rs := [10, 12]) (by kernel_rfl) (by simp) ?_
  refine AllReadyH.cons rfl (fun K hK => ?_) (AllReadyH.cons rfl (fun K hK => ?_) AllReadyH.nil)
  all_goals try simp only [List.getElem_toArray, List.getElem_cons_zero, List.getElem_cons_succ]
  · rw [if_pos]
    rotate_left
    · simp [Region.wanted]
    refine wp_value (v := V n) (w' := W3) (by simp [execOp, Act.eval, HL3.out, Result.andThen]) ?_
    refine hK.out _ _ hHeld (fun hHeld2 => ?_)
    clear hK K
    (try simp only [Act.put, List.getElem_toArray, List.getElem_cons_zero, List.getElem_cons_succ, List.setIfInBounds_toArray, List.set_cons_zero, List.set_cons_succ])
    refine wpAnyH_ready (rs := [12]) (by kernel_rfl) (by simp) ?_
    refine AllReadyH.cons rfl (fun K hK => ?_) AllReadyH.nil
    simp only [List.getElem_toArray, List.getElem_cons_zero, List.getElem_cons_succ]
    rw [if_pos]
    rotate_left
    · simp [Region.wanted]
    refine wp_value (v := .slice (some ⟨W3.heap.size, 0, none⟩) 1 1) (w' := (W3.alloc (.cells (vals (padded bs)).toArray 55))) (by simp [execOp, Act.eval, HBS.out, Result.andThen]) ?_
    refine hK.out _ _ HS4.out (fun hHeld3 => ?_)
    clear hK K
    (try simp only [Act.put, List.getElem_toArray, List.getElem_cons_zero, List.getElem_cons_succ, List.setIfInBounds_toArray, List.set_cons_zero, List.set_cons_succ])
    refine wpAnyH_ready (rs := [13]) (by kernel_rfl) (by simp) ?_
    refine AllReadyH.cons rfl (fun K hK => ?_) AllReadyH.nil
    simp only [List.getElem_toArray, List.getElem_cons_zero, List.getElem_cons_succ]
    rw [if_pos]
    rotate_left
    · simp [Region.wanted]
    refine wp_append_lies _ (.tmp 44) (.tmp 46) 91 rfl 0 55 i0 _ 64 64 Try.underlying91 hi hz0 hz1 hz2 (by simp [Value.cells]) (by omega) (V n) (d.cache n).length (vals (d.cache n).flatten) rfl HO4.out ⟨W3.heap.size, 0, none⟩ 1 1 (vals (padded bs)) rfl (by rw [vals_length, HP.out.1]) (new_cells rfl) vals_one (by omega) (by have := HK.out; unfold maxLen; omega) (by have := HK.out; omega) (Nat.zero_le _) _ rfl ?_
    intro g cap w5 hrow5 hgr5 hor5 hlt5
    refine hK.out _ _ (HS5.out w5 hgr5) (fun hHeld8 => ?_)
    clear hK K
    (try simp only [Act.put, List.getElem_toArray, List.getElem_cons_zero, List.getElem_cons_succ, List.setIfInBounds_toArray, List.set_cons_zero, List.set_cons_succ])
    refine wpAnyH_ready (rs := [14]) (by kernel_rfl) (by simp) ?_
    refine AllReadyH.cons rfl (fun K hK => ?_) AllReadyH.nil
    simp only [List.getElem_toArray, List.getElem_cons_zero, List.getElem_cons_succ]
    rw [if_pos]
    rotate_left
    · simp [Region.wanted]
    obtain ⟨w6, hrun6, hown6, hgr6⟩ := (HM4.out.kept hgr5 HNB.out).update (Maps.int_keyed Try.underlying3) Try.underlying57 (by unfold maxLen; omega) (keyOf_int_mk Try.underlying3 (WalkArith.wf_i64 (n := (n : Int)) (by omega))) (val := .slice (some ⟨g, 0, none⟩) ((d.cache n).length + 1) cap) (d := .held (.slice (some ⟨g, 0, none⟩) ((d.cache n).length + 1) cap)) (ps := []) rfl
    have HG := Lib.hid (HTr.out _ _ <| Disk.appended HD.out hn HP.out hb0 hS hown hk1 hD hV H4.out hgr5 hrow5 (hor5.imp id (fun e => by have := hb3d.size; have := HSZ.out; omega)) hlt5 hgr6 hown6)
    have hS6 := HS6.out w5 w6 hgr5 hgr6
    refine wp_mapUpdate 57 (.tmp 37) (.tmp 38) (.tmp 47) rfl _ _ _ rfl rfl rfl hrun6 ?_
    refine hK.out _ _ hS6 (fun hHeld9 => ?_)
    clear hK K
    (try simp only [Act.put, List.getElem_toArray, List.getElem_cons_zero, List.getElem_cons_succ, List.setIfInBounds_toArray, List.set_cons_zero, List.set_cons_succ])
    refine wpAnyH_done (by kernel_rfl) ?_ _
    clear hrow5 hgr5 hrun6 hown6 hgr6 hor5 hlt5 hS6 hHeld8 hHeld9
    go_wp2
    go_ret
    exact ⟨rfl, HG.out⟩
  · rw [if_pos]
    rotate_left
    · simp [Region.wanted]
    refine wp_value (v := .slice (some ⟨W3.heap.size, 0, none⟩) 1 1) (w' := (W3.alloc (.cells (vals (padded bs)).toArray 55))) (by simp [execOp, Act.eval, HBS.out, Result.andThen]) ?_
    refine hK.out _ _ HS4.out (fun hHeld2 => ?_)
    clear hK K
    (try simp only [Act.put, List.getElem_toArray, List.getElem_cons_zero, List.getElem_cons_succ, List.setIfInBounds_toArray, List.set_cons_zero, List.set_cons_succ])
    refine wpAnyH_ready (rs := [10]) (by kernel_rfl) (by simp) ?_
    refine AllReadyH.cons rfl (fun K hK => ?_) AllReadyH.nil
    simp only [List.getElem_toArray, List.getElem_cons_zero, List.getElem_cons_succ]
    rw [if_pos]
    rotate_left
    · simp [Region.wanted]
    refine wp_value (v := V n) (w' := (W3.alloc (.cells (vals (padded bs)).toArray 55))) (by simp [execOp, Act.eval, HL4.out, Result.andThen]) ?_
    refine hK.out _ _ HS4.out (fun hHeld3 => ?_)
    clear hK K
    (try simp only [Act.put, List.getElem_toArray, List.getElem_cons_zero, List.getElem_cons_succ, List.setIfInBounds_toArray, List.set_cons_zero, List.set_cons_succ])
    refine wpAnyH_ready (rs := [13]) (by kernel_rfl) (by simp) ?_
    refine AllReadyH.cons rfl (fun K hK => ?_) AllReadyH.nil
    simp only [List.getElem_toArray, List.getElem_cons_zero, List.getElem_cons_succ]
    rw [if_pos]
    rotate_left
    · simp [Region.wanted]
    refine wp_append_lies _ (.tmp 44) (.tmp 46) 91 rfl 0 55 i0 _ 64 64 Try.underlying91 hi hz0 hz1 hz2 (by simp [Value.cells]) (by omega) (V n) (d.cache n).length (vals (d.cache n).flatten) rfl HO4.out ⟨W3.heap.size, 0, none⟩ 1 1 (vals (padded bs)) rfl (by rw [vals_length, HP.out.1]) (new_cells rfl) vals_one (by omega) (by have := HK.out; unfold maxLen; omega) (by have := HK.out; omega) (Nat.zero_le _) _ rfl ?_
    intro g cap w5 hrow5 hgr5 hor5 hlt5
    refine hK.out _ _ (HS5.out w5 hgr5) (fun hHeld8 => ?_)
    clear hK K
    (try simp only [Act.put, List.getElem_toArray, List.getElem_cons_zero, List.getElem_cons_succ, List.setIfInBounds_toArray, List.set_cons_zero, List.set_cons_succ])
    refine wpAnyH_ready (rs := [14]) (by kernel_rfl) (by simp) ?_
    refine AllReadyH.cons rfl (fun K hK => ?_) AllReadyH.nil
    simp only [List.getElem_toArray, List.getElem_cons_zero, List.getElem_cons_succ]
    rw [if_pos]
    rotate_left
    · simp [Region.wanted]
    obtain ⟨w6, hrun6, hown6, hgr6⟩ := (HM4.out.kept hgr5 HNB.out).update (Maps.int_keyed Try.underlying3) Try.underlying57 (by unfold maxLen; omega) (keyOf_int_mk Try.underlying3 (WalkArith.wf_i64 (n := (n : Int)) (by omega))) (val := .slice (some ⟨g, 0, none⟩) ((d.cache n).length + 1) cap) (d := .held (.slice (some ⟨g, 0, none⟩) ((d.cache n).length + 1) cap)) (ps := []) rfl
    have HG := Lib.hid (HTr.out _ _ <| Disk.appended HD.out hn HP.out hb0 hS hown hk1 hD hV H4.out hgr5 hrow5 (hor5.imp id (fun e => by have := hb3d.size; have := HSZ.out; omega)) hlt5 hgr6 hown6)
    have hS6 := HS6.out w5 w6 hgr5 hgr6
    refine wp_mapUpdate 57 (.tmp 37) (.tmp 38) (.tmp 47) rfl _ _ _ rfl rfl rfl hrun6 ?_
    refine hK.out _ _ hS6 (fun hHeld9 => ?_)
    clear hK K
    (try simp only [Act.put, List.getElem_toArray, List.getElem_cons_zero, List.getElem_cons_succ, List.setIfInBounds_toArray, List.set_cons_zero, List.set_cons_succ])
    refine wpAnyH_done (by kernel_rfl) ?_ _
    clear hrow5 hgr5 hrun6 hown6 hgr6 hor5 hlt5 hS6 hHeld8 hHeld9
    go_wp2
    go_ret
    exact ⟨rfl, HG.out⟩

theorem write_ok {w : World} {S : Nat → Prop} {a : Nat} {d : Dk} (h : Disk w S a d) (hd : d.down = false) {n : Nat} (hn : n < 34) {A : Option Addr} {bs : List Nat} {c : Nat} (hA : By w w.heap.size A bs) (hl : bs.length ≤ 64) (hk : (d.cache n).length ≤ 1000000000) :
    Calls Try.prog 19 #[.pointer (some ⟨a, 0, none⟩), .int .i64 (n : Int), .slice A bs.length c] w fun e w' => e = .returned (.int .i64 0) ∧ Goes w w' S a (d.write n bs) := by
  obtain ⟨m, _, hc, _, _, _⟩ := h.cells
  cases m with
  | none => exact write_first h hd hn hA hl hc
  | some b => exact write_go h hd hn hA hl hk hc
/-- what Write answers -/
def Dk.wcode (d : Dk) (z : Int) (l : Nat) : Int := if d.down then 30 else if 0 ≤ z ∧ z < 34 ∧ l ≤ 64 then 0 else 2
/-- what Write does -/
def Dk.wrote (d : Dk) (z : Int) (bs : List Nat) : Dk := if d.wcode z bs.length = 0 then d.write z.toNat bs else d
theorem write_any {w : World} {S : Nat → Prop} {a : Nat} {d : Dk} (h : Disk w S a d) (z : Int) {A : Option Addr} {bs : List Nat} {c : Nat} (hA : By w w.heap.size A bs) (hl : bs.length ≤ maxLen) (hk : ∀ n, n < 34 → (d.cache n).length ≤ 1000000000) :
    Calls Try.prog 19 #[.pointer (some ⟨a, 0, none⟩), .int .i64 z, .slice A bs.length c] w fun e w' => e = .returned (.int .i64 (d.wcode z bs.length)) ∧ Goes w w' S a (d.wrote z bs) := by
  unfold Dk.wrote Dk.wcode
  cases hd : d.down with
  | true =>
    refine (write_down h hd z A bs.length c).mono ?_
    rintro e w' ⟨rfl, rfl⟩
    exact ⟨rfl, Goes.same h (Below.refl _ _)⟩
  | false =>
    by_cases hz : 0 ≤ z ∧ z < 34 ∧ bs.length ≤ 64
    · obtain ⟨n, rfl⟩ : ∃ n : Nat, z = (n : Int) := ⟨z.toNat, by omega⟩
      refine (write_ok h hd (n := n) (by omega) hA hz.2.2 (hk n (by omega))).mono ?_
      rintro e w' ⟨rfl, hg⟩
      simpa [hz] using hg
    · refine (write_arg h hd z A bs.length c hl hz).mono ?_
      rintro e w' ⟨rfl, rfl⟩
      simpa [hz] using Goes.same h (Below.refl _ _)
end Go.Proofs.Ytgkbhdecohlpmaa.Dk
