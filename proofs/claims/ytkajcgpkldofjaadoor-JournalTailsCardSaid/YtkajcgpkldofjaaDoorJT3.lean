/-
  Texts DkWrite, DkClone, DkRounds, DkInRound, DkEach, DkCrash, Jn, Rowed, RgRing, RgLog, RgEach, RgTake, Says, joined.
-/
import Derived.Shelf.SlMaps.Clone
import Derived.Lib.BufferMore
import Derived.RangeFuncNested
import Derived.RangeFuncBound
import Derived.RangeFuncLeaves
import Derived.Shelf.Abstract
import Derived.OwnWalkIn
import Derived.TacticsInMore
import Derived.LoopNIn
import Derived.LoopIn
import Derived.Deep.RegionHeld3
import Derived.Deep.DeepCutAuto
import Derived.Test.YtkajcgpkldofjaaDoorRows
import Derived.WalkKit
import Derived.WalkLawsBesides
import Derived.WalkSpells
import Derived.Lib.Hide
import Derived.RangeFuncCalls
import Derived.RangeFuncBox
import Derived.Maps.AppendAt
import Derived.Laws.MakeOwn
import Derived.Laws.CopyOwn
import Derived.Test.YtkajcgpkldofjaaDoorJT2
set_option linter.all false
section
/-
  Write: one more write of a sector.
-/
namespace Go.Proofs.YtkajcgpkldofjaaDoor.Dk
set_option maxRecDepth 100000
open Go.RowKit Go.Maps Go.MapKept Go.ChangeMaps

def Dk.write (d : Dk) (n : Nat) (bs : List Nat) : Dk := { d with cache := upd d.cache n (d.cache n ++ [padded bs]) }
theorem write_nil (z : Int) (A : Option Addr) (l c : Nat) (w : World) : Calls Tryd.prog 45 #[.pointer none, .int .i64 z, .slice A l c] w fun e w' => e = .returned (.int .i64 1) ∧ w' = w := by
  go_enter Tryd.func45, Tryd.ntmps45
  go_wp2_with fail
  refine (refuses_nil w).mono ?_
  rintro e w' ⟨rfl, rfl⟩
  go_wp2
  go_ret
  exact ⟨rfl, rfl⟩
theorem write_down {w : World} {S : Nat → Prop} {a : Nat} {d : Dk} (h : Disk w S a d) (hd : d.down = true) (z : Int) (A : Option Addr) (l c : Nat) :
    Calls Tryd.prog 45 #[.pointer (some ⟨a, 0, none⟩), .int .i64 z, .slice A l c] w fun e w' => e = .returned (.int .i64 30) ∧ w' = w := by
  have HR := Lib.hid (refuses_any h)
  rw [hd] at HR
  clear h hd
  go_enter Tryd.func45, Tryd.ntmps45
  go_wp2_with fail
  refine HR.out.mono ?_
  rintro e w' ⟨rfl, rfl⟩
  go_wp2
  go_ret
  exact ⟨rfl, rfl⟩
theorem write_arg {w : World} {S : Nat → Prop} {a : Nat} {d : Dk} (h : Disk w S a d) (hd : d.down = false) (z : Int) (A : Option Addr) (l c : Nat) (hl : l ≤ maxLen) (hz : ¬ (0 ≤ z ∧ z < 34 ∧ l ≤ 64)) :
    Calls Tryd.prog 45 #[.pointer (some ⟨a, 0, none⟩), .int .i64 z, .slice A l c] w fun e w' => e = .returned (.int .i64 2) ∧ w' = w := by
  have HR := Lib.hid (refuses_any h)
  rw [hd] at HR
  clear h hd
  unfold maxLen at hl
  by_cases hs : 0 ≤ z ∧ z < 34
  · have HN := Lib.hid (sector_any z w)
    rw [decide_eq_true hs] at HN
    have hl2 : (l : Int) > 64 := by omega
    clear hz hs
    go_enter Tryd.func45, Tryd.ntmps45
    go_wp2_with fail
    refine HR.out.mono ?_
    rintro e w' ⟨rfl, rfl⟩
    go_wp2_with fail
    refine HN.out.mono ?_
    rintro e w' ⟨rfl, rfl⟩
    go_wp2
    go_ret
    exact ⟨rfl, rfl⟩
  · have HN := Lib.hid (sector_any z w)
    rw [decide_eq_false hs] at HN
    clear hz hs
    go_enter Tryd.func45, Tryd.ntmps45
    go_wp2_with fail
    refine HR.out.mono ?_
    rintro e w' ⟨rfl, rfl⟩
    go_wp2_with fail
    refine HN.out.mono ?_
    rintro e w' ⟨rfl, rfl⟩
    go_wp2
    go_ret
    exact ⟨rfl, rfl⟩

/-- A disk that has got a map. -/
theorem Disk.made {w : World} {S : Nat → Prop} {a : Nat} {d : Dk} (h : Disk w S a d) (hb : w.heap[a]? = some (.cells (rowD d.dur none d.down).toArray 75 (0, 0))) (h0 : ∀ n, n < 34 → d.cache n = []) :
    Disk ((w.alloc (.map #[] 0)).setCell ⟨a, 2176, none⟩ (.map (some w.heap.size))) (fun k => S k ∨ k = w.heap.size) a d ∧ ((w.alloc (.map #[] 0)).setCell ⟨a, 2176, none⟩ (.map (some w.heap.size))).cell? ⟨a, 2176, none⟩ = some (.map (some w.heap.size)) ∧
      Kept S w ((w.alloc (.map #[] 0)).setCell ⟨a, 2176, none⟩ (.map (some w.heap.size))) := by
  have hlt := h.lt
  have hb1 := (Below.heap_alloc w (.map #[] 0) a hlt).trans hb
  have hg := grown_setCell (w.alloc (.map #[] 0)) a 2176 (.map (some w.heap.size))
  have hrow := heap_setCell_same (w.alloc (.map #[] 0)) a 2176 _ _ (.map (some w.heap.size)) hb1
  rw [rowD_setMap h.secs] at hrow
  refine ⟨⟨Or.inl h.mine, fun k hk => ?_, h.secs, h.puts, some w.heap.size, hrow, Or.inr ⟨w.heap.size, fun _ => nilS, rfl, Or.inr rfl, ?_, ?_⟩⟩, ?_, ((Kept.refl S w).alloc _).grown hg (fun k e _ => by cases e; exact h.mine)⟩
  · refine Nat.lt_of_lt_of_le ?_ hg.size
    rcases hk with hk | hk
    · have := h.old k hk; simp; omega
    · simp; omega
  · have := mapped_empty (w := (w.alloc (.map #[] 0)).setCell ⟨a, 2176, none⟩ (.map (some w.heap.size))) (b := w.heap.size) (clock := 0) ((heap_setCell_other _ _ _ _ (by simp; omega)).trans (heap_alloc_new w _))
    obtain ⟨D, hown, h1, h2⟩ := this
    exact ⟨D, hown, h1, fun n hn => by rw [h0 n hn]; exact h2 n hn⟩
  · have := slots_empty ((w.alloc (.map #[] 0)).setCell ⟨a, 2176, none⟩ (.map (some w.heap.size))) (fun k => S k ∨ k = w.heap.size)
    exact ⟨fun n hn => by rw [h0 n hn]; exact this.own n hn, this.mine, this.apart⟩
  · rw [cell_of_row _ a 2176 _ _ _ hrow]
    simpa using rowD_map h.secs (some w.heap.size) d.down
theorem exec_load_part {P : Program} {ρ : Operand → Value} {o : Oper} {w : World} (ty : TypeId) (x : Operand) (ho : o.op = .load ty x) (g off : Nat) (hx : ρ x = .pointer (some ⟨g, off, none⟩)) (xs : List Value) (d : TypeDesc)
    (hc : ∀ j u, xs[j]? = some u → w.cell? ⟨g, off + j, none⟩ = some u) (hu : P.underlying ty = some d) (hd : (match d with | .struct _ | .array _ _ => true | _ => false) = true) (hi : (P.info? ty).map (·.size) = some xs.length) :
    (execOp ρ o).run P w = .ok (.value (.agg xs.toArray)) w := by
  unfold execOp
  simp only [ho, hx, Instr.loadAt, Instr.sureAddr, Sem.run_bind, Sem.run_pure, Result.andThen_ok, run_load_part w g off ty xs d hc hu hd hi]

theorem cell_set_other (w : World) (g j a n : Nat) (v : Value) (h : ¬ (g = a ∧ j = n)) : (w.setCell ⟨a, n, none⟩ v).cell? ⟨g, j, none⟩ = w.cell? ⟨g, j, none⟩ :=
  World.cell?_setCells_out a [v] n w ⟨g, j, none⟩ (fun e _ => by
    have e' : g = a := e
    show j < n ∨ n + 1 ≤ j
    omega)
theorem lt_of_heap {w : World} {k : Nat} {o : Obj} (h : w.heap[k]? = some o) : k < w.heap.size := (Array.getElem?_eq_some_iff.1 h).1
theorem heap_alloc_old' (w : World) (o : Obj) (k : Nat) (h : k < w.heap.size) : (w.alloc o).heap[k]? = w.heap[k]? := Below.heap_alloc w o k h
/-- a sector with bytes in front -/
theorem padded_splice {bs : List Nat} (hl : bs.length ≤ 64) : splice (vals (List.replicate 64 0)) 0 (vals bs) = vals (padded bs) := by
  unfold splice padded
  rw [vals_append]
  simp only [List.take_zero, List.nil_append, Nat.zero_add, vals_length]
  congr 1
  unfold vals
  rw [List.map_replicate, List.map_replicate, List.drop_replicate]
theorem size_u8 : (Tryd.prog.info? 5).map (·.size) = some 1 := by kernel_rfl

set_option maxHeartbeats 1000000 in
theorem write_go {w : World} {S : Nat → Prop} {a : Nat} {d : Dk} (h : Disk w S a d) (hd : d.down = false) {n : Nat} (hn : n < 34) {A : Option Addr} {bs : List Nat} {c : Nat} (hA : By w w.heap.size A bs) (hl : bs.length ≤ 64) (hk : (d.cache n).length ≤ 1000000000) {b : Nat}
    (hcm : w.cell? ⟨a, 2176, none⟩ = some (.map (some b))) :
    Calls Tryd.prog 45 #[.pointer (some ⟨a, 0, none⟩), .int .i64 (n : Int), .slice A bs.length c] w fun e w' => e = .returned (.int .i64 0) ∧ Goes w w' S a (d.write n bs) := by
  have HR := Lib.hid (refuses_any h)
  rw [hd] at HR
  have HN := Lib.hid (sector_any (n : Int) w)
  rw [decide_eq_true (by omega)] at HN
  have hl2 : ¬ (bs.length : Int) > 64 := by omega
  have hq := fun w => run_eql_map_nil_sl (P := Tryd.prog) w 73 _ _ (some b) Tryd.underlying73
  obtain ⟨Z, hZ, hz⟩ : ∃ Z : List Value, (Tryd.prog.info? 71).map (·.zero) = some (some (.agg Z.toArray)) ∧ Z = vals (List.replicate 64 0) := ⟨_, sector_zero, rfl⟩
  have HZ := Lib.hid hZ
  have HD := Lib.hid h
  have HA := Lib.hid hA
  have H0 := Lib.hid (heap_alloc_new w (.cells Z.toArray 71))
  have B0 := Lib.hid ((Below.refl w.heap.size w).alloc (Nat.le_refl _) (.cells Z.toArray 71))
  have A0 := Lib.hid (hA.below B0.out (Nat.le_refl _)).src
  have HC := Lib.hid (show splice Z 0 (vals bs) = vals (padded bs) by rw [hz]; exact padded_splice hl)
  have HP := Lib.hid (padded_sec hl hA.1)
  have HL := Lib.hid (show (vals bs).length ≤ Z.length by rw [hz, vals_length, vals_length]; simp; omega)
  have HK := Lib.hid hk
  have hlt := h.lt
  have n1 := vals_length bs
  clear h hd hZ hA hz hk
  go_enter Tryd.func45, Tryd.ntmps45
  go_wp2_with fail
  refine HR.out.mono ?_
  rintro e w' ⟨rfl, rfl⟩
  go_wp2_with fail
  refine HN.out.mono ?_
  rintro e w' ⟨rfl, rfl⟩
  go_wp2_with (first
    | (refine wpList_alloc_any rfl 71 rfl Z.toArray HZ.out ?_)
    | (with_reducible refine wpList_copy_splice rfl (.tmp 31) (.tmp 32) 24 24 rfl 5 Tryd.underlying24 size_u8 _ _ _ _ _ _ rfl rfl w'.heap.size 0 Z 71 H0.out (vals bs) (by rw [n1]; exact (Nat.min_eq_left hl).symm) (fun h => ⟨rfl, A0.out h⟩) (by have := HL.out; omega) vals_one w'.heap.size _ B0.out (Nat.le_refl _) ?_; intro w3 hg3 hb3; rw [HC.out] at hg3; replace hb3 := Lib.hid hb3))
  obtain ⟨i0, hi, hz0, hz1, hz2⟩ := info_parts Tryd.info71
  obtain ⟨m, hb0, hc0, _, _, hm⟩ := HD.out.cells
  rw [hcm] at hc0
  cases hc0
  rcases hm with ⟨e, _⟩ | ⟨b', V, e, hS, hM, hV⟩
  · cases e
  cases e
  have hM0 := hM
  obtain ⟨D, hown, hk1, hD⟩ := hM
  have hb3d : Below w'.heap.size w' w3.drew := hb3.out.drew
  have hg3d : w3.drew.heap[w'.heap.size]? = some (.cells (vals (padded bs)).toArray 71 (0, 0)) := hg3.out
  refine wp_region_held_drew (S := fun W => W.cell? ⟨a, 2176, none⟩ = some (.map (some b)) ∧ W.heap[w'.heap.size]? = some (.cells (vals (padded bs)).toArray 71 (0, 0))) (by kernel_rfl) ⟨(hb3d.cell HD.out.lt).trans hcm, hg3d⟩ (fun hHeld => ?_)
  generalize w3.drew = W3 at hb3d hg3d hHeld ⊢
  have HL3 := Lib.hid ((hM0.keep (hb3d.block b (HD.out.old b hS))).look hn)
  have HBS := Lib.hid (run_buildSlice_one (P := Tryd.prog) W3 110 71 i0 _ 64 Tryd.underlying110 hi hz0 hz1 (by omega) (by omega) (vals (padded bs)) (by rw [vals_length, HP.out.1]))
  have H4 := Lib.hid (hb3d.alloc hb3d.size (.cells (vals (padded bs)).toArray 71))
  have HL4 := Lib.hid ((hM0.keep (H4.out.block b (HD.out.old b hS))).look hn)
  have HO4 := Lib.hid (owns_keep (hV.own n hn) fun g hg => H4.out.block g (HD.out.old g (hV.mine n g hn hg)))
  have HM4 := Lib.hid (hown.kept (below_grown H4.out) (by simp))
  have HNB := Lib.hid (show some b ≠ (V n).ownBlock from fun e => hV.ne_map hM0 hn e.symm rfl)
  have HSZ := Lib.hid (show (W3.alloc (.cells (vals (padded bs)).toArray 71)).heap.size = W3.heap.size + 1 by simp)
  have HS4 := Lib.hid (show (W3.alloc (.cells (vals (padded bs)).toArray 71)).cell? ⟨a, 2176, none⟩ = some (.map (some b)) ∧ (W3.alloc (.cells (vals (padded bs)).toArray 71)).heap[w'.heap.size]? = some (.cells (vals (padded bs)).toArray 71 (0, 0)) from
    ⟨(H4.out.cell HD.out.lt).trans hcm, (heap_alloc_old' _ _ _ (lt_of_heap hg3d)).trans hg3d⟩)
  have HNA := Lib.hid (show some a ≠ (V n).ownBlock from fun e => hV.ne_disk hb0 hn e.symm rfl)
  have HNL := Lib.hid (show some w'.heap.size ≠ (V n).ownBlock from fun e => by have := HD.out.old _ (hV.mine n _ hn e.symm); omega)
  have HNM := Lib.hid (show a ≠ b ∧ w'.heap.size ≠ b from ⟨fun e => hM0.ne_cells hb0 e.symm, fun e => by have := HD.out.old b hS; omega⟩)
  have HLT := Lib.hid (show a < (W3.alloc (.cells (vals (padded bs)).toArray 71)).heap.size ∧ w'.heap.size < (W3.alloc (.cells (vals (padded bs)).toArray 71)).heap.size from by
    have := HD.out.lt
    have h2 := hb3d.size
    rw [HSZ.out]; omega)
  have HS5 := Lib.hid (show ∀ w5, (W3.alloc (.cells (vals (padded bs)).toArray 71)).grownBy w5 (V n).ownBlock → w5.cell? ⟨a, 2176, none⟩ = some (.map (some b)) ∧ w5.heap[w'.heap.size]? = some (.cells (vals (padded bs)).toArray 71 (0, 0)) from fun w5 h =>
    ⟨(World.cell?_of_block (w := W3.alloc (.cells (vals (padded bs)).toArray 71)) (h.block a HLT.out.1 HNA.out)).trans HS4.out.1, (h.block _ HLT.out.2 HNL.out).trans HS4.out.2⟩)
  have HS6 := Lib.hid (show ∀ w5 w6, (W3.alloc (.cells (vals (padded bs)).toArray 71)).grownBy w5 (V n).ownBlock → w5.grownBy w6 (some b) → w6.cell? ⟨a, 2176, none⟩ = some (.map (some b)) ∧ w6.heap[w'.heap.size]? = some (.cells (vals (padded bs)).toArray 71 (0, 0)) from fun w5 w6 h h' =>
    ⟨(World.cell?_of_block (w := w5) (h'.block a (Nat.lt_of_lt_of_le HLT.out.1 h.size) (fun e => HNM.out.1 (by cases e; rfl)))).trans (HS5.out w5 h).1, (h'.block _ (Nat.lt_of_lt_of_le HLT.out.2 h.size) (fun e => HNM.out.2 (by cases e; rfl))).trans (HS5.out w5 h).2⟩)
  simp only [Act.put, List.setIfInBounds_toArray, List.set_cons_succ, List.set_cons_zero]
  refine wpAnyH_take (i := 0) (v := ?_) rfl (by kernel_rfl) (by kernel_rfl) (by kernel_rfl) (fun _ _ _ h => h) (Or.inl ⟨by rfl, ?_⟩) (by assumption) ?_
  rotate_left
  · simp only [List.getElem_toArray, List.getElem_cons_zero, List.getElem_cons_succ]; intro W hSw; (try dsimp only at hSw); go_simp; all_goals with_reducible rfl
  simp only [Act.put, List.getElem_toArray, List.getElem_cons_zero, List.getElem_cons_succ, List.setIfInBounds_toArray, List.set_cons_zero, List.set_cons_succ]
  refine wpAnyH_take (i := 1) (v := ?_) rfl (by kernel_rfl) (by kernel_rfl) (by kernel_rfl) (fun _ _ _ h => h) (Or.inl ⟨by rfl, ?_⟩) (by assumption) ?_
  rotate_left
  · simp only [List.getElem_toArray, List.getElem_cons_zero, List.getElem_cons_succ]; intro W hSw; (try dsimp only at hSw); go_simp; all_goals with_reducible rfl
  simp only [Act.put, List.getElem_toArray, List.getElem_cons_zero, List.getElem_cons_succ, List.setIfInBounds_toArray, List.set_cons_zero, List.set_cons_succ]
  refine wpAnyH_take (i := 2) (v := ?_) rfl (by kernel_rfl) (by kernel_rfl) (by kernel_rfl) (fun _ _ _ h => h) (Or.inl ⟨by rfl, ?_⟩) (by assumption) ?_
  rotate_left
  · simp only [List.getElem_toArray, List.getElem_cons_zero, List.getElem_cons_succ]; intro W hSw; (try dsimp only at hSw); go_simp; all_goals with_reducible rfl
  simp only [Act.put, List.getElem_toArray, List.getElem_cons_zero, List.getElem_cons_succ, List.setIfInBounds_toArray, List.set_cons_zero, List.set_cons_succ]
  refine wpAnyH_take (i := 3) (v := ?_) rfl (by kernel_rfl) (by kernel_rfl) (by kernel_rfl) (fun _ _ _ h => h) (Or.inl ⟨by rfl, ?_⟩) (by assumption) ?_
  rotate_left
  · simp only [List.getElem_toArray, List.getElem_cons_zero, List.getElem_cons_succ]; intro W hSw; (try dsimp only at hSw); go_simp; all_goals with_reducible rfl
  simp only [Act.put, List.getElem_toArray, List.getElem_cons_zero, List.getElem_cons_succ, List.setIfInBounds_toArray, List.set_cons_zero, List.set_cons_succ]
  refine wpAnyH_take (i := 4) (v := ?_) rfl (by kernel_rfl) (by kernel_rfl) (by kernel_rfl) (fun _ _ _ h => h) (Or.inl ⟨by rfl, ?_⟩) (by assumption) ?_
  rotate_left
  · simp only [List.getElem_toArray, List.getElem_cons_zero, List.getElem_cons_succ]; intro W hSw; (try dsimp only at hSw); go_simp; all_goals with_reducible rfl
  simp only [Act.put, List.getElem_toArray, List.getElem_cons_zero, List.getElem_cons_succ, List.setIfInBounds_toArray, List.set_cons_zero, List.set_cons_succ]
  refine wpAnyH_take (i := 5) (v := ?_) rfl (by kernel_rfl) (by kernel_rfl) (by kernel_rfl) (fun _ _ _ h => h) (Or.inl ⟨by rfl, ?_⟩) (by assumption) ?_
  rotate_left
  · simp only [List.getElem_toArray, List.getElem_cons_zero, List.getElem_cons_succ]; intro W hSw; (try dsimp only at hSw); go_simp; all_goals with_reducible rfl
  simp only [Act.put, List.getElem_toArray, List.getElem_cons_zero, List.getElem_cons_succ, List.setIfInBounds_toArray, List.set_cons_zero, List.set_cons_succ]
  refine wpAnyH_take (i := 6) (v := ?_) rfl (by kernel_rfl) (by kernel_rfl) (by kernel_rfl) (fun _ _ _ h => h) (Or.inl ⟨by rfl, ?_⟩) (by assumption) ?_
  rotate_left
  · simp only [List.getElem_toArray, List.getElem_cons_zero, List.getElem_cons_succ]; intro W hSw; (try dsimp only at hSw); go_simp; all_goals with_reducible rfl
  simp only [Act.put, List.getElem_toArray, List.getElem_cons_zero, List.getElem_cons_succ, List.setIfInBounds_toArray, List.set_cons_zero, List.set_cons_succ]
  refine wpAnyH_take (i := 7) (v := ?_) rfl (by kernel_rfl) (by kernel_rfl) (by kernel_rfl) (fun _ _ _ h => h) (Or.inl ⟨by rfl, ?_⟩) (by assumption) ?_
  rotate_left
  · simp only [List.getElem_toArray, List.getElem_cons_zero, List.getElem_cons_succ]; intro W hSw; (try dsimp only at hSw); go_simp; all_goals with_reducible rfl
  simp only [Act.put, List.getElem_toArray, List.getElem_cons_zero, List.getElem_cons_succ, List.setIfInBounds_toArray, List.set_cons_zero, List.set_cons_succ]
  refine wpAnyH_take (i := 8) (v := ?_) rfl (by kernel_rfl) (by kernel_rfl) (by kernel_rfl) (fun _ _ _ h => h) (Or.inl ⟨by rfl, ?_⟩) (by assumption) ?_
  rotate_left
  · simp only [List.getElem_toArray, List.getElem_cons_zero, List.getElem_cons_succ]; intro W hSw; (try dsimp only at hSw); go_simp; all_goals with_reducible rfl
  simp only [Act.put, List.getElem_toArray, List.getElem_cons_zero, List.getElem_cons_succ, List.setIfInBounds_toArray, List.set_cons_zero, List.set_cons_succ]
  refine wpAnyH_take (i := 9) (v := ?_) rfl (by kernel_rfl) (by kernel_rfl) (by kernel_rfl) (fun _ _ _ h => h) (Or.inl ⟨by rfl, ?_⟩) (by assumption) ?_
  rotate_left
  · simp only [List.getElem_toArray, List.getElem_cons_zero, List.getElem_cons_succ]; intro W hSw; (try dsimp only at hSw); go_simp; all_goals with_reducible rfl
  simp only [Act.put, List.getElem_toArray, List.getElem_cons_zero, List.getElem_cons_succ, List.setIfInBounds_toArray, List.set_cons_zero, List.set_cons_succ]
  refine wpAnyH_take (i := 11) (v := ?_) rfl (by kernel_rfl) (by kernel_rfl) (by kernel_rfl) (fun _ _ _ h => h) (Or.inl ⟨by rfl, ?_⟩) (by assumption) ?_
  rotate_left
  · simp only [List.getElem_toArray, List.getElem_cons_zero, List.getElem_cons_succ]
    intro W hSw
    refine exec_load_part 71 (.tmp 8) ?_ w'.heap.size 0 ?_ (vals (padded bs)) _ (row_cells hSw.2 (fun j u hu => by rw [Nat.zero_add]; exact hu)) Tryd.underlying71 rfl (sector_info _ HP.out.1)
    · rfl
    · rfl
  simp only [Act.put, List.getElem_toArray, List.getElem_cons_zero, List.getElem_cons_succ, List.setIfInBounds_toArray, List.set_cons_zero, List.set_cons_succ]
  refine wpAnyH_ready (rs := [10, 12]) (by kernel_rfl) (by simp) ?_
  refine AllReadyH.cons rfl (fun K hK => ?_) (AllReadyH.cons rfl (fun K hK => ?_) AllReadyH.nil)
  all_goals try simp only [List.getElem_toArray, List.getElem_cons_zero, List.getElem_cons_succ]
  · rw [if_pos]
    rotate_left
    · simp [Region.wanted]
    refine wp_value (v := V n) (w' := W3) (by simp [execOp, Act.eval, HL3.out, Result.andThen]) ?_
    refine hK.out _ _ hHeld (fun hHeld2 => ?_)
    clear hK K
    (try simp only [Act.put, List.getElem_toArray, List.getElem_cons_zero, List.getElem_cons_succ, List.setIfInBounds_toArray, List.set_cons_zero, List.set_cons_succ])
    refine wpAnyH_ready (rs := [12]) (by kernel_rfl) (by simp) ?_
    refine AllReadyH.cons rfl (fun K hK => ?_) AllReadyH.nil
    simp only [List.getElem_toArray, List.getElem_cons_zero, List.getElem_cons_succ]
    rw [if_pos]
    rotate_left
    · simp [Region.wanted]
    refine wp_value (v := .slice (some ⟨W3.heap.size, 0, none⟩) 1 1) (w' := (W3.alloc (.cells (vals (padded bs)).toArray 71))) (by simp [execOp, Act.eval, HBS.out, Result.andThen]) ?_
    refine hK.out _ _ HS4.out (fun hHeld3 => ?_)
    clear hK K
    (try simp only [Act.put, List.getElem_toArray, List.getElem_cons_zero, List.getElem_cons_succ, List.setIfInBounds_toArray, List.set_cons_zero, List.set_cons_succ])
    refine wpAnyH_ready (rs := [13]) (by kernel_rfl) (by simp) ?_
    refine AllReadyH.cons rfl (fun K hK => ?_) AllReadyH.nil
    simp only [List.getElem_toArray, List.getElem_cons_zero, List.getElem_cons_succ]
    rw [if_pos]
    rotate_left
    · simp [Region.wanted]
    refine wp_append_lies _ (.tmp 44) (.tmp 46) 110 rfl 0 71 i0 _ 64 64 Tryd.underlying110 hi hz0 hz1 hz2 (by simp [Value.cells]) (by omega) (V n) (d.cache n).length (vals (d.cache n).flatten) rfl HO4.out ⟨W3.heap.size, 0, none⟩ 1 1 (vals (padded bs)) rfl (by rw [vals_length, HP.out.1]) (new_cells rfl) vals_one (by omega) (by have := HK.out; unfold maxLen; omega) (by have := HK.out; omega) (Nat.zero_le _) _ rfl ?_
    intro g cap w5 hrow5 hgr5 hor5 hlt5
    refine hK.out _ _ (HS5.out w5 hgr5) (fun hHeld8 => ?_)
    clear hK K
    (try simp only [Act.put, List.getElem_toArray, List.getElem_cons_zero, List.getElem_cons_succ, List.setIfInBounds_toArray, List.set_cons_zero, List.set_cons_succ])
    refine wpAnyH_ready (rs := [14]) (by kernel_rfl) (by simp) ?_
    refine AllReadyH.cons rfl (fun K hK => ?_) AllReadyH.nil
    simp only [List.getElem_toArray, List.getElem_cons_zero, List.getElem_cons_succ]
    rw [if_pos]
    rotate_left
    · simp [Region.wanted]
    obtain ⟨w6, hrun6, hown6, hgr6⟩ := (HM4.out.kept hgr5 HNB.out).update (Maps.int_keyed Tryd.underlying3) Tryd.underlying73 (by unfold maxLen; omega) (keyOf_int_mk Tryd.underlying3 (WalkArith.wf_i64 (n := (n : Int)) (by omega))) (val := .slice (some ⟨g, 0, none⟩) ((d.cache n).length + 1) cap) (d := .held (.slice (some ⟨g, 0, none⟩) ((d.cache n).length + 1) cap)) (ps := []) rfl
    have HG := Lib.hid (Disk.appended HD.out hn HP.out hb0 hS hown hk1 hD hV H4.out hgr5 hrow5 (hor5.imp id (fun e => by have := hb3d.size; have := HSZ.out; omega)) hlt5 hgr6 hown6)
    have hS6 := HS6.out w5 w6 hgr5 hgr6
    refine wp_mapUpdate 73 (.tmp 37) (.tmp 38) (.tmp 47) rfl _ _ _ rfl rfl rfl hrun6 ?_
    refine hK.out _ _ hS6 (fun hHeld9 => ?_)
    clear hK K
    (try simp only [Act.put, List.getElem_toArray, List.getElem_cons_zero, List.getElem_cons_succ, List.setIfInBounds_toArray, List.set_cons_zero, List.set_cons_succ])
    refine wpAnyH_done (by kernel_rfl) ?_ _
    clear hrow5 hgr5 hrun6 hown6 hgr6 hor5 hlt5 hS6 hHeld8 hHeld9
    go_wp2
    go_ret
    exact ⟨rfl, HG.out⟩
  · rw [if_pos]
    rotate_left
    · simp [Region.wanted]
    refine wp_value (v := .slice (some ⟨W3.heap.size, 0, none⟩) 1 1) (w' := (W3.alloc (.cells (vals (padded bs)).toArray 71))) (by simp [execOp, Act.eval, HBS.out, Result.andThen]) ?_
    refine hK.out _ _ HS4.out (fun hHeld2 => ?_)
    clear hK K
    (try simp only [Act.put, List.getElem_toArray, List.getElem_cons_zero, List.getElem_cons_succ, List.setIfInBounds_toArray, List.set_cons_zero, List.set_cons_succ])
    refine wpAnyH_ready (rs := [10]) (by kernel_rfl) (by simp) ?_
    refine AllReadyH.cons rfl (fun K hK => ?_) AllReadyH.nil
    simp only [List.getElem_toArray, List.getElem_cons_zero, List.getElem_cons_succ]
    rw [if_pos]
    rotate_left
    · simp [Region.wanted]
    refine wp_value (v := V n) (w' := (W3.alloc (.cells (vals (padded bs)).toArray 71))) (by simp [execOp, Act.eval, HL4.out, Result.andThen]) ?_
    refine hK.out _ _ HS4.out (fun hHeld3 => ?_)
    clear hK K
    (try simp only [Act.put, List.getElem_toArray, List.getElem_cons_zero, List.getElem_cons_succ, List.setIfInBounds_toArray, List.set_cons_zero, List.set_cons_succ])
    refine wpAnyH_ready (rs := [13]) (by kernel_rfl) (by simp) ?_
    refine AllReadyH.cons rfl (fun K hK => ?_) AllReadyH.nil
    simp only [List.getElem_toArray, List.getElem_cons_zero, List.getElem_cons_succ]
    rw [if_pos]
    rotate_left
    · simp [Region.wanted]
    refine wp_append_lies _ (.tmp 44) (.tmp 46) 110 rfl 0 71 i0 _ 64 64 Tryd.underlying110 hi hz0 hz1 hz2 (by simp [Value.cells]) (by omega) (V n) (d.cache n).length (vals (d.cache n).flatten) rfl HO4.out ⟨W3.heap.size, 0, none⟩ 1 1 (vals (padded bs)) rfl (by rw [vals_length, HP.out.1]) (new_cells rfl) vals_one (by omega) (by have := HK.out; unfold maxLen; omega) (by have := HK.out; omega) (Nat.zero_le _) _ rfl ?_
    intro g cap w5 hrow5 hgr5 hor5 hlt5
    refine hK.out _ _ (HS5.out w5 hgr5) (fun hHeld8 => ?_)
    clear hK K
    (try simp only [Act.put, List.getElem_toArray, List.getElem_cons_zero, List.getElem_cons_succ, List.setIfInBounds_toArray, List.set_cons_zero, List.set_cons_succ])
    refine wpAnyH_ready (rs := [14]) (by kernel_rfl) (by simp) ?_
    refine AllReadyH.cons rfl (fun K hK => ?_) AllReadyH.nil
    simp only [List.getElem_toArray, List.getElem_cons_zero, List.getElem_cons_succ]
    rw [if_pos]
    rotate_left
    · simp [Region.wanted]
    obtain ⟨w6, hrun6, hown6, hgr6⟩ := (HM4.out.kept hgr5 HNB.out).update (Maps.int_keyed Tryd.underlying3) Tryd.underlying73 (by unfold maxLen; omega) (keyOf_int_mk Tryd.underlying3 (WalkArith.wf_i64 (n := (n : Int)) (by omega))) (val := .slice (some ⟨g, 0, none⟩) ((d.cache n).length + 1) cap) (d := .held (.slice (some ⟨g, 0, none⟩) ((d.cache n).length + 1) cap)) (ps := []) rfl
    have HG := Lib.hid (Disk.appended HD.out hn HP.out hb0 hS hown hk1 hD hV H4.out hgr5 hrow5 (hor5.imp id (fun e => by have := hb3d.size; have := HSZ.out; omega)) hlt5 hgr6 hown6)
    have hS6 := HS6.out w5 w6 hgr5 hgr6
    refine wp_mapUpdate 73 (.tmp 37) (.tmp 38) (.tmp 47) rfl _ _ _ rfl rfl rfl hrun6 ?_
    refine hK.out _ _ hS6 (fun hHeld9 => ?_)
    clear hK K
    (try simp only [Act.put, List.getElem_toArray, List.getElem_cons_zero, List.getElem_cons_succ, List.setIfInBounds_toArray, List.set_cons_zero, List.set_cons_succ])
    refine wpAnyH_done (by kernel_rfl) ?_ _
    clear hrow5 hgr5 hrun6 hown6 hgr6 hor5 hlt5 hS6 hHeld8 hHeld9
    go_wp2
    go_ret
    exact ⟨rfl, HG.out⟩

set_option maxHeartbeats 1000000 in
theorem write_first {w : World} {S : Nat → Prop} {a : Nat} {d : Dk} (h : Disk w S a d) (hd : d.down = false) {n : Nat} (hn : n < 34) {A : Option Addr} {bs : List Nat} {c : Nat} (hA : By w w.heap.size A bs) (hl : bs.length ≤ 64)
    (hcm : w.cell? ⟨a, 2176, none⟩ = some (.map none)) :
    Calls Tryd.prog 45 #[.pointer (some ⟨a, 0, none⟩), .int .i64 (n : Int), .slice A bs.length c] w fun e w' => e = .returned (.int .i64 0) ∧ Goes w w' S a (d.write n bs) := by
  have HR := Lib.hid (refuses_any h)
  rw [hd] at HR
  have HN := Lib.hid (sector_any (n : Int) w)
  rw [decide_eq_true (by omega)] at HN
  have hl2 : ¬ (bs.length : Int) > 64 := by omega
  have hq := fun w => run_eql_map_nil_sl (P := Tryd.prog) w 73 _ _ none Tryd.underlying73
  have hmm := @run_makeMap Tryd.prog
  obtain ⟨m, hb0, hc0, _, hfr, hm⟩ := h.cells
  rw [hcm] at hc0
  cases hc0
  have h0 : ∀ n, n < 34 → d.cache n = [] := by
    rcases hm with ⟨_, h0⟩ | ⟨_, _, e, _⟩
    · exact h0
    · cases e
  have hlt0 := h.lt
  have hca : (w.alloc (.map #[] 0)).cell? ⟨a, 2176, none⟩ = some (.map none) := (World.cell?_of_block (w := w) (heap_alloc_old' w _ a hlt0)).trans hcm
  have hfa : (w.alloc (.map #[] 0)).frozen? ⟨a, 2176, none⟩ = false := (World.frozen?_of_block (w := w) (heap_alloc_old' w _ a hlt0)).trans (hfr 2176)
  obtain ⟨hmade, hcm1, hkept⟩ := Disk.made h hb0 h0
  have hbs : (Below w.heap.size w (w.alloc (.map #[] 0))) := (Below.refl _ w).alloc (Nat.le_refl _) _
  obtain ⟨W1, hW1⟩ : ∃ W1, W1 = (w.alloc (.map #[] 0)).setCell ⟨a, 2176, none⟩ (.map (some w.heap.size)) := ⟨_, rfl⟩
  rw [← hW1] at hmade hcm1 hkept
  have HW1 := Lib.hid (show W1 = (w.setCell ⟨a, 2176, none⟩ (.map (some w.heap.size))).alloc (.map #[] 0) by rw [hW1, World.setCell_alloc_past _ _ _ _ hlt0])
  have HA1 : By W1 W1.heap.size A bs := by
    have h1 := hA.below hbs (Nat.le_refl _)
    refine ⟨h1.1, fun hn' => ?_⟩
    obtain ⟨g, off, e, hg, hcell⟩ := h1.2 hn'
    refine ⟨g, off, e, Nat.lt_of_lt_of_le hg hkept.size, fun j hj => ?_⟩
    rw [hW1, cell_set_other _ _ _ _ _ _ (fun e2 => ?_)]
    · exact hcell j hj
    · have h3 := hcell j hj
      rw [e2.1, e2.2, hca] at h3
      cases h3
  have HTr := Lib.hid (show ∀ w6 d', Goes W1 w6 (fun k => S k ∨ k = w.heap.size) a d' → Goes w w6 S a d' from fun w6 d' ⟨S', hd', hk', hs'⟩ => ⟨S', hd', hkept.trans hk' (fun i hi hS' => by
      rcases hS' with h1 | h1
      · exact h1
      · omega), fun k hk => by
      rcases hs' k hk with h1 | h1
      · rcases h1 with h2 | h2
        · exact Or.inl h2
        · exact Or.inr (by omega)
      · exact Or.inr (Nat.le_trans hkept.size h1)⟩)
  have hk : (d.cache n).length ≤ 1000000000 := by rw [h0 n hn]; simp
  have hlt := hmade.lt
  have hsz1 := hkept.size
  obtain ⟨Z, hZ, hz⟩ : ∃ Z : List Value, (Tryd.prog.info? 71).map (·.zero) = some (some (.agg Z.toArray)) ∧ Z = vals (List.replicate 64 0) := ⟨_, sector_zero, rfl⟩
  have HZ := Lib.hid hZ
  have HD := Lib.hid hmade
  have HA := Lib.hid HA1
  have H0 := Lib.hid (heap_alloc_new W1 (.cells Z.toArray 71))
  have B0 := Lib.hid ((Below.refl W1.heap.size W1).alloc (Nat.le_refl _) (.cells Z.toArray 71))
  have A0 := Lib.hid (HA1.below B0.out (Nat.le_refl _)).src
  have HC := Lib.hid (show splice Z 0 (vals bs) = vals (padded bs) by rw [hz]; exact padded_splice hl)
  have HP := Lib.hid (padded_sec hl hA.1)
  have HL := Lib.hid (show (vals bs).length ≤ Z.length by rw [hz, vals_length, vals_length]; simp; omega)
  have HK := Lib.hid hk
  have n1 := vals_length bs
  clear h hd hZ hA hz hk hm hb0 hfr hbs HA1 hkept hmade hW1
  go_enter Tryd.func45, Tryd.ntmps45
  go_wp2_with fail
  refine HR.out.mono ?_
  rintro e w' ⟨rfl, rfl⟩
  go_wp2_with fail
  refine HN.out.mono ?_
  rintro e w' ⟨rfl, rfl⟩
  go_wp2_with (first
    | (rw [← HW1.out]; refine wpList_alloc_any rfl 71 rfl Z.toArray HZ.out ?_)
    | (with_reducible refine wpList_copy_splice rfl (.tmp 31) (.tmp 32) 24 24 rfl 5 Tryd.underlying24 size_u8 _ _ _ _ _ _ rfl rfl W1.heap.size 0 Z 71 H0.out (vals bs) (by rw [n1]; exact (Nat.min_eq_left hl).symm) (fun h => ⟨rfl, A0.out h⟩) (by have := HL.out; omega) vals_one W1.heap.size _ B0.out (Nat.le_refl _) ?_; intro w3 hg3 hb3; rw [HC.out] at hg3; replace hb3 := Lib.hid hb3))
  obtain ⟨i0, hi, hz0, hz1, hz2⟩ := info_parts Tryd.info71
  generalize hbw : w'.heap.size = b at hcm1 HW1
  obtain ⟨m, hb0, hc0, _, _, hm⟩ := HD.out.cells
  rw [hcm1] at hc0
  cases hc0
  rcases hm with ⟨e, _⟩ | ⟨b', V, e, hS, hM, hV⟩
  · cases e
  cases e
  have hM0 := hM
  obtain ⟨D, hown, hk1, hD⟩ := hM
  have hb3d : Below W1.heap.size W1 w3.drew := hb3.out.drew
  have hg3d : w3.drew.heap[W1.heap.size]? = some (.cells (vals (padded bs)).toArray 71 (0, 0)) := hg3.out
  refine wp_region_held_drew (S := fun W => W.cell? ⟨a, 2176, none⟩ = some (.map (some b)) ∧ W.heap[W1.heap.size]? = some (.cells (vals (padded bs)).toArray 71 (0, 0))) (by kernel_rfl) ⟨(hb3d.cell HD.out.lt).trans hcm1, hg3d⟩ (fun hHeld => ?_)
  generalize w3.drew = W3 at hb3d hg3d hHeld ⊢
  have HL3 := Lib.hid ((hM0.keep (hb3d.block b (HD.out.old b hS))).look hn)
  have HBS := Lib.hid (run_buildSlice_one (P := Tryd.prog) W3 110 71 i0 _ 64 Tryd.underlying110 hi hz0 hz1 (by omega) (by omega) (vals (padded bs)) (by rw [vals_length, HP.out.1]))
  have H4 := Lib.hid (hb3d.alloc hb3d.size (.cells (vals (padded bs)).toArray 71))
  have HL4 := Lib.hid ((hM0.keep (H4.out.block b (HD.out.old b hS))).look hn)
  have HO4 := Lib.hid (owns_keep (hV.own n hn) fun g hg => H4.out.block g (HD.out.old g (hV.mine n g hn hg)))
  have HM4 := Lib.hid (hown.kept (below_grown H4.out) (by simp))
  have HNB := Lib.hid (show some b ≠ (V n).ownBlock from fun e => hV.ne_map hM0 hn e.symm rfl)
  have HSZ := Lib.hid (show (W3.alloc (.cells (vals (padded bs)).toArray 71)).heap.size = W3.heap.size + 1 by simp)
  have HS4 := Lib.hid (show (W3.alloc (.cells (vals (padded bs)).toArray 71)).cell? ⟨a, 2176, none⟩ = some (.map (some b)) ∧ (W3.alloc (.cells (vals (padded bs)).toArray 71)).heap[W1.heap.size]? = some (.cells (vals (padded bs)).toArray 71 (0, 0)) from
    ⟨(H4.out.cell HD.out.lt).trans hcm1, (heap_alloc_old' _ _ _ (lt_of_heap hg3d)).trans hg3d⟩)
  have HNA := Lib.hid (show some a ≠ (V n).ownBlock from fun e => hV.ne_disk hb0 hn e.symm rfl)
  have HNL := Lib.hid (show some W1.heap.size ≠ (V n).ownBlock from fun e => by have := HD.out.old _ (hV.mine n _ hn e.symm); omega)
  have HNM := Lib.hid (show a ≠ b ∧ W1.heap.size ≠ b from ⟨fun e => hM0.ne_cells hb0 e.symm, fun e => by have := HD.out.old b hS; omega⟩)
  have HLT := Lib.hid (show a < (W3.alloc (.cells (vals (padded bs)).toArray 71)).heap.size ∧ W1.heap.size < (W3.alloc (.cells (vals (padded bs)).toArray 71)).heap.size from by
    have := HD.out.lt
    have h2 := hb3d.size
    rw [HSZ.out]; omega)
  have HS5 := Lib.hid (show ∀ w5, (W3.alloc (.cells (vals (padded bs)).toArray 71)).grownBy w5 (V n).ownBlock → w5.cell? ⟨a, 2176, none⟩ = some (.map (some b)) ∧ w5.heap[W1.heap.size]? = some (.cells (vals (padded bs)).toArray 71 (0, 0)) from fun w5 h =>
    ⟨(World.cell?_of_block (w := W3.alloc (.cells (vals (padded bs)).toArray 71)) (h.block a HLT.out.1 HNA.out)).trans HS4.out.1, (h.block _ HLT.out.2 HNL.out).trans HS4.out.2⟩)
  have HS6 := Lib.hid (show ∀ w5 w6, (W3.alloc (.cells (vals (padded bs)).toArray 71)).grownBy w5 (V n).ownBlock → w5.grownBy w6 (some b) → w6.cell? ⟨a, 2176, none⟩ = some (.map (some b)) ∧ w6.heap[W1.heap.size]? = some (.cells (vals (padded bs)).toArray 71 (0, 0)) from fun w5 w6 h h' =>
    ⟨(World.cell?_of_block (w := w5) (h'.block a (Nat.lt_of_lt_of_le HLT.out.1 h.size) (fun e => HNM.out.1 (by cases e; rfl)))).trans (HS5.out w5 h).1, (h'.block _ (Nat.lt_of_lt_of_le HLT.out.2 h.size) (fun e => HNM.out.2 (by cases e; rfl))).trans (HS5.out w5 h).2⟩)
  simp only [Act.put, List.setIfInBounds_toArray, List.set_cons_succ, List.set_cons_zero]
  refine wpAnyH_take (i := 0) (v := ?_) rfl (by kernel_rfl) (by kernel_rfl) (by kernel_rfl) (fun _ _ _ h => h) (Or.inl ⟨by rfl, ?_⟩) (by assumption) ?_
  rotate_left
  · simp only [List.getElem_toArray, List.getElem_cons_zero, List.getElem_cons_succ]; intro W hSw; (try dsimp only at hSw); go_simp; all_goals with_reducible rfl
  simp only [Act.put, List.getElem_toArray, List.getElem_cons_zero, List.getElem_cons_succ, List.setIfInBounds_toArray, List.set_cons_zero, List.set_cons_succ]
  refine wpAnyH_take (i := 1) (v := ?_) rfl (by kernel_rfl) (by kernel_rfl) (by kernel_rfl) (fun _ _ _ h => h) (Or.inl ⟨by rfl, ?_⟩) (by assumption) ?_
  rotate_left
  · simp only [List.getElem_toArray, List.getElem_cons_zero, List.getElem_cons_succ]; intro W hSw; (try dsimp only at hSw); go_simp; all_goals with_reducible rfl
  simp only [Act.put, List.getElem_toArray, List.getElem_cons_zero, List.getElem_cons_succ, List.setIfInBounds_toArray, List.set_cons_zero, List.set_cons_succ]
  refine wpAnyH_take (i := 2) (v := ?_) rfl (by kernel_rfl) (by kernel_rfl) (by kernel_rfl) (fun _ _ _ h => h) (Or.inl ⟨by rfl, ?_⟩) (by assumption) ?_
  rotate_left
  · simp only [List.getElem_toArray, List.getElem_cons_zero, List.getElem_cons_succ]; intro W hSw; (try dsimp only at hSw); go_simp; all_goals with_reducible rfl
  simp only [Act.put, List.getElem_toArray, List.getElem_cons_zero, List.getElem_cons_succ, List.setIfInBounds_toArray, List.set_cons_zero, List.set_cons_succ]
  refine wpAnyH_take (i := 3) (v := ?_) rfl (by kernel_rfl) (by kernel_rfl) (by kernel_rfl) (fun _ _ _ h => h) (Or.inl ⟨by rfl, ?_⟩) (by assumption) ?_
  rotate_left
  · simp only [List.getElem_toArray, List.getElem_cons_zero, List.getElem_cons_succ]; intro W hSw; (try dsimp only at hSw); go_simp; all_goals with_reducible rfl
  simp only [Act.put, List.getElem_toArray, List.getElem_cons_zero, List.getElem_cons_succ, List.setIfInBounds_toArray, List.set_cons_zero, List.set_cons_succ]
  refine wpAnyH_take (i := 4) (v := ?_) rfl (by kernel_rfl) (by kernel_rfl) (by kernel_rfl) (fun _ _ _ h => h) (Or.inl ⟨by rfl, ?_⟩) (by assumption) ?_
  rotate_left
  · simp only [List.getElem_toArray, List.getElem_cons_zero, List.getElem_cons_succ]; intro W hSw; (try dsimp only at hSw); go_simp; all_goals with_reducible rfl
  simp only [Act.put, List.getElem_toArray, List.getElem_cons_zero, List.getElem_cons_succ, List.setIfInBounds_toArray, List.set_cons_zero, List.set_cons_succ]
  refine wpAnyH_take (i := 5) (v := ?_) rfl (by kernel_rfl) (by kernel_rfl) (by kernel_rfl) (fun _ _ _ h => h) (Or.inl ⟨by rfl, ?_⟩) (by assumption) ?_
  rotate_left
  · simp only [List.getElem_toArray, List.getElem_cons_zero, List.getElem_cons_succ]; intro W hSw; (try dsimp only at hSw); go_simp; all_goals with_reducible rfl
  simp only [Act.put, List.getElem_toArray, List.getElem_cons_zero, List.getElem_cons_succ, List.setIfInBounds_toArray, List.set_cons_zero, List.set_cons_succ]
  refine wpAnyH_take (i := 6) (v := ?_) rfl (by kernel_rfl) (by kernel_rfl) (by kernel_rfl) (fun _ _ _ h => h) (Or.inl ⟨by rfl, ?_⟩) (by assumption) ?_
  rotate_left
  · simp only [List.getElem_toArray, List.getElem_cons_zero, List.getElem_cons_succ]; intro W hSw; (try dsimp only at hSw); go_simp; all_goals with_reducible rfl
  simp only [Act.put, List.getElem_toArray, List.getElem_cons_zero, List.getElem_cons_succ, List.setIfInBounds_toArray, List.set_cons_zero, List.set_cons_succ]
  refine wpAnyH_take (i := 7) (v := ?_) rfl (by kernel_rfl) (by kernel_rfl) (by kernel_rfl) (fun _ _ _ h => h) (Or.inl ⟨by rfl, ?_⟩) (by assumption) ?_
  rotate_left
  · simp only [List.getElem_toArray, List.getElem_cons_zero, List.getElem_cons_succ]; intro W hSw; (try dsimp only at hSw); go_simp; all_goals with_reducible rfl
  simp only [Act.put, List.getElem_toArray, List.getElem_cons_zero, List.getElem_cons_succ, List.setIfInBounds_toArray, List.set_cons_zero, List.set_cons_succ]
  refine wpAnyH_take (i := 8) (v := ?_) rfl (by kernel_rfl) (by kernel_rfl) (by kernel_rfl) (fun _ _ _ h => h) (Or.inl ⟨by rfl, ?_⟩) (by assumption) ?_
  rotate_left
  · simp only [List.getElem_toArray, List.getElem_cons_zero, List.getElem_cons_succ]; intro W hSw; (try dsimp only at hSw); go_simp; all_goals with_reducible rfl
  simp only [Act.put, List.getElem_toArray, List.getElem_cons_zero, List.getElem_cons_succ, List.setIfInBounds_toArray, List.set_cons_zero, List.set_cons_succ]
  refine wpAnyH_take (i := 9) (v := ?_) rfl (by kernel_rfl) (by kernel_rfl) (by kernel_rfl) (fun _ _ _ h => h) (Or.inl ⟨by rfl, ?_⟩) (by assumption) ?_
  rotate_left
  · simp only [List.getElem_toArray, List.getElem_cons_zero, List.getElem_cons_succ]; intro W hSw; (try dsimp only at hSw); go_simp; all_goals with_reducible rfl
  simp only [Act.put, List.getElem_toArray, List.getElem_cons_zero, List.getElem_cons_succ, List.setIfInBounds_toArray, List.set_cons_zero, List.set_cons_succ]
  refine wpAnyH_take (i := 11) (v := ?_) rfl (by kernel_rfl) (by kernel_rfl) (by kernel_rfl) (fun _ _ _ h => h) (Or.inl ⟨by rfl, ?_⟩) (by assumption) ?_
  rotate_left
  · simp only [List.getElem_toArray, List.getElem_cons_zero, List.getElem_cons_succ]
    intro W hSw
    refine exec_load_part 71 (.tmp 8) ?_ W1.heap.size 0 ?_ (vals (padded bs)) _ (row_cells hSw.2 (fun j u hu => by rw [Nat.zero_add]; exact hu)) Tryd.underlying71 rfl (sector_info _ HP.out.1)
    · rfl
    · rfl
  simp only [Act.put, List.getElem_toArray, List.getElem_cons_zero, List.getElem_cons_succ, List.setIfInBounds_toArray, List.set_cons_zero, List.set_cons_succ]
  refine wpAnyH_ready (rs := [10, 12]) (by kernel_rfl) (by simp) ?_
  refine AllReadyH.cons rfl (fun K hK => ?_) (AllReadyH.cons rfl (fun K hK => ?_) AllReadyH.nil)
  all_goals try simp only [List.getElem_toArray, List.getElem_cons_zero, List.getElem_cons_succ]
  · rw [if_pos]
    rotate_left
    · simp [Region.wanted]
    refine wp_value (v := V n) (w' := W3) (by simp [execOp, Act.eval, HL3.out, Result.andThen]) ?_
    refine hK.out _ _ hHeld (fun hHeld2 => ?_)
    clear hK K
    (try simp only [Act.put, List.getElem_toArray, List.getElem_cons_zero, List.getElem_cons_succ, List.setIfInBounds_toArray, List.set_cons_zero, List.set_cons_succ])
    refine wpAnyH_ready (rs := [12]) (by kernel_rfl) (by simp) ?_
    refine AllReadyH.cons rfl (fun K hK => ?_) AllReadyH.nil
    simp only [List.getElem_toArray, List.getElem_cons_zero, List.getElem_cons_succ]
    rw [if_pos]
    rotate_left
    · simp [Region.wanted]
    refine wp_value (v := .slice (some ⟨W3.heap.size, 0, none⟩) 1 1) (w' := (W3.alloc (.cells (vals (padded bs)).toArray 71))) (by simp [execOp, Act.eval, HBS.out, Result.andThen]) ?_
    refine hK.out _ _ HS4.out (fun hHeld3 => ?_)
    clear hK K
    (try simp only [Act.put, List.getElem_toArray, List.getElem_cons_zero, List.getElem_cons_succ, List.setIfInBounds_toArray, List.set_cons_zero, List.set_cons_succ])
    refine wpAnyH_ready (rs := [13]) (by kernel_rfl) (by simp) ?_
    refine AllReadyH.cons rfl (fun K hK => ?_) AllReadyH.nil
    simp only [List.getElem_toArray, List.getElem_cons_zero, List.getElem_cons_succ]
    rw [if_pos]
    rotate_left
    · simp [Region.wanted]
    refine wp_append_lies _ (.tmp 44) (.tmp 46) 110 rfl 0 71 i0 _ 64 64 Tryd.underlying110 hi hz0 hz1 hz2 (by simp [Value.cells]) (by omega) (V n) (d.cache n).length (vals (d.cache n).flatten) rfl HO4.out ⟨W3.heap.size, 0, none⟩ 1 1 (vals (padded bs)) rfl (by rw [vals_length, HP.out.1]) (new_cells rfl) vals_one (by omega) (by have := HK.out; unfold maxLen; omega) (by have := HK.out; omega) (Nat.zero_le _) _ rfl ?_
    intro g cap w5 hrow5 hgr5 hor5 hlt5
    refine hK.out _ _ (HS5.out w5 hgr5) (fun hHeld8 => ?_)
    clear hK K
    (try simp only [Act.put, List.getElem_toArray, List.getElem_cons_zero, List.getElem_cons_succ, List.setIfInBounds_toArray, List.set_cons_zero, List.set_cons_succ])
    refine wpAnyH_ready (rs := [14]) (by kernel_rfl) (by simp) ?_
    refine AllReadyH.cons rfl (fun K hK => ?_) AllReadyH.nil
    simp only [List.getElem_toArray, List.getElem_cons_zero, List.getElem_cons_succ]
    rw [if_pos]
    rotate_left
    · simp [Region.wanted]
    obtain ⟨w6, hrun6, hown6, hgr6⟩ := (HM4.out.kept hgr5 HNB.out).update (Maps.int_keyed Tryd.underlying3) Tryd.underlying73 (by unfold maxLen; omega) (keyOf_int_mk Tryd.underlying3 (WalkArith.wf_i64 (n := (n : Int)) (by omega))) (val := .slice (some ⟨g, 0, none⟩) ((d.cache n).length + 1) cap) (d := .held (.slice (some ⟨g, 0, none⟩) ((d.cache n).length + 1) cap)) (ps := []) rfl
    have HG := Lib.hid (HTr.out _ _ <| Disk.appended HD.out hn HP.out hb0 hS hown hk1 hD hV H4.out hgr5 hrow5 (hor5.imp id (fun e => by have := hb3d.size; have := HSZ.out; omega)) hlt5 hgr6 hown6)
    have hS6 := HS6.out w5 w6 hgr5 hgr6
    refine wp_mapUpdate 73 (.tmp 37) (.tmp 38) (.tmp 47) rfl _ _ _ rfl rfl rfl hrun6 ?_
    refine hK.out _ _ hS6 (fun hHeld9 => ?_)
    clear hK K
    (try simp only [Act.put, List.getElem_toArray, List.getElem_cons_zero, List.getElem_cons_succ, List.setIfInBounds_toArray, List.set_cons_zero, List.set_cons_succ])
    refine wpAnyH_done (by kernel_rfl) ?_ _
    clear hrow5 hgr5 hrun6 hown6 hgr6 hor5 hlt5 hS6 hHeld8 hHeld9
    go_wp2
    go_ret
    exact ⟨rfl, HG.out⟩
  · rw [if_pos]
    rotate_left
    · simp [Region.wanted]
    refine wp_value (v := .slice (some ⟨W3.heap.size, 0, none⟩) 1 1) (w' := (W3.alloc (.cells (vals (padded bs)).toArray 71))) (by simp [execOp, Act.eval, HBS.out, Result.andThen]) ?_
    refine hK.out _ _ HS4.out (fun hHeld2 => ?_)
    clear hK K
    (try simp only [Act.put, List.getElem_toArray, List.getElem_cons_zero, List.getElem_cons_succ, List.setIfInBounds_toArray, List.set_cons_zero, List.set_cons_succ])
    refine wpAnyH_ready (rs := [10]) (by kernel_rfl) (by simp) ?_
    refine AllReadyH.cons rfl (fun K hK => ?_) AllReadyH.nil
    simp only [List.getElem_toArray, List.getElem_cons_zero, List.getElem_cons_succ]
    rw [if_pos]
    rotate_left
    · simp [Region.wanted]
    refine wp_value (v := V n) (w' := (W3.alloc (.cells (vals (padded bs)).toArray 71))) (by simp [execOp, Act.eval, HL4.out, Result.andThen]) ?_
    refine hK.out _ _ HS4.out (fun hHeld3 => ?_)
    clear hK K
    (try simp only [Act.put, List.getElem_toArray, List.getElem_cons_zero, List.getElem_cons_succ, List.setIfInBounds_toArray, List.set_cons_zero, List.set_cons_succ])
    refine wpAnyH_ready (rs := [13]) (by kernel_rfl) (by simp) ?_
    refine AllReadyH.cons rfl (fun K hK => ?_) AllReadyH.nil
    simp only [List.getElem_toArray, List.getElem_cons_zero, List.getElem_cons_succ]
    rw [if_pos]
    rotate_left
    · simp [Region.wanted]
    refine wp_append_lies _ (.tmp 44) (.tmp 46) 110 rfl 0 71 i0 _ 64 64 Tryd.underlying110 hi hz0 hz1 hz2 (by simp [Value.cells]) (by omega) (V n) (d.cache n).length (vals (d.cache n).flatten) rfl HO4.out ⟨W3.heap.size, 0, none⟩ 1 1 (vals (padded bs)) rfl (by rw [vals_length, HP.out.1]) (new_cells rfl) vals_one (by omega) (by have := HK.out; unfold maxLen; omega) (by have := HK.out; omega) (Nat.zero_le _) _ rfl ?_
    intro g cap w5 hrow5 hgr5 hor5 hlt5
    refine hK.out _ _ (HS5.out w5 hgr5) (fun hHeld8 => ?_)
    clear hK K
    (try simp only [Act.put, List.getElem_toArray, List.getElem_cons_zero, List.getElem_cons_succ, List.setIfInBounds_toArray, List.set_cons_zero, List.set_cons_succ])
    refine wpAnyH_ready (rs := [14]) (by kernel_rfl) (by simp) ?_
    refine AllReadyH.cons rfl (fun K hK => ?_) AllReadyH.nil
    simp only [List.getElem_toArray, List.getElem_cons_zero, List.getElem_cons_succ]
    rw [if_pos]
    rotate_left
    · simp [Region.wanted]
    obtain ⟨w6, hrun6, hown6, hgr6⟩ := (HM4.out.kept hgr5 HNB.out).update (Maps.int_keyed Tryd.underlying3) Tryd.underlying73 (by unfold maxLen; omega) (keyOf_int_mk Tryd.underlying3 (WalkArith.wf_i64 (n := (n : Int)) (by omega))) (val := .slice (some ⟨g, 0, none⟩) ((d.cache n).length + 1) cap) (d := .held (.slice (some ⟨g, 0, none⟩) ((d.cache n).length + 1) cap)) (ps := []) rfl
    have HG := Lib.hid (HTr.out _ _ <| Disk.appended HD.out hn HP.out hb0 hS hown hk1 hD hV H4.out hgr5 hrow5 (hor5.imp id (fun e => by have := hb3d.size; have := HSZ.out; omega)) hlt5 hgr6 hown6)
    have hS6 := HS6.out w5 w6 hgr5 hgr6
    refine wp_mapUpdate 73 (.tmp 37) (.tmp 38) (.tmp 47) rfl _ _ _ rfl rfl rfl hrun6 ?_
    refine hK.out _ _ hS6 (fun hHeld9 => ?_)
    clear hK K
    (try simp only [Act.put, List.getElem_toArray, List.getElem_cons_zero, List.getElem_cons_succ, List.setIfInBounds_toArray, List.set_cons_zero, List.set_cons_succ])
    refine wpAnyH_done (by kernel_rfl) ?_ _
    clear hrow5 hgr5 hrun6 hown6 hgr6 hor5 hlt5 hS6 hHeld8 hHeld9
    go_wp2
    go_ret
    exact ⟨rfl, HG.out⟩

theorem write_ok {w : World} {S : Nat → Prop} {a : Nat} {d : Dk} (h : Disk w S a d) (hd : d.down = false) {n : Nat} (hn : n < 34) {A : Option Addr} {bs : List Nat} {c : Nat} (hA : By w w.heap.size A bs) (hl : bs.length ≤ 64) (hk : (d.cache n).length ≤ 1000000000) :
    Calls Tryd.prog 45 #[.pointer (some ⟨a, 0, none⟩), .int .i64 (n : Int), .slice A bs.length c] w fun e w' => e = .returned (.int .i64 0) ∧ Goes w w' S a (d.write n bs) := by
  obtain ⟨m, _, hc, _, _, _⟩ := h.cells
  cases m with
  | none => exact write_first h hd hn hA hl hc
  | some b => exact write_go h hd hn hA hl hk hc
/-- what Write answers -/
def Dk.wcode (d : Dk) (z : Int) (l : Nat) : Int := if d.down then 30 else if 0 ≤ z ∧ z < 34 ∧ l ≤ 64 then 0 else 2
/-- what Write does -/
def Dk.wrote (d : Dk) (z : Int) (bs : List Nat) : Dk := if d.wcode z bs.length = 0 then d.write z.toNat bs else d
theorem write_any {w : World} {S : Nat → Prop} {a : Nat} {d : Dk} (h : Disk w S a d) (z : Int) {A : Option Addr} {bs : List Nat} {c : Nat} (hA : By w w.heap.size A bs) (hl : bs.length ≤ maxLen) (hk : ∀ n, n < 34 → (d.cache n).length ≤ 1000000000) :
    Calls Tryd.prog 45 #[.pointer (some ⟨a, 0, none⟩), .int .i64 z, .slice A bs.length c] w fun e w' => e = .returned (.int .i64 (d.wcode z bs.length)) ∧ Goes w w' S a (d.wrote z bs) := by
  unfold Dk.wrote Dk.wcode
  cases hd : d.down with
  | true =>
    refine (write_down h hd z A bs.length c).mono ?_
    rintro e w' ⟨rfl, rfl⟩
    exact ⟨rfl, Goes.same h (Below.refl _ _)⟩
  | false =>
    by_cases hz : 0 ≤ z ∧ z < 34 ∧ bs.length ≤ 64
    · obtain ⟨n, rfl⟩ : ∃ n : Nat, z = (n : Int) := ⟨z.toNat, by omega⟩
      refine (write_ok h hd (n := n) (by omega) hA hz.2.2 (hk n (by omega))).mono ?_
      rintro e w' ⟨rfl, hg⟩
      simpa [hz] using hg
    · refine (write_arg h hd z A bs.length c hl hz).mono ?_
      rintro e w' ⟨rfl, rfl⟩
      simpa [hz] using Goes.same h (Below.refl _ _)
end Go.Proofs.YtkajcgpkldofjaaDoor.Dk
end

section
/-
  Copy: another disk, alike in all.
-/
namespace Go.Proofs.YtkajcgpkldofjaaDoor.Dk
set_option maxRecDepth 100000
open Go.RowKit Go.Maps Go.MapKept Go.ChangeMaps

theorem heap_alloc_new' (w : World) (o : Obj) : (w.alloc o).heap[w.heap.size]? = some o := by
  show (w.heap.push o)[w.heap.size]? = some o
  simp
/-- what has been copied of the cache -/
def copied {H : Type} (D : DataW H) (left : Lit → Bool) (c : Nat → List (List Nat)) (n : Nat) : List (List Nat) := if Maps.has D (key n) && !left (key n) then c n else []
/-- Blocks of cells stay. -/
def CellsStay (w w' : World) : Prop := ∀ (k : Nat) (cs : Array Value) (t : TypeId) (fr : Nat × Nat), w.heap[k]? = some (Obj.cells cs t fr) → w'.heap[k]? = some (Obj.cells cs t fr)
theorem CellsStay.trans {a b c : World} (h : CellsStay a b) (k : CellsStay b c) : CellsStay a c := fun i cs t fr e => k i cs t fr (h i cs t fr e)
theorem CellsStay.of_below {w w' : World} (h : Below w.heap.size w w') : CellsStay w w' := fun k _ _ _ e => (h.block k (lt_of_heap e)).trans e
theorem CellsStay.of_grown {w w' : World} {b : Nat} {o : Obj} (h : w.grownBy w' (some b)) (hb : w.heap[b]? = some o) (ho : ∀ cs t fr, o ≠ .cells cs t fr) : CellsStay w w' := fun k cs t fr e =>
  (h.block k (lt_of_heap e) (fun e2 => by
    cases e2
    rw [hb] at e
    exact ho _ _ _ (Option.some.inj e))).trans e
theorem owns_stay {w w' : World} {base e size n : Nat} {v : Value} {xs : List Value} (h : w.ownsRow base e size v n xs) (hk : CellsStay w w') : w'.ownsRow base e size v n xs := by
  obtain ⟨h1, h2⟩ := h
  refine ⟨h1, ?_⟩
  rcases h2 with h2 | ⟨g, cap, cur, rfl, hg, hh, r⟩
  · exact Or.inl h2
  · exact Or.inr ⟨g, cap, cur, rfl, hg, hk _ _ _ _ hh, r⟩

/-- A disk that is being copied: the copy is at block a', its map b' has rows of its own where they have been copied. -/
structure Copying (wr : World) (a' b' : Nat) (d : Dk) (D : DataW Value) (left : Lit → Bool) (D' : DataW Value) (V' : Nat → Value) : Prop where
  own : wr.ownsMap Tryd.prog 3 held b' 34 D'
  has : ∀ kl, Maps.has D' kl = Maps.has D kl
  row : wr.heap[a']? = some (.cells (rowD d.dur (some b') d.down).toArray 75 (0, 0))
  new : ∀ n, n < 34 → (copied D left d.cache n ≠ [] → D'.atKey (key n) (.held nilS) = .held (V' n)) ∧ (copied D left d.cache n = [] → V' n = nilS)
  slots : Slots wr (fun k => a' ≤ k ∧ k < wr.heap.size) (copied D left d.cache) V'
theorem Copying.keep {wr w' : World} {a' b' : Nat} {d : Dk} {D : DataW Value} {left : Lit → Bool} {D' : DataW Value} {V' : Nat → Value} (h : Copying wr a' b' d D left D' V') (hs : CellsStay wr w') (hm : w'.heap[b']? = wr.heap[b']?) (hz : wr.heap.size ≤ w'.heap.size) : Copying w' a' b' d D left D' V' := by
  refine ⟨?_, h.has, hs _ _ _ _ h.row, h.new, ⟨fun n hn => owns_stay (h.slots.own n hn) hs, fun n g hn e => ?_, h.slots.apart⟩⟩
  · obtain ⟨es, clock, hb, r⟩ := h.own
    exact ⟨es, clock, hm.trans hb, r⟩
  · have := h.slots.mine n g hn e
    omega
theorem copied_other {H : Type} {D : DataW H} {left : Lit → Bool} {c : Nat → List (List Nat)} {n i : Nat} (h : i ≠ n) : copied D (fun z => left z && !z.sameKey (key n)) c i = copied D left c i := by
  simp [copied, sameKey_key, h]
theorem copied_same {H : Type} {D : DataW H} {left : Lit → Bool} {c : Nat → List (List Nat)} {n : Nat} (h : Maps.has D (key n) = true) : copied D (fun z => left z && !z.sameKey (key n)) c n = c n := by
  simp [copied, sameKey_key, h]
theorem copied_left {H : Type} {D : DataW H} {left : Lit → Bool} {c : Nat → List (List Nat)} {n : Nat} (hl : left (key n) = true) : copied D left c n = [] := by
  simp [copied, hl]
theorem Copying.step {w1 w2 w3 : World} {a' b' : Nat} {d : Dk} {D : DataW Value} {left : Lit → Bool} {D' : DataW Value} {V' : Nat → Value} (h : Copying w1 a' b' d D left D' V') {n : Nat} (hn : n < 34) (hh : Maps.has D (key n) = true) (hl : left (key n) = true) (hne : d.cache n ≠ [])
    (hk : ∀ kl, Maps.has D kl = true → ∃ n, n < 34 ∧ kl = key n) {v : Value} (hb : Below w1.heap.size w1 w2) (hrow : w2.ownsRow w1.heap.size 71 64 v (d.cache n).length (vals (d.cache n).flatten))
    (hg : w2.grownBy w3 (some b')) {N : Nat} (hown : w3.ownsMap Tryd.prog 3 held b' N (D'.put (key n) (.held v))) : Copying w3 a' b' d D (fun z => left z && !z.sameKey (key n)) (D'.put (key n) (.held v)) (upd V' n v) := by
  have hmap := h.own.isMap
  have hik : WideAt.IsKeyLit (key n) := trivial
  have hlb : b' < w1.heap.size := h.own.lt
  have hla : a' < w1.heap.size := lt_of_heap h.row
  obtain ⟨es, clock, hmb⟩ := World.ownsMap.at_ h.own
  have hs2 : CellsStay w1 w2 := CellsStay.of_below hb
  have hs3 : CellsStay w2 w3 := CellsStay.of_grown hg ((hb.block b' hlb).trans hmb) (fun _ _ _ e => by cases e)
  have hhas : ∀ kl, Maps.has (D'.put (key n) (.held v)) kl = Maps.has D kl := fun kl => by
    by_cases e : kl = key n
    · rw [e, has_put_same hmap hik, hh]
    · rw [has_put_other e, h.has]
  have hge : ∀ g, v.ownBlock = some g → w1.heap.size ≤ g ∧ g < w2.heap.size := fun g e => by
    rcases hrow.2 with ⟨e2, _⟩ | ⟨g', cap, cur, e2, hg', hh', _⟩
    · rw [e2] at e; cases e
    · rw [e2] at e
      obtain rfl : g' = g := by simpa [Value.ownBlock] using e
      exact ⟨hg', lt_of_heap hh'⟩
  have hz3 := hg.size
  refine ⟨own34 hown (fun kl hkl => hk kl (by rw [← hhas kl]; exact hkl)), hhas, hs3 _ _ _ _ (hs2 _ _ _ _ h.row), fun m hm => ?_, ⟨fun m hm => ?_, fun m g hm e => ?_, fun m m' g hm hm' hne' e => ?_⟩⟩
  · by_cases e : m = n
    · subst e
      rw [copied_same hh, upd_same, atKey_put_same hmap hik]
      exact ⟨fun _ => rfl, fun e => absurd e hne⟩
    · rw [copied_other e, upd_other _ _ e, atKey_put_other (fun h => e (key_inj h))]
      exact h.new m hm
  · by_cases e : m = n
    · subst e
      rw [copied_same hh, upd_same]
      exact owns_stay (own_mono hrow (Nat.zero_le _)) hs3
    · rw [copied_other e, upd_other _ _ e]
      exact owns_stay (owns_stay (h.slots.own m hm) hs2) hs3
  · by_cases e2 : m = n
    · subst e2
      rw [upd_same] at e
      have := hge g e
      omega
    · rw [upd_other _ _ e2] at e
      have := h.slots.mine m g hm e
      have := hb.size
      omega
  · by_cases e1 : m = n
    · subst e1
      rw [upd_same] at e
      rw [upd_other _ _ (fun h => hne' h.symm)]
      intro h2
      have := h.slots.mine m' g hm' h2
      have := hge g e
      omega
    · rw [upd_other _ _ e1] at e
      by_cases e2 : m' = n
      · subst e2
        rw [upd_same]
        intro h2
        have := h.slots.mine m g hm e
        have := hge g h2
        omega
      · rw [upd_other _ _ e2]
        exact h.slots.apart m m' g hm hm' hne' e
theorem Copying.done {wr : World} {a' b' : Nat} {d : Dk} {D : DataW Value} {left : Lit → Bool} {D' : DataW Value} {V' : Nat → Value} (h : Copying wr a' b' d D left D' V') (hl : ∀ kl, left kl = false) (ha : a' < wr.heap.size) (hb : a' ≤ b')
    (hk : ∀ kl, Maps.has D kl = true → ∃ n, n < 34 ∧ kl = key n) (hD : ∀ n, n < 34 → Maps.has D (key n) = !(d.cache n).isEmpty) (hsec : ∀ n, n < 34 → Sec (d.dur n)) (hput : ∀ n, n < 34 → ∀ b ∈ d.cache n, Sec b) : Disk wr (fun k => a' ≤ k ∧ k < wr.heap.size) a' d := by
  have hc : ∀ n, n < 34 → copied D left d.cache n = d.cache n := fun n hn => by
    unfold copied
    rw [hl, hD n hn]
    cases d.cache n <;> rfl
  refine ⟨⟨Nat.le_refl _, ha⟩, fun k hk => hk.2, hsec, hput, some b', h.row, Or.inr ⟨b', V', rfl, ⟨hb, h.own.lt⟩, ⟨D', h.own, fun kl hkl => hk kl (by rw [← h.has]; exact hkl), fun n hn => ⟨by rw [h.has, hD n hn], ?_⟩⟩, ⟨fun n hn => by rw [← hc n hn]; exact h.slots.own n hn, h.slots.mine, h.slots.apart⟩⟩⟩
  have h1 := h.new n hn
  by_cases e : copied D left d.cache n = []
  · rw [h1.2 e]
    refine atKey_of_not_has ?_ _
    rw [h.has, hD n hn, ← hc n hn, e]; rfl
  · exact h1.1 e

end Go.Proofs.YtkajcgpkldofjaaDoor.Dk
end

section
/-
  A range over a function that keeps cells of its own: the body turns the blocks T alone, the function ranged over turns what it has made.
-/
namespace Go.Proofs.YtkajcgpkldofjaaDoor.Dk
set_option maxRecDepth 100000
open Go.RowKit Go.Maps Go.MapKept Go.ChangeMaps

/-- What is said of a world stays true while blocks from B on turn. -/
def Lasts {α : Type} (B : Nat) (J : List α → World → Prop) : Prop := ∀ s A A' row, J s A → A.grownBy A' row → (∀ r, row = some r → B ≤ r) → J s A'
/-- The function that is ranged over: whatever holds between the rounds and lasts. -/
def Yields1 {α : Type} (F : Fence) (n : Nat) (P : Program) (g : Nat) (bd : Array Value) (encs : α → Array Value) (Ok : α → Prop) (T : Nat → Prop) (S : List α → Prop) (w : World) : Prop :=
  ∀ (l : Nat) (J : List α → World → Prop) (W : World), Below w.heap.size w W → l < W.heap.size → w.heap.size ≤ l → Lasts W.heap.size J →
    (∀ pre x W1, J pre W1 → Ok x → W.heap.size ≤ W1.heap.size → YieldAt F (n - 1) P l (encs x) W1 fun e W' => e = .returned (.bool true) ∧ J (pre ++ [x]) W' ∧ Kept (fun k => T k ∨ k = l) W1 W') →
    J [] W → CallsIn F n P g (bd ++ #[.func (.yield l) #[] #[]]) W fun e W' => (∃ v, e = .returned v) ∧ ∃ xs, S xs ∧ J xs W'

theorem kept_put {S : Nat → Prop} {W W' : World} {l : Nat} (o : Obj) (h : Kept S W W') (hl : S l) : Kept S W (W'.putObj l o) := h.grown (grownBy_putObj' W' l o) (fun k e _ => by cases e; exact hl)

variable {F : Fence} {n : Nat} {P : Program}
theorem range_rounds {α : Type} {g : Operand} {ps : Array Tmp} {assign body : Code} {Q : Exit → Act → World → Prop} {a : Act} {w : World}
    (hro : F.round = none) (h1 : 1 ≤ n) {gf : Nat} {bd : Array Value} (hg : a.eval g = .func (.func gf) bd #[]) (hFg : F.fn gf) (eg : ∀ args w, (callFunc gf args).run P w = .ok (.enter gf args) w)
    {encs : α → Array Value} {Ok : α → Prop} {T : Nat → Prop} {S : List α → Prop} (hT : ∀ k, T k → k < w.heap.size) (hseq : Yields1 F (n - 1) P gf bd encs Ok T S w) (hps : ∀ x, (encs x).size = ps.size)
    (I : List α → World → Prop) (hI : Lasts w.heap.size I) (h0 : I [] w)
    (hround : ∀ (pre : List α) (x : α) (W : World), w.heap.size + 1 < W.heap.size → I pre W → Ok x →
      assign.wpIn (F.inRound (w.heap.size + 1)) (n - 1 - 1) P (Exit.then (fun a1 W1 => Below W.heap.size W W1 ∧ ∀ W2, W1.grownBy W2 (some (w.heap.size + 1)) →
        body.wpIn (F.inRound (w.heap.size + 1)) (n - 1 - 1) P (fun e _ W' => e = .normal ∧ Kept T W2 W' ∧ I (pre ++ [x]) W') a1 W2) (fun _ _ _ => False))
        { tmps := (ps.zip (encs x)).foldl (fun t (p, v) => t.setIfInBounds p v) a.tmps, defers := [] } W)
    (hdone : ∀ (xs : List α) (W : World), S xs → I xs W → w.heap.size < W.heap.size → W.heap[w.heap.size]? = some (.deferred (some [])) → Q .normal { a with defers := { target := .collected w.heap.size, args := #[] } :: a.defers } W) :
    (Code.rangeFunc g ps assign body).wpIn F n P Q a w := by
  refine wpIn_rangeFunc fun fn hfn => ?_
  rw [hro]
  obtain ⟨rec, hrec⟩ : ∃ rec : LoopState → Option Code → Loop, rec = fun st pe => { state := st, pending := pe, fn, tmps := a.tmps, params := ps, assign, body, defers := w.heap.size } := ⟨_, rfl⟩
  obtain ⟨W1, hW1⟩ : ∃ W1, W1 = (w.alloc (.deferred (some []))).alloc (.loop (rec .ready none)) := ⟨_, rfl⟩
  have hs1 : W1.heap.size = w.heap.size + 2 := by rw [hW1]; simp
  have hL1 : W1.heap[w.heap.size + 1]? = some (.loop (rec .ready none)) := by
    rw [hW1]
    have h2 := World.alloc_heap_new (w.alloc (.deferred (some []))) (.loop (rec .ready none))
    rwa [World.size_alloc] at h2
  have hK1 : W1.heap[w.heap.size]? = some (.deferred (some [])) := by
    rw [hW1, Below.heap_alloc _ _ _ (by simp)]
    exact World.alloc_heap_new w _
  have hI1 : I [] W1 := by
    rw [hW1]
    exact hI _ _ _ none (hI _ _ _ none h0 (World.grownBy_alloc w _ none) (fun _ e => by cases e)) (World.grownBy_alloc _ _ none) (fun _ e => by cases e)
  have hb1 : Below w.heap.size w W1 := by rw [hW1]; exact ((Below.refl _ w).alloc (Nat.le_refl _) _).alloc (by simp) _
  refine ⟨w.heap.size + 1, [{ target := .collected w.heap.size, args := #[] }], W1, { target := .fn (.func gf) #[], args := bd ++ #[.func (.yield (w.heap.size + 1)) #[] #[]] }, W1, gf,
    bd ++ #[.func (.yield (w.heap.size + 1)) #[] #[]], W1, ?_, ?_, ?_, ?_, fun _ => h1, ?_⟩
  · rw [hW1, hrec]; exact run_enterLoop_outer _ _ _ _ _
  · simp only [resolve, hg]
    simp [go_sem]
  · intro f' hf'
    simp [Target.leads] at hf'
    subst hf'
    exact hFg
  · simp [invoke, go_sem, eg]
  · refine (hseq (w.heap.size + 1) (fun pre W => I pre W ∧ W.heap[w.heap.size + 1]? = some (.loop (rec .ready none)) ∧ W.heap[w.heap.size]? = some (.deferred (some []))) W1 hb1 (by omega) (by omega) ?_ ?_ ⟨hI1, hL1, hK1⟩).mono ?_
    · rintro s A A' row ⟨hi, hl, hk⟩ hg' hr
      refine ⟨hI s A A' row hi hg' (fun r e => by have := hr r e; omega), (hg'.block _ (Array.getElem?_eq_some_iff.1 hl).1 (fun e => by have := hr _ e.symm; omega)).trans hl, (hg'.block _ (Array.getElem?_eq_some_iff.1 hk).1 (fun e => by have := hr _ e.symm; omega)).trans hk⟩
    · rintro pre x W ⟨hi, hl, hk⟩ hok hWs
      have hlt : w.heap.size + 1 < W.heap.size := (Array.getElem?_eq_some_iff.1 hl).1
      have hy := run_yield (P := P) (args := encs x) hl (by rw [hrec]; exact hps x)
      rw [hrec] at hy
      refine ⟨fn, _, assign, body, hy, roundIn_of_wpIn hfn (wpIn_mono (hround pre x W hlt hi hok) ?_)⟩
      rintro e a1 Wa hpost
      cases e with
      | normal =>
        obtain ⟨hba, hbody⟩ := hpost
        have hla := (hba.block _ hlt).trans hl
        have hka := (hba.block _ (by omega)).trans hk
        refine ⟨_, run_beginRound hla (by rw [hrec]), wpIn_mono (hbody _ (grownBy_putObj' Wa _ _)) ?_⟩
        rintro e a3 W3 ⟨rfl, hk3, hi3⟩
        have hlta : w.heap.size + 1 < (Wa.putObj (w.heap.size + 1) (.loop { rec .ready none with state := .busy })).heap.size := by
          have := hba.size
          simp; omega
        have hl3 : W3.heap[w.heap.size + 1]? = some (.loop { rec .ready none with state := .busy }) :=
          (hk3.block _ hlta (fun e => by have := hT _ e; omega)).trans (World.putObj_heap_same (by have := hba.size; omega))
        have hd3 : W3.heap[w.heap.size]? = some (.deferred (some [])) :=
          (hk3.block _ (Nat.lt_trans (Nat.lt_succ_self _) hlta) (fun e => by have := hT _ e; omega)).trans ((World.putObj_heap_other (show w.heap.size ≠ w.heap.size + 1 by omega)).trans hka)
        have hlt3 := (Array.getElem?_eq_some_iff.1 hl3).1
        have hend := run_endRound (P := P) none hl3
        rw [hrec] at hend
        have hg3 := grownBy_putObj' W3 (w.heap.size + 1) (.loop (rec .ready none))
        refine ⟨_, _, hend, rfl, ⟨?_, ?_, ?_⟩, ?_⟩
        · exact hI _ _ _ _ hi3 (grownBy_putObj' W3 _ _) (fun r e => by cases e; omega)
        · rw [hrec]; exact World.putObj_heap_same hlt3
        · exact (World.putObj_heap_other (show w.heap.size ≠ w.heap.size + 1 by omega)).trans hd3
        · refine kept_put _ ?_ (Or.inr rfl)
          exact ((kept_put _ (Kept.of_below hba (Nat.le_refl _)) (Or.inr rfl) : Kept (fun k => T k ∨ k = w.heap.size + 1) W _)).trans hk3 (fun i _ hi => Or.inl hi)
      | exit id => exact hpost.elim
      | goto id => exact hpost.elim
      | ret => exact hpost.elim
      | panic c => exact hpost.elim
      | outgrown => exact hpost.elim
    · rintro e W2 ⟨⟨v, rfl⟩, xs, hS, hi, hl, hk⟩
      have hend := run_endLoop (P := P) hl (by rw [hrec]; simp)
      rw [hrec] at hend
      refine ⟨none, _, hend, hdone xs _ hS (hI _ _ _ _ hi (grownBy_putObj' W2 _ _) (fun r e => by cases e; omega)) ?_ ((World.putObj_heap_other (show w.heap.size ≠ w.heap.size + 1 by omega)).trans hk)⟩
      have := (Array.getElem?_eq_some_iff.1 hk).1
      simpa using this
end Go.Proofs.YtkajcgpkldofjaaDoor.Dk
end

section
/-
  Within a round: a region that draws its order and makes no call is walked as everywhere; laws at operations of a fenced walk.
-/
namespace Go.Proofs.YtkajcgpkldofjaaDoor.Dk
set_option maxRecDepth 100000
open Go.RowKit Go.Maps Go.MapKept Go.ChangeMaps

/-- operations that make no call -/
def plainOp (o : Oper) : Bool := match o.op with
  | .move _ | .assign _ | .load _ _ | .store _ _ _ | .nilCheck _ | .fieldAddr _ _ _ | .indexAddr _ _ _ | .alloc _ | .lookup _ _ _ _ => true
  | _ => false
def NoCall : Result Next → Prop
  | .ok (.value _) _ | .ok .skip _ | .halt _ _ => True
  | _ => False
theorem noCall_value {m : Sem Value} {P : Program} {w : World} : NoCall ((do pure (Next.value (← m)) : Sem Next).run P w) := by
  rw [Sem.run_bind]
  cases m.run P w <;> simp [Result.andThen, NoCall]
theorem noCall_skip {m : Sem Unit} {P : Program} {w : World} : NoCall ((do m; pure Next.skip : Sem Next).run P w) := by
  rw [Sem.run_bind]
  cases m.run P w <;> simp [Result.andThen, NoCall]
theorem noCall_bind {α : Type} {m : Sem α} {f : α → Sem Next} {P : Program} {w : World} (h : ∀ x w, NoCall ((f x).run P w)) : NoCall ((m >>= f).run P w) := by
  rw [Sem.run_bind]
  cases m.run P w with
  | ok x w' => exact h x w'
  | halt x w' => trivial
theorem noCall_pure {v : Value} {P : Program} {w : World} : NoCall ((pure (Next.value v) : Sem Next).run P w) := by
  rw [Sem.run_pure]; trivial
theorem noCall_panic {P : Program} {w : World} : NoCall ((runtimePanic RuntimeError.nilDeref : Sem Next).run P w) := by
  unfold runtimePanic
  exact noCall_bind fun _ _ => by simp [Sem.run, NoCall, throw, throwThe, MonadExceptOf.throw]
theorem noCall_plain {o : Oper} (h : plainOp o = true) (ρ : Operand → Value) (P : Program) (w : World) : NoCall ((execOp ρ o).run P w) := by
  unfold plainOp at h
  unfold execOp
  cases ho : o.op <;> rw [ho] at h <;> first | (cases h; done) | skip
  all_goals simp only []
  all_goals first
    | exact noCall_value
    | exact noCall_skip
    | (simp [NoCall]; done)
    | skip
  all_goals (repeat' split) <;> first | exact noCall_panic | exact noCall_pure | exact noCall_bind fun _ _ => noCall_bind fun _ _ => by split <;> first | exact noCall_pure | exact noCall_bind fun _ _ => noCall_pure

variable {F : Fence} {n : Nat} {P : Program} {ops : Array Oper} {Q : Exit → Act → World → Prop}
theorem plain_not_defer {o : Oper} (h : plainOp o = true) : ∀ c, o.op ≠ .defer c := fun c e => by
  unfold plainOp at h
  rw [e] at h
  cases h
theorem plain_about {o : Oper} (h : plainOp o = true) (w : World) (ρ : Operand → Value) : o.about P w ρ = none := by
  unfold plainOp at h
  unfold Oper.about
  cases ho : o.op <;> rw [ho] at h <;> first | (cases h; done) | rfl
theorem wpIn_of_wp {o : Oper} (hp : plainOp o = true) {a : Act} {w : World} {K : Act → World → Prop} (h : o.wp P a w K Q) : o.wpIn F n P a w K Q := by
  unfold Oper.wpIn
  refine ⟨fun f hf => (by rw [plain_about hp] at hf; cases hf), ?_⟩
  rw [Oper.semAt_plain F _ _ (plain_not_defer hp)]
  have hn := noCall_plain hp a.eval P w
  unfold Oper.wp at h
  generalize (execOp a.eval o).run P w = r at h hn ⊢
  cases r with
  | ok x w' => cases x <;> first | exact h | exact hn.elim
  | halt x w' => cases x <;> exact h
theorem wpListIn_of {rest : List Oper} {o : Oper} {a : Act} {w : World} (hg : o.guard = none) (hp : plainOp o = true) (h : ∀ K : Act → World → Prop, (∀ a w, wpListIn F n P ops Q rest a w → K a w) → o.wp P a w K Q) : wpListIn F n P ops Q (o :: rest) a w :=
  wpListIn_plain hg fun K hK => wpIn_of_wp hp (h K hK)
theorem anyIn_of_any {md : Region.Mode} (hp : ∀ (i : Nat) (o : Oper), ops[i]? = some o → plainOp o = true) (hQ : ¬ LetsOut Q) : ∀ (fuel : Nat) (listed : Array Bool) (a : Act) (w : World), wpAny P md ops Q fuel listed a w → wpAnyIn F n P md ops Q fuel listed a w
  | 0, _, _, _, h => h
  | fuel + 1, listed, a, w, h => ⟨h.1, fun i hi => by
    have h1 := h.2 i hi
    unfold wpOp at h1
    unfold wpOpIn
    cases ho : ops[i]? with
    | none =>
      rw [ho] at h1
      exact anyIn_of_any hp hQ fuel _ _ _ h1
    | some o =>
      rw [ho] at h1
      simp only [] at h1 ⊢
      by_cases hw : Region.wanted o (yielded ops a.tmps) = true
      · rw [if_pos hw] at h1 ⊢
        rcases h1 with h1 | h1
        · exact Oper.wpIn_mono (fun a' w' h' => anyIn_of_any hp hQ fuel _ a' w' h') (wpIn_of_wp (hp i o ho) h1)
        · exact absurd h1.2 hQ
      · rw [if_neg hw] at h1 ⊢
        exact ⟨fun f hf => (by rw [plain_about (hp i o ho)] at hf; cases hf), anyIn_of_any hp hQ fuel _ _ _ h1⟩⟩
/-- A region that draws its order, within a round. -/
theorem region_in_round {id : Nat} {S : World → Prop} {a : Act} {w : World} (hm : P.follows .mixedOrders = true) (hp : (ops.all plainOp) = true) (hQ : ¬ LetsOut Q) (h : wpAnyH P .any ops Q S ops.size (Array.replicate ops.size false) a w.drew) : (Code.region id ops true).wpIn F n P Q a w :=
  wpIn_region_any hm (anyIn_of_any (fun i o ho => (Array.all_eq_true_iff_forall_mem.1 hp) o (Array.mem_of_getElem? ho)) hQ _ _ _ _ (wpAny_of_held _ _ _ _ h))
end Go.Proofs.YtkajcgpkldofjaaDoor.Dk
end

section
/-
  The writes that a plan keeps, one after another.
-/
namespace Go.Proofs.YtkajcgpkldofjaaDoor.Dk
set_option maxRecDepth 100000
open Go.RowKit Go.Maps Go.MapKept Go.ChangeMaps Go.Shelf
attribute [local go_sem] Oper.semAt_some

/-- what a plan's lines keep, the sectors of earlier lines being told -/
def keptL (c : Nat → List (List Nat)) : List (Int × Int) → List Nat → List (Nat × List Nat)
  | [], _ => []
  | x :: r, told => if 0 ≤ x.1 ∧ x.1 < 34 ∧ ¬ x.1.toNat ∈ told then
      (if 1 ≤ x.2 ∧ x.2 ≤ ((c x.1.toNat).length : Int) then (x.1.toNat, (c x.1.toNat).getD (x.2.toNat - 1) []) :: keptL c r (x.1.toNat :: told) else keptL c r (x.1.toNat :: told))
    else keptL c r told
def toldC (told : List Nat) : List Value := (List.range 34).map fun n => Value.bool (decide (n ∈ told))
theorem told_zero : (Tryd.prog.info? 107).map (·.zero) = some (some (.agg (toldC []).toArray)) := by kernel_rfl
theorem toldC_len (told : List Nat) : (toldC told).length = 34 := by simp [toldC]
theorem toldC_get (told : List Nat) {n : Nat} (hn : n < 34) : (toldC told)[n]? = some (.bool (decide (n ∈ told))) := by
  unfold toldC
  rw [List.getElem?_map, List.getElem?_range hn]; rfl
theorem toldC_set (told : List Nat) {n : Nat} (hn : n < 34) : (toldC told).toArray.setIfInBounds n (.bool true) = (toldC (n :: told)).toArray := by
  rw [List.setIfInBounds_toArray]
  congr 1
  apply List.ext_getElem?
  intro k
  by_cases hk : k < 34
  · by_cases e : n = k
    · subst e
      rw [List.getElem?_set_self (by rw [toldC_len]; exact hn), toldC_get _ hn]
      simp
    · rw [List.getElem?_set_ne e, toldC_get _ hk, toldC_get _ hk]
      simp [Ne.symm e]
  · rw [List.getElem?_eq_none (by simp [toldC_len]; omega), List.getElem?_eq_none (by simp [toldC_len]; omega)]
/-- The slice at A holds a plan's lines. -/
def PlanAt (w : World) (B : Nat) (A : Option Addr) (plan : List (Int × Int)) : Prop :=
  0 < plan.length → ∃ b off, A = some ⟨b, off, none⟩ ∧ b < B ∧ ∀ j, j < plan.length → w.cell? ⟨b, off + j * 2, none⟩ = some (.int .i64 (plan.getD j (0, 0)).1) ∧ w.cell? ⟨b, off + j * 2 + 1, none⟩ = some (.int .i64 (plan.getD j (0, 0)).2)
def encS (x : Nat × List Nat) : Array Value := #[.int .i64 (x.1 : Int), sval x.2]
def OkS (x : Nat × List Nat) : Prop := x.1 < 34 ∧ Sec x.2

theorem flatten_get : ∀ (ws : List (List Nat)), (∀ b ∈ ws, b.length = 64) → ∀ j, j < ws.length → ∀ i u, (vals (ws.getD j []))[i]? = some u → (vals ws.flatten)[j * 64 + i]? = some u
  | [], _, j, hj, _, _, _ => by simp at hj
  | b :: r, h, 0, _, i, u, hu => by
    have hi := (List.getElem?_eq_some_iff.1 hu).1
    rw [List.flatten_cons, vals_append, Nat.zero_mul, Nat.zero_add, List.getElem?_append_left (by simpa using hi)]
    simpa using hu
  | b :: r, h, j + 1, hj, i, u, hu => by
    have hb : (vals b).length = 64 := by rw [vals_length]; exact h b List.mem_cons_self
    rw [List.flatten_cons, vals_append, List.getElem?_append_right (by omega), hb, show (j + 1) * 64 + i - 64 = j * 64 + i by omega]
    exact flatten_get r (fun c hc => h c (List.mem_cons_of_mem _ hc)) j (by simpa using hj) i u (by simpa using hu)

set_option maxHeartbeats 2000000 in
theorem each_yields {w : World} {S : Nat → Prop} {a : Nat} {d : Dk} {m : Option Nat} (h : Disk w S a d) (hk : ∀ n, n < 34 → (d.cache n).length ≤ 1000000000)
    (hm : (m = none ∧ ∀ n, n < 34 → d.cache n = []) ∨ ∃ b V, m = some b ∧ S b ∧ Mapped w b d.cache V ∧ Slots w S d.cache V) (hba : m ≠ some a)
    {A : Option Addr} {cap : Nat} {plan : List (Int × Int)} (hp : PlanAt w w.heap.size A plan) (hpa : 0 < plan.length → ∀ b, A = some b → b.block ≠ a) (hpl : plan.length ≤ 1000000000) (hi : ∀ x ∈ plan, (-9223372036854775808 ≤ x.1 ∧ x.1 ≤ 9223372036854775807) ∧ -9223372036854775808 ≤ x.2 ∧ x.2 ≤ 9223372036854775807) :
    Yields1 Fence.wide 2 Tryd.prog 30 #[.agg #[.map m, .slice A plan.length cap]] encS OkS (fun k => k = a) (fun xs => xs = keptL d.cache plan []) w := by
  intro l J W hW hl hl2 hJ hY h0
  refine callsIn_of_wp Tryd.func30 rfl trivial ?_ rfl
  simp only [Tryd.ntmps30, List.size_toArray, List.length_cons, List.length_nil, Nat.reduceAdd, Nat.reduceSub, Array.replicate_succ, Array.replicate_zero, List.push_toArray, List.append_toArray, List.nil_append, List.cons_append]
  obtain ⟨Z, hZ, hz⟩ : ∃ Z, (Tryd.prog.info? 107).map (·.zero) = some (some (.agg Z)) ∧ Z = (toldC []).toArray := ⟨_, told_zero, rfl⟩
  have HZ := Lib.hid hZ
  have HZ2 := Lib.hid hz
  clear hZ hz
  gi_wp2_with (refine wpListIn_of rfl rfl fun K hK => wp_alloc_any 107 rfl Z HZ.out (hK _ _ ?_))
  gi_loopw [11] (fun i wr => ∃ (k : Nat) (told : List Nat) (pre : List (Nat × List Nat)), i = .int .i64 (k : Int) ∧ k ≤ plan.length ∧ wr.heap[W.heap.size]? = some (.cells #[.map m, .slice A plan.length cap] 78 (0, 0)) ∧
      wr.heap[W.heap.size + 1]? = some (.cells (toldC told).toArray 107 (0, 0)) ∧ J pre wr ∧ keptL d.cache plan [] = pre ++ keptL d.cache (plan.drop k) told ∧ Kept (fun k => k = a ∨ k = l) W wr) (fun i _ => plan.length - (intOf i).toNat)
  case atStart =>
    have hk0 : Kept (fun k => k = a ∨ k = l) W ((W.alloc (.cells #[.map m, .slice A plan.length cap] 78)).alloc (.cells Z 107)) := ((Kept.refl _ W).alloc _).alloc _
    refine ⟨0, [], [], rfl, by omega, ?_, ?_, ?_, rfl, ?_⟩
    · rw [Below.heap_alloc _ _ _ (by simp)]
      exact heap_alloc_new' W _
    · have := heap_alloc_new' (W.alloc (.cells #[.map m, .slice A plan.length cap] 78)) (.cells Z 107)
      rw [World.size_alloc] at this
      rw [HZ2.out] at this ⊢
      exact this
    · exact hJ _ _ _ none (hJ _ _ _ none h0 (World.grownBy_alloc W _ none) (fun _ e => by cases e)) (World.grownBy_alloc _ _ none) (fun _ e => by cases e)
    · exact hk0
  case round =>
    obtain ⟨k, told, pre, rfl, hkl, hbox, htold, hj, hkeep, hKe⟩ := hrel
    have HBox := Lib.hid hbox
    have HTold := Lib.hid htold
    have HJ := Lib.hid hj
    have HKeep := Lib.hid hkeep
    have HKe := Lib.hid hKe
    by_cases hlt : k < plan.length
    · obtain ⟨pb, po, rfl, hpb, hcell⟩ := hp (by omega)
      have hpx := hpa (by omega) _ rfl
      have hsW : w.heap.size ≤ W.heap.size := hW.size
      have hstay : ∀ q, q < w.heap.size → q ≠ a → wr.heap[q]? = w.heap[q]? := fun q h1 h2 => (hKe.block q (by omega) (fun e => by rcases e with e | e <;> omega)).trans (hW.block q h1)
      obtain ⟨x, hx⟩ : ∃ x, x = plan.getD k (0, 0) := ⟨_, rfl⟩
      have hc0 : wr.cell? ⟨pb, po + k * 2, none⟩ = some (.int .i64 x.1) := by rw [hx]; exact (World.cell?_of_block (w := w) (hstay pb hpb hpx)).trans (hcell k hlt).1
      have hc1 : wr.cell? ⟨pb, po + k * 2 + 1, none⟩ = some (.int .i64 x.2) := by rw [hx]; exact (World.cell?_of_block (w := w) (hstay pb hpb hpx)).trans (hcell k hlt).2
      have hdrop : plan.drop k = x :: plan.drop (k + 1) := by
        rw [List.drop_eq_getElem_cons hlt, hx]
        simp [List.getD, hlt]
      have hxi := hi x (by rw [hx]; simp [List.getD, hlt])
      obtain ⟨s, q⟩ := x
      rw [hdrop] at hkeep
      have hbs : W.heap.size + 1 < wr.heap.size := lt_of_heap htold
      by_cases hs : 0 ≤ s ∧ s < 34
      · obtain ⟨n, rfl⟩ : ∃ n : Nat, s = (n : Int) := ⟨s.toNat, by omega⟩
        have hn : n < 34 := by omega
        have hni : (n : Int) < 34 := by omega
        have HN := Lib.hid (fun w => sector_any (n : Int) w)
        have hdec := decide_eq_true hs
        have hk1 : (k : Int) < plan.length := by omega
        have hct : (wr.alloc (.cells #[.int .i64 (n : Int), .int .i64 q] 109)).cell? ⟨W.heap.size + 1, n, none⟩ = some (.bool (decide (n ∈ told))) := by
          rw [World.cell?_of_block (w := wr) (heap_alloc_old' wr _ _ hbs), cell_of_row _ _ n _ _ _ htold]
          simpa using toldC_get told hn
        by_cases ht : n ∈ told
        · have HREL := Lib.hid (show keptL d.cache plan [] = pre ++ keptL d.cache (plan.drop (k + 1)) told by
            rw [hkeep]
            simp only [keptL]
            rw [if_neg (by intro h; exact h.2.2 (by simpa using ht))])
          rw [decide_eq_true ht] at hct
          clear hj hkeep hKe hcell hstay hdrop hx ht htold hbox
          gi_wp2_with (refine ⟨trivial, ?_⟩; gi_at_call 53; refine CallsIn.mono (callsIn_wide.2 (HN.out _)) ?_; rintro e w' ⟨rfl, rfl⟩)
          refine ⟨⟨k + 1, told, pre, by simp, by omega, (heap_alloc_old' wr _ _ (by omega)).trans HBox.out, (heap_alloc_old' wr _ _ hbs).trans HTold.out, hJ _ _ _ none HJ.out (World.grownBy_alloc _ _ none) (fun _ e => by cases e), HREL.out, HKe.out.alloc _⟩, by simp [intOf]; omega⟩
        · rw [decide_eq_false ht] at hct
          have hft : (wr.alloc (.cells #[.int .i64 (n : Int), .int .i64 q] 109)).frozen? ⟨W.heap.size + 1, n, none⟩ = false := by
            rw [World.frozen?_of_block (w := wr) (heap_alloc_old' wr _ _ hbs)]
            exact frozen_of_row _ _ n _ _ htold
          obtain ⟨w2, hw2⟩ : ∃ w2, w2 = (wr.setCell ⟨W.heap.size + 1, n, none⟩ (.bool true)).alloc (.cells #[.int .i64 (n : Int), .int .i64 q] 109) := ⟨_, rfl⟩
          have hw2' : w2 = (wr.alloc (.cells #[.int .i64 (n : Int), .int .i64 q] 109)).setCell ⟨W.heap.size + 1, n, none⟩ (.bool true) := by rw [hw2, World.setCell_alloc_past _ _ _ _ hbs]
          have hg2 : wr.grownBy w2 (some (W.heap.size + 1)) := by
            rw [hw2']
            exact (World.grownBy_alloc wr _ _).trans (grown_setCell _ _ _ _)
          have hs2 : w2.heap.size = wr.heap.size + 1 := by rw [hw2]; simp [World.setCell]
          have hline : w2.heap[wr.heap.size]? = some (.cells #[.int .i64 (n : Int), .int .i64 q] 109 (0, 0)) := by
            rw [hw2', heap_setCell_other _ _ _ _ (by simp; omega)]
            exact heap_alloc_new' wr _
          have hl1 : w2.cell? ⟨wr.heap.size, 1, none⟩ = some (.int .i64 q) := by rw [cell_of_row _ _ 1 _ _ _ hline]; rfl
          have hbox2 : w2.heap[W.heap.size]? = some (.cells #[.map m, .slice (some ⟨pb, po, none⟩) plan.length cap] 78 (0, 0)) := (hg2.block _ (by omega) (fun e => by have := Option.some.inj e; omega)).trans hbox
          have hbm : w2.cell? ⟨W.heap.size, 0, none⟩ = some (.map m) := by rw [cell_of_row _ _ 0 _ _ _ hbox2]; rfl
          have htold2 : w2.heap[W.heap.size + 1]? = some (.cells (toldC (n :: told)).toArray 107 (0, 0)) := by
            rw [hw2', heap_setCell_same _ _ n _ _ _ ((heap_alloc_old' wr _ _ hbs).trans htold), toldC_set _ hn]
          have hj2 : J pre w2 := hJ _ _ _ _ hj hg2 (fun r e => by have := Option.some.inj e; omega)
          have hKe2 : Kept (fun k => k = a ∨ k = l) W w2 := hKe.grown hg2 (fun k e h1 => by have := Option.some.inj e; omega)
          have hstay2 : ∀ q, q < w.heap.size → q ≠ a → w2.heap[q]? = w.heap[q]? := fun q h1 h2 => (hg2.block q (by have := hKe.size; omega) (fun e => by have := Option.some.inj e; omega)).trans (hstay q h1 h2)
          have hm2 : (m = none ∧ ∀ n, n < 34 → d.cache n = []) ∨ ∃ b V, m = some b ∧ S b ∧ Mapped w2 b d.cache V ∧ Slots w2 S d.cache V := by
            refine hm.imp id ?_
            rintro ⟨b, V, rfl, hS, hM, hV⟩
            obtain ⟨m', hrow', _⟩ := h.body
            exact ⟨b, V, rfl, hS, hM.keep (hstay2 b (h.old b hS) (fun e => hba (by rw [e]))), ⟨fun n hn => owns_keep (hV.own n hn) fun g hg => hstay2 g (h.old g (hV.mine n g hn hg)) (hV.ne_disk hrow' hn hg), hV.mine, hV.apart⟩⟩
          obtain ⟨v, hlook, hv⟩ := look_cases hm2 hn
          have hrest : keptL d.cache (((n : Int), q) :: plan.drop (k + 1)) told = if 1 ≤ q ∧ q ≤ ((d.cache n).length : Int) then (n, (d.cache n).getD (q.toNat - 1) []) :: keptL d.cache (plan.drop (k + 1)) (n :: told) else keptL d.cache (plan.drop (k + 1)) (n :: told) := by
            rw [keptL, if_pos (by simp; exact ⟨hni, ht⟩)]
            simp
          rw [hrest] at hkeep
          have HR2 := Lib.hid (And.intro hbox2 (And.intro htold2 (And.intro hj2 hKe2)))
          have hfold := hw2.symm
          have hkn := hk n hn
          have hputs := h.puts n hn
          clear hm2 hstay2 hj2 hKe2 htold2 hbox2 hline hg2 hw2 hw2' hcell hstay hdrop hx htold hbox hj hKe hrest
          by_cases hq1 : q < 1
          · have HREL := Lib.hid (show keptL d.cache plan [] = pre ++ keptL d.cache (plan.drop (k + 1)) (n :: told) by rw [hkeep, if_neg (by omega)])
            clear hkeep hv hlook
            gi_wp2_with (refine ⟨trivial, ?_⟩; gi_at_call 53; refine CallsIn.mono (callsIn_wide.2 (HN.out _)) ?_; rintro e w' ⟨rfl, rfl⟩)
            refine ⟨⟨k + 1, n :: told, pre, by simp, by omega, HR2.out.1, HR2.out.2.1, HR2.out.2.2.1, HREL.out, HR2.out.2.2.2⟩, by simp [intOf]; omega⟩
          · rcases hv with ⟨rfl, hv0⟩ | ⟨g, gcap, cur, rfl, hSg, hgh, hle, hmax, htk, hne⟩
            · have HREL := Lib.hid (show keptL d.cache plan [] = pre ++ keptL d.cache (plan.drop (k + 1)) (n :: told) by rw [hkeep, hv0, if_neg (by simp; omega)])
              have hq0 : q > 0 := by omega
              clear hkeep
              gi_wp2_with (refine ⟨trivial, ?_⟩; gi_at_call 53; refine CallsIn.mono (callsIn_wide.2 (HN.out _)) ?_; rintro e w' ⟨rfl, rfl⟩)
              refine ⟨⟨k + 1, n :: told, pre, by simp, by omega, HR2.out.1, HR2.out.2.1, HR2.out.2.2.1, HREL.out, HR2.out.2.2.2⟩, by simp [intOf]; omega⟩
            · by_cases hq2 : q > (d.cache n).length
              · have HREL := Lib.hid (show keptL d.cache plan [] = pre ++ keptL d.cache (plan.drop (k + 1)) (n :: told) by rw [hkeep, if_neg (by omega)])
                clear hkeep
                gi_wp2_with (refine ⟨trivial, ?_⟩; gi_at_call 53; refine CallsIn.mono (callsIn_wide.2 (HN.out _)) ?_; rintro e w' ⟨rfl, rfl⟩)
                refine ⟨⟨k + 1, n :: told, pre, by simp, by omega, HR2.out.1, HR2.out.2.1, HR2.out.2.2.1, HREL.out, HR2.out.2.2.2⟩, by simp [intOf]; omega⟩
              · obtain ⟨j, rfl⟩ : ∃ j : Nat, q = (j : Int) + 1 := ⟨(q - 1).toNat, by omega⟩
                have hjl : j < (d.cache n).length := by omega
                obtain ⟨b, hb⟩ : ∃ b, b = (d.cache n).getD j [] := ⟨_, rfl⟩
                have hbm2 : b ∈ d.cache n := by rw [hb]; simp [List.getD, hjl]
                have hsb := hputs b hbm2
                have HREL := Lib.hid (show keptL d.cache plan [] = (pre ++ [(n, b)]) ++ keptL d.cache (plan.drop (k + 1)) (n :: told) by
                  rw [hkeep, if_pos (by omega), hb]
                  simp)
                have HC := Lib.hid (show ∀ i u, (vals b)[i]? = some u → w2.cell? ⟨g, j * 64 + i, none⟩ = some u by
                  intro i u hu
                  have hi2 := (List.getElem?_eq_some_iff.1 hu).1
                  rw [vals_length, hsb.1] at hi2
                  rw [cell_of_row _ _ _ _ _ _ hgh]
                  have h3 := flatten_get (d.cache n) (fun c hc => (hputs c hc).1) j hjl i u (by rw [← hb]; exact hu)
                  rw [← htk, List.getElem?_take_of_lt (by omega)] at h3
                  simpa using h3)
                have HI := Lib.hid (sector_info b hsb.1)
                obtain ⟨fn, tmps, assign, body, hy, hR⟩ := hY pre (n, b) w2 HR2.out.2.2.1 ⟨hn, hsb⟩ HR2.out.2.2.2.size
                replace hy : (Instr.yield l #[.int .i64 (n : Int), .agg (vals b).toArray]).run Tryd.prog w2 = .ok (.round l fn tmps assign body) w2 := hy
                have HRn := Lib.hid hR
                have hj3 : (j : Int) < (d.cache n).length := by omega
                have hjq : ¬ ((d.cache n).length : Int) < (j : Int) + 1 := by omega
                unfold maxLen at hmax
                clear hkeep hR htk hb hgh hputs hsb hbm2 hY
                gi_wp2_with (first
                  | (refine ⟨trivial, ?_⟩; gi_at_call 53; refine CallsIn.mono (callsIn_wide.2 (HN.out _)) ?_; rintro e w' ⟨rfl, rfl⟩)
                  | (refine wpListIn_of rfl rfl fun K hK => wp_load_part 71 _ rfl g (j * 64) rfl (vals b) _ HC.out Tryd.underlying71 rfl HI.out (hK _ _ ?_)))
                refine RoundIn.mono HRn.out ?_
                rintro e W3 ⟨rfl, hJ3, hk3⟩
                have hsz2 := HR2.out.2.2.2.size
                have hbox3 := (hk3.block W.heap.size (by omega) (fun e => by rcases e with e | e <;> (have := h.lt; have := hW.size; omega))).trans HR2.out.1
                have htold3 := (hk3.block (W.heap.size + 1) (lt_of_heap HR2.out.2.1) (fun e => by rcases e with e | e <;> (have := h.lt; have := hW.size; omega))).trans HR2.out.2.1
                have HR3 := Lib.hid (And.intro hbox3 (And.intro htold3 (And.intro hJ3 (HR2.out.2.2.2.trans hk3 (fun i _ hi => hi)))))
                clear hbox3 htold3 hJ3 hk3
                gi_wp2
                refine ⟨⟨k + 1, n :: told, pre ++ [(n, b)], by simp, by omega, HR3.out.1, HR3.out.2.1, HR3.out.2.2.1, HREL.out, HR3.out.2.2.2⟩, by simp [intOf]; omega⟩
      · have HN := Lib.hid (fun w => sector_any s w)
        have HREL := Lib.hid (show keptL d.cache plan [] = pre ++ keptL d.cache (plan.drop (k + 1)) told by
          rw [hkeep]
          simp only [keptL]
          rw [if_neg (by intro h; exact hs ⟨h.1, h.2.1⟩)])
        have hdec := decide_eq_false hs
        have hk1 : (k : Int) < plan.length := by omega
        clear hj hkeep hKe hcell hstay hdrop hx htold hbox
        gi_wp2_with (refine ⟨trivial, ?_⟩; gi_at_call 53; refine CallsIn.mono (callsIn_wide.2 (HN.out _)) ?_; rintro e w' ⟨rfl, rfl⟩)
        refine ⟨⟨k + 1, told, pre, by simp, by omega, (heap_alloc_old' wr _ _ (by omega)).trans HBox.out, (heap_alloc_old' wr _ _ hbs).trans HTold.out, hJ _ _ _ none HJ.out (World.grownBy_alloc _ _ none) (fun _ e => by cases e), HREL.out, HKe.out.alloc _⟩, by simp [intOf]; omega⟩
    · obtain rfl : k = plan.length := by omega
      have HE := Lib.hid (show keptL d.cache plan [] = pre by
        rw [hkeep, List.drop_of_length_le (Nat.le_refl _)]
        simp [keptL])
      clear hj hkeep hKe htold hbox
      gi_wp2
      go_end0
      exact ⟨⟨_, rfl⟩, _, HE.out.symm, HJ.out⟩
end Go.Proofs.YtkajcgpkldofjaaDoor.Dk
end

section
/-
  Crash: what the plan keeps is durable, the cache is empty, the disk is down.
-/
namespace Go.Proofs.YtkajcgpkldofjaaDoor.Dk
set_option maxRecDepth 100000
open Go.RowKit Go.Maps Go.MapKept Go.ChangeMaps Go.Shelf
attribute [local go_sem] Oper.semAt_some

def stepS (f : Nat → List Nat) (x : Nat × List Nat) : Nat → List Nat := upd f x.1 x.2
def Dk.crash (d : Dk) (plan : List (Int × Int)) : Dk := ⟨(keptL d.cache plan []).foldl stepS d.dur, fun _ => [], true⟩
theorem crash_nil (A : Option Addr) (l c : Nat) (w : World) : Calls Tryd.prog 15 #[.pointer none, .slice A l c] w fun e w' => e = .returned (.int .i64 1) ∧ Below w.heap.size w w' := by
  have HB := Lib.hid ((Below.refl w.heap.size w).alloc (Nat.le_refl _) (.cells #[.pointer none] 37))
  go_enter Tryd.func15, Tryd.ntmps15
  go_wp2_with fail
  refine (refuses_nil _).mono ?_
  rintro e w' ⟨rfl, rfl⟩
  go_wp2
  go_ret
  exact ⟨rfl, HB.out⟩
theorem crash_down {w : World} {S : Nat → Prop} {a : Nat} {d : Dk} (h : Disk w S a d) (hd : d.down = true) (A : Option Addr) (l c : Nat) : Calls Tryd.prog 15 #[.pointer (some ⟨a, 0, none⟩), .slice A l c] w fun e w' => e = .returned (.int .i64 30) ∧ Below w.heap.size w w' := by
  have HB := Lib.hid ((Below.refl w.heap.size w).alloc (Nat.le_refl _) (.cells #[.pointer (some ⟨a, 0, none⟩)] 37))
  have HR := Lib.hid (refuses_any (h.below HB.out (Nat.le_refl _)))
  rw [hd] at HR
  clear h hd
  go_enter Tryd.func15, Tryd.ntmps15
  go_wp2_with fail
  refine HR.out.mono ?_
  rintro e w' ⟨rfl, rfl⟩
  go_wp2
  go_ret
  exact ⟨rfl, HB.out⟩
theorem row_no_i64 (f : Nat → List Nat) (m : Option Nat) (dn : Bool) (z : Int) : (.int .i64 z : Value) ∉ rowD f m dn := by
  intro h
  rcases List.mem_append.1 h with h | h
  · obtain ⟨n, _, e⟩ := List.mem_map.1 h
    cases e
  · simp at h
theorem plan_apart {w : World} {S : Nat → Prop} {a : Nat} {d : Dk} (h : Disk w S a d) {A : Option Addr} {plan : List (Int × Int)} (hp : PlanAt w w.heap.size A plan) : 0 < plan.length → ∀ b, A = some b → b.block ≠ a := by
  intro hl b e hb
  obtain ⟨pb, po, e2, _, hc⟩ := hp hl
  rw [e] at e2
  cases e2
  have h1 := (hc 0 hl).1
  obtain ⟨m, hrow, _⟩ := h.body
  have hb' : pb = a := hb
  rw [hb', cell_of_row _ _ _ _ _ _ hrow] at h1
  have h2 : (rowD d.dur m d.down)[po + 0 * 2]? = some (.int .i64 (plan.getD 0 (0, 0)).1) := by simpa using h1
  exact row_no_i64 _ _ _ _ (List.mem_of_getElem? h2)
theorem foldS_sec : ∀ (xs : List (Nat × List Nat)) (f : Nat → List Nat), (∀ n, n < 34 → Sec (f n)) → (∀ x ∈ xs, OkS x) → ∀ n, n < 34 → Sec (xs.foldl stepS f n)
  | [], _, h, _ => h
  | x :: r, f, h, hx => foldS_sec r (stepS f x) (fun n hn => by
      unfold stepS
      by_cases e : n = x.1
      · subst e; rw [upd_same]; exact (hx x List.mem_cons_self).2
      · rw [upd_other _ _ e]; exact h n hn) (fun y hy => hx y (List.mem_cons_of_mem _ hy))

theorem Disk.cleared {w : World} {S : Nat → Prop} {a b clock : Nat} {es : Array MapEntry} {d : Dk} (h : Disk w S a d) (hc : w.cell? ⟨a, 2176, none⟩ = some (.map (some b))) (hmb : w.heap[b]? = some (.map es clock)) :
    S b ∧ b ≠ a ∧ w.grownBy (setBlock w b (.map #[] clock)) (some b) ∧ Disk (setBlock w b (.map #[] clock)) S a { d with cache := fun _ => [] } := by
  have hg3 : w.grownBy (setBlock w b (.map #[] clock)) (some b) := ⟨rfl, rfl, rfl, by simp [setBlock], fun i _ hi => heap_setBlock_other hmb _ (fun e => hi (by rw [e]))⟩
  obtain ⟨m', hb', hc', _, _, hm'⟩ := h.cells
  rw [hc] at hc'
  cases hc'
  rcases hm' with ⟨e, _⟩ | ⟨b', V, e, hS, hM, _⟩
  · cases e
  cases e
  have hba := hM.ne_cells hb'
  exact ⟨hS, hba, hg3, ⟨h.mine, fun k hk => Nat.lt_of_lt_of_le (h.old k hk) hg3.size, h.secs, fun _ _ _ h => by simp at h, some b, (hg3.block a h.lt (fun e => hba (by cases e; rfl))).trans hb',
    Or.inr ⟨b, fun _ => nilS, rfl, hS, mapped_empty (clock := clock) (heap_setBlock_same hmb _), slots_empty _ S⟩⟩⟩
theorem Disk.downed {w : World} {S : Nat → Prop} {a : Nat} {d : Dk} (h : Disk w S a d) : Disk (w.setCell ⟨a, 2177, none⟩ (.bool true)) S a { d with down := true } := by
  obtain ⟨m, hb, _, _, _, hm⟩ := h.cells
  have hg := grown_setCell w a 2177 (.bool true)
  refine ⟨h.mine, fun k hk => Nat.lt_of_lt_of_le (h.old k hk) hg.size, h.secs, h.puts, m, ?_, cache_keep hb h.old hm hg⟩
  rw [heap_setCell_same w a 2177 _ _ _ hb, rowD_setDown h.secs]
set_option maxHeartbeats 2000000 in
theorem crash_ok {w : World} {S : Nat → Prop} {a : Nat} {d : Dk} (h : Disk w S a d) (hd : d.down = false) (hk : ∀ n, n < 34 → (d.cache n).length ≤ 1000000000) {A : Option Addr} {cap : Nat} {plan : List (Int × Int)} (hp : PlanAt w w.heap.size A plan) (hpl : plan.length ≤ 1000000000)
    (hi : ∀ x ∈ plan, (-9223372036854775808 ≤ x.1 ∧ x.1 ≤ 9223372036854775807) ∧ -9223372036854775808 ≤ x.2 ∧ x.2 ≤ 9223372036854775807) :
    Calls Tryd.prog 15 #[.pointer (some ⟨a, 0, none⟩), .slice A plan.length cap] w fun e w' => e = .returned (.int .i64 0) ∧ Goes w w' S a (d.crash plan) := by
  obtain ⟨wb, hwb⟩ : ∃ wb, wb = w.alloc (.cells #[.pointer (some ⟨a, 0, none⟩)] 37) := ⟨_, rfl⟩
  have hbb : Below w.heap.size w wb := by rw [hwb]; exact (Below.refl _ w).alloc (Nat.le_refl _) _
  have hdb := h.below hbb (Nat.le_refl _)
  have hsb : wb.heap.size = w.heap.size + 1 := by rw [hwb]; simp
  have hbox : wb.heap[w.heap.size]? = some (.cells #[.pointer (some ⟨a, 0, none⟩)] 37 (0, 0)) := by rw [hwb]; exact heap_alloc_new' w _
  have hcb : wb.cell? ⟨w.heap.size, 0, none⟩ = some (.pointer (some ⟨a, 0, none⟩)) := by rw [cell_of_row _ _ 0 _ _ _ hbox]; rfl
  obtain ⟨m, hrow, hcm, hcd, hfr, hm⟩ := hdb.cells
  have hpb : PlanAt wb wb.heap.size A plan := fun h0 => by
    obtain ⟨pb, po, e, hlt, hc⟩ := hp h0
    exact ⟨pb, po, e, by omega, fun j hj => ⟨(hbb.cell hlt).trans (hc j hj).1, (hbb.cell hlt).trans (hc j hj).2⟩⟩
  have hpa := plan_apart h hp
  have hba : m ≠ some a := by
    rcases hm with ⟨e, _⟩ | ⟨b, V, e, _, hM, _⟩
    · rw [e]; simp
    · rw [e]; intro e2; exact hM.ne_cells hrow (Option.some.inj e2)
  have HSeq := Lib.hid (each_yields hdb hk hm hba hpb hpa hpl hi (cap := cap))
  have HR := Lib.hid (refuses_any hdb)
  rw [hd] at HR
  have HH := Lib.hid h
  have HDb := Lib.hid hdb
  have HM := Lib.hid hm
  have HBB := Lib.hid hbb
  have HBox := Lib.hid hbox
  have HWB := Lib.hid hwb
  have HD := Lib.hid hd
  have HBA := Lib.hid hba
  clear h hk hp hi hpb hpa hba hm hrow hwb hdb hbox hfr hcd hbb hd hpl
  refine (callsIn_wide (n := 3)).1 ?_
  refine callsIn_of_wp_marks Tryd.func15 rfl trivial ?_ rfl
  simp only [Tryd.ntmps15, List.size_toArray, List.length_cons, List.length_nil, Nat.reduceAdd, Nat.reduceSub, Array.replicate_succ, Array.replicate_zero, List.push_toArray, List.append_toArray, List.nil_append, List.cons_append]
  gi_wp2_with (rw [← HWB.out]; refine ⟨trivial, ?_⟩; gi_at_call 29; refine CallsIn.mono (callsIn_wide.2 HR.out) ?_; rintro e w' ⟨rfl, rfl⟩)
  have hlta : a < w.heap.size := HH.out.lt
  refine range_rounds rfl (by omega) (gf := 30) (bd := #[.agg #[.map m, .slice A plan.length cap]]) rfl trivial (enters_of Tryd.func30 (by kernel_rfl) rfl) (T := fun k => k = a) (encs := encS) (Ok := OkS) (fun k e => by omega) HSeq.out (fun _ => rfl)
    (fun pre W => Disk W S a { d with dur := pre.foldl stepS d.dur } ∧ W.cell? ⟨a, 2176, none⟩ = some (.map m) ∧ W.heap[w.heap.size]? = some (.cells #[.pointer (some ⟨a, 0, none⟩)] 37 (0, 0)) ∧ Kept S w W) ?lasts ?start ?round ?done
  case lasts =>
    rintro pre W W' row ⟨hd1, hc1, hb1, hk1⟩ hg hr
    have hne : ∀ k, k < w'.heap.size → some k ≠ row := fun k hk e => by have := hr k e.symm; omega
    refine ⟨hd1.keep (fun k hk => hg.block k (hd1.old k hk) (hne k (by have := HH.out.old k hk; omega))) hg.size, (World.cell?_of_block (w := W) (hg.block a hd1.lt (hne a (by omega)))).trans hc1, (hg.block _ (lt_of_heap hb1) (hne _ (by omega))).trans hb1, hk1.grown hg (fun k e h1 => by have := hr k e; omega)⟩
  case start => exact ⟨HDb.out, hcm, HBox.out, Kept.of_below HBB.out (Nat.le_refl _)⟩
  case round =>
    rintro pre ⟨n, b⟩ W hltW ⟨hd1, hc1, hb1, hk1⟩ ⟨hn, hsb1⟩
    obtain ⟨Z, hZ, hz⟩ : ∃ Z, (Tryd.prog.info? 71).map (·.zero) = some (some (.agg Z)) ∧ Z = (vals (List.replicate 64 0)).toArray := ⟨_, sector_zero, rfl⟩
    have HS := Lib.hid (show Z.size = (vals b).toArray.size by rw [hz]; simp [vals_length, hsb1.1])
    have HZ := Lib.hid hZ
    have HI := Lib.hid (show (Tryd.prog.info? 71).map (·.size) = some (vals b).toArray.size by rw [sector_size]; simp [vals_length, hsb1.1])
    have H1 := Lib.hid (show (vals b).toArray.all (·.oneCell') = true from Array.all_eq_true_iff_forall_mem.2 fun u hu => vals_one u (by simpa using hu))
    have HG := Lib.hid (heap_alloc_new' W (.cells Z 71))
    obtain ⟨W1, hW1⟩ : ∃ W1, W1 = (W.alloc (.cells Z 71)).setRow W.heap.size (vals b).toArray := ⟨_, rfl⟩
    have HW1 := Lib.hid hW1
    have hba1 : Below W.heap.size W W1 := by rw [hW1]; exact below_setRow ((Below.refl _ W).alloc (Nat.le_refl _) _) (Nat.le_refl _) _
    have hrow1 : W1.heap[W.heap.size]? = some (.cells (vals b).toArray 71 (0, 0)) := by
      rw [hW1]; exact setRow_heap _ _ Z (vals b).toArray 71 _ (heap_alloc_new' W _)
    have HD1 := Lib.hid hd1
    have HC1 := Lib.hid hc1
    have HB1 := Lib.hid hb1
    have HK1 := Lib.hid hk1
    have HBa := Lib.hid hba1
    have HRw := Lib.hid hrow1
    clear hd1 hc1 hb1 hk1 hba1 hrow1 hW1 hZ hz
    unfold encS sval
    gi_wp2_with (first
      | (refine wpListIn_of rfl rfl fun K hK => wp_alloc_any 71 rfl Z HZ.out (hK _ _ ?_))
      | (refine wpListIn_of rfl rfl fun K hK => wp_store_row 71 _ _ rfl W.heap.size (vals b).toArray rfl rfl 71 Z HG.out HI.out HS.out H1.out (hK _ _ ?_); rw [← HW1.out]))
    refine ⟨HBa.out, fun W2 hg2 => ?_⟩
    have hltl := lt_of_heap HB1.out
    have hne2 : ∀ k, k < W.heap.size → k ≠ w'.heap.size + 1 → W2.heap[k]? = W.heap[k]? := fun k h1 h2 => (hg2.block k (by have := HBa.out.size; omega) (fun e => by have := Option.some.inj e; omega)).trans (HBa.out.block k h1)
    have hd2 : Disk W2 S a { d with dur := pre.foldl stepS d.dur } := HD1.out.keep (fun k hk => hne2 k (HD1.out.old k hk) (by have := HH.out.old k hk; omega)) (Nat.le_trans HBa.out.size hg2.size)
    have hc2 : W2.cell? ⟨a, 2176, none⟩ = some (.map m) := (World.cell?_of_block (w := W) (hne2 a HD1.out.lt (by omega))).trans HC1.out
    have hb2 := (hne2 w.heap.size hltl (by omega)).trans HB1.out
    have hr2 : W2.heap[W.heap.size]? = some (.cells (vals b).toArray 71 (0, 0)) := (hg2.block _ (lt_of_heap HRw.out) (fun e => by have h5 : W.heap.size = w.heap.size + 1 + 1 := Option.some.inj e; omega)).trans HRw.out
    have hcb2 : W2.cell? ⟨w.heap.size, 0, none⟩ = some (.pointer (some ⟨a, 0, none⟩)) := by rw [cell_of_row _ _ 0 _ _ _ hb2]; rfl
    have hk2 : Kept S w W2 := (HK1.out.below (Nat.le_refl _) HBa.out (Or.inl HK1.out.size)).grown hg2 (fun k e h1 => by have := Option.some.inj e; omega)
    have hni : (n : Int) < 34 := by omega
    have hhd : ∀ X, W2.drew = X → X.cell? ⟨w.heap.size, 0, none⟩ = some (.pointer (some ⟨a, 0, none⟩)) ∧ X.heap[W.heap.size]? = some (.cells (vals b).toArray 71 (0, 0)) := fun X e => by rw [← e]; exact ⟨hcb2, hr2⟩
    refine wpIn_block ?_
    refine region_in_round (S := fun X => X.cell? ⟨w.heap.size, 0, none⟩ = some (.pointer (some ⟨a, 0, none⟩)) ∧ X.heap[W.heap.size]? = some (.cells (vals b).toArray 71 (0, 0))) (by kernel_rfl) (by kernel_rfl) (by rintro ⟨_, _, h⟩; simp [Exit.inBlock] at h) ?_
    have hHeld := hhd _ rfl
    have HD2 := Lib.hid hd2
    have HC2 := Lib.hid hc2
    have HB2 := Lib.hid hb2
    have HK2 := Lib.hid hk2
    have HR2 := Lib.hid hr2
    clear hhd hd2 hc2 hb2 hk2 hr2 hcb2 hne2 hg2 hltW hltl
    refine wpAnyH_take (i := 0) (v := ?_) rfl (by kernel_rfl) (by kernel_rfl) (by kernel_rfl) (fun _ _ _ h => h) (Or.inl ⟨by rfl, ?_⟩) (by assumption) ?_
    rotate_left
    · simp only [List.getElem_toArray, List.getElem_cons_zero, List.getElem_cons_succ]; intro W hSw; (try dsimp only at hSw); go_simp; all_goals with_reducible rfl
    simp only [Act.put, List.getElem_toArray, List.getElem_cons_zero, List.getElem_cons_succ, List.setIfInBounds_toArray, List.set_cons_zero, List.set_cons_succ]
    refine wpAnyH_take (i := 1) (v := ?_) rfl (by kernel_rfl) (by kernel_rfl) (by kernel_rfl) (fun _ _ _ h => h) (Or.inl ⟨by rfl, ?_⟩) (by assumption) ?_
    rotate_left
    · simp only [List.getElem_toArray, List.getElem_cons_zero, List.getElem_cons_succ]; intro W hSw; (try dsimp only at hSw); go_simp; all_goals with_reducible rfl
    simp only [Act.put, List.getElem_toArray, List.getElem_cons_zero, List.getElem_cons_succ, List.setIfInBounds_toArray, List.set_cons_zero, List.set_cons_succ]
    refine wpAnyH_take (i := 2) (v := ?_) rfl (by kernel_rfl) (by kernel_rfl) (by kernel_rfl) (fun _ _ _ h => h) (Or.inl ⟨by rfl, ?_⟩) (by assumption) ?_
    rotate_left
    · simp only [List.getElem_toArray, List.getElem_cons_zero, List.getElem_cons_succ]
      intro X hSw
      refine exec_load_part 71 (.tmp 8) ?_ W.heap.size 0 ?_ (vals b) _ (row_cells hSw.2 (fun j u hu => by rw [Nat.zero_add]; exact hu)) Tryd.underlying71 rfl (sector_info _ hsb1.1)
      · rfl
      · rfl
    simp only [Act.put, List.getElem_toArray, List.getElem_cons_zero, List.getElem_cons_succ, List.setIfInBounds_toArray, List.set_cons_zero, List.set_cons_succ]
    refine wpAnyH_take (i := 3) (v := ?_) rfl (by kernel_rfl) (by kernel_rfl) (by kernel_rfl) (fun _ _ _ h => h) (Or.inl ⟨by rfl, ?_⟩) (by assumption) ?_
    rotate_left
    · simp only [List.getElem_toArray, List.getElem_cons_zero, List.getElem_cons_succ]; intro W hSw; (try dsimp only at hSw); go_simp; all_goals with_reducible rfl
    simp only [Act.put, List.getElem_toArray, List.getElem_cons_zero, List.getElem_cons_succ, List.setIfInBounds_toArray, List.set_cons_zero, List.set_cons_succ]
    refine wpAnyH_take (i := 4) (v := ?_) rfl (by kernel_rfl) (by kernel_rfl) (by kernel_rfl) (fun _ _ _ h => h) (Or.inl ⟨by rfl, ?_⟩) (by assumption) ?_
    rotate_left
    · simp only [List.getElem_toArray, List.getElem_cons_zero, List.getElem_cons_succ]; intro W hSw; (try dsimp only at hSw); go_simp; all_goals with_reducible rfl
    simp only [Act.put, List.getElem_toArray, List.getElem_cons_zero, List.getElem_cons_succ, List.setIfInBounds_toArray, List.set_cons_zero, List.set_cons_succ]
    refine wpAnyH_take (i := 5) (v := ?_) rfl (by kernel_rfl) (by kernel_rfl) (by kernel_rfl) (fun _ _ _ h => h) (Or.inl ⟨by rfl, ?_⟩) (by assumption) ?_
    rotate_left
    · simp only [List.getElem_toArray, List.getElem_cons_zero, List.getElem_cons_succ]; intro W hSw; (try dsimp only at hSw); go_simp; all_goals with_reducible rfl
    simp only [Act.put, List.getElem_toArray, List.getElem_cons_zero, List.getElem_cons_succ, List.setIfInBounds_toArray, List.set_cons_zero, List.set_cons_succ]
    refine wpAnyH_ready (rs := [6]) (by kernel_rfl) (by simp) ?_
    refine AllReadyH.cons rfl (fun K hK => ?_) AllReadyH.nil
    simp only [List.getElem_toArray, List.getElem_cons_zero, List.getElem_cons_succ]
    rw [if_pos]
    rotate_left
    · simp [Region.wanted]
    obtain ⟨m2, hrow, hcm2, _, _, hm2⟩ := HD2.out.drew.cells
    obtain rfl : m2 = m := by
      have h5 : W2.cell? ⟨a, 2176, none⟩ = some (.map m2) := hcm2
      rw [HC2.out] at h5
      cases h5; rfl
    have hst := HD2.out.drew.stored hrow hm2 hn hsb1
    have hgr := grown_setRow W2.drew a (vals (ahead (pre.foldl stepS d.dur) n) ++ vals b ++ (vals (behindS (pre.foldl stepS d.dur) n) ++ [Value.map m2, .bool d.down])).toArray
    have hrow2 := hrow
    rw [rowD_split _ _ _ hn] at hrow2
    refine wp_store_part 71 (.tmp 29) (.tmp 26) rfl a (n * 64) rfl (vals b) rfl 75 (vals (ahead (pre.foldl stepS d.dur) n)) (vals (pre.foldl stepS d.dur n)) (vals (behindS (pre.foldl stepS d.dur) n) ++ [Value.map m2, .bool d.down]) hrow2 (by rw [vals_length]; exact ahead_len HD2.out.secs (by omega)) (by rw [vals_length, vals_length, hsb1.1]; exact (HD2.out.secs n hn).1) (sector_info _ hsb1.1) vals_one ?_
    have hne3 : w.heap.size ≠ a ∧ W.heap.size ≠ a := by
      have h5 : w.heap.size < W.heap.size := lt_of_heap HB1.out
      omega
    generalize hw3 : W2.drew.setRow a (vals (ahead (pre.foldl stepS d.dur) n) ++ vals b ++ (vals (behindS (pre.foldl stepS d.dur) n) ++ [Value.map m2, .bool d.down])).toArray = W3 at hst hgr ⊢
    have hb3 : W3.heap[w.heap.size]? = some (.cells #[.pointer (some ⟨a, 0, none⟩)] 37 (0, 0)) := (hgr.block _ (lt_of_heap HB2.out) (fun e => hne3.1 (Option.some.inj e))).trans HB2.out
    refine hK.out _ _ ⟨by rw [cell_of_row _ _ 0 _ _ _ hb3]; rfl, (hgr.block _ (lt_of_heap HR2.out) (fun e => hne3.2 (Option.some.inj e))).trans HR2.out⟩ (fun hHeld3 => ?_)
    refine wpAnyH_done (by kernel_rfl) ?_ _
    refine ⟨rfl, (Kept.refl _ W2).drew.grown hgr (fun k e _ => (Option.some.inj e).symm), hst, ?_, hb3, HK2.out.drew.grown hgr (fun k e _ => by have := Option.some.inj e; subst this; exact HH.out.mine)⟩
    obtain ⟨m4, hrow4, hcm4, _, _, _⟩ := hst.cells
    have h6 : W3.heap[a]? = some (.cells (rowD (upd (pre.foldl stepS d.dur) n b) m2 d.down).toArray 75 (0, 0)) := by
      rw [rowD_upd _ _ _ hn, ← hw3]
      exact setRow_heap W2.drew a _ _ 75 _ hrow
    rw [cell_of_row _ _ 2176 _ _ _ h6]
    simpa using rowD_map hst.secs m2 d.down
  case done =>
    rintro xs W rfl ⟨hd1, hc1, hb1, hk1⟩ hsz hdef
    have hcb1 : W.cell? ⟨w.heap.size, 0, none⟩ = some (.pointer (some ⟨a, 0, none⟩)) := by rw [cell_of_row _ _ 0 _ _ _ hb1]; rfl
    have hold := HH.out.old
    cases m with
    | none =>
      obtain ⟨_, _, _, hcd, hfr, _⟩ := hd1.cells
      have hfr1 := hfr 2177
      have hcl := fun (w : World) ty => run_clear_nil w ty
      have hd4 := hd1.downed
      have hg4 := grown_setCell W a 2177 (.bool true)
      obtain ⟨W4, hw4⟩ : ∃ W4, W.setCell ⟨a, 2177, none⟩ (.bool true) = W4 := ⟨_, rfl⟩
      rw [hw4] at hd4 hg4
      have hdef4 : W4.heap[w'.heap.size]? = some (.deferred (some [])) := (hg4.block _ hsz (fun e => by have h5 : w'.heap.size = a := Option.some.inj e; omega)).trans hdef
      have hg5 := grownBy_putObj' W4 w'.heap.size (.deferred none)
      have h0 : ∀ n, n < 34 → d.cache n = [] := by
        rcases HM.out with ⟨_, h0⟩ | ⟨_, _, e, _⟩
        · exact h0
        · cases e
      have HG := Lib.hid (show Goes w (W4.putObj w'.heap.size (.deferred none)) S a (d.crash plan) from ⟨S, (hd4.keep (fun k hk => hg5.block k (hd4.old k hk) (fun e => by have h5 := Option.some.inj e; have := hold k hk; omega)) hg5.size).same_as (fun _ _ => rfl) (fun n hn => (h0 n hn).symm) rfl,
        (hk1.grown hg4 (fun k e _ => by have h5 := Option.some.inj e; subst h5; exact HH.out.mine)).grown hg5 (fun k e h1 => by have h5 := Option.some.inj e; omega), fun _ hk => Or.inl hk⟩)
      have HDf := Lib.hid hdef4
      clear hd4 hg4 hdef4 hg5 hd1 hk1 hb1 h0 hfr hdef
      rw [hsb] at HDf HG
      gi_wp2
      refine ⟨by simp, .inl ⟨_, _, rfl, run_takeDeferred HDf.out, ?_⟩⟩
      exact ⟨_, results_tmp rfl _ _ _, rfl, HG.out⟩
    | some b =>
      obtain ⟨_, _, _, hcd, hfr, hmm⟩ := hd1.cells
      obtain ⟨es, clock, hmb⟩ : ∃ es clock, W.heap[b]? = some (.map es clock) := by
        obtain ⟨m9, _, hc9, _, _, hm9⟩ := hd1.cells
        rw [hc1] at hc9
        cases hc9
        rcases hm9 with ⟨e, _⟩ | ⟨b', V, e, _, hM, _⟩
        · cases e
        · cases e; exact hM.at_
      obtain ⟨hSb, hneb, hg3, hd3⟩ := hd1.cleared hc1 hmb
      have hcl := fun ty => run_clear W b ty hmb
      obtain ⟨W3, hw3⟩ : ∃ W3, W3 = setBlock W b (.map #[] clock) := ⟨_, rfl⟩
      rw [← hw3] at hg3 hd3 hcl
      have hlb := hold b hSb
      have hb3 := (hg3.block _ (lt_of_heap hb1) (fun e => by have h5 := Option.some.inj e; omega)).trans hb1
      have hcb3 : W3.cell? ⟨w.heap.size, 0, none⟩ = some (.pointer (some ⟨a, 0, none⟩)) := by rw [cell_of_row _ _ 0 _ _ _ hb3]; rfl
      obtain ⟨m8, _, _, hcd3, hfr3, _⟩ := hd3.cells
      have hfr1 := hfr3 2177
      have hd4 := hd3.downed
      have hg4 := grown_setCell W3 a 2177 (.bool true)
      obtain ⟨W4, hw4⟩ : ∃ W4, W3.setCell ⟨a, 2177, none⟩ (.bool true) = W4 := ⟨_, rfl⟩
      rw [hw4] at hd4 hg4
      have hsz3 := hg3.size
      have hdef3 : W3.heap[w'.heap.size]? = some (.deferred (some [])) := (hg3.block _ hsz (fun e => by have h5 : w'.heap.size = b := Option.some.inj e; omega)).trans hdef
      have hdef4 : W4.heap[w'.heap.size]? = some (.deferred (some [])) := (hg4.block _ (by omega) (fun e => by have h5 : w'.heap.size = a := Option.some.inj e; omega)).trans hdef3
      have hg5 := grownBy_putObj' W4 w'.heap.size (.deferred none)
      have HG := Lib.hid (show Goes w (W4.putObj w'.heap.size (.deferred none)) S a (d.crash plan) from ⟨S, hd4.keep (fun k hk => hg5.block k (hd4.old k hk) (fun e => by have h5 := Option.some.inj e; have := hold k hk; omega)) hg5.size,
        ((hk1.grown hg3 (fun k e _ => by have h5 := Option.some.inj e; subst h5; exact hSb)).grown hg4 (fun k e _ => by have h5 := Option.some.inj e; subst h5; exact HH.out.mine)).grown hg5 (fun k e h1 => by have h5 := Option.some.inj e; omega), fun _ hk => Or.inl hk⟩)
      have HDf := Lib.hid hdef4
      clear hd4 hg4 hdef4 hg5 hd1 hk1 hb1 hfr hdef hdef3 hd3 hg3 hw3 hfr3 hmb hb3 hmm
      rw [hsb] at HDf HG
      gi_wp2
      refine ⟨by simp, .inl ⟨_, _, rfl, run_takeDeferred HDf.out, ?_⟩⟩
      exact ⟨_, results_tmp rfl _ _ _, rfl, HG.out⟩
end Go.Proofs.YtkajcgpkldofjaaDoor.Dk
end

section
/-
  A journal on a disk, as plain data: frames in the sectors of a ring; writing, flushing, crashing.
-/
namespace Go.Proofs.YtkajcgpkldofjaaDoor
open Go.RowKit Fm

/-- the sector of a sequence -/
def plc (s : Int) : Nat := (2 + s % 24).toNat
theorem plc_lt (s : Int) : plc s < 34 := by unfold plc; omega
theorem plc_inj {t : Int} {i j : Nat} (hi : i < 24) (hj : j < 24) (h : plc (t + (i : Int)) = plc (t + (j : Int))) : i = j := by unfold plc at h; omega
theorem plc_round (t : Int) (i : Nat) : plc (t + (i : Int)) = plc (t + ((i % 24 : Nat) : Int)) := by unfold plc; omega
/-- what is in a sector: a frame's bytes, or nothing -/
def encF : Option Fr → List Nat
  | some f => byB f
  | none => List.replicate 64 0
theorem enc_none : readOK (encF none) = false := by
  cases h : readOK (encF none) with
  | false => rfl
  | true =>
    obtain ⟨_, hm, _⟩ := read_only h
    exfalso
    unfold mayB frameOf at hm
    revert hm
    decide +kernel
def Short (K : Nat → Option Fr) : Prop := ∀ i f, K i = some f → (byB f).length = 64
/-- The sectors from tail on: what is durable (Kd), what is newest (K); of those from 'len' on nothing waits. -/
structure Lies (D : Dk.Dk) (tail : Int) (Kd K : Nat → Option Fr) (len : Nat) : Prop where
  dur : ∀ i : Nat, i < 24 → D.dur (plc (tail + (i : Int))) = encF (Kd i)
  new : ∀ i : Nat, i < 24 → (D.cache (plc (tail + (i : Int))) = [] ∧ K i = Kd i) ∨ D.cache (plc (tail + (i : Int))) = [encF (K i)]
  none : ∀ i : Nat, len ≤ i → i < 24 → D.cache (plc (tail + (i : Int))) = []
section
variable {D : Dk.Dk} {tail : Int} {Kd K : Nat → Option Fr} {len : Nat}
theorem Lies.newest (h : Lies D tail Kd K len) {i : Nat} (hi : i < 24) : D.newest (plc (tail + (i : Int))) = encF (K i) := by
  unfold Dk.Dk.newest
  rcases h.new i hi with ⟨h1, h2⟩ | h1
  · rw [h1, h2]; exact h.dur i hi
  · rw [h1]; rfl
theorem Lies.one (h : Lies D tail Kd K len) {i : Nat} (hi : i < 24) : (D.cache (plc (tail + (i : Int)))).length ≤ 1 := by
  rcases h.new i hi with ⟨h1, _⟩ | h1 <;> rw [h1] <;> simp
theorem Lies.congr {Kd' K' : Nat → Option Fr} (h : Lies D tail Kd K len) (hd : ∀ i : Nat, i < 24 → Kd i = Kd' i) (hk : ∀ i : Nat, i < 24 → K i = K' i) : Lies D tail Kd' K' len :=
  ⟨fun i hi => by rw [← hd i hi]; exact h.dur i hi, fun i hi => by rw [← hd i hi, ← hk i hi]; exact h.new i hi, h.none⟩
theorem fresh_lies (tail : Int) : Lies Dk.Dk.fresh tail (fun _ => none) (fun _ => none) 0 := ⟨fun _ _ => rfl, fun _ _ => Or.inl ⟨rfl, rfl⟩, fun _ _ _ => rfl⟩
/-- one more frame -/
theorem Lies.write (h : Lies D tail Kd K len) (hl : len < 24) {f : Fr} (hf : (byB f).length = 64) : Lies (D.write (plc (tail + (len : Int))) (byB f)) tail Kd (Dk.upd K len (some f)) (len + 1) := by
  have hp : Dk.padded (byB f) = byB f := by unfold Dk.padded; rw [hf]; simp
  have hc : ∀ i : Nat, i < 24 → (D.write (plc (tail + (len : Int))) (byB f)).cache (plc (tail + (i : Int))) = if i = len then [byB f] else D.cache (plc (tail + (i : Int))) := fun i hi => by
    show Dk.upd D.cache _ _ _ = _
    unfold Dk.upd
    by_cases e : i = len
    · subst e
      rw [if_pos rfl, if_pos rfl, h.none i (Nat.le_refl _) hi, hp]; rfl
    · rw [if_neg (fun e2 => e (plc_inj hi hl e2)), if_neg e]
  refine ⟨fun i hi => h.dur i hi, fun i hi => ?_, fun i h1 hi => ?_⟩
  · rw [hc i hi]
    by_cases e : i = len
    · subst e
      rw [if_pos rfl]
      exact Or.inr (by unfold Dk.upd; rw [if_pos rfl]; rfl)
    · rw [if_neg e]
      have hu : Dk.upd K len (some f) i = K i := by unfold Dk.upd; rw [if_neg e]
      rw [hu]
      exact h.new i hi
  · rw [hc i hi, if_neg (by omega)]
    exact h.none i (by omega) hi
/-- writing frames -/
def putsD (D : Dk.Dk) (F : List Fr) : Dk.Dk := F.foldl (fun D f => D.write (plc f.seq) (byB f)) D
def putK (K : Nat → Option Fr) (p : Nat) (F : List Fr) : Nat → Option Fr := fun i => if p ≤ i ∧ i < p + F.length then F[i - p]? else K i
theorem Lies.puts : ∀ (F : List Fr) {D : Dk.Dk} {K : Nat → Option Fr} {len : Nat}, Lies D tail Kd K len → len + F.length ≤ 24 → (∀ (j : Nat) (f : Fr), F[j]? = some f → f.seq = tail + ((len + j : Nat) : Int) ∧ (byB f).length = 64) →
    Lies (putsD D F) tail Kd (putK K len F) (len + F.length)
  | [], D, K, len, h, _, _ => h.congr (fun _ _ => rfl) (fun i _ => by unfold putK; rw [if_neg (by simp)])
  | f :: r, D, K, len, h, hl, hf => by
    obtain ⟨h1, h2⟩ := hf 0 f rfl
    simp only [List.length_cons] at hl
    have hw := h.write (by omega) h2
    have ih := Lies.puts r hw (by omega) (fun j g hg => by
      obtain ⟨h3, h4⟩ := hf (j + 1) g (by simpa using hg)
      exact ⟨by rw [h3]; omega, h4⟩)
    have e : putsD D (f :: r) = putsD (D.write (plc (tail + (len : Int))) (byB f)) r := by
      unfold putsD
      rw [List.foldl_cons, h1]; rfl
    rw [e, List.length_cons, show len + (r.length + 1) = len + 1 + r.length by omega]
    refine ih.congr (fun _ _ => rfl) (fun i _ => ?_)
    unfold putK Dk.upd
    simp only [List.length_cons]
    by_cases e1 : len + 1 ≤ i ∧ i < len + 1 + r.length
    · rw [if_pos e1, if_pos (by omega), show i - len = i - (len + 1) + 1 by omega, List.getElem?_cons_succ]
    · rw [if_neg e1]
      by_cases e2 : i = len
      · subst e2
        rw [if_pos rfl, if_pos (by omega), Nat.sub_self]; rfl
      · rw [if_neg e2, if_neg (by omega)]
theorem puts_down (D : Dk.Dk) (F : List Fr) : (putsD D F).down = D.down := by
  induction F generalizing D with
  | nil => rfl
  | cons f r ih => exact ih _
theorem Lies.flush (h : Lies D tail Kd K len) (n : Nat) : Lies D.flush tail K K n :=
  ⟨fun i hi => h.newest hi, fun _ _ => Or.inl ⟨rfl, rfl⟩, fun _ _ _ => rfl⟩
theorem kept_mem {c : Nat → List (List Nat)} : ∀ {plan : List (Int × Int)} {told : List Nat} {x : Nat × List Nat}, x ∈ Dk.keptL c plan told → x.2 ∈ c x.1
  | [], _, _, h => by simp [Dk.keptL] at h
  | y :: r, told, x, h => by
    unfold Dk.keptL at h
    split at h
    · rename_i h1
      split at h
      · rename_i h2
        rcases List.mem_cons.1 h with rfl | h
        · have h3 : y.2.toNat - 1 < (c y.1.toNat).length := by omega
          show (c y.1.toNat).getD (y.2.toNat - 1) [] ∈ c y.1.toNat
          rw [List.getD_eq_getElem?_getD, List.getElem?_eq_getElem h3]
          exact List.getElem_mem h3
        · exact kept_mem h
      · exact kept_mem h
    · exact kept_mem h
theorem fold_kept {c : Nat → List (List Nat)} : ∀ (l : List (Nat × List Nat)) (f : Nat → List Nat) (n : Nat), (∀ x ∈ l, x.2 ∈ c x.1) → l.foldl Dk.stepS f n = f n ∨ l.foldl Dk.stepS f n ∈ c n
  | [], _, _, _ => Or.inl rfl
  | x :: r, f, n, h => by
    rw [List.foldl_cons]
    rcases fold_kept r (Dk.stepS f x) n (fun y hy => h y (List.mem_cons_of_mem _ hy)) with h1 | h1
    · rw [h1]
      unfold Dk.stepS Dk.upd
      by_cases e : n = x.1
      · rw [if_pos e, e]; exact Or.inr (h x List.mem_cons_self)
      · rw [if_neg e]; exact Or.inl rfl
    · exact Or.inr h1
theorem crash_dur (D : Dk.Dk) (plan : List (Int × Int)) (n : Nat) : (D.crash plan).dur n = D.dur n ∨ (D.crash plan).dur n ∈ D.cache n := fold_kept _ _ _ fun _ hx => kept_mem hx
/-- behind a crash each sector has what was newest, or what was durable -/
theorem Lies.crash (h : Lies D tail Kd K len) (plan : List (Int × Int)) (dn : Bool) : ∃ K', (∀ i : Nat, K' i = K i ∨ K' i = Kd i) ∧ ∀ n, Lies { D.crash plan with down := dn } tail K' K' n := by
  have each : ∀ i : Nat, ∃ o, (o = K i ∨ o = Kd i) ∧ (i < 24 → (D.crash plan).dur (plc (tail + (i : Int))) = encF o) := fun i => by
    by_cases hi : i < 24
    · rcases crash_dur D plan (plc (tail + (i : Int))) with h1 | h1
      · exact ⟨Kd i, Or.inr rfl, fun _ => h1.trans (h.dur i hi)⟩
      · rcases h.new i hi with ⟨h2, _⟩ | h2
        · rw [h2] at h1; simp at h1
        · rw [h2] at h1; exact ⟨K i, Or.inl rfl, fun _ => by simpa using h1⟩
    · exact ⟨K i, Or.inl rfl, fun h => absurd h hi⟩
  obtain ⟨K', hK⟩ := Classical.axiomOfChoice each
  exact ⟨K', fun i => (hK i).1, fun n => ⟨fun i hi => (hK i).2 hi, fun _ _ => Or.inl ⟨rfl, rfl⟩, fun _ _ _ => rfl⟩⟩
/-- what a scan reads -/
def rdD (D : Dk.Dk) (s : Int) : List Nat := D.newest (plc s)
theorem Lies.rd (h : Lies D tail Kd K len) (i : Nat) : rdD D (tail + (i : Int)) = encF (K (i % 24)) := by
  unfold rdD
  rw [plc_round]
  exact h.newest (Nat.mod_lt _ (by omega))
/-- frames, one behind the other -/
def KF (F : List Fr) : Nat → Option Fr := fun i => F[i]?
theorem putK_KF (F G : List Fr) (i : Nat) : putK (KF F) F.length G i = KF (F ++ G) i := by
  unfold putK KF
  by_cases h : F.length ≤ i ∧ i < F.length + G.length
  · rw [if_pos h, List.getElem?_append_right h.1]
  · rw [if_neg h]
    by_cases h1 : i < F.length
    · rw [List.getElem?_append_left h1]
    · rw [List.getElem?_eq_none (by omega), List.getElem?_eq_none (by rw [List.length_append]; omega)]
end
end Go.Proofs.YtkajcgpkldofjaaDoor
end

section
/-
  Rows of bytes in memory; cashboxref06.Rows, by contract.
-/
namespace Go.Proofs.YtkajcgpkldofjaaDoor
open Go.RowKit
set_option maxRecDepth 100000

/-- The slice at A holds the bytes bs, in a block of P (asked for only where there is a byte). -/
def ByP (w : World) (P : Nat → Prop) (A : Option Addr) (bs : List Nat) : Prop :=
  (∀ x ∈ bs, x < 256) ∧ (0 < bs.length → ∃ b off, A = some ⟨b, off, none⟩ ∧ P b ∧ ∀ j, j < bs.length → w.cell? ⟨b, off + j, none⟩ = some (.int .u8 (bs.getD j 0 : Nat)))
/-- one slice of bytes as a value -/
def OneP (w : World) (P : Nat → Prop) (v : Value) (bs : List Nat) : Prop := ∃ A c, v = .slice A bs.length c ∧ ByP w P A bs ∧ bs.length ≤ c ∧ c ≤ maxLen ∧ (A = none → c = 0)
/-- The slice at A holds the rows, in blocks of P. -/
def RowsP (w : World) (P : Nat → Prop) (A : Option Addr) (rows : List (List Nat)) : Prop :=
  (∀ r ∈ rows, ∀ x ∈ r, x < 256) ∧ (0 < rows.length → ∃ b off, A = some ⟨b, off, none⟩ ∧ P b ∧ ∀ i (h : i < rows.length), ∃ v, w.cell? ⟨b, off + i, none⟩ = some v ∧ OneP w P v rows[i])
section
variable {w w' : World} {P P' : Nat → Prop} {A : Option Addr} {bs : List Nat} {v : Value} {rows : List (List Nat)}
theorem lt_of_cell {b j : Nat} {u : Value} (h : w.cell? ⟨b, j, none⟩ = some u) : b < w.heap.size := by
  rcases Nat.lt_or_ge b w.heap.size with h1 | h1
  · exact h1
  · unfold World.cell? at h
    rw [Array.getElem?_eq_none h1] at h
    cases h
theorem ByP.by_ (h : ByP w P A bs) : By w w.heap.size A bs :=
  ⟨h.1, fun hn => by
    obtain ⟨b, off, e, _, hc⟩ := h.2 hn
    exact ⟨b, off, e, lt_of_cell (hc 0 hn), hc⟩⟩
theorem ByP.of_by {B : Nat} (h : By w B A bs) (hP : ∀ b, b < B → P b) : ByP w P A bs :=
  ⟨h.1, fun hn => by
    obtain ⟨b, off, e, hb, hc⟩ := h.2 hn
    exact ⟨b, off, e, hP b hb, hc⟩⟩
theorem ByP.keep (h : ByP w P A bs) (hk : ∀ b, P b → b < w.heap.size → w'.heap[b]? = w.heap[b]?) : ByP w' P A bs :=
  ⟨h.1, fun hn => by
    obtain ⟨b, off, e, hb, hc⟩ := h.2 hn
    refine ⟨b, off, e, hb, fun j hj => ?_⟩
    rw [← hc j hj]
    exact World.cell?_of_block (w := w) (hk b hb (lt_of_cell (hc j hj)))⟩
theorem ByP.mono (h : ByP w P A bs) (hP : ∀ b, P b → b < w.heap.size → P' b) : ByP w P' A bs :=
  ⟨h.1, fun hn => by
    obtain ⟨b, off, e, hb, hc⟩ := h.2 hn
    exact ⟨b, off, e, hP b hb (lt_of_cell (hc 0 hn)), hc⟩⟩
theorem OneP.keep (h : OneP w P v bs) (hk : ∀ b, P b → b < w.heap.size → w'.heap[b]? = w.heap[b]?) : OneP w' P v bs := by
  obtain ⟨A, c, e, hy, r⟩ := h
  exact ⟨A, c, e, hy.keep hk, r⟩
theorem OneP.mono (h : OneP w P v bs) (hP : ∀ b, P b → b < w.heap.size → P' b) : OneP w P' v bs := by
  obtain ⟨A, c, e, hy, r⟩ := h
  exact ⟨A, c, e, hy.mono hP, r⟩
theorem OneP.lt (h : OneP w P v bs) : ∀ x ∈ bs, x < 256 := by
  obtain ⟨A, c, e, hy, r⟩ := h
  exact hy.1
theorem RowsP.nil_ : RowsP w P A [] := ⟨fun _ h => by simp at h, fun h => absurd h (by simp)⟩
theorem RowsP.keep (h : RowsP w P A rows) (hk : ∀ b, P b → b < w.heap.size → w'.heap[b]? = w.heap[b]?) : RowsP w' P A rows :=
  ⟨h.1, fun hn => by
    obtain ⟨b, off, e, hb, hc⟩ := h.2 hn
    refine ⟨b, off, e, hb, fun i hi => ?_⟩
    obtain ⟨v, h1, h2⟩ := hc i hi
    exact ⟨v, by rw [← h1]; exact World.cell?_of_block (w := w) (hk b hb (lt_of_cell h1)), h2.keep hk⟩⟩
theorem RowsP.mono (h : RowsP w P A rows) (hP : ∀ b, P b → b < w.heap.size → P' b) : RowsP w P' A rows :=
  ⟨h.1, fun hn => by
    obtain ⟨b, off, e, hb, hc⟩ := h.2 hn
    obtain ⟨v0, h0, _⟩ := hc 0 hn
    refine ⟨b, off, e, hP b hb (lt_of_cell h0), fun i hi => ?_⟩
    obtain ⟨v, h1, h2⟩ := hc i hi
    exact ⟨v, h1, h2.mono hP⟩⟩
theorem RowsP.below {B : Nat} (h : RowsP w P A rows) (hb : Below B w w') (hP : ∀ b, P b → b < w.heap.size → b < B) : RowsP w' P A rows := h.keep fun b h1 h2 => hb.block b (hP b h1 h2)
theorem RowsP.take (h : RowsP w P A rows) (k : Nat) : RowsP w P A (rows.take k) :=
  ⟨fun r hr => h.1 r (List.mem_of_mem_take hr), fun hn => by
    have hl : (rows.take k).length ≤ rows.length := by rw [List.length_take]; omega
    obtain ⟨b, off, e, hb, hc⟩ := h.2 (by omega)
    refine ⟨b, off, e, hb, fun i hi => ?_⟩
    obtain ⟨v, h1, h2⟩ := hc i (by omega)
    refine ⟨v, h1, ?_⟩
    rw [List.getElem_take]
    exact h2⟩
/-- row i -/
theorem RowsP.at_ (h : RowsP w P A rows) {i : Nat} (hi : i < rows.length) : ∃ b off A' c', A = some ⟨b, off, none⟩ ∧ P b ∧ w.cell? ⟨b, off + i, none⟩ = some (.slice A' rows[i].length c') ∧ ByP w P A' rows[i] ∧ rows[i].length ≤ c' ∧ c' ≤ maxLen ∧ (A' = none → c' = 0) := by
  obtain ⟨b, off, e, hb, hc⟩ := h.2 (by omega)
  obtain ⟨v, h1, A', c', rfl, h2, h3, h4, h5⟩ := hc i hi
  exact ⟨b, off, A', c', e, hb, h1, h2, h3, h4, h5⟩
end

set_option maxHeartbeats 1000000 in
theorem rows_any (A B : Option Addr) (c d : Nat) (ra rb : List (List Nat)) (w : World) (hA : RowsP w (fun _ => True) A ra) (hB : RowsP w (fun _ => True) B rb) (hl : ra.length ≤ 1000000) (hl' : rb.length ≤ 1000000) :
    Calls Tryd.prog 17 #[.slice A ra.length c, .slice B rb.length d] w fun e w' => e = .returned (.bool (decide (ra = rb))) ∧ Below w.heap.size w w' := by
  by_cases hlen : ¬ ra.length = rb.length
  · have hne : ¬ ra = rb := fun e => hlen (by rw [e])
    have hq : ¬ (ra.length : Int) = (rb.length : Int) := by omega
    clear hA hB
    go_enter Tryd.func17, Tryd.ntmps17
    go_wp2
    go_ret
    exact ⟨by simp [hne], Below.refl _ _⟩
  have HA := Lib.hid hA
  have HB := Lib.hid hB
  replace hlen : ra.length = rb.length := Decidable.not_not.1 hlen
  have HL := Lib.hid hlen
  rw [← hlen]
  clear hA hB hlen
  obtain ⟨m, hm⟩ : ∃ m, m = ra.length := ⟨_, rfl⟩
  have HM := Lib.hid hm
  rw [← hm] at hl ⊢
  clear hm
  go_enter Tryd.func17, Tryd.ntmps17
  go_wp2_with fail
  go_loopw [5] (fun p wr => ∃ k : Nat, k ≤ m ∧ p = .int .i64 (k : Int) ∧ ra.take k = rb.take k ∧ Below w.heap.size w wr) (fun p _ => m - (intOf p).toNat)
  case atStart => exact ⟨0, Nat.zero_le _, rfl, by simp, Below.refl _ _⟩
  case round =>
    obtain ⟨k, hk, rfl, htk, hbr⟩ := hrel
    by_cases hlt : k < m
    · have hka : k < ra.length := by have := HM.out; omega
      have hkb : k < rb.length := by have := HL.out; omega
      obtain ⟨b, off, A', c', rfl, _, h1, h2, _⟩ := (HA.out.below hbr (fun _ _ h => h)).at_ hka
      obtain ⟨b', off', B', d', rfl, _, h3, h4, _⟩ := (HB.out.below hbr (fun _ _ h => h)).at_ hkb
      have hbe := Fm.str_beq h2.1 h4.1
      have hblt := lt_of_cell h1
      have hblt' := lt_of_cell h3
      have HSS := Lib.hid (show ∀ W, Below wr.heap.size wr W → (W.cell? ⟨b, off + k, none⟩ = some (.slice A' ra[k].length c') ∧ W.cell? ⟨b', off' + k, none⟩ = some (.slice B' rb[k].length d')) ∧ ((convert 24 9 (.slice A' ra[k].length c')).run Tryd.prog W = .ok (.string (str ra[k])) W ∧ (convert 24 9 (.slice B' rb[k].length d')).run Tryd.prog W = .ok (.string (str rb[k])) W) from fun W hW =>
        ⟨⟨(hW.cell (p := ⟨b, off + k, none⟩) hblt).trans h1, (hW.cell (p := ⟨b', off' + k, none⟩) hblt').trans h3⟩,
          conv_str W (h2.by_.below hW (Nat.le_refl _)) c', conv_str W (h4.by_.below hW (Nat.le_refl _)) d'⟩)
      have hw1 : IntKind.i64.wrap ((k : Int) + 1) = (k : Int) + 1 := by rw [IntKind.wrap_i64]; omega
      have HBr := Lib.hid hbr
      have HTk := Lib.hid htk
      clear h1 h2 h3 h4 hbr htk
      have hkm : (k : Int) < (m : Int) := by omega
      generalize hg1 : str ra[k] = s1 at *
      generalize hg2 : str rb[k] = s2 at *
      go_wp2_with fail
      refine wp_region_held_drew (S := fun W => (W.cell? ⟨b, off + k, none⟩ = some (.slice A' ra[k].length c') ∧ W.cell? ⟨b', off' + k, none⟩ = some (.slice B' rb[k].length d')) ∧ ((convert 24 9 (.slice A' ra[k].length c')).run Tryd.prog W = .ok (.string s1) W ∧ (convert 24 9 (.slice B' rb[k].length d')).run Tryd.prog W = .ok (.string s2) W)) (by kernel_rfl) (HSS.out _ (Below.refl _ _).drew) (fun hHeld => ?_)
      refine wpAnyH_take (i := 0) (v := ?_) rfl (by kernel_rfl) (by kernel_rfl) (by kernel_rfl) (fun _ _ _ h => h) (Or.inl ⟨by rfl, ?_⟩) (by assumption) ?_
      rotate_left
      · simp only [List.getElem_toArray, List.getElem_cons_zero, List.getElem_cons_succ]; intro W hSw; (try dsimp only at hSw); go_simp; all_goals with_reducible rfl
      simp only [Act.put, List.getElem_toArray, List.getElem_cons_zero, List.getElem_cons_succ, List.setIfInBounds_toArray, List.set_cons_zero, List.set_cons_succ]
      refine wpAnyH_take (i := 1) (v := ?_) rfl (by kernel_rfl) (by kernel_rfl) (by kernel_rfl) (fun _ _ _ h => h) (Or.inl ⟨by rfl, ?_⟩) (by assumption) ?_
      rotate_left
      · simp only [List.getElem_toArray, List.getElem_cons_zero, List.getElem_cons_succ]; intro W hSw; (try dsimp only at hSw); go_simp; all_goals with_reducible rfl
      simp only [Act.put, List.getElem_toArray, List.getElem_cons_zero, List.getElem_cons_succ, List.setIfInBounds_toArray, List.set_cons_zero, List.set_cons_succ]
      refine wpAnyH_take (i := 2) (v := ?_) rfl (by kernel_rfl) (by kernel_rfl) (by kernel_rfl) (fun _ _ _ h => h) (Or.inl ⟨by rfl, ?_⟩) (by assumption) ?_
      rotate_left
      · simp only [List.getElem_toArray, List.getElem_cons_zero, List.getElem_cons_succ]; intro W hSw; (try dsimp only at hSw); go_simp; all_goals with_reducible rfl
      simp only [Act.put, List.getElem_toArray, List.getElem_cons_zero, List.getElem_cons_succ, List.setIfInBounds_toArray, List.set_cons_zero, List.set_cons_succ]
      refine wpAnyH_take (i := 3) (v := ?_) rfl (by kernel_rfl) (by kernel_rfl) (by kernel_rfl) (fun _ _ _ h => h) (Or.inl ⟨by rfl, ?_⟩) (by assumption) ?_
      rotate_left
      · simp only [List.getElem_toArray, List.getElem_cons_zero, List.getElem_cons_succ]; intro W hSw; (try dsimp only at hSw); go_simp; all_goals with_reducible rfl
      simp only [Act.put, List.getElem_toArray, List.getElem_cons_zero, List.getElem_cons_succ, List.setIfInBounds_toArray, List.set_cons_zero, List.set_cons_succ]
      refine wpAnyH_take (i := 4) (v := ?_) rfl (by kernel_rfl) (by kernel_rfl) (by kernel_rfl) (fun _ _ _ h => h) (Or.inl ⟨by rfl, ?_⟩) (by assumption) ?_
      rotate_left
      · simp only [List.getElem_toArray, List.getElem_cons_zero, List.getElem_cons_succ]; intro W hSw; (try dsimp only at hSw); go_simp; all_goals with_reducible rfl
      simp only [Act.put, List.getElem_toArray, List.getElem_cons_zero, List.getElem_cons_succ, List.setIfInBounds_toArray, List.set_cons_zero, List.set_cons_succ]
      refine wpAnyH_take (i := 5) (v := ?_) rfl (by kernel_rfl) (by kernel_rfl) (by kernel_rfl) (fun _ _ _ h => h) (Or.inl ⟨by rfl, ?_⟩) (by assumption) ?_
      rotate_left
      · simp only [List.getElem_toArray, List.getElem_cons_zero, List.getElem_cons_succ]; intro W hSw; (try dsimp only at hSw); go_simp; all_goals with_reducible rfl
      simp only [Act.put, List.getElem_toArray, List.getElem_cons_zero, List.getElem_cons_succ, List.setIfInBounds_toArray, List.set_cons_zero, List.set_cons_succ]
      refine wpAnyH_take (i := 6) (v := ?_) rfl (by kernel_rfl) (by kernel_rfl) (by kernel_rfl) (fun _ _ _ h => h) (Or.inl ⟨by rfl, ?_⟩) (by assumption) ?_
      rotate_left
      · simp only [List.getElem_toArray, List.getElem_cons_zero, List.getElem_cons_succ]; intro W hSw; (try dsimp only at hSw); go_simp; all_goals with_reducible rfl
      simp only [Act.put, List.getElem_toArray, List.getElem_cons_zero, List.getElem_cons_succ, List.setIfInBounds_toArray, List.set_cons_zero, List.set_cons_succ]
      refine wpAnyH_take (i := 7) (v := ?_) rfl (by kernel_rfl) (by kernel_rfl) (by kernel_rfl) (fun _ _ _ h => h) (Or.inl ⟨by rfl, ?_⟩) (by assumption) ?_
      rotate_left
      · simp only [List.getElem_toArray, List.getElem_cons_zero, List.getElem_cons_succ]; intro W hSw; (try dsimp only at hSw); go_simp; all_goals with_reducible rfl
      simp only [Act.put, List.getElem_toArray, List.getElem_cons_zero, List.getElem_cons_succ, List.setIfInBounds_toArray, List.set_cons_zero, List.set_cons_succ]
      refine wpAnyH_take (i := 8) (v := ?_) rfl (by kernel_rfl) (by kernel_rfl) (by kernel_rfl) (fun _ _ _ h => h) (Or.inl ⟨by rfl, ?_⟩) (by assumption) ?_
      rotate_left
      · simp only [List.getElem_toArray, List.getElem_cons_zero, List.getElem_cons_succ]; intro W hSw; (try dsimp only at hSw); go_simp; all_goals with_reducible rfl
      simp only [Act.put, List.getElem_toArray, List.getElem_cons_zero, List.getElem_cons_succ, List.setIfInBounds_toArray, List.set_cons_zero, List.set_cons_succ]
      refine wpAnyH_take (i := 9) (v := ?_) rfl (by kernel_rfl) (by kernel_rfl) (by kernel_rfl) (fun _ _ _ h => h) (Or.inl ⟨by rfl, ?_⟩) (by assumption) ?_
      rotate_left
      · simp only [List.getElem_toArray, List.getElem_cons_zero, List.getElem_cons_succ]; intro W hSw; (try dsimp only at hSw); go_simp; all_goals with_reducible rfl
      simp only [Act.put, List.getElem_toArray, List.getElem_cons_zero, List.getElem_cons_succ, List.setIfInBounds_toArray, List.set_cons_zero, List.set_cons_succ]
      refine wpAnyH_take (i := 10) (v := ?_) rfl (by kernel_rfl) (by kernel_rfl) (by kernel_rfl) (fun _ _ _ h => h) (Or.inl ⟨by rfl, ?_⟩) (by assumption) ?_
      rotate_left
      · simp only [List.getElem_toArray, List.getElem_cons_zero, List.getElem_cons_succ]; intro W hSw; (try dsimp only at hSw); go_simp; all_goals with_reducible rfl
      simp only [Act.put, List.getElem_toArray, List.getElem_cons_zero, List.getElem_cons_succ, List.setIfInBounds_toArray, List.set_cons_zero, List.set_cons_succ]
      have HSt := Lib.hid (show k + 1 ≤ m by omega)
      by_cases heq : ra[k] = rb[k]
      · have htk1 : ra.take (k + 1) = rb.take (k + 1) := by
          rw [List.take_succ_eq_append_getElem hka, List.take_succ_eq_append_getElem hkb, HTk.out, heq]
        rw [show decide (ra[k] = rb[k]) = true from decide_eq_true heq]
        refine wpAnyH_done (by kernel_rfl) ?_ _
        go_wp2_with fail
        go_roundw
        case rel => exact ⟨k + 1, HSt.out, by simp, htk1, HBr.out.drew⟩
        case measure => simp [intOf]; omega
      · have hne : ¬ ra = rb := fun e => heq (by simp [e])
        rw [show decide (ra[k] = rb[k]) = false from decide_eq_false heq]
        refine wpAnyH_done (by kernel_rfl) ?_ _
        go_wp2_with fail
        go_ret
        exact ⟨by simp [hne], HBr.out.drew⟩
    · obtain rfl : k = m := by omega
      have he : ra = rb := by
        have h1 := htk
        rw [List.take_of_length_le (by have := HM.out; omega), List.take_of_length_le (by have := HM.out; have := HL.out; omega)] at h1
        exact h1
      go_wp2_with fail
      go_ret
      exact ⟨by simp [he], hbr⟩
end Go.Proofs.YtkajcgpkldofjaaDoor
end

section
/-
  Package ring, by contract: bounds, May, Place, Used, Free, Has.
-/
namespace Go.Proofs.YtkajcgpkldofjaaDoor.Rg
set_option maxRecDepth 100000
open Go.RowKit

theorem wr64 {x : Int} (h : -9223372036854775808 ≤ x ∧ x ≤ 9223372036854775807) : IntKind.i64.wrap x = x := by rw [IntKind.wrap_i64]; omega
theorem Tryd.info81 : (Tryd.prog.info? 81).map (·.size) = some 2 := by kernel_rfl
/-- two numbers as a value -/
def two (a b : Int) : Value := .agg #[.int .i64 a, .int .i64 b]

theorem sequence_any (w : World) : Calls Tryd.prog 32 #[] w fun e w' => e = .returned (.agg #[.int .i64 1, .int .i64 1099511627776]) ∧ Below w.heap.size w w' := by
  go_enter Tryd.func32, Tryd.ntmps32
  go_wp2
  exact bodyPost_ret (results_cell_row rfl _ _ w.heap.size 81 #[.int .i64 1, .int .i64 1099511627776] (0, 0) _ rfl (heap_alloc_new w _) Tryd.underlying81 rfl Tryd.info81) rfl ⟨rfl, (Below.refl _ _).alloc (Nat.le_refl _) _⟩
theorem count_any (w : World) : Calls Tryd.prog 40 #[] w fun e w' => e = .returned (.agg #[.int .i64 0, .int .i64 24]) ∧ Below w.heap.size w w' := by
  go_enter Tryd.func40, Tryd.ntmps40
  go_wp2
  exact bodyPost_ret (results_cell_row rfl _ _ w.heap.size 81 #[.int .i64 0, .int .i64 24] (0, 0) _ rfl (heap_alloc_new w _) Tryd.underlying81 rfl Tryd.info81) rfl ⟨rfl, (Below.refl _ _).alloc (Nat.le_refl _) _⟩
theorem has_any (least most n : Int) (w : World) :
    Calls Tryd.prog 33 #[.agg #[.int .i64 least, .int .i64 most], .int .i64 n] w fun e w' => e = .returned (.bool (decide (least ≤ n) && decide (n ≤ most))) ∧ Below w.heap.size w w' := by
  by_cases h : least ≤ n
  all_goals
    go_enter Tryd.func33, Tryd.ntmps33
    go_wp2
    go_ret
    exact ⟨by simp [h]; try omega, (Below.refl _ _).alloc (Nat.le_refl _) _⟩
theorem room_any (t n : Int) (w : World) (h : 1 ≤ t ∧ t ≤ 1099511627776) :
    Calls Tryd.prog 34 #[.agg #[.int .i64 t, .int .i64 n]] w fun e w' => e = .returned (.agg #[.int .i64 t, .int .i64 (t + 24)]) ∧ Below w.heap.size w w' := by
  have hw : IntKind.i64.wrap (t + 24) = t + 24 := wr64 (by omega)
  go_enter Tryd.func34, Tryd.ntmps34
  go_wp2
  exact bodyPost_ret (results_cell_row rfl _ _ (w.heap.size + 1) 81 #[.int .i64 t, .int .i64 (t + 24)] (0, 0) _ rfl (by have := heap_alloc_new (w.alloc (.cells #[.int .i64 t, .int .i64 n] 23)) (.cells #[.int .i64 t, .int .i64 (t + 24)] 81); rw [World.size_alloc] at this; exact this) Tryd.underlying81 rfl Tryd.info81) rfl ⟨rfl, ((Below.refl _ _).alloc (Nat.le_refl _) _).alloc (by simp) _⟩
theorem taken_any (t n : Int) (w : World) (h : -1000000000000000000 ≤ n ∧ n ≤ 1000000000000000000) :
    Calls Tryd.prog 42 #[.agg #[.int .i64 t, .int .i64 n]] w fun e w' => e = .returned (.agg #[.int .i64 t, .int .i64 (n - 1)]) ∧ Below w.heap.size w w' := by
  have hw : IntKind.i64.wrap (n - 1) = n - 1 := wr64 (by omega)
  go_enter Tryd.func42, Tryd.ntmps42
  go_wp2
  exact bodyPost_ret (results_cell_row rfl _ _ (w.heap.size + 1) 81 #[.int .i64 t, .int .i64 (n - 1)] (0, 0) _ rfl (by have := heap_alloc_new (w.alloc (.cells #[.int .i64 t, .int .i64 n] 23)) (.cells #[.int .i64 t, .int .i64 (n - 1)] 81); rw [World.size_alloc] at this; exact this) Tryd.underlying81 rfl Tryd.info81) rfl ⟨rfl, ((Below.refl _ _).alloc (Nat.le_refl _) _).alloc (by simp) _⟩
theorem many_any (a b : Int) (w : World) (h : -1000000000000000000 ≤ a ∧ a ≤ 1000000000000000000) (h' : -1000000000000000000 ≤ b ∧ b ≤ 1000000000000000000) :
    Calls Tryd.prog 55 #[.agg #[.int .i64 a, .int .i64 b]] w fun e w' => e = .returned (.int .i64 (b - a + 1)) ∧ Below w.heap.size w w' := by
  have hw : IntKind.i64.wrap (b - a) = b - a := wr64 (by omega)
  have hw' : IntKind.i64.wrap (b - a + 1) = b - a + 1 := wr64 (by omega)
  go_enter Tryd.func55, Tryd.ntmps55
  go_wp2
  go_ret
  exact ⟨rfl, (Below.refl _ _).alloc (Nat.le_refl _) _⟩
theorem place_any (n : Int) (w : World) (h : 1 ≤ n ∧ n ≤ 1099511627776) :
    Calls Tryd.prog 46 #[.int .i64 n, .int .i64 2, .int .i64 24] w fun e w' => e = .returned (.int .i64 (2 + n % 24)) ∧ w' = w := by
  have hm : n.tmod 24 = n % 24 := Int.tmod_eq_emod_of_nonneg (by omega)
  have hw : IntKind.i64.wrap (n % 24) = n % 24 := wr64 (by omega)
  have hw' : IntKind.i64.wrap (2 + n % 24) = 2 + n % 24 := wr64 (by omega)
  go_enter Tryd.func46, Tryd.ntmps46
  go_wp2
  go_ret
  exact ⟨rfl, rfl⟩

/-- P5.1: a sequence -/
def seqB (n : Int) : Bool := decide (1 ≤ n) && decide (n ≤ 1099511627776)
/-- P5.1: may it be -/
def mayB (t n : Int) : Bool := seqB t && (decide (t ≤ n) && decide (n ≤ t + 24))
theorem mayB_true {t n : Int} (h : mayB t n = true) : 1 ≤ t ∧ t ≤ 1099511627776 ∧ t ≤ n ∧ n ≤ t + 24 := by
  unfold mayB seqB at h
  simp only [Bool.and_eq_true, decide_eq_true_eq] at h
  omega
def placeR (n : Int) : Value := if seqB n then .tuple #[.int .i64 (2 + n % 24), .int .i64 0] else .tuple #[.int .i64 0, .int .i64 2]
theorem at_place (n : Int) (w : World) : Calls Tryd.prog 23 #[.int .i64 n] w fun e w' => e = .returned (placeR n) ∧ Below w.heap.size w w' := by
  cases h : seqB n
  · go_enter Tryd.func23, Tryd.ntmps23
    go_wp2_with (first
      | (go_at_call 32; refine (sequence_any _).mono ?_; rintro e w1 ⟨rfl, hb1⟩)
      | (go_at_call 33; refine (has_any _ _ _ _).mono ?_; rintro e w2 ⟨rfl, hb2⟩; rw [show (decide (1 ≤ n) && decide (n ≤ 1099511627776)) = false from h]))
    go_ret2
    exact ⟨by unfold placeR; rw [h]; rfl, hb1.trans (hb2.mono hb1.size)⟩
  · have hp := fun w => place_any n w (by unfold seqB at h; simpa using h)
    go_enter Tryd.func23, Tryd.ntmps23
    go_wp2_with (first
      | (go_at_call 32; refine (sequence_any _).mono ?_; rintro e w1 ⟨rfl, hb1⟩)
      | (go_at_call 33; refine (has_any _ _ _ _).mono ?_; rintro e w2 ⟨rfl, hb2⟩; rw [show (decide (1 ≤ n) && decide (n ≤ 1099511627776)) = true from h])
      | (go_at_call 46; refine (hp _).mono ?_; rintro e w3 ⟨rfl, rfl⟩))
    go_ret2
    exact ⟨by unfold placeR; rw [h]; rfl, hb1.trans (hb2.mono hb1.size)⟩
end Go.Proofs.YtkajcgpkldofjaaDoor.Rg
end

section
/-
  Package ring, by contract: May, Used, Free, Has.
-/
namespace Go.Proofs.YtkajcgpkldofjaaDoor.Rg
set_option maxRecDepth 100000
open Go.RowKit

set_option maxHeartbeats 1000000 in
theorem may_any (t n : Int) (w : World) :
    Calls Tryd.prog 19 #[.agg #[.int .i64 t, .int .i64 n]] w fun e w' => e = .returned (.bool (mayB t n)) ∧ Below w.heap.size w w' := by
  cases h : seqB t
  · have HB0 := Lib.hid ((Below.refl w.heap.size w).alloc (Nat.le_refl _) (.cells #[.int .i64 t, .int .i64 n] 23))
    have HS := Lib.hid (show ∀ W, Below (w.heap.size + 1) (w.alloc (.cells #[.int .i64 t, .int .i64 n] 23)) W → W.cell? ⟨w.heap.size, 0, none⟩ = some (.int .i64 t) ∧ W.cell? ⟨w.heap.size, 1, none⟩ = some (.int .i64 n) from fun W hb => by
      have hc : ∀ j, W.cell? ⟨w.heap.size, j, none⟩ = _ := fun j => (hb.cell (p := ⟨w.heap.size, j, none⟩) (by simp)).trans (cell_of_row (w.alloc (.cells #[.int .i64 t, .int .i64 n] 23)) w.heap.size j _ _ _ (heap_alloc_new w _))
      exact ⟨hc 0, hc 1⟩)
    have HZ := Lib.hid (show (w.alloc (.cells #[.int .i64 t, .int .i64 n] 23)).heap.size = w.heap.size + 1 by simp)
    go_enter Tryd.func19, Tryd.ntmps19
    go_wp2_with fail
    generalize (w.alloc (.cells #[.int .i64 t, .int .i64 n] 23)) = w1 at *
    refine wp_region_held_drew (S := fun W => W.cell? ⟨w.heap.size, 0, none⟩ = some (.int .i64 t) ∧ W.cell? ⟨w.heap.size, 1, none⟩ = some (.int .i64 n)) (by kernel_rfl) (HS.out _ (Below.refl _ _).drew) (fun hHeld => ?_)
    refine wpAnyH_take (i := 1) (v := ?_) rfl (by kernel_rfl) (by kernel_rfl) (by kernel_rfl) (fun _ _ _ h => h) (Or.inl ⟨by rfl, ?_⟩) (by assumption) ?_
    rotate_left
    · simp only [List.getElem_toArray, List.getElem_cons_zero, List.getElem_cons_succ]; intro W hSw; (try dsimp only at hSw); go_simp; all_goals with_reducible rfl
    simp only [Act.put, List.getElem_toArray, List.getElem_cons_zero, List.getElem_cons_succ, List.setIfInBounds_toArray, List.set_cons_zero, List.set_cons_succ]
    refine wpAnyH_take (i := 2) (v := ?_) rfl (by kernel_rfl) (by kernel_rfl) (by kernel_rfl) (fun _ _ _ h => h) (Or.inl ⟨by rfl, ?_⟩) (by assumption) ?_
    rotate_left
    · simp only [List.getElem_toArray, List.getElem_cons_zero, List.getElem_cons_succ]; intro W hSw; (try dsimp only at hSw); go_simp; all_goals with_reducible rfl
    simp only [Act.put, List.getElem_toArray, List.getElem_cons_zero, List.getElem_cons_succ, List.setIfInBounds_toArray, List.set_cons_zero, List.set_cons_succ]
    refine wpAnyH_ready (rs := [0]) (by kernel_rfl) (by simp) ?_
    refine AllReadyH.cons rfl (fun K hK => ?_) AllReadyH.nil
    simp only [List.getElem_toArray, List.getElem_cons_zero, List.getElem_cons_succ]
    go_simp
    refine (sequence_any _).mono ?_
    rintro e w2 ⟨rfl, hb2⟩
    go_wp2_with fail
    have HB2 := Lib.hid ((Below.refl w1.heap.size w1).drew.trans hb2)
    refine hK.out _ _ (HS.out _ (by have := HB2.out; rw [HZ.out] at this; exact this)) (fun hHeldN => ?_)
    clear hK K hHeld
    have hHeld := hHeldN
    clear hHeldN
    (try simp only [Act.put, List.getElem_toArray, List.getElem_cons_zero, List.getElem_cons_succ, List.setIfInBounds_toArray, List.set_cons_zero, List.set_cons_succ])
    refine wpAnyH_ready (rs := [3]) (by kernel_rfl) (by simp) ?_
    refine AllReadyH.cons rfl (fun K hK => ?_) AllReadyH.nil
    simp only [List.getElem_toArray, List.getElem_cons_zero, List.getElem_cons_succ]
    go_simp
    refine (has_any _ _ _ _).mono ?_
    rintro e w3 ⟨rfl, hb3⟩
    rw [show (decide (1 ≤ t) && decide (t ≤ 1099511627776)) = false from h]
    go_wp2_with fail
    have HB3 := Lib.hid (HB2.out.trans (hb3.mono HB2.out.size))
    refine hK.out _ _ (HS.out _ (by have := HB3.out; rw [HZ.out] at this; exact this)) (fun hHeldN => ?_)
    clear hK K hHeld
    have hHeld := hHeldN
    clear hHeldN
    (try simp only [Act.put, List.getElem_toArray, List.getElem_cons_zero, List.getElem_cons_succ, List.setIfInBounds_toArray, List.set_cons_zero, List.set_cons_succ])
    refine wpAnyH_take (i := 4) (v := ?_) rfl (by kernel_rfl) (by kernel_rfl) (by kernel_rfl) (fun _ _ _ h => h) (Or.inl ⟨by rfl, ?_⟩) (by assumption) ?_
    rotate_left
    · simp only [List.getElem_toArray, List.getElem_cons_zero, List.getElem_cons_succ]; intro W hSw; (try dsimp only at hSw); go_simp; all_goals with_reducible rfl
    simp only [Act.put, List.getElem_toArray, List.getElem_cons_zero, List.getElem_cons_succ, List.setIfInBounds_toArray, List.set_cons_zero, List.set_cons_succ]
    refine wpAnyH_take (i := 5) (v := undef) rfl (by kernel_rfl) (by kernel_rfl) (by kernel_rfl) (fun _ _ _ h => h) (Or.inr ⟨by rfl, rfl⟩) (by assumption) ?_
    (try simp only [Act.put, List.getElem_toArray, List.getElem_cons_zero, List.getElem_cons_succ, List.setIfInBounds_toArray, List.set_cons_zero, List.set_cons_succ])
    refine wpAnyH_take (i := 6) (v := undef) rfl (by kernel_rfl) (by kernel_rfl) (by kernel_rfl) (fun _ _ _ h => h) (Or.inr ⟨by rfl, rfl⟩) (by assumption) ?_
    (try simp only [Act.put, List.getElem_toArray, List.getElem_cons_zero, List.getElem_cons_succ, List.setIfInBounds_toArray, List.set_cons_zero, List.set_cons_succ])
    refine wpAnyH_take (i := 7) (v := undef) rfl (by kernel_rfl) (by kernel_rfl) (by kernel_rfl) (fun _ _ _ h => h) (Or.inr ⟨by rfl, rfl⟩) (by assumption) ?_
    (try simp only [Act.put, List.getElem_toArray, List.getElem_cons_zero, List.getElem_cons_succ, List.setIfInBounds_toArray, List.set_cons_zero, List.set_cons_succ])
    refine wpAnyH_take (i := 8) (v := undef) rfl (by kernel_rfl) (by kernel_rfl) (by kernel_rfl) (fun _ _ _ h => h) (Or.inr ⟨by rfl, rfl⟩) (by assumption) ?_
    (try simp only [Act.put, List.getElem_toArray, List.getElem_cons_zero, List.getElem_cons_succ, List.setIfInBounds_toArray, List.set_cons_zero, List.set_cons_succ])
    refine wpAnyH_take (i := 9) (v := undef) rfl (by kernel_rfl) (by kernel_rfl) (by kernel_rfl) (fun _ _ _ h => h) (Or.inr ⟨by rfl, rfl⟩) (by assumption) ?_
    (try simp only [Act.put, List.getElem_toArray, List.getElem_cons_zero, List.getElem_cons_succ, List.setIfInBounds_toArray, List.set_cons_zero, List.set_cons_succ])
    refine wpAnyH_take (i := 10) (v := ?_) rfl (by kernel_rfl) (by kernel_rfl) (by kernel_rfl) (fun _ _ _ h => h) (Or.inl ⟨by rfl, ?_⟩) (by assumption) ?_
    rotate_left
    · simp only [List.getElem_toArray, List.getElem_cons_zero, List.getElem_cons_succ]; intro W hSw; (try dsimp only at hSw); go_simp; all_goals with_reducible rfl
    simp only [Act.put, List.getElem_toArray, List.getElem_cons_zero, List.getElem_cons_succ, List.setIfInBounds_toArray, List.set_cons_zero, List.set_cons_succ]
    refine wpAnyH_take (i := 11) (v := ?_) rfl (by kernel_rfl) (by kernel_rfl) (by kernel_rfl) (fun _ _ _ h => h) (Or.inl ⟨by rfl, ?_⟩) (by assumption) ?_
    rotate_left
    · simp only [List.getElem_toArray, List.getElem_cons_zero, List.getElem_cons_succ]; intro W hSw; (try dsimp only at hSw); go_simp; all_goals with_reducible rfl
    simp only [Act.put, List.getElem_toArray, List.getElem_cons_zero, List.getElem_cons_succ, List.setIfInBounds_toArray, List.set_cons_zero, List.set_cons_succ]
    refine wpAnyH_done (by kernel_rfl) ?_ _
    go_wp2
    go_ret
    exact ⟨by unfold mayB; rw [h]; rfl, HB0.out.trans (HB3.out.mono HB0.out.size)⟩
  · have hR := fun w => room_any t n w (by unfold seqB at h; simpa using h)
    have HB0 := Lib.hid ((Below.refl w.heap.size w).alloc (Nat.le_refl _) (.cells #[.int .i64 t, .int .i64 n] 23))
    have HS := Lib.hid (show ∀ W, Below (w.heap.size + 1) (w.alloc (.cells #[.int .i64 t, .int .i64 n] 23)) W → W.cell? ⟨w.heap.size, 0, none⟩ = some (.int .i64 t) ∧ W.cell? ⟨w.heap.size, 1, none⟩ = some (.int .i64 n) from fun W hb => by
      have hc : ∀ j, W.cell? ⟨w.heap.size, j, none⟩ = _ := fun j => (hb.cell (p := ⟨w.heap.size, j, none⟩) (by simp)).trans (cell_of_row (w.alloc (.cells #[.int .i64 t, .int .i64 n] 23)) w.heap.size j _ _ _ (heap_alloc_new w _))
      exact ⟨hc 0, hc 1⟩)
    have HZ := Lib.hid (show (w.alloc (.cells #[.int .i64 t, .int .i64 n] 23)).heap.size = w.heap.size + 1 by simp)
    go_enter Tryd.func19, Tryd.ntmps19
    go_wp2_with fail
    generalize (w.alloc (.cells #[.int .i64 t, .int .i64 n] 23)) = w1 at *
    refine wp_region_held_drew (S := fun W => W.cell? ⟨w.heap.size, 0, none⟩ = some (.int .i64 t) ∧ W.cell? ⟨w.heap.size, 1, none⟩ = some (.int .i64 n)) (by kernel_rfl) (HS.out _ (Below.refl _ _).drew) (fun hHeld => ?_)
    refine wpAnyH_take (i := 1) (v := ?_) rfl (by kernel_rfl) (by kernel_rfl) (by kernel_rfl) (fun _ _ _ h => h) (Or.inl ⟨by rfl, ?_⟩) (by assumption) ?_
    rotate_left
    · simp only [List.getElem_toArray, List.getElem_cons_zero, List.getElem_cons_succ]; intro W hSw; (try dsimp only at hSw); go_simp; all_goals with_reducible rfl
    simp only [Act.put, List.getElem_toArray, List.getElem_cons_zero, List.getElem_cons_succ, List.setIfInBounds_toArray, List.set_cons_zero, List.set_cons_succ]
    refine wpAnyH_take (i := 2) (v := ?_) rfl (by kernel_rfl) (by kernel_rfl) (by kernel_rfl) (fun _ _ _ h => h) (Or.inl ⟨by rfl, ?_⟩) (by assumption) ?_
    rotate_left
    · simp only [List.getElem_toArray, List.getElem_cons_zero, List.getElem_cons_succ]; intro W hSw; (try dsimp only at hSw); go_simp; all_goals with_reducible rfl
    simp only [Act.put, List.getElem_toArray, List.getElem_cons_zero, List.getElem_cons_succ, List.setIfInBounds_toArray, List.set_cons_zero, List.set_cons_succ]
    refine wpAnyH_ready (rs := [0]) (by kernel_rfl) (by simp) ?_
    refine AllReadyH.cons rfl (fun K hK => ?_) AllReadyH.nil
    simp only [List.getElem_toArray, List.getElem_cons_zero, List.getElem_cons_succ]
    go_simp
    refine (sequence_any _).mono ?_
    rintro e w2 ⟨rfl, hb2⟩
    go_wp2_with fail
    have HB2 := Lib.hid ((Below.refl w1.heap.size w1).drew.trans hb2)
    refine hK.out _ _ (HS.out _ (by have := HB2.out; rw [HZ.out] at this; exact this)) (fun hHeldN => ?_)
    clear hK K hHeld
    have hHeld := hHeldN
    clear hHeldN
    (try simp only [Act.put, List.getElem_toArray, List.getElem_cons_zero, List.getElem_cons_succ, List.setIfInBounds_toArray, List.set_cons_zero, List.set_cons_succ])
    refine wpAnyH_ready (rs := [3]) (by kernel_rfl) (by simp) ?_
    refine AllReadyH.cons rfl (fun K hK => ?_) AllReadyH.nil
    simp only [List.getElem_toArray, List.getElem_cons_zero, List.getElem_cons_succ]
    go_simp
    refine (has_any _ _ _ _).mono ?_
    rintro e w3 ⟨rfl, hb3⟩
    rw [show (decide (1 ≤ t) && decide (t ≤ 1099511627776)) = true from h]
    go_wp2_with fail
    have HB3 := Lib.hid (HB2.out.trans (hb3.mono HB2.out.size))
    refine hK.out _ _ (HS.out _ (by have := HB3.out; rw [HZ.out] at this; exact this)) (fun hHeldN => ?_)
    clear hK K hHeld
    have hHeld := hHeldN
    clear hHeldN
    (try simp only [Act.put, List.getElem_toArray, List.getElem_cons_zero, List.getElem_cons_succ, List.setIfInBounds_toArray, List.set_cons_zero, List.set_cons_succ])
    refine wpAnyH_take (i := 4) (v := ?_) rfl (by kernel_rfl) (by kernel_rfl) (by kernel_rfl) (fun _ _ _ h => h) (Or.inl ⟨by rfl, ?_⟩) (by assumption) ?_
    rotate_left
    · simp only [List.getElem_toArray, List.getElem_cons_zero, List.getElem_cons_succ]; intro W hSw; (try dsimp only at hSw); go_simp; all_goals with_reducible rfl
    simp only [Act.put, List.getElem_toArray, List.getElem_cons_zero, List.getElem_cons_succ, List.setIfInBounds_toArray, List.set_cons_zero, List.set_cons_succ]
    refine wpAnyH_take (i := 5) (v := ?_) rfl (by kernel_rfl) (by kernel_rfl) (by kernel_rfl) (fun _ _ _ h => h) (Or.inl ⟨by rfl, ?_⟩) (by assumption) ?_
    rotate_left
    · simp only [List.getElem_toArray, List.getElem_cons_zero, List.getElem_cons_succ]; intro W hSw; (try dsimp only at hSw); go_simp; all_goals with_reducible rfl
    simp only [Act.put, List.getElem_toArray, List.getElem_cons_zero, List.getElem_cons_succ, List.setIfInBounds_toArray, List.set_cons_zero, List.set_cons_succ]
    refine wpAnyH_take (i := 7) (v := ?_) rfl (by kernel_rfl) (by kernel_rfl) (by kernel_rfl) (fun _ _ _ h => h) (Or.inl ⟨by rfl, ?_⟩) (by assumption) ?_
    rotate_left
    · simp only [List.getElem_toArray, List.getElem_cons_zero, List.getElem_cons_succ]; intro W hSw; (try dsimp only at hSw); go_simp; all_goals with_reducible rfl
    simp only [Act.put, List.getElem_toArray, List.getElem_cons_zero, List.getElem_cons_succ, List.setIfInBounds_toArray, List.set_cons_zero, List.set_cons_succ]
    refine wpAnyH_take (i := 8) (v := ?_) rfl (by kernel_rfl) (by kernel_rfl) (by kernel_rfl) (fun _ _ _ h => h) (Or.inl ⟨by rfl, ?_⟩) (by assumption) ?_
    rotate_left
    · simp only [List.getElem_toArray, List.getElem_cons_zero, List.getElem_cons_succ]; intro W hSw; (try dsimp only at hSw); go_simp; all_goals with_reducible rfl
    simp only [Act.put, List.getElem_toArray, List.getElem_cons_zero, List.getElem_cons_succ, List.setIfInBounds_toArray, List.set_cons_zero, List.set_cons_succ]
    refine wpAnyH_ready (rs := [6]) (by kernel_rfl) (by simp) ?_
    refine AllReadyH.cons rfl (fun K hK => ?_) AllReadyH.nil
    simp only [List.getElem_toArray, List.getElem_cons_zero, List.getElem_cons_succ]
    go_simp
    refine (hR _).mono ?_
    rintro e w4 ⟨rfl, hb4⟩
    go_wp2_with fail
    have HB4 := Lib.hid (HB3.out.trans (hb4.mono HB3.out.size))
    refine hK.out _ _ (HS.out _ (by have := HB4.out; rw [HZ.out] at this; exact this)) (fun hHeldN => ?_)
    clear hK K hHeld
    have hHeld := hHeldN
    clear hHeldN
    (try simp only [Act.put, List.getElem_toArray, List.getElem_cons_zero, List.getElem_cons_succ, List.setIfInBounds_toArray, List.set_cons_zero, List.set_cons_succ])
    refine wpAnyH_ready (rs := [9]) (by kernel_rfl) (by simp) ?_
    refine AllReadyH.cons rfl (fun K hK => ?_) AllReadyH.nil
    simp only [List.getElem_toArray, List.getElem_cons_zero, List.getElem_cons_succ]
    go_simp
    refine (has_any _ _ _ _).mono ?_
    rintro e w5 ⟨rfl, hb5⟩
    go_wp2_with fail
    have HB5 := Lib.hid (HB4.out.trans (hb5.mono HB4.out.size))
    refine hK.out _ _ (HS.out _ (by have := HB5.out; rw [HZ.out] at this; exact this)) (fun hHeldN => ?_)
    clear hK K hHeld
    have hHeld := hHeldN
    clear hHeldN
    (try simp only [Act.put, List.getElem_toArray, List.getElem_cons_zero, List.getElem_cons_succ, List.setIfInBounds_toArray, List.set_cons_zero, List.set_cons_succ])
    refine wpAnyH_take (i := 10) (v := ?_) rfl (by kernel_rfl) (by kernel_rfl) (by kernel_rfl) (fun _ _ _ h => h) (Or.inl ⟨by rfl, ?_⟩) (by assumption) ?_
    rotate_left
    · simp only [List.getElem_toArray, List.getElem_cons_zero, List.getElem_cons_succ]; intro W hSw; (try dsimp only at hSw); go_simp; all_goals with_reducible rfl
    simp only [Act.put, List.getElem_toArray, List.getElem_cons_zero, List.getElem_cons_succ, List.setIfInBounds_toArray, List.set_cons_zero, List.set_cons_succ]
    refine wpAnyH_take (i := 11) (v := ?_) rfl (by kernel_rfl) (by kernel_rfl) (by kernel_rfl) (fun _ _ _ h => h) (Or.inl ⟨by rfl, ?_⟩) (by assumption) ?_
    rotate_left
    · simp only [List.getElem_toArray, List.getElem_cons_zero, List.getElem_cons_succ]; intro W hSw; (try dsimp only at hSw); go_simp; all_goals with_reducible rfl
    simp only [Act.put, List.getElem_toArray, List.getElem_cons_zero, List.getElem_cons_succ, List.setIfInBounds_toArray, List.set_cons_zero, List.set_cons_succ]
    refine wpAnyH_done (by kernel_rfl) ?_ _
    go_wp2
    go_ret
    exact ⟨by unfold mayB; rw [h]; rfl, HB0.out.trans (HB5.out.mono HB0.out.size)⟩

def usedR (t n : Int) : Int := if mayB t n then n - t else 0
def freeR (t n : Int) : Int := if mayB t n then 24 - (n - t) else 0
def hasR (t n s : Int) : Bool := mayB t n && (decide (t ≤ s) && decide (s ≤ n - 1))

theorem free_any (t n : Int) (w : World) :
    Calls Tryd.prog 41 #[.agg #[.int .i64 t, .int .i64 n]] w fun e w' => e = .returned (.int .i64 (freeR t n)) ∧ Below w.heap.size w w' := by
  cases h : mayB t n
  · have HB0 := Lib.hid ((Below.refl w.heap.size w).alloc (Nat.le_refl _) (.cells #[.int .i64 t, .int .i64 n] 23))
    have HS := Lib.hid (show ∀ W, Below (w.heap.size + 1) (w.alloc (.cells #[.int .i64 t, .int .i64 n] 23)) W → W.cell? ⟨w.heap.size, 0, none⟩ = some (.int .i64 t) ∧ W.cell? ⟨w.heap.size, 1, none⟩ = some (.int .i64 n) from fun W hb => by
      have hc : ∀ j, W.cell? ⟨w.heap.size, j, none⟩ = _ := fun j => (hb.cell (p := ⟨w.heap.size, j, none⟩) (by simp)).trans (cell_of_row (w.alloc (.cells #[.int .i64 t, .int .i64 n] 23)) w.heap.size j _ _ _ (heap_alloc_new w _))
      exact ⟨hc 0, hc 1⟩)
    have HZ := Lib.hid (show (w.alloc (.cells #[.int .i64 t, .int .i64 n] 23)).heap.size = w.heap.size + 1 by simp)
    go_enter Tryd.func41, Tryd.ntmps41
    go_wp2_with fail
    generalize (w.alloc (.cells #[.int .i64 t, .int .i64 n] 23)) = w1 at *
    refine (may_any _ _ _).mono ?_
    rintro e w2 ⟨rfl, hb2⟩
    rw [h]
    obtain ⟨k0, k1⟩ := HS.out _ (by have := hb2; rw [HZ.out] at this; exact this)
    have HB2 := Lib.hid hb2
    clear hb2
    go_wp2
    go_ret
    exact ⟨by unfold freeR; rw [h]; rfl, HB0.out.trans (HB2.out.mono HB0.out.size)⟩
  · have hm := mayB_true h
    have HT := Lib.hid (fun w => taken_any t n w (by omega))
    have HY := Lib.hid (fun w => many_any t (n - 1) w (by omega) (by omega))
    have hw : IntKind.i64.wrap (24 - (n - t)) = 24 - (n - t) := wr64 (by omega)
    clear hm
    have HB0 := Lib.hid ((Below.refl w.heap.size w).alloc (Nat.le_refl _) (.cells #[.int .i64 t, .int .i64 n] 23))
    have HS := Lib.hid (show ∀ W, Below (w.heap.size + 1) (w.alloc (.cells #[.int .i64 t, .int .i64 n] 23)) W → W.cell? ⟨w.heap.size, 0, none⟩ = some (.int .i64 t) ∧ W.cell? ⟨w.heap.size, 1, none⟩ = some (.int .i64 n) from fun W hb => by
      have hc : ∀ j, W.cell? ⟨w.heap.size, j, none⟩ = _ := fun j => (hb.cell (p := ⟨w.heap.size, j, none⟩) (by simp)).trans (cell_of_row (w.alloc (.cells #[.int .i64 t, .int .i64 n] 23)) w.heap.size j _ _ _ (heap_alloc_new w _))
      exact ⟨hc 0, hc 1⟩)
    have HZ := Lib.hid (show (w.alloc (.cells #[.int .i64 t, .int .i64 n] 23)).heap.size = w.heap.size + 1 by simp)
    go_enter Tryd.func41, Tryd.ntmps41
    go_wp2_with fail
    generalize (w.alloc (.cells #[.int .i64 t, .int .i64 n] 23)) = w1 at *
    refine (may_any _ _ _).mono ?_
    rintro e w2 ⟨rfl, hb2⟩
    rw [h]
    obtain ⟨k0, k1⟩ := HS.out _ (by have := hb2; rw [HZ.out] at this; exact this)
    have HB2 := Lib.hid hb2
    clear hb2
    go_wp2_with (first
      | (go_at_call 42; refine (HT.out _).mono ?_; rintro e w3 ⟨rfl, hb3⟩)
      | (go_at_call 55; refine (HY.out _).mono ?_; rintro e w4 ⟨rfl, hb4⟩; rw [show n - 1 - t + 1 = n - t by omega]))
    go_ret
    have hb := HB2.out.trans ((hb3.trans (hb4.mono hb3.size)).mono HB2.out.size)
    exact ⟨by unfold freeR; rw [h]; rfl, HB0.out.trans (hb.mono HB0.out.size)⟩
end Go.Proofs.YtkajcgpkldofjaaDoor.Rg
end

section
/-
  The numbers of a bound, one after another: the iterator's contract.
-/
namespace Go.Proofs.YtkajcgpkldofjaaDoor.Rg
set_option maxRecDepth 100000
open Go.RowKit Go.Shelf
attribute [local go_sem] Oper.semAt_some

def upto (a : Int) (k : Nat) : List Int := (List.range k).map fun (j : Nat) => a + (j : Int)
theorem upto_succ (a : Int) (k : Nat) : upto a (k + 1) = upto a k ++ [a + (k : Int)] := by simp [upto, List.range_succ]
theorem upto_length (a : Int) (k : Nat) : (upto a k).length = k := by simp [upto]

theorem many_at (a b : Int) (w : World) (h : -1000000000000000000 ≤ a ∧ a ≤ 1000000000000000000) (h' : -1000000000000000000 ≤ b ∧ b ≤ 1000000000000000000) :
    Calls Tryd.prog 55 #[.agg #[.int .i64 a, .int .i64 b]] w fun e w' => e = .returned (.int .i64 (b - a + 1)) ∧ w' = w.alloc (.cells #[.int .i64 a, .int .i64 b] 81) := by
  have hw : IntKind.i64.wrap (b - a) = b - a := wr64 (by omega)
  have hw' : IntKind.i64.wrap (b - a + 1) = b - a + 1 := wr64 (by omega)
  go_enter Tryd.func55, Tryd.ntmps55
  go_wp2
  go_ret
  exact ⟨rfl, rfl⟩
theorem each_at (a b : Int) (w : World) :
    Calls Tryd.prog 43 #[.agg #[.int .i64 a, .int .i64 b]] w fun e w' => e = .returned (.func (.func 56) #[] #[.pointer (some ⟨w.heap.size, 0, none⟩)]) ∧ w' = w.alloc (.cells #[.int .i64 a, .int .i64 b] 81) := by
  go_enter Tryd.func43, Tryd.ntmps43
  go_wp2
  go_ret
  exact ⟨rfl, rfl⟩

/-- Block B stays as it is. -/
def Stays (B : Nat) (W W' : World) : Prop := ∀ o, W.heap[B]? = some o → W'.heap[B]? = some o
theorem Stays.trans {B : Nat} {X Y Z : World} (h : Stays B X Y) (k : Stays B Y Z) : Stays B X Z := fun o ho => k o (h o ho)
theorem stays_put {B : Nat} {w : World} (h : B < w.heap.size) (W : World) (l : Nat) (o o' : Obj) (hl : w.heap.size ≤ l) (_ : W.heap[l]? = some o) (_ : o.isCells = false) (_ : o.isWalk = false) : Stays B W (W.putObj l o') :=
  fun _ ho => (World.putObj_heap_other (by omega)).trans ho
set_option maxRecDepth 100000 in
set_option maxHeartbeats 2000000 in
theorem each1_in (n : Nat) (hn : 2 ≤ n) (l Bs : Nat) (a : Int) (m : Nat) (ha : 0 ≤ a ∧ a ≤ 1099511627776000) (hm : m ≤ 1000) (J Jx : List Int → World → Prop) (W : World) (hJ : AbidesFrom W.heap.size J)
    (hY : ∀ pre x W, J pre W → pre.length < m → YieldAt Fence.wide (n - 1) Tryd.prog l #[.int .i64 x] W fun e W' =>
      (e = .returned (.bool true) ∧ J (pre ++ [x]) W' ∧ Stays Bs W W') ∨ (e = .returned (.bool false) ∧ Jx (pre ++ [x]) W'))
    (hb : W.heap[Bs]? = some (.cells #[.int .i64 a, .int .i64 (a + (m : Int) - 1)] 81 (0, 0))) (h0 : J [] W) :
    CallsIn Fence.wide n Tryd.prog 56 #[.func (.yield l) #[] #[], .pointer (some ⟨Bs, 0, none⟩)] W fun e W' => (∃ v, e = .returned v) ∧
      ((∃ ys, ys = upto a m ∧ J ys W') ∨ (∃ pre, True ∧ Jx pre W')) := by
  have HM := Lib.hid (many_at a (a + (m : Int) - 1) W (by omega) (by omega))
  have hcell : ∀ V : World, V.heap[Bs]? = some (.cells #[.int .i64 a, .int .i64 (a + (m : Int) - 1)] 81 (0, 0)) → V.cell? ⟨Bs, 0, none⟩ = some (.int .i64 a) ∧ V.cell? ⟨Bs, 1, none⟩ = some (.int .i64 (a + (m : Int) - 1)) := fun V hV =>
    ⟨cell_of_row V Bs 0 _ _ _ hV, cell_of_row V Bs 1 _ _ _ hV⟩
  obtain ⟨c0, c1⟩ := hcell W hb
  have HC := Lib.hid hcell
  have HJ := Lib.hid (hJ [] W (W.alloc (.cells #[.int .i64 a, .int .i64 (a + (m : Int) - 1)] 81)) none h0 (World.grownBy_alloc _ _ none) (fun r e => by cases e))
  have HB0 := Lib.hid ((Below.heap_alloc W (.cells #[.int .i64 a, .int .i64 (a + (m : Int) - 1)] 81) Bs (Array.getElem?_eq_some_iff.1 hb).1).trans hb)
  clear hcell h0 hJ hb
  refine callsIn_of_wp Tryd.func56 rfl trivial ?_ rfl
  simp only [Tryd.ntmps56, List.size_toArray, List.length_cons, List.length_nil, Nat.reduceAdd, Nat.reduceSub, Array.replicate_succ, Array.replicate_zero, List.push_toArray, List.append_toArray, List.nil_append, List.cons_append]
  gi_wp2_with fail
  refine ⟨trivial, fun _ => by omega, ?_⟩
  gi_at_call 55
  refine CallsIn.mono (callsIn_wide.2 HM.out) ?_
  rintro e w' ⟨rfl, rfl⟩
  rw [show a + (m : Int) - 1 - a + 1 = (m : Int) by omega]
  gi_wp2
  gi_loopw [6] (fun i wr => ∃ k : Nat, k ≤ m ∧ i = .int .i64 k ∧ J (upto a k) wr ∧ wr.heap[Bs]? = some (.cells #[.int .i64 a, .int .i64 (a + (m : Int) - 1)] 81 (0, 0)))
    (fun i _ => m - (intOf i).toNat)
  case atStart => exact ⟨0, Nat.zero_le _, rfl, HJ.out, HB0.out⟩
  case round =>
    obtain ⟨k, hk, rfl, hJs, hnx⟩ := hrel
    by_cases hlt : k < m
    · obtain ⟨d0, d1⟩ := HC.out wr hnx
      have HNX := Lib.hid hnx
      clear hnx
      have hw : IntKind.i64.wrap (a + (k : Int)) = a + (k : Int) := wr64 (by omega)
      have hw1 : IntKind.i64.wrap ((k : Int) + 1) = (k : Int) + 1 := wr64 (by omega)
      obtain ⟨fn, tmps, assign, body, hy, hR⟩ := hY _ (a + (k : Int)) wr hJs (by rw [upto_length]; exact hlt)
      gi_wp2
      refine ⟨fun _ => by omega, hR.mono ?_⟩
      rintro e W3 (⟨rfl, hJ3, hk3⟩ | ⟨rfl, hJx3⟩)
      · gi_wp2
        go_roundw
        case rel => exact ⟨k + 1, by omega, by simp, by rw [upto_succ]; exact hJ3, hk3 _ HNX.out⟩
        case measure => simp [intOf]; omega
      · gi_wp2
        refine bodyPost_ret (results_none rfl _ _ _) rfl ?_
        exact ⟨⟨_, rfl⟩, .inr ⟨_, trivial, hJx3⟩⟩
    · obtain rfl : k = m := by omega
      gi_wp2
      go_end0
      exact ⟨⟨_, rfl⟩, .inl ⟨_, rfl, hJs⟩⟩
theorem each_stops (n : Nat) (hn : 2 ≤ n) (Bs : Nat) (a : Int) (m : Nat) (ha : 0 ≤ a ∧ a ≤ 1099511627776000) (hm : m ≤ 1000) (w : World)
    (hb : w.heap[Bs]? = some (.cells #[.int .i64 a, .int .i64 (a + (m : Int) - 1)] 81 (0, 0))) :
    SeqStopsK Fence.wide n Tryd.prog 56 #[.pointer (some ⟨Bs, 0, none⟩)] (fun x : Int => #[Value.int .i64 x]) (Stays Bs) (fun ys => ys = upto a m) (fun _ => True) m w := fun l J Jx W hW hJ _ hY h0 =>
  each1_in n hn l Bs a m ha hm J Jx W hJ hY ((hW.block Bs (Array.getElem?_eq_some_iff.1 hb).1).trans hb) h0
end Go.Proofs.YtkajcgpkldofjaaDoor.Rg
end

section
/-
  Package ring, by contract: Take.
-/
namespace Go.Proofs.YtkajcgpkldofjaaDoor.Rg
set_option maxRecDepth 100000
open Go.RowKit Go.Shelf

theorem Tryd.infoL : (Tryd.prog.info? 23).map (·.size) = some 2 := by kernel_rfl
theorem Tryd.infoLs (a b : Int) : (Tryd.prog.info? 23).map (·.size) = some (#[.int .i64 a, .int .i64 b] : Array Value).size := Tryd.infoL
theorem one2 (a b : Int) : (#[.int .i64 a, .int .i64 b] : Array Value).all (·.oneCell') = true := by simp [Value.oneCell']
theorem size2 (a b c d : Int) : (#[.int .i64 a, .int .i64 b] : Array Value).size = (#[.int .i64 c, .int .i64 d] : Array Value).size := rfl
theorem Tryd.info3 : (Tryd.prog.info? 3).map (fun i => (i.zero, i.size, i.bytes)) = some (some (.int .i64 0), 1, 8) := by kernel_rfl
theorem results_cell_tmp2 {P : Program} {fn : Func} {p u v : Tmp} {t : TypeId} (h : fn.results = #[.cell p t, .tmp u, .tmp v]) (tmps : Array Value) (w : World) (g : Nat) (cs : Array Value) (fr : Nat × Nat) (d : TypeDesc)
    (hp : tmps.getD p undef = .pointer (some ⟨g, 0, none⟩)) (hg : w.heap[g]? = some (.cells cs t fr)) (hu : P.underlying t = some d) (hd : (match d with | .struct _ | .array _ _ => true | _ => false) = true) (hi : (P.info? t).map (·.size) = some cs.size) :
    (results fn tmps).run P w = .ok (.tuple #[.agg cs, tmps.getD u undef, tmps.getD v undef]) w := by
  have hp' : tmps[p]?.getD undef = .pointer (some ⟨g, 0, none⟩) := by simpa using hp
  simp [results, h, hp', asAddr, run_loadVar_row w g t t cs fr d hg hu hd hi]

/-- P5.2: which error Take answers -/
def takeE (t n k : Int) : Int := if mayB t n && (decide (0 ≤ k) && decide (k ≤ 24)) then (if decide (k ≤ freeR t n) && seqB (n + k) then 0 else 50) else 2

set_option maxHeartbeats 1000000 in
theorem take_nolog (t n k : Int) (w : World) (h : mayB t n = false) :
    Calls Tryd.prog 21 #[.agg #[.int .i64 t, .int .i64 n], .int .i64 k] w fun e w' => e = .returned (.tuple #[.agg #[.int .i64 0, .int .i64 0], .slice none 0 0, .int .i64 2]) ∧ Below w.heap.size w w' := by
  have HB0 := Lib.hid (((Below.refl w.heap.size w).alloc (Nat.le_refl _) (.cells #[.int .i64 t, .int .i64 n] 23)).alloc (by simp) (.cells #[.int .i64 0, .int .i64 0] 23))
  have HZ := Lib.hid (show ((w.alloc (.cells #[.int .i64 t, .int .i64 n] 23)).alloc (.cells #[.int .i64 0, .int .i64 0] 23)).heap.size = w.heap.size + 2 by simp)
  have HG := Lib.hid (show ∀ W, Below (w.heap.size + 2) ((w.alloc (.cells #[.int .i64 t, .int .i64 n] 23)).alloc (.cells #[.int .i64 0, .int .i64 0] 23)) W → W.heap[w.heap.size]? = some (.cells #[.int .i64 t, .int .i64 n] 23 (0, 0)) ∧ W.heap[w.heap.size + 1]? = some (.cells #[.int .i64 0, .int .i64 0] 23 (0, 0)) from fun W hb => by
    refine ⟨(hb.block _ (by omega)).trans ((Below.heap_alloc _ _ _ (by simp)).trans (heap_alloc_new w _)), (hb.block _ (by omega)).trans ?_⟩
    have h := heap_alloc_new (w.alloc (.cells #[.int .i64 t, .int .i64 n] 23)) (.cells #[.int .i64 0, .int .i64 0] 23)
    rwa [World.size_alloc] at h)
  go_enter Tryd.func21, Tryd.ntmps21
  go_wp2_with fail
  refine (may_any _ _ _).mono ?_
  rintro e w3 ⟨rfl, hb3⟩
  rw [h]
  have HB3 := Lib.hid (show Below (w.heap.size + 2) ((w.alloc (.cells #[.int .i64 t, .int .i64 n] 23)).alloc (.cells #[.int .i64 0, .int .i64 0] 23)) w3 by have := hb3; rw [HZ.out] at this; exact this)
  clear hb3
  obtain ⟨g0, g1⟩ := HG.out _ HB3.out
  go_wp2_with (refine wpList_store_row rfl 23 (.tmp 4) (.tmp 19) rfl (w.heap.size + 1) #[.int .i64 0, .int .i64 0] (by simp [Act.eval, Act.put]) (by simp [Act.eval, Act.put]) 23 #[.int .i64 0, .int .i64 0] g1 (Tryd.infoLs _ _) (size2 _ _ _ _) (one2 _ _) ?_)
  exact bodyPost_ret (results_cell_tmp2 rfl _ _ (w.heap.size + 1) #[.int .i64 0, .int .i64 0] (0, 0) _ rfl (setRow_heap _ _ _ _ _ _ g1) Tryd.underlying23 rfl Tryd.infoL) rfl ⟨rfl, below_setRow (HB0.out.trans (HB3.out.mono (by omega))) (by omega) _⟩

set_option maxHeartbeats 1000000 in
theorem take_nocount (t n k : Int) (w : World) (h : mayB t n = true) (hk : (decide (0 ≤ k) && decide (k ≤ 24)) = false) :
    Calls Tryd.prog 21 #[.agg #[.int .i64 t, .int .i64 n], .int .i64 k] w fun e w' => e = .returned (.tuple #[.agg #[.int .i64 0, .int .i64 0], .slice none 0 0, .int .i64 2]) ∧ Below w.heap.size w w' := by
  have HB0 := Lib.hid (((Below.refl w.heap.size w).alloc (Nat.le_refl _) (.cells #[.int .i64 t, .int .i64 n] 23)).alloc (by simp) (.cells #[.int .i64 0, .int .i64 0] 23))
  have HZ := Lib.hid (show ((w.alloc (.cells #[.int .i64 t, .int .i64 n] 23)).alloc (.cells #[.int .i64 0, .int .i64 0] 23)).heap.size = w.heap.size + 2 by simp)
  have HG := Lib.hid (show ∀ W, Below (w.heap.size + 2) ((w.alloc (.cells #[.int .i64 t, .int .i64 n] 23)).alloc (.cells #[.int .i64 0, .int .i64 0] 23)) W → W.heap[w.heap.size]? = some (.cells #[.int .i64 t, .int .i64 n] 23 (0, 0)) ∧ W.heap[w.heap.size + 1]? = some (.cells #[.int .i64 0, .int .i64 0] 23 (0, 0)) from fun W hb => by
    refine ⟨(hb.block _ (by omega)).trans ((Below.heap_alloc _ _ _ (by simp)).trans (heap_alloc_new w _)), (hb.block _ (by omega)).trans ?_⟩
    have h := heap_alloc_new (w.alloc (.cells #[.int .i64 t, .int .i64 n] 23)) (.cells #[.int .i64 0, .int .i64 0] 23)
    rwa [World.size_alloc] at h)
  go_enter Tryd.func21, Tryd.ntmps21
  go_wp2_with fail
  refine (may_any _ _ _).mono ?_
  rintro e w3 ⟨rfl, hb3⟩
  rw [h]
  have HB3 := Lib.hid (show Below (w.heap.size + 2) ((w.alloc (.cells #[.int .i64 t, .int .i64 n] 23)).alloc (.cells #[.int .i64 0, .int .i64 0] 23)) w3 by have := hb3; rw [HZ.out] at this; exact this)
  clear hb3
  go_wp2_with fail
  refine (count_any _).mono ?_
  rintro e w4 ⟨rfl, hb4⟩
  have HB4 := Lib.hid (HB3.out.trans (hb4.mono (by have := HB3.out.size; have := HZ.out; omega)))
  clear hb4
  go_wp2_with fail
  refine (has_any _ _ _ _).mono ?_
  rintro e w5 ⟨rfl, hb5⟩
  rw [hk]
  have HB5 := Lib.hid (HB4.out.trans (hb5.mono (by have := HB4.out.size; have := HZ.out; omega)))
  clear hb5
  obtain ⟨g0, g1⟩ := HG.out _ HB5.out
  go_wp2_with (refine wpList_store_row rfl 23 (.tmp 4) (.tmp 19) rfl (w.heap.size + 1) #[.int .i64 0, .int .i64 0] (by simp [Act.eval, Act.put]) (by simp [Act.eval, Act.put]) 23 #[.int .i64 0, .int .i64 0] g1 (Tryd.infoLs _ _) (size2 _ _ _ _) (one2 _ _) ?_)
  exact bodyPost_ret (results_cell_tmp2 rfl _ _ (w.heap.size + 1) #[.int .i64 0, .int .i64 0] (0, 0) _ rfl (setRow_heap _ _ _ _ _ _ g1) Tryd.underlying23 rfl Tryd.infoL) rfl ⟨rfl, below_setRow (HB0.out.trans (HB5.out.mono (by omega))) (by omega) _⟩

set_option maxHeartbeats 1000000 in
theorem take_full (t n k : Int) (w : World) (h : mayB t n = true) (hk : (decide (0 ≤ k) && decide (k ≤ 24)) = true) (hf : ¬ k ≤ freeR t n) :
    Calls Tryd.prog 21 #[.agg #[.int .i64 t, .int .i64 n], .int .i64 k] w fun e w' => e = .returned (.tuple #[.agg #[.int .i64 0, .int .i64 0], .slice none 0 0, .int .i64 50]) ∧ Below w.heap.size w w' := by
  have hm := mayB_true h
  have hk2 : 0 ≤ k ∧ k ≤ 24 := by simpa using hk
  have HD := Lib.hid (show decide (freeR t n < k) = true by simp; omega)
  clear hf
  have HB0 := Lib.hid (((Below.refl w.heap.size w).alloc (Nat.le_refl _) (.cells #[.int .i64 t, .int .i64 n] 23)).alloc (by simp) (.cells #[.int .i64 0, .int .i64 0] 23))
  have HZ := Lib.hid (show ((w.alloc (.cells #[.int .i64 t, .int .i64 n] 23)).alloc (.cells #[.int .i64 0, .int .i64 0] 23)).heap.size = w.heap.size + 2 by simp)
  have HG := Lib.hid (show ∀ W, Below (w.heap.size + 2) ((w.alloc (.cells #[.int .i64 t, .int .i64 n] 23)).alloc (.cells #[.int .i64 0, .int .i64 0] 23)) W → W.heap[w.heap.size]? = some (.cells #[.int .i64 t, .int .i64 n] 23 (0, 0)) ∧ W.heap[w.heap.size + 1]? = some (.cells #[.int .i64 0, .int .i64 0] 23 (0, 0)) from fun W hb => by
    refine ⟨(hb.block _ (by omega)).trans ((Below.heap_alloc _ _ _ (by simp)).trans (heap_alloc_new w _)), (hb.block _ (by omega)).trans ?_⟩
    have h := heap_alloc_new (w.alloc (.cells #[.int .i64 t, .int .i64 n] 23)) (.cells #[.int .i64 0, .int .i64 0] 23)
    rwa [World.size_alloc] at h)
  go_enter Tryd.func21, Tryd.ntmps21
  go_wp2_with fail
  refine (may_any _ _ _).mono ?_
  rintro e w3 ⟨rfl, hb3⟩
  rw [h]
  have HB3 := Lib.hid (show Below (w.heap.size + 2) ((w.alloc (.cells #[.int .i64 t, .int .i64 n] 23)).alloc (.cells #[.int .i64 0, .int .i64 0] 23)) w3 by have := hb3; rw [HZ.out] at this; exact this)
  clear hb3
  go_wp2_with fail
  refine (count_any _).mono ?_
  rintro e w4 ⟨rfl, hb4⟩
  have HB4 := Lib.hid (HB3.out.trans (hb4.mono (by have := HB3.out.size; have := HZ.out; omega)))
  clear hb4
  go_wp2_with fail
  refine (has_any _ _ _ _).mono ?_
  rintro e w5 ⟨rfl, hb5⟩
  rw [hk]
  have HB5 := Lib.hid (HB4.out.trans (hb5.mono (by have := HB4.out.size; have := HZ.out; omega)))
  clear hb5
  obtain ⟨g0, g1⟩ := HG.out _ HB5.out
  have HZ5 := Lib.hid (Nat.le_trans (by have := HZ.out; omega) HB5.out.size : w.heap.size + 2 ≤ w5.heap.size)
  have HG5 := Lib.hid (heap_alloc_new w5 (.cells #[.int .i64 0, .int .i64 0] 23))
  have HR5 := Lib.hid (setRow_heap _ w5.heap.size _ #[.int .i64 t, .int .i64 (n + k)] _ _ HG5.out)
  have HB6 := Lib.hid (below_setRow (HB5.out.alloc (by have := HZ5.out; omega) (.cells #[.int .i64 0, .int .i64 0] 23)) (by have := HZ5.out; omega) #[.int .i64 t, .int .i64 (n + k)] : Below (w.heap.size + 2) ((w.alloc (.cells #[.int .i64 t, .int .i64 n] 23)).alloc (.cells #[.int .i64 0, .int .i64 0] 23)) ((w5.alloc (.cells #[.int .i64 0, .int .i64 0] 23)).setRow w5.heap.size #[.int .i64 t, .int .i64 (n + k)]))
  have HN := Lib.hid (show ((w5.alloc (.cells #[.int .i64 0, .int .i64 0] 23)).setRow w5.heap.size #[.int .i64 t, .int .i64 (n + k)]).heap.size = w5.heap.size + 1 by simp [World.setRow])
  have c0 : w5.cell? ⟨w.heap.size, 0, none⟩ = some (.int .i64 t) := cell_of_row w5 w.heap.size 0 _ _ _ g0
  have c1 : w5.cell? ⟨w.heap.size, 1, none⟩ = some (.int .i64 n) := cell_of_row w5 w.heap.size 1 _ _ _ g0
  have hw : IntKind.i64.wrap (n + k) = n + k := wr64 (by omega)
  have HKk := Lib.hid hk
  have HMm := Lib.hid hm
  clear hk hm
  go_wp2_with (refine wpList_store_row rfl 23 (.tmp 7) (.tmp 26) rfl w5.heap.size #[.int .i64 t, .int .i64 (n + k)] (by simp [Act.eval, Act.put]) (by simp [Act.eval, Act.put]) 23 #[.int .i64 0, .int .i64 0] HG5.out (Tryd.infoLs _ _) (size2 _ _ _ _) (one2 _ _) ?_)
  obtain ⟨w6, hw6⟩ : ∃ w6, w6 = (w5.alloc (.cells #[.int .i64 0, .int .i64 0] 23)).setRow w5.heap.size #[.int .i64 t, .int .i64 (n + k)] := ⟨_, rfl⟩
  have HGR := Lib.hid (show ∀ W, Below w6.heap.size w6 W → W.heap[w.heap.size]? = some (.cells #[.int .i64 t, .int .i64 n] 23 (0, 0)) ∧ W.heap[w.heap.size + 1]? = some (.cells #[.int .i64 0, .int .i64 0] 23 (0, 0)) ∧ W.heap[w5.heap.size]? = some (.cells #[.int .i64 t, .int .i64 (n + k)] 23 (0, 0)) from fun W hW => by
    have hb6 := HB6.out
    have hn := HN.out
    have hr := HR5.out
    rw [← hw6] at hb6 hn hr
    have hz := HZ5.out
    obtain ⟨q0, q1⟩ := HG.out w6 hb6
    exact ⟨(hW.block _ (by omega)).trans q0, (hW.block _ (by omega)).trans q1, (hW.block _ (by omega)).trans hr⟩)
  have HB6' := Lib.hid (show Below (w.heap.size + 2) ((w.alloc (.cells #[.int .i64 t, .int .i64 n] 23)).alloc (.cells #[.int .i64 0, .int .i64 0] 23)) w6 by rw [hw6]; exact HB6.out)
  have HZ6 := Lib.hid (show w.heap.size + 2 ≤ w6.heap.size by rw [hw6, HN.out]; have := HZ5.out; omega)
  rw [← hw6]
  clear hw6 HB6 HN HR5 HG5
  have HS := Lib.hid (show ∀ W, Below w6.heap.size w6 W → W.cell? ⟨w.heap.size, 0, none⟩ = some (.int .i64 t) ∧ W.cell? ⟨w.heap.size, 1, none⟩ = some (.int .i64 n) ∧ W.cell? ⟨w5.heap.size, 1, none⟩ = some (.int .i64 (n + k)) from fun W hW => by
    obtain ⟨q0, _, q2⟩ := HGR.out W hW
    exact ⟨cell_of_row W _ 0 _ _ _ q0, cell_of_row W _ 1 _ _ _ q0, cell_of_row W _ 1 _ _ _ q2⟩)
  clear c0 c1 g0 g1
  refine wp_region_held_drew (S := fun W => W.cell? ⟨w.heap.size, 0, none⟩ = some (.int .i64 t) ∧ W.cell? ⟨w.heap.size, 1, none⟩ = some (.int .i64 n) ∧ W.cell? ⟨w5.heap.size, 1, none⟩ = some (.int .i64 (n + k))) (by kernel_rfl) (HS.out _ (Below.refl _ _).drew) (fun hHeld => ?_)
  refine wpAnyH_take (i := 0) (v := ?_) rfl (by kernel_rfl) (by kernel_rfl) (by kernel_rfl) (fun _ _ _ h => h) (Or.inl ⟨by rfl, ?_⟩) (by assumption) ?_
  rotate_left
  · simp only [List.getElem_toArray, List.getElem_cons_zero, List.getElem_cons_succ]; intro W hSw; (try dsimp only at hSw); go_simp; all_goals with_reducible rfl
  simp only [Act.put, List.getElem_toArray, List.getElem_cons_zero, List.getElem_cons_succ, List.setIfInBounds_toArray, List.set_cons_zero, List.set_cons_succ]
  refine wpAnyH_take (i := 1) (v := ?_) rfl (by kernel_rfl) (by kernel_rfl) (by kernel_rfl) (fun _ _ _ h => h) (Or.inl ⟨by rfl, ?_⟩) (by assumption) ?_
  rotate_left
  · simp only [List.getElem_toArray, List.getElem_cons_zero, List.getElem_cons_succ]; intro W hSw; (try dsimp only at hSw); go_simp; all_goals with_reducible rfl
  simp only [Act.put, List.getElem_toArray, List.getElem_cons_zero, List.getElem_cons_succ, List.setIfInBounds_toArray, List.set_cons_zero, List.set_cons_succ]
  refine wpAnyH_ready (rs := [2]) (by kernel_rfl) (by simp) ?_
  refine AllReadyH.cons rfl (fun K hK => ?_) AllReadyH.nil
  simp only [List.getElem_toArray, List.getElem_cons_zero, List.getElem_cons_succ]
  go_simp
  refine (free_any _ _ _).mono ?_
  rintro e w7 ⟨rfl, hb7⟩
  go_wp2_with fail
  have HB7 := Lib.hid ((Below.refl w6.heap.size w6).drew.trans hb7)
  clear hb7
  refine hK.out _ _ (HS.out _ HB7.out) (fun hHeldN => ?_)
  clear hK K hHeld
  have hHeld := hHeldN
  clear hHeldN
  (try simp only [Act.put, List.getElem_toArray, List.getElem_cons_zero, List.getElem_cons_succ, List.setIfInBounds_toArray, List.set_cons_zero, List.set_cons_succ])
  refine wpAnyH_take (i := 3) (v := ?_) rfl (by kernel_rfl) (by kernel_rfl) (by kernel_rfl) (fun _ _ _ h => h) (Or.inl ⟨by rfl, ?_⟩) (by assumption) ?_
  rotate_left
  · simp only [List.getElem_toArray, List.getElem_cons_zero, List.getElem_cons_succ]; intro W hSw; (try dsimp only at hSw); go_simp; all_goals with_reducible rfl
  simp only [Act.put, List.getElem_toArray, List.getElem_cons_zero, List.getElem_cons_succ, List.setIfInBounds_toArray, List.set_cons_zero, List.set_cons_succ]
  rw [HD.out]
  refine wpAnyH_take (i := 4) (v := ?_) rfl (by kernel_rfl) (by kernel_rfl) (by kernel_rfl) (fun _ _ _ h => h) (Or.inl ⟨by rfl, ?_⟩) (by assumption) ?_
  rotate_left
  · simp only [List.getElem_toArray, List.getElem_cons_zero, List.getElem_cons_succ]; intro W hSw; (try dsimp only at hSw); go_simp; all_goals with_reducible rfl
  simp only [Act.put, List.getElem_toArray, List.getElem_cons_zero, List.getElem_cons_succ, List.setIfInBounds_toArray, List.set_cons_zero, List.set_cons_succ]
  refine wpAnyH_take (i := 5) (v := undef) rfl (by kernel_rfl) (by kernel_rfl) (by kernel_rfl) (fun _ _ _ h => h) (Or.inr ⟨by rfl, rfl⟩) (by assumption) ?_
  (try simp only [Act.put, List.getElem_toArray, List.getElem_cons_zero, List.getElem_cons_succ, List.setIfInBounds_toArray, List.set_cons_zero, List.set_cons_succ])
  refine wpAnyH_take (i := 6) (v := undef) rfl (by kernel_rfl) (by kernel_rfl) (by kernel_rfl) (fun _ _ _ h => h) (Or.inr ⟨by rfl, rfl⟩) (by assumption) ?_
  (try simp only [Act.put, List.getElem_toArray, List.getElem_cons_zero, List.getElem_cons_succ, List.setIfInBounds_toArray, List.set_cons_zero, List.set_cons_succ])
  refine wpAnyH_take (i := 7) (v := undef) rfl (by kernel_rfl) (by kernel_rfl) (by kernel_rfl) (fun _ _ _ h => h) (Or.inr ⟨by rfl, rfl⟩) (by assumption) ?_
  (try simp only [Act.put, List.getElem_toArray, List.getElem_cons_zero, List.getElem_cons_succ, List.setIfInBounds_toArray, List.set_cons_zero, List.set_cons_succ])
  refine wpAnyH_take (i := 8) (v := undef) rfl (by kernel_rfl) (by kernel_rfl) (by kernel_rfl) (fun _ _ _ h => h) (Or.inr ⟨by rfl, rfl⟩) (by assumption) ?_
  (try simp only [Act.put, List.getElem_toArray, List.getElem_cons_zero, List.getElem_cons_succ, List.setIfInBounds_toArray, List.set_cons_zero, List.set_cons_succ])
  refine wpAnyH_take (i := 9) (v := undef) rfl (by kernel_rfl) (by kernel_rfl) (by kernel_rfl) (fun _ _ _ h => h) (Or.inr ⟨by rfl, rfl⟩) (by assumption) ?_
  (try simp only [Act.put, List.getElem_toArray, List.getElem_cons_zero, List.getElem_cons_succ, List.setIfInBounds_toArray, List.set_cons_zero, List.set_cons_succ])
  refine wpAnyH_take (i := 10) (v := ?_) rfl (by kernel_rfl) (by kernel_rfl) (by kernel_rfl) (fun _ _ _ h => h) (Or.inl ⟨by rfl, ?_⟩) (by assumption) ?_
  rotate_left
  · simp only [List.getElem_toArray, List.getElem_cons_zero, List.getElem_cons_succ]; intro W hSw; (try dsimp only at hSw); go_simp; all_goals with_reducible rfl
  simp only [Act.put, List.getElem_toArray, List.getElem_cons_zero, List.getElem_cons_succ, List.setIfInBounds_toArray, List.set_cons_zero, List.set_cons_succ]
  refine wpAnyH_done (by kernel_rfl) ?_ _
  obtain ⟨g0, g1, g2⟩ := HGR.out _ HB7.out
  go_wp2_with (refine wpList_store_row rfl 23 (.tmp 4) (.tmp 38) rfl (w.heap.size + 1) #[.int .i64 0, .int .i64 0] (by simp [Act.eval, Act.put]) (by simp [Act.eval, Act.put]) 23 #[.int .i64 0, .int .i64 0] g1 (Tryd.infoLs _ _) (size2 _ _ _ _) (one2 _ _) ?_)
  exact bodyPost_ret (results_cell_tmp2 rfl _ _ (w.heap.size + 1) #[.int .i64 0, .int .i64 0] (0, 0) _ rfl (setRow_heap _ _ _ _ _ _ g1) Tryd.underlying23 rfl Tryd.infoL) rfl ⟨rfl, below_setRow (HB0.out.trans ((HB6'.out.trans (HB7.out.mono HZ6.out)).mono (by omega))) (by omega) _⟩

set_option maxHeartbeats 1000000 in
theorem take_high (t n k : Int) (w : World) (h : mayB t n = true) (hk : (decide (0 ≤ k) && decide (k ≤ 24)) = true) (hf : k ≤ freeR t n) (hs : seqB (n + k) = false) :
    Calls Tryd.prog 21 #[.agg #[.int .i64 t, .int .i64 n], .int .i64 k] w fun e w' => e = .returned (.tuple #[.agg #[.int .i64 0, .int .i64 0], .slice none 0 0, .int .i64 50]) ∧ Below w.heap.size w w' := by
  have hm := mayB_true h
  have hk2 : 0 ≤ k ∧ k ≤ 24 := by simpa using hk
  have HD := Lib.hid (show decide (freeR t n < k) = false by simp; omega)
  clear hf
  have HB0 := Lib.hid (((Below.refl w.heap.size w).alloc (Nat.le_refl _) (.cells #[.int .i64 t, .int .i64 n] 23)).alloc (by simp) (.cells #[.int .i64 0, .int .i64 0] 23))
  have HZ := Lib.hid (show ((w.alloc (.cells #[.int .i64 t, .int .i64 n] 23)).alloc (.cells #[.int .i64 0, .int .i64 0] 23)).heap.size = w.heap.size + 2 by simp)
  have HG := Lib.hid (show ∀ W, Below (w.heap.size + 2) ((w.alloc (.cells #[.int .i64 t, .int .i64 n] 23)).alloc (.cells #[.int .i64 0, .int .i64 0] 23)) W → W.heap[w.heap.size]? = some (.cells #[.int .i64 t, .int .i64 n] 23 (0, 0)) ∧ W.heap[w.heap.size + 1]? = some (.cells #[.int .i64 0, .int .i64 0] 23 (0, 0)) from fun W hb => by
    refine ⟨(hb.block _ (by omega)).trans ((Below.heap_alloc _ _ _ (by simp)).trans (heap_alloc_new w _)), (hb.block _ (by omega)).trans ?_⟩
    have h := heap_alloc_new (w.alloc (.cells #[.int .i64 t, .int .i64 n] 23)) (.cells #[.int .i64 0, .int .i64 0] 23)
    rwa [World.size_alloc] at h)
  go_enter Tryd.func21, Tryd.ntmps21
  go_wp2_with fail
  refine (may_any _ _ _).mono ?_
  rintro e w3 ⟨rfl, hb3⟩
  rw [h]
  have HB3 := Lib.hid (show Below (w.heap.size + 2) ((w.alloc (.cells #[.int .i64 t, .int .i64 n] 23)).alloc (.cells #[.int .i64 0, .int .i64 0] 23)) w3 by have := hb3; rw [HZ.out] at this; exact this)
  clear hb3
  go_wp2_with fail
  refine (count_any _).mono ?_
  rintro e w4 ⟨rfl, hb4⟩
  have HB4 := Lib.hid (HB3.out.trans (hb4.mono (by have := HB3.out.size; have := HZ.out; omega)))
  clear hb4
  go_wp2_with fail
  refine (has_any _ _ _ _).mono ?_
  rintro e w5 ⟨rfl, hb5⟩
  rw [hk]
  have HB5 := Lib.hid (HB4.out.trans (hb5.mono (by have := HB4.out.size; have := HZ.out; omega)))
  clear hb5
  obtain ⟨g0, g1⟩ := HG.out _ HB5.out
  have HZ5 := Lib.hid (Nat.le_trans (by have := HZ.out; omega) HB5.out.size : w.heap.size + 2 ≤ w5.heap.size)
  have HG5 := Lib.hid (heap_alloc_new w5 (.cells #[.int .i64 0, .int .i64 0] 23))
  have HR5 := Lib.hid (setRow_heap _ w5.heap.size _ #[.int .i64 t, .int .i64 (n + k)] _ _ HG5.out)
  have HB6 := Lib.hid (below_setRow (HB5.out.alloc (by have := HZ5.out; omega) (.cells #[.int .i64 0, .int .i64 0] 23)) (by have := HZ5.out; omega) #[.int .i64 t, .int .i64 (n + k)] : Below (w.heap.size + 2) ((w.alloc (.cells #[.int .i64 t, .int .i64 n] 23)).alloc (.cells #[.int .i64 0, .int .i64 0] 23)) ((w5.alloc (.cells #[.int .i64 0, .int .i64 0] 23)).setRow w5.heap.size #[.int .i64 t, .int .i64 (n + k)]))
  have HN := Lib.hid (show ((w5.alloc (.cells #[.int .i64 0, .int .i64 0] 23)).setRow w5.heap.size #[.int .i64 t, .int .i64 (n + k)]).heap.size = w5.heap.size + 1 by simp [World.setRow])
  have c0 : w5.cell? ⟨w.heap.size, 0, none⟩ = some (.int .i64 t) := cell_of_row w5 w.heap.size 0 _ _ _ g0
  have c1 : w5.cell? ⟨w.heap.size, 1, none⟩ = some (.int .i64 n) := cell_of_row w5 w.heap.size 1 _ _ _ g0
  have hw : IntKind.i64.wrap (n + k) = n + k := wr64 (by omega)
  have HKk := Lib.hid hk
  have HMm := Lib.hid hm
  clear hk hm
  go_wp2_with (refine wpList_store_row rfl 23 (.tmp 7) (.tmp 26) rfl w5.heap.size #[.int .i64 t, .int .i64 (n + k)] (by simp [Act.eval, Act.put]) (by simp [Act.eval, Act.put]) 23 #[.int .i64 0, .int .i64 0] HG5.out (Tryd.infoLs _ _) (size2 _ _ _ _) (one2 _ _) ?_)
  obtain ⟨w6, hw6⟩ : ∃ w6, w6 = (w5.alloc (.cells #[.int .i64 0, .int .i64 0] 23)).setRow w5.heap.size #[.int .i64 t, .int .i64 (n + k)] := ⟨_, rfl⟩
  have HGR := Lib.hid (show ∀ W, Below w6.heap.size w6 W → W.heap[w.heap.size]? = some (.cells #[.int .i64 t, .int .i64 n] 23 (0, 0)) ∧ W.heap[w.heap.size + 1]? = some (.cells #[.int .i64 0, .int .i64 0] 23 (0, 0)) ∧ W.heap[w5.heap.size]? = some (.cells #[.int .i64 t, .int .i64 (n + k)] 23 (0, 0)) from fun W hW => by
    have hb6 := HB6.out
    have hn := HN.out
    have hr := HR5.out
    rw [← hw6] at hb6 hn hr
    have hz := HZ5.out
    obtain ⟨q0, q1⟩ := HG.out w6 hb6
    exact ⟨(hW.block _ (by omega)).trans q0, (hW.block _ (by omega)).trans q1, (hW.block _ (by omega)).trans hr⟩)
  have HB6' := Lib.hid (show Below (w.heap.size + 2) ((w.alloc (.cells #[.int .i64 t, .int .i64 n] 23)).alloc (.cells #[.int .i64 0, .int .i64 0] 23)) w6 by rw [hw6]; exact HB6.out)
  have HZ6 := Lib.hid (show w.heap.size + 2 ≤ w6.heap.size by rw [hw6, HN.out]; have := HZ5.out; omega)
  rw [← hw6]
  clear hw6 HB6 HN HR5 HG5
  have HS := Lib.hid (show ∀ W, Below w6.heap.size w6 W → W.cell? ⟨w.heap.size, 0, none⟩ = some (.int .i64 t) ∧ W.cell? ⟨w.heap.size, 1, none⟩ = some (.int .i64 n) ∧ W.cell? ⟨w5.heap.size, 1, none⟩ = some (.int .i64 (n + k)) from fun W hW => by
    obtain ⟨q0, _, q2⟩ := HGR.out W hW
    exact ⟨cell_of_row W _ 0 _ _ _ q0, cell_of_row W _ 1 _ _ _ q0, cell_of_row W _ 1 _ _ _ q2⟩)
  clear c0 c1 g0 g1
  refine wp_region_held_drew (S := fun W => W.cell? ⟨w.heap.size, 0, none⟩ = some (.int .i64 t) ∧ W.cell? ⟨w.heap.size, 1, none⟩ = some (.int .i64 n) ∧ W.cell? ⟨w5.heap.size, 1, none⟩ = some (.int .i64 (n + k))) (by kernel_rfl) (HS.out _ (Below.refl _ _).drew) (fun hHeld => ?_)
  refine wpAnyH_take (i := 0) (v := ?_) rfl (by kernel_rfl) (by kernel_rfl) (by kernel_rfl) (fun _ _ _ h => h) (Or.inl ⟨by rfl, ?_⟩) (by assumption) ?_
  rotate_left
  · simp only [List.getElem_toArray, List.getElem_cons_zero, List.getElem_cons_succ]; intro W hSw; (try dsimp only at hSw); go_simp; all_goals with_reducible rfl
  simp only [Act.put, List.getElem_toArray, List.getElem_cons_zero, List.getElem_cons_succ, List.setIfInBounds_toArray, List.set_cons_zero, List.set_cons_succ]
  refine wpAnyH_take (i := 1) (v := ?_) rfl (by kernel_rfl) (by kernel_rfl) (by kernel_rfl) (fun _ _ _ h => h) (Or.inl ⟨by rfl, ?_⟩) (by assumption) ?_
  rotate_left
  · simp only [List.getElem_toArray, List.getElem_cons_zero, List.getElem_cons_succ]; intro W hSw; (try dsimp only at hSw); go_simp; all_goals with_reducible rfl
  simp only [Act.put, List.getElem_toArray, List.getElem_cons_zero, List.getElem_cons_succ, List.setIfInBounds_toArray, List.set_cons_zero, List.set_cons_succ]
  refine wpAnyH_ready (rs := [2]) (by kernel_rfl) (by simp) ?_
  refine AllReadyH.cons rfl (fun K hK => ?_) AllReadyH.nil
  simp only [List.getElem_toArray, List.getElem_cons_zero, List.getElem_cons_succ]
  go_simp
  refine (free_any _ _ _).mono ?_
  rintro e w7 ⟨rfl, hb7⟩
  go_wp2_with fail
  have HB7 := Lib.hid ((Below.refl w6.heap.size w6).drew.trans hb7)
  clear hb7
  refine hK.out _ _ (HS.out _ HB7.out) (fun hHeldN => ?_)
  clear hK K hHeld
  have hHeld := hHeldN
  clear hHeldN
  (try simp only [Act.put, List.getElem_toArray, List.getElem_cons_zero, List.getElem_cons_succ, List.setIfInBounds_toArray, List.set_cons_zero, List.set_cons_succ])
  refine wpAnyH_take (i := 3) (v := ?_) rfl (by kernel_rfl) (by kernel_rfl) (by kernel_rfl) (fun _ _ _ h => h) (Or.inl ⟨by rfl, ?_⟩) (by assumption) ?_
  rotate_left
  · simp only [List.getElem_toArray, List.getElem_cons_zero, List.getElem_cons_succ]; intro W hSw; (try dsimp only at hSw); go_simp; all_goals with_reducible rfl
  simp only [Act.put, List.getElem_toArray, List.getElem_cons_zero, List.getElem_cons_succ, List.setIfInBounds_toArray, List.set_cons_zero, List.set_cons_succ]
  rw [HD.out]
  refine wpAnyH_take (i := 4) (v := ?_) rfl (by kernel_rfl) (by kernel_rfl) (by kernel_rfl) (fun _ _ _ h => h) (Or.inl ⟨by rfl, ?_⟩) (by assumption) ?_
  rotate_left
  · simp only [List.getElem_toArray, List.getElem_cons_zero, List.getElem_cons_succ]; intro W hSw; (try dsimp only at hSw); go_simp; all_goals with_reducible rfl
  simp only [Act.put, List.getElem_toArray, List.getElem_cons_zero, List.getElem_cons_succ, List.setIfInBounds_toArray, List.set_cons_zero, List.set_cons_succ]
  refine wpAnyH_take (i := 6) (v := ?_) rfl (by kernel_rfl) (by kernel_rfl) (by kernel_rfl) (fun _ _ _ h => h) (Or.inl ⟨by rfl, ?_⟩) (by assumption) ?_
  rotate_left
  · simp only [List.getElem_toArray, List.getElem_cons_zero, List.getElem_cons_succ]; intro W hSw; (try dsimp only at hSw); go_simp; all_goals with_reducible rfl
  simp only [Act.put, List.getElem_toArray, List.getElem_cons_zero, List.getElem_cons_succ, List.setIfInBounds_toArray, List.set_cons_zero, List.set_cons_succ]
  refine wpAnyH_take (i := 7) (v := ?_) rfl (by kernel_rfl) (by kernel_rfl) (by kernel_rfl) (fun _ _ _ h => h) (Or.inl ⟨by rfl, ?_⟩) (by assumption) ?_
  rotate_left
  · simp only [List.getElem_toArray, List.getElem_cons_zero, List.getElem_cons_succ]; intro W hSw; (try dsimp only at hSw); go_simp; all_goals with_reducible rfl
  simp only [Act.put, List.getElem_toArray, List.getElem_cons_zero, List.getElem_cons_succ, List.setIfInBounds_toArray, List.set_cons_zero, List.set_cons_succ]
  refine wpAnyH_ready (rs := [5]) (by kernel_rfl) (by simp) ?_
  refine AllReadyH.cons rfl (fun K hK => ?_) AllReadyH.nil
  simp only [List.getElem_toArray, List.getElem_cons_zero, List.getElem_cons_succ]
  go_simp
  refine (sequence_any _).mono ?_
  rintro e w8 ⟨rfl, hb8⟩
  go_wp2_with fail
  have HB8 := Lib.hid (HB7.out.trans (hb8.mono HB7.out.size))
  clear hb8
  refine hK.out _ _ (HS.out _ HB8.out) (fun hHeldN => ?_)
  clear hK K hHeld
  have hHeld := hHeldN
  clear hHeldN
  (try simp only [Act.put, List.getElem_toArray, List.getElem_cons_zero, List.getElem_cons_succ, List.setIfInBounds_toArray, List.set_cons_zero, List.set_cons_succ])
  refine wpAnyH_ready (rs := [8]) (by kernel_rfl) (by simp) ?_
  refine AllReadyH.cons rfl (fun K hK => ?_) AllReadyH.nil
  simp only [List.getElem_toArray, List.getElem_cons_zero, List.getElem_cons_succ]
  go_simp
  refine (has_any _ _ _ _).mono ?_
  rintro e w9 ⟨rfl, hb9⟩
  rw [show (decide (1 ≤ n + k) && decide (n + k ≤ 1099511627776)) = _ from hs]
  go_wp2_with fail
  have HB9 := Lib.hid (HB8.out.trans (hb9.mono HB8.out.size))
  clear hb9
  refine hK.out _ _ (HS.out _ HB9.out) (fun hHeldN => ?_)
  clear hK K hHeld
  have hHeld := hHeldN
  clear hHeldN
  (try simp only [Act.put, List.getElem_toArray, List.getElem_cons_zero, List.getElem_cons_succ, List.setIfInBounds_toArray, List.set_cons_zero, List.set_cons_succ])
  refine wpAnyH_take (i := 9) (v := ?_) rfl (by kernel_rfl) (by kernel_rfl) (by kernel_rfl) (fun _ _ _ h => h) (Or.inl ⟨by rfl, ?_⟩) (by assumption) ?_
  rotate_left
  · simp only [List.getElem_toArray, List.getElem_cons_zero, List.getElem_cons_succ]; intro W hSw; (try dsimp only at hSw); go_simp; all_goals with_reducible rfl
  simp only [Act.put, List.getElem_toArray, List.getElem_cons_zero, List.getElem_cons_succ, List.setIfInBounds_toArray, List.set_cons_zero, List.set_cons_succ]
  refine wpAnyH_take (i := 10) (v := ?_) rfl (by kernel_rfl) (by kernel_rfl) (by kernel_rfl) (fun _ _ _ h => h) (Or.inl ⟨by rfl, ?_⟩) (by assumption) ?_
  rotate_left
  · simp only [List.getElem_toArray, List.getElem_cons_zero, List.getElem_cons_succ]; intro W hSw; (try dsimp only at hSw); go_simp; all_goals with_reducible rfl
  simp only [Act.put, List.getElem_toArray, List.getElem_cons_zero, List.getElem_cons_succ, List.setIfInBounds_toArray, List.set_cons_zero, List.set_cons_succ]
  refine wpAnyH_done (by kernel_rfl) ?_ _
  obtain ⟨g0, g1, g2⟩ := HGR.out _ HB9.out
  go_wp2_with (refine wpList_store_row rfl 23 (.tmp 4) (.tmp 38) rfl (w.heap.size + 1) #[.int .i64 0, .int .i64 0] (by simp [Act.eval, Act.put]) (by simp [Act.eval, Act.put]) 23 #[.int .i64 0, .int .i64 0] g1 (Tryd.infoLs _ _) (size2 _ _ _ _) (one2 _ _) ?_)
  exact bodyPost_ret (results_cell_tmp2 rfl _ _ (w.heap.size + 1) #[.int .i64 0, .int .i64 0] (0, 0) _ rfl (setRow_heap _ _ _ _ _ _ g1) Tryd.underlying23 rfl Tryd.infoL) rfl ⟨rfl, below_setRow (HB0.out.trans ((HB6'.out.trans (HB9.out.mono HZ6.out)).mono (by omega))) (by omega) _⟩

theorem owns_below {w w' : World} {base : Nat} {e : TypeId} {v : Value} {n : Nat} {xs : List Value} (h : w.ownsRow base e 1 v n xs) (hb : Below w.heap.size w w') : w'.ownsRow base e 1 v n xs := by
  obtain ⟨h1, h2⟩ := h
  refine ⟨h1, ?_⟩
  rcases h2 with h2 | ⟨g, cap, cur, hv, hg, hh, r⟩
  · exact Or.inl h2
  · exact Or.inr ⟨g, cap, cur, hv, hg, (hb.block g (Array.getElem?_eq_some_iff.1 hh).1).trans hh, r⟩
theorem bound_stays {W w1 : World} {Bs B n0 k : Nat} {tB : TypeId} {cs : Array Value} {v tmpv : Value} {tt : TypeId} {xs : List Value} (hbs : W.heap[Bs]? = some (.cells cs tB (0, 0))) (hne : tB ≠ 3) (hrow : W.ownsRow n0 3 1 v k xs)
    (hgrow : (W.alloc (.cells #[tmpv] tt)).grownBy w1 v.ownBlock) (hB : Bs ≠ B) (v' : Value) : (w1.setCell ⟨B, 0, none⟩ v').heap[Bs]? = W.heap[Bs]? := by
  have hlt := (Array.getElem?_eq_some_iff.1 hbs).1
  refine (Below.heap_setCell _ _ _ Bs hB).trans ((hgrow.block Bs (by simp; omega) ?_).trans (Below.heap_alloc _ _ _ hlt))
  rcases hrow.2 with ⟨rfl, _⟩ | ⟨g, cap, cur, rfl, _, hh, _⟩
  · simp [Value.ownBlock]
  · intro e
    obtain rfl : Bs = g := by simpa [Value.ownBlock] using e
    rw [hbs] at hh
    simp at hh
    exact hne hh.2
theorem owns_put {W : World} {base base' g D k : Nat} {e : TypeId} {v : Value} {xs : List Value} {o : Obj} (h : W.ownsRow base e 1 v k xs) (hb : base' ≤ base) (hg : g < base) (cs : Array Value) (hD : W.heap[D]? = some (.deferred (some []))) :
    ((W.drew.setRow g cs).putObj D o).ownsRow base' e 1 v k xs := by
  obtain ⟨h1, h2⟩ := h
  refine ⟨h1, ?_⟩
  rcases h2 with h2 | ⟨g', cap, cur, hv, hg', hh, r⟩
  · exact Or.inl h2
  · refine Or.inr ⟨g', cap, cur, hv, by omega, ?_, r⟩
    rw [World.putObj_heap_other (fun e => by subst e; rw [hD] at hh; cases hh), setRow_other _ _ _ _ (by omega)]
    exact hh
/-- between two rounds: the box holds a slice of what has come; what lay below n0 and the bound's block are as they were -/
def Coll (B n0 : Nat) (w0 : World) (Bs : Nat) (bound : Obj) (pre : List Int) (W : World) : Prop :=
  (∃ v, Boxed W B 44 v ∧ W.ownsRow n0 3 1 v pre.length (pre.map (Value.int .i64)) ∧ True) ∧ Below n0 w0 W ∧ W.heap[Bs]? = some bound
theorem coll_own {B n0 Bs F : Nat} {w0 : World} {bound : Obj} (hb : bound.isCells = true) (hn : n0 ≤ w0.heap.size) (hF : n0 ≤ F) : OwnFrom F (Coll B n0 w0 Bs bound) :=
  OwnFrom.and (Own.from (holdsRow_own n0 B 44 3 1 (fun (pre : List Int) => pre.length) (fun pre => pre.map (Value.int .i64)) (fun _ _ => True)) _)
    (OwnFrom.and (ownFrom_below hn hF) (fun _ X Y row hs hg hr => (hg.block Bs (Array.getElem?_eq_some_iff.1 hs).1 (fun e => by
      obtain ⟨_, o, ho, hc⟩ := hr Bs e.symm
      rw [hs] at ho; cases ho; rw [hb] at hc; cases hc)).trans hs))
attribute [local go_sem] Oper.semAt_some
/-- no way out by a panic -/
def Calm (Q : Exit → Act → World → Prop) : Exit → Act → World → Prop
  | .panic _, _, _ => False
  | .outgrown, _, _ => False
  | e, a, w => Q e a w
theorem calm_wp {P : Program} {c : Code} {Q : Exit → Act → World → Prop} {a : Act} {w : World} (h : c.wp P (Calm Q) a w) : c.wp P Q a w :=
  wp_mono h fun e a w h => by cases e <;> first | exact h | exact h.elim
set_option maxHeartbeats 2000000 in
theorem take_ok (t n : Int) (k : Nat) (w : World) (h : mayB t n = true) (hk : (decide (0 ≤ (k : Int)) && decide ((k : Int) ≤ 24)) = true) (hf : (k : Int) ≤ freeR t n) (hs : seqB (n + (k : Int)) = true) :
    Calls Tryd.prog 21 #[.agg #[.int .i64 t, .int .i64 n], .int .i64 (k : Int)] w fun e w' => ∃ v, e = .returned (.tuple #[.agg #[.int .i64 t, .int .i64 (n + (k : Int))], v, .int .i64 0]) ∧
      w'.ownsRow w.heap.size 3 1 v k ((upto n k).map (Value.int .i64)) ∧ Below w.heap.size w w' := by
  have hm := mayB_true h
  have hk2 : 0 ≤ (k : Int) ∧ (k : Int) ≤ 24 := by simpa using hk
  have HD := Lib.hid (show decide (freeR t n < (k : Int)) = false by simp; omega)
  clear hf
  have HB0 := Lib.hid (((Below.refl w.heap.size w).alloc (Nat.le_refl _) (.cells #[.int .i64 t, .int .i64 n] 23)).alloc (by simp) (.cells #[.int .i64 0, .int .i64 0] 23))
  have HZ := Lib.hid (show ((w.alloc (.cells #[.int .i64 t, .int .i64 n] 23)).alloc (.cells #[.int .i64 0, .int .i64 0] 23)).heap.size = w.heap.size + 2 by simp)
  have HG := Lib.hid (show ∀ W, Below (w.heap.size + 2) ((w.alloc (.cells #[.int .i64 t, .int .i64 n] 23)).alloc (.cells #[.int .i64 0, .int .i64 0] 23)) W → W.heap[w.heap.size]? = some (.cells #[.int .i64 t, .int .i64 n] 23 (0, 0)) ∧ W.heap[w.heap.size + 1]? = some (.cells #[.int .i64 0, .int .i64 0] 23 (0, 0)) from fun W hb => by
    refine ⟨(hb.block _ (by omega)).trans ((Below.heap_alloc _ _ _ (by simp)).trans (heap_alloc_new w _)), (hb.block _ (by omega)).trans ?_⟩
    have h := heap_alloc_new (w.alloc (.cells #[.int .i64 t, .int .i64 n] 23)) (.cells #[.int .i64 0, .int .i64 0] 23)
    rwa [World.size_alloc] at h)
  refine (callsIn_wide (n := 5)).1 ?_
  refine callsIn_of_wp_marks Tryd.func21 rfl trivial ?_ rfl
  simp only [Tryd.ntmps21, List.size_toArray, List.length_cons, List.length_nil, Nat.reduceAdd, Nat.reduceSub, Array.replicate_succ, Array.replicate_zero, List.push_toArray, List.append_toArray, List.nil_append, List.cons_append]
  refine wpIn_wide.2 (calm_wp ?_)
  go_wp2_with fail
  refine (may_any _ _ _).mono ?_
  rintro e w3 ⟨rfl, hb3⟩
  rw [h]
  have HB3 := Lib.hid (show Below (w.heap.size + 2) ((w.alloc (.cells #[.int .i64 t, .int .i64 n] 23)).alloc (.cells #[.int .i64 0, .int .i64 0] 23)) w3 by have := hb3; rw [HZ.out] at this; exact this)
  clear hb3
  go_wp2_with fail
  refine (count_any _).mono ?_
  rintro e w4 ⟨rfl, hb4⟩
  have HB4 := Lib.hid (HB3.out.trans (hb4.mono (by have := HB3.out.size; have := HZ.out; omega)))
  clear hb4
  go_wp2_with fail
  refine (has_any _ _ _ _).mono ?_
  rintro e w5 ⟨rfl, hb5⟩
  rw [hk]
  have HB5 := Lib.hid (HB4.out.trans (hb5.mono (by have := HB4.out.size; have := HZ.out; omega)))
  clear hb5
  obtain ⟨g0, g1⟩ := HG.out _ HB5.out
  have HZ5 := Lib.hid (Nat.le_trans (by have := HZ.out; omega) HB5.out.size : w.heap.size + 2 ≤ w5.heap.size)
  have HG5 := Lib.hid (heap_alloc_new w5 (.cells #[.int .i64 0, .int .i64 0] 23))
  have HR5 := Lib.hid (setRow_heap _ w5.heap.size _ #[.int .i64 t, .int .i64 (n + k)] _ _ HG5.out)
  have HB6 := Lib.hid (below_setRow (HB5.out.alloc (by have := HZ5.out; omega) (.cells #[.int .i64 0, .int .i64 0] 23)) (by have := HZ5.out; omega) #[.int .i64 t, .int .i64 (n + k)] : Below (w.heap.size + 2) ((w.alloc (.cells #[.int .i64 t, .int .i64 n] 23)).alloc (.cells #[.int .i64 0, .int .i64 0] 23)) ((w5.alloc (.cells #[.int .i64 0, .int .i64 0] 23)).setRow w5.heap.size #[.int .i64 t, .int .i64 (n + k)]))
  have HN := Lib.hid (show ((w5.alloc (.cells #[.int .i64 0, .int .i64 0] 23)).setRow w5.heap.size #[.int .i64 t, .int .i64 (n + k)]).heap.size = w5.heap.size + 1 by simp [World.setRow])
  have c0 : w5.cell? ⟨w.heap.size, 0, none⟩ = some (.int .i64 t) := cell_of_row w5 w.heap.size 0 _ _ _ g0
  have c1 : w5.cell? ⟨w.heap.size, 1, none⟩ = some (.int .i64 n) := cell_of_row w5 w.heap.size 1 _ _ _ g0
  have hw : IntKind.i64.wrap (n + k) = n + k := wr64 (by omega)
  have HKk := Lib.hid hk
  have HMm := Lib.hid hm
  clear hk hm
  go_wp2_with (refine wpList_store_row rfl 23 (.tmp 7) (.tmp 26) rfl w5.heap.size #[.int .i64 t, .int .i64 (n + k)] (by simp [Act.eval, Act.put]) (by simp [Act.eval, Act.put]) 23 #[.int .i64 0, .int .i64 0] HG5.out (Tryd.infoLs _ _) (size2 _ _ _ _) (one2 _ _) ?_)
  obtain ⟨w6, hw6⟩ : ∃ w6, w6 = (w5.alloc (.cells #[.int .i64 0, .int .i64 0] 23)).setRow w5.heap.size #[.int .i64 t, .int .i64 (n + k)] := ⟨_, rfl⟩
  have HGR := Lib.hid (show ∀ W, Below w6.heap.size w6 W → W.heap[w.heap.size]? = some (.cells #[.int .i64 t, .int .i64 n] 23 (0, 0)) ∧ W.heap[w.heap.size + 1]? = some (.cells #[.int .i64 0, .int .i64 0] 23 (0, 0)) ∧ W.heap[w5.heap.size]? = some (.cells #[.int .i64 t, .int .i64 (n + k)] 23 (0, 0)) from fun W hW => by
    have hb6 := HB6.out
    have hn := HN.out
    have hr := HR5.out
    rw [← hw6] at hb6 hn hr
    have hz := HZ5.out
    obtain ⟨q0, q1⟩ := HG.out w6 hb6
    exact ⟨(hW.block _ (by omega)).trans q0, (hW.block _ (by omega)).trans q1, (hW.block _ (by omega)).trans hr⟩)
  have HB6' := Lib.hid (show Below (w.heap.size + 2) ((w.alloc (.cells #[.int .i64 t, .int .i64 n] 23)).alloc (.cells #[.int .i64 0, .int .i64 0] 23)) w6 by rw [hw6]; exact HB6.out)
  have HZ6 := Lib.hid (show w.heap.size + 2 ≤ w6.heap.size by rw [hw6, HN.out]; have := HZ5.out; omega)
  rw [← hw6]
  clear hw6 HB6 HN HR5 HG5
  have HS := Lib.hid (show ∀ W, Below w6.heap.size w6 W → W.cell? ⟨w.heap.size, 0, none⟩ = some (.int .i64 t) ∧ W.cell? ⟨w.heap.size, 1, none⟩ = some (.int .i64 n) ∧ W.cell? ⟨w5.heap.size, 1, none⟩ = some (.int .i64 (n + k)) from fun W hW => by
    obtain ⟨q0, _, q2⟩ := HGR.out W hW
    exact ⟨cell_of_row W _ 0 _ _ _ q0, cell_of_row W _ 1 _ _ _ q0, cell_of_row W _ 1 _ _ _ q2⟩)
  clear c0 c1 g0 g1
  refine wp_region_held_drew (S := fun W => W.cell? ⟨w.heap.size, 0, none⟩ = some (.int .i64 t) ∧ W.cell? ⟨w.heap.size, 1, none⟩ = some (.int .i64 n) ∧ W.cell? ⟨w5.heap.size, 1, none⟩ = some (.int .i64 (n + k))) (by kernel_rfl) (HS.out _ (Below.refl _ _).drew) (fun hHeld => ?_)
  refine wpAnyH_take (i := 0) (v := ?_) rfl (by kernel_rfl) (by kernel_rfl) (by kernel_rfl) (fun _ _ _ h => h) (Or.inl ⟨by rfl, ?_⟩) (by assumption) ?_
  rotate_left
  · simp only [List.getElem_toArray, List.getElem_cons_zero, List.getElem_cons_succ]; intro W hSw; (try dsimp only at hSw); go_simp; all_goals with_reducible rfl
  simp only [Act.put, List.getElem_toArray, List.getElem_cons_zero, List.getElem_cons_succ, List.setIfInBounds_toArray, List.set_cons_zero, List.set_cons_succ]
  refine wpAnyH_take (i := 1) (v := ?_) rfl (by kernel_rfl) (by kernel_rfl) (by kernel_rfl) (fun _ _ _ h => h) (Or.inl ⟨by rfl, ?_⟩) (by assumption) ?_
  rotate_left
  · simp only [List.getElem_toArray, List.getElem_cons_zero, List.getElem_cons_succ]; intro W hSw; (try dsimp only at hSw); go_simp; all_goals with_reducible rfl
  simp only [Act.put, List.getElem_toArray, List.getElem_cons_zero, List.getElem_cons_succ, List.setIfInBounds_toArray, List.set_cons_zero, List.set_cons_succ]
  refine wpAnyH_ready (rs := [2]) (by kernel_rfl) (by simp) ?_
  refine AllReadyH.cons rfl (fun K hK => ?_) AllReadyH.nil
  simp only [List.getElem_toArray, List.getElem_cons_zero, List.getElem_cons_succ]
  go_simp
  refine (free_any _ _ _).mono ?_
  rintro e w7 ⟨rfl, hb7⟩
  go_wp2_with fail
  have HB7 := Lib.hid ((Below.refl w6.heap.size w6).drew.trans hb7)
  clear hb7
  refine hK.out _ _ (HS.out _ HB7.out) (fun hHeldN => ?_)
  clear hK K hHeld
  have hHeld := hHeldN
  clear hHeldN
  (try simp only [Act.put, List.getElem_toArray, List.getElem_cons_zero, List.getElem_cons_succ, List.setIfInBounds_toArray, List.set_cons_zero, List.set_cons_succ])
  refine wpAnyH_take (i := 3) (v := ?_) rfl (by kernel_rfl) (by kernel_rfl) (by kernel_rfl) (fun _ _ _ h => h) (Or.inl ⟨by rfl, ?_⟩) (by assumption) ?_
  rotate_left
  · simp only [List.getElem_toArray, List.getElem_cons_zero, List.getElem_cons_succ]; intro W hSw; (try dsimp only at hSw); go_simp; all_goals with_reducible rfl
  simp only [Act.put, List.getElem_toArray, List.getElem_cons_zero, List.getElem_cons_succ, List.setIfInBounds_toArray, List.set_cons_zero, List.set_cons_succ]
  rw [HD.out]
  refine wpAnyH_take (i := 4) (v := ?_) rfl (by kernel_rfl) (by kernel_rfl) (by kernel_rfl) (fun _ _ _ h => h) (Or.inl ⟨by rfl, ?_⟩) (by assumption) ?_
  rotate_left
  · simp only [List.getElem_toArray, List.getElem_cons_zero, List.getElem_cons_succ]; intro W hSw; (try dsimp only at hSw); go_simp; all_goals with_reducible rfl
  simp only [Act.put, List.getElem_toArray, List.getElem_cons_zero, List.getElem_cons_succ, List.setIfInBounds_toArray, List.set_cons_zero, List.set_cons_succ]
  refine wpAnyH_take (i := 6) (v := ?_) rfl (by kernel_rfl) (by kernel_rfl) (by kernel_rfl) (fun _ _ _ h => h) (Or.inl ⟨by rfl, ?_⟩) (by assumption) ?_
  rotate_left
  · simp only [List.getElem_toArray, List.getElem_cons_zero, List.getElem_cons_succ]; intro W hSw; (try dsimp only at hSw); go_simp; all_goals with_reducible rfl
  simp only [Act.put, List.getElem_toArray, List.getElem_cons_zero, List.getElem_cons_succ, List.setIfInBounds_toArray, List.set_cons_zero, List.set_cons_succ]
  refine wpAnyH_take (i := 7) (v := ?_) rfl (by kernel_rfl) (by kernel_rfl) (by kernel_rfl) (fun _ _ _ h => h) (Or.inl ⟨by rfl, ?_⟩) (by assumption) ?_
  rotate_left
  · simp only [List.getElem_toArray, List.getElem_cons_zero, List.getElem_cons_succ]; intro W hSw; (try dsimp only at hSw); go_simp; all_goals with_reducible rfl
  simp only [Act.put, List.getElem_toArray, List.getElem_cons_zero, List.getElem_cons_succ, List.setIfInBounds_toArray, List.set_cons_zero, List.set_cons_succ]
  refine wpAnyH_ready (rs := [5]) (by kernel_rfl) (by simp) ?_
  refine AllReadyH.cons rfl (fun K hK => ?_) AllReadyH.nil
  simp only [List.getElem_toArray, List.getElem_cons_zero, List.getElem_cons_succ]
  go_simp
  refine (sequence_any _).mono ?_
  rintro e w8 ⟨rfl, hb8⟩
  go_wp2_with fail
  have HB8 := Lib.hid (HB7.out.trans (hb8.mono HB7.out.size))
  clear hb8
  refine hK.out _ _ (HS.out _ HB8.out) (fun hHeldN => ?_)
  clear hK K hHeld
  have hHeld := hHeldN
  clear hHeldN
  (try simp only [Act.put, List.getElem_toArray, List.getElem_cons_zero, List.getElem_cons_succ, List.setIfInBounds_toArray, List.set_cons_zero, List.set_cons_succ])
  refine wpAnyH_ready (rs := [8]) (by kernel_rfl) (by simp) ?_
  refine AllReadyH.cons rfl (fun K hK => ?_) AllReadyH.nil
  simp only [List.getElem_toArray, List.getElem_cons_zero, List.getElem_cons_succ]
  go_simp
  refine (has_any _ _ _ _).mono ?_
  rintro e w9 ⟨rfl, hb9⟩
  rw [show (decide (1 ≤ n + k) && decide (n + k ≤ 1099511627776)) = _ from hs]
  go_wp2_with fail
  have HB9 := Lib.hid (HB8.out.trans (hb9.mono HB8.out.size))
  clear hb9
  refine hK.out _ _ (HS.out _ HB9.out) (fun hHeldN => ?_)
  clear hK K hHeld
  have hHeld := hHeldN
  clear hHeldN
  (try simp only [Act.put, List.getElem_toArray, List.getElem_cons_zero, List.getElem_cons_succ, List.setIfInBounds_toArray, List.set_cons_zero, List.set_cons_succ])
  refine wpAnyH_take (i := 9) (v := ?_) rfl (by kernel_rfl) (by kernel_rfl) (by kernel_rfl) (fun _ _ _ h => h) (Or.inl ⟨by rfl, ?_⟩) (by assumption) ?_
  rotate_left
  · simp only [List.getElem_toArray, List.getElem_cons_zero, List.getElem_cons_succ]; intro W hSw; (try dsimp only at hSw); go_simp; all_goals with_reducible rfl
  simp only [Act.put, List.getElem_toArray, List.getElem_cons_zero, List.getElem_cons_succ, List.setIfInBounds_toArray, List.set_cons_zero, List.set_cons_succ]
  refine wpAnyH_take (i := 10) (v := ?_) rfl (by kernel_rfl) (by kernel_rfl) (by kernel_rfl) (fun _ _ _ h => h) (Or.inl ⟨by rfl, ?_⟩) (by assumption) ?_
  rotate_left
  · simp only [List.getElem_toArray, List.getElem_cons_zero, List.getElem_cons_succ]; intro W hSw; (try dsimp only at hSw); go_simp; all_goals with_reducible rfl
  simp only [Act.put, List.getElem_toArray, List.getElem_cons_zero, List.getElem_cons_succ, List.setIfInBounds_toArray, List.set_cons_zero, List.set_cons_succ]
  refine wpAnyH_done (by kernel_rfl) ?_ _
  obtain ⟨g0, g1, g2⟩ := HGR.out _ HB9.out
  have hbw := HB6'.out.trans (HB9.out.mono HZ6.out)
  have HBW := Lib.hid hbw
  have HZ9 := Lib.hid (Nat.le_trans HZ6.out HB9.out.size : w.heap.size + 2 ≤ w9.heap.size)
  obtain ⟨i0, hi, hz0, hz1, hz2⟩ := info_parts Tryd.info3
  obtain ⟨w10, hmk, hown, hg10⟩ := run_make_own (P := Tryd.prog) w9 w9.heap.size 44 3 i0 (.int .i64 0) 1 Tryd.underlying44 hi hz0 hz1 .i64 .i64 k (by rw [hz2]; omega) (by unfold maxLen; omega) (Nat.le_refl _)
  obtain ⟨w11, hw11⟩ : ∃ w11, w11 = w10.alloc (.cells #[.slice (some ⟨w9.heap.size, 0, none⟩) 0 k] 44) := ⟨_, rfl⟩
  have hb11 : Below w9.heap.size w9 w11 := by rw [hw11]; exact ((Below.refl _ w9).grown hg10 (Nat.le_refl _) (fun _ e => by cases e)).alloc hg10.size _
  have HG11 := Lib.hid (show w11.heap[w.heap.size]? = some (.cells #[.int .i64 t, .int .i64 n] 23 (0, 0)) ∧ w11.heap[w.heap.size + 1]? = some (.cells #[.int .i64 0, .int .i64 0] 23 (0, 0)) ∧ w11.heap[w5.heap.size]? = some (.cells #[.int .i64 t, .int .i64 (n + (k : Int))] 23 (0, 0)) from
    HGR.out w11 (HB9.out.trans (hb11.mono HB9.out.size)))
  have HBX := Lib.hid (show Boxed w11 w10.heap.size 44 (.slice (some ⟨w9.heap.size, 0, none⟩) 0 k) by rw [hw11]; exact Boxed.new _ _ _)
  have HO11 := Lib.hid (show w11.ownsRow w9.heap.size 3 1 (.slice (some ⟨w9.heap.size, 0, none⟩) 0 k) 0 [] by rw [hw11]; exact hown.alloc _)
  have HL10 := Lib.hid hg10.size
  have HB11 := Lib.hid hb11
  obtain ⟨q0, _, q2⟩ := HG11.out
  have d0 : (w10.alloc (.cells #[.slice (some ⟨w9.heap.size, 0, none⟩) 0 k] 44)).cell? ⟨w.heap.size, 1, none⟩ = some (.int .i64 n) := by rw [← hw11]; exact cell_of_row w11 _ 1 _ _ _ q0
  have d1 : (w10.alloc (.cells #[.slice (some ⟨w9.heap.size, 0, none⟩) 0 k] 44)).cell? ⟨w5.heap.size, 1, none⟩ = some (.int .i64 (n + (k : Int))) := by rw [← hw11]; exact cell_of_row w11 _ 1 _ _ _ q2
  have HW11 := Lib.hid hw11
  clear hbw hown hg10 hb11 hw11 q0 q2 g0 g1 g2
  have HT := Lib.hid (taken_any n (n + (k : Int)) w11 (by have := HMm.out; omega))
  go_wp2_with fail
  rw [← HW11.out]
  refine HT.out.mono ?_
  rintro e w12 ⟨rfl, hb12⟩
  have HB12 := Lib.hid hb12
  clear hb12
  go_wp2_with fail
  refine (each_at _ _ _).mono ?_
  rintro e w13 ⟨rfl, hw13⟩
  have hlt10 : w10.heap.size < w11.heap.size := HBX.out.lt
  have HR13 := Lib.hid (show w13.heap[w12.heap.size]? = some (.cells #[.int .i64 n, .int .i64 (n + (k : Int) - 1)] 81 (0, 0)) by rw [hw13]; exact heap_alloc_new w12 _)
  have hb13 : Below w11.heap.size w11 w13 := by rw [hw13]; exact HB12.out.alloc HB12.out.size _
  have HBX3 := Lib.hid (show Boxed w13 w10.heap.size 44 (.slice (some ⟨w9.heap.size, 0, none⟩) 0 k) from (hb13.block _ hlt10).trans HBX.out)
  have HO13 := Lib.hid (owns_below HO11.out hb13)
  have HB13 := Lib.hid hb13
  have HZ13 := Lib.hid (show w13.heap.size = w12.heap.size + 1 by rw [hw13]; simp)
  have HS13 := Lib.hid (Nat.le_trans hlt10 HB12.out.size : w10.heap.size < w12.heap.size)
  have HQ := Lib.hid (each_stops 4 (by omega) w12.heap.size n k (by have := HMm.out; omega) (by omega) w13 HR13.out)
  clear hw13 hb13 hmk d0 d1 hlt10
  go_wp2_with fail
  refine (wpIn_wide (n := 5)).1 ?_
  have h910 := HL10.out
  have h1213 := HZ13.out
  have h1012 := HS13.out
  refine wpIn_rangeFunc_ownG rfl (by omega) (gf := 56) (lb := #[.pointer (some ⟨w12.heap.size, 0, none⟩)]) rfl trivial (enters_of Tryd.func56 (by kernel_rfl) rfl)
    HQ.out (fun h k => Stays.trans h k) (fun W l o o' hl ho hc hw => stays_put (w := w13) (by omega) W l o o' hl ho hc hw) (Below.refl _ _) (fun _ => rfl)
    (Coll w10.heap.size w9.heap.size w11 w12.heap.size (.cells #[.int .i64 n, .int .i64 (n + (k : Int) - 1)] 81 (0, 0))) (fun _ _ _ => False) (coll_own rfl HB11.out.size (by have := HB11.out.size; have := HB13.out.size; omega)) (fun _ _ _ _ _ hs _ _ => hs)
    ⟨⟨_, HBX3.out, HO13.out, trivial⟩, HB13.out.mono HB11.out.size, HR13.out⟩ ?a1 ?assign ?body ?done ?stop
  case assign =>
    intro l x W K hK
    gi_wp2
    exact hK
  case body =>
    rintro l pre x W ⟨⟨v, hv, hrow, _⟩, hB, hbs⟩ hlt
    have hc := hv.cell
    have hn0 : w9.heap.size ≤ W.heap.size := Nat.le_trans HB11.out.size hB.size
    have HBs := Lib.hid hbs
    have HBb := Lib.hid hB
    clear hbs hB hw
    gi_wp2_with (gi_at_builtin; refine wpListIn_append_own _ rfl _ _ 44 rfl w9.heap.size 3 i0 (.int .i64 0) 1 8 Tryd.underlying44 hi hz0 hz1 hz2 rfl (by decide) _ _ _ rfl (hrow.alloc _) ⟨W.heap.size, 0, none⟩ 1 1 [.int .i64 x] rfl rfl (cell_one_new _ _ _) (by simp [Value.oneCell']) (by unfold maxLen; omega) (by omega) (by simp; omega) ?_; intro v' w1 hown' hgrow _; obtain ⟨g', cap', rfl⟩ := ownsRow_succ hown'; obtain ⟨hv1, hv2, hr2, hk2, hb2⟩ := hv.appended (by decide) hrow hn0 h910 hown' hgrow; have hc1 := hv1.cell; have hf1 := hv1.frozen; have HSt := Lib.hid (bound_stays HBs.out (by decide) hrow hgrow (show w12.heap.size ≠ w10.heap.size by omega) (.slice (some ⟨g', 0, none⟩) (pre.length + 1) cap')))
    exact ⟨hk2.from _, fun o ho => HSt.out.trans ho, ⟨_, hv2, by simpa using hr2, trivial⟩, HBb.out.trans hb2, HSt.out.trans HBs.out⟩
  case done =>
    rintro D ys W hD rfl ⟨⟨v, hv, hrow, _⟩, hB, hbs⟩ hK
    have hc := hv.cell
    obtain ⟨g0, g1, g2⟩ := HGR.out W (HB9.out.trans ((HB11.out.trans hB).mono HB9.out.size))
    have e0 : W.cell? ⟨w5.heap.size, 0, none⟩ = some (.int .i64 t) := cell_of_row W _ 0 _ _ _ g2
    have e1 : W.cell? ⟨w5.heap.size, 1, none⟩ = some (.int .i64 (n + (k : Int))) := cell_of_row W _ 1 _ _ _ g2
    have hn0 : w9.heap.size ≤ W.heap.size := Nat.le_trans HB11.out.size hB.size
    have HG1 := Lib.hid g1
    have HV := Lib.hid hv
    have HRo := Lib.hid hrow
    have HBb := Lib.hid hB
    have HDk := Lib.hid hK
    have HDl := Lib.hid hD
    have HN0 := Lib.hid hn0
    clear g0 g1 g2 hv hrow hB hbs hK hD hn0 hw
    go_wp2_with fail
    refine wp_region_held_drew (S := fun W' => W'.cell? ⟨w5.heap.size, 0, none⟩ = some (.int .i64 t) ∧ W'.cell? ⟨w5.heap.size, 1, none⟩ = some (.int .i64 (n + (k : Int))) ∧ W'.cell? ⟨w10.heap.size, 0, none⟩ = some v) (by kernel_rfl) ⟨e0, e1, hc⟩ (fun hHeld => ?_)
    refine wpAnyH_take (i := 0) (v := ?_) rfl (by kernel_rfl) (by kernel_rfl) (by kernel_rfl) (fun _ _ _ h => h) (Or.inl ⟨by rfl, ?_⟩) (by assumption) ?_
    rotate_left
    · simp only [List.getElem_toArray, List.getElem_cons_zero, List.getElem_cons_succ]; intro W hSw; (try dsimp only at hSw); go_simp; all_goals with_reducible rfl
    simp only [Act.put, List.getElem_toArray, List.getElem_cons_zero, List.getElem_cons_succ, List.setIfInBounds_toArray, List.set_cons_zero, List.set_cons_succ]
    refine wpAnyH_take (i := 1) (v := ?_) rfl (by kernel_rfl) (by kernel_rfl) (by kernel_rfl) (fun _ _ _ h => h) (Or.inl ⟨by rfl, ?_⟩) (by assumption) ?_
    rotate_left
    · simp only [List.getElem_toArray, List.getElem_cons_zero, List.getElem_cons_succ]; intro W hSw; (try dsimp only at hSw); go_simp; all_goals with_reducible rfl
    simp only [Act.put, List.getElem_toArray, List.getElem_cons_zero, List.getElem_cons_succ, List.setIfInBounds_toArray, List.set_cons_zero, List.set_cons_succ]
    refine wpAnyH_ready (rs := [2]) (by kernel_rfl) (by simp) ?_
    refine AllReadyH.cons rfl (fun K hK => ?_) AllReadyH.nil
    simp only [List.getElem_toArray, List.getElem_cons_zero, List.getElem_cons_succ]
    rw [if_pos]
    rotate_left
    · simp [Region.wanted]
    refine wp_store_row 23 (.tmp 4) (.tmp 53) rfl (w.heap.size + 1) #[.int .i64 t, .int .i64 (n + (k : Int))] (by simp [Act.eval, Act.put]) (by simp [Act.eval, Act.put]) 23 #[.int .i64 0, .int .i64 0] HG1.out (Tryd.infoLs _ _) (size2 _ _ _ _) (one2 _ _) ?_
    obtain ⟨W14, hW14⟩ : ∃ W14, W14 = W.drew.setRow (w.heap.size + 1) #[.int .i64 t, .int .i64 (n + (k : Int))] := ⟨_, rfl⟩
    have hz9 := HZ9.out
    have hn9 := HN0.out
    have hd9 := HDl.out
    have h1113 := HB13.out.size
    have h1113' := HB11.out.size
    have hk14 : W14.heap[D]? = some (.deferred (some [])) := by rw [hW14, setRow_other _ _ _ _ (by omega)]; exact HDk.out
    have hg14 : W14.heap[w.heap.size + 1]? = some (.cells #[.int .i64 t, .int .i64 (n + (k : Int))] 23 (0, 0)) := by rw [hW14]; exact setRow_heap _ _ _ _ _ _ HG1.out
    have ho14 : (W14.putObj D (.deferred none)).ownsRow w.heap.size 3 1 v k ((upto n k).map (Value.int .i64)) := by
      have h := owns_put (base' := w.heap.size) (o := .deferred none) HRo.out (g := w.heap.size + 1) (by omega) (by omega) #[.int .i64 t, .int .i64 (n + (k : Int))] HDk.out
      rw [upto_length] at h
      rw [hW14]
      exact h
    have hb14 : Below w.heap.size w (W14.putObj D (.deferred none)) := by
      rw [hW14]
      refine (below_setRow ((HB0.out.trans ((HBW.out.trans (HB11.out.trans HBb.out |>.mono (by omega))).mono (by omega))).drew) (by omega) _).trans (belowK_b (w := w) (Nat.le_refl _) _ D _ _ (by omega) (by rw [← hW14]; exact hk14) rfl rfl)
    have hs14 : W14.cell? ⟨w5.heap.size, 0, none⟩ = some (.int .i64 t) ∧ W14.cell? ⟨w5.heap.size, 1, none⟩ = some (.int .i64 (n + (k : Int))) ∧ W14.cell? ⟨w10.heap.size, 0, none⟩ = some v := by
      have hz5 := HZ5.out
      have ho : ∀ b j, b ≠ w.heap.size + 1 → W14.cell? ⟨b, j, none⟩ = W.cell? ⟨b, j, none⟩ := fun b j hb => by rw [hW14]; exact World.cell?_of_block (w := W) (setRow_other _ _ _ _ hb)
      exact ⟨(ho _ _ (by omega)).trans e0, (ho _ _ (by omega)).trans e1, (ho _ _ (by omega)).trans hc⟩
    have HK14 := Lib.hid hk14
    have HG14 := Lib.hid hg14
    have HO14 := Lib.hid ho14
    have HB14 := Lib.hid hb14
    rw [← hW14]
    clear hk14 hg14 ho14 hb14 hW14 e0 e1 hc
    refine hK.out _ _ (hs14) (fun hHeldN => ?_)
    clear hK K hHeld
    have hHeld := hHeldN
    clear hHeldN
    (try simp only [Act.put, List.getElem_toArray, List.getElem_cons_zero, List.getElem_cons_succ, List.setIfInBounds_toArray, List.set_cons_zero, List.set_cons_succ])
    refine wpAnyH_take (i := 3) (v := ?_) rfl (by kernel_rfl) (by kernel_rfl) (by kernel_rfl) (fun _ _ _ h => h) (Or.inl ⟨by rfl, ?_⟩) (by assumption) ?_
    rotate_left
    · simp only [List.getElem_toArray, List.getElem_cons_zero, List.getElem_cons_succ]; intro W hSw; (try dsimp only at hSw); go_simp; all_goals with_reducible rfl
    simp only [Act.put, List.getElem_toArray, List.getElem_cons_zero, List.getElem_cons_succ, List.setIfInBounds_toArray, List.set_cons_zero, List.set_cons_succ]
    refine wpAnyH_take (i := 4) (v := ?_) rfl (by kernel_rfl) (by kernel_rfl) (by kernel_rfl) (fun _ _ _ h => h) (Or.inl ⟨by rfl, ?_⟩) (by assumption) ?_
    rotate_left
    · simp only [List.getElem_toArray, List.getElem_cons_zero, List.getElem_cons_succ]; intro W hSw; (try dsimp only at hSw); go_simp; all_goals with_reducible rfl
    simp only [Act.put, List.getElem_toArray, List.getElem_cons_zero, List.getElem_cons_succ, List.setIfInBounds_toArray, List.set_cons_zero, List.set_cons_succ]
    refine wpAnyH_done (by kernel_rfl) ?_ _
    go_wp2_with fail
    refine ⟨by simp, .inl ⟨_, _, rfl, run_takeDeferred HK14.out, ?_⟩⟩
    have hne : w.heap.size + 1 ≠ D := by have := HZ9.out; have := HN0.out; have := HDl.out; have := HB13.out.size; have := HB11.out.size; omega
    exact ⟨_, results_cell_tmp2 rfl _ _ (w.heap.size + 1) #[.int .i64 t, .int .i64 (n + (k : Int))] (0, 0) _ rfl ((World.putObj_heap_other hne).trans HG14.out) Tryd.underlying23 rfl Tryd.infoL, v, rfl, HO14.out, HB14.out⟩
  case stop =>
    rintro D c pre W _ _ h _
    exact h.elim
end Go.Proofs.YtkajcgpkldofjaaDoor.Rg
end

section
/-
  What journal's calls are to answer, as contracts (shown of the program's text in a module of their own).
-/
namespace Go.Proofs.YtkajcgpkldofjaaDoor
open Go.RowKit Fm

/-- how many sectors n bytes want -/
def wantsR (n : Int) : Int := if 1 ≤ n ∧ n ≤ 90 then (cutN n.toNat : Nat) else 0
/-- P6.1: Append's error, the disk being up -/
def appE (t n inc : Int) (l : Nat) : Int := if Rg.mayB t n = true then (if cutE l n inc = 0 then Rg.takeE t n (cutN l : Nat) else cutE l n inc) else 2
def I64 (z : Int) : Prop := -9223372036854775808 ≤ z ∧ z ≤ 9223372036854775807
def AppendSays : Prop := ∀ (w : World) (S : Nat → Prop) (a : Nat) (d : Dk.Dk) (t n inc : Int) (bs : List Nat) (A : Option Addr) (c : Nat), Dk.Disk w S a d → d.down = false → (∀ n, n < 34 → (d.cache n).length ≤ 1000000) → Widths w → ¬ S 0 →
  ByP w (fun k => ¬ S k) A bs → bs.length ≤ c → c ≤ maxLen → I64 t → I64 n → I64 inc →
  Calls Tryd.prog 8 #[.pointer (some ⟨a, 0, none⟩), .agg #[.int .i64 t, .int .i64 n], .int .i64 inc, .slice A bs.length c] w fun e w' =>
    e = .returned (.tuple #[.agg #[.int .i64 t, .int .i64 (if appE t n inc bs.length = 0 then n + (cutN bs.length : Nat) else n)], .int .i64 (appE t n inc bs.length)]) ∧
    Dk.Goes w w' S a (if appE t n inc bs.length = 0 then putsD d (cutAll bs n inc) else d)
def FlushSays : Prop := ∀ (w : World) (S : Nat → Prop) (a : Nat) (d : Dk.Dk), Dk.Disk w S a d → d.down = false →
  Calls Tryd.prog 12 #[.pointer (some ⟨a, 0, none⟩)] w fun e w' => e = .returned (.int .i64 0) ∧ Dk.Goes w w' S a d.flush
def WantsSays : Prop := ∀ (n : Int) (w : World), Calls Tryd.prog 10 #[.int .i64 n] w fun e w' => e = .returned (.int .i64 (wantsR n)) ∧ Below w.heap.size w w'
/-- what a scan from a sequence finds -/
def scanD (d : Dk.Dk) (tail : Int) : List (Int × List Nat) × Int := scanN (rdD d) 24 tail 0 [] [] tail
def ScanSays : Prop := ∀ (w : World) (S : Nat → Prop) (a : Nat) (d : Dk.Dk) (tail : Int), Dk.Disk w S a d → d.down = false → Widths w → isSeq tail = true →
  Calls Tryd.prog 9 #[.pointer (some ⟨a, 0, none⟩), .int .i64 tail] w fun e w' => ∃ A c,
    e = .returned (.tuple #[.slice A (scanD d tail).1.length c, .agg #[.int .i64 tail, .int .i64 (scanD d tail).2], .int .i64 0]) ∧
    RowsP w' (fun k => w.heap.size ≤ k) A ((scanD d tail).1.map (·.2)) ∧ (scanD d tail).1.length ≤ c ∧ c ≤ maxLen ∧ (A = none → c = 0) ∧ Below w.heap.size w w'

def WakesSays : Prop := ∀ w : World, Widths w → Calls Tryd.prog 7 #[] w fun e w' => e = .returned (.bool true) ∧ Below w.heap.size w w'

/-! ### when a record is taken -/
theorem cutE_fits {l : Nat} {n inc : Int} (hn : 1 ≤ n ∧ n ≤ 1000000000000) (hi : 0 ≤ inc ∧ inc ≤ 1048576) : cutE l n inc = 0 ↔ 1 ≤ l ∧ l ≤ 90 := by
  unfold cutE
  constructor
  · intro h
    split at h
    · cases h
    split at h
    · cases h
    omega
  · rintro ⟨h1, h2⟩
    have h3 : cutN l ≤ 2 := by unfold cutN; omega
    rw [if_neg (by omega), if_neg (by omega), if_neg (by omega)]
theorem may_used {t : Int} {p : Nat} (ht : 1 ≤ t ∧ t ≤ 1000000000) (hp : p ≤ 24) : Rg.mayB t (t + (p : Int)) = true := by
  unfold Rg.mayB Rg.seqB
  simp only [Bool.and_eq_true, decide_eq_true_eq]
  omega
theorem appE_fits {t inc : Int} {p l : Nat} (ht : 1 ≤ t ∧ t ≤ 1100000000) (hp : p ≤ 24) (hi : 0 ≤ inc ∧ inc ≤ 1048576) : appE t (t + (p : Int)) inc l = 0 ↔ 1 ≤ l ∧ l ≤ 90 ∧ p + cutN l ≤ 24 := by
  have hm : Rg.mayB t (t + (p : Int)) = true := by
    unfold Rg.mayB Rg.seqB
    simp only [Bool.and_eq_true, decide_eq_true_eq]
    omega
  have hc := cutE_fits (l := l) (n := t + (p : Int)) (inc := inc) (by omega) hi
  unfold appE
  rw [if_pos hm]
  by_cases h : 1 ≤ l ∧ l ≤ 90
  · rw [if_pos (hc.2 h)]
    have h3 : 1 ≤ cutN l ∧ cutN l ≤ 2 := by unfold cutN; omega
    unfold Rg.takeE Rg.freeR
    rw [hm, if_pos rfl, if_pos (by simp; omega)]
    by_cases h4 : p + cutN l ≤ 24
    · rw [if_pos (by unfold Rg.seqB; simp; omega)]
      simp [h, h4]
    · rw [if_neg (by simp; omega)]
      simp; omega
  · rw [if_neg (fun e => h (hc.1 e))]
    constructor
    · intro e; exact absurd (hc.1 e) h
    · rintro ⟨h1, h2, _⟩; exact absurd ⟨h1, h2⟩ h
theorem wants_fits {l p : Nat} : ((0 : Int) < wantsR (l : Int) ∧ wantsR (l : Int) ≤ 24 - (p : Int)) ↔ 1 ≤ l ∧ l ≤ 90 ∧ p + cutN l ≤ 24 := by
  unfold wantsR
  by_cases h : 1 ≤ l ∧ l ≤ 90
  · rw [if_pos (by omega), Int.toNat_natCast]
    have h3 : 1 ≤ cutN l ∧ cutN l ≤ 2 := by unfold cutN; omega
    omega
  · rw [if_neg (by omega)]
    omega
theorem byB_len {b : List Nat} {s i : Int} (hE : cutE b.length s i = 0) {j : Nat} (hj : j < cutN b.length) : (byB (cutOne b s i j)).length = 64 := by
  have hm := may_cut hE
  rw [List.all_eq_true] at hm
  have hl : j < (cutAll b s i).length := by rw [cutAll_length]; exact hj
  have h := hm _ (List.getElem_mem hl)
  rw [cutAll_get] at h
  unfold byB
  rw [Crc.sealed_length, secB_length (may_load h)]
theorem puts_cache (F : List Fr) : ∀ (D : Dk.Dk) (n : Nat), ((putsD D F).cache n).length ≤ (D.cache n).length + F.length := by
  induction F with
  | nil => intro D n; simp [putsD]
  | cons f r ih =>
    intro D n
    have h1 := ih (D.write (plc f.seq) (byB f)) n
    have h2 : ((D.write (plc f.seq) (byB f)).cache n).length ≤ (D.cache n).length + 1 := by
      show (Dk.upd D.cache _ _ n).length ≤ _
      unfold Dk.upd
      by_cases e : n = plc f.seq
      · rw [if_pos e, e]; simp
      · rw [if_neg e]; omega
    have h3 : putsD D (f :: r) = putsD (D.write (plc f.seq) (byB f)) r := rfl
    rw [h3, List.length_cons]
    omega
/-- the journal after one more record -/
theorem Lies.record {D : Dk.Dk} {t i : Int} {Kd : Nat → Option Fr} {P : List (List Nat)} {b : List Nat} (h : Lies D t Kd (KF (framesOf t i P)) (total P)) (hE : cutE b.length (t + (total P : Nat)) i = 0) (hl : total P + cutN b.length ≤ 24) :
    Lies (putsD D (cutAll b (t + (total P : Nat)) i)) t Kd (KF (framesOf t i (P ++ [b]))) (total (P ++ [b])) := by
  have h1 := Lies.puts (cutAll b (t + (total P : Nat)) i) h (by rw [cutAll_length]; exact hl) (fun j f hf => by
    obtain ⟨hj, e⟩ := List.getElem?_eq_some_iff.1 hf
    rw [cutAll_get] at e
    rw [cutAll_length] at hj
    rw [← e]
    refine ⟨?_, byB_len hE hj⟩
    show t + ((total P : Nat) : Int) + (j : Int) = _
    omega)
  rw [cutAll_length] at h1
  rw [total_append, show total [b] = cutN b.length by simp [total]]
  refine h1.congr (fun _ _ => rfl) (fun k _ => ?_)
  have h2 := putK_KF (framesOf t i P) (cutAll b (t + (total P : Nat)) i) k
  rw [framesOf_length] at h2
  rw [h2, framesOf_append]
  simp [framesOf]
end Go.Proofs.YtkajcgpkldofjaaDoor
end
