/-
  The developers' answers: the write of a block.
-/
import Derived.Test.YtipgphdndleodaaODfind
namespace Go.Proofs.Ytipgphdndleodaa
set_option maxRecDepth 100000
open Go.RowKit
set_option maxRecDepth 100000

theorem plc_cons (x : Wt) (l : List Wt) (k : Int) : plc (x :: l) k = if x.1 = k then 0 else plc l k + 1 := by
  unfold plc
  rw [List.findIdx_cons]
  by_cases h : x.1 = k
  · simp [h]
  · rw [if_neg h, show (x.1 == k) = false by simp [h]]; rfl
theorem get_plc {k : Int} : ∀ {l : List Wt} (h : plc l k < l.length), getW l k = some (l[plc l k].2) ∧ l[plc l k].1 = k := by
  intro l
  induction l with
  | nil => intro h; exact absurd h (by simp)
  | cons x l ih =>
    intro h
    rw [get_cons]
    by_cases hx : x.1 = k
    · have e : plc (x :: l) k = 0 := by rw [plc_cons, if_pos hx]
      rw [if_pos hx]
      simp only [e]
      exact ⟨rfl, hx⟩
    · have e : plc (x :: l) k = plc l k + 1 := by rw [plc_cons, if_neg hx]
      rw [if_neg hx]
      have h2 : plc l k < l.length := by rw [e, List.length_cons] at h; omega
      simp only [e, List.getElem_cons_succ]
      exact ih h2
theorem get_plc_none {k : Int} : ∀ {l : List Wt}, ¬ plc l k < l.length → getW l k = none := by
  intro l
  induction l with
  | nil => intro _; rfl
  | cons x l ih =>
    intro h
    rw [get_cons]
    by_cases hx : x.1 = k
    · rw [plc_cons, if_pos hx] at h; exact absurd (by simp) h
    · rw [if_neg hx]
      refine ih fun h2 => h ?_
      rw [plc_cons, if_neg hx, List.length_cons]; omega
theorem find_dev (l : List Wt) (k : Int) (A : Option Addr) (c : Nat) (w : World) (h : WsAt w A c l) :
    Calls Try.prog 18 #[.slice A l.length c, .int .i64 k] w fun e w' => e = .returned (.int .i64 (plcI l k)) ∧ Below w.heap.size w w' := by
  obtain ⟨w1, hw1⟩ : ∃ w1, w1 = w.alloc (.cells #[.int .i64 k] 3) := ⟨_, rfl⟩
  have hb1 : Below w.heap.size w w1 := by rw [hw1]; exact (Below.refl _ w).alloc (Nat.le_refl _) _
  have hg : w1.heap[w.heap.size]? = some (.cells #[.int .i64 k] 3 (0, 0)) := by rw [hw1]; exact heap_alloc_new w _
  have c0 : w1.cell? ⟨w.heap.size, 0, none⟩ = some (.int .i64 k) := by rw [cell_of_row w1 _ 0 _ _ _ hg]; rfl
  have hs : w1.heap.size = w.heap.size + 1 := by rw [hw1]; simp
  have HC := Lib.hid ((index_dev l k A c w.heap.size w1 (h.below hb1) (by omega) c0))
  have HB := Lib.hid hb1
  have HW1 := Lib.hid hw1
  clear hb1 hg c0 h hw1
  generalize plcI l k = r at *
  generalize l.length = n at *
  have eg : ∀ args w, (callFunc 26 args).run Try.prog w = .ok (.enter 26 args) w := enters_of Try.func26 (by kernel_rfl) rfl
  go_enter Try.func18, Try.ntmps18
  go_wp2_with (first
    | (rw [← HW1.out])
    | (go_at_call 26; refine HC.out.mono ?_; rintro e w2 ⟨rfl, hb2⟩))
  go_ret
  exact ⟨rfl, HB.out.trans (hb2.mono HB.out.size)⟩
theorem get_dev (l : List Wt) (k : Int) (A : Option Addr) (c : Nat) (w : World) (h : WsAt w A c l) :
    Calls Try.prog 8 #[.slice A l.length c, .int .i64 k] w fun e w' => ∃ v : List Nat, e = .returned (.tuple #[.agg (vals v).toArray, .bool (getW l k).isSome]) ∧ (v.length = 8 ∧ ∀ z ∈ v, z < 256) ∧ (∀ u, getW l k = some u → v = u) ∧ Below w.heap.size w w' := by
  obtain ⟨w1, hw1⟩ : ∃ w1, w1 = w.alloc (.cells #[.int .u8 0, .int .u8 0, .int .u8 0, .int .u8 0, .int .u8 0, .int .u8 0, .int .u8 0, .int .u8 0] 23) := ⟨_, rfl⟩
  have hb1 : Below w.heap.size w w1 := by rw [hw1]; exact (Below.refl _ w).alloc (Nat.le_refl _) _
  have hs1 : w1.heap.size = w.heap.size + 1 := by rw [hw1]; simp
  have HG := Lib.hid (show w1.heap[w.heap.size]? = some (.cells #[.int .u8 0, .int .u8 0, .int .u8 0, .int .u8 0, .int .u8 0, .int .u8 0, .int .u8 0, .int .u8 0] 23 (0, 0)) by rw [hw1]; exact heap_alloc_new w _)
  have HC := Lib.hid (find_dev l k A c w1 (h.below hb1))
  have HB := Lib.hid hb1
  have HS := Lib.hid hs1
  have HW1 := Lib.hid hw1
  clear hw1 hb1 hs1
  by_cases h0 : plc l k < l.length
  · obtain ⟨hg, hk⟩ := get_plc h0
    have hI : plcI l k = (plc l k : Int) := if_pos h0
    rw [hI] at HC
    rw [hg]
    have hn : l.length ≤ 100 := h.few
    obtain ⟨b, off, rfl, ⟨_, hbl⟩, hcs⟩ := h.at_.at_ (by omega)
    have hx := (h.fine _ (List.getElem_mem h0)).2
    have hcell : ∀ W, Below w.heap.size w W → ∀ j' u, (vals l[plc l k].2)[j']? = some u → W.cell? ⟨b, off + plc l k * 9 + 1 + j', none⟩ = some u := fun W hW j' u hu => by
      rw [show off + plc l k * 9 + 1 + j' = off + plc l k * 9 + (j' + 1) by omega]
      exact (World.cell?_of_block (w := w) (hW.block b hbl)).trans (hcs _ h0 (j' + 1) u (by unfold wrv; rw [List.getElem?_cons_succ]; exact hu))
    have hi : (Try.prog.info? 23).map (·.size) = some (vals l[plc l k].2).length := by rw [vals_length, hx.1]; kernel_rfl
    have HI := Lib.hid hi
    have HCell := Lib.hid hcell
    have HX := Lib.hid hx
    have HOne := Lib.hid (show (vals l[plc l k].2).toArray.all (·.oneCell') = true from Array.all_eq_true_iff_forall_mem.2 fun u hu => vals_one u (by simpa using hu))
    clear hcs hx hg hk hI hi hcell h
    generalize l[plc l k].2 = v at *
    generalize plc l k = p at *
    have hp : ((p : Nat) : Int) < (l.length : Int) := by omega
    have hp0 : ¬ ((p : Nat) : Int) < 0 := by omega
    generalize l.length = n at *
    have HIa := Lib.hid (show (Try.prog.info? 23).map (·.size) = some (vals v).toArray.size by rw [HI.out]; simp)
    have HSz := Lib.hid (show (#[.int .u8 0, .int .u8 0, .int .u8 0, .int .u8 0, .int .u8 0, .int .u8 0, .int .u8 0, .int .u8 0] : Array Value).size = (vals v).toArray.size by simp [vals_length, HX.out.1])
    go_enter Try.func8, Try.ntmps8
    go_wp2_with (first
      | (rw [← HW1.out])
      | (go_at_call 18; refine HC.out.mono ?_; rintro e w2 ⟨rfl, hb2⟩; have HB2 := Lib.hid (HB.out.trans (hb2.mono HB.out.size)); have HG2 := Lib.hid ((hb2.block w.heap.size (by rw [HS.out]; exact Nat.lt_succ_self _)).trans HG.out); clear hb2)
      | (refine wpList_load_part rfl 23 _ rfl b (off + p * 9 + 1) rfl (vals v) _ (HCell.out _ HB2.out) Try.underlying23 rfl HI.out ?_)
      | (refine wpList_store_row rfl 23 _ _ rfl w.heap.size (vals v).toArray rfl rfl 23 _ HG2.out HIa.out HSz.out HOne.out ?_))
    exact bodyPost_ret (results_cell_tmp rfl _ _ w.heap.size (vals v).toArray (0, 0) _ rfl (setRow_heap _ _ _ _ _ _ HG2.out) Try.underlying23 rfl HIa.out) rfl ⟨v, rfl, HX.out, fun u hu => Option.some.inj hu, below_setRow HB2.out (Nat.le_refl _) _⟩
  · have hI : plcI l k = -1 := if_neg h0
    rw [hI] at HC
    rw [get_plc_none h0]
    clear hI h h0
    have HIa := Lib.hid (show (Try.prog.info? 23).map (·.size) = some (#[.int .u8 0, .int .u8 0, .int .u8 0, .int .u8 0, .int .u8 0, .int .u8 0, .int .u8 0, .int .u8 0] : Array Value).size by kernel_rfl)
    have HOne := Lib.hid (show (#[.int .u8 0, .int .u8 0, .int .u8 0, .int .u8 0, .int .u8 0, .int .u8 0, .int .u8 0, .int .u8 0] : Array Value).all (·.oneCell') = true by simp [Value.oneCell'])
    generalize l.length = n at *
    go_enter Try.func8, Try.ntmps8
    go_wp2_with (first
      | (rw [← HW1.out])
      | (go_at_call 18; refine HC.out.mono ?_; rintro e w2 ⟨rfl, hb2⟩; have HB2 := Lib.hid (HB.out.trans (hb2.mono HB.out.size)); have HG2 := Lib.hid ((hb2.block w.heap.size (by rw [HS.out]; exact Nat.lt_succ_self _)).trans HG.out); clear hb2)
      | (refine wpList_store_row rfl 23 _ _ rfl w.heap.size #[.int .u8 0, .int .u8 0, .int .u8 0, .int .u8 0, .int .u8 0, .int .u8 0, .int .u8 0, .int .u8 0] rfl rfl 23 _ HG2.out HIa.out rfl HOne.out ?_))
    exact bodyPost_ret (results_cell_tmp rfl _ _ w.heap.size #[.int .u8 0, .int .u8 0, .int .u8 0, .int .u8 0, .int .u8 0, .int .u8 0, .int .u8 0, .int .u8 0] (0, 0) _ rfl (setRow_heap _ _ _ _ _ _ HG2.out) Try.underlying23 rfl HIa.out) rfl ⟨[0, 0, 0, 0, 0, 0, 0, 0], rfl, ⟨rfl, by decide⟩, (fun u hu => absurd hu (by simp)), below_setRow HB2.out (Nat.le_refl _) _⟩
end Go.Proofs.Ytipgphdndleodaa
