/-
  Package ring, by contract: Take.
-/
import Derived.Test.YtpbbgfebchicbaaEach
import Derived.RangeFuncBox
import Derived.Maps.AppendAt
import Derived.Laws.MakeOwn
import Derived.Laws.CopyOwn
namespace Go.Proofs.Ytpbbgfebchicbaa
open Go.RowKit Go.Shelf

theorem Try.infoL : (Try.prog.info? 23).map (·.size) = some 2 := by kernel_rfl
theorem Try.infoLs (a b : Int) : (Try.prog.info? 23).map (·.size) = some (#[.int .i64 a, .int .i64 b] : Array Value).size := Try.infoL
theorem one2 (a b : Int) : (#[.int .i64 a, .int .i64 b] : Array Value).all (·.oneCell') = true := by simp [Value.oneCell']
theorem size2 (a b c d : Int) : (#[.int .i64 a, .int .i64 b] : Array Value).size = (#[.int .i64 c, .int .i64 d] : Array Value).size := rfl
theorem Try.info3 : (Try.prog.info? 3).map (fun i => (i.zero, i.size, i.bytes)) = some (some (.int .i64 0), 1, 8) := by kernel_rfl
theorem results_cell_tmp2 {P : Program} {fn : Func} {p u v : Tmp} {t : TypeId} (h : fn.results = #[.cell p t, .tmp u, .tmp v]) (tmps : Array Value) (w : World) (g : Nat) (cs : Array Value) (fr : Nat × Nat) (d : TypeDesc)
    (hp : tmps.getD p undef = .pointer (some ⟨g, 0, none⟩)) (hg : w.heap[g]? = some (.cells cs t fr)) (hu : P.underlying t = some d) (hd : (match d with | .struct _ | .array _ _ => true | _ => false) = true) (hi : (P.info? t).map (·.size) = some cs.size) :
    (results fn tmps).run P w = .ok (.tuple #[.agg cs, tmps.getD u undef, tmps.getD v undef]) w := by
  have hp' : tmps[p]?.getD undef = .pointer (some ⟨g, 0, none⟩) := by simpa using hp
  simp [results, h, hp', asAddr, run_loadVar_row w g t t cs fr d hg hu hd hi]

/-- P5.2: which error Take answers -/
def takeE (t n k : Int) : Int := if mayB t n && (decide (0 ≤ k) && decide (k ≤ 24)) then (if decide (k ≤ freeR t n) && seqB (n + k) then 0 else 50) else 2

set_option maxHeartbeats 1000000 in
theorem take_nolog (t n k : Int) (w : World) (h : mayB t n = false) :
    Calls Try.prog 15 #[.agg #[.int .i64 t, .int .i64 n], .int .i64 k] w fun e w' => e = .returned (.tuple #[.agg #[.int .i64 0, .int .i64 0], .slice none 0 0, .int .i64 2]) ∧ Below w.heap.size w w' := by
  have HB0 := Lib.hid (((Below.refl w.heap.size w).alloc (Nat.le_refl _) (.cells #[.int .i64 t, .int .i64 n] 23)).alloc (by simp) (.cells #[.int .i64 0, .int .i64 0] 23))
  have HZ := Lib.hid (show ((w.alloc (.cells #[.int .i64 t, .int .i64 n] 23)).alloc (.cells #[.int .i64 0, .int .i64 0] 23)).heap.size = w.heap.size + 2 by simp)
  have HG := Lib.hid (show ∀ W, Below (w.heap.size + 2) ((w.alloc (.cells #[.int .i64 t, .int .i64 n] 23)).alloc (.cells #[.int .i64 0, .int .i64 0] 23)) W → W.heap[w.heap.size]? = some (.cells #[.int .i64 t, .int .i64 n] 23 (0, 0)) ∧ W.heap[w.heap.size + 1]? = some (.cells #[.int .i64 0, .int .i64 0] 23 (0, 0)) from fun W hb => by
    refine ⟨(hb.block _ (by omega)).trans ((Below.heap_alloc _ _ _ (by simp)).trans (heap_alloc_new w _)), (hb.block _ (by omega)).trans ?_⟩
    have h := heap_alloc_new (w.alloc (.cells #[.int .i64 t, .int .i64 n] 23)) (.cells #[.int .i64 0, .int .i64 0] 23)
    rwa [World.size_alloc] at h)
  go_enter Try.func15, Try.ntmps15
  go_wp2_with fail
  refine (may_any _ _ _).mono ?_
  rintro e w3 ⟨rfl, hb3⟩
  rw [h]
  have HB3 := Lib.hid (show Below (w.heap.size + 2) ((w.alloc (.cells #[.int .i64 t, .int .i64 n] 23)).alloc (.cells #[.int .i64 0, .int .i64 0] 23)) w3 by have := hb3; rw [HZ.out] at this; exact this)
  clear hb3
  obtain ⟨g0, g1⟩ := HG.out _ HB3.out
  go_wp2_with (refine wpList_store_row rfl 23 (.tmp 4) (.tmp 19) rfl (w.heap.size + 1) #[.int .i64 0, .int .i64 0] (by simp [Act.eval, Act.put]) (by simp [Act.eval, Act.put]) 23 #[.int .i64 0, .int .i64 0] g1 (Try.infoLs _ _) (size2 _ _ _ _) (one2 _ _) ?_)
  exact bodyPost_ret (results_cell_tmp2 rfl _ _ (w.heap.size + 1) #[.int .i64 0, .int .i64 0] (0, 0) _ rfl (setRow_heap _ _ _ _ _ _ g1) Try.underlying23 rfl Try.infoL) rfl ⟨rfl, below_setRow (HB0.out.trans (HB3.out.mono (by omega))) (by omega) _⟩

set_option maxHeartbeats 1000000 in
theorem take_nocount (t n k : Int) (w : World) (h : mayB t n = true) (hk : (decide (0 ≤ k) && decide (k ≤ 24)) = false) :
    Calls Try.prog 15 #[.agg #[.int .i64 t, .int .i64 n], .int .i64 k] w fun e w' => e = .returned (.tuple #[.agg #[.int .i64 0, .int .i64 0], .slice none 0 0, .int .i64 2]) ∧ Below w.heap.size w w' := by
  have HB0 := Lib.hid (((Below.refl w.heap.size w).alloc (Nat.le_refl _) (.cells #[.int .i64 t, .int .i64 n] 23)).alloc (by simp) (.cells #[.int .i64 0, .int .i64 0] 23))
  have HZ := Lib.hid (show ((w.alloc (.cells #[.int .i64 t, .int .i64 n] 23)).alloc (.cells #[.int .i64 0, .int .i64 0] 23)).heap.size = w.heap.size + 2 by simp)
  have HG := Lib.hid (show ∀ W, Below (w.heap.size + 2) ((w.alloc (.cells #[.int .i64 t, .int .i64 n] 23)).alloc (.cells #[.int .i64 0, .int .i64 0] 23)) W → W.heap[w.heap.size]? = some (.cells #[.int .i64 t, .int .i64 n] 23 (0, 0)) ∧ W.heap[w.heap.size + 1]? = some (.cells #[.int .i64 0, .int .i64 0] 23 (0, 0)) from fun W hb => by
    refine ⟨(hb.block _ (by omega)).trans ((Below.heap_alloc _ _ _ (by simp)).trans (heap_alloc_new w _)), (hb.block _ (by omega)).trans ?_⟩
    have h := heap_alloc_new (w.alloc (.cells #[.int .i64 t, .int .i64 n] 23)) (.cells #[.int .i64 0, .int .i64 0] 23)
    rwa [World.size_alloc] at h)
  go_enter Try.func15, Try.ntmps15
  go_wp2_with fail
  refine (may_any _ _ _).mono ?_
  rintro e w3 ⟨rfl, hb3⟩
  rw [h]
  have HB3 := Lib.hid (show Below (w.heap.size + 2) ((w.alloc (.cells #[.int .i64 t, .int .i64 n] 23)).alloc (.cells #[.int .i64 0, .int .i64 0] 23)) w3 by have := hb3; rw [HZ.out] at this; exact this)
  clear hb3
  go_wp2_with fail
  refine (count_any _).mono ?_
  rintro e w4 ⟨rfl, hb4⟩
  have HB4 := Lib.hid (HB3.out.trans (hb4.mono (by have := HB3.out.size; have := HZ.out; omega)))
  clear hb4
  go_wp2_with fail
  refine (has_any _ _ _ _).mono ?_
  rintro e w5 ⟨rfl, hb5⟩
  rw [hk]
  have HB5 := Lib.hid (HB4.out.trans (hb5.mono (by have := HB4.out.size; have := HZ.out; omega)))
  clear hb5
  obtain ⟨g0, g1⟩ := HG.out _ HB5.out
  go_wp2_with (refine wpList_store_row rfl 23 (.tmp 4) (.tmp 19) rfl (w.heap.size + 1) #[.int .i64 0, .int .i64 0] (by simp [Act.eval, Act.put]) (by simp [Act.eval, Act.put]) 23 #[.int .i64 0, .int .i64 0] g1 (Try.infoLs _ _) (size2 _ _ _ _) (one2 _ _) ?_)
  exact bodyPost_ret (results_cell_tmp2 rfl _ _ (w.heap.size + 1) #[.int .i64 0, .int .i64 0] (0, 0) _ rfl (setRow_heap _ _ _ _ _ _ g1) Try.underlying23 rfl Try.infoL) rfl ⟨rfl, below_setRow (HB0.out.trans (HB5.out.mono (by omega))) (by omega) _⟩

set_option maxHeartbeats 1000000 in
theorem take_full (t n k : Int) (w : World) (h : mayB t n = true) (hk : (decide (0 ≤ k) && decide (k ≤ 24)) = true) (hf : ¬ k ≤ freeR t n) :
    Calls Try.prog 15 #[.agg #[.int .i64 t, .int .i64 n], .int .i64 k] w fun e w' => e = .returned (.tuple #[.agg #[.int .i64 0, .int .i64 0], .slice none 0 0, .int .i64 50]) ∧ Below w.heap.size w w' := by
  have hm := mayB_true h
  have hk2 : 0 ≤ k ∧ k ≤ 24 := by simpa using hk
  have HD := Lib.hid (show decide (freeR t n < k) = true by simp; omega)
  clear hf
  have HB0 := Lib.hid (((Below.refl w.heap.size w).alloc (Nat.le_refl _) (.cells #[.int .i64 t, .int .i64 n] 23)).alloc (by simp) (.cells #[.int .i64 0, .int .i64 0] 23))
  have HZ := Lib.hid (show ((w.alloc (.cells #[.int .i64 t, .int .i64 n] 23)).alloc (.cells #[.int .i64 0, .int .i64 0] 23)).heap.size = w.heap.size + 2 by simp)
  have HG := Lib.hid (show ∀ W, Below (w.heap.size + 2) ((w.alloc (.cells #[.int .i64 t, .int .i64 n] 23)).alloc (.cells #[.int .i64 0, .int .i64 0] 23)) W → W.heap[w.heap.size]? = some (.cells #[.int .i64 t, .int .i64 n] 23 (0, 0)) ∧ W.heap[w.heap.size + 1]? = some (.cells #[.int .i64 0, .int .i64 0] 23 (0, 0)) from fun W hb => by
    refine ⟨(hb.block _ (by omega)).trans ((Below.heap_alloc _ _ _ (by simp)).trans (heap_alloc_new w _)), (hb.block _ (by omega)).trans ?_⟩
    have h := heap_alloc_new (w.alloc (.cells #[.int .i64 t, .int .i64 n] 23)) (.cells #[.int .i64 0, .int .i64 0] 23)
    rwa [World.size_alloc] at h)
  go_enter Try.func15, Try.ntmps15
  go_wp2_with fail
  refine (may_any _ _ _).mono ?_
  rintro e w3 ⟨rfl, hb3⟩
  rw [h]
  have HB3 := Lib.hid (show Below (w.heap.size + 2) ((w.alloc (.cells #[.int .i64 t, .int .i64 n] 23)).alloc (.cells #[.int .i64 0, .int .i64 0] 23)) w3 by have := hb3; rw [HZ.out] at this; exact this)
  clear hb3
  go_wp2_with fail
  refine (count_any _).mono ?_
  rintro e w4 ⟨rfl, hb4⟩
  have HB4 := Lib.hid (HB3.out.trans (hb4.mono (by have := HB3.out.size; have := HZ.out; omega)))
  clear hb4
  go_wp2_with fail
  refine (has_any _ _ _ _).mono ?_
  rintro e w5 ⟨rfl, hb5⟩
  rw [hk]
  have HB5 := Lib.hid (HB4.out.trans (hb5.mono (by have := HB4.out.size; have := HZ.out; omega)))
  clear hb5
  obtain ⟨g0, g1⟩ := HG.out _ HB5.out
  have HZ5 := Lib.hid (Nat.le_trans (by have := HZ.out; omega) HB5.out.size : w.heap.size + 2 ≤ w5.heap.size)
  have HG5 := Lib.hid (heap_alloc_new w5 (.cells #[.int .i64 0, .int .i64 0] 23))
  have HR5 := Lib.hid (setRow_heap _ w5.heap.size _ #[.int .i64 t, .int .i64 (n + k)] _ _ HG5.out)
  have HB6 := Lib.hid (below_setRow (HB5.out.alloc (by have := HZ5.out; omega) (.cells #[.int .i64 0, .int .i64 0] 23)) (by have := HZ5.out; omega) #[.int .i64 t, .int .i64 (n + k)] : Below (w.heap.size + 2) ((w.alloc (.cells #[.int .i64 t, .int .i64 n] 23)).alloc (.cells #[.int .i64 0, .int .i64 0] 23)) ((w5.alloc (.cells #[.int .i64 0, .int .i64 0] 23)).setRow w5.heap.size #[.int .i64 t, .int .i64 (n + k)]))
  have HN := Lib.hid (show ((w5.alloc (.cells #[.int .i64 0, .int .i64 0] 23)).setRow w5.heap.size #[.int .i64 t, .int .i64 (n + k)]).heap.size = w5.heap.size + 1 by simp [World.setRow])
  have c0 : w5.cell? ⟨w.heap.size, 0, none⟩ = some (.int .i64 t) := cell_of_row w5 w.heap.size 0 _ _ _ g0
  have c1 : w5.cell? ⟨w.heap.size, 1, none⟩ = some (.int .i64 n) := cell_of_row w5 w.heap.size 1 _ _ _ g0
  have hw : IntKind.i64.wrap (n + k) = n + k := wr64 (by omega)
  have HKk := Lib.hid hk
  have HMm := Lib.hid hm
  clear hk hm
  go_wp2_with (refine wpList_store_row rfl 23 (.tmp 7) (.tmp 26) rfl w5.heap.size #[.int .i64 t, .int .i64 (n + k)] (by simp [Act.eval, Act.put]) (by simp [Act.eval, Act.put]) 23 #[.int .i64 0, .int .i64 0] HG5.out (Try.infoLs _ _) (size2 _ _ _ _) (one2 _ _) ?_)
  obtain ⟨w6, hw6⟩ : ∃ w6, w6 = (w5.alloc (.cells #[.int .i64 0, .int .i64 0] 23)).setRow w5.heap.size #[.int .i64 t, .int .i64 (n + k)] := ⟨_, rfl⟩
  have HGR := Lib.hid (show ∀ W, Below w6.heap.size w6 W → W.heap[w.heap.size]? = some (.cells #[.int .i64 t, .int .i64 n] 23 (0, 0)) ∧ W.heap[w.heap.size + 1]? = some (.cells #[.int .i64 0, .int .i64 0] 23 (0, 0)) ∧ W.heap[w5.heap.size]? = some (.cells #[.int .i64 t, .int .i64 (n + k)] 23 (0, 0)) from fun W hW => by
    have hb6 := HB6.out
    have hn := HN.out
    have hr := HR5.out
    rw [← hw6] at hb6 hn hr
    have hz := HZ5.out
    obtain ⟨q0, q1⟩ := HG.out w6 hb6
    exact ⟨(hW.block _ (by omega)).trans q0, (hW.block _ (by omega)).trans q1, (hW.block _ (by omega)).trans hr⟩)
  have HB6' := Lib.hid (show Below (w.heap.size + 2) ((w.alloc (.cells #[.int .i64 t, .int .i64 n] 23)).alloc (.cells #[.int .i64 0, .int .i64 0] 23)) w6 by rw [hw6]; exact HB6.out)
  have HZ6 := Lib.hid (show w.heap.size + 2 ≤ w6.heap.size by rw [hw6, HN.out]; have := HZ5.out; omega)
  rw [← hw6]
  clear hw6 HB6 HN HR5 HG5
  have HS := Lib.hid (show ∀ W, Below w6.heap.size w6 W → W.cell? ⟨w.heap.size, 0, none⟩ = some (.int .i64 t) ∧ W.cell? ⟨w.heap.size, 1, none⟩ = some (.int .i64 n) ∧ W.cell? ⟨w5.heap.size, 1, none⟩ = some (.int .i64 (n + k)) from fun W hW => by
    obtain ⟨q0, _, q2⟩ := HGR.out W hW
    exact ⟨cell_of_row W _ 0 _ _ _ q0, cell_of_row W _ 1 _ _ _ q0, cell_of_row W _ 1 _ _ _ q2⟩)
  clear c0 c1 g0 g1
  refine wp_region_held_drew (S := fun W => W.cell? ⟨w.heap.size, 0, none⟩ = some (.int .i64 t) ∧ W.cell? ⟨w.heap.size, 1, none⟩ = some (.int .i64 n) ∧ W.cell? ⟨w5.heap.size, 1, none⟩ = some (.int .i64 (n + k))) (by kernel_rfl) (HS.out _ (Below.refl _ _).drew) (fun hHeld => ?_)
  refine wpAnyH_take (i := 0) (v := ?_) rfl (by kernel_rfl) (by kernel_rfl) (by kernel_rfl) (fun _ _ _ h => h) (Or.inl ⟨by rfl, ?_⟩) (by assumption) ?_
  rotate_left
  · simp only [List.getElem_toArray, List.getElem_cons_zero, List.getElem_cons_succ]; intro W hSw; (try dsimp only at hSw); go_simp; all_goals with_reducible rfl
  simp only [Act.put, List.getElem_toArray, List.getElem_cons_zero, List.getElem_cons_succ, List.setIfInBounds_toArray, List.set_cons_zero, List.set_cons_succ]
  refine wpAnyH_take (i := 1) (v := ?_) rfl (by kernel_rfl) (by kernel_rfl) (by kernel_rfl) (fun _ _ _ h => h) (Or.inl ⟨by rfl, ?_⟩) (by assumption) ?_
  rotate_left
  · simp only [List.getElem_toArray, List.getElem_cons_zero, List.getElem_cons_succ]; intro W hSw; (try dsimp only at hSw); go_simp; all_goals with_reducible rfl
  simp only [Act.put, List.getElem_toArray, List.getElem_cons_zero, List.getElem_cons_succ, List.setIfInBounds_toArray, List.set_cons_zero, List.set_cons_succ]
  refine wpAnyH_ready (rs := [2]) (by kernel_rfl) (by simp) ?_
  refine AllReadyH.cons rfl (fun K hK => ?_) AllReadyH.nil
  simp only [List.getElem_toArray, List.getElem_cons_zero, List.getElem_cons_succ]
  go_simp
  refine (free_any _ _ _).mono ?_
  rintro e w7 ⟨rfl, hb7⟩
  go_wp2_with fail
  have HB7 := Lib.hid ((Below.refl w6.heap.size w6).drew.trans hb7)
  clear hb7
  refine hK.out _ _ (HS.out _ HB7.out) (fun hHeldN => ?_)
  clear hK K hHeld
  have hHeld := hHeldN
  clear hHeldN
  (try simp only [Act.put, List.getElem_toArray, List.getElem_cons_zero, List.getElem_cons_succ, List.setIfInBounds_toArray, List.set_cons_zero, List.set_cons_succ])
  refine wpAnyH_take (i := 3) (v := ?_) rfl (by kernel_rfl) (by kernel_rfl) (by kernel_rfl) (fun _ _ _ h => h) (Or.inl ⟨by rfl, ?_⟩) (by assumption) ?_
  rotate_left
  · simp only [List.getElem_toArray, List.getElem_cons_zero, List.getElem_cons_succ]; intro W hSw; (try dsimp only at hSw); go_simp; all_goals with_reducible rfl
  simp only [Act.put, List.getElem_toArray, List.getElem_cons_zero, List.getElem_cons_succ, List.setIfInBounds_toArray, List.set_cons_zero, List.set_cons_succ]
  rw [HD.out]
  refine wpAnyH_take (i := 4) (v := ?_) rfl (by kernel_rfl) (by kernel_rfl) (by kernel_rfl) (fun _ _ _ h => h) (Or.inl ⟨by rfl, ?_⟩) (by assumption) ?_
  rotate_left
  · simp only [List.getElem_toArray, List.getElem_cons_zero, List.getElem_cons_succ]; intro W hSw; (try dsimp only at hSw); go_simp; all_goals with_reducible rfl
  simp only [Act.put, List.getElem_toArray, List.getElem_cons_zero, List.getElem_cons_succ, List.setIfInBounds_toArray, List.set_cons_zero, List.set_cons_succ]
  refine wpAnyH_take (i := 5) (v := undef) rfl (by kernel_rfl) (by kernel_rfl) (by kernel_rfl) (fun _ _ _ h => h) (Or.inr ⟨by rfl, rfl⟩) (by assumption) ?_
  (try simp only [Act.put, List.getElem_toArray, List.getElem_cons_zero, List.getElem_cons_succ, List.setIfInBounds_toArray, List.set_cons_zero, List.set_cons_succ])
  refine wpAnyH_take (i := 6) (v := undef) rfl (by kernel_rfl) (by kernel_rfl) (by kernel_rfl) (fun _ _ _ h => h) (Or.inr ⟨by rfl, rfl⟩) (by assumption) ?_
  (try simp only [Act.put, List.getElem_toArray, List.getElem_cons_zero, List.getElem_cons_succ, List.setIfInBounds_toArray, List.set_cons_zero, List.set_cons_succ])
  refine wpAnyH_take (i := 7) (v := undef) rfl (by kernel_rfl) (by kernel_rfl) (by kernel_rfl) (fun _ _ _ h => h) (Or.inr ⟨by rfl, rfl⟩) (by assumption) ?_
  (try simp only [Act.put, List.getElem_toArray, List.getElem_cons_zero, List.getElem_cons_succ, List.setIfInBounds_toArray, List.set_cons_zero, List.set_cons_succ])
  refine wpAnyH_take (i := 8) (v := undef) rfl (by kernel_rfl) (by kernel_rfl) (by kernel_rfl) (fun _ _ _ h => h) (Or.inr ⟨by rfl, rfl⟩) (by assumption) ?_
  (try simp only [Act.put, List.getElem_toArray, List.getElem_cons_zero, List.getElem_cons_succ, List.setIfInBounds_toArray, List.set_cons_zero, List.set_cons_succ])
  refine wpAnyH_take (i := 9) (v := undef) rfl (by kernel_rfl) (by kernel_rfl) (by kernel_rfl) (fun _ _ _ h => h) (Or.inr ⟨by rfl, rfl⟩) (by assumption) ?_
  (try simp only [Act.put, List.getElem_toArray, List.getElem_cons_zero, List.getElem_cons_succ, List.setIfInBounds_toArray, List.set_cons_zero, List.set_cons_succ])
  refine wpAnyH_take (i := 10) (v := ?_) rfl (by kernel_rfl) (by kernel_rfl) (by kernel_rfl) (fun _ _ _ h => h) (Or.inl ⟨by rfl, ?_⟩) (by assumption) ?_
  rotate_left
  · simp only [List.getElem_toArray, List.getElem_cons_zero, List.getElem_cons_succ]; intro W hSw; (try dsimp only at hSw); go_simp; all_goals with_reducible rfl
  simp only [Act.put, List.getElem_toArray, List.getElem_cons_zero, List.getElem_cons_succ, List.setIfInBounds_toArray, List.set_cons_zero, List.set_cons_succ]
  refine wpAnyH_done (by kernel_rfl) ?_ _
  obtain ⟨g0, g1, g2⟩ := HGR.out _ HB7.out
  go_wp2_with (refine wpList_store_row rfl 23 (.tmp 4) (.tmp 38) rfl (w.heap.size + 1) #[.int .i64 0, .int .i64 0] (by simp [Act.eval, Act.put]) (by simp [Act.eval, Act.put]) 23 #[.int .i64 0, .int .i64 0] g1 (Try.infoLs _ _) (size2 _ _ _ _) (one2 _ _) ?_)
  exact bodyPost_ret (results_cell_tmp2 rfl _ _ (w.heap.size + 1) #[.int .i64 0, .int .i64 0] (0, 0) _ rfl (setRow_heap _ _ _ _ _ _ g1) Try.underlying23 rfl Try.infoL) rfl ⟨rfl, below_setRow (HB0.out.trans ((HB6'.out.trans (HB7.out.mono HZ6.out)).mono (by omega))) (by omega) _⟩

set_option maxHeartbeats 1000000 in
theorem take_high (t n k : Int) (w : World) (h : mayB t n = true) (hk : (decide (0 ≤ k) && decide (k ≤ 24)) = true) (hf : k ≤ freeR t n) (hs : seqB (n + k) = false) :
    Calls Try.prog 15 #[.agg #[.int .i64 t, .int .i64 n], .int .i64 k] w fun e w' => e = .returned (.tuple #[.agg #[.int .i64 0, .int .i64 0], .slice none 0 0, .int .i64 50]) ∧ Below w.heap.size w w' := by
  have hm := mayB_true h
  have hk2 : 0 ≤ k ∧ k ≤ 24 := by simpa using hk
  have HD := Lib.hid (show decide (freeR t n < k) = false by simp; omega)
  clear hf
  have HB0 := Lib.hid (((Below.refl w.heap.size w).alloc (Nat.le_refl _) (.cells #[.int .i64 t, .int .i64 n] 23)).alloc (by simp) (.cells #[.int .i64 0, .int .i64 0] 23))
  have HZ := Lib.hid (show ((w.alloc (.cells #[.int .i64 t, .int .i64 n] 23)).alloc (.cells #[.int .i64 0, .int .i64 0] 23)).heap.size = w.heap.size + 2 by simp)
  have HG := Lib.hid (show ∀ W, Below (w.heap.size + 2) ((w.alloc (.cells #[.int .i64 t, .int .i64 n] 23)).alloc (.cells #[.int .i64 0, .int .i64 0] 23)) W → W.heap[w.heap.size]? = some (.cells #[.int .i64 t, .int .i64 n] 23 (0, 0)) ∧ W.heap[w.heap.size + 1]? = some (.cells #[.int .i64 0, .int .i64 0] 23 (0, 0)) from fun W hb => by
    refine ⟨(hb.block _ (by omega)).trans ((Below.heap_alloc _ _ _ (by simp)).trans (heap_alloc_new w _)), (hb.block _ (by omega)).trans ?_⟩
    have h := heap_alloc_new (w.alloc (.cells #[.int .i64 t, .int .i64 n] 23)) (.cells #[.int .i64 0, .int .i64 0] 23)
    rwa [World.size_alloc] at h)
  go_enter Try.func15, Try.ntmps15
  go_wp2_with fail
  refine (may_any _ _ _).mono ?_
  rintro e w3 ⟨rfl, hb3⟩
  rw [h]
  have HB3 := Lib.hid (show Below (w.heap.size + 2) ((w.alloc (.cells #[.int .i64 t, .int .i64 n] 23)).alloc (.cells #[.int .i64 0, .int .i64 0] 23)) w3 by have := hb3; rw [HZ.out] at this; exact this)
  clear hb3
  go_wp2_with fail
  refine (count_any _).mono ?_
  rintro e w4 ⟨rfl, hb4⟩
  have HB4 := Lib.hid (HB3.out.trans (hb4.mono (by have := HB3.out.size; have := HZ.out; omega)))
  clear hb4
  go_wp2_with fail
  refine (has_any _ _ _ _).mono ?_
  rintro e w5 ⟨rfl, hb5⟩
  rw [hk]
  have HB5 := Lib.hid (HB4.out.trans (hb5.mono (by have := HB4.out.size; have := HZ.out; omega)))
  clear hb5
  obtain ⟨g0, g1⟩ := HG.out _ HB5.out
  have HZ5 := Lib.hid (Nat.le_trans (by have := HZ.out; omega) HB5.out.size : w.heap.size + 2 ≤ w5.heap.size)
  have HG5 := Lib.hid (heap_alloc_new w5 (.cells #[.int .i64 0, .int .i64 0] 23))
  have HR5 := Lib.hid (setRow_heap _ w5.heap.size _ #[.int .i64 t, .int .i64 (n + k)] _ _ HG5.out)
  have HB6 := Lib.hid (below_setRow (HB5.out.alloc (by have := HZ5.out; omega) (.cells #[.int .i64 0, .int .i64 0] 23)) (by have := HZ5.out; omega) #[.int .i64 t, .int .i64 (n + k)] : Below (w.heap.size + 2) ((w.alloc (.cells #[.int .i64 t, .int .i64 n] 23)).alloc (.cells #[.int .i64 0, .int .i64 0] 23)) ((w5.alloc (.cells #[.int .i64 0, .int .i64 0] 23)).setRow w5.heap.size #[.int .i64 t, .int .i64 (n + k)]))
  have HN := Lib.hid (show ((w5.alloc (.cells #[.int .i64 0, .int .i64 0] 23)).setRow w5.heap.size #[.int .i64 t, .int .i64 (n + k)]).heap.size = w5.heap.size + 1 by simp [World.setRow])
  have c0 : w5.cell? ⟨w.heap.size, 0, none⟩ = some (.int .i64 t) := cell_of_row w5 w.heap.size 0 _ _ _ g0
  have c1 : w5.cell? ⟨w.heap.size, 1, none⟩ = some (.int .i64 n) := cell_of_row w5 w.heap.size 1 _ _ _ g0
  have hw : IntKind.i64.wrap (n + k) = n + k := wr64 (by omega)
  have HKk := Lib.hid hk
  have HMm := Lib.hid hm
  clear hk hm
  go_wp2_with (refine wpList_store_row rfl 23 (.tmp 7) (.tmp 26) rfl w5.heap.size #[.int .i64 t, .int .i64 (n + k)] (by simp [Act.eval, Act.put]) (by simp [Act.eval, Act.put]) 23 #[.int .i64 0, .int .i64 0] HG5.out (Try.infoLs _ _) (size2 _ _ _ _) (one2 _ _) ?_)
  obtain ⟨w6, hw6⟩ : ∃ w6, w6 = (w5.alloc (.cells #[.int .i64 0, .int .i64 0] 23)).setRow w5.heap.size #[.int .i64 t, .int .i64 (n + k)] := ⟨_, rfl⟩
  have HGR := Lib.hid (show ∀ W, Below w6.heap.size w6 W → W.heap[w.heap.size]? = some (.cells #[.int .i64 t, .int .i64 n] 23 (0, 0)) ∧ W.heap[w.heap.size + 1]? = some (.cells #[.int .i64 0, .int .i64 0] 23 (0, 0)) ∧ W.heap[w5.heap.size]? = some (.cells #[.int .i64 t, .int .i64 (n + k)] 23 (0, 0)) from fun W hW => by
    have hb6 := HB6.out
    have hn := HN.out
    have hr := HR5.out
    rw [← hw6] at hb6 hn hr
    have hz := HZ5.out
    obtain ⟨q0, q1⟩ := HG.out w6 hb6
    exact ⟨(hW.block _ (by omega)).trans q0, (hW.block _ (by omega)).trans q1, (hW.block _ (by omega)).trans hr⟩)
  have HB6' := Lib.hid (show Below (w.heap.size + 2) ((w.alloc (.cells #[.int .i64 t, .int .i64 n] 23)).alloc (.cells #[.int .i64 0, .int .i64 0] 23)) w6 by rw [hw6]; exact HB6.out)
  have HZ6 := Lib.hid (show w.heap.size + 2 ≤ w6.heap.size by rw [hw6, HN.out]; have := HZ5.out; omega)
  rw [← hw6]
  clear hw6 HB6 HN HR5 HG5
  have HS := Lib.hid (show ∀ W, Below w6.heap.size w6 W → W.cell? ⟨w.heap.size, 0, none⟩ = some (.int .i64 t) ∧ W.cell? ⟨w.heap.size, 1, none⟩ = some (.int .i64 n) ∧ W.cell? ⟨w5.heap.size, 1, none⟩ = some (.int .i64 (n + k)) from fun W hW => by
    obtain ⟨q0, _, q2⟩ := HGR.out W hW
    exact ⟨cell_of_row W _ 0 _ _ _ q0, cell_of_row W _ 1 _ _ _ q0, cell_of_row W _ 1 _ _ _ q2⟩)
  clear c0 c1 g0 g1
  refine wp_region_held_drew (S := fun W => W.cell? ⟨w.heap.size, 0, none⟩ = some (.int .i64 t) ∧ W.cell? ⟨w.heap.size, 1, none⟩ = some (.int .i64 n) ∧ W.cell? ⟨w5.heap.size, 1, none⟩ = some (.int .i64 (n + k))) (by kernel_rfl) (HS.out _ (Below.refl _ _).drew) (fun hHeld => ?_)
  refine wpAnyH_take (i := 0) (v := ?_) rfl (by kernel_rfl) (by kernel_rfl) (by kernel_rfl) (fun _ _ _ h => h) (Or.inl ⟨by rfl, ?_⟩) (by assumption) ?_
  rotate_left
  · simp only [List.getElem_toArray, List.getElem_cons_zero, List.getElem_cons_succ]; intro W hSw; (try dsimp only at hSw); go_simp; all_goals with_reducible rfl
  simp only [Act.put, List.getElem_toArray, List.getElem_cons_zero, List.getElem_cons_succ, List.setIfInBounds_toArray, List.set_cons_zero, List.set_cons_succ]
  refine wpAnyH_take (i := 1) (v := ?_) rfl (by kernel_rfl) (by kernel_rfl) (by kernel_rfl) (fun _ _ _ h => h) (Or.inl ⟨by rfl, ?_⟩) (by assumption) ?_
  rotate_left
  · simp only [List.getElem_toArray, List.getElem_cons_zero, List.getElem_cons_succ]; intro W hSw; (try dsimp only at hSw); go_simp; all_goals with_reducible rfl
  simp only [Act.put, List.getElem_toArray, List.getElem_cons_zero, List.getElem_cons_succ, List.setIfInBounds_toArray, List.set_cons_zero, List.set_cons_succ]
  refine wpAnyH_ready (rs := [2]) (by kernel_rfl) (by simp) ?_
  refine AllReadyH.cons rfl (fun K hK => ?_) AllReadyH.nil
  simp only [List.getElem_toArray, List.getElem_cons_zero, List.getElem_cons_succ]
  go_simp
  refine (free_any _ _ _).mono ?_
  rintro e w7 ⟨rfl, hb7⟩
  go_wp2_with fail
  have HB7 := Lib.hid ((Below.refl w6.heap.size w6).drew.trans hb7)
  clear hb7
  refine hK.out _ _ (HS.out _ HB7.out) (fun hHeldN => ?_)
  clear hK K hHeld
  have hHeld := hHeldN
  clear hHeldN
  (try simp only [Act.put, List.getElem_toArray, List.getElem_cons_zero, List.getElem_cons_succ, List.setIfInBounds_toArray, List.set_cons_zero, List.set_cons_succ])
  refine wpAnyH_take (i := 3) (v := ?_) rfl (by kernel_rfl) (by kernel_rfl) (by kernel_rfl) (fun _ _ _ h => h) (Or.inl ⟨by rfl, ?_⟩) (by assumption) ?_
  rotate_left
  · simp only [List.getElem_toArray, List.getElem_cons_zero, List.getElem_cons_succ]; intro W hSw; (try dsimp only at hSw); go_simp; all_goals with_reducible rfl
  simp only [Act.put, List.getElem_toArray, List.getElem_cons_zero, List.getElem_cons_succ, List.setIfInBounds_toArray, List.set_cons_zero, List.set_cons_succ]
  rw [HD.out]
  refine wpAnyH_take (i := 4) (v := ?_) rfl (by kernel_rfl) (by kernel_rfl) (by kernel_rfl) (fun _ _ _ h => h) (Or.inl ⟨by rfl, ?_⟩) (by assumption) ?_
  rotate_left
  · simp only [List.getElem_toArray, List.getElem_cons_zero, List.getElem_cons_succ]; intro W hSw; (try dsimp only at hSw); go_simp; all_goals with_reducible rfl
  simp only [Act.put, List.getElem_toArray, List.getElem_cons_zero, List.getElem_cons_succ, List.setIfInBounds_toArray, List.set_cons_zero, List.set_cons_succ]
  refine wpAnyH_take (i := 6) (v := ?_) rfl (by kernel_rfl) (by kernel_rfl) (by kernel_rfl) (fun _ _ _ h => h) (Or.inl ⟨by rfl, ?_⟩) (by assumption) ?_
  rotate_left
  · simp only [List.getElem_toArray, List.getElem_cons_zero, List.getElem_cons_succ]; intro W hSw; (try dsimp only at hSw); go_simp; all_goals with_reducible rfl
  simp only [Act.put, List.getElem_toArray, List.getElem_cons_zero, List.getElem_cons_succ, List.setIfInBounds_toArray, List.set_cons_zero, List.set_cons_succ]
  refine wpAnyH_take (i := 7) (v := ?_) rfl (by kernel_rfl) (by kernel_rfl) (by kernel_rfl) (fun _ _ _ h => h) (Or.inl ⟨by rfl, ?_⟩) (by assumption) ?_
  rotate_left
  · simp only [List.getElem_toArray, List.getElem_cons_zero, List.getElem_cons_succ]; intro W hSw; (try dsimp only at hSw); go_simp; all_goals with_reducible rfl
  simp only [Act.put, List.getElem_toArray, List.getElem_cons_zero, List.getElem_cons_succ, List.setIfInBounds_toArray, List.set_cons_zero, List.set_cons_succ]
  refine wpAnyH_ready (rs := [5]) (by kernel_rfl) (by simp) ?_
  refine AllReadyH.cons rfl (fun K hK => ?_) AllReadyH.nil
  simp only [List.getElem_toArray, List.getElem_cons_zero, List.getElem_cons_succ]
  go_simp
  refine (sequence_any _).mono ?_
  rintro e w8 ⟨rfl, hb8⟩
  go_wp2_with fail
  have HB8 := Lib.hid (HB7.out.trans (hb8.mono HB7.out.size))
  clear hb8
  refine hK.out _ _ (HS.out _ HB8.out) (fun hHeldN => ?_)
  clear hK K hHeld
  have hHeld := hHeldN
  clear hHeldN
  (try simp only [Act.put, List.getElem_toArray, List.getElem_cons_zero, List.getElem_cons_succ, List.setIfInBounds_toArray, List.set_cons_zero, List.set_cons_succ])
  refine wpAnyH_ready (rs := [8]) (by kernel_rfl) (by simp) ?_
  refine AllReadyH.cons rfl (fun K hK => ?_) AllReadyH.nil
  simp only [List.getElem_toArray, List.getElem_cons_zero, List.getElem_cons_succ]
  go_simp
  refine (has_any _ _ _ _).mono ?_
  rintro e w9 ⟨rfl, hb9⟩
  rw [show (decide (1 ≤ n + k) && decide (n + k ≤ 1099511627776)) = _ from hs]
  go_wp2_with fail
  have HB9 := Lib.hid (HB8.out.trans (hb9.mono HB8.out.size))
  clear hb9
  refine hK.out _ _ (HS.out _ HB9.out) (fun hHeldN => ?_)
  clear hK K hHeld
  have hHeld := hHeldN
  clear hHeldN
  (try simp only [Act.put, List.getElem_toArray, List.getElem_cons_zero, List.getElem_cons_succ, List.setIfInBounds_toArray, List.set_cons_zero, List.set_cons_succ])
  refine wpAnyH_take (i := 9) (v := ?_) rfl (by kernel_rfl) (by kernel_rfl) (by kernel_rfl) (fun _ _ _ h => h) (Or.inl ⟨by rfl, ?_⟩) (by assumption) ?_
  rotate_left
  · simp only [List.getElem_toArray, List.getElem_cons_zero, List.getElem_cons_succ]; intro W hSw; (try dsimp only at hSw); go_simp; all_goals with_reducible rfl
  simp only [Act.put, List.getElem_toArray, List.getElem_cons_zero, List.getElem_cons_succ, List.setIfInBounds_toArray, List.set_cons_zero, List.set_cons_succ]
  refine wpAnyH_take (i := 10) (v := ?_) rfl (by kernel_rfl) (by kernel_rfl) (by kernel_rfl) (fun _ _ _ h => h) (Or.inl ⟨by rfl, ?_⟩) (by assumption) ?_
  rotate_left
  · simp only [List.getElem_toArray, List.getElem_cons_zero, List.getElem_cons_succ]; intro W hSw; (try dsimp only at hSw); go_simp; all_goals with_reducible rfl
  simp only [Act.put, List.getElem_toArray, List.getElem_cons_zero, List.getElem_cons_succ, List.setIfInBounds_toArray, List.set_cons_zero, List.set_cons_succ]
  refine wpAnyH_done (by kernel_rfl) ?_ _
  obtain ⟨g0, g1, g2⟩ := HGR.out _ HB9.out
  go_wp2_with (refine wpList_store_row rfl 23 (.tmp 4) (.tmp 38) rfl (w.heap.size + 1) #[.int .i64 0, .int .i64 0] (by simp [Act.eval, Act.put]) (by simp [Act.eval, Act.put]) 23 #[.int .i64 0, .int .i64 0] g1 (Try.infoLs _ _) (size2 _ _ _ _) (one2 _ _) ?_)
  exact bodyPost_ret (results_cell_tmp2 rfl _ _ (w.heap.size + 1) #[.int .i64 0, .int .i64 0] (0, 0) _ rfl (setRow_heap _ _ _ _ _ _ g1) Try.underlying23 rfl Try.infoL) rfl ⟨rfl, below_setRow (HB0.out.trans ((HB6'.out.trans (HB9.out.mono HZ6.out)).mono (by omega))) (by omega) _⟩

theorem owns_below {w w' : World} {base : Nat} {e : TypeId} {v : Value} {n : Nat} {xs : List Value} (h : w.ownsRow base e 1 v n xs) (hb : Below w.heap.size w w') : w'.ownsRow base e 1 v n xs := by
  obtain ⟨h1, h2⟩ := h
  refine ⟨h1, ?_⟩
  rcases h2 with h2 | ⟨g, cap, cur, hv, hg, hh, r⟩
  · exact Or.inl h2
  · exact Or.inr ⟨g, cap, cur, hv, hg, (hb.block g (Array.getElem?_eq_some_iff.1 hh).1).trans hh, r⟩
theorem bound_stays {W w1 : World} {Bs B n0 k : Nat} {tB : TypeId} {cs : Array Value} {v tmpv : Value} {tt : TypeId} {xs : List Value} (hbs : W.heap[Bs]? = some (.cells cs tB (0, 0))) (hne : tB ≠ 3) (hrow : W.ownsRow n0 3 1 v k xs)
    (hgrow : (W.alloc (.cells #[tmpv] tt)).grownBy w1 v.ownBlock) (hB : Bs ≠ B) (v' : Value) : (w1.setCell ⟨B, 0, none⟩ v').heap[Bs]? = W.heap[Bs]? := by
  have hlt := (Array.getElem?_eq_some_iff.1 hbs).1
  refine (Below.heap_setCell _ _ _ Bs hB).trans ((hgrow.block Bs (by simp; omega) ?_).trans (Below.heap_alloc _ _ _ hlt))
  rcases hrow.2 with ⟨rfl, _⟩ | ⟨g, cap, cur, rfl, _, hh, _⟩
  · simp [Value.ownBlock]
  · intro e
    obtain rfl : Bs = g := by simpa [Value.ownBlock] using e
    rw [hbs] at hh
    simp at hh
    exact hne hh.2
theorem owns_put {W : World} {base base' g D k : Nat} {e : TypeId} {v : Value} {xs : List Value} {o : Obj} (h : W.ownsRow base e 1 v k xs) (hb : base' ≤ base) (hg : g < base) (cs : Array Value) (hD : W.heap[D]? = some (.deferred (some []))) :
    ((W.drew.setRow g cs).putObj D o).ownsRow base' e 1 v k xs := by
  obtain ⟨h1, h2⟩ := h
  refine ⟨h1, ?_⟩
  rcases h2 with h2 | ⟨g', cap, cur, hv, hg', hh, r⟩
  · exact Or.inl h2
  · refine Or.inr ⟨g', cap, cur, hv, by omega, ?_, r⟩
    rw [World.putObj_heap_other (fun e => by subst e; rw [hD] at hh; cases hh), setRow_other _ _ _ _ (by omega)]
    exact hh
/-- between two rounds: the box holds a slice of what has come; what lay below n0 and the bound's block are as they were -/
def Coll (B n0 : Nat) (w0 : World) (Bs : Nat) (bound : Obj) (pre : List Int) (W : World) : Prop :=
  (∃ v, Boxed W B 38 v ∧ W.ownsRow n0 3 1 v pre.length (pre.map (Value.int .i64)) ∧ True) ∧ Below n0 w0 W ∧ W.heap[Bs]? = some bound
theorem coll_own {B n0 Bs F : Nat} {w0 : World} {bound : Obj} (hb : bound.isCells = true) (hn : n0 ≤ w0.heap.size) (hF : n0 ≤ F) : OwnFrom F (Coll B n0 w0 Bs bound) :=
  OwnFrom.and (Own.from (holdsRow_own n0 B 38 3 1 (fun (pre : List Int) => pre.length) (fun pre => pre.map (Value.int .i64)) (fun _ _ => True)) _)
    (OwnFrom.and (ownFrom_below hn hF) (fun _ X Y row hs hg hr => (hg.block Bs (Array.getElem?_eq_some_iff.1 hs).1 (fun e => by
      obtain ⟨_, o, ho, hc⟩ := hr Bs e.symm
      rw [hs] at ho; cases ho; rw [hb] at hc; cases hc)).trans hs))
attribute [local go_sem] Oper.semAt_some
/-- no way out by a panic -/
def Calm (Q : Exit → Act → World → Prop) : Exit → Act → World → Prop
  | .panic _, _, _ => False
  | .outgrown, _, _ => False
  | e, a, w => Q e a w
theorem calm_wp {P : Program} {c : Code} {Q : Exit → Act → World → Prop} {a : Act} {w : World} (h : c.wp P (Calm Q) a w) : c.wp P Q a w :=
  wp_mono h fun e a w h => by cases e <;> first | exact h | exact h.elim
set_option maxHeartbeats 2000000 in
theorem take_ok (t n : Int) (k : Nat) (w : World) (h : mayB t n = true) (hk : (decide (0 ≤ (k : Int)) && decide ((k : Int) ≤ 24)) = true) (hf : (k : Int) ≤ freeR t n) (hs : seqB (n + (k : Int)) = true) :
    Calls Try.prog 15 #[.agg #[.int .i64 t, .int .i64 n], .int .i64 (k : Int)] w fun e w' => ∃ v, e = .returned (.tuple #[.agg #[.int .i64 t, .int .i64 (n + (k : Int))], v, .int .i64 0]) ∧
      w'.ownsRow w.heap.size 3 1 v k ((upto n k).map (Value.int .i64)) ∧ Below w.heap.size w w' := by
  have hm := mayB_true h
  have hk2 : 0 ≤ (k : Int) ∧ (k : Int) ≤ 24 := by simpa using hk
  have HD := Lib.hid (show decide (freeR t n < (k : Int)) = false by simp; omega)
  clear hf
  have HB0 := Lib.hid (((Below.refl w.heap.size w).alloc (Nat.le_refl _) (.cells #[.int .i64 t, .int .i64 n] 23)).alloc (by simp) (.cells #[.int .i64 0, .int .i64 0] 23))
  have HZ := Lib.hid (show ((w.alloc (.cells #[.int .i64 t, .int .i64 n] 23)).alloc (.cells #[.int .i64 0, .int .i64 0] 23)).heap.size = w.heap.size + 2 by simp)
  have HG := Lib.hid (show ∀ W, Below (w.heap.size + 2) ((w.alloc (.cells #[.int .i64 t, .int .i64 n] 23)).alloc (.cells #[.int .i64 0, .int .i64 0] 23)) W → W.heap[w.heap.size]? = some (.cells #[.int .i64 t, .int .i64 n] 23 (0, 0)) ∧ W.heap[w.heap.size + 1]? = some (.cells #[.int .i64 0, .int .i64 0] 23 (0, 0)) from fun W hb => by
    refine ⟨(hb.block _ (by omega)).trans ((Below.heap_alloc _ _ _ (by simp)).trans (heap_alloc_new w _)), (hb.block _ (by omega)).trans ?_⟩
    have h := heap_alloc_new (w.alloc (.cells #[.int .i64 t, .int .i64 n] 23)) (.cells #[.int .i64 0, .int .i64 0] 23)
    rwa [World.size_alloc] at h)
  refine (callsIn_wide (n := 5)).1 ?_
  refine callsIn_of_wp_marks Try.func15 rfl trivial ?_ rfl
  simp only [Try.ntmps15, List.size_toArray, List.length_cons, List.length_nil, Nat.reduceAdd, Nat.reduceSub, Array.replicate_succ, Array.replicate_zero, List.push_toArray, List.append_toArray, List.nil_append, List.cons_append]
  refine wpIn_wide.2 (calm_wp ?_)
  go_wp2_with fail
  refine (may_any _ _ _).mono ?_
  rintro e w3 ⟨rfl, hb3⟩
  rw [h]
  have HB3 := Lib.hid (show Below (w.heap.size + 2) ((w.alloc (.cells #[.int .i64 t, .int .i64 n] 23)).alloc (.cells #[.int .i64 0, .int .i64 0] 23)) w3 by have := hb3; rw [HZ.out] at this; exact this)
  clear hb3
  go_wp2_with fail
  refine (count_any _).mono ?_
  rintro e w4 ⟨rfl, hb4⟩
  have HB4 := Lib.hid (HB3.out.trans (hb4.mono (by have := HB3.out.size; have := HZ.out; omega)))
  clear hb4
  go_wp2_with fail
  refine (has_any _ _ _ _).mono ?_
  rintro e w5 ⟨rfl, hb5⟩
  rw [hk]
  have HB5 := Lib.hid (HB4.out.trans (hb5.mono (by have := HB4.out.size; have := HZ.out; omega)))
  clear hb5
  obtain ⟨g0, g1⟩ := HG.out _ HB5.out
  have HZ5 := Lib.hid (Nat.le_trans (by have := HZ.out; omega) HB5.out.size : w.heap.size + 2 ≤ w5.heap.size)
  have HG5 := Lib.hid (heap_alloc_new w5 (.cells #[.int .i64 0, .int .i64 0] 23))
  have HR5 := Lib.hid (setRow_heap _ w5.heap.size _ #[.int .i64 t, .int .i64 (n + k)] _ _ HG5.out)
  have HB6 := Lib.hid (below_setRow (HB5.out.alloc (by have := HZ5.out; omega) (.cells #[.int .i64 0, .int .i64 0] 23)) (by have := HZ5.out; omega) #[.int .i64 t, .int .i64 (n + k)] : Below (w.heap.size + 2) ((w.alloc (.cells #[.int .i64 t, .int .i64 n] 23)).alloc (.cells #[.int .i64 0, .int .i64 0] 23)) ((w5.alloc (.cells #[.int .i64 0, .int .i64 0] 23)).setRow w5.heap.size #[.int .i64 t, .int .i64 (n + k)]))
  have HN := Lib.hid (show ((w5.alloc (.cells #[.int .i64 0, .int .i64 0] 23)).setRow w5.heap.size #[.int .i64 t, .int .i64 (n + k)]).heap.size = w5.heap.size + 1 by simp [World.setRow])
  have c0 : w5.cell? ⟨w.heap.size, 0, none⟩ = some (.int .i64 t) := cell_of_row w5 w.heap.size 0 _ _ _ g0
  have c1 : w5.cell? ⟨w.heap.size, 1, none⟩ = some (.int .i64 n) := cell_of_row w5 w.heap.size 1 _ _ _ g0
  have hw : IntKind.i64.wrap (n + k) = n + k := wr64 (by omega)
  have HKk := Lib.hid hk
  have HMm := Lib.hid hm
  clear hk hm
  go_wp2_with (refine wpList_store_row rfl 23 (.tmp 7) (.tmp 26) rfl w5.heap.size #[.int .i64 t, .int .i64 (n + k)] (by simp [Act.eval, Act.put]) (by simp [Act.eval, Act.put]) 23 #[.int .i64 0, .int .i64 0] HG5.out (Try.infoLs _ _) (size2 _ _ _ _) (one2 _ _) ?_)
  obtain ⟨w6, hw6⟩ : ∃ w6, w6 = (w5.alloc (.cells #[.int .i64 0, .int .i64 0] 23)).setRow w5.heap.size #[.int .i64 t, .int .i64 (n + k)] := ⟨_, rfl⟩
  have HGR := Lib.hid (show ∀ W, Below w6.heap.size w6 W → W.heap[w.heap.size]? = some (.cells #[.int .i64 t, .int .i64 n] 23 (0, 0)) ∧ W.heap[w.heap.size + 1]? = some (.cells #[.int .i64 0, .int .i64 0] 23 (0, 0)) ∧ W.heap[w5.heap.size]? = some (.cells #[.int .i64 t, .int .i64 (n + k)] 23 (0, 0)) from fun W hW => by
    have hb6 := HB6.out
    have hn := HN.out
    have hr := HR5.out
    rw [← hw6] at hb6 hn hr
    have hz := HZ5.out
    obtain ⟨q0, q1⟩ := HG.out w6 hb6
    exact ⟨(hW.block _ (by omega)).trans q0, (hW.block _ (by omega)).trans q1, (hW.block _ (by omega)).trans hr⟩)
  have HB6' := Lib.hid (show Below (w.heap.size + 2) ((w.alloc (.cells #[.int .i64 t, .int .i64 n] 23)).alloc (.cells #[.int .i64 0, .int .i64 0] 23)) w6 by rw [hw6]; exact HB6.out)
  have HZ6 := Lib.hid (show w.heap.size + 2 ≤ w6.heap.size by rw [hw6, HN.out]; have := HZ5.out; omega)
  rw [← hw6]
  clear hw6 HB6 HN HR5 HG5
  have HS := Lib.hid (show ∀ W, Below w6.heap.size w6 W → W.cell? ⟨w.heap.size, 0, none⟩ = some (.int .i64 t) ∧ W.cell? ⟨w.heap.size, 1, none⟩ = some (.int .i64 n) ∧ W.cell? ⟨w5.heap.size, 1, none⟩ = some (.int .i64 (n + k)) from fun W hW => by
    obtain ⟨q0, _, q2⟩ := HGR.out W hW
    exact ⟨cell_of_row W _ 0 _ _ _ q0, cell_of_row W _ 1 _ _ _ q0, cell_of_row W _ 1 _ _ _ q2⟩)
  clear c0 c1 g0 g1
  refine wp_region_held_drew (S := fun W => W.cell? ⟨w.heap.size, 0, none⟩ = some (.int .i64 t) ∧ W.cell? ⟨w.heap.size, 1, none⟩ = some (.int .i64 n) ∧ W.cell? ⟨w5.heap.size, 1, none⟩ = some (.int .i64 (n + k))) (by kernel_rfl) (HS.out _ (Below.refl _ _).drew) (fun hHeld => ?_)
  refine wpAnyH_take (i := 0) (v := ?_) rfl (by kernel_rfl) (by kernel_rfl) (by kernel_rfl) (fun _ _ _ h => h) (Or.inl ⟨by rfl, ?_⟩) (by assumption) ?_
  rotate_left
  · simp only [List.getElem_toArray, List.getElem_cons_zero, List.getElem_cons_succ]; intro W hSw; (try dsimp only at hSw); go_simp; all_goals with_reducible rfl
  simp only [Act.put, List.getElem_toArray, List.getElem_cons_zero, List.getElem_cons_succ, List.setIfInBounds_toArray, List.set_cons_zero, List.set_cons_succ]
  refine wpAnyH_take (i := 1) (v := ?_) rfl (by kernel_rfl) (by kernel_rfl) (by kernel_rfl) (fun _ _ _ h => h) (Or.inl ⟨by rfl, ?_⟩) (by assumption) ?_
  rotate_left
  · simp only [List.getElem_toArray, List.getElem_cons_zero, List.getElem_cons_succ]; intro W hSw; (try dsimp only at hSw); go_simp; all_goals with_reducible rfl
  simp only [Act.put, List.getElem_toArray, List.getElem_cons_zero, List.getElem_cons_succ, List.setIfInBounds_toArray, List.set_cons_zero, List.set_cons_succ]
  refine wpAnyH_ready (rs := [2]) (by kernel_rfl) (by simp) ?_
  refine AllReadyH.cons rfl (fun K hK => ?_) AllReadyH.nil
  simp only [List.getElem_toArray, List.getElem_cons_zero, List.getElem_cons_succ]
  go_simp
  refine (free_any _ _ _).mono ?_
  rintro e w7 ⟨rfl, hb7⟩
  go_wp2_with fail
  have HB7 := Lib.hid ((Below.refl w6.heap.size w6).drew.trans hb7)
  clear hb7
  refine hK.out _ _ (HS.out _ HB7.out) (fun hHeldN => ?_)
  clear hK K hHeld
  have hHeld := hHeldN
  clear hHeldN
  (try simp only [Act.put, List.getElem_toArray, List.getElem_cons_zero, List.getElem_cons_succ, List.setIfInBounds_toArray, List.set_cons_zero, List.set_cons_succ])
  refine wpAnyH_take (i := 3) (v := ?_) rfl (by kernel_rfl) (by kernel_rfl) (by kernel_rfl) (fun _ _ _ h => h) (Or.inl ⟨by rfl, ?_⟩) (by assumption) ?_
  rotate_left
  · simp only [List.getElem_toArray, List.getElem_cons_zero, List.getElem_cons_succ]; intro W hSw; (try dsimp only at hSw); go_simp; all_goals with_reducible rfl
  simp only [Act.put, List.getElem_toArray, List.getElem_cons_zero, List.getElem_cons_succ, List.setIfInBounds_toArray, List.set_cons_zero, List.set_cons_succ]
  rw [HD.out]
  refine wpAnyH_take (i := 4) (v := ?_) rfl (by kernel_rfl) (by kernel_rfl) (by kernel_rfl) (fun _ _ _ h => h) (Or.inl ⟨by rfl, ?_⟩) (by assumption) ?_
  rotate_left
  · simp only [List.getElem_toArray, List.getElem_cons_zero, List.getElem_cons_succ]; intro W hSw; (try dsimp only at hSw); go_simp; all_goals with_reducible rfl
  simp only [Act.put, List.getElem_toArray, List.getElem_cons_zero, List.getElem_cons_succ, List.setIfInBounds_toArray, List.set_cons_zero, List.set_cons_succ]
  refine wpAnyH_take (i := 6) (v := ?_) rfl (by kernel_rfl) (by kernel_rfl) (by kernel_rfl) (fun _ _ _ h => h) (Or.inl ⟨by rfl, ?_⟩) (by assumption) ?_
  rotate_left
  · simp only [List.getElem_toArray, List.getElem_cons_zero, List.getElem_cons_succ]; intro W hSw; (try dsimp only at hSw); go_simp; all_goals with_reducible rfl
  simp only [Act.put, List.getElem_toArray, List.getElem_cons_zero, List.getElem_cons_succ, List.setIfInBounds_toArray, List.set_cons_zero, List.set_cons_succ]
  refine wpAnyH_take (i := 7) (v := ?_) rfl (by kernel_rfl) (by kernel_rfl) (by kernel_rfl) (fun _ _ _ h => h) (Or.inl ⟨by rfl, ?_⟩) (by assumption) ?_
  rotate_left
  · simp only [List.getElem_toArray, List.getElem_cons_zero, List.getElem_cons_succ]; intro W hSw; (try dsimp only at hSw); go_simp; all_goals with_reducible rfl
  simp only [Act.put, List.getElem_toArray, List.getElem_cons_zero, List.getElem_cons_succ, List.setIfInBounds_toArray, List.set_cons_zero, List.set_cons_succ]
  refine wpAnyH_ready (rs := [5]) (by kernel_rfl) (by simp) ?_
  refine AllReadyH.cons rfl (fun K hK => ?_) AllReadyH.nil
  simp only [List.getElem_toArray, List.getElem_cons_zero, List.getElem_cons_succ]
  go_simp
  refine (sequence_any _).mono ?_
  rintro e w8 ⟨rfl, hb8⟩
  go_wp2_with fail
  have HB8 := Lib.hid (HB7.out.trans (hb8.mono HB7.out.size))
  clear hb8
  refine hK.out _ _ (HS.out _ HB8.out) (fun hHeldN => ?_)
  clear hK K hHeld
  have hHeld := hHeldN
  clear hHeldN
  (try simp only [Act.put, List.getElem_toArray, List.getElem_cons_zero, List.getElem_cons_succ, List.setIfInBounds_toArray, List.set_cons_zero, List.set_cons_succ])
  refine wpAnyH_ready (rs := [8]) (by kernel_rfl) (by simp) ?_
  refine AllReadyH.cons rfl (fun K hK => ?_) AllReadyH.nil
  simp only [List.getElem_toArray, List.getElem_cons_zero, List.getElem_cons_succ]
  go_simp
  refine (has_any _ _ _ _).mono ?_
  rintro e w9 ⟨rfl, hb9⟩
  rw [show (decide (1 ≤ n + k) && decide (n + k ≤ 1099511627776)) = _ from hs]
  go_wp2_with fail
  have HB9 := Lib.hid (HB8.out.trans (hb9.mono HB8.out.size))
  clear hb9
  refine hK.out _ _ (HS.out _ HB9.out) (fun hHeldN => ?_)
  clear hK K hHeld
  have hHeld := hHeldN
  clear hHeldN
  (try simp only [Act.put, List.getElem_toArray, List.getElem_cons_zero, List.getElem_cons_succ, List.setIfInBounds_toArray, List.set_cons_zero, List.set_cons_succ])
  refine wpAnyH_take (i := 9) (v := ?_) rfl (by kernel_rfl) (by kernel_rfl) (by kernel_rfl) (fun _ _ _ h => h) (Or.inl ⟨by rfl, ?_⟩) (by assumption) ?_
  rotate_left
  · simp only [List.getElem_toArray, List.getElem_cons_zero, List.getElem_cons_succ]; intro W hSw; (try dsimp only at hSw); go_simp; all_goals with_reducible rfl
  simp only [Act.put, List.getElem_toArray, List.getElem_cons_zero, List.getElem_cons_succ, List.setIfInBounds_toArray, List.set_cons_zero, List.set_cons_succ]
  refine wpAnyH_take (i := 10) (v := ?_) rfl (by kernel_rfl) (by kernel_rfl) (by kernel_rfl) (fun _ _ _ h => h) (Or.inl ⟨by rfl, ?_⟩) (by assumption) ?_
  rotate_left
  · simp only [List.getElem_toArray, List.getElem_cons_zero, List.getElem_cons_succ]; intro W hSw; (try dsimp only at hSw); go_simp; all_goals with_reducible rfl
  simp only [Act.put, List.getElem_toArray, List.getElem_cons_zero, List.getElem_cons_succ, List.setIfInBounds_toArray, List.set_cons_zero, List.set_cons_succ]
  refine wpAnyH_done (by kernel_rfl) ?_ _
  obtain ⟨g0, g1, g2⟩ := HGR.out _ HB9.out
  have hbw := HB6'.out.trans (HB9.out.mono HZ6.out)
  have HBW := Lib.hid hbw
  have HZ9 := Lib.hid (Nat.le_trans HZ6.out HB9.out.size : w.heap.size + 2 ≤ w9.heap.size)
  obtain ⟨i0, hi, hz0, hz1, hz2⟩ := info_parts Try.info3
  obtain ⟨w10, hmk, hown, hg10⟩ := run_make_own (P := Try.prog) w9 w9.heap.size 38 3 i0 (.int .i64 0) 1 Try.underlying38 hi hz0 hz1 .i64 .i64 k (by rw [hz2]; omega) (by unfold maxLen; omega) (Nat.le_refl _)
  obtain ⟨w11, hw11⟩ : ∃ w11, w11 = w10.alloc (.cells #[.slice (some ⟨w9.heap.size, 0, none⟩) 0 k] 38) := ⟨_, rfl⟩
  have hb11 : Below w9.heap.size w9 w11 := by rw [hw11]; exact ((Below.refl _ w9).grown hg10 (Nat.le_refl _) (fun _ e => by cases e)).alloc hg10.size _
  have HG11 := Lib.hid (show w11.heap[w.heap.size]? = some (.cells #[.int .i64 t, .int .i64 n] 23 (0, 0)) ∧ w11.heap[w.heap.size + 1]? = some (.cells #[.int .i64 0, .int .i64 0] 23 (0, 0)) ∧ w11.heap[w5.heap.size]? = some (.cells #[.int .i64 t, .int .i64 (n + (k : Int))] 23 (0, 0)) from
    HGR.out w11 (HB9.out.trans (hb11.mono HB9.out.size)))
  have HBX := Lib.hid (show Boxed w11 w10.heap.size 38 (.slice (some ⟨w9.heap.size, 0, none⟩) 0 k) by rw [hw11]; exact Boxed.new _ _ _)
  have HO11 := Lib.hid (show w11.ownsRow w9.heap.size 3 1 (.slice (some ⟨w9.heap.size, 0, none⟩) 0 k) 0 [] by rw [hw11]; exact hown.alloc _)
  have HL10 := Lib.hid hg10.size
  have HB11 := Lib.hid hb11
  obtain ⟨q0, _, q2⟩ := HG11.out
  have d0 : (w10.alloc (.cells #[.slice (some ⟨w9.heap.size, 0, none⟩) 0 k] 38)).cell? ⟨w.heap.size, 1, none⟩ = some (.int .i64 n) := by rw [← hw11]; exact cell_of_row w11 _ 1 _ _ _ q0
  have d1 : (w10.alloc (.cells #[.slice (some ⟨w9.heap.size, 0, none⟩) 0 k] 38)).cell? ⟨w5.heap.size, 1, none⟩ = some (.int .i64 (n + (k : Int))) := by rw [← hw11]; exact cell_of_row w11 _ 1 _ _ _ q2
  have HW11 := Lib.hid hw11
  clear hbw hown hg10 hb11 hw11 q0 q2 g0 g1 g2
  have HT := Lib.hid (taken_any n (n + (k : Int)) w11 (by have := HMm.out; omega))
  go_wp2_with fail
  rw [← HW11.out]
  refine HT.out.mono ?_
  rintro e w12 ⟨rfl, hb12⟩
  have HB12 := Lib.hid hb12
  clear hb12
  go_wp2_with fail
  refine (each_at _ _ _).mono ?_
  rintro e w13 ⟨rfl, hw13⟩
  have hlt10 : w10.heap.size < w11.heap.size := HBX.out.lt
  have HR13 := Lib.hid (show w13.heap[w12.heap.size]? = some (.cells #[.int .i64 n, .int .i64 (n + (k : Int) - 1)] 33 (0, 0)) by rw [hw13]; exact heap_alloc_new w12 _)
  have hb13 : Below w11.heap.size w11 w13 := by rw [hw13]; exact HB12.out.alloc HB12.out.size _
  have HBX3 := Lib.hid (show Boxed w13 w10.heap.size 38 (.slice (some ⟨w9.heap.size, 0, none⟩) 0 k) from (hb13.block _ hlt10).trans HBX.out)
  have HO13 := Lib.hid (owns_below HO11.out hb13)
  have HB13 := Lib.hid hb13
  have HZ13 := Lib.hid (show w13.heap.size = w12.heap.size + 1 by rw [hw13]; simp)
  have HS13 := Lib.hid (Nat.le_trans hlt10 HB12.out.size : w10.heap.size < w12.heap.size)
  have HQ := Lib.hid (each_stops 4 (by omega) w12.heap.size n k (by have := HMm.out; omega) (by omega) w13 HR13.out)
  clear hw13 hb13 hmk d0 d1 hlt10
  go_wp2_with fail
  refine (wpIn_wide (n := 5)).1 ?_
  have h910 := HL10.out
  have h1213 := HZ13.out
  have h1012 := HS13.out
  refine wpIn_rangeFunc_ownG rfl (by omega) (gf := 19) (lb := #[.pointer (some ⟨w12.heap.size, 0, none⟩)]) rfl trivial (enters_of Try.func19 (by kernel_rfl) rfl)
    HQ.out (fun h k => Stays.trans h k) (fun W l o o' hl ho hc hw => stays_put (w := w13) (by omega) W l o o' hl ho hc hw) (Below.refl _ _) (fun _ => rfl)
    (Coll w10.heap.size w9.heap.size w11 w12.heap.size (.cells #[.int .i64 n, .int .i64 (n + (k : Int) - 1)] 33 (0, 0))) (fun _ _ _ => False) (coll_own rfl HB11.out.size (by have := HB11.out.size; have := HB13.out.size; omega)) (fun _ _ _ _ _ hs _ _ => hs)
    ⟨⟨_, HBX3.out, HO13.out, trivial⟩, HB13.out.mono HB11.out.size, HR13.out⟩ ?a1 ?assign ?body ?done ?stop
  case assign =>
    intro l x W K hK
    gi_wp2
    exact hK
  case body =>
    rintro l pre x W ⟨⟨v, hv, hrow, _⟩, hB, hbs⟩ hlt
    have hc := hv.cell
    have hn0 : w9.heap.size ≤ W.heap.size := Nat.le_trans HB11.out.size hB.size
    have HBs := Lib.hid hbs
    have HBb := Lib.hid hB
    clear hbs hB hw
    gi_wp2_with (gi_at_builtin; refine wpListIn_append_own _ rfl _ _ 38 rfl w9.heap.size 3 i0 (.int .i64 0) 1 8 Try.underlying38 hi hz0 hz1 hz2 rfl (by decide) _ _ _ rfl (hrow.alloc _) ⟨W.heap.size, 0, none⟩ 1 1 [.int .i64 x] rfl rfl (cell_one_new _ _ _) (by simp [Value.oneCell']) (by unfold maxLen; omega) (by omega) (by simp; omega) ?_; intro v' w1 hown' hgrow _; obtain ⟨g', cap', rfl⟩ := ownsRow_succ hown'; obtain ⟨hv1, hv2, hr2, hk2, hb2⟩ := hv.appended (by decide) hrow hn0 h910 hown' hgrow; have hc1 := hv1.cell; have hf1 := hv1.frozen; have HSt := Lib.hid (bound_stays HBs.out (by decide) hrow hgrow (show w12.heap.size ≠ w10.heap.size by omega) (.slice (some ⟨g', 0, none⟩) (pre.length + 1) cap')))
    exact ⟨hk2.from _, fun o ho => HSt.out.trans ho, ⟨_, hv2, by simpa using hr2, trivial⟩, HBb.out.trans hb2, HSt.out.trans HBs.out⟩
  case done =>
    rintro D ys W hD rfl ⟨⟨v, hv, hrow, _⟩, hB, hbs⟩ hK
    have hc := hv.cell
    obtain ⟨g0, g1, g2⟩ := HGR.out W (HB9.out.trans ((HB11.out.trans hB).mono HB9.out.size))
    have e0 : W.cell? ⟨w5.heap.size, 0, none⟩ = some (.int .i64 t) := cell_of_row W _ 0 _ _ _ g2
    have e1 : W.cell? ⟨w5.heap.size, 1, none⟩ = some (.int .i64 (n + (k : Int))) := cell_of_row W _ 1 _ _ _ g2
    have hn0 : w9.heap.size ≤ W.heap.size := Nat.le_trans HB11.out.size hB.size
    have HG1 := Lib.hid g1
    have HV := Lib.hid hv
    have HRo := Lib.hid hrow
    have HBb := Lib.hid hB
    have HDk := Lib.hid hK
    have HDl := Lib.hid hD
    have HN0 := Lib.hid hn0
    clear g0 g1 g2 hv hrow hB hbs hK hD hn0 hw
    go_wp2_with fail
    refine wp_region_held_drew (S := fun W' => W'.cell? ⟨w5.heap.size, 0, none⟩ = some (.int .i64 t) ∧ W'.cell? ⟨w5.heap.size, 1, none⟩ = some (.int .i64 (n + (k : Int))) ∧ W'.cell? ⟨w10.heap.size, 0, none⟩ = some v) (by kernel_rfl) ⟨e0, e1, hc⟩ (fun hHeld => ?_)
    refine wpAnyH_take (i := 0) (v := ?_) rfl (by kernel_rfl) (by kernel_rfl) (by kernel_rfl) (fun _ _ _ h => h) (Or.inl ⟨by rfl, ?_⟩) (by assumption) ?_
    rotate_left
    · simp only [List.getElem_toArray, List.getElem_cons_zero, List.getElem_cons_succ]; intro W hSw; (try dsimp only at hSw); go_simp; all_goals with_reducible rfl
    simp only [Act.put, List.getElem_toArray, List.getElem_cons_zero, List.getElem_cons_succ, List.setIfInBounds_toArray, List.set_cons_zero, List.set_cons_succ]
    refine wpAnyH_take (i := 1) (v := ?_) rfl (by kernel_rfl) (by kernel_rfl) (by kernel_rfl) (fun _ _ _ h => h) (Or.inl ⟨by rfl, ?_⟩) (by assumption) ?_
    rotate_left
    · simp only [List.getElem_toArray, List.getElem_cons_zero, List.getElem_cons_succ]; intro W hSw; (try dsimp only at hSw); go_simp; all_goals with_reducible rfl
    simp only [Act.put, List.getElem_toArray, List.getElem_cons_zero, List.getElem_cons_succ, List.setIfInBounds_toArray, List.set_cons_zero, List.set_cons_succ]
    refine wpAnyH_ready (rs := [2]) (by kernel_rfl) (by simp) ?_
    refine AllReadyH.cons rfl (fun K hK => ?_) AllReadyH.nil
    simp only [List.getElem_toArray, List.getElem_cons_zero, List.getElem_cons_succ]
    rw [if_pos]
    rotate_left
    · simp [Region.wanted]
    refine wp_store_row 23 (.tmp 4) (.tmp 53) rfl (w.heap.size + 1) #[.int .i64 t, .int .i64 (n + (k : Int))] (by simp [Act.eval, Act.put]) (by simp [Act.eval, Act.put]) 23 #[.int .i64 0, .int .i64 0] HG1.out (Try.infoLs _ _) (size2 _ _ _ _) (one2 _ _) ?_
    obtain ⟨W14, hW14⟩ : ∃ W14, W14 = W.drew.setRow (w.heap.size + 1) #[.int .i64 t, .int .i64 (n + (k : Int))] := ⟨_, rfl⟩
    have hz9 := HZ9.out
    have hn9 := HN0.out
    have hd9 := HDl.out
    have h1113 := HB13.out.size
    have h1113' := HB11.out.size
    have hk14 : W14.heap[D]? = some (.deferred (some [])) := by rw [hW14, setRow_other _ _ _ _ (by omega)]; exact HDk.out
    have hg14 : W14.heap[w.heap.size + 1]? = some (.cells #[.int .i64 t, .int .i64 (n + (k : Int))] 23 (0, 0)) := by rw [hW14]; exact setRow_heap _ _ _ _ _ _ HG1.out
    have ho14 : (W14.putObj D (.deferred none)).ownsRow w.heap.size 3 1 v k ((upto n k).map (Value.int .i64)) := by
      have h := owns_put (base' := w.heap.size) (o := .deferred none) HRo.out (g := w.heap.size + 1) (by omega) (by omega) #[.int .i64 t, .int .i64 (n + (k : Int))] HDk.out
      rw [upto_length] at h
      rw [hW14]
      exact h
    have hb14 : Below w.heap.size w (W14.putObj D (.deferred none)) := by
      rw [hW14]
      refine (below_setRow ((HB0.out.trans ((HBW.out.trans (HB11.out.trans HBb.out |>.mono (by omega))).mono (by omega))).drew) (by omega) _).trans (belowK_b (w := w) (Nat.le_refl _) _ D _ _ (by omega) (by rw [← hW14]; exact hk14) rfl rfl)
    have hs14 : W14.cell? ⟨w5.heap.size, 0, none⟩ = some (.int .i64 t) ∧ W14.cell? ⟨w5.heap.size, 1, none⟩ = some (.int .i64 (n + (k : Int))) ∧ W14.cell? ⟨w10.heap.size, 0, none⟩ = some v := by
      have hz5 := HZ5.out
      have ho : ∀ b j, b ≠ w.heap.size + 1 → W14.cell? ⟨b, j, none⟩ = W.cell? ⟨b, j, none⟩ := fun b j hb => by rw [hW14]; exact World.cell?_of_block (w := W) (setRow_other _ _ _ _ hb)
      exact ⟨(ho _ _ (by omega)).trans e0, (ho _ _ (by omega)).trans e1, (ho _ _ (by omega)).trans hc⟩
    have HK14 := Lib.hid hk14
    have HG14 := Lib.hid hg14
    have HO14 := Lib.hid ho14
    have HB14 := Lib.hid hb14
    rw [← hW14]
    clear hk14 hg14 ho14 hb14 hW14 e0 e1 hc
    refine hK.out _ _ (hs14) (fun hHeldN => ?_)
    clear hK K hHeld
    have hHeld := hHeldN
    clear hHeldN
    (try simp only [Act.put, List.getElem_toArray, List.getElem_cons_zero, List.getElem_cons_succ, List.setIfInBounds_toArray, List.set_cons_zero, List.set_cons_succ])
    refine wpAnyH_take (i := 3) (v := ?_) rfl (by kernel_rfl) (by kernel_rfl) (by kernel_rfl) (fun _ _ _ h => h) (Or.inl ⟨by rfl, ?_⟩) (by assumption) ?_
    rotate_left
    · simp only [List.getElem_toArray, List.getElem_cons_zero, List.getElem_cons_succ]; intro W hSw; (try dsimp only at hSw); go_simp; all_goals with_reducible rfl
    simp only [Act.put, List.getElem_toArray, List.getElem_cons_zero, List.getElem_cons_succ, List.setIfInBounds_toArray, List.set_cons_zero, List.set_cons_succ]
    refine wpAnyH_take (i := 4) (v := ?_) rfl (by kernel_rfl) (by kernel_rfl) (by kernel_rfl) (fun _ _ _ h => h) (Or.inl ⟨by rfl, ?_⟩) (by assumption) ?_
    rotate_left
    · simp only [List.getElem_toArray, List.getElem_cons_zero, List.getElem_cons_succ]; intro W hSw; (try dsimp only at hSw); go_simp; all_goals with_reducible rfl
    simp only [Act.put, List.getElem_toArray, List.getElem_cons_zero, List.getElem_cons_succ, List.setIfInBounds_toArray, List.set_cons_zero, List.set_cons_succ]
    refine wpAnyH_done (by kernel_rfl) ?_ _
    go_wp2_with fail
    refine ⟨by simp, .inl ⟨_, _, rfl, run_takeDeferred HK14.out, ?_⟩⟩
    have hne : w.heap.size + 1 ≠ D := by have := HZ9.out; have := HN0.out; have := HDl.out; have := HB13.out.size; have := HB11.out.size; omega
    exact ⟨_, results_cell_tmp2 rfl _ _ (w.heap.size + 1) #[.int .i64 t, .int .i64 (n + (k : Int))] (0, 0) _ rfl ((World.putObj_heap_other hne).trans HG14.out) Try.underlying23 rfl Try.infoL, v, rfl, HO14.out, HB14.out⟩
  case stop =>
    rintro D c pre W _ _ h _
    exact h.elim
end Go.Proofs.Ytpbbgfebchicbaa
