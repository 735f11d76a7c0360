/-
  Crash: what the plan keeps is durable, the cache is empty, the disk is down.
-/
import Derived.Test.YtgkbhdecohlpmaaDkEach
namespace Go.Proofs.Ytgkbhdecohlpmaa.Dk
set_option maxRecDepth 100000
open Go.RowKit Go.Maps Go.MapKept Go.ChangeMaps Go.Shelf
attribute [local go_sem] Oper.semAt_some

def stepS (f : Nat → List Nat) (x : Nat × List Nat) : Nat → List Nat := upd f x.1 x.2
def Dk.crash (d : Dk) (plan : List (Int × Int)) : Dk := ⟨(keptL d.cache plan []).foldl stepS d.dur, fun _ => [], true⟩
theorem crash_nil (A : Option Addr) (l c : Nat) (w : World) : Calls Try.prog 16 #[.pointer none, .slice A l c] w fun e w' => e = .returned (.int .i64 1) ∧ Below w.heap.size w w' := by
  have HB := Lib.hid ((Below.refl w.heap.size w).alloc (Nat.le_refl _) (.cells #[.pointer none] 26))
  go_enter Try.func16, Try.ntmps16
  go_wp2_with fail
  refine (refuses_nil _).mono ?_
  rintro e w' ⟨rfl, rfl⟩
  go_wp2
  go_ret
  exact ⟨rfl, HB.out⟩
theorem crash_down {w : World} {S : Nat → Prop} {a : Nat} {d : Dk} (h : Disk w S a d) (hd : d.down = true) (A : Option Addr) (l c : Nat) : Calls Try.prog 16 #[.pointer (some ⟨a, 0, none⟩), .slice A l c] w fun e w' => e = .returned (.int .i64 30) ∧ Below w.heap.size w w' := by
  have HB := Lib.hid ((Below.refl w.heap.size w).alloc (Nat.le_refl _) (.cells #[.pointer (some ⟨a, 0, none⟩)] 26))
  have HR := Lib.hid (refuses_any (h.below HB.out (Nat.le_refl _)))
  rw [hd] at HR
  clear h hd
  go_enter Try.func16, Try.ntmps16
  go_wp2_with fail
  refine HR.out.mono ?_
  rintro e w' ⟨rfl, rfl⟩
  go_wp2
  go_ret
  exact ⟨rfl, HB.out⟩
theorem row_no_i64 (f : Nat → List Nat) (m : Option Nat) (dn : Bool) (z : Int) : (.int .i64 z : Value) ∉ rowD f m dn := by
  intro h
  rcases List.mem_append.1 h with h | h
  · obtain ⟨n, _, e⟩ := List.mem_map.1 h
    cases e
  · simp at h
theorem plan_apart {w : World} {S : Nat → Prop} {a : Nat} {d : Dk} (h : Disk w S a d) {A : Option Addr} {plan : List (Int × Int)} (hp : PlanAt w w.heap.size A plan) : 0 < plan.length → ∀ b, A = some b → b.block ≠ a := by
  intro hl b e hb
  obtain ⟨pb, po, e2, _, hc⟩ := hp hl
  rw [e] at e2
  cases e2
  have h1 := (hc 0 hl).1
  obtain ⟨m, hrow, _⟩ := h.body
  have hb' : pb = a := hb
  rw [hb', cell_of_row _ _ _ _ _ _ hrow] at h1
  have h2 : (rowD d.dur m d.down)[po + 0 * 2]? = some (.int .i64 (plan.getD 0 (0, 0)).1) := by simpa using h1
  exact row_no_i64 _ _ _ _ (List.mem_of_getElem? h2)
theorem foldS_sec : ∀ (xs : List (Nat × List Nat)) (f : Nat → List Nat), (∀ n, n < 34 → Sec (f n)) → (∀ x ∈ xs, OkS x) → ∀ n, n < 34 → Sec (xs.foldl stepS f n)
  | [], _, h, _ => h
  | x :: r, f, h, hx => foldS_sec r (stepS f x) (fun n hn => by
      unfold stepS
      by_cases e : n = x.1
      · subst e; rw [upd_same]; exact (hx x List.mem_cons_self).2
      · rw [upd_other _ _ e]; exact h n hn) (fun y hy => hx y (List.mem_cons_of_mem _ hy))

theorem Disk.cleared {w : World} {S : Nat → Prop} {a b clock : Nat} {es : Array MapEntry} {d : Dk} (h : Disk w S a d) (hc : w.cell? ⟨a, 2176, none⟩ = some (.map (some b))) (hmb : w.heap[b]? = some (.map es clock)) :
    S b ∧ b ≠ a ∧ w.grownBy (setBlock w b (.map #[] clock)) (some b) ∧ Disk (setBlock w b (.map #[] clock)) S a { d with cache := fun _ => [] } := by
  have hg3 : w.grownBy (setBlock w b (.map #[] clock)) (some b) := ⟨rfl, rfl, rfl, by simp [setBlock], fun i _ hi => heap_setBlock_other hmb _ (fun e => hi (by rw [e]))⟩
  obtain ⟨m', hb', hc', _, _, hm'⟩ := h.cells
  rw [hc] at hc'
  cases hc'
  rcases hm' with ⟨e, _⟩ | ⟨b', V, e, hS, hM, _⟩
  · cases e
  cases e
  have hba := hM.ne_cells hb'
  exact ⟨hS, hba, hg3, ⟨h.mine, fun k hk => Nat.lt_of_lt_of_le (h.old k hk) hg3.size, h.secs, fun _ _ _ h => by simp at h, some b, (hg3.block a h.lt (fun e => hba (by cases e; rfl))).trans hb',
    Or.inr ⟨b, fun _ => nilS, rfl, hS, mapped_empty (clock := clock) (heap_setBlock_same hmb _), slots_empty _ S⟩⟩⟩
theorem Disk.downed {w : World} {S : Nat → Prop} {a : Nat} {d : Dk} (h : Disk w S a d) : Disk (w.setCell ⟨a, 2177, none⟩ (.bool true)) S a { d with down := true } := by
  obtain ⟨m, hb, _, _, _, hm⟩ := h.cells
  have hg := grown_setCell w a 2177 (.bool true)
  refine ⟨h.mine, fun k hk => Nat.lt_of_lt_of_le (h.old k hk) hg.size, h.secs, h.puts, m, ?_, cache_keep hb h.old hm hg⟩
  rw [heap_setCell_same w a 2177 _ _ _ hb, rowD_setDown h.secs]
set_option maxHeartbeats 2000000 in
theorem crash_ok {w : World} {S : Nat → Prop} {a : Nat} {d : Dk} (h : Disk w S a d) (hd : d.down = false) (hk : ∀ n, n < 34 → (d.cache n).length ≤ 1000000000) {A : Option Addr} {cap : Nat} {plan : List (Int × Int)} (hp : PlanAt w w.heap.size A plan) (hpl : plan.length ≤ 1000000000)
    (hi : ∀ x ∈ plan, (-9223372036854775808 ≤ x.1 ∧ x.1 ≤ 9223372036854775807) ∧ -9223372036854775808 ≤ x.2 ∧ x.2 ≤ 9223372036854775807) :
    Calls Try.prog 16 #[.pointer (some ⟨a, 0, none⟩), .slice A plan.length cap] w fun e w' => e = .returned (.int .i64 0) ∧ Goes w w' S a (d.crash plan) := by
  obtain ⟨wb, hwb⟩ : ∃ wb, wb = w.alloc (.cells #[.pointer (some ⟨a, 0, none⟩)] 26) := ⟨_, rfl⟩
  have hbb : Below w.heap.size w wb := by rw [hwb]; exact (Below.refl _ w).alloc (Nat.le_refl _) _
  have hdb := h.below hbb (Nat.le_refl _)
  have hsb : wb.heap.size = w.heap.size + 1 := by rw [hwb]; simp
  have hbox : wb.heap[w.heap.size]? = some (.cells #[.pointer (some ⟨a, 0, none⟩)] 26 (0, 0)) := by rw [hwb]; exact heap_alloc_new' w _
  have hcb : wb.cell? ⟨w.heap.size, 0, none⟩ = some (.pointer (some ⟨a, 0, none⟩)) := by rw [cell_of_row _ _ 0 _ _ _ hbox]; rfl
  obtain ⟨m, hrow, hcm, hcd, hfr, hm⟩ := hdb.cells
  have hpb : PlanAt wb wb.heap.size A plan := fun h0 => by
    obtain ⟨pb, po, e, hlt, hc⟩ := hp h0
    exact ⟨pb, po, e, by omega, fun j hj => ⟨(hbb.cell hlt).trans (hc j hj).1, (hbb.cell hlt).trans (hc j hj).2⟩⟩
  have hpa := plan_apart h hp
  have hba : m ≠ some a := by
    rcases hm with ⟨e, _⟩ | ⟨b, V, e, _, hM, _⟩
    · rw [e]; simp
    · rw [e]; intro e2; exact hM.ne_cells hrow (Option.some.inj e2)
  have HSeq := Lib.hid (each_yields hdb hk hm hba hpb hpa hpl hi (cap := cap))
  have HR := Lib.hid (refuses_any hdb)
  rw [hd] at HR
  have HH := Lib.hid h
  have HDb := Lib.hid hdb
  have HM := Lib.hid hm
  have HBB := Lib.hid hbb
  have HBox := Lib.hid hbox
  have HWB := Lib.hid hwb
  have HD := Lib.hid hd
  have HBA := Lib.hid hba
  clear h hk hp hi hpb hpa hba hm hrow hwb hdb hbox hfr hcd hbb hd hpl
  refine (callsIn_wide (n := 3)).1 ?_
  refine callsIn_of_wp_marks Try.func16 rfl trivial ?_ rfl
  simp only [Try.ntmps16, List.size_toArray, List.length_cons, List.length_nil, Nat.reduceAdd, Nat.reduceSub, Array.replicate_succ, Array.replicate_zero, List.push_toArray, List.append_toArray, List.nil_append, List.cons_append]
  gi_wp2_with (rw [← HWB.out]; refine ⟨trivial, ?_⟩; gi_at_call 33; refine CallsIn.mono (callsIn_wide.2 HR.out) ?_; rintro e w' ⟨rfl, rfl⟩)
  have hlta : a < w.heap.size := HH.out.lt
  refine range_rounds rfl (by omega) (gf := 39) (bd := #[.agg #[.map m, .slice A plan.length cap]]) rfl trivial (enters_of Try.func39 (by kernel_rfl) rfl) (T := fun k => k = a) (encs := encS) (Ok := OkS) (fun k e => by omega) HSeq.out (fun _ => rfl)
    (fun pre W => Disk W S a { d with dur := pre.foldl stepS d.dur } ∧ W.cell? ⟨a, 2176, none⟩ = some (.map m) ∧ W.heap[w.heap.size]? = some (.cells #[.pointer (some ⟨a, 0, none⟩)] 26 (0, 0)) ∧ Kept S w W) ?lasts ?start ?round ?done
  case lasts =>
    rintro pre W W' row ⟨hd1, hc1, hb1, hk1⟩ hg hr
    have hne : ∀ k, k < w'.heap.size → some k ≠ row := fun k hk e => by have := hr k e.symm; omega
    refine ⟨hd1.keep (fun k hk => hg.block k (hd1.old k hk) (hne k (by have := HH.out.old k hk; omega))) hg.size, (World.cell?_of_block (w := W) (hg.block a hd1.lt (hne a (by omega)))).trans hc1, (hg.block _ (lt_of_heap hb1) (hne _ (by omega))).trans hb1, hk1.grown hg (fun k e h1 => by have := hr k e; omega)⟩
  case start => exact ⟨HDb.out, hcm, HBox.out, Kept.of_below HBB.out (Nat.le_refl _)⟩
  case round =>
    rintro pre ⟨n, b⟩ W hltW ⟨hd1, hc1, hb1, hk1⟩ ⟨hn, hsb1⟩
    obtain ⟨Z, hZ, hz⟩ : ∃ Z, (Try.prog.info? 55).map (·.zero) = some (some (.agg Z)) ∧ Z = (vals (List.replicate 64 0)).toArray := ⟨_, sector_zero, rfl⟩
    have HS := Lib.hid (show Z.size = (vals b).toArray.size by rw [hz]; simp [vals_length, hsb1.1])
    have HZ := Lib.hid hZ
    have HI := Lib.hid (show (Try.prog.info? 55).map (·.size) = some (vals b).toArray.size by rw [sector_size]; simp [vals_length, hsb1.1])
    have H1 := Lib.hid (show (vals b).toArray.all (·.oneCell') = true from Array.all_eq_true_iff_forall_mem.2 fun u hu => vals_one u (by simpa using hu))
    have HG := Lib.hid (heap_alloc_new' W (.cells Z 55))
    obtain ⟨W1, hW1⟩ : ∃ W1, W1 = (W.alloc (.cells Z 55)).setRow W.heap.size (vals b).toArray := ⟨_, rfl⟩
    have HW1 := Lib.hid hW1
    have hba1 : Below W.heap.size W W1 := by rw [hW1]; exact below_setRow ((Below.refl _ W).alloc (Nat.le_refl _) _) (Nat.le_refl _) _
    have hrow1 : W1.heap[W.heap.size]? = some (.cells (vals b).toArray 55 (0, 0)) := by
      rw [hW1]; exact setRow_heap _ _ Z (vals b).toArray 55 _ (heap_alloc_new' W _)
    have HD1 := Lib.hid hd1
    have HC1 := Lib.hid hc1
    have HB1 := Lib.hid hb1
    have HK1 := Lib.hid hk1
    have HBa := Lib.hid hba1
    have HRw := Lib.hid hrow1
    clear hd1 hc1 hb1 hk1 hba1 hrow1 hW1 hZ hz
    unfold encS sval
    gi_wp2_with (first
      | (refine wpListIn_of rfl rfl fun K hK => wp_alloc_any 55 rfl Z HZ.out (hK _ _ ?_))
      | (refine wpListIn_of rfl rfl fun K hK => wp_store_row 55 _ _ rfl W.heap.size (vals b).toArray rfl rfl 55 Z HG.out HI.out HS.out H1.out (hK _ _ ?_); rw [← HW1.out]))
    refine ⟨HBa.out, fun W2 hg2 => ?_⟩
    have hltl := lt_of_heap HB1.out
    have hne2 : ∀ k, k < W.heap.size → k ≠ w'.heap.size + 1 → W2.heap[k]? = W.heap[k]? := fun k h1 h2 => (hg2.block k (by have := HBa.out.size; omega) (fun e => by have := Option.some.inj e; omega)).trans (HBa.out.block k h1)
    have hd2 : Disk W2 S a { d with dur := pre.foldl stepS d.dur } := HD1.out.keep (fun k hk => hne2 k (HD1.out.old k hk) (by have := HH.out.old k hk; omega)) (Nat.le_trans HBa.out.size hg2.size)
    have hc2 : W2.cell? ⟨a, 2176, none⟩ = some (.map m) := (World.cell?_of_block (w := W) (hne2 a HD1.out.lt (by omega))).trans HC1.out
    have hb2 := (hne2 w.heap.size hltl (by omega)).trans HB1.out
    have hr2 : W2.heap[W.heap.size]? = some (.cells (vals b).toArray 55 (0, 0)) := (hg2.block _ (lt_of_heap HRw.out) (fun e => by have h5 : W.heap.size = w.heap.size + 1 + 1 := Option.some.inj e; omega)).trans HRw.out
    have hcb2 : W2.cell? ⟨w.heap.size, 0, none⟩ = some (.pointer (some ⟨a, 0, none⟩)) := by rw [cell_of_row _ _ 0 _ _ _ hb2]; rfl
    have hk2 : Kept S w W2 := (HK1.out.below (Nat.le_refl _) HBa.out (Or.inl HK1.out.size)).grown hg2 (fun k e h1 => by have := Option.some.inj e; omega)
    have hni : (n : Int) < 34 := by omega
    have hhd : ∀ X, W2.drew = X → X.cell? ⟨w.heap.size, 0, none⟩ = some (.pointer (some ⟨a, 0, none⟩)) ∧ X.heap[W.heap.size]? = some (.cells (vals b).toArray 55 (0, 0)) := fun X e => by rw [← e]; exact ⟨hcb2, hr2⟩
    refine wpIn_block ?_
    refine region_in_round (S := fun X => X.cell? ⟨w.heap.size, 0, none⟩ = some (.pointer (some ⟨a, 0, none⟩)) ∧ X.heap[W.heap.size]? = some (.cells (vals b).toArray 55 (0, 0))) (by kernel_rfl) (by kernel_rfl) (by rintro ⟨_, _, h⟩; simp [Exit.inBlock] at h) ?_
    have hHeld := hhd _ rfl
    have HD2 := Lib.hid hd2
    have HC2 := Lib.hid hc2
    have HB2 := Lib.hid hb2
    have HK2 := Lib.hid hk2
    have HR2 := Lib.hid hr2
    clear hhd hd2 hc2 hb2 hk2 hr2 hcb2 hne2 hg2 hltW hltl
    refine wpAnyH_take (i := 0) (v := ?_) rfl (by kernel_rfl) (by kernel_rfl) (by kernel_rfl) (fun _ _ _ h => h) (Or.inl ⟨by rfl, ?_⟩) (by assumption) ?_
    rotate_left
    · simp only [List.getElem_toArray, List.getElem_cons_zero, List.getElem_cons_succ]; intro W hSw; (try dsimp only at hSw); go_simp; all_goals with_reducible rfl
    simp only [Act.put, List.getElem_toArray, List.getElem_cons_zero, List.getElem_cons_succ, List.setIfInBounds_toArray, List.set_cons_zero, List.set_cons_succ]
    refine wpAnyH_take (i := 1) (v := ?_) rfl (by kernel_rfl) (by kernel_rfl) (by kernel_rfl) (fun _ _ _ h => h) (Or.inl ⟨by rfl, ?_⟩) (by assumption) ?_
    rotate_left
    · simp only [List.getElem_toArray, List.getElem_cons_zero, List.getElem_cons_succ]; intro W hSw; (try dsimp only at hSw); go_simp; all_goals with_reducible rfl
    simp only [Act.put, List.getElem_toArray, List.getElem_cons_zero, List.getElem_cons_succ, List.setIfInBounds_toArray, List.set_cons_zero, List.set_cons_succ]
    refine wpAnyH_take (i := 2) (v := ?_) rfl (by kernel_rfl) (by kernel_rfl) (by kernel_rfl) (fun _ _ _ h => h) (Or.inl ⟨by rfl, ?_⟩) (by assumption) ?_
    rotate_left
    · simp only [List.getElem_toArray, List.getElem_cons_zero, List.getElem_cons_succ]
      intro X hSw
      refine exec_load_part 55 (.tmp 8) ?_ W.heap.size 0 ?_ (vals b) _ (row_cells hSw.2 (fun j u hu => by rw [Nat.zero_add]; exact hu)) Try.underlying55 rfl (sector_info _ hsb1.1)
      · rfl
      · rfl
    simp only [Act.put, List.getElem_toArray, List.getElem_cons_zero, List.getElem_cons_succ, List.setIfInBounds_toArray, List.set_cons_zero, List.set_cons_succ]
    refine wpAnyH_take (i := 3) (v := ?_) rfl (by kernel_rfl) (by kernel_rfl) (by kernel_rfl) (fun _ _ _ h => h) (Or.inl ⟨by rfl, ?_⟩) (by assumption) ?_
    rotate_left
    · simp only [List.getElem_toArray, List.getElem_cons_zero, List.getElem_cons_succ]; intro W hSw; (try dsimp only at hSw); go_simp; all_goals with_reducible rfl
    simp only [Act.put, List.getElem_toArray, List.getElem_cons_zero, List.getElem_cons_succ, List.setIfInBounds_toArray, List.set_cons_zero, List.set_cons_succ]
    refine wpAnyH_take (i := 4) (v := ?_) rfl (by kernel_rfl) (by kernel_rfl) (by kernel_rfl) (fun _ _ _ h => h) (Or.inl ⟨by rfl, ?_⟩) (by assumption) ?_
    rotate_left
    · simp only [List.getElem_toArray, List.getElem_cons_zero, List.getElem_cons_succ]; intro W hSw; (try dsimp only at hSw); go_simp; all_goals with_reducible rfl
    simp only [Act.put, List.getElem_toArray, List.getElem_cons_zero, List.getElem_cons_succ, List.setIfInBounds_toArray, List.set_cons_zero, List.set_cons_succ]
    refine wpAnyH_take (i := 5) (v := ?_) rfl (by kernel_rfl) (by kernel_rfl) (by kernel_rfl) (fun _ _ _ h => h) (Or.inl ⟨by rfl, ?_⟩) (by assumption) ?_
    rotate_left
    · simp only [List.getElem_toArray, List.getElem_cons_zero, List.getElem_cons_succ]; intro W hSw; (try dsimp only at hSw); go_simp; all_goals with_reducible rfl
    simp only [Act.put, List.getElem_toArray, List.getElem_cons_zero, List.getElem_cons_succ, List.setIfInBounds_toArray, List.set_cons_zero, List.set_cons_succ]
    refine wpAnyH_ready (rs := [6]) (by kernel_rfl) (by simp) ?_
    refine AllReadyH.cons rfl (fun K hK => ?_) AllReadyH.nil
    simp only [List.getElem_toArray, List.getElem_cons_zero, List.getElem_cons_succ]
    rw [if_pos]
    rotate_left
    · simp [Region.wanted]
    obtain ⟨m2, hrow, hcm2, _, _, hm2⟩ := HD2.out.drew.cells
    obtain rfl : m2 = m := by
      have h5 : W2.cell? ⟨a, 2176, none⟩ = some (.map m2) := hcm2
      rw [HC2.out] at h5
      cases h5; rfl
    have hst := HD2.out.drew.stored hrow hm2 hn hsb1
    have hgr := grown_setRow W2.drew a (vals (ahead (pre.foldl stepS d.dur) n) ++ vals b ++ (vals (behindS (pre.foldl stepS d.dur) n) ++ [Value.map m2, .bool d.down])).toArray
    have hrow2 := hrow
    rw [rowD_split _ _ _ hn] at hrow2
    refine wp_store_part 55 (.tmp 29) (.tmp 26) rfl a (n * 64) rfl (vals b) rfl 59 (vals (ahead (pre.foldl stepS d.dur) n)) (vals (pre.foldl stepS d.dur n)) (vals (behindS (pre.foldl stepS d.dur) n) ++ [Value.map m2, .bool d.down]) hrow2 (by rw [vals_length]; exact ahead_len HD2.out.secs (by omega)) (by rw [vals_length, vals_length, hsb1.1]; exact (HD2.out.secs n hn).1) (sector_info _ hsb1.1) vals_one ?_
    have hne3 : w.heap.size ≠ a ∧ W.heap.size ≠ a := by
      have h5 : w.heap.size < W.heap.size := lt_of_heap HB1.out
      omega
    generalize hw3 : W2.drew.setRow a (vals (ahead (pre.foldl stepS d.dur) n) ++ vals b ++ (vals (behindS (pre.foldl stepS d.dur) n) ++ [Value.map m2, .bool d.down])).toArray = W3 at hst hgr ⊢
    have hb3 : W3.heap[w.heap.size]? = some (.cells #[.pointer (some ⟨a, 0, none⟩)] 26 (0, 0)) := (hgr.block _ (lt_of_heap HB2.out) (fun e => hne3.1 (Option.some.inj e))).trans HB2.out
    refine hK.out _ _ ⟨by rw [cell_of_row _ _ 0 _ _ _ hb3]; rfl, (hgr.block _ (lt_of_heap HR2.out) (fun e => hne3.2 (Option.some.inj e))).trans HR2.out⟩ (fun hHeld3 => ?_)
    refine wpAnyH_done (by kernel_rfl) ?_ _
    refine ⟨rfl, (Kept.refl _ W2).drew.grown hgr (fun k e _ => (Option.some.inj e).symm), hst, ?_, hb3, HK2.out.drew.grown hgr (fun k e _ => by have := Option.some.inj e; subst this; exact HH.out.mine)⟩
    obtain ⟨m4, hrow4, hcm4, _, _, _⟩ := hst.cells
    have h6 : W3.heap[a]? = some (.cells (rowD (upd (pre.foldl stepS d.dur) n b) m2 d.down).toArray 59 (0, 0)) := by
      rw [rowD_upd _ _ _ hn, ← hw3]
      exact setRow_heap W2.drew a _ _ 59 _ hrow
    rw [cell_of_row _ _ 2176 _ _ _ h6]
    simpa using rowD_map hst.secs m2 d.down
  case done =>
    rintro xs W rfl ⟨hd1, hc1, hb1, hk1⟩ hsz hdef
    have hcb1 : W.cell? ⟨w.heap.size, 0, none⟩ = some (.pointer (some ⟨a, 0, none⟩)) := by rw [cell_of_row _ _ 0 _ _ _ hb1]; rfl
    have hold := HH.out.old
    cases m with
    | none =>
      obtain ⟨_, _, _, hcd, hfr, _⟩ := hd1.cells
      have hfr1 := hfr 2177
      have hcl := fun (w : World) ty => run_clear_nil w ty
      have hd4 := hd1.downed
      have hg4 := grown_setCell W a 2177 (.bool true)
      obtain ⟨W4, hw4⟩ : ∃ W4, W.setCell ⟨a, 2177, none⟩ (.bool true) = W4 := ⟨_, rfl⟩
      rw [hw4] at hd4 hg4
      have hdef4 : W4.heap[w'.heap.size]? = some (.deferred (some [])) := (hg4.block _ hsz (fun e => by have h5 : w'.heap.size = a := Option.some.inj e; omega)).trans hdef
      have hg5 := grownBy_putObj' W4 w'.heap.size (.deferred none)
      have h0 : ∀ n, n < 34 → d.cache n = [] := by
        rcases HM.out with ⟨_, h0⟩ | ⟨_, _, e, _⟩
        · exact h0
        · cases e
      have HG := Lib.hid (show Goes w (W4.putObj w'.heap.size (.deferred none)) S a (d.crash plan) from ⟨S, (hd4.keep (fun k hk => hg5.block k (hd4.old k hk) (fun e => by have h5 := Option.some.inj e; have := hold k hk; omega)) hg5.size).same_as (fun _ _ => rfl) (fun n hn => (h0 n hn).symm) rfl,
        (hk1.grown hg4 (fun k e _ => by have h5 := Option.some.inj e; subst h5; exact HH.out.mine)).grown hg5 (fun k e h1 => by have h5 := Option.some.inj e; omega), fun _ hk => Or.inl hk⟩)
      have HDf := Lib.hid hdef4
      clear hd4 hg4 hdef4 hg5 hd1 hk1 hb1 h0 hfr hdef
      rw [hsb] at HDf HG
      gi_wp2
      refine ⟨by simp, .inl ⟨_, _, rfl, run_takeDeferred HDf.out, ?_⟩⟩
      exact ⟨_, results_tmp rfl _ _ _, rfl, HG.out⟩
    | some b =>
      obtain ⟨_, _, _, hcd, hfr, hmm⟩ := hd1.cells
      obtain ⟨es, clock, hmb⟩ : ∃ es clock, W.heap[b]? = some (.map es clock) := by
        obtain ⟨m9, _, hc9, _, _, hm9⟩ := hd1.cells
        rw [hc1] at hc9
        cases hc9
        rcases hm9 with ⟨e, _⟩ | ⟨b', V, e, _, hM, _⟩
        · cases e
        · cases e; exact hM.at_
      obtain ⟨hSb, hneb, hg3, hd3⟩ := hd1.cleared hc1 hmb
      have hcl := fun ty => run_clear W b ty hmb
      obtain ⟨W3, hw3⟩ : ∃ W3, W3 = setBlock W b (.map #[] clock) := ⟨_, rfl⟩
      rw [← hw3] at hg3 hd3 hcl
      have hlb := hold b hSb
      have hb3 := (hg3.block _ (lt_of_heap hb1) (fun e => by have h5 := Option.some.inj e; omega)).trans hb1
      have hcb3 : W3.cell? ⟨w.heap.size, 0, none⟩ = some (.pointer (some ⟨a, 0, none⟩)) := by rw [cell_of_row _ _ 0 _ _ _ hb3]; rfl
      obtain ⟨m8, _, _, hcd3, hfr3, _⟩ := hd3.cells
      have hfr1 := hfr3 2177
      have hd4 := hd3.downed
      have hg4 := grown_setCell W3 a 2177 (.bool true)
      obtain ⟨W4, hw4⟩ : ∃ W4, W3.setCell ⟨a, 2177, none⟩ (.bool true) = W4 := ⟨_, rfl⟩
      rw [hw4] at hd4 hg4
      have hsz3 := hg3.size
      have hdef3 : W3.heap[w'.heap.size]? = some (.deferred (some [])) := (hg3.block _ hsz (fun e => by have h5 : w'.heap.size = b := Option.some.inj e; omega)).trans hdef
      have hdef4 : W4.heap[w'.heap.size]? = some (.deferred (some [])) := (hg4.block _ (by omega) (fun e => by have h5 : w'.heap.size = a := Option.some.inj e; omega)).trans hdef3
      have hg5 := grownBy_putObj' W4 w'.heap.size (.deferred none)
      have HG := Lib.hid (show Goes w (W4.putObj w'.heap.size (.deferred none)) S a (d.crash plan) from ⟨S, hd4.keep (fun k hk => hg5.block k (hd4.old k hk) (fun e => by have h5 := Option.some.inj e; have := hold k hk; omega)) hg5.size,
        ((hk1.grown hg3 (fun k e _ => by have h5 := Option.some.inj e; subst h5; exact hSb)).grown hg4 (fun k e _ => by have h5 := Option.some.inj e; subst h5; exact HH.out.mine)).grown hg5 (fun k e h1 => by have h5 := Option.some.inj e; omega), fun _ hk => Or.inl hk⟩)
      have HDf := Lib.hid hdef4
      clear hd4 hg4 hdef4 hg5 hd1 hk1 hb1 hfr hdef hdef3 hd3 hg3 hw3 hfr3 hmb hb3 hmm
      rw [hsb] at HDf HG
      gi_wp2
      refine ⟨by simp, .inl ⟨_, _, rfl, run_takeDeferred HDf.out, ?_⟩⟩
      exact ⟨_, results_tmp rfl _ _ _, rfl, HG.out⟩
end Go.Proofs.Ytgkbhdecohlpmaa.Dk
