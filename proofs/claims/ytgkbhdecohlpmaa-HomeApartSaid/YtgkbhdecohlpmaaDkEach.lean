/-
  The writes that a plan keeps, one after another.
-/
import Derived.Test.YtgkbhdecohlpmaaDkInRound
namespace Go.Proofs.Ytgkbhdecohlpmaa.Dk
set_option maxRecDepth 100000
open Go.RowKit Go.Maps Go.MapKept Go.ChangeMaps Go.Shelf
attribute [local go_sem] Oper.semAt_some

/-- what a plan's lines keep, the sectors of earlier lines being told -/
def keptL (c : Nat → List (List Nat)) : List (Int × Int) → List Nat → List (Nat × List Nat)
  | [], _ => []
  | x :: r, told => if 0 ≤ x.1 ∧ x.1 < 34 ∧ ¬ x.1.toNat ∈ told then
      (if 1 ≤ x.2 ∧ x.2 ≤ ((c x.1.toNat).length : Int) then (x.1.toNat, (c x.1.toNat).getD (x.2.toNat - 1) []) :: keptL c r (x.1.toNat :: told) else keptL c r (x.1.toNat :: told))
    else keptL c r told
def toldC (told : List Nat) : List Value := (List.range 34).map fun n => Value.bool (decide (n ∈ told))
theorem told_zero : (Try.prog.info? 99).map (·.zero) = some (some (.agg (toldC []).toArray)) := by kernel_rfl
theorem toldC_len (told : List Nat) : (toldC told).length = 34 := by simp [toldC]
theorem toldC_get (told : List Nat) {n : Nat} (hn : n < 34) : (toldC told)[n]? = some (.bool (decide (n ∈ told))) := by
  unfold toldC
  rw [List.getElem?_map, List.getElem?_range hn]; rfl
theorem toldC_set (told : List Nat) {n : Nat} (hn : n < 34) : (toldC told).toArray.setIfInBounds n (.bool true) = (toldC (n :: told)).toArray := by
  rw [List.setIfInBounds_toArray]
  congr 1
  apply List.ext_getElem?
  intro k
  by_cases hk : k < 34
  · by_cases e : n = k
    · subst e
      rw [List.getElem?_set_self (by rw [toldC_len]; exact hn), toldC_get _ hn]
      simp
    · rw [List.getElem?_set_ne e, toldC_get _ hk, toldC_get _ hk]
      simp [Ne.symm e]
  · rw [List.getElem?_eq_none (by simp [toldC_len]; omega), List.getElem?_eq_none (by simp [toldC_len]; omega)]
/-- The slice at A holds a plan's lines. -/
def PlanAt (w : World) (B : Nat) (A : Option Addr) (plan : List (Int × Int)) : Prop :=
  0 < plan.length → ∃ b off, A = some ⟨b, off, none⟩ ∧ b < B ∧ ∀ j, j < plan.length → w.cell? ⟨b, off + j * 2, none⟩ = some (.int .i64 (plan.getD j (0, 0)).1) ∧ w.cell? ⟨b, off + j * 2 + 1, none⟩ = some (.int .i64 (plan.getD j (0, 0)).2)
def encS (x : Nat × List Nat) : Array Value := #[.int .i64 (x.1 : Int), sval x.2]
def OkS (x : Nat × List Nat) : Prop := x.1 < 34 ∧ Sec x.2

theorem flatten_get : ∀ (ws : List (List Nat)), (∀ b ∈ ws, b.length = 64) → ∀ j, j < ws.length → ∀ i u, (vals (ws.getD j []))[i]? = some u → (vals ws.flatten)[j * 64 + i]? = some u
  | [], _, j, hj, _, _, _ => by simp at hj
  | b :: r, h, 0, _, i, u, hu => by
    have hi := (List.getElem?_eq_some_iff.1 hu).1
    rw [List.flatten_cons, vals_append, Nat.zero_mul, Nat.zero_add, List.getElem?_append_left (by simpa using hi)]
    simpa using hu
  | b :: r, h, j + 1, hj, i, u, hu => by
    have hb : (vals b).length = 64 := by rw [vals_length]; exact h b List.mem_cons_self
    rw [List.flatten_cons, vals_append, List.getElem?_append_right (by omega), hb, show (j + 1) * 64 + i - 64 = j * 64 + i by omega]
    exact flatten_get r (fun c hc => h c (List.mem_cons_of_mem _ hc)) j (by simpa using hj) i u (by simpa using hu)

set_option maxHeartbeats 2000000 in
theorem each_yields {w : World} {S : Nat → Prop} {a : Nat} {d : Dk} {m : Option Nat} (h : Disk w S a d) (hk : ∀ n, n < 34 → (d.cache n).length ≤ 1000000000)
    (hm : (m = none ∧ ∀ n, n < 34 → d.cache n = []) ∨ ∃ b V, m = some b ∧ S b ∧ Mapped w b d.cache V ∧ Slots w S d.cache V) (hba : m ≠ some a)
    {A : Option Addr} {cap : Nat} {plan : List (Int × Int)} (hp : PlanAt w w.heap.size A plan) (hpa : 0 < plan.length → ∀ b, A = some b → b.block ≠ a) (hpl : plan.length ≤ 1000000000) (hi : ∀ x ∈ plan, (-9223372036854775808 ≤ x.1 ∧ x.1 ≤ 9223372036854775807) ∧ -9223372036854775808 ≤ x.2 ∧ x.2 ≤ 9223372036854775807) :
    Yields1 Fence.wide 2 Try.prog 39 #[.agg #[.map m, .slice A plan.length cap]] encS OkS (fun k => k = a) (fun xs => xs = keptL d.cache plan []) w := by
  intro l J W hW hl hl2 hJ hY h0
  refine callsIn_of_wp Try.func39 rfl trivial ?_ rfl
  simp only [Try.ntmps39, List.size_toArray, List.length_cons, List.length_nil, Nat.reduceAdd, Nat.reduceSub, Array.replicate_succ, Array.replicate_zero, List.push_toArray, List.append_toArray, List.nil_append, List.cons_append]
  obtain ⟨Z, hZ, hz⟩ : ∃ Z, (Try.prog.info? 99).map (·.zero) = some (some (.agg Z)) ∧ Z = (toldC []).toArray := ⟨_, told_zero, rfl⟩
  have HZ := Lib.hid hZ
  have HZ2 := Lib.hid hz
  clear hZ hz
  gi_wp2_with (refine wpListIn_of rfl rfl fun K hK => wp_alloc_any 99 rfl Z HZ.out (hK _ _ ?_))
  gi_loopw [11] (fun i wr => ∃ (k : Nat) (told : List Nat) (pre : List (Nat × List Nat)), i = .int .i64 (k : Int) ∧ k ≤ plan.length ∧ wr.heap[W.heap.size]? = some (.cells #[.map m, .slice A plan.length cap] 90 (0, 0)) ∧
      wr.heap[W.heap.size + 1]? = some (.cells (toldC told).toArray 99 (0, 0)) ∧ J pre wr ∧ keptL d.cache plan [] = pre ++ keptL d.cache (plan.drop k) told ∧ Kept (fun k => k = a ∨ k = l) W wr) (fun i _ => plan.length - (intOf i).toNat)
  case atStart =>
    have hk0 : Kept (fun k => k = a ∨ k = l) W ((W.alloc (.cells #[.map m, .slice A plan.length cap] 90)).alloc (.cells Z 99)) := ((Kept.refl _ W).alloc _).alloc _
    refine ⟨0, [], [], rfl, by omega, ?_, ?_, ?_, rfl, ?_⟩
    · rw [Below.heap_alloc _ _ _ (by simp)]
      exact heap_alloc_new' W _
    · have := heap_alloc_new' (W.alloc (.cells #[.map m, .slice A plan.length cap] 90)) (.cells Z 99)
      rw [World.size_alloc] at this
      rw [HZ2.out] at this ⊢
      exact this
    · exact hJ _ _ _ none (hJ _ _ _ none h0 (World.grownBy_alloc W _ none) (fun _ e => by cases e)) (World.grownBy_alloc _ _ none) (fun _ e => by cases e)
    · exact hk0
  case round =>
    obtain ⟨k, told, pre, rfl, hkl, hbox, htold, hj, hkeep, hKe⟩ := hrel
    have HBox := Lib.hid hbox
    have HTold := Lib.hid htold
    have HJ := Lib.hid hj
    have HKeep := Lib.hid hkeep
    have HKe := Lib.hid hKe
    by_cases hlt : k < plan.length
    · obtain ⟨pb, po, rfl, hpb, hcell⟩ := hp (by omega)
      have hpx := hpa (by omega) _ rfl
      have hsW : w.heap.size ≤ W.heap.size := hW.size
      have hstay : ∀ q, q < w.heap.size → q ≠ a → wr.heap[q]? = w.heap[q]? := fun q h1 h2 => (hKe.block q (by omega) (fun e => by rcases e with e | e <;> omega)).trans (hW.block q h1)
      obtain ⟨x, hx⟩ : ∃ x, x = plan.getD k (0, 0) := ⟨_, rfl⟩
      have hc0 : wr.cell? ⟨pb, po + k * 2, none⟩ = some (.int .i64 x.1) := by rw [hx]; exact (World.cell?_of_block (w := w) (hstay pb hpb hpx)).trans (hcell k hlt).1
      have hc1 : wr.cell? ⟨pb, po + k * 2 + 1, none⟩ = some (.int .i64 x.2) := by rw [hx]; exact (World.cell?_of_block (w := w) (hstay pb hpb hpx)).trans (hcell k hlt).2
      have hdrop : plan.drop k = x :: plan.drop (k + 1) := by
        rw [List.drop_eq_getElem_cons hlt, hx]
        simp [List.getD, hlt]
      have hxi := hi x (by rw [hx]; simp [List.getD, hlt])
      obtain ⟨s, q⟩ := x
      rw [hdrop] at hkeep
      have hbs : W.heap.size + 1 < wr.heap.size := lt_of_heap htold
      by_cases hs : 0 ≤ s ∧ s < 34
      · obtain ⟨n, rfl⟩ : ∃ n : Nat, s = (n : Int) := ⟨s.toNat, by omega⟩
        have hn : n < 34 := by omega
        have hni : (n : Int) < 34 := by omega
        have HN := Lib.hid (fun w => sector_any (n : Int) w)
        have hdec := decide_eq_true hs
        have hk1 : (k : Int) < plan.length := by omega
        have hct : (wr.alloc (.cells #[.int .i64 (n : Int), .int .i64 q] 41)).cell? ⟨W.heap.size + 1, n, none⟩ = some (.bool (decide (n ∈ told))) := by
          rw [World.cell?_of_block (w := wr) (heap_alloc_old' wr _ _ hbs), cell_of_row _ _ n _ _ _ htold]
          simpa using toldC_get told hn
        by_cases ht : n ∈ told
        · have HREL := Lib.hid (show keptL d.cache plan [] = pre ++ keptL d.cache (plan.drop (k + 1)) told by
            rw [hkeep]
            simp only [keptL]
            rw [if_neg (by intro h; exact h.2.2 (by simpa using ht))])
          rw [decide_eq_true ht] at hct
          clear hj hkeep hKe hcell hstay hdrop hx ht htold hbox
          gi_wp2_with (refine ⟨trivial, ?_⟩; gi_at_call 40; refine CallsIn.mono (callsIn_wide.2 (HN.out _)) ?_; rintro e w' ⟨rfl, rfl⟩)
          refine ⟨⟨k + 1, told, pre, by simp, by omega, (heap_alloc_old' wr _ _ (by omega)).trans HBox.out, (heap_alloc_old' wr _ _ hbs).trans HTold.out, hJ _ _ _ none HJ.out (World.grownBy_alloc _ _ none) (fun _ e => by cases e), HREL.out, HKe.out.alloc _⟩, by simp [intOf]; omega⟩
        · rw [decide_eq_false ht] at hct
          have hft : (wr.alloc (.cells #[.int .i64 (n : Int), .int .i64 q] 41)).frozen? ⟨W.heap.size + 1, n, none⟩ = false := by
            rw [World.frozen?_of_block (w := wr) (heap_alloc_old' wr _ _ hbs)]
            exact frozen_of_row _ _ n _ _ htold
          obtain ⟨w2, hw2⟩ : ∃ w2, w2 = (wr.setCell ⟨W.heap.size + 1, n, none⟩ (.bool true)).alloc (.cells #[.int .i64 (n : Int), .int .i64 q] 41) := ⟨_, rfl⟩
          have hw2' : w2 = (wr.alloc (.cells #[.int .i64 (n : Int), .int .i64 q] 41)).setCell ⟨W.heap.size + 1, n, none⟩ (.bool true) := by rw [hw2, World.setCell_alloc_past _ _ _ _ hbs]
          have hg2 : wr.grownBy w2 (some (W.heap.size + 1)) := by
            rw [hw2']
            exact (World.grownBy_alloc wr _ _).trans (grown_setCell _ _ _ _)
          have hs2 : w2.heap.size = wr.heap.size + 1 := by rw [hw2]; simp [World.setCell]
          have hline : w2.heap[wr.heap.size]? = some (.cells #[.int .i64 (n : Int), .int .i64 q] 41 (0, 0)) := by
            rw [hw2', heap_setCell_other _ _ _ _ (by simp; omega)]
            exact heap_alloc_new' wr _
          have hl1 : w2.cell? ⟨wr.heap.size, 1, none⟩ = some (.int .i64 q) := by rw [cell_of_row _ _ 1 _ _ _ hline]; rfl
          have hbox2 : w2.heap[W.heap.size]? = some (.cells #[.map m, .slice (some ⟨pb, po, none⟩) plan.length cap] 90 (0, 0)) := (hg2.block _ (by omega) (fun e => by have := Option.some.inj e; omega)).trans hbox
          have hbm : w2.cell? ⟨W.heap.size, 0, none⟩ = some (.map m) := by rw [cell_of_row _ _ 0 _ _ _ hbox2]; rfl
          have htold2 : w2.heap[W.heap.size + 1]? = some (.cells (toldC (n :: told)).toArray 99 (0, 0)) := by
            rw [hw2', heap_setCell_same _ _ n _ _ _ ((heap_alloc_old' wr _ _ hbs).trans htold), toldC_set _ hn]
          have hj2 : J pre w2 := hJ _ _ _ _ hj hg2 (fun r e => by have := Option.some.inj e; omega)
          have hKe2 : Kept (fun k => k = a ∨ k = l) W w2 := hKe.grown hg2 (fun k e h1 => by have := Option.some.inj e; omega)
          have hstay2 : ∀ q, q < w.heap.size → q ≠ a → w2.heap[q]? = w.heap[q]? := fun q h1 h2 => (hg2.block q (by have := hKe.size; omega) (fun e => by have := Option.some.inj e; omega)).trans (hstay q h1 h2)
          have hm2 : (m = none ∧ ∀ n, n < 34 → d.cache n = []) ∨ ∃ b V, m = some b ∧ S b ∧ Mapped w2 b d.cache V ∧ Slots w2 S d.cache V := by
            refine hm.imp id ?_
            rintro ⟨b, V, rfl, hS, hM, hV⟩
            obtain ⟨m', hrow', _⟩ := h.body
            exact ⟨b, V, rfl, hS, hM.keep (hstay2 b (h.old b hS) (fun e => hba (by rw [e]))), ⟨fun n hn => owns_keep (hV.own n hn) fun g hg => hstay2 g (h.old g (hV.mine n g hn hg)) (hV.ne_disk hrow' hn hg), hV.mine, hV.apart⟩⟩
          obtain ⟨v, hlook, hv⟩ := look_cases hm2 hn
          have hrest : keptL d.cache (((n : Int), q) :: plan.drop (k + 1)) told = if 1 ≤ q ∧ q ≤ ((d.cache n).length : Int) then (n, (d.cache n).getD (q.toNat - 1) []) :: keptL d.cache (plan.drop (k + 1)) (n :: told) else keptL d.cache (plan.drop (k + 1)) (n :: told) := by
            rw [keptL, if_pos (by simp; exact ⟨hni, ht⟩)]
            simp
          rw [hrest] at hkeep
          have HR2 := Lib.hid (And.intro hbox2 (And.intro htold2 (And.intro hj2 hKe2)))
          have hfold := hw2.symm
          have hkn := hk n hn
          have hputs := h.puts n hn
          clear hm2 hstay2 hj2 hKe2 htold2 hbox2 hline hg2 hw2 hw2' hcell hstay hdrop hx htold hbox hj hKe hrest
          by_cases hq1 : q < 1
          · have HREL := Lib.hid (show keptL d.cache plan [] = pre ++ keptL d.cache (plan.drop (k + 1)) (n :: told) by rw [hkeep, if_neg (by omega)])
            clear hkeep hv hlook
            gi_wp2_with (refine ⟨trivial, ?_⟩; gi_at_call 40; refine CallsIn.mono (callsIn_wide.2 (HN.out _)) ?_; rintro e w' ⟨rfl, rfl⟩)
            refine ⟨⟨k + 1, n :: told, pre, by simp, by omega, HR2.out.1, HR2.out.2.1, HR2.out.2.2.1, HREL.out, HR2.out.2.2.2⟩, by simp [intOf]; omega⟩
          · rcases hv with ⟨rfl, hv0⟩ | ⟨g, gcap, cur, rfl, hSg, hgh, hle, hmax, htk, hne⟩
            · have HREL := Lib.hid (show keptL d.cache plan [] = pre ++ keptL d.cache (plan.drop (k + 1)) (n :: told) by rw [hkeep, hv0, if_neg (by simp; omega)])
              have hq0 : q > 0 := by omega
              clear hkeep
              gi_wp2_with (refine ⟨trivial, ?_⟩; gi_at_call 40; refine CallsIn.mono (callsIn_wide.2 (HN.out _)) ?_; rintro e w' ⟨rfl, rfl⟩)
              refine ⟨⟨k + 1, n :: told, pre, by simp, by omega, HR2.out.1, HR2.out.2.1, HR2.out.2.2.1, HREL.out, HR2.out.2.2.2⟩, by simp [intOf]; omega⟩
            · by_cases hq2 : q > (d.cache n).length
              · have HREL := Lib.hid (show keptL d.cache plan [] = pre ++ keptL d.cache (plan.drop (k + 1)) (n :: told) by rw [hkeep, if_neg (by omega)])
                clear hkeep
                gi_wp2_with (refine ⟨trivial, ?_⟩; gi_at_call 40; refine CallsIn.mono (callsIn_wide.2 (HN.out _)) ?_; rintro e w' ⟨rfl, rfl⟩)
                refine ⟨⟨k + 1, n :: told, pre, by simp, by omega, HR2.out.1, HR2.out.2.1, HR2.out.2.2.1, HREL.out, HR2.out.2.2.2⟩, by simp [intOf]; omega⟩
              · obtain ⟨j, rfl⟩ : ∃ j : Nat, q = (j : Int) + 1 := ⟨(q - 1).toNat, by omega⟩
                have hjl : j < (d.cache n).length := by omega
                obtain ⟨b, hb⟩ : ∃ b, b = (d.cache n).getD j [] := ⟨_, rfl⟩
                have hbm2 : b ∈ d.cache n := by rw [hb]; simp [List.getD, hjl]
                have hsb := hputs b hbm2
                have HREL := Lib.hid (show keptL d.cache plan [] = (pre ++ [(n, b)]) ++ keptL d.cache (plan.drop (k + 1)) (n :: told) by
                  rw [hkeep, if_pos (by omega), hb]
                  simp)
                have HC := Lib.hid (show ∀ i u, (vals b)[i]? = some u → w2.cell? ⟨g, j * 64 + i, none⟩ = some u by
                  intro i u hu
                  have hi2 := (List.getElem?_eq_some_iff.1 hu).1
                  rw [vals_length, hsb.1] at hi2
                  rw [cell_of_row _ _ _ _ _ _ hgh]
                  have h3 := flatten_get (d.cache n) (fun c hc => (hputs c hc).1) j hjl i u (by rw [← hb]; exact hu)
                  rw [← htk, List.getElem?_take_of_lt (by omega)] at h3
                  simpa using h3)
                have HI := Lib.hid (sector_info b hsb.1)
                obtain ⟨fn, tmps, assign, body, hy, hR⟩ := hY pre (n, b) w2 HR2.out.2.2.1 ⟨hn, hsb⟩ HR2.out.2.2.2.size
                replace hy : (Instr.yield l #[.int .i64 (n : Int), .agg (vals b).toArray]).run Try.prog w2 = .ok (.round l fn tmps assign body) w2 := hy
                have HRn := Lib.hid hR
                have hj3 : (j : Int) < (d.cache n).length := by omega
                have hjq : ¬ ((d.cache n).length : Int) < (j : Int) + 1 := by omega
                unfold maxLen at hmax
                clear hkeep hR htk hb hgh hputs hsb hbm2 hY
                gi_wp2_with (first
                  | (refine ⟨trivial, ?_⟩; gi_at_call 40; refine CallsIn.mono (callsIn_wide.2 (HN.out _)) ?_; rintro e w' ⟨rfl, rfl⟩)
                  | (refine wpListIn_of rfl rfl fun K hK => wp_load_part 55 _ rfl g (j * 64) rfl (vals b) _ HC.out Try.underlying55 rfl HI.out (hK _ _ ?_)))
                refine RoundIn.mono HRn.out ?_
                rintro e W3 ⟨rfl, hJ3, hk3⟩
                have hsz2 := HR2.out.2.2.2.size
                have hbox3 := (hk3.block W.heap.size (by omega) (fun e => by rcases e with e | e <;> (have := h.lt; have := hW.size; omega))).trans HR2.out.1
                have htold3 := (hk3.block (W.heap.size + 1) (lt_of_heap HR2.out.2.1) (fun e => by rcases e with e | e <;> (have := h.lt; have := hW.size; omega))).trans HR2.out.2.1
                have HR3 := Lib.hid (And.intro hbox3 (And.intro htold3 (And.intro hJ3 (HR2.out.2.2.2.trans hk3 (fun i _ hi => hi)))))
                clear hbox3 htold3 hJ3 hk3
                gi_wp2
                refine ⟨⟨k + 1, n :: told, pre ++ [(n, b)], by simp, by omega, HR3.out.1, HR3.out.2.1, HR3.out.2.2.1, HREL.out, HR3.out.2.2.2⟩, by simp [intOf]; omega⟩
      · have HN := Lib.hid (fun w => sector_any s w)
        have HREL := Lib.hid (show keptL d.cache plan [] = pre ++ keptL d.cache (plan.drop (k + 1)) told by
          rw [hkeep]
          simp only [keptL]
          rw [if_neg (by intro h; exact hs ⟨h.1, h.2.1⟩)])
        have hdec := decide_eq_false hs
        have hk1 : (k : Int) < plan.length := by omega
        clear hj hkeep hKe hcell hstay hdrop hx htold hbox
        gi_wp2_with (refine ⟨trivial, ?_⟩; gi_at_call 40; refine CallsIn.mono (callsIn_wide.2 (HN.out _)) ?_; rintro e w' ⟨rfl, rfl⟩)
        refine ⟨⟨k + 1, told, pre, by simp, by omega, (heap_alloc_old' wr _ _ (by omega)).trans HBox.out, (heap_alloc_old' wr _ _ hbs).trans HTold.out, hJ _ _ _ none HJ.out (World.grownBy_alloc _ _ none) (fun _ e => by cases e), HREL.out, HKe.out.alloc _⟩, by simp [intOf]; omega⟩
    · obtain rfl : k = plan.length := by omega
      have HE := Lib.hid (show keptL d.cache plan [] = pre by
        rw [hkeep, List.drop_of_length_le (Nat.le_refl _)]
        simp [keptL])
      clear hj hkeep hKe htold hbox
      gi_wp2
      go_end0
      exact ⟨⟨_, rfl⟩, _, HE.out.symm, HJ.out⟩
end Go.Proofs.Ytgkbhdecohlpmaa.Dk
