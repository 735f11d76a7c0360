/-
  The developers' answers: whether two overlays are alike (slices.EqualFunc).
-/
import Derived.Test.YtipgphdndleodaaODget
import Derived.Test.YtipgphdndleodaaWrEq
import Derived.Deep.RegionHeld3
import Derived.Deep.DeepCutAuto
namespace Go.Proofs.Ytipgphdndleodaa
set_option maxRecDepth 100000
open Go.RowKit
set_option maxRecDepth 100000

theorem wrv_all (x : Int × List Nat) : (wrv x).toArray.all (·.oneCell') = true := by
  have h : (wrv x).all (·.oneCell') = true := List.all_eq_true.2 fun u hu => by
    rcases List.mem_cons.1 hu with rfl | hu
    · rfl
    · exact vals_one u hu
  simpa using h
theorem row_cells {w : World} {b : Nat} {xs : List Value} {T : TypeId} {fr : Nat × Nat} (h : w.heap[b]? = some (.cells xs.toArray T fr)) : ∀ j u, xs[j]? = some u → w.cell? ⟨b, j, none⟩ = some u := fun j u hu => by rw [cell_of_row w b j _ _ _ h]; simpa using hu
theorem same_take8 {l m : List (Int × List Nat)} {k : Nat} (h1 : k < l.length) (h2 : k < m.length) (h : l.take k = m.take k) : l.take (k + 1) = m.take (k + 1) ↔ l[k] = m[k] := by
  have e1 := List.take_succ_eq_append_getElem h1
  have e2 := List.take_succ_eq_append_getElem h2
  rw [e1, e2, h]
  exact ⟨fun e => by simpa only [List.cons.injEq, and_true] using List.append_cancel_left e, fun e => by rw [e]⟩
theorem show_pair (q p : Int) (v z : List Nat) : decide (((q, v) : Wt) = (p, z)) = (decide (q = p) && decide (v = z)) := by rw [← Bool.decide_and]; simp
set_option maxHeartbeats 2000000 in
/-- Same's test -/
theorem same1_dev (x y : Wt) (hx : x.2.length = 8) (hy : y.2.length = 8) (w : World) : Calls Try.prog 21 #[.agg (wrv x).toArray, .agg (wrv y).toArray] w fun e w' => e = .returned (.bool (decide (x = y))) ∧ Below w.heap.size w w' := by
  obtain ⟨q, v⟩ := x
  obtain ⟨p, z⟩ := y
  obtain ⟨y0, y1, y2, y3, y4, y5, y6, y7, rfl⟩ := eightD hx
  obtain ⟨z0, z1, z2, z3, z4, z5, z6, z7, rfl⟩ := eightD hy
  obtain ⟨w1, hw1⟩ : ∃ w1, w1 = (w.alloc (.cells #[.int .i64 q, .int .u8 (y0 : Int), .int .u8 (y1 : Int), .int .u8 (y2 : Int), .int .u8 (y3 : Int), .int .u8 (y4 : Int), .int .u8 (y5 : Int), .int .u8 (y6 : Int), .int .u8 (y7 : Int)] 27)).alloc (.cells #[.int .i64 p, .int .u8 (z0 : Int), .int .u8 (z1 : Int), .int .u8 (z2 : Int), .int .u8 (z3 : Int), .int .u8 (z4 : Int), .int .u8 (z5 : Int), .int .u8 (z6 : Int), .int .u8 (z7 : Int)] 27) := ⟨_, rfl⟩
  have hb1 : Below w.heap.size w w1 := by rw [hw1]; exact ((Below.refl _ w).alloc (Nat.le_refl _) _).alloc (by simp) _
  have g0 : w1.heap[w.heap.size]? = some (.cells (wrv (q, [y0, y1, y2, y3, y4, y5, y6, y7])).toArray 27 (0, 0)) := by rw [hw1]; exact (Below.heap_alloc _ _ _ (by simp)).trans (heap_alloc_new w _)
  have g1 : w1.heap[w.heap.size + 1]? = some (.cells (wrv (p, [z0, z1, z2, z3, z4, z5, z6, z7])).toArray 27 (0, 0)) := by
    rw [hw1]
    have h := heap_alloc_new (w.alloc (.cells (wrv (q, [y0, y1, y2, y3, y4, y5, y6, y7])).toArray 27)) (.cells (wrv (p, [z0, z1, z2, z3, z4, z5, z6, z7])).toArray 27)
    rwa [World.size_alloc] at h
  have c0 := Lib.hid (row_cells g0)
  have d0 := Lib.hid (row_cells g1)
  have c1 : w1.cell? ⟨w.heap.size, 0, none⟩ = some (.int .i64 q) := c0.out 0 _ rfl
  have d1 : w1.cell? ⟨w.heap.size + 1, 0, none⟩ = some (.int .i64 p) := d0.out 0 _ rfl
  have c2 : w1.cell? ⟨w.heap.size, 1, none⟩ = some (.int .u8 (y0 : Int)) := c0.out 1 _ rfl
  have d2 : w1.cell? ⟨w.heap.size + 1, 1, none⟩ = some (.int .u8 (z0 : Int)) := d0.out 1 _ rfl
  have c3 : w1.cell? ⟨w.heap.size, 2, none⟩ = some (.int .u8 (y1 : Int)) := c0.out 2 _ rfl
  have d3 : w1.cell? ⟨w.heap.size + 1, 2, none⟩ = some (.int .u8 (z1 : Int)) := d0.out 2 _ rfl
  have c4 : w1.cell? ⟨w.heap.size, 3, none⟩ = some (.int .u8 (y2 : Int)) := c0.out 3 _ rfl
  have d4 : w1.cell? ⟨w.heap.size + 1, 3, none⟩ = some (.int .u8 (z2 : Int)) := d0.out 3 _ rfl
  have c5 : w1.cell? ⟨w.heap.size, 4, none⟩ = some (.int .u8 (y3 : Int)) := c0.out 4 _ rfl
  have d5 : w1.cell? ⟨w.heap.size + 1, 4, none⟩ = some (.int .u8 (z3 : Int)) := d0.out 4 _ rfl
  have c6 : w1.cell? ⟨w.heap.size, 5, none⟩ = some (.int .u8 (y4 : Int)) := c0.out 5 _ rfl
  have d6 : w1.cell? ⟨w.heap.size + 1, 5, none⟩ = some (.int .u8 (z4 : Int)) := d0.out 5 _ rfl
  have c7 : w1.cell? ⟨w.heap.size, 6, none⟩ = some (.int .u8 (y5 : Int)) := c0.out 6 _ rfl
  have d7 : w1.cell? ⟨w.heap.size + 1, 6, none⟩ = some (.int .u8 (z5 : Int)) := d0.out 6 _ rfl
  have c8 : w1.cell? ⟨w.heap.size, 7, none⟩ = some (.int .u8 (y6 : Int)) := c0.out 7 _ rfl
  have d8 : w1.cell? ⟨w.heap.size + 1, 7, none⟩ = some (.int .u8 (z6 : Int)) := d0.out 7 _ rfl
  have c9 : w1.cell? ⟨w.heap.size, 8, none⟩ = some (.int .u8 (y7 : Int)) := c0.out 8 _ rfl
  have d9 : w1.cell? ⟨w.heap.size + 1, 8, none⟩ = some (.int .u8 (z7 : Int)) := d0.out 8 _ rfl
  have HB := Lib.hid hb1
  have HW1 := Lib.hid hw1
  have heq : ∀ W, (binOp .eql 23 (.agg #[.int .u8 (y0 : Int), .int .u8 (y1 : Int), .int .u8 (y2 : Int), .int .u8 (y3 : Int), .int .u8 (y4 : Int), .int .u8 (y5 : Int), .int .u8 (y6 : Int), .int .u8 (y7 : Int)]) (.agg #[.int .u8 (z0 : Int), .int .u8 (z1 : Int), .int .u8 (z2 : Int), .int .u8 (z3 : Int), .int .u8 (z4 : Int), .int .u8 (z5 : Int), .int .u8 (z6 : Int), .int .u8 (z7 : Int)])).run Try.prog W = .ok (.bool (decide ([y0, y1, y2, y3, y4, y5, y6, y7] = [z0, z1, z2, z3, z4, z5, z6, z7]))) W := fun W => bytes_eq W 23 8 Try.underlying23 [y0, y1, y2, y3, y4, y5, y6, y7] [z0, z1, z2, z3, z4, z5, z6, z7] hx hy
  obtain ⟨E, hE⟩ : ∃ E, E = decide (((q, [y0, y1, y2, y3, y4, y5, y6, y7]) : Wt) = (p, [z0, z1, z2, z3, z4, z5, z6, z7])) := ⟨_, rfl⟩
  rw [← hE]
  rw [show decide (((q, [y0, y1, y2, y3, y4, y5, y6, y7]) : Wt) = (p, [z0, z1, z2, z3, z4, z5, z6, z7])) = (decide (q = p) && decide ([y0, y1, y2, y3, y4, y5, y6, y7] = [z0, z1, z2, z3, z4, z5, z6, z7])) from (show_pair _ _ _ _)] at hE
  clear hw1 hb1 g0 g1 c0 d0
  show Calls _ _ #[.agg #[.int .i64 q, .int .u8 (y0 : Int), .int .u8 (y1 : Int), .int .u8 (y2 : Int), .int .u8 (y3 : Int), .int .u8 (y4 : Int), .int .u8 (y5 : Int), .int .u8 (y6 : Int), .int .u8 (y7 : Int)], .agg #[.int .i64 p, .int .u8 (z0 : Int), .int .u8 (z1 : Int), .int .u8 (z2 : Int), .int .u8 (z3 : Int), .int .u8 (z4 : Int), .int .u8 (z5 : Int), .int .u8 (z6 : Int), .int .u8 (z7 : Int)]] _ _
  by_cases h0 : q = p
  · have hq : (q == p) = true := by simp [h0]
    rw [decide_eq_true h0, Bool.true_and] at hE
    clear h0
    generalize decide ([y0, y1, y2, y3, y4, y5, y6, y7] = [z0, z1, z2, z3, z4, z5, z6, z7]) = F at *
    have HE := Lib.hid hE
    clear hE
    go_enter Try.func21, Try.ntmps21
    go_wp2_with (rw [← HW1.out])
    go_ret
    exact ⟨by rw [HE.out]; rfl, HB.out⟩
  · have hq : (q == p) = false := by simp [h0]
    rw [decide_eq_false h0, Bool.false_and] at hE
    clear h0 heq
    have HE := Lib.hid hE
    clear hE
    go_enter Try.func21, Try.ntmps21
    go_wp2_with (rw [← HW1.out])
    go_ret
    exact ⟨by rw [HE.out]; rfl, HB.out⟩
set_option maxHeartbeats 4000000 in
theorem equalF_dev (l m : List Wt) (A B : Option Addr) (c d : Nat) (w : World) (hl : WsAt w A c l) (hm : WsAt w B d m) :
    Calls Try.prog 20 #[.slice A l.length c, .slice B m.length d, .func (.func 21) #[] #[]] w fun e w' => e = .returned (.bool (decide (l = m))) ∧ Below w.heap.size w w' := by
  obtain ⟨E, hE⟩ : ∃ E, E = decide (l = m) := ⟨_, rfl⟩
  rw [← hE]
  have hf1 := hl.few
  have hf2 := hm.few
  obtain ⟨n, hn⟩ : ∃ n, n = l.length := ⟨_, rfl⟩
  obtain ⟨n2, hn2⟩ : ∃ n2, n2 = m.length := ⟨_, rfl⟩
  rw [← hn, ← hn2]
  rw [← hn] at hf1
  rw [← hn2] at hf2
  by_cases h0 : n = n2
  · subst h0
    have HN := Lib.hid (And.intro hn hn2)
    have HE := Lib.hid hE
    have HL := Lib.hid hl.at_.at_
    have HM := Lib.hid hm.at_.at_
    have HFl := Lib.hid hl.fine
    have HFm := Lib.hid hm.fine
    have hq : ((n : Int) != (n : Int)) = false := by simp
    have eg : ∀ args w, (callFunc 21 args).run Try.prog w = .ok (.enter 21 args) w := enters_of Try.func21 (by kernel_rfl) rfl
    clear hn hn2 hE hl hm
    go_enter Try.func20, Try.ntmps20
    go_wp2
    go_loopw [17] (fun i wr => ∃ k : Nat, k ≤ n ∧ i = .int .i64 (k : Int) ∧ l.take k = m.take k ∧ Below w.heap.size w wr) (fun i _ => n - (intOf i).toNat)
    case atStart => exact ⟨0, Nat.zero_le _, rfl, rfl, Below.refl _ _⟩
    case round =>
      obtain ⟨k, hk, rfl, hEk, hb⟩ := hrel
      have HBr := Lib.hid hb
      by_cases hlt : k < n
      · have hkl : k < l.length := by rw [← HN.out.1]; exact hlt
        have hkm : k < m.length := by rw [← HN.out.2]; exact hlt
        obtain ⟨b, off, rfl, ⟨_, hbl⟩, hc⟩ := HL.out (by omega)
        obtain ⟨b2, off2, rfl, ⟨_, hbl2⟩, hc2⟩ := HM.out (by omega)
        have hs := same_take8 hkl hkm hEk
        have hx := (HFl.out l[k] (List.getElem_mem hkl)).2.1
        have hy := (HFm.out m[k] (List.getElem_mem hkm)).2.1
        have HC := Lib.hid (show ∀ W, Below w.heap.size w W → (∀ j u, (wrv l[k])[j]? = some u → W.cell? ⟨b, off + k * 9 + j, none⟩ = some u) ∧ ∀ j u, (wrv m[k])[j]? = some u → W.cell? ⟨b2, off2 + k * 9 + j, none⟩ = some u from fun W hW =>
          ⟨fun j u hu => (World.cell?_of_block (w := w) (hW.block b hbl)).trans (hc k hkl j u hu), fun j u hu => (World.cell?_of_block (w := w) (hW.block b2 hbl2)).trans (hc2 k hkm j u hu)⟩)
        have hno : l[k] ≠ m[k] → E = false := fun h => by
          rw [HE.out]
          refine decide_eq_false fun e => h ?_
          subst e
          rfl
        clear hc hc2 hEk hb
        generalize l[k] = x at *
        generalize m[k] = y at *
        have HI1 := Lib.hid (write_infos hx)
        have HI2 := Lib.hid (write_infos hy)
        have HI1a := Lib.hid (show (Try.prog.info? 27).map (·.size) = some (wrv x).toArray.size by rw [HI1.out]; simp)
        have HI2a := Lib.hid (show (Try.prog.info? 27).map (·.size) = some (wrv y).toArray.size by rw [HI2.out]; simp)
        have HZ1 := Lib.hid (show (#[.int .i64 0, .int .u8 0, .int .u8 0, .int .u8 0, .int .u8 0, .int .u8 0, .int .u8 0, .int .u8 0, .int .u8 0] : Array Value).size = (wrv x).toArray.size by simp [wrv_length hx])
        have HZ2 := Lib.hid (show (#[.int .i64 0, .int .u8 0, .int .u8 0, .int .u8 0, .int .u8 0, .int .u8 0, .int .u8 0, .int .u8 0, .int .u8 0] : Array Value).size = (wrv y).toArray.size by simp [wrv_length hy])
        have HO1 := Lib.hid (wrv_all x)
        have HO2 := Lib.hid (wrv_all y)
        have HS := Lib.hid hs
        have HNo := Lib.hid hno
        have hki : (k : Int) < (n : Int) := by omega
        have hw : IntKind.i64.wrap ((k : Int) + 1) = (k : Int) + 1 := by rw [IntKind.wrap_i64]; omega
        clear hs hno
        -- the two boxes
        obtain ⟨hb2, hg2, hz2⟩ := box_made wr #[.int .i64 0, .int .u8 0, .int .u8 0, .int .u8 0, .int .u8 0, .int .u8 0, .int .u8 0, .int .u8 0, .int .u8 0] (wrv x).toArray 27
        have HA1 := Lib.hid (heap_alloc_new wr (.cells #[.int .i64 0, .int .u8 0, .int .u8 0, .int .u8 0, .int .u8 0, .int .u8 0, .int .u8 0, .int .u8 0, .int .u8 0] 27))
        obtain ⟨w2, hw2⟩ : ∃ w2, w2 = (wr.alloc (.cells #[.int .i64 0, .int .u8 0, .int .u8 0, .int .u8 0, .int .u8 0, .int .u8 0, .int .u8 0, .int .u8 0, .int .u8 0] 27)).setRow wr.heap.size (wrv x).toArray := ⟨_, rfl⟩
        rw [← hw2] at hb2 hg2 hz2
        obtain ⟨hb3, hg3, hz3⟩ := box_made w2 #[.int .i64 0, .int .u8 0, .int .u8 0, .int .u8 0, .int .u8 0, .int .u8 0, .int .u8 0, .int .u8 0, .int .u8 0] (wrv y).toArray 27
        have HA2 := Lib.hid (heap_alloc_new w2 (.cells #[.int .i64 0, .int .u8 0, .int .u8 0, .int .u8 0, .int .u8 0, .int .u8 0, .int .u8 0, .int .u8 0, .int .u8 0] 27))
        obtain ⟨w3, hw3⟩ : ∃ w3, w3 = (w2.alloc (.cells #[.int .i64 0, .int .u8 0, .int .u8 0, .int .u8 0, .int .u8 0, .int .u8 0, .int .u8 0, .int .u8 0, .int .u8 0] 27)).setRow w2.heap.size (wrv y).toArray := ⟨_, rfl⟩
        rw [← hw3] at hb3 hg3 hz3
        have hg23 := (hb3.block wr.heap.size (by rw [hz2]; exact Nat.lt_succ_self _)).trans hg2
        rw [hz2] at HA2 hw3 hg3
        have HB2 := Lib.hid (HBr.out.trans (hb2.mono HBr.out.size))
        have HB3 := Lib.hid (HB2.out.trans (hb3.mono HB2.out.size))
        have HCall := Lib.hid (same1_dev x y hx hy w3)
        have HG1 := Lib.hid hg23
        have HG2 := Lib.hid hg3
        have HW2 := Lib.hid hw2
        have HW3 := Lib.hid hw3
        have HSz := Lib.hid hz2
        clear hw2 hw3 hb2 hb3 hg2 hg3 hg23 hz2 hz3
        by_cases hxy : x = y
        · have HY := Lib.hid (HS.out.2 hxy)
          have hcall := HCall.out
          rw [decide_eq_true hxy] at hcall
          have HCall := Lib.hid hcall
          clear hxy hcall hx hy
          go_wp2_with (first
            | (refine wpList_load_part rfl 27 _ rfl b (off + k * 9) rfl (wrv x) _ (HC.out _ HBr.out).1 Try.underlying27 rfl HI1.out ?_)
            | (refine wpList_store_row rfl 27 _ _ rfl wr.heap.size (wrv x).toArray rfl rfl 27 #[.int .i64 0, .int .u8 0, .int .u8 0, .int .u8 0, .int .u8 0, .int .u8 0, .int .u8 0, .int .u8 0, .int .u8 0] HA1.out HI1a.out HZ1.out HO1.out ?_; rw [← HW2.out])
            | (refine wpList_load_part rfl 27 _ rfl b2 (off2 + k * 9) rfl (wrv y) _ (HC.out _ HB2.out).2 Try.underlying27 rfl HI2.out ?_)
            | (rw [HSz.out]; refine wpList_store_row rfl 27 _ _ rfl (wr.heap.size + 1) (wrv y).toArray rfl rfl 27 #[.int .i64 0, .int .u8 0, .int .u8 0, .int .u8 0, .int .u8 0, .int .u8 0, .int .u8 0, .int .u8 0, .int .u8 0] HA2.out HI2a.out HZ2.out HO2.out ?_; rw [← HW3.out])
            | (refine wpList_load_row rfl 27 _ rfl wr.heap.size rfl 27 (wrv x).toArray (0, 0) _ HG1.out Try.underlying27 rfl HI1a.out ?_)
            | (refine wpList_load_row rfl 27 _ rfl (wr.heap.size + 1) rfl 27 (wrv y).toArray (0, 0) _ HG2.out Try.underlying27 rfl HI2a.out ?_)
            | (go_at_fn 21; refine HCall.out.mono ?_; rintro e w4 ⟨rfl, hb4⟩))
          go_roundw
          case rel => exact ⟨k + 1, by omega, by simp, HY.out, HB3.out.trans (hb4.mono HB3.out.size)⟩
          case measure => simp [intOf]; omega
        · have HY := Lib.hid (HNo.out hxy)
          have hcall := HCall.out
          rw [decide_eq_false hxy] at hcall
          have HCall := Lib.hid hcall
          clear hxy hcall hx hy
          go_wp2_with (first
            | (refine wpList_load_part rfl 27 _ rfl b (off + k * 9) rfl (wrv x) _ (HC.out _ HBr.out).1 Try.underlying27 rfl HI1.out ?_)
            | (refine wpList_store_row rfl 27 _ _ rfl wr.heap.size (wrv x).toArray rfl rfl 27 #[.int .i64 0, .int .u8 0, .int .u8 0, .int .u8 0, .int .u8 0, .int .u8 0, .int .u8 0, .int .u8 0, .int .u8 0] HA1.out HI1a.out HZ1.out HO1.out ?_; rw [← HW2.out])
            | (refine wpList_load_part rfl 27 _ rfl b2 (off2 + k * 9) rfl (wrv y) _ (HC.out _ HB2.out).2 Try.underlying27 rfl HI2.out ?_)
            | (rw [HSz.out]; refine wpList_store_row rfl 27 _ _ rfl (wr.heap.size + 1) (wrv y).toArray rfl rfl 27 #[.int .i64 0, .int .u8 0, .int .u8 0, .int .u8 0, .int .u8 0, .int .u8 0, .int .u8 0, .int .u8 0, .int .u8 0] HA2.out HI2a.out HZ2.out HO2.out ?_; rw [← HW3.out])
            | (refine wpList_load_row rfl 27 _ rfl wr.heap.size rfl 27 (wrv x).toArray (0, 0) _ HG1.out Try.underlying27 rfl HI1a.out ?_)
            | (refine wpList_load_row rfl 27 _ rfl (wr.heap.size + 1) rfl 27 (wrv y).toArray (0, 0) _ HG2.out Try.underlying27 rfl HI2a.out ?_)
            | (go_at_fn 21; refine HCall.out.mono ?_; rintro e w4 ⟨rfl, hb4⟩))
          go_ret
          exact ⟨by rw [HY.out]; rfl, HB3.out.trans (hb4.mono HB3.out.size)⟩
      · obtain rfl : k = n := by omega
        have HYes := Lib.hid (show E = true by
          rw [HE.out]
          have h1 := hEk
          rw [List.take_of_length_le (Nat.le_of_eq HN.out.1.symm), List.take_of_length_le (Nat.le_of_eq HN.out.2.symm)] at h1
          exact decide_eq_true h1)
        clear hEk hb
        have hki : ¬ (k : Int) < (k : Int) := by omega
        go_wp2
        go_ret
        exact ⟨by rw [HYes.out]; rfl, HBr.out⟩
  · have HE := Lib.hid (show E = false by
      rw [hE]
      refine decide_eq_false fun e => h0 ?_
      subst e
      rw [hn, hn2])
    have hq : ((n : Int) != (n2 : Int)) = true := by rw [bne_iff_ne]; omega
    clear hE hn hn2 h0
    go_enter Try.func20, Try.ntmps20
    go_wp2
    go_ret
    exact ⟨by rw [HE.out]; rfl, Below.refl _ _⟩
theorem same8_dev (l m : List Wt) (A B : Option Addr) (c d : Nat) (w : World) (hl : WsAt w A c l) (hm : WsAt w B d m) :
    Calls Try.prog 12 #[.slice A l.length c, .slice B m.length d] w fun e w' => e = .returned (.bool (decide (l = m))) ∧ Below w.heap.size w w' := by
  have HC := Lib.hid (equalF_dev l m A B c d w hl hm)
  generalize decide (l = m) = r at *
  generalize l.length = n1 at *
  generalize m.length = n2 at *
  clear hl hm
  go_enter Try.func12, Try.ntmps12
  go_wp2_with (go_at_call 20; refine HC.out.mono ?_; rintro e w2 ⟨rfl, hb2⟩)
  go_ret
  exact ⟨rfl, hb2⟩
end Go.Proofs.Ytipgphdndleodaa
