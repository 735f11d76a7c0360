/-
  The developers' answers: a sector read; whether it is sealed; its blocks.
-/
import Derived.Test.YtgkbhdecohlpmaaHDputs
import Derived.Test.YtgkbhdecohlpmaaHRow
import Derived.Test.YtgkbhdecohlpmaaDkGround
namespace Go.Proofs.Ytgkbhdecohlpmaa
set_option maxRecDepth 100000
open Go.RowKit
set_option maxRecDepth 100000

theorem hsec_size : (Try.prog.info? 64).map (·.size) = some 64 := by kernel_rfl
theorem hsec_zero : (Try.prog.info? 64).map (·.zero) = some (some (.agg (vals (List.replicate 64 0)).toArray)) := by kernel_rfl
theorem vals_all (bs : List Nat) : (vals bs).toArray.all (·.oneCell') = true := Array.all_eq_true_iff_forall_mem.2 fun u hu => vals_one u (by simpa using hu)
theorem vals_size (bs : List Nat) : (vals bs).toArray.size = bs.length := by simp [vals_length]
theorem wpList_toArray {P : Program} {ops : Array Oper} {rest : List Oper} {o : Oper} {a : Act} {w : World} {Q : Exit → Act → World → Prop} (hgd : o.guard = none) (ty : TypeId) (x : Operand) (ho : o.op = .sliceToArrayPointer ty x)
    (n : Nat) (e : TypeId) (hu : P.underlying ty = some (.array n e)) (A : Option Addr) (l c : Nat) (hx : a.eval x = .slice A l c) (hl : n ≤ l)
    (h : wpList P ops Q rest (a.put o.dst (.pointer A)) w) : wpList P ops Q (o :: rest) a w := by
  refine wpList_plain hgd fun _ hK => wp_value (v := .pointer A) (w' := w) ?_ (hK _ _ h)
  have h2 : ¬ l < n := by omega
  unfold execOp
  simp [ho, hx, Instr.arrayAt, run_underlying hu, h2, Result.andThen]
set_option maxHeartbeats 1000000 in
theorem hread_dev {w : World} {S : Nat → Prop} {a : Nat} {d : Dk.Dk} (h : Dk.Disk w S a d) (hd : d.down = false) {n : Nat} (hn : n < 34) :
    Calls Try.prog 25 #[.pointer (some ⟨a, 0, none⟩), .int .i64 (n : Int)] w fun e w' => e = .returned (.tuple #[.agg (vals (d.newest n)).toArray, .int .i64 0]) ∧ Below w.heap.size w w' := by
  have hs := h.newest_sec hn
  have HR := Lib.hid (fun W (hW : Below w.heap.size w W) => read_row (h.below hW (Nat.le_refl _)) hd hn)
  generalize d.newest n = bs at *
  have HI := Lib.hid (show (Try.prog.info? 64).map (·.size) = some (vals bs).toArray.size by rw [hsec_size, vals_size, hs.1])
  have HA := Lib.hid (vals_all bs)
  obtain ⟨Z, hZ⟩ : ∃ Z, Z = (vals (List.replicate 64 0)).toArray := ⟨_, rfl⟩
  have HZ := Lib.hid (show (Try.prog.info? 64).map (·.zero) = some (some (.agg Z)) by rw [hZ]; exact hsec_zero)
  have HSz := Lib.hid (show Z.size = (vals bs).toArray.size by rw [hZ, vals_size, vals_size, hs.1]; simp)
  obtain ⟨w1, hw1⟩ : ∃ w1, w1 = w.alloc (.cells Z 64) := ⟨_, rfl⟩
  have hs1 : w1.heap.size = w.heap.size + 1 := by rw [hw1]; simp
  have HB1 := Lib.hid (show Below w.heap.size w w1 by rw [hw1]; exact (Below.refl _ w).alloc (Nat.le_refl _) _)
  have HG1 := Lib.hid (show w1.heap[w.heap.size]? = some (.cells Z 64 (0, 0)) by rw [hw1]; exact heap_alloc_new w _)
  have HW1 := Lib.hid hw1
  have HS1 := Lib.hid hs1
  clear h hd hs hZ hw1 hs1
  go_enter Try.func25, Try.ntmps25
  go_wp2_with (refine wpList_alloc_any rfl 64 rfl Z HZ.out ?_; rw [← HW1.out])
  refine (HR.out _ HB1.out).mono ?_
  rintro e w2 ⟨g, rfl, hg, hrow, hb2⟩
  have HR2 := Lib.hid hrow
  have HG2 := Lib.hid ((hb2.block _ (by have := HS1.out; omega)).trans HG1.out)
  have HB2 := Lib.hid (HB1.out.trans (hb2.mono HB1.out.size))
  clear hrow hb2 hg
  go_wp2_with (first
    | (refine wpList_toArray rfl 64 (.tmp 18) rfl 64 5 Try.underlying64 (some ⟨g, 0, none⟩) 64 64 rfl (by omega) ?_)
    | (refine wpList_load_row rfl 64 _ rfl g rfl 55 (vals bs).toArray (0, 0) _ HR2.out Try.underlying64 rfl HI.out ?_)
    | (refine wpList_store_row rfl 64 _ _ rfl w.heap.size (vals bs).toArray rfl rfl 64 Z HG2.out HI.out HSz.out HA.out ?_))
  exact bodyPost_ret (results_cell_tmp (t := 64) (p := 4) (u := 5) rfl _ _ w.heap.size (vals bs).toArray (0, 0) _ rfl (setRow_heap _ _ _ _ _ _ HG2.out) Try.underlying64 rfl HI.out) rfl ⟨rfl, below_setRow HB2.out (Nat.le_refl _) _⟩

/-- is a sector its first n bytes, sealed, and 0s? -/
def sealB (bs : List Nat) (n : Nat) : Bool := decide (bs = Dk.padded (Crc.sealed (bs.take n)))
theorem seal_open {bs : List Nat} {n : Nat} (hl : bs.length = 64) (hn : n + 4 ≤ 64) : sealB bs n = (openH bs n).isSome := by
  have ht : (bs.take n).length = n := by rw [List.length_take]; omega
  unfold sealB openH
  by_cases h : allZ (bs.drop (n + 4)) = true ∧ Crc.isSealed (bs.take (n + 4)) = true
  · rw [if_pos h]
    rw [Option.isSome_some, decide_eq_true_eq]
    obtain ⟨h1, h2⟩ := h
    unfold Crc.isSealed at h2
    rw [Bool.and_eq_true, decide_eq_true_eq, decide_eq_true_eq] at h2
    have hl4 : (bs.take (n + 4)).length = n + 4 := by rw [List.length_take]; omega
    rw [hl4, show n + 4 - 4 = n by omega, List.take_take, Nat.min_eq_left (by omega)] at h2
    have e1 : bs.take (n + 4) = Crc.sealed (bs.take n) := by
      unfold Crc.sealed
      rw [← h2.2]
      have := List.take_append_drop n (bs.take (n + 4))
      rw [List.take_take, Nat.min_eq_left (by omega)] at this
      exact this.symm
    have e2 : bs.drop (n + 4) = List.replicate (64 - (n + 4)) 0 := by
      rw [List.eq_replicate_iff]
      unfold allZ at h1
      rw [decide_eq_true_eq] at h1
      exact ⟨by rw [List.length_drop, hl], h1⟩
    unfold Dk.padded
    rw [← e1, hl4, ← e2, List.take_append_drop]
  · rw [if_neg h]
    show _ = false
    refine decide_eq_false fun e => h ?_
    have hsl : (Crc.sealed (bs.take n)).length = n + 4 := by rw [Crc.sealed_length, ht]
    have e1 : bs.take (n + 4) = Crc.sealed (bs.take n) := by
      conv => lhs; rw [e]
      unfold Dk.padded
      exact take_front hsl
    have e2 : bs.drop (n + 4) = List.replicate (64 - (n + 4)) 0 := by
      conv => lhs; rw [e]
      unfold Dk.padded
      rw [List.drop_append, List.drop_of_length_le (by omega), List.nil_append, hsl]
      simp
    refine ⟨?_, by rw [e1]; exact Crc.isSealed_sealed _⟩
    unfold allZ
    rw [decide_eq_true_eq, e2]
    exact fun x hx => (List.mem_replicate.1 hx).2
theorem pad_spliceH (bs : List Nat) (h : bs.length ≤ 64) : splice (vals (List.replicate 64 0)) 0 (vals bs) = vals (Dk.padded bs) := by
  unfold splice Dk.padded vals
  simp only [List.take_zero, List.nil_append, List.map_append, List.map_replicate, List.length_map, Nat.zero_add]
  rw [List.drop_replicate]
theorem size8H : (Try.prog.info? 5).map (·.size) = some 1 := by kernel_rfl
set_option maxHeartbeats 1000000 in
theorem sealed_dev (bs : List Nat) (n : Nat) (hb : Dk.Sec bs) (hn : n + 4 ≤ 64) (w : World) :
    Calls Try.prog 26 #[.agg (vals bs).toArray, .int .i64 (n : Int)] w fun e w' => e = .returned (.bool (sealB bs n)) ∧ Below w.heap.size w w' := by
  obtain ⟨Zl, hZl⟩ : ∃ Zl, Zl = vals (List.replicate 64 0) := ⟨_, rfl⟩
  obtain ⟨w1, hw1⟩ : ∃ w1, w1 = w.alloc (.cells (vals bs).toArray 64) := ⟨_, rfl⟩
  obtain ⟨w2, hw2⟩ : ∃ w2, w2 = w1.alloc (.cells Zl.toArray 64) := ⟨_, rfl⟩
  have hs1 : w1.heap.size = w.heap.size + 1 := by rw [hw1]; simp
  have hs2 : w2.heap.size = w1.heap.size + 1 := by rw [hw2]; simp
  have hb1 : Below w.heap.size w w1 := by rw [hw1]; exact (Below.refl _ w).alloc (Nat.le_refl _) _
  have hb2 : Below w1.heap.size w1 w2 := by rw [hw2]; exact (Below.refl _ w1).alloc (Nat.le_refl _) _
  have hg1 : w1.heap[w.heap.size]? = some (.cells (vals bs).toArray 64 (0, 0)) := by rw [hw1]; exact heap_alloc_new w _
  have hg2 : w2.heap[w.heap.size]? = some (.cells (vals bs).toArray 64 (0, 0)) := (hb2.block _ (by omega)).trans hg1
  have hz2 : w2.heap[w1.heap.size]? = some (.cells Zl.toArray 64 (0, 0)) := by rw [hw2]; exact heap_alloc_new w1 _
  have hyb : By w2 (w.heap.size + 1) (some ⟨w.heap.size, 0, none⟩) bs := By.of_row hg2 (by rw [List.take_of_length_le (by simp [vals_length])]) hb.2
  have hyn := (hyb.take n).mono (show w.heap.size + 1 ≤ w2.heap.size by omega)
  have htl : (bs.take n).length = n := by rw [List.length_take]; have := hb.1; omega
  have HSl := Lib.hid (fun W (hW : Below w2.heap.size w2 W) c (hc : n ≤ c) => show Calls Try.prog 24 #[.slice (some ⟨w.heap.size, 0, none⟩) n c] W fun e w' => ∃ v, e = .returned v ∧ New W w' (Crc.sealed (bs.take n)) v from by
    have := seal_any (bs.take n) (some ⟨w.heap.size, 0, none⟩) c W ((hyn.below hW (Nat.le_refl _)).mono hW.size) (by omega) (by omega)
    rwa [htl] at this)
  have hsl : (Crc.sealed (bs.take n)).length = n + 4 := by rw [Crc.sealed_length, htl]
  have HL := Lib.hid (Crc.sealed_lt (bs := bs.take n) fun x hx => hb.2 x (List.mem_of_mem_take hx))
  have HT_ := Lib.hid (show splice Zl 0 (vals (Crc.sealed (bs.take n))) = vals (Dk.padded (Crc.sealed (bs.take n))) by rw [hZl]; exact pad_spliceH _ (by omega))
  have hpl : (Dk.padded (Crc.sealed (bs.take n))).length = 64 := by unfold Dk.padded; rw [List.length_append, List.length_replicate, hsl]; omega
  obtain ⟨E, hE⟩ : ∃ E, E = sealB bs n := ⟨_, rfl⟩
  rw [← hE]
  unfold sealB at hE
  have HE := Lib.hid (fun W => show (binOp .eql 64 (.agg (vals bs).toArray) (.agg (vals (Dk.padded (Crc.sealed (bs.take n)))).toArray)).run Try.prog W = .ok (.bool E) W by
    rw [bytes_eq W 64 64 Try.underlying64 bs (Dk.padded (Crc.sealed (bs.take n))) hb.1 hpl, hE])
  have HIb := Lib.hid (show (Try.prog.info? 64).map (·.size) = some (vals bs).toArray.size by rw [hsec_size, vals_size, hb.1])
  have HIp := Lib.hid (show (Try.prog.info? 64).map (·.size) = some (vals (Dk.padded (Crc.sealed (bs.take n)))).toArray.size by rw [hsec_size, vals_size, hpl])
  have HZ := Lib.hid (show (Try.prog.info? 64).map (·.zero) = some (some (.agg Zl.toArray)) by rw [hZl]; exact hsec_zero)
  have HZl := Lib.hid (show Zl.length = 64 by rw [hZl]; simp [vals_length])
  generalize Dk.padded (Crc.sealed (bs.take n)) = pb at *
  generalize hsb : Crc.sealed (bs.take n) = sb at *
  have HSb := Lib.hid hsl
  have HVl := Lib.hid (vals_length sb)
  have HB1 := Lib.hid hb1
  have HB2 := Lib.hid (hb1.trans (hb2.mono hb1.size))
  have HG2 := Lib.hid hg2
  have HZ2 := Lib.hid hz2
  have HS1 := Lib.hid hs1
  have HS2 := Lib.hid hs2
  have HW1 := Lib.hid hw1
  have HW2 := Lib.hid hw2
  have hn64 : (n : Int) ≤ 64 := by omega
  have hn0 : (0 : Int) ≤ (n : Int) := by omega
  clear hb1 hb2 hs1 hs2 hw1 hw2 hg1 hg2 hz2 hyb hyn htl hsl hpl hE hb hsb hZl
  go_enter Try.func26, Try.ntmps26
  go_wp2_with (first | (rw [← HW1.out]) | (refine wpList_alloc_any rfl 64 rfl Zl.toArray HZ.out ?_; rw [← HW2.out]))
  refine wp_region_held_drew (S := fun _ => True) (by kernel_rfl) trivial (fun hHeld => ?_)
  refine wpAnyH_take (i := 0) (v := ?_) rfl (by kernel_rfl) (by kernel_rfl) (by kernel_rfl) (fun _ _ _ h => h) (Or.inl ⟨by rfl, ?_⟩) (by assumption) ?_
  rotate_left
  · simp only [List.getElem_toArray, List.getElem_cons_zero, List.getElem_cons_succ]; intro W hSw; (try dsimp only at hSw); go_simp; all_goals with_reducible rfl
  simp only [Act.put, List.getElem_toArray, List.getElem_cons_zero, List.getElem_cons_succ, List.setIfInBounds_toArray, List.set_cons_zero, List.set_cons_succ]
  refine wpAnyH_take (i := 1) (v := ?_) rfl (by kernel_rfl) (by kernel_rfl) (by kernel_rfl) (fun _ _ _ h => h) (Or.inl ⟨by rfl, ?_⟩) (by assumption) ?_
  rotate_left
  · simp only [List.getElem_toArray, List.getElem_cons_zero, List.getElem_cons_succ]; intro W hSw; (try dsimp only at hSw); go_simp; all_goals with_reducible rfl
  simp only [Act.put, List.getElem_toArray, List.getElem_cons_zero, List.getElem_cons_succ, List.setIfInBounds_toArray, List.set_cons_zero, List.set_cons_succ]
  refine wpAnyH_take (i := 2) (v := ?_) rfl (by kernel_rfl) (by kernel_rfl) (by kernel_rfl) (fun _ _ _ h => h) (Or.inl ⟨by rfl, ?_⟩) (by assumption) ?_
  rotate_left
  · simp only [List.getElem_toArray, List.getElem_cons_zero, List.getElem_cons_succ]; intro W hSw; (try dsimp only at hSw); go_simp; all_goals with_reducible rfl
  simp only [Act.put, List.getElem_toArray, List.getElem_cons_zero, List.getElem_cons_succ, List.setIfInBounds_toArray, List.set_cons_zero, List.set_cons_succ]
  refine wpAnyH_ready (rs := [3]) (by kernel_rfl) (by simp) ?_
  refine AllReadyH.cons rfl (fun K hK => ?_) AllReadyH.nil
  simp only [List.getElem_toArray, List.getElem_cons_zero, List.getElem_cons_succ]
  go_simp
  refine (HSl.out _ ((Below.refl _ w2).drew) 64 (by omega)).mono ?_
  rintro e w3 ⟨v, rfl, hv⟩
  have hb3 : Below w2.heap.size w2 w3 := (Below.refl _ w2).drew.trans hv.2
  obtain ⟨A3, c3, rfl, hy3, hl3, hc3, hn3, _⟩ := New.slice hv HL.out
  have HY3 := Lib.hid hy3
  have HB3 := Lib.hid hb3
  have HG3 := Lib.hid ((hb3.block _ (by have := HS1.out; have := HS2.out; omega)).trans HG2.out)
  have HZ3 := Lib.hid ((hb3.block _ (by have := HS2.out; omega)).trans HZ2.out)
  have HA3 := Lib.hid hl3
  clear hv hy3 hb3 hl3 hn3 hc3
  go_wp2_with fail
  refine hK.out _ _ (trivial) (fun hHeldN => ?_)
  clear hK K hHeld
  have hHeld := hHeldN
  clear hHeldN
  (try simp only [Act.put, List.getElem_toArray, List.getElem_cons_zero, List.getElem_cons_succ, List.setIfInBounds_toArray, List.set_cons_zero, List.set_cons_succ])
  refine wpAnyH_ready (rs := [4]) (by kernel_rfl) (by simp) ?_
  refine AllReadyH.cons rfl (fun K hK => ?_) AllReadyH.nil
  simp only [List.getElem_toArray, List.getElem_cons_zero, List.getElem_cons_succ]
  rw [if_pos]
  rotate_left
  · simp [Region.wanted]
  refine wp_copy_splice rfl (.tmp 6) (.tmp 9) 44 44 rfl 5 Try.underlying44 size8H (some ⟨w1.heap.size, 0, none⟩) A3 64 64 sb.length c3 rfl rfl w1.heap.size 0 Zl 64 HZ3.out (vals sb) (by rw [HVl.out, HSb.out]; simp only [Nat.min_def]; split <;> omega) (fun h => ⟨rfl, HY3.out.src h⟩) (by rw [HVl.out, HSb.out, HZl.out]; omega) vals_one w1.heap.size w3 (Below.refl _ _) (Nat.le_refl _) ?_
  intro w4 hg4 hb4
  rw [HT_.out] at hg4
  have HG4 := Lib.hid hg4.out
  have HB4 := Lib.hid hb4
  have HR4 := Lib.hid ((hb4.block _ (by have := HS1.out; omega)).trans HG3.out)
  clear hg4 hb4
  refine hK.out _ _ (trivial) (fun hHeldN => ?_)
  clear hK K hHeld
  have hHeld := hHeldN
  clear hHeldN
  (try simp only [Act.put, List.getElem_toArray, List.getElem_cons_zero, List.getElem_cons_succ, List.setIfInBounds_toArray, List.set_cons_zero, List.set_cons_succ])
  refine wpAnyH_done (by kernel_rfl) ?_ _
  have heq := HE.out
  go_wp2_with (first
    | (refine wpList_load_row rfl 64 (.tmp 2) rfl w.heap.size rfl 64 (vals bs).toArray (0, 0) _ HR4.out Try.underlying64 rfl HIb.out ?_)
    | (refine wpList_load_row rfl 64 (.tmp 5) rfl w1.heap.size rfl 64 (vals pb).toArray (0, 0) _ HG4.out Try.underlying64 rfl HIp.out ?_))
  go_ret
  exact ⟨rfl, (HB2.out.trans (HB3.out.mono HB2.out.size)).trans (HB4.out.mono (by have := HS1.out; omega))⟩
end Go.Proofs.Ytgkbhdecohlpmaa
