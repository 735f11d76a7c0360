/-
  allMay, May, by contract.
-/
import Derived.Test.YtehkohnpfbdngaaDoorMay
import Derived.Deep.LoopGhost
namespace Go.Proofs.YtehkohnpfbdngaaDoor
open Go.RowKit

/-- whether bound k of a frame holds -/
def bOK (f : Fr) : Nat → Bool
  | 0 => decide (1 ≤ f.seq) && decide (f.seq ≤ 1099511627776)
  | 1 => decide (0 ≤ f.inc) && decide (f.inc ≤ 1048576)
  | 2 => decide (1 ≤ f.of) && decide (f.of ≤ 2)
  | 3 => decide (0 ≤ f.part) && decide (f.part ≤ less1 f.of)
  | _ => decide (fewest f ≤ f.load.length) && decide ((f.load.length : Int) ≤ 45)
theorem may_of_bounds {f : Fr} (h : ∀ k, k < 5 → bOK f k = true) : mayB f = true := by
  have h0 := h 0 (by omega)
  have h1 := h 1 (by omega)
  have h2 := h 2 (by omega)
  have h3 := h 3 (by omega)
  have h4 := h 4 (by omega)
  simp only [bOK, Bool.and_eq_true, decide_eq_true_eq] at h0 h1 h2 h3 h4
  have hl : less1 f.of = f.of - 1 := by unfold less1; rw [IntKind.wrap_i64]; omega
  unfold fewest at h4
  rw [hl] at h3 h4
  unfold mayB
  rw [decide_eq_true_eq]
  split at h4 <;> omega
theorem not_may {f : Fr} {k : Nat} (hk : k < 5) (h : bOK f k = false) : mayB f = false := by
  unfold mayB
  rw [decide_eq_false_iff_not]
  intro hm
  have hl : less1 f.of = f.of - 1 := by unfold less1; rw [IntKind.wrap_i64]; omega
  have hk5 : k = 0 ∨ k = 1 ∨ k = 2 ∨ k = 3 ∨ k = 4 := by omega
  rcases hk5 with rfl | rfl | rfl | rfl | rfl
  · simp [bOK] at h; omega
  · simp [bOK] at h; omega
  · simp [bOK] at h; omega
  · simp [bOK, hl] at h; omega
  · simp only [bOK, fewest, hl] at h
    rw [Bool.and_eq_false_iff, decide_eq_false_iff_not, decide_eq_false_iff_not] at h
    split at h <;> omega
theorem five_ways {k : Nat} (h : k < 5) : k = 0 ∨ k = 1 ∨ k = 2 ∨ k = 3 ∨ k = 4 := by omega
theorem all_take_snoc {fs : List Fr} {k : Nat} (h : k < fs.length) (h1 : (fs.take k).all mayB = true) (h2 : mayB fs[k] = true) : (fs.take (k + 1)).all mayB = true := by
  rw [List.take_succ_eq_append_getElem h, List.all_append, h1]
  simp [h2]
theorem not_all {fs : List Fr} {k : Nat} (h : k < fs.length) (h2 : mayB fs[k] = false) : fs.all mayB = false := by
  rw [List.all_eq_false]
  exact ⟨fs[k], List.getElem_mem h, by simp [h2]⟩

set_option maxHeartbeats 4000000 in
theorem allMay_any (fs : List Fr) (A : Option Addr) (c : Nat) (w : World) (hA : Frs w w.heap.size A fs) (hl : fs.length ≤ 1000000000) :
    Calls Tryd.prog 24 #[.slice A fs.length c] w fun e w' => e = .returned (.bool (fs.all mayB)) ∧ Below w.heap.size w w' := by
  have HA := Lib.hid hA
  clear hA
  go_enter Tryd.func24, Tryd.ntmps24
  go_wp2
  go_step3
  go_wp2
  go_step3
  go_wp2
  go_loopg [3, 10] fs.length (fun g m i wr => ∃ k : Nat, k + g = fs.length ∧ i = .int .i64 k ∧ m = .bool true ∧ (fs.take k).all mayB = true ∧ Below w.heap.size w wr)
  case atStart => exact ⟨0, by omega, rfl, rfl, rfl, Below.refl _ _⟩
  case round =>
    obtain ⟨k, hk, rfl, rfl, hall, hb⟩ := hrel
    have HB := Lib.hid hb
    have HL := Lib.hid hall
    have HK := Lib.hid hk
    clear hb hall hk
    cases gk with
    | succ g =>
      have hlt : k < fs.length := by have := HK.out; omega
      obtain ⟨b, off, A', c', rfl, hbw, hby, hlc, hcm, _, _, c0, c1, c2, c3, c4, c5⟩ := (HA.out.below HB.out (Nat.le_refl _)).cells hlt
      have HM := Lib.hid (all_take_snoc hlt HL.out)
      have HN := Lib.hid (not_all hlt)
      have hki : (k : Int) < fs.length := by omega
      clear HL
      generalize fs[k] = f at *
      have HBO := Lib.hid (bounds_any f A' c' (wr.alloc (.cells (frv A' c' f).toArray 25)) (by omega))
      have HBB := Lib.hid (show bnds f = bnd f.seq 1 1099511627776 ++ bnd f.inc 0 1048576 ++ bnd f.of 1 2 ++ bnd f.part 0 (less1 f.of) ++ bnd f.load.length (fewest f) 45 from rfl)
      have HF := Lib.hid (show ∀ k, bOK f k = match k with | 0 => decide (1 ≤ f.seq) && decide (f.seq ≤ 1099511627776) | 1 => decide (0 ≤ f.inc) && decide (f.inc ≤ 1048576) | 2 => decide (1 ≤ f.of) && decide (f.of ≤ 2) | 3 => decide (0 ≤ f.part) && decide (f.part ≤ less1 f.of) | _ => decide (fewest f ≤ f.load.length) && decide ((f.load.length : Int) ≤ 45) from fun k => by unfold bOK; rfl)
      have HMay := Lib.hid (may_of_bounds (f := f))
      have HNot := Lib.hid (fun k => not_may (f := f) (k := k))
      clear hby
      unfold frv bnd at *
      go_wp2_with fail
      refine HBO.out.mono ?_
      rintro e w2 ⟨rfl, hb2⟩
      rw [HBB.out]
      have HB2 := Lib.hid ((HB.out.alloc HB.out.size _).trans (hb2.mono (by have := HB.out.size; simp; omega)))
      clear hb2 HBO
      go_wp2
      go_loopg [3, 16] 5 (fun g m i wx => ∃ j : Nat, j + g = 5 ∧ i = .int .i64 j ∧ m = .bool true ∧ (∀ q, q < j → bOK f q = true) ∧ Below w.heap.size w wx)
      case atStart => exact ⟨0, by omega, rfl, rfl, fun q h => absurd h (by omega), HB2.out⟩
      case round =>
        obtain ⟨j, hj, rfl, rfl, hq, hb4⟩ := hrel
        have HJ := Lib.hid hj
        have HQ := Lib.hid hq
        have HBX := Lib.hid hb4
        clear hj hq hb4
        cases gk with
        | succ g2 =>
          have hj5 : j < 5 := by have := HJ.out; omega
          rcases five_ways hj5 with rfl | rfl | rfl | rfl | rfl
          · have hx : ∀ W, (Instr.index 66 (.agg #[.int .i64 f.seq, .int .i64 1, .int .i64 1099511627776, .int .i64 f.inc, .int .i64 0, .int .i64 1048576, .int .i64 f.of, .int .i64 1, .int .i64 2, .int .i64 f.part, .int .i64 0, .int .i64 (less1 f.of), .int .i64 f.load.length, .int .i64 (fewest f), .int .i64 45]) (.int .i64 0)).run Tryd.prog W = .ok (.agg #[.int .i64 f.seq, .int .i64 1, .int .i64 1099511627776]) W := fun W => by
              have h := run_index_agg (P := Tryd.prog) W 66 53 5 3 0 #[.int .i64 f.seq, .int .i64 1, .int .i64 1099511627776, .int .i64 f.inc, .int .i64 0, .int .i64 1048576, .int .i64 f.of, .int .i64 1, .int .i64 2, .int .i64 f.part, .int .i64 0, .int .i64 (less1 f.of), .int .i64 f.load.length, .int .i64 (fewest f), .int .i64 45] Tryd.underlying66 _ Tryd.underlying53 rfl Tryd.info53 (by omega)
              simpa using h
            have hh := fun W => holds_any f.seq 1 1099511627776 W
            rw [show (decide (1 ≤ f.seq) && decide (f.seq ≤ 1099511627776)) = bOK f 0 from rfl] at hh
            cases hq : bOK f 0 with
            | true =>
              rw [hq] at hh
              have HH := Lib.hid hh
              have HQ2 := Lib.hid (show ∀ q, q < 0 + 1 → bOK f q = true from fun q h => by
                by_cases h' : q = 0
                · rw [h']; exact hq
                · exact HQ.out q (by omega))
              clear hq hh
              go_wp2_with fail
              refine (HH.out _).mono ?_
              rintro e w3 ⟨rfl, hb3⟩
              have HB3 := Lib.hid ((HBX.out.alloc HBX.out.size _).trans (hb3.mono (by have := HBX.out.size; simp; omega)))
              clear hb3
              go_wp2
              go_roundg g2
              case measure => omega
              case rel => exact ⟨0 + 1, by have := HJ.out; omega, rfl, rfl, HQ2.out, HB3.out⟩
            | false =>
              rw [hq] at hh
              have HH := Lib.hid hh
              have HR := Lib.hid (HN.out (HNot.out 0 (by omega) hq))
              clear hq hh
              go_wp2_with fail
              refine (HH.out _).mono ?_
              rintro e w3 ⟨rfl, hb3⟩
              have HB3 := Lib.hid ((HBX.out.alloc HBX.out.size _).trans (hb3.mono (by have := HBX.out.size; simp; omega)))
              clear hb3
              go_wp2
              (try rw [Exit.noGoto_ret])
              go_ret
              exact ⟨by rw [HR.out]; rfl, HB3.out⟩
          · have hx : ∀ W, (Instr.index 66 (.agg #[.int .i64 f.seq, .int .i64 1, .int .i64 1099511627776, .int .i64 f.inc, .int .i64 0, .int .i64 1048576, .int .i64 f.of, .int .i64 1, .int .i64 2, .int .i64 f.part, .int .i64 0, .int .i64 (less1 f.of), .int .i64 f.load.length, .int .i64 (fewest f), .int .i64 45]) (.int .i64 1)).run Tryd.prog W = .ok (.agg #[.int .i64 f.inc, .int .i64 0, .int .i64 1048576]) W := fun W => by
              have h := run_index_agg (P := Tryd.prog) W 66 53 5 3 1 #[.int .i64 f.seq, .int .i64 1, .int .i64 1099511627776, .int .i64 f.inc, .int .i64 0, .int .i64 1048576, .int .i64 f.of, .int .i64 1, .int .i64 2, .int .i64 f.part, .int .i64 0, .int .i64 (less1 f.of), .int .i64 f.load.length, .int .i64 (fewest f), .int .i64 45] Tryd.underlying66 _ Tryd.underlying53 rfl Tryd.info53 (by omega)
              simpa using h
            have hh := fun W => holds_any f.inc 0 1048576 W
            rw [show (decide (0 ≤ f.inc) && decide (f.inc ≤ 1048576)) = bOK f 1 from rfl] at hh
            cases hq : bOK f 1 with
            | true =>
              rw [hq] at hh
              have HH := Lib.hid hh
              have HQ2 := Lib.hid (show ∀ q, q < 1 + 1 → bOK f q = true from fun q h => by
                by_cases h' : q = 1
                · rw [h']; exact hq
                · exact HQ.out q (by omega))
              clear hq hh
              go_wp2_with fail
              refine (HH.out _).mono ?_
              rintro e w3 ⟨rfl, hb3⟩
              have HB3 := Lib.hid ((HBX.out.alloc HBX.out.size _).trans (hb3.mono (by have := HBX.out.size; simp; omega)))
              clear hb3
              go_wp2
              go_roundg g2
              case measure => omega
              case rel => exact ⟨1 + 1, by have := HJ.out; omega, rfl, rfl, HQ2.out, HB3.out⟩
            | false =>
              rw [hq] at hh
              have HH := Lib.hid hh
              have HR := Lib.hid (HN.out (HNot.out 1 (by omega) hq))
              clear hq hh
              go_wp2_with fail
              refine (HH.out _).mono ?_
              rintro e w3 ⟨rfl, hb3⟩
              have HB3 := Lib.hid ((HBX.out.alloc HBX.out.size _).trans (hb3.mono (by have := HBX.out.size; simp; omega)))
              clear hb3
              go_wp2
              (try rw [Exit.noGoto_ret])
              go_ret
              exact ⟨by rw [HR.out]; rfl, HB3.out⟩
          · have hx : ∀ W, (Instr.index 66 (.agg #[.int .i64 f.seq, .int .i64 1, .int .i64 1099511627776, .int .i64 f.inc, .int .i64 0, .int .i64 1048576, .int .i64 f.of, .int .i64 1, .int .i64 2, .int .i64 f.part, .int .i64 0, .int .i64 (less1 f.of), .int .i64 f.load.length, .int .i64 (fewest f), .int .i64 45]) (.int .i64 2)).run Tryd.prog W = .ok (.agg #[.int .i64 f.of, .int .i64 1, .int .i64 2]) W := fun W => by
              have h := run_index_agg (P := Tryd.prog) W 66 53 5 3 2 #[.int .i64 f.seq, .int .i64 1, .int .i64 1099511627776, .int .i64 f.inc, .int .i64 0, .int .i64 1048576, .int .i64 f.of, .int .i64 1, .int .i64 2, .int .i64 f.part, .int .i64 0, .int .i64 (less1 f.of), .int .i64 f.load.length, .int .i64 (fewest f), .int .i64 45] Tryd.underlying66 _ Tryd.underlying53 rfl Tryd.info53 (by omega)
              simpa using h
            have hh := fun W => holds_any f.of 1 2 W
            rw [show (decide (1 ≤ f.of) && decide (f.of ≤ 2)) = bOK f 2 from rfl] at hh
            cases hq : bOK f 2 with
            | true =>
              rw [hq] at hh
              have HH := Lib.hid hh
              have HQ2 := Lib.hid (show ∀ q, q < 2 + 1 → bOK f q = true from fun q h => by
                by_cases h' : q = 2
                · rw [h']; exact hq
                · exact HQ.out q (by omega))
              clear hq hh
              go_wp2_with fail
              refine (HH.out _).mono ?_
              rintro e w3 ⟨rfl, hb3⟩
              have HB3 := Lib.hid ((HBX.out.alloc HBX.out.size _).trans (hb3.mono (by have := HBX.out.size; simp; omega)))
              clear hb3
              go_wp2
              go_roundg g2
              case measure => omega
              case rel => exact ⟨2 + 1, by have := HJ.out; omega, rfl, rfl, HQ2.out, HB3.out⟩
            | false =>
              rw [hq] at hh
              have HH := Lib.hid hh
              have HR := Lib.hid (HN.out (HNot.out 2 (by omega) hq))
              clear hq hh
              go_wp2_with fail
              refine (HH.out _).mono ?_
              rintro e w3 ⟨rfl, hb3⟩
              have HB3 := Lib.hid ((HBX.out.alloc HBX.out.size _).trans (hb3.mono (by have := HBX.out.size; simp; omega)))
              clear hb3
              go_wp2
              (try rw [Exit.noGoto_ret])
              go_ret
              exact ⟨by rw [HR.out]; rfl, HB3.out⟩
          · have hx : ∀ W, (Instr.index 66 (.agg #[.int .i64 f.seq, .int .i64 1, .int .i64 1099511627776, .int .i64 f.inc, .int .i64 0, .int .i64 1048576, .int .i64 f.of, .int .i64 1, .int .i64 2, .int .i64 f.part, .int .i64 0, .int .i64 (less1 f.of), .int .i64 f.load.length, .int .i64 (fewest f), .int .i64 45]) (.int .i64 3)).run Tryd.prog W = .ok (.agg #[.int .i64 f.part, .int .i64 0, .int .i64 (less1 f.of)]) W := fun W => by
              have h := run_index_agg (P := Tryd.prog) W 66 53 5 3 3 #[.int .i64 f.seq, .int .i64 1, .int .i64 1099511627776, .int .i64 f.inc, .int .i64 0, .int .i64 1048576, .int .i64 f.of, .int .i64 1, .int .i64 2, .int .i64 f.part, .int .i64 0, .int .i64 (less1 f.of), .int .i64 f.load.length, .int .i64 (fewest f), .int .i64 45] Tryd.underlying66 _ Tryd.underlying53 rfl Tryd.info53 (by omega)
              simpa using h
            have hh := fun W => holds_any f.part 0 (less1 f.of) W
            rw [show (decide (0 ≤ f.part) && decide (f.part ≤ (less1 f.of))) = bOK f 3 from rfl] at hh
            cases hq : bOK f 3 with
            | true =>
              rw [hq] at hh
              have HH := Lib.hid hh
              have HQ2 := Lib.hid (show ∀ q, q < 3 + 1 → bOK f q = true from fun q h => by
                by_cases h' : q = 3
                · rw [h']; exact hq
                · exact HQ.out q (by omega))
              clear hq hh
              go_wp2_with fail
              refine (HH.out _).mono ?_
              rintro e w3 ⟨rfl, hb3⟩
              have HB3 := Lib.hid ((HBX.out.alloc HBX.out.size _).trans (hb3.mono (by have := HBX.out.size; simp; omega)))
              clear hb3
              go_wp2
              go_roundg g2
              case measure => omega
              case rel => exact ⟨3 + 1, by have := HJ.out; omega, rfl, rfl, HQ2.out, HB3.out⟩
            | false =>
              rw [hq] at hh
              have HH := Lib.hid hh
              have HR := Lib.hid (HN.out (HNot.out 3 (by omega) hq))
              clear hq hh
              go_wp2_with fail
              refine (HH.out _).mono ?_
              rintro e w3 ⟨rfl, hb3⟩
              have HB3 := Lib.hid ((HBX.out.alloc HBX.out.size _).trans (hb3.mono (by have := HBX.out.size; simp; omega)))
              clear hb3
              go_wp2
              (try rw [Exit.noGoto_ret])
              go_ret
              exact ⟨by rw [HR.out]; rfl, HB3.out⟩
          · have hx : ∀ W, (Instr.index 66 (.agg #[.int .i64 f.seq, .int .i64 1, .int .i64 1099511627776, .int .i64 f.inc, .int .i64 0, .int .i64 1048576, .int .i64 f.of, .int .i64 1, .int .i64 2, .int .i64 f.part, .int .i64 0, .int .i64 (less1 f.of), .int .i64 f.load.length, .int .i64 (fewest f), .int .i64 45]) (.int .i64 4)).run Tryd.prog W = .ok (.agg #[.int .i64 (f.load.length:Int), .int .i64 (fewest f), .int .i64 45]) W := fun W => by
              have h := run_index_agg (P := Tryd.prog) W 66 53 5 3 4 #[.int .i64 f.seq, .int .i64 1, .int .i64 1099511627776, .int .i64 f.inc, .int .i64 0, .int .i64 1048576, .int .i64 f.of, .int .i64 1, .int .i64 2, .int .i64 f.part, .int .i64 0, .int .i64 (less1 f.of), .int .i64 f.load.length, .int .i64 (fewest f), .int .i64 45] Tryd.underlying66 _ Tryd.underlying53 rfl Tryd.info53 (by omega)
              simpa using h
            have hh := fun W => holds_any (f.load.length:Int) (fewest f) 45 W
            rw [show (decide ((fewest f) ≤ (f.load.length:Int)) && decide ((f.load.length:Int) ≤ 45)) = bOK f 4 from rfl] at hh
            cases hq : bOK f 4 with
            | true =>
              rw [hq] at hh
              have HH := Lib.hid hh
              have HQ2 := Lib.hid (show ∀ q, q < 4 + 1 → bOK f q = true from fun q h => by
                by_cases h' : q = 4
                · rw [h']; exact hq
                · exact HQ.out q (by omega))
              clear hq hh
              go_wp2_with fail
              refine (HH.out _).mono ?_
              rintro e w3 ⟨rfl, hb3⟩
              have HB3 := Lib.hid ((HBX.out.alloc HBX.out.size _).trans (hb3.mono (by have := HBX.out.size; simp; omega)))
              clear hb3
              go_wp2
              go_roundg g2
              case measure => omega
              case rel => exact ⟨4 + 1, by have := HJ.out; omega, rfl, rfl, HQ2.out, HB3.out⟩
            | false =>
              rw [hq] at hh
              have HH := Lib.hid hh
              have HR := Lib.hid (HN.out (HNot.out 4 (by omega) hq))
              clear hq hh
              go_wp2_with fail
              refine (HH.out _).mono ?_
              rintro e w3 ⟨rfl, hb3⟩
              have HB3 := Lib.hid ((HBX.out.alloc HBX.out.size _).trans (hb3.mono (by have := HBX.out.size; simp; omega)))
              clear hb3
              go_wp2
              (try rw [Exit.noGoto_ret])
              go_ret
              exact ⟨by rw [HR.out]; rfl, HB3.out⟩
        | zero =>
          obtain rfl : j = 5 := by have := HJ.out; omega
          have HM2 := Lib.hid (HM.out (HMay.out HQ.out))
          go_wp2
          go_roundg g
          case measure => omega
          case rel => exact ⟨k + 1, by have := HK.out; omega, by go_num, rfl, HM2.out, HBX.out⟩
    | zero =>
      obtain rfl : k = fs.length := by have := HK.out; omega
      have hr := HL.out
      rw [List.take_length] at hr
      have HR := Lib.hid hr
      clear hr HL
      go_wp2
      (try rw [Exit.noGoto_ret])
      go_ret
      exact ⟨by rw [HR.out]; rfl, HB.out⟩

set_option maxHeartbeats 1000000 in
theorem may_any (f : Fr) (A : Option Addr) (c : Nat) (w : World) (h : FrV w w.heap.size (frv A c f) f) :
    Calls Tryd.prog 12 #[.agg (frv A c f).toArray] w fun e w' => e = .returned (.bool (mayB f)) ∧ Below w.heap.size w w' := by
  have g1 := heap_alloc2_new w (.cells (frv A c f).toArray 25) (.cells (frv A c f).toArray 25)
  have hb := ((Below.refl w.heap.size w).alloc (Nat.le_refl _) (.cells (frv A c f).toArray 25)).alloc (by simp) (.cells (frv A c f).toArray 25)
  have hz : ((w.alloc (.cells (frv A c f).toArray 25)).alloc (.cells (frv A c f).toArray 25)).heap.size = w.heap.size + 2 := by simp
  have hH := allMay_any [f] (some ⟨w.heap.size + 1, 0, none⟩) 1 _ (Frs.one g1 (by omega) ((h.below hb (Nat.le_refl _)).mono (by omega))) (by simp)
  have H := Lib.hid hH
  have HB := Lib.hid hb
  have HZ := Lib.hid hz
  clear g1 hb hz h hH
  simp only [List.all_cons, List.all_nil, Bool.and_true, List.length_singleton] at H
  unfold frv at *
  go_enter Tryd.func12, Tryd.ntmps12
  go_wp2_with fail
  refine H.out.mono ?_
  rintro e w2 ⟨rfl, hb2⟩
  have HB2 := Lib.hid (HB.out.trans (hb2.mono (by have := HZ.out; omega)))
  clear hb2
  go_wp2
  go_ret
  exact ⟨rfl, HB2.out⟩
end Go.Proofs.YtehkohnpfbdngaaDoor
