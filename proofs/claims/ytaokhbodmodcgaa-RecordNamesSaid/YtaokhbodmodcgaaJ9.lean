/-
  Texts Dsame, Dmay, Dparse, Dpread, RefBytes, RefSect, joined.
-/
import Derived.Test.YtaokhbodmodcgaaJ8
set_option linter.all false
section
/-
  The developers' answer of which records are the same.
-/
namespace Go.Proofs.Ytaokhbodmodcgaa
open Go.RowKit
set_option maxRecDepth 100000

set_option maxHeartbeats 8000000 in
theorem same_dev (r s : Rc) (A B : Option Addr) (cc dd : Nat) (w : World) (P Q : Nat → Prop) (hl : Wrs w P A r.writes) (hm : Wrs w Q B s.writes) (hfl : WrFine r.writes) (hfm : WrFine s.writes) (hll : r.writes.length ≤ 1000000) (hml : s.writes.length ≤ 1000000) :
    Calls Try.prog 20 #[.agg (recv A cc r).toArray, .agg (recv B dd s).toArray] w fun e w' => e = .returned (.bool (decide (r = s))) ∧ Below w.heap.size w w' := by
  obtain ⟨k, ⟨a, b, c⟩, y, l, g, t, sh, st, tt, n⟩ := r
  obtain ⟨k', ⟨a', b', c'⟩, y', l', g', t', sh', st', tt', n'⟩ := s
  simp only at hl hm hfl hfm hll hml
  unfold recv
  simp only
  obtain ⟨w1, hw1⟩ : ∃ w1, w1 = (w.alloc (.cells #[.int .i8 k, .int .i64 a, .int .i64 b, .int .i64 c, .bool y, .slice A l.length cc, .int .i64 g, .int .i64 t, .int .i64 sh, .int .i64 st, .int .i64 tt, .int .i64 n] 29)).alloc (.cells #[.int .i8 k', .int .i64 a', .int .i64 b', .int .i64 c', .bool y', .slice B l'.length dd, .int .i64 g', .int .i64 t', .int .i64 sh', .int .i64 st', .int .i64 tt', .int .i64 n'] 29) := ⟨_, rfl⟩
  have hb1 : Below w.heap.size w w1 := by rw [hw1]; exact ((Below.refl _ w).alloc (Nat.le_refl _) _).alloc (by simp) _
  have g0 : w1.heap[w.heap.size]? = some (.cells #[.int .i8 k, .int .i64 a, .int .i64 b, .int .i64 c, .bool y, .slice A l.length cc, .int .i64 g, .int .i64 t, .int .i64 sh, .int .i64 st, .int .i64 tt, .int .i64 n] 29 (0, 0)) := by rw [hw1]; exact (Below.heap_alloc _ _ _ (by simp)).trans (heap_alloc_new w _)
  have g1 : w1.heap[w.heap.size + 1]? = some (.cells #[.int .i8 k', .int .i64 a', .int .i64 b', .int .i64 c', .bool y', .slice B l'.length dd, .int .i64 g', .int .i64 t', .int .i64 sh', .int .i64 st', .int .i64 tt', .int .i64 n'] 29 (0, 0)) := by
    rw [hw1]
    have h := heap_alloc_new (w.alloc (.cells #[.int .i8 k, .int .i64 a, .int .i64 b, .int .i64 c, .bool y, .slice A l.length cc, .int .i64 g, .int .i64 t, .int .i64 sh, .int .i64 st, .int .i64 tt, .int .i64 n] 29)) (.cells #[.int .i8 k', .int .i64 a', .int .i64 b', .int .i64 c', .bool y', .slice B l'.length dd, .int .i64 g', .int .i64 t', .int .i64 sh', .int .i64 st', .int .i64 tt', .int .i64 n'] 29)
    rwa [World.size_alloc] at h
  have HS := Lib.hid (equal_dev l l' A B cc dd w1 P Q (hl.below hb1) (hm.below hb1) hfl hfm hll hml)
  have HB := Lib.hid hb1
  have HG := Lib.hid (show ∀ X, Below w1.heap.size w1 X → X.heap[w.heap.size]? = some (.cells #[.int .i8 k, .int .i64 a, .int .i64 b, .int .i64 c, .bool y, .slice A l.length cc, .int .i64 g, .int .i64 t, .int .i64 sh, .int .i64 st, .int .i64 tt, .int .i64 n] 29 (0, 0)) ∧ X.heap[w.heap.size + 1]? = some (.cells #[.int .i8 k', .int .i64 a', .int .i64 b', .int .i64 c', .bool y', .slice B l'.length dd, .int .i64 g', .int .i64 t', .int .i64 sh', .int .i64 st', .int .i64 tt', .int .i64 n'] 29 (0, 0)) from fun X hX => ⟨(hX.block _ (Array.getElem?_eq_some_iff.1 g0).1).trans g0, (hX.block _ (Array.getElem?_eq_some_iff.1 g1).1).trans g1⟩)
  have c0 : w1.cell? ⟨w.heap.size, 0, none⟩ = some (.int .i8 k) := by rw [cell_of_row w1 _ 0 _ _ _ g0]; rfl
  have c1 : w1.cell? ⟨w.heap.size, 1, none⟩ = some (.int .i64 a) := by rw [cell_of_row w1 _ 1 _ _ _ g0]; rfl
  have c2 : w1.cell? ⟨w.heap.size, 2, none⟩ = some (.int .i64 b) := by rw [cell_of_row w1 _ 2 _ _ _ g0]; rfl
  have c3 : w1.cell? ⟨w.heap.size, 3, none⟩ = some (.int .i64 c) := by rw [cell_of_row w1 _ 3 _ _ _ g0]; rfl
  have c4 : w1.cell? ⟨w.heap.size, 4, none⟩ = some (.bool y) := by rw [cell_of_row w1 _ 4 _ _ _ g0]; rfl
  have c5 : w1.cell? ⟨w.heap.size, 5, none⟩ = some (.slice A l.length cc) := by rw [cell_of_row w1 _ 5 _ _ _ g0]; rfl
  have c6 : w1.cell? ⟨w.heap.size, 6, none⟩ = some (.int .i64 g) := by rw [cell_of_row w1 _ 6 _ _ _ g0]; rfl
  have c7 : w1.cell? ⟨w.heap.size, 7, none⟩ = some (.int .i64 t) := by rw [cell_of_row w1 _ 7 _ _ _ g0]; rfl
  have c8 : w1.cell? ⟨w.heap.size, 8, none⟩ = some (.int .i64 sh) := by rw [cell_of_row w1 _ 8 _ _ _ g0]; rfl
  have c9 : w1.cell? ⟨w.heap.size, 9, none⟩ = some (.int .i64 st) := by rw [cell_of_row w1 _ 9 _ _ _ g0]; rfl
  have c10 : w1.cell? ⟨w.heap.size, 10, none⟩ = some (.int .i64 tt) := by rw [cell_of_row w1 _ 10 _ _ _ g0]; rfl
  have c11 : w1.cell? ⟨w.heap.size, 11, none⟩ = some (.int .i64 n) := by rw [cell_of_row w1 _ 11 _ _ _ g0]; rfl
  have d0 : w1.cell? ⟨w.heap.size + 1, 0, none⟩ = some (.int .i8 k') := by rw [cell_of_row w1 _ 0 _ _ _ g1]; rfl
  have d1 : w1.cell? ⟨w.heap.size + 1, 1, none⟩ = some (.int .i64 a') := by rw [cell_of_row w1 _ 1 _ _ _ g1]; rfl
  have d2 : w1.cell? ⟨w.heap.size + 1, 2, none⟩ = some (.int .i64 b') := by rw [cell_of_row w1 _ 2 _ _ _ g1]; rfl
  have d3 : w1.cell? ⟨w.heap.size + 1, 3, none⟩ = some (.int .i64 c') := by rw [cell_of_row w1 _ 3 _ _ _ g1]; rfl
  have d4 : w1.cell? ⟨w.heap.size + 1, 4, none⟩ = some (.bool y') := by rw [cell_of_row w1 _ 4 _ _ _ g1]; rfl
  have d5 : w1.cell? ⟨w.heap.size + 1, 5, none⟩ = some (.slice B l'.length dd) := by rw [cell_of_row w1 _ 5 _ _ _ g1]; rfl
  have d6 : w1.cell? ⟨w.heap.size + 1, 6, none⟩ = some (.int .i64 g') := by rw [cell_of_row w1 _ 6 _ _ _ g1]; rfl
  have d7 : w1.cell? ⟨w.heap.size + 1, 7, none⟩ = some (.int .i64 t') := by rw [cell_of_row w1 _ 7 _ _ _ g1]; rfl
  have d8 : w1.cell? ⟨w.heap.size + 1, 8, none⟩ = some (.int .i64 sh') := by rw [cell_of_row w1 _ 8 _ _ _ g1]; rfl
  have d9 : w1.cell? ⟨w.heap.size + 1, 9, none⟩ = some (.int .i64 st') := by rw [cell_of_row w1 _ 9 _ _ _ g1]; rfl
  have d10 : w1.cell? ⟨w.heap.size + 1, 10, none⟩ = some (.int .i64 tt') := by rw [cell_of_row w1 _ 10 _ _ _ g1]; rfl
  have d11 : w1.cell? ⟨w.heap.size + 1, 11, none⟩ = some (.int .i64 n') := by rw [cell_of_row w1 _ 11 _ _ _ g1]; rfl
  have HW1 := Lib.hid hw1
  clear hb1 g0 g1 hw1 hl hm hfl hfm hll hml
  obtain ⟨E, hE⟩ : ∃ E, E = decide ((⟨k, ⟨a, b, c⟩, y, l, g, t, sh, st, tt, n⟩ : Rc) = ⟨k', ⟨a', b', c'⟩, y', l', g', t', sh', st', tt', n'⟩) := ⟨_, rfl⟩
  rw [← hE]
  simp only [Rc.mk.injEq, Nm.mk.injEq] at hE
  by_cases p0 : k = k'
  · skip
    have q0 : (k == k') = true := by simp [p0]
    by_cases p1 : a = a' ∧ b = b' ∧ c = c'
    · skip
      have q1 : ∀ W : World, (binOp .eql 24 (.agg #[.int .i64 a, .int .i64 b, .int .i64 c]) (.agg #[.int .i64 a', .int .i64 b', .int .i64 c'])).run Try.prog W = .ok (.bool true) W := fun W => by rw [name_eql, decide_eq_true p1]
      by_cases p2 : y = y'
      · skip
        have q2 : (y == y') = true := by simp [p2]
        by_cases p3 : l = l'
        · skip
          have HS2 := HS
          rw [decide_eq_true p3] at HS2
          by_cases p4 : g = g'
          · skip
            have q4 : (g == g') = true := by simp [p4]
            by_cases p5 : t = t'
            · skip
              have q5 : (t == t') = true := by simp [p5]
              by_cases p6 : sh = sh'
              · skip
                have q6 : (sh == sh') = true := by simp [p6]
                by_cases p7 : st = st' ∧ tt = tt'
                · skip
                  have q7 : ∀ W : World, (binOp .eql 27 (.agg #[.int .i64 st, .int .i64 tt]) (.agg #[.int .i64 st', .int .i64 tt'])).run Try.prog W = .ok (.bool true) W := fun W => by rw [change_eql, decide_eq_true p7]
                  by_cases p8 : n = n'
                  · skip
                    have q8 : (n == n') = true := by simp [p8]
                    have HE := Lib.hid (show E = true by rw [hE]; exact decide_eq_true ⟨p0, p1, p2, p3, p4, p5, p6, p7.1, p7.2, p8⟩)
                    clear hE p0 p1 p2 p3 p4 p5 p6 p7 p8
                    go_enter Try.func20, Try.ntmps20
                    go_wp2_with (rw [← HW1.out])
                    refine HS2.out.mono ?_
                    rintro e w2 ⟨rfl, hb2⟩
                    obtain ⟨g0, g1⟩ := HG.out w2 hb2
                    have c0 : w2.cell? ⟨w.heap.size, 0, none⟩ = some (.int .i8 k) := by rw [cell_of_row w2 _ 0 _ _ _ g0]; rfl
                    have c1 : w2.cell? ⟨w.heap.size, 1, none⟩ = some (.int .i64 a) := by rw [cell_of_row w2 _ 1 _ _ _ g0]; rfl
                    have c2 : w2.cell? ⟨w.heap.size, 2, none⟩ = some (.int .i64 b) := by rw [cell_of_row w2 _ 2 _ _ _ g0]; rfl
                    have c3 : w2.cell? ⟨w.heap.size, 3, none⟩ = some (.int .i64 c) := by rw [cell_of_row w2 _ 3 _ _ _ g0]; rfl
                    have c4 : w2.cell? ⟨w.heap.size, 4, none⟩ = some (.bool y) := by rw [cell_of_row w2 _ 4 _ _ _ g0]; rfl
                    have c5 : w2.cell? ⟨w.heap.size, 5, none⟩ = some (.slice A l.length cc) := by rw [cell_of_row w2 _ 5 _ _ _ g0]; rfl
                    have c6 : w2.cell? ⟨w.heap.size, 6, none⟩ = some (.int .i64 g) := by rw [cell_of_row w2 _ 6 _ _ _ g0]; rfl
                    have c7 : w2.cell? ⟨w.heap.size, 7, none⟩ = some (.int .i64 t) := by rw [cell_of_row w2 _ 7 _ _ _ g0]; rfl
                    have c8 : w2.cell? ⟨w.heap.size, 8, none⟩ = some (.int .i64 sh) := by rw [cell_of_row w2 _ 8 _ _ _ g0]; rfl
                    have c9 : w2.cell? ⟨w.heap.size, 9, none⟩ = some (.int .i64 st) := by rw [cell_of_row w2 _ 9 _ _ _ g0]; rfl
                    have c10 : w2.cell? ⟨w.heap.size, 10, none⟩ = some (.int .i64 tt) := by rw [cell_of_row w2 _ 10 _ _ _ g0]; rfl
                    have c11 : w2.cell? ⟨w.heap.size, 11, none⟩ = some (.int .i64 n) := by rw [cell_of_row w2 _ 11 _ _ _ g0]; rfl
                    have d0 : w2.cell? ⟨w.heap.size + 1, 0, none⟩ = some (.int .i8 k') := by rw [cell_of_row w2 _ 0 _ _ _ g1]; rfl
                    have d1 : w2.cell? ⟨w.heap.size + 1, 1, none⟩ = some (.int .i64 a') := by rw [cell_of_row w2 _ 1 _ _ _ g1]; rfl
                    have d2 : w2.cell? ⟨w.heap.size + 1, 2, none⟩ = some (.int .i64 b') := by rw [cell_of_row w2 _ 2 _ _ _ g1]; rfl
                    have d3 : w2.cell? ⟨w.heap.size + 1, 3, none⟩ = some (.int .i64 c') := by rw [cell_of_row w2 _ 3 _ _ _ g1]; rfl
                    have d4 : w2.cell? ⟨w.heap.size + 1, 4, none⟩ = some (.bool y') := by rw [cell_of_row w2 _ 4 _ _ _ g1]; rfl
                    have d5 : w2.cell? ⟨w.heap.size + 1, 5, none⟩ = some (.slice B l'.length dd) := by rw [cell_of_row w2 _ 5 _ _ _ g1]; rfl
                    have d6 : w2.cell? ⟨w.heap.size + 1, 6, none⟩ = some (.int .i64 g') := by rw [cell_of_row w2 _ 6 _ _ _ g1]; rfl
                    have d7 : w2.cell? ⟨w.heap.size + 1, 7, none⟩ = some (.int .i64 t') := by rw [cell_of_row w2 _ 7 _ _ _ g1]; rfl
                    have d8 : w2.cell? ⟨w.heap.size + 1, 8, none⟩ = some (.int .i64 sh') := by rw [cell_of_row w2 _ 8 _ _ _ g1]; rfl
                    have d9 : w2.cell? ⟨w.heap.size + 1, 9, none⟩ = some (.int .i64 st') := by rw [cell_of_row w2 _ 9 _ _ _ g1]; rfl
                    have d10 : w2.cell? ⟨w.heap.size + 1, 10, none⟩ = some (.int .i64 tt') := by rw [cell_of_row w2 _ 10 _ _ _ g1]; rfl
                    have d11 : w2.cell? ⟨w.heap.size + 1, 11, none⟩ = some (.int .i64 n') := by rw [cell_of_row w2 _ 11 _ _ _ g1]; rfl
                    have HB2 := Lib.hid (HB.out.trans (hb2.mono HB.out.size))
                    clear hb2 g0 g1
                    go_wp2
                    go_ret
                    exact ⟨by rw [HE.out]; rfl, HB2.out⟩
                  · skip
                    have q8 : (n == n') = false := by simp [p8]
                    have HE := Lib.hid (show E = false by rw [hE]; exact decide_eq_false fun e => p8 e.2.2.2.2.2.2.2.2.2)
                    clear hE p0 p1 p2 p3 p4 p5 p6 p7 p8
                    go_enter Try.func20, Try.ntmps20
                    go_wp2_with (rw [← HW1.out])
                    refine HS2.out.mono ?_
                    rintro e w2 ⟨rfl, hb2⟩
                    obtain ⟨g0, g1⟩ := HG.out w2 hb2
                    have c0 : w2.cell? ⟨w.heap.size, 0, none⟩ = some (.int .i8 k) := by rw [cell_of_row w2 _ 0 _ _ _ g0]; rfl
                    have c1 : w2.cell? ⟨w.heap.size, 1, none⟩ = some (.int .i64 a) := by rw [cell_of_row w2 _ 1 _ _ _ g0]; rfl
                    have c2 : w2.cell? ⟨w.heap.size, 2, none⟩ = some (.int .i64 b) := by rw [cell_of_row w2 _ 2 _ _ _ g0]; rfl
                    have c3 : w2.cell? ⟨w.heap.size, 3, none⟩ = some (.int .i64 c) := by rw [cell_of_row w2 _ 3 _ _ _ g0]; rfl
                    have c4 : w2.cell? ⟨w.heap.size, 4, none⟩ = some (.bool y) := by rw [cell_of_row w2 _ 4 _ _ _ g0]; rfl
                    have c5 : w2.cell? ⟨w.heap.size, 5, none⟩ = some (.slice A l.length cc) := by rw [cell_of_row w2 _ 5 _ _ _ g0]; rfl
                    have c6 : w2.cell? ⟨w.heap.size, 6, none⟩ = some (.int .i64 g) := by rw [cell_of_row w2 _ 6 _ _ _ g0]; rfl
                    have c7 : w2.cell? ⟨w.heap.size, 7, none⟩ = some (.int .i64 t) := by rw [cell_of_row w2 _ 7 _ _ _ g0]; rfl
                    have c8 : w2.cell? ⟨w.heap.size, 8, none⟩ = some (.int .i64 sh) := by rw [cell_of_row w2 _ 8 _ _ _ g0]; rfl
                    have c9 : w2.cell? ⟨w.heap.size, 9, none⟩ = some (.int .i64 st) := by rw [cell_of_row w2 _ 9 _ _ _ g0]; rfl
                    have c10 : w2.cell? ⟨w.heap.size, 10, none⟩ = some (.int .i64 tt) := by rw [cell_of_row w2 _ 10 _ _ _ g0]; rfl
                    have c11 : w2.cell? ⟨w.heap.size, 11, none⟩ = some (.int .i64 n) := by rw [cell_of_row w2 _ 11 _ _ _ g0]; rfl
                    have d0 : w2.cell? ⟨w.heap.size + 1, 0, none⟩ = some (.int .i8 k') := by rw [cell_of_row w2 _ 0 _ _ _ g1]; rfl
                    have d1 : w2.cell? ⟨w.heap.size + 1, 1, none⟩ = some (.int .i64 a') := by rw [cell_of_row w2 _ 1 _ _ _ g1]; rfl
                    have d2 : w2.cell? ⟨w.heap.size + 1, 2, none⟩ = some (.int .i64 b') := by rw [cell_of_row w2 _ 2 _ _ _ g1]; rfl
                    have d3 : w2.cell? ⟨w.heap.size + 1, 3, none⟩ = some (.int .i64 c') := by rw [cell_of_row w2 _ 3 _ _ _ g1]; rfl
                    have d4 : w2.cell? ⟨w.heap.size + 1, 4, none⟩ = some (.bool y') := by rw [cell_of_row w2 _ 4 _ _ _ g1]; rfl
                    have d5 : w2.cell? ⟨w.heap.size + 1, 5, none⟩ = some (.slice B l'.length dd) := by rw [cell_of_row w2 _ 5 _ _ _ g1]; rfl
                    have d6 : w2.cell? ⟨w.heap.size + 1, 6, none⟩ = some (.int .i64 g') := by rw [cell_of_row w2 _ 6 _ _ _ g1]; rfl
                    have d7 : w2.cell? ⟨w.heap.size + 1, 7, none⟩ = some (.int .i64 t') := by rw [cell_of_row w2 _ 7 _ _ _ g1]; rfl
                    have d8 : w2.cell? ⟨w.heap.size + 1, 8, none⟩ = some (.int .i64 sh') := by rw [cell_of_row w2 _ 8 _ _ _ g1]; rfl
                    have d9 : w2.cell? ⟨w.heap.size + 1, 9, none⟩ = some (.int .i64 st') := by rw [cell_of_row w2 _ 9 _ _ _ g1]; rfl
                    have d10 : w2.cell? ⟨w.heap.size + 1, 10, none⟩ = some (.int .i64 tt') := by rw [cell_of_row w2 _ 10 _ _ _ g1]; rfl
                    have d11 : w2.cell? ⟨w.heap.size + 1, 11, none⟩ = some (.int .i64 n') := by rw [cell_of_row w2 _ 11 _ _ _ g1]; rfl
                    have HB2 := Lib.hid (HB.out.trans (hb2.mono HB.out.size))
                    clear hb2 g0 g1
                    go_wp2
                    go_ret
                    exact ⟨by rw [HE.out]; rfl, HB2.out⟩
                · skip
                  have q7 : ∀ W : World, (binOp .eql 27 (.agg #[.int .i64 st, .int .i64 tt]) (.agg #[.int .i64 st', .int .i64 tt'])).run Try.prog W = .ok (.bool false) W := fun W => by rw [change_eql, decide_eq_false p7]
                  have HE := Lib.hid (show E = false by rw [hE]; exact decide_eq_false fun e => p7 ⟨e.2.2.2.2.2.2.2.1, e.2.2.2.2.2.2.2.2.1⟩)
                  clear hE p0 p1 p2 p3 p4 p5 p6 p7
                  go_enter Try.func20, Try.ntmps20
                  go_wp2_with (rw [← HW1.out])
                  refine HS2.out.mono ?_
                  rintro e w2 ⟨rfl, hb2⟩
                  obtain ⟨g0, g1⟩ := HG.out w2 hb2
                  have c0 : w2.cell? ⟨w.heap.size, 0, none⟩ = some (.int .i8 k) := by rw [cell_of_row w2 _ 0 _ _ _ g0]; rfl
                  have c1 : w2.cell? ⟨w.heap.size, 1, none⟩ = some (.int .i64 a) := by rw [cell_of_row w2 _ 1 _ _ _ g0]; rfl
                  have c2 : w2.cell? ⟨w.heap.size, 2, none⟩ = some (.int .i64 b) := by rw [cell_of_row w2 _ 2 _ _ _ g0]; rfl
                  have c3 : w2.cell? ⟨w.heap.size, 3, none⟩ = some (.int .i64 c) := by rw [cell_of_row w2 _ 3 _ _ _ g0]; rfl
                  have c4 : w2.cell? ⟨w.heap.size, 4, none⟩ = some (.bool y) := by rw [cell_of_row w2 _ 4 _ _ _ g0]; rfl
                  have c5 : w2.cell? ⟨w.heap.size, 5, none⟩ = some (.slice A l.length cc) := by rw [cell_of_row w2 _ 5 _ _ _ g0]; rfl
                  have c6 : w2.cell? ⟨w.heap.size, 6, none⟩ = some (.int .i64 g) := by rw [cell_of_row w2 _ 6 _ _ _ g0]; rfl
                  have c7 : w2.cell? ⟨w.heap.size, 7, none⟩ = some (.int .i64 t) := by rw [cell_of_row w2 _ 7 _ _ _ g0]; rfl
                  have c8 : w2.cell? ⟨w.heap.size, 8, none⟩ = some (.int .i64 sh) := by rw [cell_of_row w2 _ 8 _ _ _ g0]; rfl
                  have c9 : w2.cell? ⟨w.heap.size, 9, none⟩ = some (.int .i64 st) := by rw [cell_of_row w2 _ 9 _ _ _ g0]; rfl
                  have c10 : w2.cell? ⟨w.heap.size, 10, none⟩ = some (.int .i64 tt) := by rw [cell_of_row w2 _ 10 _ _ _ g0]; rfl
                  have c11 : w2.cell? ⟨w.heap.size, 11, none⟩ = some (.int .i64 n) := by rw [cell_of_row w2 _ 11 _ _ _ g0]; rfl
                  have d0 : w2.cell? ⟨w.heap.size + 1, 0, none⟩ = some (.int .i8 k') := by rw [cell_of_row w2 _ 0 _ _ _ g1]; rfl
                  have d1 : w2.cell? ⟨w.heap.size + 1, 1, none⟩ = some (.int .i64 a') := by rw [cell_of_row w2 _ 1 _ _ _ g1]; rfl
                  have d2 : w2.cell? ⟨w.heap.size + 1, 2, none⟩ = some (.int .i64 b') := by rw [cell_of_row w2 _ 2 _ _ _ g1]; rfl
                  have d3 : w2.cell? ⟨w.heap.size + 1, 3, none⟩ = some (.int .i64 c') := by rw [cell_of_row w2 _ 3 _ _ _ g1]; rfl
                  have d4 : w2.cell? ⟨w.heap.size + 1, 4, none⟩ = some (.bool y') := by rw [cell_of_row w2 _ 4 _ _ _ g1]; rfl
                  have d5 : w2.cell? ⟨w.heap.size + 1, 5, none⟩ = some (.slice B l'.length dd) := by rw [cell_of_row w2 _ 5 _ _ _ g1]; rfl
                  have d6 : w2.cell? ⟨w.heap.size + 1, 6, none⟩ = some (.int .i64 g') := by rw [cell_of_row w2 _ 6 _ _ _ g1]; rfl
                  have d7 : w2.cell? ⟨w.heap.size + 1, 7, none⟩ = some (.int .i64 t') := by rw [cell_of_row w2 _ 7 _ _ _ g1]; rfl
                  have d8 : w2.cell? ⟨w.heap.size + 1, 8, none⟩ = some (.int .i64 sh') := by rw [cell_of_row w2 _ 8 _ _ _ g1]; rfl
                  have d9 : w2.cell? ⟨w.heap.size + 1, 9, none⟩ = some (.int .i64 st') := by rw [cell_of_row w2 _ 9 _ _ _ g1]; rfl
                  have d10 : w2.cell? ⟨w.heap.size + 1, 10, none⟩ = some (.int .i64 tt') := by rw [cell_of_row w2 _ 10 _ _ _ g1]; rfl
                  have d11 : w2.cell? ⟨w.heap.size + 1, 11, none⟩ = some (.int .i64 n') := by rw [cell_of_row w2 _ 11 _ _ _ g1]; rfl
                  have HB2 := Lib.hid (HB.out.trans (hb2.mono HB.out.size))
                  clear hb2 g0 g1
                  go_wp2
                  go_ret
                  exact ⟨by rw [HE.out]; rfl, HB2.out⟩
              · skip
                have q6 : (sh == sh') = false := by simp [p6]
                have HE := Lib.hid (show E = false by rw [hE]; exact decide_eq_false fun e => p6 e.2.2.2.2.2.2.1)
                clear hE p0 p1 p2 p3 p4 p5 p6
                go_enter Try.func20, Try.ntmps20
                go_wp2_with (rw [← HW1.out])
                refine HS2.out.mono ?_
                rintro e w2 ⟨rfl, hb2⟩
                obtain ⟨g0, g1⟩ := HG.out w2 hb2
                have c0 : w2.cell? ⟨w.heap.size, 0, none⟩ = some (.int .i8 k) := by rw [cell_of_row w2 _ 0 _ _ _ g0]; rfl
                have c1 : w2.cell? ⟨w.heap.size, 1, none⟩ = some (.int .i64 a) := by rw [cell_of_row w2 _ 1 _ _ _ g0]; rfl
                have c2 : w2.cell? ⟨w.heap.size, 2, none⟩ = some (.int .i64 b) := by rw [cell_of_row w2 _ 2 _ _ _ g0]; rfl
                have c3 : w2.cell? ⟨w.heap.size, 3, none⟩ = some (.int .i64 c) := by rw [cell_of_row w2 _ 3 _ _ _ g0]; rfl
                have c4 : w2.cell? ⟨w.heap.size, 4, none⟩ = some (.bool y) := by rw [cell_of_row w2 _ 4 _ _ _ g0]; rfl
                have c5 : w2.cell? ⟨w.heap.size, 5, none⟩ = some (.slice A l.length cc) := by rw [cell_of_row w2 _ 5 _ _ _ g0]; rfl
                have c6 : w2.cell? ⟨w.heap.size, 6, none⟩ = some (.int .i64 g) := by rw [cell_of_row w2 _ 6 _ _ _ g0]; rfl
                have c7 : w2.cell? ⟨w.heap.size, 7, none⟩ = some (.int .i64 t) := by rw [cell_of_row w2 _ 7 _ _ _ g0]; rfl
                have c8 : w2.cell? ⟨w.heap.size, 8, none⟩ = some (.int .i64 sh) := by rw [cell_of_row w2 _ 8 _ _ _ g0]; rfl
                have c9 : w2.cell? ⟨w.heap.size, 9, none⟩ = some (.int .i64 st) := by rw [cell_of_row w2 _ 9 _ _ _ g0]; rfl
                have c10 : w2.cell? ⟨w.heap.size, 10, none⟩ = some (.int .i64 tt) := by rw [cell_of_row w2 _ 10 _ _ _ g0]; rfl
                have c11 : w2.cell? ⟨w.heap.size, 11, none⟩ = some (.int .i64 n) := by rw [cell_of_row w2 _ 11 _ _ _ g0]; rfl
                have d0 : w2.cell? ⟨w.heap.size + 1, 0, none⟩ = some (.int .i8 k') := by rw [cell_of_row w2 _ 0 _ _ _ g1]; rfl
                have d1 : w2.cell? ⟨w.heap.size + 1, 1, none⟩ = some (.int .i64 a') := by rw [cell_of_row w2 _ 1 _ _ _ g1]; rfl
                have d2 : w2.cell? ⟨w.heap.size + 1, 2, none⟩ = some (.int .i64 b') := by rw [cell_of_row w2 _ 2 _ _ _ g1]; rfl
                have d3 : w2.cell? ⟨w.heap.size + 1, 3, none⟩ = some (.int .i64 c') := by rw [cell_of_row w2 _ 3 _ _ _ g1]; rfl
                have d4 : w2.cell? ⟨w.heap.size + 1, 4, none⟩ = some (.bool y') := by rw [cell_of_row w2 _ 4 _ _ _ g1]; rfl
                have d5 : w2.cell? ⟨w.heap.size + 1, 5, none⟩ = some (.slice B l'.length dd) := by rw [cell_of_row w2 _ 5 _ _ _ g1]; rfl
                have d6 : w2.cell? ⟨w.heap.size + 1, 6, none⟩ = some (.int .i64 g') := by rw [cell_of_row w2 _ 6 _ _ _ g1]; rfl
                have d7 : w2.cell? ⟨w.heap.size + 1, 7, none⟩ = some (.int .i64 t') := by rw [cell_of_row w2 _ 7 _ _ _ g1]; rfl
                have d8 : w2.cell? ⟨w.heap.size + 1, 8, none⟩ = some (.int .i64 sh') := by rw [cell_of_row w2 _ 8 _ _ _ g1]; rfl
                have d9 : w2.cell? ⟨w.heap.size + 1, 9, none⟩ = some (.int .i64 st') := by rw [cell_of_row w2 _ 9 _ _ _ g1]; rfl
                have d10 : w2.cell? ⟨w.heap.size + 1, 10, none⟩ = some (.int .i64 tt') := by rw [cell_of_row w2 _ 10 _ _ _ g1]; rfl
                have d11 : w2.cell? ⟨w.heap.size + 1, 11, none⟩ = some (.int .i64 n') := by rw [cell_of_row w2 _ 11 _ _ _ g1]; rfl
                have HB2 := Lib.hid (HB.out.trans (hb2.mono HB.out.size))
                clear hb2 g0 g1
                go_wp2
                go_ret
                exact ⟨by rw [HE.out]; rfl, HB2.out⟩
            · skip
              have q5 : (t == t') = false := by simp [p5]
              have HE := Lib.hid (show E = false by rw [hE]; exact decide_eq_false fun e => p5 e.2.2.2.2.2.1)
              clear hE p0 p1 p2 p3 p4 p5
              go_enter Try.func20, Try.ntmps20
              go_wp2_with (rw [← HW1.out])
              refine HS2.out.mono ?_
              rintro e w2 ⟨rfl, hb2⟩
              obtain ⟨g0, g1⟩ := HG.out w2 hb2
              have c0 : w2.cell? ⟨w.heap.size, 0, none⟩ = some (.int .i8 k) := by rw [cell_of_row w2 _ 0 _ _ _ g0]; rfl
              have c1 : w2.cell? ⟨w.heap.size, 1, none⟩ = some (.int .i64 a) := by rw [cell_of_row w2 _ 1 _ _ _ g0]; rfl
              have c2 : w2.cell? ⟨w.heap.size, 2, none⟩ = some (.int .i64 b) := by rw [cell_of_row w2 _ 2 _ _ _ g0]; rfl
              have c3 : w2.cell? ⟨w.heap.size, 3, none⟩ = some (.int .i64 c) := by rw [cell_of_row w2 _ 3 _ _ _ g0]; rfl
              have c4 : w2.cell? ⟨w.heap.size, 4, none⟩ = some (.bool y) := by rw [cell_of_row w2 _ 4 _ _ _ g0]; rfl
              have c5 : w2.cell? ⟨w.heap.size, 5, none⟩ = some (.slice A l.length cc) := by rw [cell_of_row w2 _ 5 _ _ _ g0]; rfl
              have c6 : w2.cell? ⟨w.heap.size, 6, none⟩ = some (.int .i64 g) := by rw [cell_of_row w2 _ 6 _ _ _ g0]; rfl
              have c7 : w2.cell? ⟨w.heap.size, 7, none⟩ = some (.int .i64 t) := by rw [cell_of_row w2 _ 7 _ _ _ g0]; rfl
              have c8 : w2.cell? ⟨w.heap.size, 8, none⟩ = some (.int .i64 sh) := by rw [cell_of_row w2 _ 8 _ _ _ g0]; rfl
              have c9 : w2.cell? ⟨w.heap.size, 9, none⟩ = some (.int .i64 st) := by rw [cell_of_row w2 _ 9 _ _ _ g0]; rfl
              have c10 : w2.cell? ⟨w.heap.size, 10, none⟩ = some (.int .i64 tt) := by rw [cell_of_row w2 _ 10 _ _ _ g0]; rfl
              have c11 : w2.cell? ⟨w.heap.size, 11, none⟩ = some (.int .i64 n) := by rw [cell_of_row w2 _ 11 _ _ _ g0]; rfl
              have d0 : w2.cell? ⟨w.heap.size + 1, 0, none⟩ = some (.int .i8 k') := by rw [cell_of_row w2 _ 0 _ _ _ g1]; rfl
              have d1 : w2.cell? ⟨w.heap.size + 1, 1, none⟩ = some (.int .i64 a') := by rw [cell_of_row w2 _ 1 _ _ _ g1]; rfl
              have d2 : w2.cell? ⟨w.heap.size + 1, 2, none⟩ = some (.int .i64 b') := by rw [cell_of_row w2 _ 2 _ _ _ g1]; rfl
              have d3 : w2.cell? ⟨w.heap.size + 1, 3, none⟩ = some (.int .i64 c') := by rw [cell_of_row w2 _ 3 _ _ _ g1]; rfl
              have d4 : w2.cell? ⟨w.heap.size + 1, 4, none⟩ = some (.bool y') := by rw [cell_of_row w2 _ 4 _ _ _ g1]; rfl
              have d5 : w2.cell? ⟨w.heap.size + 1, 5, none⟩ = some (.slice B l'.length dd) := by rw [cell_of_row w2 _ 5 _ _ _ g1]; rfl
              have d6 : w2.cell? ⟨w.heap.size + 1, 6, none⟩ = some (.int .i64 g') := by rw [cell_of_row w2 _ 6 _ _ _ g1]; rfl
              have d7 : w2.cell? ⟨w.heap.size + 1, 7, none⟩ = some (.int .i64 t') := by rw [cell_of_row w2 _ 7 _ _ _ g1]; rfl
              have d8 : w2.cell? ⟨w.heap.size + 1, 8, none⟩ = some (.int .i64 sh') := by rw [cell_of_row w2 _ 8 _ _ _ g1]; rfl
              have d9 : w2.cell? ⟨w.heap.size + 1, 9, none⟩ = some (.int .i64 st') := by rw [cell_of_row w2 _ 9 _ _ _ g1]; rfl
              have d10 : w2.cell? ⟨w.heap.size + 1, 10, none⟩ = some (.int .i64 tt') := by rw [cell_of_row w2 _ 10 _ _ _ g1]; rfl
              have d11 : w2.cell? ⟨w.heap.size + 1, 11, none⟩ = some (.int .i64 n') := by rw [cell_of_row w2 _ 11 _ _ _ g1]; rfl
              have HB2 := Lib.hid (HB.out.trans (hb2.mono HB.out.size))
              clear hb2 g0 g1
              go_wp2
              go_ret
              exact ⟨by rw [HE.out]; rfl, HB2.out⟩
          · skip
            have q4 : (g == g') = false := by simp [p4]
            have HE := Lib.hid (show E = false by rw [hE]; exact decide_eq_false fun e => p4 e.2.2.2.2.1)
            clear hE p0 p1 p2 p3 p4
            go_enter Try.func20, Try.ntmps20
            go_wp2_with (rw [← HW1.out])
            refine HS2.out.mono ?_
            rintro e w2 ⟨rfl, hb2⟩
            obtain ⟨g0, g1⟩ := HG.out w2 hb2
            have c0 : w2.cell? ⟨w.heap.size, 0, none⟩ = some (.int .i8 k) := by rw [cell_of_row w2 _ 0 _ _ _ g0]; rfl
            have c1 : w2.cell? ⟨w.heap.size, 1, none⟩ = some (.int .i64 a) := by rw [cell_of_row w2 _ 1 _ _ _ g0]; rfl
            have c2 : w2.cell? ⟨w.heap.size, 2, none⟩ = some (.int .i64 b) := by rw [cell_of_row w2 _ 2 _ _ _ g0]; rfl
            have c3 : w2.cell? ⟨w.heap.size, 3, none⟩ = some (.int .i64 c) := by rw [cell_of_row w2 _ 3 _ _ _ g0]; rfl
            have c4 : w2.cell? ⟨w.heap.size, 4, none⟩ = some (.bool y) := by rw [cell_of_row w2 _ 4 _ _ _ g0]; rfl
            have c5 : w2.cell? ⟨w.heap.size, 5, none⟩ = some (.slice A l.length cc) := by rw [cell_of_row w2 _ 5 _ _ _ g0]; rfl
            have c6 : w2.cell? ⟨w.heap.size, 6, none⟩ = some (.int .i64 g) := by rw [cell_of_row w2 _ 6 _ _ _ g0]; rfl
            have c7 : w2.cell? ⟨w.heap.size, 7, none⟩ = some (.int .i64 t) := by rw [cell_of_row w2 _ 7 _ _ _ g0]; rfl
            have c8 : w2.cell? ⟨w.heap.size, 8, none⟩ = some (.int .i64 sh) := by rw [cell_of_row w2 _ 8 _ _ _ g0]; rfl
            have c9 : w2.cell? ⟨w.heap.size, 9, none⟩ = some (.int .i64 st) := by rw [cell_of_row w2 _ 9 _ _ _ g0]; rfl
            have c10 : w2.cell? ⟨w.heap.size, 10, none⟩ = some (.int .i64 tt) := by rw [cell_of_row w2 _ 10 _ _ _ g0]; rfl
            have c11 : w2.cell? ⟨w.heap.size, 11, none⟩ = some (.int .i64 n) := by rw [cell_of_row w2 _ 11 _ _ _ g0]; rfl
            have d0 : w2.cell? ⟨w.heap.size + 1, 0, none⟩ = some (.int .i8 k') := by rw [cell_of_row w2 _ 0 _ _ _ g1]; rfl
            have d1 : w2.cell? ⟨w.heap.size + 1, 1, none⟩ = some (.int .i64 a') := by rw [cell_of_row w2 _ 1 _ _ _ g1]; rfl
            have d2 : w2.cell? ⟨w.heap.size + 1, 2, none⟩ = some (.int .i64 b') := by rw [cell_of_row w2 _ 2 _ _ _ g1]; rfl
            have d3 : w2.cell? ⟨w.heap.size + 1, 3, none⟩ = some (.int .i64 c') := by rw [cell_of_row w2 _ 3 _ _ _ g1]; rfl
            have d4 : w2.cell? ⟨w.heap.size + 1, 4, none⟩ = some (.bool y') := by rw [cell_of_row w2 _ 4 _ _ _ g1]; rfl
            have d5 : w2.cell? ⟨w.heap.size + 1, 5, none⟩ = some (.slice B l'.length dd) := by rw [cell_of_row w2 _ 5 _ _ _ g1]; rfl
            have d6 : w2.cell? ⟨w.heap.size + 1, 6, none⟩ = some (.int .i64 g') := by rw [cell_of_row w2 _ 6 _ _ _ g1]; rfl
            have d7 : w2.cell? ⟨w.heap.size + 1, 7, none⟩ = some (.int .i64 t') := by rw [cell_of_row w2 _ 7 _ _ _ g1]; rfl
            have d8 : w2.cell? ⟨w.heap.size + 1, 8, none⟩ = some (.int .i64 sh') := by rw [cell_of_row w2 _ 8 _ _ _ g1]; rfl
            have d9 : w2.cell? ⟨w.heap.size + 1, 9, none⟩ = some (.int .i64 st') := by rw [cell_of_row w2 _ 9 _ _ _ g1]; rfl
            have d10 : w2.cell? ⟨w.heap.size + 1, 10, none⟩ = some (.int .i64 tt') := by rw [cell_of_row w2 _ 10 _ _ _ g1]; rfl
            have d11 : w2.cell? ⟨w.heap.size + 1, 11, none⟩ = some (.int .i64 n') := by rw [cell_of_row w2 _ 11 _ _ _ g1]; rfl
            have HB2 := Lib.hid (HB.out.trans (hb2.mono HB.out.size))
            clear hb2 g0 g1
            go_wp2
            go_ret
            exact ⟨by rw [HE.out]; rfl, HB2.out⟩
        · skip
          have HS2 := HS
          rw [decide_eq_false p3] at HS2
          have HE := Lib.hid (show E = false by rw [hE]; exact decide_eq_false fun e => p3 e.2.2.2.1)
          clear hE p0 p1 p2 p3
          go_enter Try.func20, Try.ntmps20
          go_wp2_with (rw [← HW1.out])
          refine HS2.out.mono ?_
          rintro e w2 ⟨rfl, hb2⟩
          obtain ⟨g0, g1⟩ := HG.out w2 hb2
          have c0 : w2.cell? ⟨w.heap.size, 0, none⟩ = some (.int .i8 k) := by rw [cell_of_row w2 _ 0 _ _ _ g0]; rfl
          have c1 : w2.cell? ⟨w.heap.size, 1, none⟩ = some (.int .i64 a) := by rw [cell_of_row w2 _ 1 _ _ _ g0]; rfl
          have c2 : w2.cell? ⟨w.heap.size, 2, none⟩ = some (.int .i64 b) := by rw [cell_of_row w2 _ 2 _ _ _ g0]; rfl
          have c3 : w2.cell? ⟨w.heap.size, 3, none⟩ = some (.int .i64 c) := by rw [cell_of_row w2 _ 3 _ _ _ g0]; rfl
          have c4 : w2.cell? ⟨w.heap.size, 4, none⟩ = some (.bool y) := by rw [cell_of_row w2 _ 4 _ _ _ g0]; rfl
          have c5 : w2.cell? ⟨w.heap.size, 5, none⟩ = some (.slice A l.length cc) := by rw [cell_of_row w2 _ 5 _ _ _ g0]; rfl
          have c6 : w2.cell? ⟨w.heap.size, 6, none⟩ = some (.int .i64 g) := by rw [cell_of_row w2 _ 6 _ _ _ g0]; rfl
          have c7 : w2.cell? ⟨w.heap.size, 7, none⟩ = some (.int .i64 t) := by rw [cell_of_row w2 _ 7 _ _ _ g0]; rfl
          have c8 : w2.cell? ⟨w.heap.size, 8, none⟩ = some (.int .i64 sh) := by rw [cell_of_row w2 _ 8 _ _ _ g0]; rfl
          have c9 : w2.cell? ⟨w.heap.size, 9, none⟩ = some (.int .i64 st) := by rw [cell_of_row w2 _ 9 _ _ _ g0]; rfl
          have c10 : w2.cell? ⟨w.heap.size, 10, none⟩ = some (.int .i64 tt) := by rw [cell_of_row w2 _ 10 _ _ _ g0]; rfl
          have c11 : w2.cell? ⟨w.heap.size, 11, none⟩ = some (.int .i64 n) := by rw [cell_of_row w2 _ 11 _ _ _ g0]; rfl
          have d0 : w2.cell? ⟨w.heap.size + 1, 0, none⟩ = some (.int .i8 k') := by rw [cell_of_row w2 _ 0 _ _ _ g1]; rfl
          have d1 : w2.cell? ⟨w.heap.size + 1, 1, none⟩ = some (.int .i64 a') := by rw [cell_of_row w2 _ 1 _ _ _ g1]; rfl
          have d2 : w2.cell? ⟨w.heap.size + 1, 2, none⟩ = some (.int .i64 b') := by rw [cell_of_row w2 _ 2 _ _ _ g1]; rfl
          have d3 : w2.cell? ⟨w.heap.size + 1, 3, none⟩ = some (.int .i64 c') := by rw [cell_of_row w2 _ 3 _ _ _ g1]; rfl
          have d4 : w2.cell? ⟨w.heap.size + 1, 4, none⟩ = some (.bool y') := by rw [cell_of_row w2 _ 4 _ _ _ g1]; rfl
          have d5 : w2.cell? ⟨w.heap.size + 1, 5, none⟩ = some (.slice B l'.length dd) := by rw [cell_of_row w2 _ 5 _ _ _ g1]; rfl
          have d6 : w2.cell? ⟨w.heap.size + 1, 6, none⟩ = some (.int .i64 g') := by rw [cell_of_row w2 _ 6 _ _ _ g1]; rfl
          have d7 : w2.cell? ⟨w.heap.size + 1, 7, none⟩ = some (.int .i64 t') := by rw [cell_of_row w2 _ 7 _ _ _ g1]; rfl
          have d8 : w2.cell? ⟨w.heap.size + 1, 8, none⟩ = some (.int .i64 sh') := by rw [cell_of_row w2 _ 8 _ _ _ g1]; rfl
          have d9 : w2.cell? ⟨w.heap.size + 1, 9, none⟩ = some (.int .i64 st') := by rw [cell_of_row w2 _ 9 _ _ _ g1]; rfl
          have d10 : w2.cell? ⟨w.heap.size + 1, 10, none⟩ = some (.int .i64 tt') := by rw [cell_of_row w2 _ 10 _ _ _ g1]; rfl
          have d11 : w2.cell? ⟨w.heap.size + 1, 11, none⟩ = some (.int .i64 n') := by rw [cell_of_row w2 _ 11 _ _ _ g1]; rfl
          have HB2 := Lib.hid (HB.out.trans (hb2.mono HB.out.size))
          clear hb2 g0 g1
          go_wp2
          go_ret
          exact ⟨by rw [HE.out]; rfl, HB2.out⟩
      · skip
        have q2 : (y == y') = false := by simp [p2]
        have HE := Lib.hid (show E = false by rw [hE]; exact decide_eq_false fun e => p2 e.2.2.1)
        clear hE p0 p1 p2
        go_enter Try.func20, Try.ntmps20
        go_wp2_with (rw [← HW1.out])
        go_ret
        exact ⟨by rw [HE.out]; rfl, HB.out⟩
    · skip
      have q1 : ∀ W : World, (binOp .eql 24 (.agg #[.int .i64 a, .int .i64 b, .int .i64 c]) (.agg #[.int .i64 a', .int .i64 b', .int .i64 c'])).run Try.prog W = .ok (.bool false) W := fun W => by rw [name_eql, decide_eq_false p1]
      have HE := Lib.hid (show E = false by rw [hE]; exact decide_eq_false fun e => p1 e.2.1)
      clear hE p0 p1
      go_enter Try.func20, Try.ntmps20
      go_wp2_with (rw [← HW1.out])
      go_ret
      exact ⟨by rw [HE.out]; rfl, HB.out⟩
  · skip
    have q0 : (k == k') = false := by simp [p0]
    have HE := Lib.hid (show E = false by rw [hE]; exact decide_eq_false fun e => p0 e.1)
    clear hE p0
    go_enter Try.func20, Try.ntmps20
    go_wp2_with (rw [← HW1.out])
    go_ret
    exact ⟨by rw [HE.out]; rfl, HB.out⟩
end Go.Proofs.Ytaokhbodmodcgaa
end

section
/-
  The developers' answer of which record may be.
-/
namespace Go.Proofs.Ytaokhbodmodcgaa
open Go.RowKit
set_option maxRecDepth 100000

theorem all_take_succ {α : Type} {l : List α} {f : α → Bool} {k : Nat} (hk : k < l.length) : (l.take (k + 1)).all f = ((l.take k).all f && f l[k]) := by
  rw [List.take_succ_eq_append_getElem hk, List.all_append]
  simp
theorem all_false {α : Type} {l : List α} {f : α → Bool} {k : Nat} (hk : k < l.length) (h : f l[k] = false) : l.all f = false := by
  cases ha : l.all f with
  | false => rfl
  | true =>
    rw [List.all_eq_true] at ha
    have := ha _ (List.getElem_mem hk)
    rw [h] at this
    cases this
theorem emptyAll_succ {l : List FK} {k : Nat} (hk : k < l.length) (r : Rc) : emptyAll (l.take (k + 1)) r = emptyF l[k] (emptyAll (l.take k) r) := by
  unfold emptyAll
  rw [List.take_succ_eq_append_getElem hk, List.foldl_append]
  rfl
theorem emptyF_kind (k : FK) (r : Rc) : (emptyF k r).kind = r.kind := by cases k <;> rfl
theorem emptyAll_kind (l : List FK) : ∀ r, (emptyAll l r).kind = r.kind := by
  induction l with
  | nil => intro r; rfl
  | cons k l ih => intro r; exact (ih _).trans (emptyF_kind k r)
theorem emptyF_len (k : FK) (r : Rc) : (emptyF k r).writes.length ≤ r.writes.length := by cases k <;> simp [emptyF]
theorem emptyAll_len (l : List FK) : ∀ r, (emptyAll l r).writes.length ≤ r.writes.length := by
  induction l with
  | nil => intro r; exact Nat.le_refl _
  | cons k l ih => intro r; exact Nat.le_trans (ih _) (emptyF_len k r)
/-- what a round of a loop over fields loads and lays into its own variable -/
structure Elt (wr : World) (N M X : Nat) (k : FK) (g i : Nat) (z0 z1 z2 z3 : Value) : Prop where
  fld : FldC wr N M X k [z0, z1, z2, z3]
  at_ : ∀ j u, ([z0, z1, z2, z3] : List Value)[j]? = some u → wr.cell? ⟨g, i * 4 + j, none⟩ = some u
theorem FldC.one {w : World} {N M X : Nat} {k : FK} {fs : List Value} (h : FldC w N M X k fs) : ∀ u ∈ fs, u.oneCell' = true := by
  cases k
  case take => obtain ⟨bx, h1, _, _, _, _, rfl, _⟩ := h; simp [Value.oneCell']
  case num m => obtain ⟨bx, h1, _, _, _, _, rfl, _⟩ := h; simp [Value.oneCell']
  all_goals (obtain ⟨_, _, _, _, rfl, _⟩ := h; simp [Value.oneCell'])
theorem elt_at {w wr : World} {N M X : Nat} {ks : List FK} {L : Option Addr} (h : FldsAt w N M X ks L) (hk : ∀ b, N ≤ b → b < M → wr.heap[b]? = w.heap[b]?) (i : Nat) (hi : i < ks.length) :
    ∃ g z0 z1 z2 z3, L = some ⟨g, 0, none⟩ ∧ Elt wr N M X ks[i] g i z0 z1 z2 z3 := by
  obtain ⟨g, fs, e, h1, h2, h3, h4⟩ := h i hi
  obtain ⟨z0, z1, z2, z3, rfl⟩ := four h3.four
  exact ⟨g, z0, z1, z2, z3, e, h3.keep hk, fun j u hu => (World.cell?_of_block (w := w) (hk g h1 h2)).trans (h4 j u hu)⟩
theorem size4 (z0 z1 z2 z3 : Value) : (Try.prog.info? 55).map (·.size) = some ([z0, z1, z2, z3] : List Value).length := sizeFld
theorem size4a (z0 z1 z2 z3 : Value) : (Try.prog.info? 55).map (·.size) = some (#[z0, z1, z2, z3] : Array Value).size := sizeFld
theorem zero4 (z0 z1 z2 z3 : Value) : (#[.nilFunc, .nilFunc, .nilFunc, .nilFunc] : Array Value).size = (#[z0, z1, z2, z3] : Array Value).size := rfl
theorem one4 {z0 z1 z2 z3 : Value} (h : ∀ u ∈ ([z0, z1, z2, z3] : List Value), u.oneCell' = true) : (#[z0, z1, z2, z3] : Array Value).all (·.oneCell') = true := by
  rw [Array.all_eq_true_iff_forall_mem]
  intro u hu
  exact h u (by simpa using hu)
set_option maxHeartbeats 8000000 in
theorem may_dev (r : Rc) (A : Option Addr) (cc : Nat) (w : World) (P : Nat → Prop) (hw : WrsV w P A cc r.writes) (hr : r.Fine) (hl : r.writes.length ≤ 1000000) (hP : ∀ k, P k → k < w.heap.size) :
    Calls Try.prog 14 #[.agg (recv A cc r).toArray] w fun e w' => e = .returned (.bool (mayR r)) ∧ Below w.heap.size w w' := by
  rw [← mayD_eq]
  obtain ⟨w1, hw1⟩ : ∃ w1, w1 = w.alloc (.cells (recv A cc r).toArray 29) := ⟨_, rfl⟩
  have hb1 : Below w.heap.size w w1 := by rw [hw1]; exact (Below.refl _ w).alloc (Nat.le_refl _) _
  have hz1 : w1.heap.size = w.heap.size + 1 := by rw [hw1]; simp
  have hX1 : RBox w1 w.heap.size P A cc r := ⟨by rw [hw1]; exact heap_alloc_new w _, hw.below hb1, hr⟩
  have HFl := Lib.hid (fields_dev w1 w.heap.size r.kind (hX1.cell 0 rfl) hX1.lt)
  have HX1 := Lib.hid hX1
  have HB1 := Lib.hid hb1
  have HZ1 := Lib.hid hz1
  have HW1 := Lib.hid hw1
  have HP := Lib.hid (show ∀ k, P k → k ≠ w.heap.size from fun k hk e => by have := hP k hk; omega)
  have HLn := Lib.hid hl
  obtain ⟨ks, hks⟩ : ∃ ks, ks = kindsF r.kind := ⟨_, rfl⟩
  obtain ⟨E, hE⟩ : ∃ E, E = mayD r := ⟨_, rfl⟩
  rw [← hE]
  unfold mayD at hE
  rw [← hks] at hE HFl
  have HD := Lib.hid hE
  obtain ⟨n, hn⟩ : ∃ n, n = ks.length := ⟨_, rfl⟩
  have hn4 : n ≤ 4 := by
    rw [hn, hks]
    unfold kindsF
    repeat' split
    all_goals simp
  rw [← hn] at HFl
  have HN := Lib.hid hn
  have hrec : ∃ R, R = (recv A cc r).toArray := ⟨_, rfl⟩
  obtain ⟨R, hR⟩ := hrec
  rw [← hR] at HW1 ⊢
  clear hw hr hl hP hw1 hb1 hz1 hX1 hE hn hks hR
  go_enter Try.func14, Try.ntmps14
  go_wp2_with (rw [← HW1.out])
  refine HFl.out.mono ?_
  rintro e w3 ⟨L, c, rfl, hb3, hf3⟩
  have HB3 := Lib.hid hb3
  have HF := Lib.hid hf3
  clear hb3 hf3
  go_wp2_with fail
  go_loopw [11] (fun i wr => ∃ k : Nat, k ≤ n ∧ i = .int .i64 (k : Int) ∧ (ks.take k).all (mayF · r) = true ∧ Below w3.heap.size w3 wr) (fun i _ => n - (intOf i).toNat)
  case atStart => exact ⟨0, Nat.zero_le _, rfl, rfl, Below.refl _ _⟩
  case round =>
    obtain ⟨k, hk, rfl, hall, hbr⟩ := hrel
    have HAll := Lib.hid hall
    have HBr := Lib.hid hbr
    clear hall hbr
    by_cases hlt : k < n
    · have hkl : k < ks.length := by rw [← HN.out]; exact hlt
      have hki : (k : Int) < (n : Int) := by omega
      have hw1 : IntKind.i64.wrap ((k : Int) + 1) = (k : Int) + 1 := by rw [IntKind.wrap_i64]; omega
      obtain ⟨g, z0, z1, z2, z3, rfl, hE⟩ := elt_at HF.out (wr := wr) (fun b _ hb => HBr.out.block b hb) k hkl
      have HE := Lib.hid hE
      have H1 := Lib.hid (one4 hE.fld.one)
      have HI := Lib.hid (size4 z0 z1 z2 z3)
      have HIa := Lib.hid (size4a z0 z1 z2 z3)
      have HS0 := Lib.hid (zero4 z0 z1 z2 z3)
      have HAt := Lib.hid hE.at_
      obtain ⟨hb2, hg2, hz2⟩ := box_made wr #[.nilFunc, .nilFunc, .nilFunc, .nilFunc] #[z0, z1, z2, z3] 55
      have HZ := Lib.hid (heap_alloc_new wr (.cells #[.nilFunc, .nilFunc, .nilFunc, .nilFunc] 55))
      obtain ⟨w2, hw2⟩ : ∃ w2, w2 = (wr.alloc (.cells #[.nilFunc, .nilFunc, .nilFunc, .nilFunc] 55)).setRow wr.heap.size #[z0, z1, z2, z3] := ⟨_, rfl⟩
      rw [← hw2] at hb2 hg2 hz2
      have HW2 := Lib.hid hw2
      have HB2 := Lib.hid hb2
      clear hE hw2
      obtain ⟨nf, b1, b2, h0, hent, hcall⟩ := fld_may (HE.out.fld.keep (w' := w2) fun b _ hb => HB2.out.block b (by have := HBr.out.size; omega)) (by have := HBr.out.size; omega) (((HX1.out.below HB3.out).below HBr.out).below HB2.out)
      have hc0 : w2.cell? ⟨wr.heap.size, 0, none⟩ = some (f2 nf b1 b2) := by rw [cell_of_row w2 _ 0 _ _ _ hg2, ← h0]; rfl
      unfold f2 at hc0
      have HCall := Lib.hid hcall
      have HMk := Lib.hid (all_take_succ (f := (mayF · r)) hkl)
      have HMf := Lib.hid (show mayF ks[k] r = false → ks.all (mayF · r) = false from fun h => all_false hkl h)
      clear hcall h0 hb2 hg2 hz2
      generalize mayF ks[k] r = b at *
      unfold Ent at hent
      have HBw := Lib.hid (HB1.out.trans ((HB3.out.trans ((HBr.out.trans (HB2.out.mono HBr.out.size)).mono HB3.out.size)).mono HB1.out.size))
      have HBx := Lib.hid (HBr.out.trans (HB2.out.mono HBr.out.size))
      cases b with
      | false =>
        go_wp2_with (first
          | (refine wpList_load_part rfl 55 _ rfl g (k * 4) rfl [z0, z1, z2, z3] _ HAt.out Try.underlying55 rfl HI.out ?_)
          | (refine wpList_store_row rfl 55 _ _ rfl wr.heap.size #[z0, z1, z2, z3] rfl rfl 55 #[.nilFunc, .nilFunc, .nilFunc, .nilFunc] HZ.out HIa.out HS0.out H1.out ?_; rw [← HW2.out]))
        refine HCall.out.mono ?_
        rintro e w4 ⟨rfl, hb4⟩
        have HB4 := Lib.hid hb4
        clear hb4
        go_wp2
        go_ret
        exact ⟨by rw [HD.out, HMf.out (by first | rfl | trivial), Bool.false_and]; rfl, HBw.out.trans (HB4.out.mono HBw.out.size)⟩
      | true =>
        go_wp2_with (first
          | (refine wpList_load_part rfl 55 _ rfl g (k * 4) rfl [z0, z1, z2, z3] _ HAt.out Try.underlying55 rfl HI.out ?_)
          | (refine wpList_store_row rfl 55 _ _ rfl wr.heap.size #[z0, z1, z2, z3] rfl rfl 55 #[.nilFunc, .nilFunc, .nilFunc, .nilFunc] HZ.out HIa.out HS0.out H1.out ?_; rw [← HW2.out]))
        refine HCall.out.mono ?_
        rintro e w4 ⟨rfl, hb4⟩
        have HB4 := Lib.hid hb4
        clear hb4
        go_wp2
        go_roundw
        case rel => exact ⟨k + 1, by omega, by simp, by rw [HMk.out, HAll.out]; rfl, HBx.out.trans (HB4.out.mono HBx.out.size)⟩
        case measure => simp [intOf]; omega
    · obtain rfl : k = n := by omega
      have hki : ¬ (k : Int) < (k : Int) := by omega
      have HAl := Lib.hid (show ks.all (mayF · r) = true by have h := HAll.out; rwa [List.take_of_length_le (Nat.le_of_eq HN.out.symm)] at h)
      obtain ⟨w5, hw5⟩ : ∃ w5, w5 = wr := ⟨_, rfl⟩
      rw [← hw5] at HBr ⊢
      have HX5 := Lib.hid ((HX1.out.below HB3.out).below HBr.out)
      clear hw5
      go_wp2_with fail
      go_loopw [22] (fun i wr => ∃ j : Nat, j ≤ k ∧ i = .int .i64 (j : Int) ∧ (∃ A' c', RBox wr w.heap.size P A' c' (emptyAll (ks.take j) r)) ∧ Kept7 (· = w.heap.size) w3 wr) (fun i _ => k - (intOf i).toNat)
      case atStart => exact ⟨0, Nat.zero_le _, rfl, ⟨_, _, HX5.out⟩, Kept7.of_below HBr.out (Nat.le_refl _)⟩
      case round =>
        obtain ⟨j, hj, rfl, ⟨A2, c2, hX2⟩, hkp⟩ := hrel
        have HX2 := Lib.hid hX2
        have HKp := Lib.hid hkp
        clear hX2 hkp
        by_cases hlt : j < k
        · have hkl : j < ks.length := by rw [← HN.out]; exact hlt
          have hki2 : (j : Int) < (k : Int) := by omega
          have hw1 : IntKind.i64.wrap ((j : Int) + 1) = (j : Int) + 1 := by rw [IntKind.wrap_i64]; omega
          obtain ⟨g, z0, z1, z2, z3, rfl, hE⟩ := elt_at HF.out (wr := wr) (fun b hN hb => HKp.out.block b hb (by have := HZ1.out; omega)) j hkl
          have HE := Lib.hid hE
          have H1 := Lib.hid (one4 hE.fld.one)
          have HI := Lib.hid (size4 z0 z1 z2 z3)
          have HIa := Lib.hid (size4a z0 z1 z2 z3)
          have HS0 := Lib.hid (zero4 z0 z1 z2 z3)
          have HAt := Lib.hid hE.at_
          obtain ⟨hb2, hg2, hz2⟩ := box_made wr #[.nilFunc, .nilFunc, .nilFunc, .nilFunc] #[z0, z1, z2, z3] 55
          have HZ := Lib.hid (heap_alloc_new wr (.cells #[.nilFunc, .nilFunc, .nilFunc, .nilFunc] 55))
          obtain ⟨w2, hw2⟩ : ∃ w2, w2 = (wr.alloc (.cells #[.nilFunc, .nilFunc, .nilFunc, .nilFunc] 55)).setRow wr.heap.size #[z0, z1, z2, z3] := ⟨_, rfl⟩
          rw [← hw2] at hb2 hg2 hz2
          have HW2 := Lib.hid hw2
          have HB2 := Lib.hid hb2
          clear hE hw2
          obtain ⟨nf, b1, h0, hent, hcall⟩ := fld_empty (HE.out.fld.keep (w' := w2) fun b _ hb => HB2.out.block b (by have := HKp.out.size; omega)) (by have := HKp.out.size; omega) (HX2.out.below HB2.out) (fun h => HP.out _ h rfl)
          have hc3 : w2.cell? ⟨wr.heap.size, 3, none⟩ = some (f1 nf b1) := by rw [cell_of_row w2 _ 3 _ _ _ hg2, ← h0]; rfl
          unfold f1 at hc3
          unfold Ent at hent
          have HCall := Lib.hid hcall
          have HMk := Lib.hid (emptyAll_succ hkl r)
          have HKx := Lib.hid (HKp.out.trans (Kept7.of_below (S := (· = w.heap.size)) HB2.out (Nat.le_refl _)))
          clear hcall h0 hb2 hg2 hz2
          go_wp2_with (first
            | (refine wpList_load_part rfl 55 _ rfl g (j * 4) rfl [z0, z1, z2, z3] _ HAt.out Try.underlying55 rfl HI.out ?_)
            | (refine wpList_store_row rfl 55 _ _ rfl wr.heap.size #[z0, z1, z2, z3] rfl rfl 55 #[.nilFunc, .nilFunc, .nilFunc, .nilFunc] HZ.out HIa.out HS0.out H1.out ?_; rw [← HW2.out]))
          refine HCall.out.mono ?_
          rintro e w4 ⟨rfl, ⟨A4, c4, hX4⟩, hk4⟩
          have HX4 := Lib.hid hX4
          have HK4 := Lib.hid hk4
          clear hX4 hk4
          go_wp2
          go_roundw
          case rel => exact ⟨j + 1, by omega, by simp, ⟨A4, c4, by rw [HMk.out]; exact HX4.out⟩, HKx.out.trans HK4.out⟩
          case measure => simp [intOf]; omega
        · obtain rfl : j = k := by omega
          have HX6 := Lib.hid (show RBox wr w.heap.size P A2 c2 (emptyAll ks r) by have h := HX2.out; rwa [List.take_of_length_le (Nat.le_of_eq HN.out.symm)] at h)
          have HB6 := Lib.hid (show Below w.heap.size w wr from HB1.out.trans ((HB3.out.mono HB1.out.size).trans (HKp.out.to_below (by have := HB1.out.size; have := HB3.out.size; omega) (fun k hk e => by omega))))
          have hki2 : ¬ (j : Int) < (j : Int) := by omega
          obtain ⟨r2, hr2⟩ : ∃ r2, r2 = emptyAll ks r := ⟨_, rfl⟩
          have hkind := emptyAll_kind ks r
          have hlen := emptyAll_len ks r
          have hD := HD.out
          rw [← hr2] at HX6 hkind hlen hD
          rw [HAl.out, Bool.true_and] at hD
          have HSm := Lib.hid (same_dev r2 { zRc with kind := r.kind } A2 none c2 0 wr P (fun _ => False) HX6.out.wrs.at_ Wrs.nil_ HX6.out.fine.writes (fun _ h => absurd h List.not_mem_nil) (Nat.le_trans hlen HLn.out) (by simp [zRc]))
          rw [← hkind] at HSm hD
          obtain ⟨Eb, hEb⟩ : ∃ Eb, Eb = decide (r2 = { zRc with kind := r2.kind }) := ⟨_, rfl⟩
          rw [← hEb] at HSm hD
          clear hEb
          have hrow := HX6.out.row
          clear hr2 hkind hlen
          by_cases hn0 : j = 0
          · have hks : ks = [] := List.eq_nil_of_length_eq_zero (by rw [← HN.out]; exact hn0)
            have HEf := Lib.hid (show E = false by rw [hD, hks]; rfl)
            have hd : decide (0 < j) = false := decide_eq_false (by omega)
            clear hD hks hrow hn0
            go_wp2
            go_ret
            exact ⟨by rw [HEf.out]; rfl, HB6.out⟩
          · have hks : ks ≠ [] := fun e => hn0 (by rw [HN.out, e]; rfl)
            have HEf := Lib.hid (show E = Eb by rw [hD, decide_eq_true hks, Bool.true_and])
            have hd : decide (0 < j) = true := decide_eq_true (by omega)
            obtain ⟨k0, ⟨a0, b0, d0⟩, y0, l0, g0, t0, s0, p0, q0, m0⟩ := r2
            unfold recv at HSm
            simp only [zRc, zNm] at HSm
            clear hD hks hn0 hrow
            have c0 := HX6.out.cell 0 rfl
            have c1 := HX6.out.cell 1 rfl
            have c2 := HX6.out.cell 2 rfl
            have c3 := HX6.out.cell 3 rfl
            have c4 := HX6.out.cell 4 rfl
            have c5 := HX6.out.cell 5 rfl
            have c6 := HX6.out.cell 6 rfl
            have c7 := HX6.out.cell 7 rfl
            have c8 := HX6.out.cell 8 rfl
            have c9 := HX6.out.cell 9 rfl
            have c10 := HX6.out.cell 10 rfl
            have c11 := HX6.out.cell 11 rfl
            go_wp2_with fail
            refine HSm.out.mono ?_
            rintro e w7 ⟨rfl, hb7⟩
            have HB7 := Lib.hid hb7
            clear hb7
            go_wp2
            go_ret
            exact ⟨by rw [HEf.out]; rfl, HB6.out.trans (HB7.out.mono HB6.out.size)⟩
end Go.Proofs.Ytaokhbodmodcgaa
end

section
/-
  The developers' record out of bytes.
-/
namespace Go.Proofs.Ytaokhbodmodcgaa
open Go.RowKit
set_option maxRecDepth 100000

def readAll (bs : List Nat) (ks : List FK) (x : Rc × Nat) : Rc × Nat := ks.foldl (fun x k => (readF k x.1 bs x.2, x.2 + lenF k bs x.2)) x
theorem readAll_succ {ks : List FK} {k : Nat} (hk : k < ks.length) (bs : List Nat) (x : Rc × Nat) : readAll bs (ks.take (k + 1)) x = (readF ks[k] (readAll bs (ks.take k) x).1 bs (readAll bs (ks.take k) x).2, (readAll bs (ks.take k) x).2 + lenF ks[k] bs (readAll bs (ks.take k) x).2) := by
  unfold readAll
  rw [List.take_succ_eq_append_getElem hk, List.foldl_append]
  rfl
def kindZ (bs : List Nat) : Int := IntKind.i8.wrap ((bt bs 0 : Nat) : Int)
def parseR (bs : List Nat) : Rc := (readAll bs (kindsF (kindZ bs)) ({ zRc with kind := kindZ bs }, 1)).1
theorem kinds_len4 (k : Int) : (kindsF k).length ≤ 4 := by
  unfold kindsF
  repeat' split
  all_goals simp
set_option maxHeartbeats 8000000 in
theorem parse_dev (bs : List Nat) (A : Option Addr) (c : Nat) (w : World) (hy : By w w.heap.size A bs) (hc : bs.length ≤ c) (hm : c ≤ maxLen) :
    Calls Try.prog 41 #[.slice A bs.length c] w fun e w' => ∃ A' c', e = .returned (.agg (recv A' c' (parseR bs)).toArray) ∧ WrsV w' (fun b => w.heap.size ≤ b) A' c' (parseR bs).writes ∧ (parseR bs).Fine ∧ Below w.heap.size w w' := by
  obtain ⟨w1, hw1⟩ : ∃ w1, w1 = (w.alloc (.cells #[.int .i8 0, .int .i64 0, .int .i64 0, .int .i64 0, .bool false, .slice none 0 0, .int .i64 0, .int .i64 0, .int .i64 0, .int .i64 0, .int .i64 0, .int .i64 0] 29)).alloc (.cells #[.slice A bs.length c] 88) := ⟨_, rfl⟩
  have hb1 : Below w.heap.size w w1 := by rw [hw1]; exact ((Below.refl _ w).alloc (Nat.le_refl _) _).alloc (by simp) _
  have hz1 : w1.heap.size = w.heap.size + 2 := by rw [hw1]; simp
  have g0 : w1.heap[w.heap.size]? = some (.cells #[.int .i8 0, .int .i64 0, .int .i64 0, .int .i64 0, .bool false, .slice none 0 0, .int .i64 0, .int .i64 0, .int .i64 0, .int .i64 0, .int .i64 0, .int .i64 0] 29 (0, 0)) := by rw [hw1]; exact (Below.heap_alloc _ _ _ (by simp)).trans (heap_alloc_new w _)
  have g1 : w1.heap[w.heap.size + 1]? = some (.cells #[.slice A bs.length c] 88 (0, 0)) := by
    rw [hw1]
    have h := heap_alloc_new (w.alloc (.cells #[.int .i8 0, .int .i64 0, .int .i64 0, .int .i64 0, .bool false, .slice none 0 0, .int .i64 0, .int .i64 0, .int .i64 0, .int .i64 0, .int .i64 0, .int .i64 0] 29)) (.cells #[.slice A bs.length c] 88)
    rwa [World.size_alloc] at h
  have hN1 : Nr w1 w.heap.size (w.heap.size + 1) (bs.drop 0) := ⟨⟨A, c, g1, hy.below hb1 (Nat.le_refl _), hc, hm⟩, by omega⟩
  have HG := Lib.hid (get8_dev w1 w.heap.size (w.heap.size + 1) bs 0 hN1 hy.1)
  have HB1 := Lib.hid hb1
  have HZ1 := Lib.hid hz1
  have HW1 := Lib.hid hw1
  have HG0 := Lib.hid g0
  have HBt := Lib.hid hy.1
  clear hy hc hm hw1 hb1 hz1 g0 g1 hN1
  go_enter Try.func41, Try.ntmps41
  go_wp2_with (rw [← HW1.out])
  refine HG.out.mono ?_
  rintro e w2 ⟨rfl, hr2, hk2⟩
  obtain ⟨kd, hkd⟩ : ∃ kd, kd = IntKind.i8.wrap ((bt bs 0 : Nat) : Int) := ⟨_, rfl⟩
  rw [← hkd]
  have HKd := Lib.hid (show kd = kindZ bs from hkd)
  have hk8 : -128 ≤ kd ∧ kd ≤ 127 := by
    rw [hkd]
    simp only [IntKind.wrap, IntKind.bits, IntKind.signed]
    simp
    omega
  obtain ⟨hb3, hg3, hz3⟩ := box_made w2 #[.int .i8 0, .int .i64 0, .int .i64 0, .int .i64 0, .bool false, .slice none 0 0, .int .i64 0, .int .i64 0, .int .i64 0, .int .i64 0, .int .i64 0, .int .i64 0] #[.int .i8 kd, .int .i64 0, .int .i64 0, .int .i64 0, .bool false, .slice none 0 0, .int .i64 0, .int .i64 0, .int .i64 0, .int .i64 0, .int .i64 0, .int .i64 0] 29
  have HZ3 := Lib.hid (heap_alloc_new w2 (.cells #[.int .i8 0, .int .i64 0, .int .i64 0, .int .i64 0, .bool false, .slice none 0 0, .int .i64 0, .int .i64 0, .int .i64 0, .int .i64 0, .int .i64 0, .int .i64 0] 29))
  obtain ⟨w3, hw3⟩ : ∃ w3, w3 = (w2.alloc (.cells #[.int .i8 0, .int .i64 0, .int .i64 0, .int .i64 0, .bool false, .slice none 0 0, .int .i64 0, .int .i64 0, .int .i64 0, .int .i64 0, .int .i64 0, .int .i64 0] 29)).setRow w2.heap.size #[.int .i8 kd, .int .i64 0, .int .i64 0, .int .i64 0, .bool false, .slice none 0 0, .int .i64 0, .int .i64 0, .int .i64 0, .int .i64 0, .int .i64 0, .int .i64 0] := ⟨_, rfl⟩
  rw [← hw3] at hb3 hg3 hz3
  have HW3 := Lib.hid hw3
  have hsz : w1.heap.size ≤ w2.heap.size := hk2.size
  have hX3 : RBox w3 w2.heap.size (w2.heap.size < ·) none 0 { zRc with kind := kd } := ⟨hg3, WrsV.nil_, ⟨hk8, ⟨zero_i64, zero_i64, zero_i64⟩, fun _ h => absurd h List.not_mem_nil, zero_i64, zero_i64, zero_i64, zero_i64, zero_i64, zero_i64⟩⟩
  have HX3 := Lib.hid hX3
  have HR3 := Lib.hid (hr2.below hb3 hr2.lt)
  have HS := Lib.hid (show w.heap.size + 1 < w2.heap.size ∧ w3.heap.size = w2.heap.size + 1 from ⟨by have := HZ1.out; omega, hz3⟩)
  have HG3 := Lib.hid (show w3.heap[w.heap.size]? = some (.cells #[.int .i8 0, .int .i64 0, .int .i64 0, .int .i64 0, .bool false, .slice none 0 0, .int .i64 0, .int .i64 0, .int .i64 0, .int .i64 0, .int .i64 0, .int .i64 0] 29 (0, 0)) from (hb3.block _ (by have := HZ1.out; omega)).trans ((hk2.block _ (by have := HZ1.out; omega) (by omega)).trans HG0.out))
  have HB3 := Lib.hid (show Below w.heap.size w w3 from HB1.out.trans ((hk2.to_below HB1.out.size (fun k hk e => by omega)).trans (hb3.mono (by have := HZ1.out; omega))))
  have HFl := Lib.hid (fields_dev w3 w2.heap.size kd (hX3.cell 0 rfl) hX3.lt)
  obtain ⟨ks, hks⟩ : ∃ ks, ks = kindsF kd := ⟨_, rfl⟩
  have hn4 := kinds_len4 kd
  rw [← hks] at HFl hn4
  obtain ⟨n, hn⟩ : ∃ n, n = ks.length := ⟨_, rfl⟩
  rw [← hn] at HFl hn4
  have HN := Lib.hid hn
  have HPar := Lib.hid (show parseR bs = (readAll bs ks ({ zRc with kind := kd }, 1)).1 by unfold parseR; rw [hks, HKd.out])
  have HIk := Lib.hid (show (Try.prog.info? 29).map (·.size) = some (#[.int .i8 kd, .int .i64 0, .int .i64 0, .int .i64 0, .bool false, .slice none 0 0, .int .i64 0, .int .i64 0, .int .i64 0, .int .i64 0, .int .i64 0, .int .i64 0] : Array Value).size by kernel_rfl)
  have HSk := Lib.hid (show (#[.int .i8 0, .int .i64 0, .int .i64 0, .int .i64 0, .bool false, .slice none 0 0, .int .i64 0, .int .i64 0, .int .i64 0, .int .i64 0, .int .i64 0, .int .i64 0] : Array Value).size = (#[.int .i8 kd, .int .i64 0, .int .i64 0, .int .i64 0, .bool false, .slice none 0 0, .int .i64 0, .int .i64 0, .int .i64 0, .int .i64 0, .int .i64 0, .int .i64 0] : Array Value).size from rfl)
  have HOk := Lib.hid (show (#[.int .i8 kd, .int .i64 0, .int .i64 0, .int .i64 0, .bool false, .slice none 0 0, .int .i64 0, .int .i64 0, .int .i64 0, .int .i64 0, .int .i64 0, .int .i64 0] : Array Value).all (·.oneCell') = true by simp [Value.oneCell'])
  clear hkd hk8 hb3 hg3 hz3 hw3 hsz hX3 hr2 hk2 hks hn
  go_wp2_with (refine wpList_store_row rfl 29 _ _ rfl w2.heap.size #[.int .i8 kd, .int .i64 0, .int .i64 0, .int .i64 0, .bool false, .slice none 0 0, .int .i64 0, .int .i64 0, .int .i64 0, .int .i64 0, .int .i64 0, .int .i64 0] rfl rfl 29 #[.int .i8 0, .int .i64 0, .int .i64 0, .int .i64 0, .bool false, .slice none 0 0, .int .i64 0, .int .i64 0, .int .i64 0, .int .i64 0, .int .i64 0, .int .i64 0] HZ3.out HIk.out HSk.out HOk.out ?_; rw [← HW3.out])
  refine HFl.out.mono ?_
  rintro e w4 ⟨L, cl, rfl, hb4, hf4⟩
  have HB4 := Lib.hid hb4
  have HF := Lib.hid hf4
  have HX4 := Lib.hid (HX3.out.below hb4)
  have HR4 := Lib.hid (HR3.out.below hb4 HR3.out.lt)
  clear hb4 hf4
  go_wp2_with fail
  go_loopw [16] (fun i wr => ∃ k : Nat, k ≤ n ∧ i = .int .i64 (k : Int) ∧ (∃ A' c', RBox wr w2.heap.size (w2.heap.size < ·) A' c' (readAll bs (ks.take k) ({ zRc with kind := kd }, 1)).1) ∧ Nr wr w.heap.size (w.heap.size + 1) (bs.drop (readAll bs (ks.take k) ({ zRc with kind := kd }, 1)).2) ∧ Kept7 (fun b => b = w.heap.size + 1 ∨ b = w2.heap.size) w4 wr) (fun i _ => n - (intOf i).toNat)
  case atStart => exact ⟨0, Nat.zero_le _, rfl, ⟨_, _, HX4.out⟩, HR4.out, Kept7.refl _ _⟩
  case round =>
    obtain ⟨k, hk, rfl, ⟨A2, c2, hX⟩, hr, hkp⟩ := hrel
    have HX := Lib.hid hX
    have HR := Lib.hid hr
    have HK := Lib.hid hkp
    clear hX hr hkp
    have HSz := Lib.hid (show w3.heap.size ≤ w4.heap.size ∧ w4.heap.size ≤ wr.heap.size from ⟨HB4.out.size, HK.out.size⟩)
    by_cases hlt : k < n
    · have hkl : k < ks.length := by rw [← HN.out]; exact hlt
      have hki : (k : Int) < (n : Int) := by omega
      have hw1 : IntKind.i64.wrap ((k : Int) + 1) = (k : Int) + 1 := by rw [IntKind.wrap_i64]; omega
      obtain ⟨g, z0, z1, z2, z3, rfl, hE⟩ := elt_at HF.out (wr := wr) (fun b hN hb => HK.out.block b hb (by have := HS.out; omega)) k hkl
      have HE := Lib.hid hE
      have H1 := Lib.hid (one4 hE.fld.one)
      have HI := Lib.hid (size4 z0 z1 z2 z3)
      have HIa := Lib.hid (size4a z0 z1 z2 z3)
      have HS0 := Lib.hid (zero4 z0 z1 z2 z3)
      have HAt := Lib.hid hE.at_
      obtain ⟨hb9, hg9, hz9⟩ := box_made wr #[.nilFunc, .nilFunc, .nilFunc, .nilFunc] #[z0, z1, z2, z3] 55
      have HZ := Lib.hid (heap_alloc_new wr (.cells #[.nilFunc, .nilFunc, .nilFunc, .nilFunc] 55))
      obtain ⟨w9, hw9⟩ : ∃ w9, w9 = (wr.alloc (.cells #[.nilFunc, .nilFunc, .nilFunc, .nilFunc] 55)).setRow wr.heap.size #[z0, z1, z2, z3] := ⟨_, rfl⟩
      rw [← hw9] at hb9 hg9 hz9
      have HW9 := Lib.hid hw9
      have HB9 := Lib.hid hb9
      clear hE hw9
      obtain ⟨nf, b1, b2, h0, hent, hcall⟩ := fld_read (k := ks[k]) (HE.out.fld.keep (w' := w9) fun b _ hb => HB9.out.block b (by have := HSz.out; omega)) (by have := HSz.out; omega) (HX.out.below HB9.out) (by have := HS.out; omega) (HR.out.below HB9.out HR.out.lt) HBt.out (by have := HS.out; omega)
      have hc0 : w9.cell? ⟨wr.heap.size, 2, none⟩ = some (f2 nf b1 b2) := by rw [cell_of_row w9 _ 2 _ _ _ hg9, ← h0]; rfl
      unfold f2 at hc0
      unfold Ent at hent
      have HCall := Lib.hid hcall
      have HMk := Lib.hid (readAll_succ hkl bs ({ zRc with kind := kd }, 1))
      have HKx := Lib.hid (HK.out.trans (Kept7.of_below HB9.out (Nat.le_refl _)))
      clear hcall h0 hb9 hg9 hz9
      go_wp2_with (first
        | (refine wpList_load_part rfl 55 _ rfl g (k * 4) rfl [z0, z1, z2, z3] _ HAt.out Try.underlying55 rfl HI.out ?_)
        | (refine wpList_store_row rfl 55 _ _ rfl wr.heap.size #[z0, z1, z2, z3] rfl rfl 55 #[.nilFunc, .nilFunc, .nilFunc, .nilFunc] HZ.out HIa.out HS0.out H1.out ?_; rw [← HW9.out]))
      refine HCall.out.mono ?_
      rintro e w10 ⟨rfl, hX10, hr10, hk10⟩
      have HX10 := Lib.hid hX10
      have HR10 := Lib.hid hr10
      have HK10 := Lib.hid hk10
      clear hX10 hr10 hk10
      go_wp2
      go_roundw
      case rel => exact ⟨k + 1, by omega, by simp, by rw [HMk.out]; exact HX10.out, by rw [HMk.out]; exact HR10.out, HKx.out.trans HK10.out⟩
      case measure => simp [intOf]; omega
    · obtain rfl : k = n := by omega
      have hki : ¬ (k : Int) < (k : Int) := by omega
      have hX6 : RBox wr w2.heap.size (w2.heap.size < ·) A2 c2 (parseR bs) := by
        rw [HPar.out]
        have h := HX.out
        rwa [List.take_of_length_le (Nat.le_of_eq HN.out.symm)] at h
      have HX6 := Lib.hid hX6
      have L0 := Lib.hid (show wr.heap[w.heap.size]? = some (.cells #[.int .i8 0, .int .i64 0, .int .i64 0, .int .i64 0, .bool false, .slice none 0 0, .int .i64 0, .int .i64 0, .int .i64 0, .int .i64 0, .int .i64 0, .int .i64 0] 29 (0, 0)) from (HK.out.block _ (by have := HS.out; have := HSz.out; omega) (by have := HS.out; omega)).trans ((HB4.out.block _ (by have := HS.out; omega)).trans HG3.out))
      have L1 := Lib.hid hX6.row
      have HI := Lib.hid (show (Try.prog.info? 29).map (·.size) = some (recv A2 c2 (parseR bs)).toArray.size by kernel_rfl)
      have HSr := Lib.hid (show (#[.int .i8 0, .int .i64 0, .int .i64 0, .int .i64 0, .bool false, .slice none 0 0, .int .i64 0, .int .i64 0, .int .i64 0, .int .i64 0, .int .i64 0, .int .i64 0] : Array Value).size = (recv A2 c2 (parseR bs)).toArray.size from rfl)
      have H1 := Lib.hid (show (recv A2 c2 (parseR bs)).toArray.all (·.oneCell') = true by simp [recv, Value.oneCell'])
      have hb6 : Below w.heap.size w wr := HB3.out.trans ((HB4.out.mono (by have := HS.out; omega)).trans (HK.out.to_below (by have := HS.out; have := HSz.out; omega) (fun q hq e => by have := HS.out; omega)))
      have HB6 := Lib.hid (below_setRow hb6 (Nat.le_refl _) (recv A2 c2 (parseR bs)).toArray)
      have HWr := Lib.hid ((hX6.wrs.keep (w' := wr.setRow w.heap.size (recv A2 c2 (parseR bs)).toArray) (fun b hb => setRow_other _ _ _ _ (by have h2 : w2.heap.size < b := hb.1; have := HS.out; omega)) (by simp [World.setRow])).mono (P' := fun b => w.heap.size ≤ b) fun b hb _ => by have h2 : w2.heap.size < b := hb; have := HS.out; omega)
      have HRow := Lib.hid (setRow_heap wr w.heap.size #[.int .i8 0, .int .i64 0, .int .i64 0, .int .i64 0, .bool false, .slice none 0 0, .int .i64 0, .int .i64 0, .int .i64 0, .int .i64 0, .int .i64 0, .int .i64 0] (recv A2 c2 (parseR bs)).toArray 29 (0, 0) L0.out)
      clear hX6 hb6
      go_wp2_with (first
        | (refine wpList_load_row rfl 29 _ rfl w2.heap.size rfl 29 (recv A2 c2 (parseR bs)).toArray (0, 0) _ L1.out Try.underlying29 rfl HI.out ?_)
        | (refine wpList_store_row rfl 29 _ _ rfl w.heap.size (recv A2 c2 (parseR bs)).toArray rfl rfl 29 #[.int .i8 0, .int .i64 0, .int .i64 0, .int .i64 0, .bool false, .slice none 0 0, .int .i64 0, .int .i64 0, .int .i64 0, .int .i64 0, .int .i64 0, .int .i64 0] L0.out HI.out HSr.out H1.out ?_))
      exact bodyPost_ret (results_cell_one (t := 29) (p := 2) rfl _ _ w.heap.size _ (0, 0) _ rfl HRow.out Try.underlying29 rfl HI.out) rfl ⟨_, _, rfl, HWr.out, HX6.out.fine, HB6.out⟩
end Go.Proofs.Ytaokhbodmodcgaa
end

section
/-
  What the developers' parse makes of bytes that read is the record that they read as.
-/
namespace Go.Proofs.Ytaokhbodmodcgaa
open Go.RowKit

theorem bind_some {α β : Type} {o : Option (α × List Nat)} {g : α → List Nat → Option (β × List Nat)} {y : β × List Nat} (h : bind7 o g = some y) : ∃ x q, o = some (x, q) ∧ g x q = some y := by
  cases o with
  | none => cases h
  | some z => exact ⟨z.1, z.2, rfl, h⟩
section
variable {bs : List Nat} {a : Nat}
theorem one_at {x : Int} {q : List Nat} (h : rdOne (bs.drop a) = some (x, q)) : x = ((bt bs a : Nat) : Int) ∧ q = bs.drop (a + 1) := by
  rcases Nat.lt_or_ge a bs.length with hl | hl
  · rw [List.drop_eq_getElem_cons hl] at h
    simp only [rdOne, Option.some.injEq, Prod.mk.injEq] at h
    refine ⟨?_, h.2.symm⟩
    unfold bt
    rw [getD_at _ _ hl]
    exact h.1.symm
  · rw [List.drop_eq_nil_of_le hl] at h
    cases h
theorem three_at {x : Int} {q : List Nat} (h : rdThree (bs.drop a) = some (x, q)) : x = ((gz bs a 3 : Nat) : Int) ∧ q = bs.drop (a + 3) := by
  rw [rdThree_eq] at h
  obtain ⟨x0, q0, h0, h⟩ := bind_some h
  obtain ⟨e0, rfl⟩ := one_at h0
  obtain ⟨x1, q1, h1, h⟩ := bind_some h
  obtain ⟨e1, rfl⟩ := one_at h1
  obtain ⟨x2, q2, h2, h⟩ := bind_some h
  obtain ⟨e2, rfl⟩ := one_at h2
  simp only [Option.some.injEq, Prod.mk.injEq] at h
  refine ⟨?_, h.2.symm⟩
  rw [← h.1, e0, e1, e2]
  have e3 : bt bs (a + 1 + 1) = bt bs (a + 2) := rfl
  have e4 : bt bs (a + 0) = bt bs a := rfl
  simp only [gz]
  omega
theorem name_at {n : Nm} {q : List Nat} (h : rdName (bs.drop a) = some (n, q)) : n = nmOf bs a ∧ q = bs.drop (a + 9) := by
  rw [rdName_eq] at h
  obtain ⟨x0, q0, h0, h⟩ := bind_some h
  obtain ⟨e0, rfl⟩ := three_at h0
  obtain ⟨x1, q1, h1, h⟩ := bind_some h
  obtain ⟨e1, rfl⟩ := three_at h1
  obtain ⟨x2, q2, h2, h⟩ := bind_some h
  obtain ⟨e2, rfl⟩ := three_at h2
  simp only [Option.some.injEq, Prod.mk.injEq] at h
  exact ⟨by rw [← h.1, e0, e1, e2]; rfl, h.2.symm⟩
theorem many_at {n : Nat} : ∀ {vs : List Nat} {q : List Nat}, rdN n (bs.drop a) = some (vs, q) → vs = (List.range n).map (fun j => bt bs (a + j)) ∧ q = bs.drop (a + n) := by
  induction n with
  | zero => intro vs q h; simp only [rdN, Option.some.injEq, Prod.mk.injEq] at h; exact ⟨h.1.symm, h.2.symm⟩
  | succ n ih =>
    intro vs q h
    obtain ⟨x0, q0, h0, h⟩ := bind_some h
    obtain ⟨e0, rfl⟩ := ih h0
    obtain ⟨x1, q1, h1, h⟩ := bind_some h
    obtain ⟨e1, rfl⟩ := one_at h1
    simp only [Option.some.injEq, Prod.mk.injEq] at h
    refine ⟨?_, h.2.symm⟩
    rw [← h.1, e0, e1, List.range_succ, List.map_append]
    rfl
theorem rows_at {n : Nat} : ∀ {l : List (Int × List Nat)} {q : List Nat}, rdM n (bs.drop (a + 1)) = some (l, q) → l = wsOf bs a n ∧ q = bs.drop (a + 1 + 9 * n) := by
  induction n with
  | zero => intro l q h; simp only [rdM, Option.some.injEq, Prod.mk.injEq] at h; exact ⟨h.1.symm, h.2.symm⟩
  | succ n ih =>
    intro l q h
    obtain ⟨x0, q0, h0, h⟩ := bind_some h
    obtain ⟨e0, rfl⟩ := ih h0
    obtain ⟨x1, q1, h1, h⟩ := bind_some h
    obtain ⟨e1, rfl⟩ := one_at h1
    obtain ⟨x2, q2, h2, h⟩ := bind_some h
    obtain ⟨e2, rfl⟩ := many_at h2
    simp only [Option.some.injEq, Prod.mk.injEq] at h
    refine ⟨?_, ?_⟩
    · rw [← h.1, e0, e1, e2, wsOf_succ]; rfl
    · rw [← h.2]; congr 1
theorem writes_at {l : List (Int × List Nat)} {q : List Nat} (h : rdWrites (bs.drop a) = some (l, q)) : l = wsOf bs a (bt bs a) ∧ q = bs.drop (a + (1 + 9 * bt bs a)) := by
  rw [rdWrites_eq] at h
  obtain ⟨x0, q0, h0, h⟩ := bind_some h
  obtain ⟨e0, rfl⟩ := one_at h0
  rw [e0, Int.toNat_natCast] at h
  obtain ⟨e1, rfl⟩ := rows_at h
  exact ⟨e1, by rw [Nat.add_assoc]⟩
theorem flag_at {y : Bool} {q : List Nat} (h : rdFlag (bs.drop a) = some (y, q)) : y = decide (bt bs a ≠ 0) ∧ q = bs.drop (a + 1) := by
  obtain ⟨x0, q0, h0, h⟩ := bind_some h
  obtain ⟨e0, rfl⟩ := one_at h0
  by_cases h1 : 1 < x0
  · rw [if_pos h1] at h; cases h
  · rw [if_neg h1] at h
    simp only [Option.some.injEq, Prod.mk.injEq] at h
    refine ⟨?_, h.2.symm⟩
    rw [← h.1, decide_eq_decide]
    omega
end
theorem parse_kind {k : Nat} {t : List Nat} (h : 1 ≤ k ∧ k ≤ 7) : kindZ (k :: t) = (k : Int) := by
  unfold kindZ bt
  exact i8_low (by simp; omega)
theorem parse_read {bs : List Nat} {r : Rc} (h : readR bs = some r) : parseR bs = r := by
  obtain ⟨h1, hm⟩ := read_some h
  cases bs with
  | nil => cases h1
  | cons k t =>
    by_cases hk : 1 ≤ k ∧ k ≤ 7
    · have hz := parse_kind (t := t) hk
      have hd : t = (k :: t).drop 1 := rfl
      unfold parseR
      rw [hz]
      have hcases : k = 1 ∨ k = 2 ∨ k = 3 ∨ k = 4 ∨ k = 5 ∨ k = 6 ∨ k = 7 := by omega
      rcases hcases with rfl | rfl | rfl | rfl | rfl | rfl | rfl
      · rw [rdRest_1, hd] at h1
        obtain ⟨x0, q0, h0, h1⟩ := bind_some h1
        obtain ⟨rfl, rfl⟩ := name_at h0
        obtain ⟨x1, q1, h2, h1⟩ := bind_some h1
        obtain ⟨rfl, rfl⟩ := writes_at h2
        simp only [Option.some.injEq, Prod.mk.injEq] at h1
        rw [← h1.1]; rfl
      · rw [rdRest_2, hd] at h1
        obtain ⟨x0, q0, h0, h1⟩ := bind_some h1
        obtain ⟨rfl, rfl⟩ := name_at h0
        obtain ⟨x1, q1, h2, h1⟩ := bind_some h1
        obtain ⟨rfl, rfl⟩ := writes_at h2
        obtain ⟨x2, q2, h3, h1⟩ := bind_some h1
        obtain ⟨rfl, rfl⟩ := one_at h3
        obtain ⟨x3, q3, h4, h1⟩ := bind_some h1
        obtain ⟨rfl, rfl⟩ := one_at h4
        simp only [Option.some.injEq, Prod.mk.injEq] at h1
        rw [← h1.1]; rfl
      · rw [rdRest_3, hd] at h1
        obtain ⟨x0, q0, h0, h1⟩ := bind_some h1
        obtain ⟨rfl, rfl⟩ := name_at h0
        obtain ⟨x1, q1, h2, h1⟩ := bind_some h1
        obtain ⟨rfl, rfl⟩ := flag_at h2
        simp only [Option.some.injEq, Prod.mk.injEq] at h1
        rw [← h1.1]; rfl
      · rw [rdRest_4, hd] at h1
        obtain ⟨x0, q0, h0, h1⟩ := bind_some h1
        obtain ⟨rfl, rfl⟩ := name_at h0
        obtain ⟨x1, q1, h2, h1⟩ := bind_some h1
        obtain ⟨rfl, rfl⟩ := one_at h2
        obtain ⟨x2, q2, h3, h1⟩ := bind_some h1
        obtain ⟨rfl, rfl⟩ := one_at h3
        obtain ⟨x3, q3, h4, h1⟩ := bind_some h1
        obtain ⟨rfl, rfl⟩ := one_at h4
        simp only [Option.some.injEq, Prod.mk.injEq] at h1
        rw [← h1.1]; rfl
      · rw [rdRest_5, hd] at h1
        obtain ⟨x0, q0, h0, h1⟩ := bind_some h1
        obtain ⟨rfl, rfl⟩ := name_at h0
        simp only [Option.some.injEq, Prod.mk.injEq] at h1
        rw [← h1.1]; rfl
      · rw [rdRest_n (by omega), hd] at h1
        obtain ⟨x0, q0, h0, h1⟩ := bind_some h1
        obtain ⟨rfl, rfl⟩ := three_at h0
        simp only [Option.some.injEq, Prod.mk.injEq] at h1
        rw [← h1.1]; rfl
      · rw [rdRest_n (by omega), hd] at h1
        obtain ⟨x0, q0, h0, h1⟩ := bind_some h1
        obtain ⟨rfl, rfl⟩ := three_at h0
        simp only [Option.some.injEq, Prod.mk.injEq] at h1
        rw [← h1.1]; rfl
    · rw [readR_other (by omega)] at h
      cases h
/-- read as the developers do: parsed, and made bytes of again -/
theorem read_again {bs : List Nat} (hb : ∀ x ∈ bs, x < 256) (hv : ValOk (parseR bs).writes) : readR bs = if mayR (parseR bs) = true ∧ bs = bytesR (parseR bs) then some (parseR bs) else none := by
  split
  · rename_i h
    rw [h.2]
    have h2 := read_bytes h.1 hv
    rw [← h.2] at h2 ⊢
    exact h2
  · rename_i h
    cases hr : readR bs with
    | none => rfl
    | some r =>
      have e := parse_read hr
      obtain ⟨h1, h2⟩ := bytes_read hr hb
      exact absurd ⟨by rw [e]; exact h2, by rw [e]; exact h1.symm⟩ h
end Go.Proofs.Ytaokhbodmodcgaa
end

section
/-
  The document's answer of a record's bytes, and how many sectors they want.
-/
namespace Go.Proofs.Ytaokhbodmodcgaa
open Go.RowKit
set_option maxRecDepth 100000

theorem written_low {l : List (Int × List Nat)} (h : writtenB l = true) (hf : WrFine l) : LowW l := by
  unfold writtenB at h
  simp only [Bool.and_eq_true, decide_eq_true_eq] at h
  exact ⟨h.1, fun x hx => ⟨rising_block (by omega) h.2 x hx, (hf x hx).2⟩⟩
theorem own_one (w : World) (base k : Nat) (hb : base ≤ w.heap.size) : Own (w.alloc (.cells #[.int .u8 (k : Int)] 5)) base [k] (.slice (some ⟨w.heap.size, 0, none⟩) 1 1) :=
  ⟨rfl, Or.inr ⟨w.heap.size, 1, #[.int .u8 (k : Int)], rfl, hb, heap_alloc_new w _, Nat.le_refl _, by unfold maxLen; omega, rfl, rfl⟩⟩
set_option maxHeartbeats 8000000 in
theorem bytes_any (r : Rc) (A : Option Addr) (cc : Nat) (w : World) (P : Nat → Prop) (hl : Wrs w P A r.writes) (hfl : WrFine r.writes) (hll : r.writes.length ≤ 1000000) (hsh : I64 r.shards) :
    Calls Try.prog 11 #[.agg (recv A cc r).toArray] w fun e w' => ∃ v, e = .returned (.tuple #[v, .int .i64 (bytesE r)]) ∧ New w w' (bytesL r) v := by
  have hlw : Wrs w (fun k => k < w.heap.size) A r.writes := hl.mono fun k _ h => h
  obtain ⟨w1, hw1⟩ : ∃ w1, w1 = w.alloc (.cells (recv A cc r).toArray 29) := ⟨_, rfl⟩
  have hb1 : Below w.heap.size w w1 := by rw [hw1]; exact (Below.refl _ w).alloc (Nat.le_refl _) _
  have hg1 : w1.heap[w.heap.size]? = some (.cells (recv A cc r).toArray 29 (0, 0)) := by rw [hw1]; exact heap_alloc_new w _
  have hm := may_any r A cc w1 P (hl.below hb1) hfl hll hsh
  cases hmay : mayR r with
  | false =>
    rw [hmay] at hm
    have HM := Lib.hid hm
    have HE := Lib.hid (show bytesE r = 2 ∧ bytesL r = [] by unfold bytesE bytesL; rw [hmay]; exact ⟨rfl, rfl⟩)
    obtain ⟨k, ⟨a, b, c⟩, y, l, g, t, sh, st, tt, n⟩ := r
    rw [HE.out.1, HE.out.2]
    unfold recv at hw1 hg1 HM
    unfold recv
    simp only at hw1 hg1 HM
    simp only
    have HG1 := Lib.hid hg1
    have HB1 := Lib.hid hb1
    have HW1 := Lib.hid hw1
    have c0 : w1.cell? ⟨w.heap.size, 0, none⟩ = some (.int .i8 k) := by rw [cell_of_row w1 _ 0 _ _ _ hg1]; rfl
    have c1 : w1.cell? ⟨w.heap.size, 1, none⟩ = some (.int .i64 a) := by rw [cell_of_row w1 _ 1 _ _ _ hg1]; rfl
    have c2 : w1.cell? ⟨w.heap.size, 2, none⟩ = some (.int .i64 b) := by rw [cell_of_row w1 _ 2 _ _ _ hg1]; rfl
    have c3 : w1.cell? ⟨w.heap.size, 3, none⟩ = some (.int .i64 c) := by rw [cell_of_row w1 _ 3 _ _ _ hg1]; rfl
    have c4 : w1.cell? ⟨w.heap.size, 4, none⟩ = some (.bool y) := by rw [cell_of_row w1 _ 4 _ _ _ hg1]; rfl
    have c5 : w1.cell? ⟨w.heap.size, 5, none⟩ = some (.slice A l.length cc) := by rw [cell_of_row w1 _ 5 _ _ _ hg1]; rfl
    have c6 : w1.cell? ⟨w.heap.size, 6, none⟩ = some (.int .i64 g) := by rw [cell_of_row w1 _ 6 _ _ _ hg1]; rfl
    have c7 : w1.cell? ⟨w.heap.size, 7, none⟩ = some (.int .i64 t) := by rw [cell_of_row w1 _ 7 _ _ _ hg1]; rfl
    have c8 : w1.cell? ⟨w.heap.size, 8, none⟩ = some (.int .i64 sh) := by rw [cell_of_row w1 _ 8 _ _ _ hg1]; rfl
    have c9 : w1.cell? ⟨w.heap.size, 9, none⟩ = some (.int .i64 st) := by rw [cell_of_row w1 _ 9 _ _ _ hg1]; rfl
    have c10 : w1.cell? ⟨w.heap.size, 10, none⟩ = some (.int .i64 tt) := by rw [cell_of_row w1 _ 10 _ _ _ hg1]; rfl
    have c11 : w1.cell? ⟨w.heap.size, 11, none⟩ = some (.int .i64 n) := by rw [cell_of_row w1 _ 11 _ _ _ hg1]; rfl
    clear hw1 hb1 hg1 hm hl hlw hfl hll hsh hmay
    go_enter Try.func11, Try.ntmps11
    go_wp2_with (rw [← HW1.out])
    refine HM.out.mono ?_
    rintro e w2 ⟨rfl, hb2⟩
    have HB2 := Lib.hid (HB1.out.trans (hb2.mono HB1.out.size))
    clear hb2
    go_wp2
    go_ret2
    exact ⟨.slice none 0 0, rfl, Own.nil_ _ _, HB2.out⟩
  | true =>
    rw [hmay] at hm
    have HM := Lib.hid hm
    have HE := Lib.hid (show bytesE r = 0 ∧ bytesL r = bytesR r by unfold bytesE bytesL; rw [hmay]; exact ⟨rfl, rfl⟩)
    obtain ⟨hk, _⟩ := may_parts hmay
    have HNm := Lib.hid (may_named hmay)
    have HNn := Lib.hid (may_n hmay)
    have HW := Lib.hid hlw
    have HF := Lib.hid hfl
    rw [HE.out.1, HE.out.2]
    obtain ⟨k, ⟨a, b, c⟩, y, l, g, t, sh, st, tt, n⟩ := r
    simp only at hk HNm HNn HW HF
    rcases kinds hk with rfl | rfl | rfl | rfl | rfl | rfl | rfl
    · obtain ⟨n1, n2, _, _⟩ := HNm.out (by simp)
      have HNl := Lib.hid (named_lt n1)
      have HLw := Lib.hid (written_low n2 HF.out)
      clear n1 n2 HNm HNn
      unfold recv at hw1 hg1 HM
      unfold recv
      simp only at hw1 hg1 HM
      simp only
      have HG1 := Lib.hid hg1
      have HB1 := Lib.hid hb1
      have HW1 := Lib.hid hw1
      have c0 : w1.cell? ⟨w.heap.size, 0, none⟩ = some (.int .i8 1) := by rw [cell_of_row w1 _ 0 _ _ _ hg1]; rfl
      have c1 : w1.cell? ⟨w.heap.size, 1, none⟩ = some (.int .i64 a) := by rw [cell_of_row w1 _ 1 _ _ _ hg1]; rfl
      have c2 : w1.cell? ⟨w.heap.size, 2, none⟩ = some (.int .i64 b) := by rw [cell_of_row w1 _ 2 _ _ _ hg1]; rfl
      have c3 : w1.cell? ⟨w.heap.size, 3, none⟩ = some (.int .i64 c) := by rw [cell_of_row w1 _ 3 _ _ _ hg1]; rfl
      have c4 : w1.cell? ⟨w.heap.size, 4, none⟩ = some (.bool y) := by rw [cell_of_row w1 _ 4 _ _ _ hg1]; rfl
      have c5 : w1.cell? ⟨w.heap.size, 5, none⟩ = some (.slice A l.length cc) := by rw [cell_of_row w1 _ 5 _ _ _ hg1]; rfl
      have c6 : w1.cell? ⟨w.heap.size, 6, none⟩ = some (.int .i64 g) := by rw [cell_of_row w1 _ 6 _ _ _ hg1]; rfl
      have c7 : w1.cell? ⟨w.heap.size, 7, none⟩ = some (.int .i64 t) := by rw [cell_of_row w1 _ 7 _ _ _ hg1]; rfl
      have c8 : w1.cell? ⟨w.heap.size, 8, none⟩ = some (.int .i64 sh) := by rw [cell_of_row w1 _ 8 _ _ _ hg1]; rfl
      have c9 : w1.cell? ⟨w.heap.size, 9, none⟩ = some (.int .i64 st) := by rw [cell_of_row w1 _ 9 _ _ _ hg1]; rfl
      have c10 : w1.cell? ⟨w.heap.size, 10, none⟩ = some (.int .i64 tt) := by rw [cell_of_row w1 _ 10 _ _ _ hg1]; rfl
      have c11 : w1.cell? ⟨w.heap.size, 11, none⟩ = some (.int .i64 n) := by rw [cell_of_row w1 _ 11 _ _ _ hg1]; rfl
      clear hw1 hb1 hg1 hm hl hlw hfl hll hsh hmay hk
      go_enter Try.func11, Try.ntmps11
      go_wp2_with (rw [← HW1.out])
      refine HM.out.mono ?_
      rintro e w2 ⟨rfl, hb2⟩
      have HB2 := Lib.hid hb2
      clear c0 c1 c2 c3 c4 c5 c6 c7 c8 c9 c10 c11
      have g2 := (hb2.block _ (Array.getElem?_eq_some_iff.1 HG1.out).1).trans HG1.out
      have c0 : w2.cell? ⟨w.heap.size, 0, none⟩ = some (.int .i8 1) := by rw [cell_of_row w2 _ 0 _ _ _ g2]; rfl
      have c1 : w2.cell? ⟨w.heap.size, 1, none⟩ = some (.int .i64 a) := by rw [cell_of_row w2 _ 1 _ _ _ g2]; rfl
      have c2 : w2.cell? ⟨w.heap.size, 2, none⟩ = some (.int .i64 b) := by rw [cell_of_row w2 _ 2 _ _ _ g2]; rfl
      have c3 : w2.cell? ⟨w.heap.size, 3, none⟩ = some (.int .i64 c) := by rw [cell_of_row w2 _ 3 _ _ _ g2]; rfl
      have c4 : w2.cell? ⟨w.heap.size, 4, none⟩ = some (.bool y) := by rw [cell_of_row w2 _ 4 _ _ _ g2]; rfl
      have c5 : w2.cell? ⟨w.heap.size, 5, none⟩ = some (.slice A l.length cc) := by rw [cell_of_row w2 _ 5 _ _ _ g2]; rfl
      have c6 : w2.cell? ⟨w.heap.size, 6, none⟩ = some (.int .i64 g) := by rw [cell_of_row w2 _ 6 _ _ _ g2]; rfl
      have c7 : w2.cell? ⟨w.heap.size, 7, none⟩ = some (.int .i64 t) := by rw [cell_of_row w2 _ 7 _ _ _ g2]; rfl
      have c8 : w2.cell? ⟨w.heap.size, 8, none⟩ = some (.int .i64 sh) := by rw [cell_of_row w2 _ 8 _ _ _ g2]; rfl
      have c9 : w2.cell? ⟨w.heap.size, 9, none⟩ = some (.int .i64 st) := by rw [cell_of_row w2 _ 9 _ _ _ g2]; rfl
      have c10 : w2.cell? ⟨w.heap.size, 10, none⟩ = some (.int .i64 tt) := by rw [cell_of_row w2 _ 10 _ _ _ g2]; rfl
      have c11 : w2.cell? ⟨w.heap.size, 11, none⟩ = some (.int .i64 n) := by rw [cell_of_row w2 _ 11 _ _ _ g2]; rfl
      clear g2 hb2
      obtain ⟨w3, hw3⟩ : ∃ w3, w3 = w2.alloc (.cells #[.int .u8 1] 5) := ⟨_, rfl⟩
      have hb12 := HB1.out.trans (HB2.out.mono HB1.out.size)
      have hlt1 : w.heap.size < w1.heap.size := (Array.getElem?_eq_some_iff.1 HG1.out).1
      have ho3 : Own w3 w.heap.size [1] (.slice (some ⟨w2.heap.size, 0, none⟩) 1 1) := by rw [hw3]; exact own_one w2 w.heap.size 1 hb12.size
      have hg23 : Below w2.heap.size w2 w3 := by rw [hw3]; exact (Below.refl _ w2).alloc (Nat.le_refl _) _
      have HB3 := Lib.hid (hb12.trans (hg23.mono hb12.size))
      have HG3 := Lib.hid (show ∀ X u, Grew w3 X (.slice (some ⟨w2.heap.size, 0, none⟩) 1 1) u → X.heap[w.heap.size]? = some (.cells [.int .i8 1, .int .i64 a, .int .i64 b, .int .i64 c, .bool y, .slice A l.length cc, .int .i64 g, .int .i64 t, .int .i64 sh, .int .i64 st, .int .i64 tt, .int .i64 n].toArray 29 (0, 0)) from fun X u hX => by
        have h1 := hg23.size
        have h2 := HB2.out.size
        exact (hX.block _ (by omega) (fun e => by have h3 : w2.heap.size = w.heap.size := (by simpa [Value.ownBlock] using e); omega)).trans ((hg23.block _ (by omega)).trans ((HB2.out.block _ hlt1).trans HG1.out)))
      have HOut := Lib.hid (show ∀ X u, Grew w3 X (.slice (some ⟨w2.heap.size, 0, none⟩) 1 1) u → Below w.heap.size w X from fun X u hX => HB3.out.trans (hX.to_below HB3.out.size (fun k e => by have h3 : w2.heap.size = k := (by simpa [Value.ownBlock] using e); have := hb12.size; omega)))
      have HO3 := Lib.hid ho3
      have HW3 := Lib.hid hw3
      have g3 := HG3.out w3 _ (Grew.refl _ _)
      have c0 : w3.cell? ⟨w.heap.size, 0, none⟩ = some (.int .i8 1) := by rw [cell_of_row w3 _ 0 _ _ _ g3]; rfl
      have c1 : w3.cell? ⟨w.heap.size, 1, none⟩ = some (.int .i64 a) := by rw [cell_of_row w3 _ 1 _ _ _ g3]; rfl
      have c2 : w3.cell? ⟨w.heap.size, 2, none⟩ = some (.int .i64 b) := by rw [cell_of_row w3 _ 2 _ _ _ g3]; rfl
      have c3 : w3.cell? ⟨w.heap.size, 3, none⟩ = some (.int .i64 c) := by rw [cell_of_row w3 _ 3 _ _ _ g3]; rfl
      have c4 : w3.cell? ⟨w.heap.size, 4, none⟩ = some (.bool y) := by rw [cell_of_row w3 _ 4 _ _ _ g3]; rfl
      have c5 : w3.cell? ⟨w.heap.size, 5, none⟩ = some (.slice A l.length cc) := by rw [cell_of_row w3 _ 5 _ _ _ g3]; rfl
      have c6 : w3.cell? ⟨w.heap.size, 6, none⟩ = some (.int .i64 g) := by rw [cell_of_row w3 _ 6 _ _ _ g3]; rfl
      have c7 : w3.cell? ⟨w.heap.size, 7, none⟩ = some (.int .i64 t) := by rw [cell_of_row w3 _ 7 _ _ _ g3]; rfl
      have c8 : w3.cell? ⟨w.heap.size, 8, none⟩ = some (.int .i64 sh) := by rw [cell_of_row w3 _ 8 _ _ _ g3]; rfl
      have c9 : w3.cell? ⟨w.heap.size, 9, none⟩ = some (.int .i64 st) := by rw [cell_of_row w3 _ 9 _ _ _ g3]; rfl
      have c10 : w3.cell? ⟨w.heap.size, 10, none⟩ = some (.int .i64 tt) := by rw [cell_of_row w3 _ 10 _ _ _ g3]; rfl
      have c11 : w3.cell? ⟨w.heap.size, 11, none⟩ = some (.int .i64 n) := by rw [cell_of_row w3 _ 11 _ _ _ g3]; rfl
      clear g3 ho3 hg23 hb12 hw3 hlt1
      have hcut : (1 : Nat) < 256 := by omega
      go_wp2_with (rw [← HW3.out])
      have hna := nameL_any ⟨a, b, c⟩ [1] (.slice (some ⟨w2.heap.size, 0, none⟩) 1 1) w.heap.size w3 HNl.out HO3.out HB3.out.size (by simp)
      unfold nmv at hna
      dsimp only at hna
      refine hna.mono ?_
      clear hna
      rintro e w4 ⟨v4, rfl, ho4, hg4⟩
      have HO4 := Lib.hid ho4
      have HG4 := Lib.hid hg4
      have g4 := HG3.out w4 _ hg4
      clear c0 c1 c2 c3 c4 c5 c6 c7 c8 c9 c10 c11
      have c0 : w4.cell? ⟨w.heap.size, 0, none⟩ = some (.int .i8 1) := by rw [cell_of_row w4 _ 0 _ _ _ g4]; rfl
      have c1 : w4.cell? ⟨w.heap.size, 1, none⟩ = some (.int .i64 a) := by rw [cell_of_row w4 _ 1 _ _ _ g4]; rfl
      have c2 : w4.cell? ⟨w.heap.size, 2, none⟩ = some (.int .i64 b) := by rw [cell_of_row w4 _ 2 _ _ _ g4]; rfl
      have c3 : w4.cell? ⟨w.heap.size, 3, none⟩ = some (.int .i64 c) := by rw [cell_of_row w4 _ 3 _ _ _ g4]; rfl
      have c4 : w4.cell? ⟨w.heap.size, 4, none⟩ = some (.bool y) := by rw [cell_of_row w4 _ 4 _ _ _ g4]; rfl
      have c5 : w4.cell? ⟨w.heap.size, 5, none⟩ = some (.slice A l.length cc) := by rw [cell_of_row w4 _ 5 _ _ _ g4]; rfl
      have c6 : w4.cell? ⟨w.heap.size, 6, none⟩ = some (.int .i64 g) := by rw [cell_of_row w4 _ 6 _ _ _ g4]; rfl
      have c7 : w4.cell? ⟨w.heap.size, 7, none⟩ = some (.int .i64 t) := by rw [cell_of_row w4 _ 7 _ _ _ g4]; rfl
      have c8 : w4.cell? ⟨w.heap.size, 8, none⟩ = some (.int .i64 sh) := by rw [cell_of_row w4 _ 8 _ _ _ g4]; rfl
      have c9 : w4.cell? ⟨w.heap.size, 9, none⟩ = some (.int .i64 st) := by rw [cell_of_row w4 _ 9 _ _ _ g4]; rfl
      have c10 : w4.cell? ⟨w.heap.size, 10, none⟩ = some (.int .i64 tt) := by rw [cell_of_row w4 _ 10 _ _ _ g4]; rfl
      have c11 : w4.cell? ⟨w.heap.size, 11, none⟩ = some (.int .i64 n) := by rw [cell_of_row w4 _ 11 _ _ _ g4]; rfl
      have HL4 := Lib.hid (show ([1] ++ nameL ⟨a, b, c⟩).length = 10 from rfl)
      clear g4 ho4 hg4
      go_wp2_with fail
      refine (writes_any l A cc _ v4 w.heap.size w4 (fun k => k < w.heap.size) (HW.out.keep (HOut.out _ _ HG4.out).size fun b hb _ => (HOut.out _ _ HG4.out).block b hb) (fun k hk e => by have := own_ge HO4.out k e; have h2 : k < w.heap.size := hk; omega) HLw.out HO4.out (HOut.out _ _ HG4.out).size (by rw [HL4.out]; omega)).mono ?_
      rintro e w5 ⟨v5, rfl, ho5, hg5⟩
      have HO5 := Lib.hid ho5
      have HG5 := Lib.hid (HG4.out.trans hg5)
      have HB5 := Lib.hid (HOut.out _ _ HG5.out)
      have HEq := Lib.hid (show bytesR ⟨1, ⟨a, b, c⟩, y, l, g, t, sh, st, tt, n⟩ = [1] ++ nameL ⟨a, b, c⟩ ++ (l.length % 256 :: writesL l) by simp [bytesR, restL, byteN])
      clear ho5 hg5
      clear c0 c1 c2 c3 c4 c5 c6 c7 c8 c9 c10 c11
      go_wp2
      go_ret2
      refine ⟨v5, rfl, ?_, HB5.out⟩
      show Own _ _ (bytesR _) _
      rw [HEq.out]
      exact HO5.out
    · obtain ⟨n1, n2, n3, _⟩ := HNm.out (by simp)
      have HNl := Lib.hid (named_lt n1)
      have HLw := Lib.hid (written_low n2 HF.out)
      obtain ⟨⟨g0, g1⟩, t0, t1⟩ := given_lt n3
      have HX2 := Lib.hid (show ∀ x ∈ [byteN g, byteN t], x < 256 from fun x hx => by
        simp only [List.mem_cons, List.not_mem_nil, or_false] at hx
        rcases hx with rfl | rfl <;> exact byteN_lt _)
      have HV2 := Lib.hid (show (#[.int .u8 g, .int .u8 t] : Array Value).toList = vals [byteN g, byteN t] by
        unfold vals
        simp [byteN_nat g0 g1, byteN_nat t0 t1])
      have hwg : IntKind.u8.wrap g = g := by rw [IntKind.wrap_u8]; omega
      have hwt : IntKind.u8.wrap t = t := by rw [IntKind.wrap_u8]; omega
      clear n1 n2 n3 HNm HNn g0 t0 g1 t1
      unfold recv at hw1 hg1 HM
      unfold recv
      simp only at hw1 hg1 HM
      simp only
      have HG1 := Lib.hid hg1
      have HB1 := Lib.hid hb1
      have HW1 := Lib.hid hw1
      have c0 : w1.cell? ⟨w.heap.size, 0, none⟩ = some (.int .i8 2) := by rw [cell_of_row w1 _ 0 _ _ _ hg1]; rfl
      have c1 : w1.cell? ⟨w.heap.size, 1, none⟩ = some (.int .i64 a) := by rw [cell_of_row w1 _ 1 _ _ _ hg1]; rfl
      have c2 : w1.cell? ⟨w.heap.size, 2, none⟩ = some (.int .i64 b) := by rw [cell_of_row w1 _ 2 _ _ _ hg1]; rfl
      have c3 : w1.cell? ⟨w.heap.size, 3, none⟩ = some (.int .i64 c) := by rw [cell_of_row w1 _ 3 _ _ _ hg1]; rfl
      have c4 : w1.cell? ⟨w.heap.size, 4, none⟩ = some (.bool y) := by rw [cell_of_row w1 _ 4 _ _ _ hg1]; rfl
      have c5 : w1.cell? ⟨w.heap.size, 5, none⟩ = some (.slice A l.length cc) := by rw [cell_of_row w1 _ 5 _ _ _ hg1]; rfl
      have c6 : w1.cell? ⟨w.heap.size, 6, none⟩ = some (.int .i64 g) := by rw [cell_of_row w1 _ 6 _ _ _ hg1]; rfl
      have c7 : w1.cell? ⟨w.heap.size, 7, none⟩ = some (.int .i64 t) := by rw [cell_of_row w1 _ 7 _ _ _ hg1]; rfl
      have c8 : w1.cell? ⟨w.heap.size, 8, none⟩ = some (.int .i64 sh) := by rw [cell_of_row w1 _ 8 _ _ _ hg1]; rfl
      have c9 : w1.cell? ⟨w.heap.size, 9, none⟩ = some (.int .i64 st) := by rw [cell_of_row w1 _ 9 _ _ _ hg1]; rfl
      have c10 : w1.cell? ⟨w.heap.size, 10, none⟩ = some (.int .i64 tt) := by rw [cell_of_row w1 _ 10 _ _ _ hg1]; rfl
      have c11 : w1.cell? ⟨w.heap.size, 11, none⟩ = some (.int .i64 n) := by rw [cell_of_row w1 _ 11 _ _ _ hg1]; rfl
      clear hw1 hb1 hg1 hm hl hlw hfl hll hsh hmay hk
      go_enter Try.func11, Try.ntmps11
      go_wp2_with (rw [← HW1.out])
      refine HM.out.mono ?_
      rintro e w2 ⟨rfl, hb2⟩
      have HB2 := Lib.hid hb2
      clear c0 c1 c2 c3 c4 c5 c6 c7 c8 c9 c10 c11
      have g2 := (hb2.block _ (Array.getElem?_eq_some_iff.1 HG1.out).1).trans HG1.out
      have c0 : w2.cell? ⟨w.heap.size, 0, none⟩ = some (.int .i8 2) := by rw [cell_of_row w2 _ 0 _ _ _ g2]; rfl
      have c1 : w2.cell? ⟨w.heap.size, 1, none⟩ = some (.int .i64 a) := by rw [cell_of_row w2 _ 1 _ _ _ g2]; rfl
      have c2 : w2.cell? ⟨w.heap.size, 2, none⟩ = some (.int .i64 b) := by rw [cell_of_row w2 _ 2 _ _ _ g2]; rfl
      have c3 : w2.cell? ⟨w.heap.size, 3, none⟩ = some (.int .i64 c) := by rw [cell_of_row w2 _ 3 _ _ _ g2]; rfl
      have c4 : w2.cell? ⟨w.heap.size, 4, none⟩ = some (.bool y) := by rw [cell_of_row w2 _ 4 _ _ _ g2]; rfl
      have c5 : w2.cell? ⟨w.heap.size, 5, none⟩ = some (.slice A l.length cc) := by rw [cell_of_row w2 _ 5 _ _ _ g2]; rfl
      have c6 : w2.cell? ⟨w.heap.size, 6, none⟩ = some (.int .i64 g) := by rw [cell_of_row w2 _ 6 _ _ _ g2]; rfl
      have c7 : w2.cell? ⟨w.heap.size, 7, none⟩ = some (.int .i64 t) := by rw [cell_of_row w2 _ 7 _ _ _ g2]; rfl
      have c8 : w2.cell? ⟨w.heap.size, 8, none⟩ = some (.int .i64 sh) := by rw [cell_of_row w2 _ 8 _ _ _ g2]; rfl
      have c9 : w2.cell? ⟨w.heap.size, 9, none⟩ = some (.int .i64 st) := by rw [cell_of_row w2 _ 9 _ _ _ g2]; rfl
      have c10 : w2.cell? ⟨w.heap.size, 10, none⟩ = some (.int .i64 tt) := by rw [cell_of_row w2 _ 10 _ _ _ g2]; rfl
      have c11 : w2.cell? ⟨w.heap.size, 11, none⟩ = some (.int .i64 n) := by rw [cell_of_row w2 _ 11 _ _ _ g2]; rfl
      clear g2 hb2
      obtain ⟨w3, hw3⟩ : ∃ w3, w3 = w2.alloc (.cells #[.int .u8 2] 5) := ⟨_, rfl⟩
      have hb12 := HB1.out.trans (HB2.out.mono HB1.out.size)
      have hlt1 : w.heap.size < w1.heap.size := (Array.getElem?_eq_some_iff.1 HG1.out).1
      have ho3 : Own w3 w.heap.size [2] (.slice (some ⟨w2.heap.size, 0, none⟩) 1 1) := by rw [hw3]; exact own_one w2 w.heap.size 2 hb12.size
      have hg23 : Below w2.heap.size w2 w3 := by rw [hw3]; exact (Below.refl _ w2).alloc (Nat.le_refl _) _
      have HB3 := Lib.hid (hb12.trans (hg23.mono hb12.size))
      have HG3 := Lib.hid (show ∀ X u, Grew w3 X (.slice (some ⟨w2.heap.size, 0, none⟩) 1 1) u → X.heap[w.heap.size]? = some (.cells [.int .i8 2, .int .i64 a, .int .i64 b, .int .i64 c, .bool y, .slice A l.length cc, .int .i64 g, .int .i64 t, .int .i64 sh, .int .i64 st, .int .i64 tt, .int .i64 n].toArray 29 (0, 0)) from fun X u hX => by
        have h1 := hg23.size
        have h2 := HB2.out.size
        exact (hX.block _ (by omega) (fun e => by have h3 : w2.heap.size = w.heap.size := (by simpa [Value.ownBlock] using e); omega)).trans ((hg23.block _ (by omega)).trans ((HB2.out.block _ hlt1).trans HG1.out)))
      have HOut := Lib.hid (show ∀ X u, Grew w3 X (.slice (some ⟨w2.heap.size, 0, none⟩) 1 1) u → Below w.heap.size w X from fun X u hX => HB3.out.trans (hX.to_below HB3.out.size (fun k e => by have h3 : w2.heap.size = k := (by simpa [Value.ownBlock] using e); have := hb12.size; omega)))
      have HO3 := Lib.hid ho3
      have HW3 := Lib.hid hw3
      have g3 := HG3.out w3 _ (Grew.refl _ _)
      have c0 : w3.cell? ⟨w.heap.size, 0, none⟩ = some (.int .i8 2) := by rw [cell_of_row w3 _ 0 _ _ _ g3]; rfl
      have c1 : w3.cell? ⟨w.heap.size, 1, none⟩ = some (.int .i64 a) := by rw [cell_of_row w3 _ 1 _ _ _ g3]; rfl
      have c2 : w3.cell? ⟨w.heap.size, 2, none⟩ = some (.int .i64 b) := by rw [cell_of_row w3 _ 2 _ _ _ g3]; rfl
      have c3 : w3.cell? ⟨w.heap.size, 3, none⟩ = some (.int .i64 c) := by rw [cell_of_row w3 _ 3 _ _ _ g3]; rfl
      have c4 : w3.cell? ⟨w.heap.size, 4, none⟩ = some (.bool y) := by rw [cell_of_row w3 _ 4 _ _ _ g3]; rfl
      have c5 : w3.cell? ⟨w.heap.size, 5, none⟩ = some (.slice A l.length cc) := by rw [cell_of_row w3 _ 5 _ _ _ g3]; rfl
      have c6 : w3.cell? ⟨w.heap.size, 6, none⟩ = some (.int .i64 g) := by rw [cell_of_row w3 _ 6 _ _ _ g3]; rfl
      have c7 : w3.cell? ⟨w.heap.size, 7, none⟩ = some (.int .i64 t) := by rw [cell_of_row w3 _ 7 _ _ _ g3]; rfl
      have c8 : w3.cell? ⟨w.heap.size, 8, none⟩ = some (.int .i64 sh) := by rw [cell_of_row w3 _ 8 _ _ _ g3]; rfl
      have c9 : w3.cell? ⟨w.heap.size, 9, none⟩ = some (.int .i64 st) := by rw [cell_of_row w3 _ 9 _ _ _ g3]; rfl
      have c10 : w3.cell? ⟨w.heap.size, 10, none⟩ = some (.int .i64 tt) := by rw [cell_of_row w3 _ 10 _ _ _ g3]; rfl
      have c11 : w3.cell? ⟨w.heap.size, 11, none⟩ = some (.int .i64 n) := by rw [cell_of_row w3 _ 11 _ _ _ g3]; rfl
      clear g3 ho3 hg23 hb12 hw3 hlt1
      have hcut : (2 : Nat) < 256 := by omega
      go_wp2_with (rw [← HW3.out])
      have hna := nameL_any ⟨a, b, c⟩ [2] (.slice (some ⟨w2.heap.size, 0, none⟩) 1 1) w.heap.size w3 HNl.out HO3.out HB3.out.size (by simp)
      unfold nmv at hna
      dsimp only at hna
      refine hna.mono ?_
      clear hna
      rintro e w4 ⟨v4, rfl, ho4, hg4⟩
      have HO4 := Lib.hid ho4
      have HG4 := Lib.hid hg4
      have g4 := HG3.out w4 _ hg4
      clear c0 c1 c2 c3 c4 c5 c6 c7 c8 c9 c10 c11
      have c0 : w4.cell? ⟨w.heap.size, 0, none⟩ = some (.int .i8 2) := by rw [cell_of_row w4 _ 0 _ _ _ g4]; rfl
      have c1 : w4.cell? ⟨w.heap.size, 1, none⟩ = some (.int .i64 a) := by rw [cell_of_row w4 _ 1 _ _ _ g4]; rfl
      have c2 : w4.cell? ⟨w.heap.size, 2, none⟩ = some (.int .i64 b) := by rw [cell_of_row w4 _ 2 _ _ _ g4]; rfl
      have c3 : w4.cell? ⟨w.heap.size, 3, none⟩ = some (.int .i64 c) := by rw [cell_of_row w4 _ 3 _ _ _ g4]; rfl
      have c4 : w4.cell? ⟨w.heap.size, 4, none⟩ = some (.bool y) := by rw [cell_of_row w4 _ 4 _ _ _ g4]; rfl
      have c5 : w4.cell? ⟨w.heap.size, 5, none⟩ = some (.slice A l.length cc) := by rw [cell_of_row w4 _ 5 _ _ _ g4]; rfl
      have c6 : w4.cell? ⟨w.heap.size, 6, none⟩ = some (.int .i64 g) := by rw [cell_of_row w4 _ 6 _ _ _ g4]; rfl
      have c7 : w4.cell? ⟨w.heap.size, 7, none⟩ = some (.int .i64 t) := by rw [cell_of_row w4 _ 7 _ _ _ g4]; rfl
      have c8 : w4.cell? ⟨w.heap.size, 8, none⟩ = some (.int .i64 sh) := by rw [cell_of_row w4 _ 8 _ _ _ g4]; rfl
      have c9 : w4.cell? ⟨w.heap.size, 9, none⟩ = some (.int .i64 st) := by rw [cell_of_row w4 _ 9 _ _ _ g4]; rfl
      have c10 : w4.cell? ⟨w.heap.size, 10, none⟩ = some (.int .i64 tt) := by rw [cell_of_row w4 _ 10 _ _ _ g4]; rfl
      have c11 : w4.cell? ⟨w.heap.size, 11, none⟩ = some (.int .i64 n) := by rw [cell_of_row w4 _ 11 _ _ _ g4]; rfl
      have HL4 := Lib.hid (show ([2] ++ nameL ⟨a, b, c⟩).length = 10 from rfl)
      clear g4 ho4 hg4
      go_wp2_with fail
      refine (writes_any l A cc _ v4 w.heap.size w4 (fun k => k < w.heap.size) (HW.out.keep (HOut.out _ _ HG4.out).size fun b hb _ => (HOut.out _ _ HG4.out).block b hb) (fun k hk e => by have := own_ge HO4.out k e; have h2 : k < w.heap.size := hk; omega) HLw.out HO4.out (HOut.out _ _ HG4.out).size (by rw [HL4.out]; omega)).mono ?_
      rintro e w5 ⟨v5, rfl, ho5, hg5⟩
      have HO5 := Lib.hid ho5
      have HG5 := Lib.hid (HG4.out.trans hg5)
      have HEq := Lib.hid (show bytesR ⟨2, ⟨a, b, c⟩, y, l, g, t, sh, st, tt, n⟩ = [2] ++ nameL ⟨a, b, c⟩ ++ (l.length % 256 :: writesL l) ++ [byteN g, byteN t] by simp [bytesR, restL, byteN])
      have g5 := HG3.out w5 _ HG5.out
      have HL5 := Lib.hid (show ([2] ++ nameL ⟨a, b, c⟩ ++ (l.length % 256 :: writesL l)).length ≤ 100 by
        have h1 := writes_len (fun x hx => ⟨by have := (HLw.out.2 x hx).1; omega, (HLw.out.2 x hx).2.1⟩ : WrOk l)
        have h2 := HLw.out.1
        simp only [List.length_append, List.length_cons, List.length_nil, name_len]
        omega)
      clear c0 c1 c2 c3 c4 c5 c6 c7 c8 c9 c10 c11
      have c0 : w5.cell? ⟨w.heap.size, 0, none⟩ = some (.int .i8 2) := by rw [cell_of_row w5 _ 0 _ _ _ g5]; rfl
      have c1 : w5.cell? ⟨w.heap.size, 1, none⟩ = some (.int .i64 a) := by rw [cell_of_row w5 _ 1 _ _ _ g5]; rfl
      have c2 : w5.cell? ⟨w.heap.size, 2, none⟩ = some (.int .i64 b) := by rw [cell_of_row w5 _ 2 _ _ _ g5]; rfl
      have c3 : w5.cell? ⟨w.heap.size, 3, none⟩ = some (.int .i64 c) := by rw [cell_of_row w5 _ 3 _ _ _ g5]; rfl
      have c4 : w5.cell? ⟨w.heap.size, 4, none⟩ = some (.bool y) := by rw [cell_of_row w5 _ 4 _ _ _ g5]; rfl
      have c5 : w5.cell? ⟨w.heap.size, 5, none⟩ = some (.slice A l.length cc) := by rw [cell_of_row w5 _ 5 _ _ _ g5]; rfl
      have c6 : w5.cell? ⟨w.heap.size, 6, none⟩ = some (.int .i64 g) := by rw [cell_of_row w5 _ 6 _ _ _ g5]; rfl
      have c7 : w5.cell? ⟨w.heap.size, 7, none⟩ = some (.int .i64 t) := by rw [cell_of_row w5 _ 7 _ _ _ g5]; rfl
      have c8 : w5.cell? ⟨w.heap.size, 8, none⟩ = some (.int .i64 sh) := by rw [cell_of_row w5 _ 8 _ _ _ g5]; rfl
      have c9 : w5.cell? ⟨w.heap.size, 9, none⟩ = some (.int .i64 st) := by rw [cell_of_row w5 _ 9 _ _ _ g5]; rfl
      have c10 : w5.cell? ⟨w.heap.size, 10, none⟩ = some (.int .i64 tt) := by rw [cell_of_row w5 _ 10 _ _ _ g5]; rfl
      have c11 : w5.cell? ⟨w.heap.size, 11, none⟩ = some (.int .i64 n) := by rw [cell_of_row w5 _ 11 _ _ _ g5]; rfl
      clear ho5 hg5 g5
      go_wp2_with (at_builtin; refine append_grew rfl (.tmp 42) (.tmp 49) rfl w.heap.size _ [byteN g, byteN t] _ rfl (HO5.out.alloc _) ⟨w5.heap.size, 0, none⟩ 2 2 rfl rfl (by simp) _ (by_made w5 #[.int .u8 g, .int .u8 t] [byteN g, byteN t] HV2.out HX2.out) (by have := HL5.out; simp only [List.length_cons, List.length_nil] at this ⊢; omega) (by have := (HOut.out _ _ HG5.out).size; simp; omega) ?_; intro v6 w6 hv6 hg6; have HO6 := Lib.hid hv6; have HB6 := Lib.hid (HOut.out _ _ (HG5.out.trans ((Grew.alloc w5 _ _).trans hg6))); clear hv6 hg6)
      go_ret2
      refine ⟨v6, rfl, ?_, HB6.out⟩
      show Own _ _ (bytesR _) _
      rw [HEq.out]
      exact HO6.out
    · obtain ⟨n1, _, _, _⟩ := HNm.out (by simp)
      have HNl := Lib.hid (named_lt n1)
      clear n1 HNm HNn
      obtain ⟨q, hq⟩ : ∃ q : Nat, q = if y = true then 1 else 0 := ⟨_, rfl⟩
      have HFl := Lib.hid (fun W => flag_any y W)
      rw [← hq] at HFl
      have HXq := Lib.hid (show ∀ x ∈ [q], x < 256 from fun x hx => by rw [List.mem_singleton.1 hx, hq]; split <;> omega)
      have HEq := Lib.hid (show bytesR ⟨3, ⟨a, b, c⟩, y, l, g, t, sh, st, tt, n⟩ = [3] ++ nameL ⟨a, b, c⟩ ++ [q] by rw [hq]; simp [bytesR, restL, byteN])
      clear hq
      unfold recv at hw1 hg1 HM
      unfold recv
      simp only at hw1 hg1 HM
      simp only
      have HG1 := Lib.hid hg1
      have HB1 := Lib.hid hb1
      have HW1 := Lib.hid hw1
      have c0 : w1.cell? ⟨w.heap.size, 0, none⟩ = some (.int .i8 3) := by rw [cell_of_row w1 _ 0 _ _ _ hg1]; rfl
      have c1 : w1.cell? ⟨w.heap.size, 1, none⟩ = some (.int .i64 a) := by rw [cell_of_row w1 _ 1 _ _ _ hg1]; rfl
      have c2 : w1.cell? ⟨w.heap.size, 2, none⟩ = some (.int .i64 b) := by rw [cell_of_row w1 _ 2 _ _ _ hg1]; rfl
      have c3 : w1.cell? ⟨w.heap.size, 3, none⟩ = some (.int .i64 c) := by rw [cell_of_row w1 _ 3 _ _ _ hg1]; rfl
      have c4 : w1.cell? ⟨w.heap.size, 4, none⟩ = some (.bool y) := by rw [cell_of_row w1 _ 4 _ _ _ hg1]; rfl
      have c5 : w1.cell? ⟨w.heap.size, 5, none⟩ = some (.slice A l.length cc) := by rw [cell_of_row w1 _ 5 _ _ _ hg1]; rfl
      have c6 : w1.cell? ⟨w.heap.size, 6, none⟩ = some (.int .i64 g) := by rw [cell_of_row w1 _ 6 _ _ _ hg1]; rfl
      have c7 : w1.cell? ⟨w.heap.size, 7, none⟩ = some (.int .i64 t) := by rw [cell_of_row w1 _ 7 _ _ _ hg1]; rfl
      have c8 : w1.cell? ⟨w.heap.size, 8, none⟩ = some (.int .i64 sh) := by rw [cell_of_row w1 _ 8 _ _ _ hg1]; rfl
      have c9 : w1.cell? ⟨w.heap.size, 9, none⟩ = some (.int .i64 st) := by rw [cell_of_row w1 _ 9 _ _ _ hg1]; rfl
      have c10 : w1.cell? ⟨w.heap.size, 10, none⟩ = some (.int .i64 tt) := by rw [cell_of_row w1 _ 10 _ _ _ hg1]; rfl
      have c11 : w1.cell? ⟨w.heap.size, 11, none⟩ = some (.int .i64 n) := by rw [cell_of_row w1 _ 11 _ _ _ hg1]; rfl
      clear hw1 hb1 hg1 hm hl hlw hfl hll hsh hmay hk
      go_enter Try.func11, Try.ntmps11
      go_wp2_with (rw [← HW1.out])
      refine HM.out.mono ?_
      rintro e w2 ⟨rfl, hb2⟩
      have HB2 := Lib.hid hb2
      clear c0 c1 c2 c3 c4 c5 c6 c7 c8 c9 c10 c11
      have g2 := (hb2.block _ (Array.getElem?_eq_some_iff.1 HG1.out).1).trans HG1.out
      have c0 : w2.cell? ⟨w.heap.size, 0, none⟩ = some (.int .i8 3) := by rw [cell_of_row w2 _ 0 _ _ _ g2]; rfl
      have c1 : w2.cell? ⟨w.heap.size, 1, none⟩ = some (.int .i64 a) := by rw [cell_of_row w2 _ 1 _ _ _ g2]; rfl
      have c2 : w2.cell? ⟨w.heap.size, 2, none⟩ = some (.int .i64 b) := by rw [cell_of_row w2 _ 2 _ _ _ g2]; rfl
      have c3 : w2.cell? ⟨w.heap.size, 3, none⟩ = some (.int .i64 c) := by rw [cell_of_row w2 _ 3 _ _ _ g2]; rfl
      have c4 : w2.cell? ⟨w.heap.size, 4, none⟩ = some (.bool y) := by rw [cell_of_row w2 _ 4 _ _ _ g2]; rfl
      have c5 : w2.cell? ⟨w.heap.size, 5, none⟩ = some (.slice A l.length cc) := by rw [cell_of_row w2 _ 5 _ _ _ g2]; rfl
      have c6 : w2.cell? ⟨w.heap.size, 6, none⟩ = some (.int .i64 g) := by rw [cell_of_row w2 _ 6 _ _ _ g2]; rfl
      have c7 : w2.cell? ⟨w.heap.size, 7, none⟩ = some (.int .i64 t) := by rw [cell_of_row w2 _ 7 _ _ _ g2]; rfl
      have c8 : w2.cell? ⟨w.heap.size, 8, none⟩ = some (.int .i64 sh) := by rw [cell_of_row w2 _ 8 _ _ _ g2]; rfl
      have c9 : w2.cell? ⟨w.heap.size, 9, none⟩ = some (.int .i64 st) := by rw [cell_of_row w2 _ 9 _ _ _ g2]; rfl
      have c10 : w2.cell? ⟨w.heap.size, 10, none⟩ = some (.int .i64 tt) := by rw [cell_of_row w2 _ 10 _ _ _ g2]; rfl
      have c11 : w2.cell? ⟨w.heap.size, 11, none⟩ = some (.int .i64 n) := by rw [cell_of_row w2 _ 11 _ _ _ g2]; rfl
      clear g2 hb2
      obtain ⟨w3, hw3⟩ : ∃ w3, w3 = w2.alloc (.cells #[.int .u8 3] 5) := ⟨_, rfl⟩
      have hb12 := HB1.out.trans (HB2.out.mono HB1.out.size)
      have hlt1 : w.heap.size < w1.heap.size := (Array.getElem?_eq_some_iff.1 HG1.out).1
      have ho3 : Own w3 w.heap.size [3] (.slice (some ⟨w2.heap.size, 0, none⟩) 1 1) := by rw [hw3]; exact own_one w2 w.heap.size 3 hb12.size
      have hg23 : Below w2.heap.size w2 w3 := by rw [hw3]; exact (Below.refl _ w2).alloc (Nat.le_refl _) _
      have HB3 := Lib.hid (hb12.trans (hg23.mono hb12.size))
      have HG3 := Lib.hid (show ∀ X u, Grew w3 X (.slice (some ⟨w2.heap.size, 0, none⟩) 1 1) u → X.heap[w.heap.size]? = some (.cells [.int .i8 3, .int .i64 a, .int .i64 b, .int .i64 c, .bool y, .slice A l.length cc, .int .i64 g, .int .i64 t, .int .i64 sh, .int .i64 st, .int .i64 tt, .int .i64 n].toArray 29 (0, 0)) from fun X u hX => by
        have h1 := hg23.size
        have h2 := HB2.out.size
        exact (hX.block _ (by omega) (fun e => by have h3 : w2.heap.size = w.heap.size := (by simpa [Value.ownBlock] using e); omega)).trans ((hg23.block _ (by omega)).trans ((HB2.out.block _ hlt1).trans HG1.out)))
      have HOut := Lib.hid (show ∀ X u, Grew w3 X (.slice (some ⟨w2.heap.size, 0, none⟩) 1 1) u → Below w.heap.size w X from fun X u hX => HB3.out.trans (hX.to_below HB3.out.size (fun k e => by have h3 : w2.heap.size = k := (by simpa [Value.ownBlock] using e); have := hb12.size; omega)))
      have HO3 := Lib.hid ho3
      have HW3 := Lib.hid hw3
      have g3 := HG3.out w3 _ (Grew.refl _ _)
      have c0 : w3.cell? ⟨w.heap.size, 0, none⟩ = some (.int .i8 3) := by rw [cell_of_row w3 _ 0 _ _ _ g3]; rfl
      have c1 : w3.cell? ⟨w.heap.size, 1, none⟩ = some (.int .i64 a) := by rw [cell_of_row w3 _ 1 _ _ _ g3]; rfl
      have c2 : w3.cell? ⟨w.heap.size, 2, none⟩ = some (.int .i64 b) := by rw [cell_of_row w3 _ 2 _ _ _ g3]; rfl
      have c3 : w3.cell? ⟨w.heap.size, 3, none⟩ = some (.int .i64 c) := by rw [cell_of_row w3 _ 3 _ _ _ g3]; rfl
      have c4 : w3.cell? ⟨w.heap.size, 4, none⟩ = some (.bool y) := by rw [cell_of_row w3 _ 4 _ _ _ g3]; rfl
      have c5 : w3.cell? ⟨w.heap.size, 5, none⟩ = some (.slice A l.length cc) := by rw [cell_of_row w3 _ 5 _ _ _ g3]; rfl
      have c6 : w3.cell? ⟨w.heap.size, 6, none⟩ = some (.int .i64 g) := by rw [cell_of_row w3 _ 6 _ _ _ g3]; rfl
      have c7 : w3.cell? ⟨w.heap.size, 7, none⟩ = some (.int .i64 t) := by rw [cell_of_row w3 _ 7 _ _ _ g3]; rfl
      have c8 : w3.cell? ⟨w.heap.size, 8, none⟩ = some (.int .i64 sh) := by rw [cell_of_row w3 _ 8 _ _ _ g3]; rfl
      have c9 : w3.cell? ⟨w.heap.size, 9, none⟩ = some (.int .i64 st) := by rw [cell_of_row w3 _ 9 _ _ _ g3]; rfl
      have c10 : w3.cell? ⟨w.heap.size, 10, none⟩ = some (.int .i64 tt) := by rw [cell_of_row w3 _ 10 _ _ _ g3]; rfl
      have c11 : w3.cell? ⟨w.heap.size, 11, none⟩ = some (.int .i64 n) := by rw [cell_of_row w3 _ 11 _ _ _ g3]; rfl
      clear g3 ho3 hg23 hb12 hw3 hlt1
      have hcut : (3 : Nat) < 256 := by omega
      go_wp2_with (rw [← HW3.out])
      have hna := nameL_any ⟨a, b, c⟩ [3] (.slice (some ⟨w2.heap.size, 0, none⟩) 1 1) w.heap.size w3 HNl.out HO3.out HB3.out.size (by simp)
      unfold nmv at hna
      dsimp only at hna
      refine hna.mono ?_
      clear hna
      rintro e w4 ⟨v4, rfl, ho4, hg4⟩
      have HO4 := Lib.hid ho4
      have HG4 := Lib.hid hg4
      have g4 := HG3.out w4 _ hg4
      clear c0 c1 c2 c3 c4 c5 c6 c7 c8 c9 c10 c11
      have c0 : w4.cell? ⟨w.heap.size, 0, none⟩ = some (.int .i8 3) := by rw [cell_of_row w4 _ 0 _ _ _ g4]; rfl
      have c1 : w4.cell? ⟨w.heap.size, 1, none⟩ = some (.int .i64 a) := by rw [cell_of_row w4 _ 1 _ _ _ g4]; rfl
      have c2 : w4.cell? ⟨w.heap.size, 2, none⟩ = some (.int .i64 b) := by rw [cell_of_row w4 _ 2 _ _ _ g4]; rfl
      have c3 : w4.cell? ⟨w.heap.size, 3, none⟩ = some (.int .i64 c) := by rw [cell_of_row w4 _ 3 _ _ _ g4]; rfl
      have c4 : w4.cell? ⟨w.heap.size, 4, none⟩ = some (.bool y) := by rw [cell_of_row w4 _ 4 _ _ _ g4]; rfl
      have c5 : w4.cell? ⟨w.heap.size, 5, none⟩ = some (.slice A l.length cc) := by rw [cell_of_row w4 _ 5 _ _ _ g4]; rfl
      have c6 : w4.cell? ⟨w.heap.size, 6, none⟩ = some (.int .i64 g) := by rw [cell_of_row w4 _ 6 _ _ _ g4]; rfl
      have c7 : w4.cell? ⟨w.heap.size, 7, none⟩ = some (.int .i64 t) := by rw [cell_of_row w4 _ 7 _ _ _ g4]; rfl
      have c8 : w4.cell? ⟨w.heap.size, 8, none⟩ = some (.int .i64 sh) := by rw [cell_of_row w4 _ 8 _ _ _ g4]; rfl
      have c9 : w4.cell? ⟨w.heap.size, 9, none⟩ = some (.int .i64 st) := by rw [cell_of_row w4 _ 9 _ _ _ g4]; rfl
      have c10 : w4.cell? ⟨w.heap.size, 10, none⟩ = some (.int .i64 tt) := by rw [cell_of_row w4 _ 10 _ _ _ g4]; rfl
      have c11 : w4.cell? ⟨w.heap.size, 11, none⟩ = some (.int .i64 n) := by rw [cell_of_row w4 _ 11 _ _ _ g4]; rfl
      have HL4 := Lib.hid (show ([3] ++ nameL ⟨a, b, c⟩).length = 10 from rfl)
      clear g4 ho4 hg4
      go_wp2_with fail
      refine (HFl.out _).mono ?_
      rintro e w5 ⟨rfl, rfl⟩
      go_wp2_with (at_builtin; refine append_grew rfl (.tmp 53) (.tmp 57) rfl w.heap.size _ [q] _ rfl (HO4.out.alloc _) ⟨w5.heap.size, 0, none⟩ 1 1 rfl rfl (by simp) _ (by_made w5 #[.int .u8 (q : Int)] [q] rfl HXq.out) (by have := HL4.out; simp only [List.length_cons, List.length_nil] at this ⊢; omega) (by have := (HOut.out _ _ HG4.out).size; simp; omega) ?_; intro v6 w6 hv6 hg6; have HO6 := Lib.hid hv6; have HB6 := Lib.hid (HOut.out _ _ (HG4.out.trans ((Grew.alloc w5 _ _).trans hg6))); clear hv6 hg6)
      go_ret2
      refine ⟨v6, rfl, ?_, HB6.out⟩
      show Own _ _ (bytesR _) _
      rw [HEq.out]
      exact HO6.out
    · obtain ⟨n1, _, _, n4⟩ := HNm.out (by simp)
      have HNl := Lib.hid (named_lt n1)
      obtain ⟨n5, n6⟩ := n4 rfl
      have s1 := shards_lt n5
      obtain ⟨c1', c2'⟩ := changed_lt n6
      obtain ⟨s2, hs2⟩ : ∃ s2, s2 = st + 1 := ⟨_, rfl⟩
      rw [← hs2] at c1'
      have HX2 := Lib.hid (show ∀ x ∈ [byteN sh, byteN s2, byteN tt], x < 256 from fun x hx => by
        simp only [List.mem_cons, List.not_mem_nil, or_false] at hx
        rcases hx with rfl | rfl | rfl <;> exact byteN_lt _)
      have HV2 := Lib.hid (show (#[.int .u8 sh, .int .u8 s2, .int .u8 tt] : Array Value).toList = vals [byteN sh, byteN s2, byteN tt] by
        unfold vals
        simp [byteN_nat s1.1 s1.2, byteN_nat c1'.1 c1'.2, byteN_nat c2'.1 c2'.2])
      have hwi : IntKind.i64.wrap (st + 1) = s2 := by rw [IntKind.wrap_i64]; omega
      have hws : IntKind.u8.wrap sh = sh := by rw [IntKind.wrap_u8]; omega
      have hw2 : IntKind.u8.wrap s2 = s2 := by rw [IntKind.wrap_u8]; omega
      have hwt : IntKind.u8.wrap tt = tt := by rw [IntKind.wrap_u8]; omega
      have HEq := Lib.hid (show bytesR ⟨4, ⟨a, b, c⟩, y, l, g, t, sh, st, tt, n⟩ = [4] ++ nameL ⟨a, b, c⟩ ++ [byteN sh, byteN s2, byteN tt] by rw [hs2]; simp [bytesR, restL, byteN])
      clear n1 n4 n5 n6 HNm HNn s1 c1' c2' hs2
      unfold recv at hw1 hg1 HM
      unfold recv
      simp only at hw1 hg1 HM
      simp only
      have HG1 := Lib.hid hg1
      have HB1 := Lib.hid hb1
      have HW1 := Lib.hid hw1
      have c0 : w1.cell? ⟨w.heap.size, 0, none⟩ = some (.int .i8 4) := by rw [cell_of_row w1 _ 0 _ _ _ hg1]; rfl
      have c1 : w1.cell? ⟨w.heap.size, 1, none⟩ = some (.int .i64 a) := by rw [cell_of_row w1 _ 1 _ _ _ hg1]; rfl
      have c2 : w1.cell? ⟨w.heap.size, 2, none⟩ = some (.int .i64 b) := by rw [cell_of_row w1 _ 2 _ _ _ hg1]; rfl
      have c3 : w1.cell? ⟨w.heap.size, 3, none⟩ = some (.int .i64 c) := by rw [cell_of_row w1 _ 3 _ _ _ hg1]; rfl
      have c4 : w1.cell? ⟨w.heap.size, 4, none⟩ = some (.bool y) := by rw [cell_of_row w1 _ 4 _ _ _ hg1]; rfl
      have c5 : w1.cell? ⟨w.heap.size, 5, none⟩ = some (.slice A l.length cc) := by rw [cell_of_row w1 _ 5 _ _ _ hg1]; rfl
      have c6 : w1.cell? ⟨w.heap.size, 6, none⟩ = some (.int .i64 g) := by rw [cell_of_row w1 _ 6 _ _ _ hg1]; rfl
      have c7 : w1.cell? ⟨w.heap.size, 7, none⟩ = some (.int .i64 t) := by rw [cell_of_row w1 _ 7 _ _ _ hg1]; rfl
      have c8 : w1.cell? ⟨w.heap.size, 8, none⟩ = some (.int .i64 sh) := by rw [cell_of_row w1 _ 8 _ _ _ hg1]; rfl
      have c9 : w1.cell? ⟨w.heap.size, 9, none⟩ = some (.int .i64 st) := by rw [cell_of_row w1 _ 9 _ _ _ hg1]; rfl
      have c10 : w1.cell? ⟨w.heap.size, 10, none⟩ = some (.int .i64 tt) := by rw [cell_of_row w1 _ 10 _ _ _ hg1]; rfl
      have c11 : w1.cell? ⟨w.heap.size, 11, none⟩ = some (.int .i64 n) := by rw [cell_of_row w1 _ 11 _ _ _ hg1]; rfl
      clear hw1 hb1 hg1 hm hl hlw hfl hll hsh hmay hk
      go_enter Try.func11, Try.ntmps11
      go_wp2_with (rw [← HW1.out])
      refine HM.out.mono ?_
      rintro e w2 ⟨rfl, hb2⟩
      have HB2 := Lib.hid hb2
      clear c0 c1 c2 c3 c4 c5 c6 c7 c8 c9 c10 c11
      have g2 := (hb2.block _ (Array.getElem?_eq_some_iff.1 HG1.out).1).trans HG1.out
      have c0 : w2.cell? ⟨w.heap.size, 0, none⟩ = some (.int .i8 4) := by rw [cell_of_row w2 _ 0 _ _ _ g2]; rfl
      have c1 : w2.cell? ⟨w.heap.size, 1, none⟩ = some (.int .i64 a) := by rw [cell_of_row w2 _ 1 _ _ _ g2]; rfl
      have c2 : w2.cell? ⟨w.heap.size, 2, none⟩ = some (.int .i64 b) := by rw [cell_of_row w2 _ 2 _ _ _ g2]; rfl
      have c3 : w2.cell? ⟨w.heap.size, 3, none⟩ = some (.int .i64 c) := by rw [cell_of_row w2 _ 3 _ _ _ g2]; rfl
      have c4 : w2.cell? ⟨w.heap.size, 4, none⟩ = some (.bool y) := by rw [cell_of_row w2 _ 4 _ _ _ g2]; rfl
      have c5 : w2.cell? ⟨w.heap.size, 5, none⟩ = some (.slice A l.length cc) := by rw [cell_of_row w2 _ 5 _ _ _ g2]; rfl
      have c6 : w2.cell? ⟨w.heap.size, 6, none⟩ = some (.int .i64 g) := by rw [cell_of_row w2 _ 6 _ _ _ g2]; rfl
      have c7 : w2.cell? ⟨w.heap.size, 7, none⟩ = some (.int .i64 t) := by rw [cell_of_row w2 _ 7 _ _ _ g2]; rfl
      have c8 : w2.cell? ⟨w.heap.size, 8, none⟩ = some (.int .i64 sh) := by rw [cell_of_row w2 _ 8 _ _ _ g2]; rfl
      have c9 : w2.cell? ⟨w.heap.size, 9, none⟩ = some (.int .i64 st) := by rw [cell_of_row w2 _ 9 _ _ _ g2]; rfl
      have c10 : w2.cell? ⟨w.heap.size, 10, none⟩ = some (.int .i64 tt) := by rw [cell_of_row w2 _ 10 _ _ _ g2]; rfl
      have c11 : w2.cell? ⟨w.heap.size, 11, none⟩ = some (.int .i64 n) := by rw [cell_of_row w2 _ 11 _ _ _ g2]; rfl
      clear g2 hb2
      obtain ⟨w3, hw3⟩ : ∃ w3, w3 = w2.alloc (.cells #[.int .u8 4] 5) := ⟨_, rfl⟩
      have hb12 := HB1.out.trans (HB2.out.mono HB1.out.size)
      have hlt1 : w.heap.size < w1.heap.size := (Array.getElem?_eq_some_iff.1 HG1.out).1
      have ho3 : Own w3 w.heap.size [4] (.slice (some ⟨w2.heap.size, 0, none⟩) 1 1) := by rw [hw3]; exact own_one w2 w.heap.size 4 hb12.size
      have hg23 : Below w2.heap.size w2 w3 := by rw [hw3]; exact (Below.refl _ w2).alloc (Nat.le_refl _) _
      have HB3 := Lib.hid (hb12.trans (hg23.mono hb12.size))
      have HG3 := Lib.hid (show ∀ X u, Grew w3 X (.slice (some ⟨w2.heap.size, 0, none⟩) 1 1) u → X.heap[w.heap.size]? = some (.cells [.int .i8 4, .int .i64 a, .int .i64 b, .int .i64 c, .bool y, .slice A l.length cc, .int .i64 g, .int .i64 t, .int .i64 sh, .int .i64 st, .int .i64 tt, .int .i64 n].toArray 29 (0, 0)) from fun X u hX => by
        have h1 := hg23.size
        have h2 := HB2.out.size
        exact (hX.block _ (by omega) (fun e => by have h3 : w2.heap.size = w.heap.size := (by simpa [Value.ownBlock] using e); omega)).trans ((hg23.block _ (by omega)).trans ((HB2.out.block _ hlt1).trans HG1.out)))
      have HOut := Lib.hid (show ∀ X u, Grew w3 X (.slice (some ⟨w2.heap.size, 0, none⟩) 1 1) u → Below w.heap.size w X from fun X u hX => HB3.out.trans (hX.to_below HB3.out.size (fun k e => by have h3 : w2.heap.size = k := (by simpa [Value.ownBlock] using e); have := hb12.size; omega)))
      have HO3 := Lib.hid ho3
      have HW3 := Lib.hid hw3
      have g3 := HG3.out w3 _ (Grew.refl _ _)
      have c0 : w3.cell? ⟨w.heap.size, 0, none⟩ = some (.int .i8 4) := by rw [cell_of_row w3 _ 0 _ _ _ g3]; rfl
      have c1 : w3.cell? ⟨w.heap.size, 1, none⟩ = some (.int .i64 a) := by rw [cell_of_row w3 _ 1 _ _ _ g3]; rfl
      have c2 : w3.cell? ⟨w.heap.size, 2, none⟩ = some (.int .i64 b) := by rw [cell_of_row w3 _ 2 _ _ _ g3]; rfl
      have c3 : w3.cell? ⟨w.heap.size, 3, none⟩ = some (.int .i64 c) := by rw [cell_of_row w3 _ 3 _ _ _ g3]; rfl
      have c4 : w3.cell? ⟨w.heap.size, 4, none⟩ = some (.bool y) := by rw [cell_of_row w3 _ 4 _ _ _ g3]; rfl
      have c5 : w3.cell? ⟨w.heap.size, 5, none⟩ = some (.slice A l.length cc) := by rw [cell_of_row w3 _ 5 _ _ _ g3]; rfl
      have c6 : w3.cell? ⟨w.heap.size, 6, none⟩ = some (.int .i64 g) := by rw [cell_of_row w3 _ 6 _ _ _ g3]; rfl
      have c7 : w3.cell? ⟨w.heap.size, 7, none⟩ = some (.int .i64 t) := by rw [cell_of_row w3 _ 7 _ _ _ g3]; rfl
      have c8 : w3.cell? ⟨w.heap.size, 8, none⟩ = some (.int .i64 sh) := by rw [cell_of_row w3 _ 8 _ _ _ g3]; rfl
      have c9 : w3.cell? ⟨w.heap.size, 9, none⟩ = some (.int .i64 st) := by rw [cell_of_row w3 _ 9 _ _ _ g3]; rfl
      have c10 : w3.cell? ⟨w.heap.size, 10, none⟩ = some (.int .i64 tt) := by rw [cell_of_row w3 _ 10 _ _ _ g3]; rfl
      have c11 : w3.cell? ⟨w.heap.size, 11, none⟩ = some (.int .i64 n) := by rw [cell_of_row w3 _ 11 _ _ _ g3]; rfl
      clear g3 ho3 hg23 hb12 hw3 hlt1
      have hcut : (4 : Nat) < 256 := by omega
      go_wp2_with (rw [← HW3.out])
      have hna := nameL_any ⟨a, b, c⟩ [4] (.slice (some ⟨w2.heap.size, 0, none⟩) 1 1) w.heap.size w3 HNl.out HO3.out HB3.out.size (by simp)
      unfold nmv at hna
      dsimp only at hna
      refine hna.mono ?_
      clear hna
      rintro e w4 ⟨v4, rfl, ho4, hg4⟩
      have HO4 := Lib.hid ho4
      have HG4 := Lib.hid hg4
      have g4 := HG3.out w4 _ hg4
      clear c0 c1 c2 c3 c4 c5 c6 c7 c8 c9 c10 c11
      have c0 : w4.cell? ⟨w.heap.size, 0, none⟩ = some (.int .i8 4) := by rw [cell_of_row w4 _ 0 _ _ _ g4]; rfl
      have c1 : w4.cell? ⟨w.heap.size, 1, none⟩ = some (.int .i64 a) := by rw [cell_of_row w4 _ 1 _ _ _ g4]; rfl
      have c2 : w4.cell? ⟨w.heap.size, 2, none⟩ = some (.int .i64 b) := by rw [cell_of_row w4 _ 2 _ _ _ g4]; rfl
      have c3 : w4.cell? ⟨w.heap.size, 3, none⟩ = some (.int .i64 c) := by rw [cell_of_row w4 _ 3 _ _ _ g4]; rfl
      have c4 : w4.cell? ⟨w.heap.size, 4, none⟩ = some (.bool y) := by rw [cell_of_row w4 _ 4 _ _ _ g4]; rfl
      have c5 : w4.cell? ⟨w.heap.size, 5, none⟩ = some (.slice A l.length cc) := by rw [cell_of_row w4 _ 5 _ _ _ g4]; rfl
      have c6 : w4.cell? ⟨w.heap.size, 6, none⟩ = some (.int .i64 g) := by rw [cell_of_row w4 _ 6 _ _ _ g4]; rfl
      have c7 : w4.cell? ⟨w.heap.size, 7, none⟩ = some (.int .i64 t) := by rw [cell_of_row w4 _ 7 _ _ _ g4]; rfl
      have c8 : w4.cell? ⟨w.heap.size, 8, none⟩ = some (.int .i64 sh) := by rw [cell_of_row w4 _ 8 _ _ _ g4]; rfl
      have c9 : w4.cell? ⟨w.heap.size, 9, none⟩ = some (.int .i64 st) := by rw [cell_of_row w4 _ 9 _ _ _ g4]; rfl
      have c10 : w4.cell? ⟨w.heap.size, 10, none⟩ = some (.int .i64 tt) := by rw [cell_of_row w4 _ 10 _ _ _ g4]; rfl
      have c11 : w4.cell? ⟨w.heap.size, 11, none⟩ = some (.int .i64 n) := by rw [cell_of_row w4 _ 11 _ _ _ g4]; rfl
      have HL4 := Lib.hid (show ([4] ++ nameL ⟨a, b, c⟩).length = 10 from rfl)
      clear g4 ho4 hg4
      go_wp2_with (at_builtin; refine append_grew rfl (.tmp 61) (.tmp 74) rfl w.heap.size _ [byteN sh, byteN s2, byteN tt] _ rfl (HO4.out.alloc _) ⟨w4.heap.size, 0, none⟩ 3 3 rfl rfl (by simp) _ (by_made w4 #[.int .u8 sh, .int .u8 s2, .int .u8 tt] [byteN sh, byteN s2, byteN tt] HV2.out HX2.out) (by have := HL4.out; simp only [List.length_cons, List.length_nil] at this ⊢; omega) (by have := (HOut.out _ _ HG4.out).size; simp; omega) ?_; intro v6 w6 hv6 hg6; have HO6 := Lib.hid hv6; have HB6 := Lib.hid (HOut.out _ _ (HG4.out.trans ((Grew.alloc w4 _ _).trans hg6))); clear hv6 hg6)
      go_ret2
      refine ⟨v6, rfl, ?_, HB6.out⟩
      show Own _ _ (bytesR _) _
      rw [HEq.out]
      exact HO6.out
    · obtain ⟨n1, _, _, _⟩ := HNm.out (by simp)
      have HNl := Lib.hid (named_lt n1)
      have HEq := Lib.hid (show bytesR ⟨5, ⟨a, b, c⟩, y, l, g, t, sh, st, tt, n⟩ = [5] ++ nameL ⟨a, b, c⟩ by simp [bytesR, restL, byteN])
      clear n1 HNm HNn
      unfold recv at hw1 hg1 HM
      unfold recv
      simp only at hw1 hg1 HM
      simp only
      have HG1 := Lib.hid hg1
      have HB1 := Lib.hid hb1
      have HW1 := Lib.hid hw1
      have c0 : w1.cell? ⟨w.heap.size, 0, none⟩ = some (.int .i8 5) := by rw [cell_of_row w1 _ 0 _ _ _ hg1]; rfl
      have c1 : w1.cell? ⟨w.heap.size, 1, none⟩ = some (.int .i64 a) := by rw [cell_of_row w1 _ 1 _ _ _ hg1]; rfl
      have c2 : w1.cell? ⟨w.heap.size, 2, none⟩ = some (.int .i64 b) := by rw [cell_of_row w1 _ 2 _ _ _ hg1]; rfl
      have c3 : w1.cell? ⟨w.heap.size, 3, none⟩ = some (.int .i64 c) := by rw [cell_of_row w1 _ 3 _ _ _ hg1]; rfl
      have c4 : w1.cell? ⟨w.heap.size, 4, none⟩ = some (.bool y) := by rw [cell_of_row w1 _ 4 _ _ _ hg1]; rfl
      have c5 : w1.cell? ⟨w.heap.size, 5, none⟩ = some (.slice A l.length cc) := by rw [cell_of_row w1 _ 5 _ _ _ hg1]; rfl
      have c6 : w1.cell? ⟨w.heap.size, 6, none⟩ = some (.int .i64 g) := by rw [cell_of_row w1 _ 6 _ _ _ hg1]; rfl
      have c7 : w1.cell? ⟨w.heap.size, 7, none⟩ = some (.int .i64 t) := by rw [cell_of_row w1 _ 7 _ _ _ hg1]; rfl
      have c8 : w1.cell? ⟨w.heap.size, 8, none⟩ = some (.int .i64 sh) := by rw [cell_of_row w1 _ 8 _ _ _ hg1]; rfl
      have c9 : w1.cell? ⟨w.heap.size, 9, none⟩ = some (.int .i64 st) := by rw [cell_of_row w1 _ 9 _ _ _ hg1]; rfl
      have c10 : w1.cell? ⟨w.heap.size, 10, none⟩ = some (.int .i64 tt) := by rw [cell_of_row w1 _ 10 _ _ _ hg1]; rfl
      have c11 : w1.cell? ⟨w.heap.size, 11, none⟩ = some (.int .i64 n) := by rw [cell_of_row w1 _ 11 _ _ _ hg1]; rfl
      clear hw1 hb1 hg1 hm hl hlw hfl hll hsh hmay hk
      go_enter Try.func11, Try.ntmps11
      go_wp2_with (rw [← HW1.out])
      refine HM.out.mono ?_
      rintro e w2 ⟨rfl, hb2⟩
      have HB2 := Lib.hid hb2
      clear c0 c1 c2 c3 c4 c5 c6 c7 c8 c9 c10 c11
      have g2 := (hb2.block _ (Array.getElem?_eq_some_iff.1 HG1.out).1).trans HG1.out
      have c0 : w2.cell? ⟨w.heap.size, 0, none⟩ = some (.int .i8 5) := by rw [cell_of_row w2 _ 0 _ _ _ g2]; rfl
      have c1 : w2.cell? ⟨w.heap.size, 1, none⟩ = some (.int .i64 a) := by rw [cell_of_row w2 _ 1 _ _ _ g2]; rfl
      have c2 : w2.cell? ⟨w.heap.size, 2, none⟩ = some (.int .i64 b) := by rw [cell_of_row w2 _ 2 _ _ _ g2]; rfl
      have c3 : w2.cell? ⟨w.heap.size, 3, none⟩ = some (.int .i64 c) := by rw [cell_of_row w2 _ 3 _ _ _ g2]; rfl
      have c4 : w2.cell? ⟨w.heap.size, 4, none⟩ = some (.bool y) := by rw [cell_of_row w2 _ 4 _ _ _ g2]; rfl
      have c5 : w2.cell? ⟨w.heap.size, 5, none⟩ = some (.slice A l.length cc) := by rw [cell_of_row w2 _ 5 _ _ _ g2]; rfl
      have c6 : w2.cell? ⟨w.heap.size, 6, none⟩ = some (.int .i64 g) := by rw [cell_of_row w2 _ 6 _ _ _ g2]; rfl
      have c7 : w2.cell? ⟨w.heap.size, 7, none⟩ = some (.int .i64 t) := by rw [cell_of_row w2 _ 7 _ _ _ g2]; rfl
      have c8 : w2.cell? ⟨w.heap.size, 8, none⟩ = some (.int .i64 sh) := by rw [cell_of_row w2 _ 8 _ _ _ g2]; rfl
      have c9 : w2.cell? ⟨w.heap.size, 9, none⟩ = some (.int .i64 st) := by rw [cell_of_row w2 _ 9 _ _ _ g2]; rfl
      have c10 : w2.cell? ⟨w.heap.size, 10, none⟩ = some (.int .i64 tt) := by rw [cell_of_row w2 _ 10 _ _ _ g2]; rfl
      have c11 : w2.cell? ⟨w.heap.size, 11, none⟩ = some (.int .i64 n) := by rw [cell_of_row w2 _ 11 _ _ _ g2]; rfl
      clear g2 hb2
      obtain ⟨w3, hw3⟩ : ∃ w3, w3 = w2.alloc (.cells #[.int .u8 5] 5) := ⟨_, rfl⟩
      have hb12 := HB1.out.trans (HB2.out.mono HB1.out.size)
      have hlt1 : w.heap.size < w1.heap.size := (Array.getElem?_eq_some_iff.1 HG1.out).1
      have ho3 : Own w3 w.heap.size [5] (.slice (some ⟨w2.heap.size, 0, none⟩) 1 1) := by rw [hw3]; exact own_one w2 w.heap.size 5 hb12.size
      have hg23 : Below w2.heap.size w2 w3 := by rw [hw3]; exact (Below.refl _ w2).alloc (Nat.le_refl _) _
      have HB3 := Lib.hid (hb12.trans (hg23.mono hb12.size))
      have HG3 := Lib.hid (show ∀ X u, Grew w3 X (.slice (some ⟨w2.heap.size, 0, none⟩) 1 1) u → X.heap[w.heap.size]? = some (.cells [.int .i8 5, .int .i64 a, .int .i64 b, .int .i64 c, .bool y, .slice A l.length cc, .int .i64 g, .int .i64 t, .int .i64 sh, .int .i64 st, .int .i64 tt, .int .i64 n].toArray 29 (0, 0)) from fun X u hX => by
        have h1 := hg23.size
        have h2 := HB2.out.size
        exact (hX.block _ (by omega) (fun e => by have h3 : w2.heap.size = w.heap.size := (by simpa [Value.ownBlock] using e); omega)).trans ((hg23.block _ (by omega)).trans ((HB2.out.block _ hlt1).trans HG1.out)))
      have HOut := Lib.hid (show ∀ X u, Grew w3 X (.slice (some ⟨w2.heap.size, 0, none⟩) 1 1) u → Below w.heap.size w X from fun X u hX => HB3.out.trans (hX.to_below HB3.out.size (fun k e => by have h3 : w2.heap.size = k := (by simpa [Value.ownBlock] using e); have := hb12.size; omega)))
      have HO3 := Lib.hid ho3
      have HW3 := Lib.hid hw3
      have g3 := HG3.out w3 _ (Grew.refl _ _)
      have c0 : w3.cell? ⟨w.heap.size, 0, none⟩ = some (.int .i8 5) := by rw [cell_of_row w3 _ 0 _ _ _ g3]; rfl
      have c1 : w3.cell? ⟨w.heap.size, 1, none⟩ = some (.int .i64 a) := by rw [cell_of_row w3 _ 1 _ _ _ g3]; rfl
      have c2 : w3.cell? ⟨w.heap.size, 2, none⟩ = some (.int .i64 b) := by rw [cell_of_row w3 _ 2 _ _ _ g3]; rfl
      have c3 : w3.cell? ⟨w.heap.size, 3, none⟩ = some (.int .i64 c) := by rw [cell_of_row w3 _ 3 _ _ _ g3]; rfl
      have c4 : w3.cell? ⟨w.heap.size, 4, none⟩ = some (.bool y) := by rw [cell_of_row w3 _ 4 _ _ _ g3]; rfl
      have c5 : w3.cell? ⟨w.heap.size, 5, none⟩ = some (.slice A l.length cc) := by rw [cell_of_row w3 _ 5 _ _ _ g3]; rfl
      have c6 : w3.cell? ⟨w.heap.size, 6, none⟩ = some (.int .i64 g) := by rw [cell_of_row w3 _ 6 _ _ _ g3]; rfl
      have c7 : w3.cell? ⟨w.heap.size, 7, none⟩ = some (.int .i64 t) := by rw [cell_of_row w3 _ 7 _ _ _ g3]; rfl
      have c8 : w3.cell? ⟨w.heap.size, 8, none⟩ = some (.int .i64 sh) := by rw [cell_of_row w3 _ 8 _ _ _ g3]; rfl
      have c9 : w3.cell? ⟨w.heap.size, 9, none⟩ = some (.int .i64 st) := by rw [cell_of_row w3 _ 9 _ _ _ g3]; rfl
      have c10 : w3.cell? ⟨w.heap.size, 10, none⟩ = some (.int .i64 tt) := by rw [cell_of_row w3 _ 10 _ _ _ g3]; rfl
      have c11 : w3.cell? ⟨w.heap.size, 11, none⟩ = some (.int .i64 n) := by rw [cell_of_row w3 _ 11 _ _ _ g3]; rfl
      clear g3 ho3 hg23 hb12 hw3 hlt1
      have hcut : (5 : Nat) < 256 := by omega
      go_wp2_with (rw [← HW3.out])
      have hna := nameL_any ⟨a, b, c⟩ [5] (.slice (some ⟨w2.heap.size, 0, none⟩) 1 1) w.heap.size w3 HNl.out HO3.out HB3.out.size (by simp)
      unfold nmv at hna
      dsimp only at hna
      refine hna.mono ?_
      clear hna
      rintro e w4 ⟨v4, rfl, ho4, hg4⟩
      have HO4 := Lib.hid ho4
      have HG4 := Lib.hid hg4
      have g4 := HG3.out w4 _ hg4
      clear c0 c1 c2 c3 c4 c5 c6 c7 c8 c9 c10 c11
      have c0 : w4.cell? ⟨w.heap.size, 0, none⟩ = some (.int .i8 5) := by rw [cell_of_row w4 _ 0 _ _ _ g4]; rfl
      have c1 : w4.cell? ⟨w.heap.size, 1, none⟩ = some (.int .i64 a) := by rw [cell_of_row w4 _ 1 _ _ _ g4]; rfl
      have c2 : w4.cell? ⟨w.heap.size, 2, none⟩ = some (.int .i64 b) := by rw [cell_of_row w4 _ 2 _ _ _ g4]; rfl
      have c3 : w4.cell? ⟨w.heap.size, 3, none⟩ = some (.int .i64 c) := by rw [cell_of_row w4 _ 3 _ _ _ g4]; rfl
      have c4 : w4.cell? ⟨w.heap.size, 4, none⟩ = some (.bool y) := by rw [cell_of_row w4 _ 4 _ _ _ g4]; rfl
      have c5 : w4.cell? ⟨w.heap.size, 5, none⟩ = some (.slice A l.length cc) := by rw [cell_of_row w4 _ 5 _ _ _ g4]; rfl
      have c6 : w4.cell? ⟨w.heap.size, 6, none⟩ = some (.int .i64 g) := by rw [cell_of_row w4 _ 6 _ _ _ g4]; rfl
      have c7 : w4.cell? ⟨w.heap.size, 7, none⟩ = some (.int .i64 t) := by rw [cell_of_row w4 _ 7 _ _ _ g4]; rfl
      have c8 : w4.cell? ⟨w.heap.size, 8, none⟩ = some (.int .i64 sh) := by rw [cell_of_row w4 _ 8 _ _ _ g4]; rfl
      have c9 : w4.cell? ⟨w.heap.size, 9, none⟩ = some (.int .i64 st) := by rw [cell_of_row w4 _ 9 _ _ _ g4]; rfl
      have c10 : w4.cell? ⟨w.heap.size, 10, none⟩ = some (.int .i64 tt) := by rw [cell_of_row w4 _ 10 _ _ _ g4]; rfl
      have c11 : w4.cell? ⟨w.heap.size, 11, none⟩ = some (.int .i64 n) := by rw [cell_of_row w4 _ 11 _ _ _ g4]; rfl
      have HL4 := Lib.hid (show ([5] ++ nameL ⟨a, b, c⟩).length = 10 from rfl)
      clear g4 ho4 hg4
      have HB4 := Lib.hid (HOut.out _ _ HG4.out)
      go_wp2
      go_ret2
      refine ⟨v4, rfl, ?_, HB4.out⟩
      show Own _ _ (bytesR _) _
      rw [HEq.out]
      exact HO4.out
    · have hn := HNn.out (Or.inl rfl)
      have HEq := Lib.hid (show bytesR ⟨6, ⟨a, b, c⟩, y, l, g, t, sh, st, tt, n⟩ = [6] ++ three n by simp [bytesR, restL, byteN])
      have HT := Lib.hid (fun bs v base W ho hb hl => three_any n.toNat bs v base W (by omega) ho hb hl)
      rw [show ((n.toNat : Nat) : Int) = n by omega] at HT
      clear hn HNm HNn
      unfold recv at hw1 hg1 HM
      unfold recv
      simp only at hw1 hg1 HM
      simp only
      have HG1 := Lib.hid hg1
      have HB1 := Lib.hid hb1
      have HW1 := Lib.hid hw1
      have c0 : w1.cell? ⟨w.heap.size, 0, none⟩ = some (.int .i8 6) := by rw [cell_of_row w1 _ 0 _ _ _ hg1]; rfl
      have c1 : w1.cell? ⟨w.heap.size, 1, none⟩ = some (.int .i64 a) := by rw [cell_of_row w1 _ 1 _ _ _ hg1]; rfl
      have c2 : w1.cell? ⟨w.heap.size, 2, none⟩ = some (.int .i64 b) := by rw [cell_of_row w1 _ 2 _ _ _ hg1]; rfl
      have c3 : w1.cell? ⟨w.heap.size, 3, none⟩ = some (.int .i64 c) := by rw [cell_of_row w1 _ 3 _ _ _ hg1]; rfl
      have c4 : w1.cell? ⟨w.heap.size, 4, none⟩ = some (.bool y) := by rw [cell_of_row w1 _ 4 _ _ _ hg1]; rfl
      have c5 : w1.cell? ⟨w.heap.size, 5, none⟩ = some (.slice A l.length cc) := by rw [cell_of_row w1 _ 5 _ _ _ hg1]; rfl
      have c6 : w1.cell? ⟨w.heap.size, 6, none⟩ = some (.int .i64 g) := by rw [cell_of_row w1 _ 6 _ _ _ hg1]; rfl
      have c7 : w1.cell? ⟨w.heap.size, 7, none⟩ = some (.int .i64 t) := by rw [cell_of_row w1 _ 7 _ _ _ hg1]; rfl
      have c8 : w1.cell? ⟨w.heap.size, 8, none⟩ = some (.int .i64 sh) := by rw [cell_of_row w1 _ 8 _ _ _ hg1]; rfl
      have c9 : w1.cell? ⟨w.heap.size, 9, none⟩ = some (.int .i64 st) := by rw [cell_of_row w1 _ 9 _ _ _ hg1]; rfl
      have c10 : w1.cell? ⟨w.heap.size, 10, none⟩ = some (.int .i64 tt) := by rw [cell_of_row w1 _ 10 _ _ _ hg1]; rfl
      have c11 : w1.cell? ⟨w.heap.size, 11, none⟩ = some (.int .i64 n) := by rw [cell_of_row w1 _ 11 _ _ _ hg1]; rfl
      clear hw1 hb1 hg1 hm hl hlw hfl hll hsh hmay hk
      go_enter Try.func11, Try.ntmps11
      go_wp2_with (rw [← HW1.out])
      refine HM.out.mono ?_
      rintro e w2 ⟨rfl, hb2⟩
      have HB2 := Lib.hid hb2
      clear c0 c1 c2 c3 c4 c5 c6 c7 c8 c9 c10 c11
      have g2 := (hb2.block _ (Array.getElem?_eq_some_iff.1 HG1.out).1).trans HG1.out
      have c0 : w2.cell? ⟨w.heap.size, 0, none⟩ = some (.int .i8 6) := by rw [cell_of_row w2 _ 0 _ _ _ g2]; rfl
      have c1 : w2.cell? ⟨w.heap.size, 1, none⟩ = some (.int .i64 a) := by rw [cell_of_row w2 _ 1 _ _ _ g2]; rfl
      have c2 : w2.cell? ⟨w.heap.size, 2, none⟩ = some (.int .i64 b) := by rw [cell_of_row w2 _ 2 _ _ _ g2]; rfl
      have c3 : w2.cell? ⟨w.heap.size, 3, none⟩ = some (.int .i64 c) := by rw [cell_of_row w2 _ 3 _ _ _ g2]; rfl
      have c4 : w2.cell? ⟨w.heap.size, 4, none⟩ = some (.bool y) := by rw [cell_of_row w2 _ 4 _ _ _ g2]; rfl
      have c5 : w2.cell? ⟨w.heap.size, 5, none⟩ = some (.slice A l.length cc) := by rw [cell_of_row w2 _ 5 _ _ _ g2]; rfl
      have c6 : w2.cell? ⟨w.heap.size, 6, none⟩ = some (.int .i64 g) := by rw [cell_of_row w2 _ 6 _ _ _ g2]; rfl
      have c7 : w2.cell? ⟨w.heap.size, 7, none⟩ = some (.int .i64 t) := by rw [cell_of_row w2 _ 7 _ _ _ g2]; rfl
      have c8 : w2.cell? ⟨w.heap.size, 8, none⟩ = some (.int .i64 sh) := by rw [cell_of_row w2 _ 8 _ _ _ g2]; rfl
      have c9 : w2.cell? ⟨w.heap.size, 9, none⟩ = some (.int .i64 st) := by rw [cell_of_row w2 _ 9 _ _ _ g2]; rfl
      have c10 : w2.cell? ⟨w.heap.size, 10, none⟩ = some (.int .i64 tt) := by rw [cell_of_row w2 _ 10 _ _ _ g2]; rfl
      have c11 : w2.cell? ⟨w.heap.size, 11, none⟩ = some (.int .i64 n) := by rw [cell_of_row w2 _ 11 _ _ _ g2]; rfl
      clear g2 hb2
      obtain ⟨w3, hw3⟩ : ∃ w3, w3 = w2.alloc (.cells #[.int .u8 6] 5) := ⟨_, rfl⟩
      have hb12 := HB1.out.trans (HB2.out.mono HB1.out.size)
      have hlt1 : w.heap.size < w1.heap.size := (Array.getElem?_eq_some_iff.1 HG1.out).1
      have ho3 : Own w3 w.heap.size [6] (.slice (some ⟨w2.heap.size, 0, none⟩) 1 1) := by rw [hw3]; exact own_one w2 w.heap.size 6 hb12.size
      have hg23 : Below w2.heap.size w2 w3 := by rw [hw3]; exact (Below.refl _ w2).alloc (Nat.le_refl _) _
      have HB3 := Lib.hid (hb12.trans (hg23.mono hb12.size))
      have HG3 := Lib.hid (show ∀ X u, Grew w3 X (.slice (some ⟨w2.heap.size, 0, none⟩) 1 1) u → X.heap[w.heap.size]? = some (.cells [.int .i8 6, .int .i64 a, .int .i64 b, .int .i64 c, .bool y, .slice A l.length cc, .int .i64 g, .int .i64 t, .int .i64 sh, .int .i64 st, .int .i64 tt, .int .i64 n].toArray 29 (0, 0)) from fun X u hX => by
        have h1 := hg23.size
        have h2 := HB2.out.size
        exact (hX.block _ (by omega) (fun e => by have h3 : w2.heap.size = w.heap.size := (by simpa [Value.ownBlock] using e); omega)).trans ((hg23.block _ (by omega)).trans ((HB2.out.block _ hlt1).trans HG1.out)))
      have HOut := Lib.hid (show ∀ X u, Grew w3 X (.slice (some ⟨w2.heap.size, 0, none⟩) 1 1) u → Below w.heap.size w X from fun X u hX => HB3.out.trans (hX.to_below HB3.out.size (fun k e => by have h3 : w2.heap.size = k := (by simpa [Value.ownBlock] using e); have := hb12.size; omega)))
      have HO3 := Lib.hid ho3
      have HW3 := Lib.hid hw3
      have g3 := HG3.out w3 _ (Grew.refl _ _)
      have c0 : w3.cell? ⟨w.heap.size, 0, none⟩ = some (.int .i8 6) := by rw [cell_of_row w3 _ 0 _ _ _ g3]; rfl
      have c1 : w3.cell? ⟨w.heap.size, 1, none⟩ = some (.int .i64 a) := by rw [cell_of_row w3 _ 1 _ _ _ g3]; rfl
      have c2 : w3.cell? ⟨w.heap.size, 2, none⟩ = some (.int .i64 b) := by rw [cell_of_row w3 _ 2 _ _ _ g3]; rfl
      have c3 : w3.cell? ⟨w.heap.size, 3, none⟩ = some (.int .i64 c) := by rw [cell_of_row w3 _ 3 _ _ _ g3]; rfl
      have c4 : w3.cell? ⟨w.heap.size, 4, none⟩ = some (.bool y) := by rw [cell_of_row w3 _ 4 _ _ _ g3]; rfl
      have c5 : w3.cell? ⟨w.heap.size, 5, none⟩ = some (.slice A l.length cc) := by rw [cell_of_row w3 _ 5 _ _ _ g3]; rfl
      have c6 : w3.cell? ⟨w.heap.size, 6, none⟩ = some (.int .i64 g) := by rw [cell_of_row w3 _ 6 _ _ _ g3]; rfl
      have c7 : w3.cell? ⟨w.heap.size, 7, none⟩ = some (.int .i64 t) := by rw [cell_of_row w3 _ 7 _ _ _ g3]; rfl
      have c8 : w3.cell? ⟨w.heap.size, 8, none⟩ = some (.int .i64 sh) := by rw [cell_of_row w3 _ 8 _ _ _ g3]; rfl
      have c9 : w3.cell? ⟨w.heap.size, 9, none⟩ = some (.int .i64 st) := by rw [cell_of_row w3 _ 9 _ _ _ g3]; rfl
      have c10 : w3.cell? ⟨w.heap.size, 10, none⟩ = some (.int .i64 tt) := by rw [cell_of_row w3 _ 10 _ _ _ g3]; rfl
      have c11 : w3.cell? ⟨w.heap.size, 11, none⟩ = some (.int .i64 n) := by rw [cell_of_row w3 _ 11 _ _ _ g3]; rfl
      clear g3 ho3 hg23 hb12 hw3 hlt1
      have hcut : (6 : Nat) < 256 := by omega
      go_wp2_with (rw [← HW3.out])
      refine (HT.out [6] (.slice (some ⟨w2.heap.size, 0, none⟩) 1 1) w.heap.size w3 HO3.out HB3.out.size (by simp)).mono ?_
      rintro e w4 ⟨v4, rfl, ho4, hg4⟩
      have HO4 := Lib.hid ho4
      have HB4 := Lib.hid (HOut.out _ _ hg4)
      clear ho4 hg4
      clear c0 c1 c2 c3 c4 c5 c6 c7 c8 c9 c10 c11
      go_wp2
      go_ret2
      refine ⟨v4, rfl, ?_, HB4.out⟩
      show Own _ _ (bytesR _) _
      rw [HEq.out]
      exact HO4.out
    · have hn := HNn.out (Or.inr rfl)
      have HEq := Lib.hid (show bytesR ⟨7, ⟨a, b, c⟩, y, l, g, t, sh, st, tt, n⟩ = [7] ++ three n by simp [bytesR, restL, byteN])
      have HT := Lib.hid (fun bs v base W ho hb hl => three_any n.toNat bs v base W (by omega) ho hb hl)
      rw [show ((n.toNat : Nat) : Int) = n by omega] at HT
      clear hn HNm HNn
      unfold recv at hw1 hg1 HM
      unfold recv
      simp only at hw1 hg1 HM
      simp only
      have HG1 := Lib.hid hg1
      have HB1 := Lib.hid hb1
      have HW1 := Lib.hid hw1
      have c0 : w1.cell? ⟨w.heap.size, 0, none⟩ = some (.int .i8 7) := by rw [cell_of_row w1 _ 0 _ _ _ hg1]; rfl
      have c1 : w1.cell? ⟨w.heap.size, 1, none⟩ = some (.int .i64 a) := by rw [cell_of_row w1 _ 1 _ _ _ hg1]; rfl
      have c2 : w1.cell? ⟨w.heap.size, 2, none⟩ = some (.int .i64 b) := by rw [cell_of_row w1 _ 2 _ _ _ hg1]; rfl
      have c3 : w1.cell? ⟨w.heap.size, 3, none⟩ = some (.int .i64 c) := by rw [cell_of_row w1 _ 3 _ _ _ hg1]; rfl
      have c4 : w1.cell? ⟨w.heap.size, 4, none⟩ = some (.bool y) := by rw [cell_of_row w1 _ 4 _ _ _ hg1]; rfl
      have c5 : w1.cell? ⟨w.heap.size, 5, none⟩ = some (.slice A l.length cc) := by rw [cell_of_row w1 _ 5 _ _ _ hg1]; rfl
      have c6 : w1.cell? ⟨w.heap.size, 6, none⟩ = some (.int .i64 g) := by rw [cell_of_row w1 _ 6 _ _ _ hg1]; rfl
      have c7 : w1.cell? ⟨w.heap.size, 7, none⟩ = some (.int .i64 t) := by rw [cell_of_row w1 _ 7 _ _ _ hg1]; rfl
      have c8 : w1.cell? ⟨w.heap.size, 8, none⟩ = some (.int .i64 sh) := by rw [cell_of_row w1 _ 8 _ _ _ hg1]; rfl
      have c9 : w1.cell? ⟨w.heap.size, 9, none⟩ = some (.int .i64 st) := by rw [cell_of_row w1 _ 9 _ _ _ hg1]; rfl
      have c10 : w1.cell? ⟨w.heap.size, 10, none⟩ = some (.int .i64 tt) := by rw [cell_of_row w1 _ 10 _ _ _ hg1]; rfl
      have c11 : w1.cell? ⟨w.heap.size, 11, none⟩ = some (.int .i64 n) := by rw [cell_of_row w1 _ 11 _ _ _ hg1]; rfl
      clear hw1 hb1 hg1 hm hl hlw hfl hll hsh hmay hk
      go_enter Try.func11, Try.ntmps11
      go_wp2_with (rw [← HW1.out])
      refine HM.out.mono ?_
      rintro e w2 ⟨rfl, hb2⟩
      have HB2 := Lib.hid hb2
      clear c0 c1 c2 c3 c4 c5 c6 c7 c8 c9 c10 c11
      have g2 := (hb2.block _ (Array.getElem?_eq_some_iff.1 HG1.out).1).trans HG1.out
      have c0 : w2.cell? ⟨w.heap.size, 0, none⟩ = some (.int .i8 7) := by rw [cell_of_row w2 _ 0 _ _ _ g2]; rfl
      have c1 : w2.cell? ⟨w.heap.size, 1, none⟩ = some (.int .i64 a) := by rw [cell_of_row w2 _ 1 _ _ _ g2]; rfl
      have c2 : w2.cell? ⟨w.heap.size, 2, none⟩ = some (.int .i64 b) := by rw [cell_of_row w2 _ 2 _ _ _ g2]; rfl
      have c3 : w2.cell? ⟨w.heap.size, 3, none⟩ = some (.int .i64 c) := by rw [cell_of_row w2 _ 3 _ _ _ g2]; rfl
      have c4 : w2.cell? ⟨w.heap.size, 4, none⟩ = some (.bool y) := by rw [cell_of_row w2 _ 4 _ _ _ g2]; rfl
      have c5 : w2.cell? ⟨w.heap.size, 5, none⟩ = some (.slice A l.length cc) := by rw [cell_of_row w2 _ 5 _ _ _ g2]; rfl
      have c6 : w2.cell? ⟨w.heap.size, 6, none⟩ = some (.int .i64 g) := by rw [cell_of_row w2 _ 6 _ _ _ g2]; rfl
      have c7 : w2.cell? ⟨w.heap.size, 7, none⟩ = some (.int .i64 t) := by rw [cell_of_row w2 _ 7 _ _ _ g2]; rfl
      have c8 : w2.cell? ⟨w.heap.size, 8, none⟩ = some (.int .i64 sh) := by rw [cell_of_row w2 _ 8 _ _ _ g2]; rfl
      have c9 : w2.cell? ⟨w.heap.size, 9, none⟩ = some (.int .i64 st) := by rw [cell_of_row w2 _ 9 _ _ _ g2]; rfl
      have c10 : w2.cell? ⟨w.heap.size, 10, none⟩ = some (.int .i64 tt) := by rw [cell_of_row w2 _ 10 _ _ _ g2]; rfl
      have c11 : w2.cell? ⟨w.heap.size, 11, none⟩ = some (.int .i64 n) := by rw [cell_of_row w2 _ 11 _ _ _ g2]; rfl
      clear g2 hb2
      obtain ⟨w3, hw3⟩ : ∃ w3, w3 = w2.alloc (.cells #[.int .u8 7] 5) := ⟨_, rfl⟩
      have hb12 := HB1.out.trans (HB2.out.mono HB1.out.size)
      have hlt1 : w.heap.size < w1.heap.size := (Array.getElem?_eq_some_iff.1 HG1.out).1
      have ho3 : Own w3 w.heap.size [7] (.slice (some ⟨w2.heap.size, 0, none⟩) 1 1) := by rw [hw3]; exact own_one w2 w.heap.size 7 hb12.size
      have hg23 : Below w2.heap.size w2 w3 := by rw [hw3]; exact (Below.refl _ w2).alloc (Nat.le_refl _) _
      have HB3 := Lib.hid (hb12.trans (hg23.mono hb12.size))
      have HG3 := Lib.hid (show ∀ X u, Grew w3 X (.slice (some ⟨w2.heap.size, 0, none⟩) 1 1) u → X.heap[w.heap.size]? = some (.cells [.int .i8 7, .int .i64 a, .int .i64 b, .int .i64 c, .bool y, .slice A l.length cc, .int .i64 g, .int .i64 t, .int .i64 sh, .int .i64 st, .int .i64 tt, .int .i64 n].toArray 29 (0, 0)) from fun X u hX => by
        have h1 := hg23.size
        have h2 := HB2.out.size
        exact (hX.block _ (by omega) (fun e => by have h3 : w2.heap.size = w.heap.size := (by simpa [Value.ownBlock] using e); omega)).trans ((hg23.block _ (by omega)).trans ((HB2.out.block _ hlt1).trans HG1.out)))
      have HOut := Lib.hid (show ∀ X u, Grew w3 X (.slice (some ⟨w2.heap.size, 0, none⟩) 1 1) u → Below w.heap.size w X from fun X u hX => HB3.out.trans (hX.to_below HB3.out.size (fun k e => by have h3 : w2.heap.size = k := (by simpa [Value.ownBlock] using e); have := hb12.size; omega)))
      have HO3 := Lib.hid ho3
      have HW3 := Lib.hid hw3
      have g3 := HG3.out w3 _ (Grew.refl _ _)
      have c0 : w3.cell? ⟨w.heap.size, 0, none⟩ = some (.int .i8 7) := by rw [cell_of_row w3 _ 0 _ _ _ g3]; rfl
      have c1 : w3.cell? ⟨w.heap.size, 1, none⟩ = some (.int .i64 a) := by rw [cell_of_row w3 _ 1 _ _ _ g3]; rfl
      have c2 : w3.cell? ⟨w.heap.size, 2, none⟩ = some (.int .i64 b) := by rw [cell_of_row w3 _ 2 _ _ _ g3]; rfl
      have c3 : w3.cell? ⟨w.heap.size, 3, none⟩ = some (.int .i64 c) := by rw [cell_of_row w3 _ 3 _ _ _ g3]; rfl
      have c4 : w3.cell? ⟨w.heap.size, 4, none⟩ = some (.bool y) := by rw [cell_of_row w3 _ 4 _ _ _ g3]; rfl
      have c5 : w3.cell? ⟨w.heap.size, 5, none⟩ = some (.slice A l.length cc) := by rw [cell_of_row w3 _ 5 _ _ _ g3]; rfl
      have c6 : w3.cell? ⟨w.heap.size, 6, none⟩ = some (.int .i64 g) := by rw [cell_of_row w3 _ 6 _ _ _ g3]; rfl
      have c7 : w3.cell? ⟨w.heap.size, 7, none⟩ = some (.int .i64 t) := by rw [cell_of_row w3 _ 7 _ _ _ g3]; rfl
      have c8 : w3.cell? ⟨w.heap.size, 8, none⟩ = some (.int .i64 sh) := by rw [cell_of_row w3 _ 8 _ _ _ g3]; rfl
      have c9 : w3.cell? ⟨w.heap.size, 9, none⟩ = some (.int .i64 st) := by rw [cell_of_row w3 _ 9 _ _ _ g3]; rfl
      have c10 : w3.cell? ⟨w.heap.size, 10, none⟩ = some (.int .i64 tt) := by rw [cell_of_row w3 _ 10 _ _ _ g3]; rfl
      have c11 : w3.cell? ⟨w.heap.size, 11, none⟩ = some (.int .i64 n) := by rw [cell_of_row w3 _ 11 _ _ _ g3]; rfl
      clear g3 ho3 hg23 hb12 hw3 hlt1
      have hcut : (7 : Nat) < 256 := by omega
      go_wp2_with (rw [← HW3.out])
      refine (HT.out [7] (.slice (some ⟨w2.heap.size, 0, none⟩) 1 1) w.heap.size w3 HO3.out HB3.out.size (by simp)).mono ?_
      rintro e w4 ⟨v4, rfl, ho4, hg4⟩
      have HO4 := Lib.hid ho4
      have HB4 := Lib.hid (HOut.out _ _ hg4)
      clear ho4 hg4
      clear c0 c1 c2 c3 c4 c5 c6 c7 c8 c9 c10 c11
      go_wp2
      go_ret2
      refine ⟨v4, rfl, ?_, HB4.out⟩
      show Own _ _ (bytesR _) _
      rw [HEq.out]
      exact HO4.out
end Go.Proofs.Ytaokhbodmodcgaa
end

section
/-
  The document's answer of how many sectors a record's bytes want.
-/
namespace Go.Proofs.Ytaokhbodmodcgaa
open Go.RowKit
set_option maxRecDepth 100000

theorem writesL_lt {l : List (Int × List Nat)} (h : ValOk l) : ∀ x ∈ writesL l, x < 256 := by
  intro x hx
  unfold writesL at hx
  obtain ⟨y, hy, hx⟩ := List.mem_flatMap.1 hx
  rcases List.mem_cons.1 hx with rfl | hx
  · exact byteN_lt _
  · exact (h y hy).2 x hx
theorem nameL_lt (n : Nm) : ∀ x ∈ nameL n, x < 256 := by
  intro x hx
  unfold nameL at hx
  simp only [List.mem_append] at hx
  rcases hx with hx | hx | hx <;> exact three_lt _ x hx
theorem bytesR_lt {r : Rc} (h : ValOk r.writes) : ∀ x ∈ bytesR r, x < 256 := by
  intro x hx
  have hw := writesL_lt h
  unfold bytesR at hx
  rcases List.mem_cons.1 hx with rfl | hx
  · exact byteN_lt _
  unfold restL at hx
  split at hx
  · rcases List.mem_append.1 hx with hx | hx
    · exact nameL_lt _ x hx
    · rcases List.mem_cons.1 hx with rfl | hx
      · exact Nat.mod_lt _ (by omega)
      · exact hw x hx
  split at hx
  · rcases List.mem_append.1 hx with hx | hx
    · exact nameL_lt _ x hx
    · rcases List.mem_cons.1 hx with rfl | hx
      · exact Nat.mod_lt _ (by omega)
      · rcases List.mem_append.1 hx with hx | hx
        · exact hw x hx
        · simp only [List.mem_cons, List.not_mem_nil, or_false] at hx
          rcases hx with rfl | rfl <;> exact byteN_lt _
  split at hx
  · rcases List.mem_append.1 hx with hx | hx
    · exact nameL_lt _ x hx
    · rw [List.mem_singleton.1 hx]; split <;> omega
  split at hx
  · rcases List.mem_append.1 hx with hx | hx
    · exact nameL_lt _ x hx
    · simp only [List.mem_cons, List.not_mem_nil, or_false] at hx
      rcases hx with rfl | rfl | rfl <;> exact byteN_lt _
  split at hx
  · exact nameL_lt _ x hx
  · exact three_lt _ x hx
theorem bytesL_lt {r : Rc} (h : ValOk r.writes) : ∀ x ∈ bytesL r, x < 256 := by
  unfold bytesL
  split
  · exact bytesR_lt h
  · intro x hx; simp at hx
set_option maxHeartbeats 2000000 in
theorem sectors_any (r : Rc) (A : Option Addr) (cc : Nat) (w : World) (P : Nat → Prop) (hl : Wrs w P A r.writes) (hfl : WrFine r.writes) (hll : r.writes.length ≤ 1000000) (hsh : I64 r.shards) :
    Calls Try.prog 13 #[.agg (recv A cc r).toArray] w fun e w' => e = .returned (.tuple #[.int .i64 (sectorsR r), .int .i64 (bytesE r)]) ∧ Below w.heap.size w w' := by
  obtain ⟨w1, hw1⟩ : ∃ w1, w1 = w.alloc (.cells (recv A cc r).toArray 29) := ⟨_, rfl⟩
  have hb1 : Below w.heap.size w w1 := by rw [hw1]; exact (Below.refl _ w).alloc (Nat.le_refl _) _
  have hg1 : w1.heap[w.heap.size]? = some (.cells (recv A cc r).toArray 29 (0, 0)) := by rw [hw1]; exact heap_alloc_new w _
  have HBy := Lib.hid (bytes_any r A cc w1 P (hl.below hb1) hfl hll hsh)
  have HLt := Lib.hid (bytesL_lt hfl.vals)
  obtain ⟨L, hL⟩ : ∃ L, L = (bytesL r).length := ⟨_, rfl⟩
  have HS := Lib.hid (show (bytesE r = 2 ∧ sectorsR r = 0) ∨ (bytesE r = 0 ∧ sectorsR r = ((L : Int) + 44) / 45 ∧ L ≤ 85) from by
    unfold bytesE sectorsR
    cases hm : mayR r with
    | false => exact Or.inl ⟨rfl, rfl⟩
    | true =>
      right
      have h1 := bytes_len hm hfl.vals
      have h2 : L = (bytesR r).length := by rw [hL]; unfold bytesL; rw [hm]; rfl
      refine ⟨rfl, ?_, by omega⟩
      rw [if_pos rfl, ← h2]
      omega)
  have HLn := Lib.hid hL
  have HB1 := Lib.hid hb1
  have c0 := row_lit (cs := recv A cc r) hg1
  generalize bytesL r = bs at *
  generalize bytesE r = E at *
  generalize sectorsR r = Z at *
  obtain ⟨k, ⟨a, b, c⟩, y, l, g, t, sh, st, tt, n⟩ := r
  unfold recv at hw1 hg1 c0 HBy
  unfold recv
  simp only at hw1 hg1 c0 HBy
  simp only
  have HW1 := Lib.hid hw1
  have HG1 := Lib.hid hg1
  have d0 := c0 0 _ rfl
  have d1 := c0 1 _ rfl
  have d2 := c0 2 _ rfl
  have d3 := c0 3 _ rfl
  have d4 := c0 4 _ rfl
  have d5 := c0 5 _ rfl
  have d6 := c0 6 _ rfl
  have d7 := c0 7 _ rfl
  have d8 := c0 8 _ rfl
  have d9 := c0 9 _ rfl
  have d10 := c0 10 _ rfl
  have d11 := c0 11 _ rfl
  clear c0 hw1 hb1 hg1 hl hfl hll hsh hL
  go_enter Try.func13, Try.ntmps13
  go_wp2_with (rw [← HW1.out])
  refine HBy.out.mono ?_
  rintro e w2 ⟨v, rfl, hnew⟩
  obtain ⟨A8, c8, rfl, hy8, hl8, hm8, hn8, _⟩ := hnew.slice HLt.out
  have HB2 := Lib.hid (HB1.out.trans (hnew.2.mono HB1.out.size))
  rw [← HLn.out]
  clear hnew hy8 hl8 hm8 hn8 d0 d1 d2 d3 d4 d5 d6 d7 d8 d9 d10 d11
  rcases HS.out with ⟨rfl, rfl⟩ | ⟨rfl, rfl, hL85⟩
  · go_wp2
    go_ret2
    exact ⟨rfl, HB2.out⟩
  · have w1' : IntKind.i64.wrap ((L : Int) + 45) = (L : Int) + 45 := by rw [IntKind.wrap_i64]; omega
    have w2' : IntKind.i64.wrap ((L : Int) + 45 - 1) = (L : Int) + 44 := by rw [IntKind.wrap_i64]; omega
    have w3' : IntKind.i64.wrap (((L : Int) + 44).tdiv 45) = ((L : Int) + 44) / 45 := by rw [Int.tdiv_eq_ediv_of_nonneg (by omega), IntKind.wrap_i64]; omega
    go_wp2
    go_ret2
    exact ⟨rfl, HB2.out⟩
end Go.Proofs.Ytaokhbodmodcgaa
end
