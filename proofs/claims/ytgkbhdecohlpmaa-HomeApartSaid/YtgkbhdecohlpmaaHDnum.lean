/-
  The developers' answers: stripes, places, the first superblock; one number of a superblock: may it be; which of two superblocks is the later one.
-/
import Derived.Test.YtgkbhdecohlpmaaHSays
import Derived.Deep.QuietTactic
import Derived.BigQuiet
namespace Go.Proofs.Ytgkbhdecohlpmaa
set_option maxRecDepth 100000
open Go.RowKit
set_option maxRecDepth 100000

theorem below_drewNH {B : Nat} {a w : World} (h : Below B a w) (n : Nat) : Below B a (w.drewN n) := h.trans ⟨rfl, rfl, rfl, Nat.le_refl _, fun _ _ => rfl⟩
def inH (a lo hi : Int) : Bool := decide (lo ≤ a ∧ a ≤ hi)
def strH (z : Int) : Bool := decide (0 ≤ z ∧ z < 8)
theorem stripe_dev (z : Int) (w : World) : Calls Try.prog 21 #[.int .i64 z] w fun e w' => e = .returned (.bool (strH z)) ∧ w = w' := by
  obtain ⟨E, hE⟩ : ∃ E, E = strH z := ⟨_, rfl⟩
  rw [← hE]
  unfold strH at hE
  by_cases h0 : 0 ≤ z
  · by_cases h1 : z < 8
    · have HE := Lib.hid (show E = true by rw [hE]; exact decide_eq_true ⟨h0, h1⟩)
      clear hE
      go_enter Try.func21, Try.ntmps21
      go_wp2
      go_ret
      exact ⟨by rw [HE.out]; rfl, rfl⟩
    · have HE := Lib.hid (show E = false by rw [hE]; exact decide_eq_false fun h => h1 h.2)
      clear hE
      go_enter Try.func21, Try.ntmps21
      go_wp2
      go_ret
      exact ⟨by rw [HE.out]; rfl, rfl⟩
  · have HE := Lib.hid (show E = false by rw [hE]; exact decide_eq_false fun h => h0 h.1)
    clear hE
    go_enter Try.func21, Try.ntmps21
    go_wp2
    go_ret
    exact ⟨by rw [HE.out]; rfl, rfl⟩
theorem place_dev (s : Sup) (w : World) (hf : s.Fine) (h0 : 0 ≤ s.gen) : Calls Try.prog 32 #[.agg s.cells] w fun e w' => e = .returned (.int .i64 (s.gen % 2)) ∧ Below w.heap.size w w' := by
  obtain ⟨m0, m1, m2, m3, m4, m5, m6, m7, hm⟩ := sup_map hf
  obtain ⟨g, t, o, i, b, m⟩ := s
  simp only at hm h0
  subst hm
  rw [sup_cells]
  clear hf
  obtain ⟨w1, hw1⟩ : ∃ w1, w1 = w.alloc (.cells #[.int .i64 g, .int .i64 t, .int .i64 o, .int .i64 i, .int .i64 b, .int .i64 m0, .int .i64 m1, .int .i64 m2, .int .i64 m3, .int .i64 m4, .int .i64 m5, .int .i64 m6, .int .i64 m7] 25) := ⟨_, rfl⟩
  have HB := Lib.hid (show Below w.heap.size w w1 by rw [hw1]; exact (Below.refl _ w).alloc (Nat.le_refl _) _)
  have c0 : w1.cell? ⟨w.heap.size, 0, none⟩ = some (.int .i64 g) := by rw [hw1, cell_of_row _ _ 0 _ _ _ (heap_alloc_new w _)]; rfl
  have HW := Lib.hid hw1
  clear hw1
  go_enter Try.func32, Try.ntmps32
  go_wp2_with (rw [← HW.out])
  go_ret
  exact ⟨rfl, HB.out⟩
theorem first_dev : FirstHSays := by
  intro w
  rw [first_cells]
  go_enter Try.func20, Try.ntmps20
  go_wp2
  exact bodyPost_ret (v := .agg #[.int .i64 0, .int .i64 1, .int .i64 0, .int .i64 0, .int .i64 1, .int .i64 0, .int .i64 0, .int .i64 0, .int .i64 0, .int .i64 0, .int .i64 0, .int .i64 0, .int .i64 0]) (by simp [results, Try.results20, go_sem]) rfl ⟨rfl, (Below.refl _ _).alloc (Nat.le_refl _) _⟩

def numv (g i : Nat) (wd lo hi : Int) : Array Value := #[.pointer (some ⟨g, i, none⟩), .int .i64 wd, .int .i64 lo, .int .i64 hi]
theorem nmay_dev (g i : Nat) (z wd lo hi : Int) (w : World) (hc : w.cell? ⟨g, i, none⟩ = some (.int .i64 z)) :
    Calls Try.prog 29 #[.agg (numv g i wd lo hi)] w fun e w' => e = .returned (.bool (inH z lo hi)) ∧ Below w.heap.size w w' := by
  unfold numv
  obtain ⟨w1, hw1⟩ : ∃ w1, w1 = w.alloc (.cells #[.pointer (some ⟨g, i, none⟩), .int .i64 wd, .int .i64 lo, .int .i64 hi] 76) := ⟨_, rfl⟩
  have HB := Lib.hid (show Below w.heap.size w w1 by rw [hw1]; exact (Below.refl _ w).alloc (Nat.le_refl _) _)
  have hg := heap_alloc_new w (.cells #[.pointer (some ⟨g, i, none⟩), .int .i64 wd, .int .i64 lo, .int .i64 hi] 76)
  rw [← hw1] at hg
  have c0 : w1.cell? ⟨w.heap.size, 0, none⟩ = some (.pointer (some ⟨g, i, none⟩)) := by rw [cell_of_row _ _ 0 _ _ _ hg]; rfl
  have c2 : w1.cell? ⟨w.heap.size, 2, none⟩ = some (.int .i64 lo) := by rw [cell_of_row _ _ 2 _ _ _ hg]; rfl
  have c3 : w1.cell? ⟨w.heap.size, 3, none⟩ = some (.int .i64 hi) := by rw [cell_of_row _ _ 3 _ _ _ hg]; rfl
  have cz : w1.cell? ⟨g, i, none⟩ = some (.int .i64 z) := (HB.out.cell (World.block_lt_of_cell? _ _ hc)).trans hc
  have HW := Lib.hid hw1
  clear hw1 hg hc
  obtain ⟨E, hE⟩ : ∃ E, E = inH z lo hi := ⟨_, rfl⟩
  rw [← hE]
  unfold inH at hE
  by_cases h0 : lo ≤ z
  · have d0 : decide (lo ≤ z) = true := decide_eq_true h0
    by_cases h1 : z ≤ hi
    · have d1 : decide (z ≤ hi) = true := decide_eq_true h1
      have HE := Lib.hid (show E = true by rw [hE]; exact decide_eq_true ⟨h0, h1⟩)
      clear hE h0 h1
      go_enter Try.func29, Try.ntmps29
      go_wp2_with (rw [← HW.out])
      go_quiet (fail)
      all_goals
        go_wp2
        go_ret
        exact ⟨by rw [HE.out]; rfl, below_drewNH HB.out _⟩
    · have d1 : decide (z ≤ hi) = false := decide_eq_false h1
      have HE := Lib.hid (show E = false by rw [hE]; exact decide_eq_false fun h => h1 h.2)
      clear hE h0 h1
      go_enter Try.func29, Try.ntmps29
      go_wp2_with (rw [← HW.out])
      go_quiet (fail)
      all_goals
        go_wp2
        go_ret
        exact ⟨by rw [HE.out]; rfl, below_drewNH HB.out _⟩
  · have d0 : decide (lo ≤ z) = false := decide_eq_false h0
    have HE := Lib.hid (show E = false by rw [hE]; exact decide_eq_false fun h => h0 h.1)
    clear hE h0
    go_enter Try.func29, Try.ntmps29
    go_wp2_with (rw [← HW.out])
    go_quiet (fail)
    all_goals
      go_wp2
      go_ret
      exact ⟨by rw [HE.out]; rfl, below_drewNH HB.out _⟩

def cmpH (a b : Int) : Int := if a < b then -1 else if b < a then 1 else 0
theorem nanH_dev (a : Int) (w : World) : Calls Try.prog 45 #[.int .i64 a] w fun e w' => e = .returned (.bool false) ∧ w' = w := by
  have hq : (a != a) = false := by simp
  go_enter Try.func45, Try.ntmps45
  go_wp2
  go_ret
  exact ⟨rfl, rfl⟩
theorem compareH_dev (a b : Int) (w : World) : Calls Try.prog 37 #[.int .i64 a, .int .i64 b] w fun e w' => e = .returned (.int .i64 (cmpH a b)) ∧ w' = w := by
  have HN := Lib.hid (fun a W => nanH_dev a W)
  obtain ⟨E, hE⟩ : ∃ E, E = cmpH a b := ⟨_, rfl⟩
  rw [← hE]
  unfold cmpH at hE
  by_cases h0 : a < b
  · rw [if_pos h0] at hE
    have HE := Lib.hid hE
    clear hE
    go_enter Try.func37, Try.ntmps37
    go_wp2_with fail
    refine (HN.out _ _).mono ?_
    rintro e w2 ⟨rfl, rfl⟩
    go_wp2_with fail
    refine (HN.out _ _).mono ?_
    rintro e w2 ⟨rfl, rfl⟩
    go_wp2
    go_ret
    exact ⟨by rw [HE.out]; rfl, rfl⟩
  · by_cases h1 : b < a
    · rw [if_neg h0, if_pos h1] at hE
      have HE := Lib.hid hE
      clear hE
      go_enter Try.func37, Try.ntmps37
      go_wp2_with fail
      refine (HN.out _ _).mono ?_
      rintro e w2 ⟨rfl, rfl⟩
      go_wp2_with fail
      refine (HN.out _ _).mono ?_
      rintro e w2 ⟨rfl, rfl⟩
      go_wp2
      go_ret
      exact ⟨by rw [HE.out]; rfl, rfl⟩
    · rw [if_neg h0, if_neg h1] at hE
      have HE := Lib.hid hE
      clear hE
      go_enter Try.func37, Try.ntmps37
      go_wp2_with fail
      refine (HN.out _ _).mono ?_
      rintro e w2 ⟨rfl, rfl⟩
      go_wp2_with fail
      refine (HN.out _ _).mono ?_
      rintro e w2 ⟨rfl, rfl⟩
      go_wp2
      go_ret
      exact ⟨by rw [HE.out]; rfl, rfl⟩
theorem byGen_dev (s t : Sup) (w : World) (hs : s.Fine) (ht : t.Fine) : Calls Try.prog 36 #[.agg s.cells, .agg t.cells] w fun e w' => e = .returned (.int .i64 (cmpH s.gen t.gen)) ∧ Below w.heap.size w w' := by
  obtain ⟨m0, m1, m2, m3, m4, m5, m6, m7, hm⟩ := sup_map hs
  obtain ⟨n0, n1, n2, n3, n4, n5, n6, n7, hn⟩ := sup_map ht
  obtain ⟨g, t1, o, i, b, m⟩ := s
  obtain ⟨g', t', o', i', b', m'⟩ := t
  simp only at hm hn
  subst hm hn
  rw [sup_cells, sup_cells]
  clear hs ht
  have HC := Lib.hid (fun W => compareH_dev g g' W)
  obtain ⟨w1, hw1⟩ : ∃ w1, w1 = (w.alloc (.cells #[.int .i64 g, .int .i64 t1, .int .i64 o, .int .i64 i, .int .i64 b, .int .i64 m0, .int .i64 m1, .int .i64 m2, .int .i64 m3, .int .i64 m4, .int .i64 m5, .int .i64 m6, .int .i64 m7] 25)) := ⟨_, rfl⟩
  obtain ⟨w2, hw2⟩ : ∃ w2, w2 = w1.alloc (.cells #[.int .i64 g', .int .i64 t', .int .i64 o', .int .i64 i', .int .i64 b', .int .i64 n0, .int .i64 n1, .int .i64 n2, .int .i64 n3, .int .i64 n4, .int .i64 n5, .int .i64 n6, .int .i64 n7] 25) := ⟨_, rfl⟩
  have hs1 : w1.heap.size = w.heap.size + 1 := by rw [hw1]; simp
  have hb1 : Below w.heap.size w w1 := by rw [hw1]; exact (Below.refl _ w).alloc (Nat.le_refl _) _
  have hb2 : Below w1.heap.size w1 w2 := by rw [hw2]; exact (Below.refl _ w1).alloc (Nat.le_refl _) _
  have c0 : w2.cell? ⟨w.heap.size, 0, none⟩ = some (.int .i64 g) := by
    rw [cell_of_row _ _ 0 _ _ _ ((hb2.block _ (by omega)).trans (by rw [hw1]; exact heap_alloc_new w _))]; rfl
  have c1 : w2.cell? ⟨w1.heap.size, 0, none⟩ = some (.int .i64 g') := by rw [hw2, cell_of_row _ _ 0 _ _ _ (heap_alloc_new w1 _)]; rfl
  have HB := Lib.hid (hb1.trans (hb2.mono hb1.size))
  have HW1 := Lib.hid hw1
  have HW2 := Lib.hid hw2
  clear hw1 hw2 hs1 hb1 hb2
  go_enter Try.func36, Try.ntmps36
  go_wp2_with (first | (rw [← HW2.out]) | (rw [← HW1.out]))
  refine (HC.out _).mono ?_
  rintro e w3 ⟨rfl, rfl⟩
  go_wp2
  go_ret
  exact ⟨rfl, HB.out⟩
end Go.Proofs.Ytgkbhdecohlpmaa
