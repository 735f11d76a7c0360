/-
  The document's own May and Same, by contract.
-/
import Derived.Test.YtehkohnpfbdngaaDoorEqual
namespace Go.Proofs.YtehkohnpfbdngaaDoor
open Go.RowKit

set_option maxHeartbeats 1000000 in
theorem rsame_any (f g : Fr) (A B : Option Addr) (c d : Nat) (w : World) (hf : FrV w w.heap.size (frv A c f) f) (hg : FrV w w.heap.size (frv B d g) g) :
    Calls Tryd.prog 11 #[.agg (frv A c f).toArray, .agg (frv B d g).toArray] w fun e w' => e = .returned (.bool (sameB f g)) ∧ Below w.heap.size w w' := by
  have HB := Lib.hid (((Below.refl w.heap.size w).alloc (Nat.le_refl _) (.cells (frv A c f).toArray 25)).alloc (by simp) (.cells (frv B d g).toArray 25))
  have HY1 := Lib.hid ((hf.load_by.below HB.out (Nat.le_refl _)).mono HB.out.size)
  have HY2 := Lib.hid ((hg.load_by.below HB.out (Nat.le_refl _)).mono HB.out.size)
  clear hf hg
  unfold frv at *
  by_cases h1 : f.seq = g.seq
  rotate_left
  · have hq : (f.seq == g.seq) = false := beq_eq_false_iff_ne.2 h1
    have HF := Lib.hid (same_no (f := f) (g := g) (fun h => h1 h.1))
    go_enter Tryd.func11, Tryd.ntmps11
    go_wp2
    go_ret
    exact ⟨by rw [HF.out]; rfl, HB.out⟩
  have q1 : (f.seq == g.seq) = true := beq_iff_eq.2 h1
  have H1 := Lib.hid h1
  clear h1
  by_cases h2 : f.inc = g.inc
  rotate_left
  · have hq : (f.inc == g.inc) = false := beq_eq_false_iff_ne.2 h2
    have HF := Lib.hid (same_no (f := f) (g := g) (fun h => h2 h.2.1))
    go_enter Tryd.func11, Tryd.ntmps11
    go_wp2
    go_ret
    exact ⟨by rw [HF.out]; rfl, HB.out⟩
  have q2 : (f.inc == g.inc) = true := beq_iff_eq.2 h2
  have H2 := Lib.hid h2
  clear h2
  by_cases h3 : f.part = g.part
  rotate_left
  · have hq : (f.part == g.part) = false := beq_eq_false_iff_ne.2 h3
    have HF := Lib.hid (same_no (f := f) (g := g) (fun h => h3 h.2.2.1))
    go_enter Tryd.func11, Tryd.ntmps11
    go_wp2
    go_ret
    exact ⟨by rw [HF.out]; rfl, HB.out⟩
  have q3 : (f.part == g.part) = true := beq_iff_eq.2 h3
  have H3 := Lib.hid h3
  clear h3
  by_cases h4 : f.of = g.of
  rotate_left
  · have hq : (f.of == g.of) = false := beq_eq_false_iff_ne.2 h4
    have HF := Lib.hid (same_no (f := f) (g := g) (fun h => h4 h.2.2.2.1))
    go_enter Tryd.func11, Tryd.ntmps11
    go_wp2
    go_ret
    exact ⟨by rw [HF.out]; rfl, HB.out⟩
  have q4 : (f.of == g.of) = true := beq_iff_eq.2 h4
  have H4 := Lib.hid h4
  clear h4
  by_cases h5 : f.mark = g.mark
  rotate_left
  · have hq : ((f.mark : Int) == (g.mark : Int)) = false := beq_eq_false_iff_ne.2 (fun e => h5 (by omega))
    have HF := Lib.hid (same_no (f := f) (g := g) (fun h => h5 h.2.2.2.2.1))
    go_enter Tryd.func11, Tryd.ntmps11
    go_wp2
    go_ret
    exact ⟨by rw [HF.out]; rfl, HB.out⟩
  have q5 : ((f.mark : Int) == (g.mark : Int)) = true := by rw [h5]; simp
  have HF := Lib.hid (same_yes ⟨H1.out, H2.out, H3.out, H4.out, h5⟩)
  clear h5
  have k1 := conv_str _ HY1.out c
  have k2 := conv_str _ HY2.out d
  have HS := Lib.hid (str_beq HY1.out.1 HY2.out.1)
  have HL1 := Lib.hid (rfl : f.load.length = f.load.length)
  clear HY1 HY2
  generalize decide (f.load = g.load) = r at *
  generalize str f.load = s at *
  generalize str g.load = t at *
  go_enter Tryd.func11, Tryd.ntmps11
  go_wp2
  go_ret
  exact ⟨by rw [HF.out, ← HS.out]; rfl, HB.out⟩

theorem may_not {f : Fr} (h : ¬ (1 ≤ f.seq ∧ f.seq ≤ 1099511627776 ∧ 0 ≤ f.inc ∧ f.inc ≤ 1048576 ∧ 1 ≤ f.of ∧ f.of ≤ 2 ∧ 0 ≤ f.part ∧ f.part ≤ f.of - 1 ∧ 1 ≤ f.load.length ∧ f.load.length ≤ 45 ∧ (f.part = f.of - 1 ∨ f.load.length = 45))) : mayB f = false := by
  unfold mayB
  exact decide_eq_false h
set_option maxHeartbeats 1000000 in
theorem rmay_any (f : Fr) (A : Option Addr) (c : Nat) (w : World) (h : FrV w w.heap.size (frv A c f) f) :
    Calls Tryd.prog 13 #[.agg (frv A c f).toArray] w fun e w' => e = .returned (.bool (mayB f)) ∧ Below w.heap.size w w' := by
  have HB := Lib.hid ((Below.refl w.heap.size w).alloc (Nat.le_refl _) (.cells (frv A c f).toArray 25))
  have hlen : f.load.length ≤ maxLen := Nat.le_trans h.load_le.1 h.load_le.2.1
  unfold maxLen at hlen
  clear h
  unfold frv at *
  by_cases h1 : f.seq < 1
  · have HF := Lib.hid (may_not (f := f) (by omega))
    go_enter Tryd.func13, Tryd.ntmps13
    go_wp2
    go_ret
    exact ⟨by rw [HF.out]; rfl, HB.out⟩
  by_cases h2 : 1099511627776 < f.seq
  · have HF := Lib.hid (may_not (f := f) (by omega))
    go_enter Tryd.func13, Tryd.ntmps13
    go_wp2
    go_ret
    exact ⟨by rw [HF.out]; rfl, HB.out⟩
  by_cases h3 : f.inc < 0
  · have HF := Lib.hid (may_not (f := f) (by omega))
    go_enter Tryd.func13, Tryd.ntmps13
    go_wp2
    go_ret
    exact ⟨by rw [HF.out]; rfl, HB.out⟩
  by_cases h4 : 1048576 < f.inc
  · have HF := Lib.hid (may_not (f := f) (by omega))
    go_enter Tryd.func13, Tryd.ntmps13
    go_wp2
    go_ret
    exact ⟨by rw [HF.out]; rfl, HB.out⟩
  by_cases h5 : f.of < 1
  · have HF := Lib.hid (may_not (f := f) (by omega))
    go_enter Tryd.func13, Tryd.ntmps13
    go_wp2
    go_ret
    exact ⟨by rw [HF.out]; rfl, HB.out⟩
  by_cases h6 : 2 < f.of
  · have HF := Lib.hid (may_not (f := f) (by omega))
    go_enter Tryd.func13, Tryd.ntmps13
    go_wp2
    go_ret
    exact ⟨by rw [HF.out]; rfl, HB.out⟩
  by_cases h7 : f.part < 0
  · have HF := Lib.hid (may_not (f := f) (by omega))
    go_enter Tryd.func13, Tryd.ntmps13
    go_wp2
    go_ret
    exact ⟨by rw [HF.out]; rfl, HB.out⟩
  by_cases h8 : f.of ≤ f.part
  · have HF := Lib.hid (may_not (f := f) (by omega))
    go_enter Tryd.func13, Tryd.ntmps13
    go_wp2
    go_ret
    exact ⟨by rw [HF.out]; rfl, HB.out⟩
  have hw : IntKind.i64.wrap (f.of - 1) = f.of - 1 := by rw [IntKind.wrap_i64]; omega
  by_cases h9 : (1 : Int) ≤ f.load.length
  rotate_left
  · have HF := Lib.hid (may_not (f := f) (by omega))
    go_enter Tryd.func13, Tryd.ntmps13
    go_wp2
    go_ret
    exact ⟨by rw [HF.out]; rfl, HB.out⟩
  by_cases h10 : (f.load.length : Int) ≤ 45
  rotate_left
  · have HF := Lib.hid (may_not (f := f) (by omega))
    go_enter Tryd.func13, Tryd.ntmps13
    go_wp2
    go_ret
    exact ⟨by rw [HF.out]; rfl, HB.out⟩
  by_cases h11 : f.part = f.of - 1
  · have hq : (f.part == f.of - 1) = true := beq_iff_eq.2 h11
    have HF := Lib.hid (show mayB f = true by unfold mayB; rw [decide_eq_true_eq]; omega)
    clear h11
    go_enter Tryd.func13, Tryd.ntmps13
    go_wp2
    go_ret
    exact ⟨by rw [HF.out]; rfl, HB.out⟩
  · have hq : (f.part == f.of - 1) = false := beq_eq_false_iff_ne.2 h11
    have HF := Lib.hid (show mayB f = ((f.load.length : Int) == 45) by unfold mayB; rw [Bool.eq_iff_iff, decide_eq_true_eq, beq_iff_eq]; omega)
    clear h11
    go_enter Tryd.func13, Tryd.ntmps13
    go_wp2
    go_ret
    exact ⟨by rw [HF.out]; rfl, HB.out⟩
end Go.Proofs.YtehkohnpfbdngaaDoor
