/-
  bytes.Equal, Same, by contract.
-/
import Derived.Test.YtehkohnpfbdngaaDoorFr
import Derived.Lib.Strings
namespace Go.Proofs.YtehkohnpfbdngaaDoor
open Go.RowKit

theorem strOf_data (bs : List Nat) : ∀ s : ByteArray, (strOf s bs).data.toList = s.data.toList ++ bs.map UInt8.ofNat := by
  induction bs with
  | nil => intro s; simp [strOf]
  | cons a l ih =>
    intro s
    show (strOf (s.push (UInt8.ofNat a)) l).data.toList = _
    rw [ih]
    simp [ByteArray.push]
theorem str_data (bs : List Nat) : (str bs).data.toList = bs.map UInt8.ofNat := by
  unfold str
  rw [strOf_data]
  rfl
theorem map_u8_inj : ∀ {a b : List Nat}, (∀ x ∈ a, x < 256) → (∀ x ∈ b, x < 256) → a.map UInt8.ofNat = b.map UInt8.ofNat → a = b := by
  intro a
  induction a with
  | nil => intro b _ _ h; simpa using h.symm
  | cons x l ih =>
    intro b ha hb h
    cases b with
    | nil => simp at h
    | cons y m =>
      rw [List.map_cons, List.map_cons, List.cons.injEq] at h
      have h1 := ha x List.mem_cons_self
      have h2 := hb y List.mem_cons_self
      have h3 := congrArg UInt8.toNat h.1
      rw [UInt8.toNat_ofNat', UInt8.toNat_ofNat', Nat.mod_eq_of_lt h1, Nat.mod_eq_of_lt h2] at h3
      rw [h3, ih (fun z hz => ha z (List.mem_cons_of_mem _ hz)) (fun z hz => hb z (List.mem_cons_of_mem _ hz)) h.2]
/-- Two strings are alike just if the bytes are. -/
theorem str_beq {a b : List Nat} (ha : ∀ x ∈ a, x < 256) (hb : ∀ x ∈ b, x < 256) : ((str a).toList == (str b).toList) = decide (a = b) := by
  rw [Lib.toList_data, Lib.toList_data, str_data, str_data, Bool.eq_iff_iff, beq_iff_eq, decide_eq_true_eq]
  exact ⟨fun h => map_u8_inj ha hb h, fun h => by rw [h]⟩

set_option maxHeartbeats 400000 in
theorem equal_any (xs bs : List Nat) (A B : Option Addr) (c d : Nat) (w : World) (hA : By w w.heap.size A xs) (hB : By w w.heap.size B bs) :
    Calls Tryd.prog 25 #[.slice A xs.length c, .slice B bs.length d] w fun e w' => e = .returned (.bool (decide (xs = bs))) ∧ w = w' := by
  have k1 := conv_str w hA c
  have k2 := conv_str w hB d
  have HS := Lib.hid (str_beq hA.1 hB.1)
  generalize decide (xs = bs) = r at *
  clear hA hB
  generalize str xs = s at *
  generalize str bs = t at *
  go_enter Tryd.func25, Tryd.ntmps25
  go_wp2
  go_ret
  exact ⟨by rw [← HS.out]; rfl, rfl⟩

theorem same_no {f g : Fr} (h : ¬ (f.seq = g.seq ∧ f.inc = g.inc ∧ f.part = g.part ∧ f.of = g.of ∧ f.mark = g.mark ∧ f.load = g.load)) : sameB f g = false := by
  unfold sameB
  rw [decide_eq_false_iff_not, Fr.ext_iff']
  exact h
theorem same_yes {f g : Fr} (h : f.seq = g.seq ∧ f.inc = g.inc ∧ f.part = g.part ∧ f.of = g.of ∧ f.mark = g.mark) : sameB f g = decide (f.load = g.load) := by
  unfold sameB
  rw [Bool.eq_iff_iff, decide_eq_true_eq, decide_eq_true_eq, Fr.ext_iff']
  obtain ⟨h1, h2, h3, h4, h5⟩ := h
  simp [h1, h2, h3, h4, h5]
set_option maxHeartbeats 1000000 in
theorem same_any (f g : Fr) (A B : Option Addr) (c d : Nat) (w : World) (hf : FrV w w.heap.size (frv A c f) f) (hg : FrV w w.heap.size (frv B d g) g) :
    Calls Tryd.prog 14 #[.agg (frv A c f).toArray, .agg (frv B d g).toArray] w fun e w' => e = .returned (.bool (sameB f g)) ∧ Below w.heap.size w w' := by
  have HB := Lib.hid (((Below.refl w.heap.size w).alloc (Nat.le_refl _) (.cells (frv A c f).toArray 25)).alloc (by simp) (.cells (frv B d g).toArray 25))
  have HY1 := Lib.hid ((hf.load_by.below HB.out (Nat.le_refl _)).mono HB.out.size)
  have HY2 := Lib.hid ((hg.load_by.below HB.out (Nat.le_refl _)).mono HB.out.size)
  clear hf hg
  unfold frv at *
  by_cases h1 : f.seq = g.seq
  rotate_left
  · have hq : (f.seq == g.seq) = false := beq_eq_false_iff_ne.2 h1
    have HF := Lib.hid (same_no (f := f) (g := g) (fun h => h1 h.1))
    go_enter Tryd.func14, Tryd.ntmps14
    go_wp2
    go_ret
    exact ⟨by rw [HF.out]; rfl, HB.out⟩
  have q1 : (f.seq == g.seq) = true := beq_iff_eq.2 h1
  have H1 := Lib.hid h1
  clear h1
  by_cases h2 : f.inc = g.inc
  rotate_left
  · have hq : (f.inc == g.inc) = false := beq_eq_false_iff_ne.2 h2
    have HF := Lib.hid (same_no (f := f) (g := g) (fun h => h2 h.2.1))
    go_enter Tryd.func14, Tryd.ntmps14
    go_wp2
    go_ret
    exact ⟨by rw [HF.out]; rfl, HB.out⟩
  have q2 : (f.inc == g.inc) = true := beq_iff_eq.2 h2
  have H2 := Lib.hid h2
  clear h2
  by_cases h3 : f.part = g.part
  rotate_left
  · have hq : (f.part == g.part) = false := beq_eq_false_iff_ne.2 h3
    have HF := Lib.hid (same_no (f := f) (g := g) (fun h => h3 h.2.2.1))
    go_enter Tryd.func14, Tryd.ntmps14
    go_wp2
    go_ret
    exact ⟨by rw [HF.out]; rfl, HB.out⟩
  have q3 : (f.part == g.part) = true := beq_iff_eq.2 h3
  have H3 := Lib.hid h3
  clear h3
  by_cases h4 : f.of = g.of
  rotate_left
  · have hq : (f.of == g.of) = false := beq_eq_false_iff_ne.2 h4
    have HF := Lib.hid (same_no (f := f) (g := g) (fun h => h4 h.2.2.2.1))
    go_enter Tryd.func14, Tryd.ntmps14
    go_wp2
    go_ret
    exact ⟨by rw [HF.out]; rfl, HB.out⟩
  have q4 : (f.of == g.of) = true := beq_iff_eq.2 h4
  have H4 := Lib.hid h4
  clear h4
  by_cases h5 : f.mark = g.mark
  rotate_left
  · have hq : ((f.mark : Int) == (g.mark : Int)) = false := beq_eq_false_iff_ne.2 (fun e => h5 (by omega))
    have HF := Lib.hid (same_no (f := f) (g := g) (fun h => h5 h.2.2.2.2.1))
    go_enter Tryd.func14, Tryd.ntmps14
    go_wp2
    go_ret
    exact ⟨by rw [HF.out]; rfl, HB.out⟩
  have q5 : ((f.mark : Int) == (g.mark : Int)) = true := by rw [h5]; simp
  have HF := Lib.hid (same_yes ⟨H1.out, H2.out, H3.out, H4.out, h5⟩)
  clear h5
  go_enter Tryd.func14, Tryd.ntmps14
  go_wp2_with fail
  refine (equal_any f.load g.load A B c d _ HY1.out HY2.out).mono ?_
  rintro e w2 ⟨rfl, rfl⟩
  go_wp2
  go_ret
  exact ⟨by rw [HF.out]; rfl, HB.out⟩
end Go.Proofs.YtehkohnpfbdngaaDoor
