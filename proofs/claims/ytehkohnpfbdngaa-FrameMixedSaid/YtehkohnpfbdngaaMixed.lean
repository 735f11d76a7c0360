/-
  FrameMixed, by contract.
-/
import Derived.Test.YtehkohnpfbdngaaWakes
import Derived.Test.YtehkohnpfbdngaaRef
namespace Go.Proofs.Ytehkohnpfbdngaa
open Go.RowKit

theorem join_pair {f g : Fr} (h : joinB [f, g] = true) : f.part = 0 ∧ g.inc = f.inc ∧ g.mark = f.mark := by
  unfold joinB at h
  simp only [Bool.and_eq_true, decide_eq_true_eq] at h
  obtain ⟨_, hE, hc⟩ := h
  rcases cut_ways hE with ⟨hn, _⟩ | ⟨hn, _⟩
  · rw [cutAll_one hn] at hc
    simp at hc
  · rw [cutAll_two hn] at hc
    simp only [List.cons.injEq, and_true] at hc
    have h1 := congrArg Fr.part hc.1
    have h2 := congrArg Fr.mark hc.1
    have h3 := congrArg Fr.mark hc.2
    have h4 := congrArg Fr.inc hc.2
    dsimp only [cutOne] at h1 h2 h3 h4
    exact ⟨by omega, by omega, by omega⟩
theorem Frs.two {w : World} {B g : Nat} {xs ys : List Value} {t : TypeId} {fr : Nat × Nat} {f h : Fr} (hg : w.heap[g]? = some (.cells (xs ++ ys).toArray t fr)) (hB : g < B) (hx : FrV w B xs f) (hy : FrV w B ys h) (hl : xs.length = 6) : Frs w B (some ⟨g, 0, none⟩) [f, h] :=
  Frs.of_row hg hB fun i hi => by
    have hi2 : i = 0 ∨ i = 1 := by simp at hi; omega
    rcases hi2 with rfl | rfl
    · refine ⟨xs, hx, fun j u hu => ?_⟩
      have hj := (List.getElem?_eq_some_iff.1 hu).1
      rw [show 0 + 0 * 6 + j = j by omega, List.getElem?_append_left hj]
      exact hu
    · refine ⟨ys, hy, fun j u hu => ?_⟩
      rw [show 0 + 1 * 6 + j = xs.length + j by omega, List.getElem?_append_right (by omega), Nat.add_sub_cancel_left]
      exact hu
theorem joinE_no {l : List Fr} (h : joinB l = false) : joinE l = 40 := by unfold joinE; rw [h]; rfl

set_option maxHeartbeats 1000000 in
theorem mixed_big (n m c d : Nat) (A B : Option Addr) (seq inc other : Int) (w : World) (h : 90 < n ∨ 90 < m) :
    Calls Try.prog 3 #[.slice A n c, .slice B m d, .int .i64 seq, .int .i64 inc, .int .i64 other] w fun e w' => e = .returned (.bool true) ∧ Below w.heap.size w w' := by
  by_cases h1 : 90 < n
  · have hb : (90 : Int) < (n : Int) := by omega
    clear h
    go_enter Try.func3, Try.ntmps3
    go_wp2_with (go_at_call 5; refine (wakes_any _).mono ?_; rintro e w7 ⟨rfl, hb7⟩)
    go_ret
    exact ⟨rfl, hb7⟩
  · have hb1 : ¬ (90 : Int) < (n : Int) := by omega
    have hb : (90 : Int) < (m : Int) := by omega
    clear h
    go_enter Try.func3, Try.ntmps3
    go_wp2_with (go_at_call 5; refine (wakes_any _).mono ?_; rintro e w7 ⟨rfl, hb7⟩)
    go_ret
    exact ⟨rfl, hb7⟩

/-- what the world has behind the two cuts -/
def Mixed (w2 : World) (f0 f1 g0 g1 : Fr) (b off b' off' : Nat) (P0 P1 Q0 Q1 : Option Addr) (k0 k1 j0 j1 : Nat) : Prop :=
  ∀ W, Below w2.heap.size w2 W → (W.cell? ⟨b, off, none⟩ = some (.int .i64 f0.seq) ∧ W.cell? ⟨b, off + 1, none⟩ = some (.int .i64 f0.inc) ∧ W.cell? ⟨b, off + 2, none⟩ = some (.int .i64 f0.part) ∧ W.cell? ⟨b, off + 3, none⟩ = some (.int .i64 f0.of) ∧ W.cell? ⟨b, off + 4, none⟩ = some (.int .u32 (f0.mark : Nat)) ∧ W.cell? ⟨b, off + 5, none⟩ = some (.slice P0 f0.load.length k0)) ∧ (W.cell? ⟨b, off + 6, none⟩ = some (.int .i64 f1.seq) ∧ W.cell? ⟨b, off + 7, none⟩ = some (.int .i64 f1.inc) ∧ W.cell? ⟨b, off + 8, none⟩ = some (.int .i64 f1.part) ∧ W.cell? ⟨b, off + 9, none⟩ = some (.int .i64 f1.of) ∧ W.cell? ⟨b, off + 10, none⟩ = some (.int .u32 (f1.mark : Nat)) ∧ W.cell? ⟨b, off + 11, none⟩ = some (.slice P1 f1.load.length k1)) ∧ (W.cell? ⟨b', off', none⟩ = some (.int .i64 g0.seq) ∧ W.cell? ⟨b', off' + 1, none⟩ = some (.int .i64 g0.inc) ∧ W.cell? ⟨b', off' + 2, none⟩ = some (.int .i64 g0.part) ∧ W.cell? ⟨b', off' + 3, none⟩ = some (.int .i64 g0.of) ∧ W.cell? ⟨b', off' + 4, none⟩ = some (.int .u32 (g0.mark : Nat)) ∧ W.cell? ⟨b', off' + 5, none⟩ = some (.slice Q0 g0.load.length j0)) ∧ (W.cell? ⟨b', off' + 6, none⟩ = some (.int .i64 g1.seq) ∧ W.cell? ⟨b', off' + 7, none⟩ = some (.int .i64 g1.inc) ∧ W.cell? ⟨b', off' + 8, none⟩ = some (.int .i64 g1.part) ∧ W.cell? ⟨b', off' + 9, none⟩ = some (.int .i64 g1.of) ∧ W.cell? ⟨b', off' + 10, none⟩ = some (.int .u32 (g1.mark : Nat)) ∧ W.cell? ⟨b', off' + 11, none⟩ = some (.slice Q1 g1.load.length j1)) ∧ FrV W W.heap.size (frv P0 k0 f0) f0 ∧ FrV W W.heap.size (frv P1 k1 f1) f1 ∧ FrV W W.heap.size (frv Q0 j0 g0) g0 ∧ FrV W W.heap.size (frv Q1 j1 g1) g1
theorem Mixed.mk {w2 : World} {b off b' off' : Nat} {f0 f1 g0 g1 : Fr} (hl : Frs w2 w2.heap.size (some ⟨b, off, none⟩) [f0, f1]) (hm : Frs w2 w2.heap.size (some ⟨b', off', none⟩) [g0, g1]) :
    ∃ P0 P1 Q0 Q1 k0 k1 j0 j1, Mixed w2 f0 f1 g0 g1 b off b' off' P0 P1 Q0 Q1 k0 k1 j0 j1 := by
  obtain ⟨x, y, P0, k0, e, hb, y0, l0, m0, n0, i0, a0, a1, a2, a3, a4, a5⟩ := hl.cells (k := 0) (by simp)
  obtain ⟨rfl, rfl⟩ : b = x ∧ off = y := by simpa using e
  obtain ⟨x, y, P1, k1, e, _, y1, l1, m1, n1, i1, b0, b1, b2, b3, b4, b5⟩ := hl.cells (k := 1) (by simp)
  obtain ⟨rfl, rfl⟩ : b = x ∧ off = y := by simpa using e
  obtain ⟨x, y, Q0, j0, e, hb', y2, l2, m2, n2, i2, c0, c1, c2, c3, c4, c5⟩ := hm.cells (k := 0) (by simp)
  obtain ⟨rfl, rfl⟩ : b' = x ∧ off' = y := by simpa using e
  obtain ⟨x, y, Q1, j1, e, _, y3, l3, m3, n3, i3, d0, d1, d2, d3, d4, d5⟩ := hm.cells (k := 1) (by simp)
  obtain ⟨rfl, rfl⟩ : b' = x ∧ off' = y := by simpa using e
  refine ⟨P0, P1, Q0, Q1, k0, k1, j0, j1, fun W hW => ?_⟩
  have hc : ∀ o, W.cell? ⟨b, o, none⟩ = w2.cell? ⟨b, o, none⟩ := fun o => hW.cell (p := ⟨b, o, none⟩) hb
  have hc' : ∀ o, W.cell? ⟨b', o, none⟩ = w2.cell? ⟨b', o, none⟩ := fun o => hW.cell (p := ⟨b', o, none⟩) hb'
  exact ⟨⟨(hc _).trans a0, (hc _).trans a1, (hc _).trans a2, (hc _).trans a3, (hc _).trans a4, (hc _).trans a5⟩, ⟨(hc _).trans b0, (hc _).trans b1, (hc _).trans b2, (hc _).trans b3, (hc _).trans b4, (hc _).trans b5⟩,
    ⟨(hc' _).trans c0, (hc' _).trans c1, (hc' _).trans c2, (hc' _).trans c3, (hc' _).trans c4, (hc' _).trans c5⟩, ⟨(hc' _).trans d0, (hc' _).trans d1, (hc' _).trans d2, (hc' _).trans d3, (hc' _).trans d4, (hc' _).trans d5⟩,
    ((Cells.frv y0 l0 m0 n0 i0).below hW (Nat.le_refl _)).mono hW.size, ((Cells.frv y1 l1 m1 n1 i1).below hW (Nat.le_refl _)).mono hW.size, ((Cells.frv y2 l2 m2 n2 i2).below hW (Nat.le_refl _)).mono hW.size, ((Cells.frv y3 l3 m3 n3 i3).below hW (Nat.le_refl _)).mono hW.size⟩
/-- a slice of two frames that is joined: ErrCode -/
theorem join_two {f g : Fr} {A B : Option Addr} {c d : Nat} {W : World} (hf : FrV W W.heap.size (frv A c f) f) (hg : FrV W W.heap.size (frv B d g) g) (hj : joinB [f, g] = false) :
    Calls Try.prog 8 #[.slice (some ⟨W.heap.size, 0, none⟩) 2 2] (W.alloc (.cells (frv A c f ++ frv B d g).toArray 33)) fun e w' => ∃ v, e = .returned (.tuple #[v, .int .i64 40]) ∧ Below W.heap.size W w' := by
  have hb := (Below.refl W.heap.size W).alloc (Nat.le_refl _) (.cells (frv A c f ++ frv B d g).toArray 33)
  have hz : (W.alloc (.cells (frv A c f ++ frv B d g).toArray 33)).heap.size = W.heap.size + 1 := by simp
  have h := join_any [f, g] (some ⟨W.heap.size, 0, none⟩) 2 _ (Frs.two (heap_alloc_new W (.cells (frv A c f ++ frv B d g).toArray 33)) (by omega) ((hf.below hb (Nat.le_refl _)).mono (by omega)) ((hg.below hb (Nat.le_refl _)).mono (by omega)) rfl) (by simp)
  refine h.mono ?_
  rintro e w' ⟨A', c', rfl, _, _, _, _, hb'⟩
  rw [joinE_no hj]
  exact ⟨_, rfl, hb.trans (hb'.mono (by omega))⟩

set_option maxRecDepth 100000 in
set_option maxHeartbeats 4000000 in
theorem mixed_small (xs ys : List Nat) (A B : Option Addr) (c d : Nat) (seq inc other : Int) (w : World) (hA : By w w.heap.size A xs) (hB : By w w.heap.size B ys) (hc : xs.length ≤ c) (hd : ys.length ≤ d) (hcm : c ≤ maxLen) (hdm : d ≤ maxLen)
    (hl : xs.length ≤ 90) (hl2 : ys.length ≤ 90) (h1 : -9223372036854775808 ≤ seq) (h2 : seq ≤ 9223372036854775807) :
    Calls Try.prog 3 #[.slice A xs.length c, .slice B ys.length d, .int .i64 seq, .int .i64 inc, .int .i64 other] w fun e w' => e = .returned (.bool true) ∧ Below w.heap.size w w' := by
  have hlb : ¬ (90 : Int) < (xs.length : Int) := by omega
  have hlb2 : ¬ (90 : Int) < (ys.length : Int) := by omega
  have HC1 := Lib.hid (cut_any xs seq inc A c w hA hc hcm (by omega) h1 h2)
  have HC2 := Lib.hid (fun W (hW : Below w.heap.size w W) => cut_any ys seq other B d W ((hB.below hW (Nat.le_refl _)).mono hW.size) hd hdm (by omega) h1 h2)
  have HA := Lib.hid hA
  have HB := Lib.hid hB
  clear hA hB
  go_enter Try.func3, Try.ntmps3
  go_wp2_with fail
  refine HC1.out.mono ?_
  rintro e w1 ⟨A1, c1, rfl, hfr1, hlc1, hc1, hn1, hb1⟩
  have HB1 := Lib.hid hb1
  have HF1 := Lib.hid hfr1
  clear hfr1 hb1 HC1
  go_wp2_with fail
  refine (HC2.out w1 HB1.out).mono ?_
  rintro e w2 ⟨A2, c2, rfl, hfr2, hlc2, hc2, hn2, hb2⟩
  have HB2 := Lib.hid (HB1.out.trans (hb2.mono HB1.out.size))
  have HF2 := Lib.hid hfr2
  have HF12 := Lib.hid ((HF1.out.below hb2 (Nat.le_refl _)).mono hb2.size)
  clear hfr2 hb2 HC2 HF1
  by_cases hE : cutE xs.length seq inc = 0 ∧ cutE ys.length seq other = 0 ∧ cutN xs.length = 2 ∧ cutN ys.length = 2
  rotate_left
  · have fin : ∀ (q1 q2 q3 q4 : Bool), (cutE xs.length seq inc != 0) = q1 → (cutE ys.length seq other != 0) = q2 → (((cutL xs seq inc).length : Int) != 2) = q3 → (((cutL ys seq other).length : Int) != 2) = q4 → (q1 || q2 || q3 || q4) = true := by
      intro q1 q2 q3 q4 e1 e2 e3 e4
      cases q1 <;> cases q2 <;> cases q3 <;> cases q4 <;> simp at e1 e2 e3 e4 ⊢
      rw [cutL_yes e1, cutAll_length] at e3
      rw [cutL_yes e2, cutAll_length] at e4
      exact hE ⟨e1, e2, by omega, by omega⟩
    obtain ⟨q1, e1⟩ : ∃ q1, (cutE xs.length seq inc != 0) = q1 := ⟨_, rfl⟩
    obtain ⟨q2, e2⟩ : ∃ q2, (cutE ys.length seq other != 0) = q2 := ⟨_, rfl⟩
    obtain ⟨q3, e3⟩ : ∃ q3, (((cutL xs seq inc).length : Int) != 2) = q3 := ⟨_, rfl⟩
    obtain ⟨q4, e4⟩ : ∃ q4, (((cutL ys seq other).length : Int) != 2) = q4 := ⟨_, rfl⟩
    have hq := fin q1 q2 q3 q4 e1 e2 e3 e4
    have HE := Lib.hid hE
    clear fin hE
    cases q1 with
    | true =>
      clear hq e2 e3 e4
      go_wp2_with fail
      refine (wakes_any _).mono ?_
      rintro e w3 ⟨rfl, hb3⟩
      have HB3 := Lib.hid (HB2.out.trans (hb3.mono HB2.out.size))
      clear hb3
      go_wp2
      go_ret
      exact ⟨rfl, HB3.out⟩
    | false =>
    cases q2 with
    | true =>
      clear hq e3 e4
      go_wp2_with fail
      refine (wakes_any _).mono ?_
      rintro e w3 ⟨rfl, hb3⟩
      have HB3 := Lib.hid (HB2.out.trans (hb3.mono HB2.out.size))
      clear hb3
      go_wp2
      go_ret
      exact ⟨rfl, HB3.out⟩
    | false =>
    cases q3 with
    | true =>
      clear hq e4
      go_wp2_with fail
      refine (wakes_any _).mono ?_
      rintro e w3 ⟨rfl, hb3⟩
      have HB3 := Lib.hid (HB2.out.trans (hb3.mono HB2.out.size))
      clear hb3
      go_wp2
      go_ret
      exact ⟨rfl, HB3.out⟩
    | false =>
    cases q4 with
    | true =>
      clear hq
      go_wp2_with fail
      refine (wakes_any _).mono ?_
      rintro e w3 ⟨rfl, hb3⟩
      have HB3 := Lib.hid (HB2.out.trans (hb3.mono HB2.out.size))
      clear hb3
      go_wp2
      go_ret
      exact ⟨rfl, HB3.out⟩
    | false => simp at hq
  · obtain ⟨E1, E2, N1, N2⟩ := hE
    have hx : cutL xs seq inc = [cutOne xs seq inc 0, cutOne xs seq inc 1] := by rw [cutL_yes E1, cutAll_two N1]
    have hy : cutL ys seq other = [cutOne ys seq other 0, cutOne ys seq other 1] := by rw [cutL_yes E2, cutAll_two N2]
    rw [hx] at HF12 hlc1
    rw [hy] at HF2 hlc2
    rw [hx, hy, E1, E2]
    have hJ3 : joinB [cutOne xs seq inc 1, cutOne xs seq inc 0] = false := by
      cases h : joinB [cutOne xs seq inc 1, cutOne xs seq inc 0] with
      | false => rfl
      | true =>
        have := (join_pair h).1
        simp [cutOne] at this
    have hJ1 : ¬ (inc = other ∧ Crc.sum xs = Crc.sum ys) → joinB [cutOne xs seq inc 0, cutOne ys seq other 1] = false := by
      intro hne
      cases h : joinB [cutOne xs seq inc 0, cutOne ys seq other 1] with
      | false => rfl
      | true =>
        obtain ⟨_, q1, q2⟩ := join_pair h
        exact absurd ⟨q1.symm, q2.symm⟩ hne
    have hJ2 : ¬ (inc = other ∧ Crc.sum xs = Crc.sum ys) → joinB [cutOne ys seq other 0, cutOne xs seq inc 1] = false := by
      intro hne
      cases h : joinB [cutOne ys seq other 0, cutOne xs seq inc 1] with
      | false => rfl
      | true =>
        obtain ⟨_, q1, q2⟩ := join_pair h
        exact absurd ⟨q1, q2⟩ hne
    have HR1 := Lib.hid (rsum_any xs A c w2 ((HA.out.below HB2.out (Nat.le_refl _)).mono HB2.out.size) (by unfold maxLen; omega))
    have HR2 := Lib.hid (rsum_any ys B d w2 ((HB.out.below HB2.out (Nat.le_refl _)).mono HB2.out.size) (by unfold maxLen; omega))
    have hs1 := Crc.sum_lt HA.out.1
    have hs2 := Crc.sum_lt HB.out.1
    have HNe1 := Lib.hid hJ1
    have HNe2 := Lib.hid hJ2
    have HJ3 := Lib.hid hJ3
    obtain ⟨b, off, rfl, _⟩ := HF12.out (by simp)
    obtain ⟨b', off', rfl, _⟩ := HF2.out (by simp)
    obtain ⟨P0, P1, Q0, Q1, k0, k1, j0, j1, hMx⟩ := Mixed.mk HF12.out HF2.out
    have HM := Lib.hid hMx
    clear hx hy hJ1 hJ2 hJ3 hMx HF12 HF2 hlc1 hlc2 E1 E2 N1 N2 hn1 hn2
    generalize cutOne xs seq inc 0 = f0 at *
    generalize cutOne xs seq inc 1 = f1 at *
    generalize cutOne ys seq other 0 = g0 at *
    generalize cutOne ys seq other 1 = g1 at *
    generalize Crc.sum xs = sx at *
    generalize Crc.sum ys = sy at *
    by_cases hi : inc = other
    · have q1 : (inc == other) = true := by simp [hi]
      by_cases hs : sx = sy
      · have q2 : ((sx : Int) == (sy : Int)) = true := by simp [hs]
        clear hi hs
        go_wp2_with fail
        refine HR1.out.mono ?_
        rintro e w3 ⟨rfl, rfl⟩
        go_wp2_with fail
        refine HR2.out.mono ?_
        rintro e w4 ⟨rfl, rfl⟩
        go_wp2_with fail
        refine (wakes_any _).mono ?_
        rintro e w5 ⟨rfl, hb5⟩
        have HB5 := Lib.hid (HB2.out.trans (hb5.mono HB2.out.size))
        clear hb5
        go_wp2
        go_ret
        exact ⟨rfl, HB5.out⟩
      · have q2 : ((sx : Int) == (sy : Int)) = false := beq_eq_false_iff_ne.2 (by omega)
        have HJ1 := Lib.hid (HNe1.out (fun h => hs h.2))
        have HJ2 := Lib.hid (HNe2.out (fun h => hs h.2))
        clear hi hs
        go_wp2_with fail
        refine HR1.out.mono ?_
        rintro e w3 ⟨rfl, rfl⟩
        go_wp2_with fail
        refine HR2.out.mono ?_
        rintro e w4 ⟨rfl, rfl⟩
        have HW2 := Lib.hid (Below.refl w2.heap.size w2)
        go_wp2_with fail
        have hM := HM.out w2.drew HW2.out.drew
        have HJo := Lib.hid (join_two (W := w2.drew) hM.2.2.2.2.1 hM.2.2.2.2.2.2.2 HJ1.out)
        refine wp_region_held_drew (S := fun W => (W.cell? ⟨b, off, none⟩ = some (.int .i64 f0.seq) ∧ W.cell? ⟨b, off + 1, none⟩ = some (.int .i64 f0.inc) ∧ W.cell? ⟨b, off + 2, none⟩ = some (.int .i64 f0.part) ∧ W.cell? ⟨b, off + 3, none⟩ = some (.int .i64 f0.of) ∧ W.cell? ⟨b, off + 4, none⟩ = some (.int .u32 (f0.mark : Nat)) ∧ W.cell? ⟨b, off + 5, none⟩ = some (.slice P0 f0.load.length k0)) ∧ (W.cell? ⟨b', off' + 6, none⟩ = some (.int .i64 g1.seq) ∧ W.cell? ⟨b', off' + 7, none⟩ = some (.int .i64 g1.inc) ∧ W.cell? ⟨b', off' + 8, none⟩ = some (.int .i64 g1.part) ∧ W.cell? ⟨b', off' + 9, none⟩ = some (.int .i64 g1.of) ∧ W.cell? ⟨b', off' + 10, none⟩ = some (.int .u32 (g1.mark : Nat)) ∧ W.cell? ⟨b', off' + 11, none⟩ = some (.slice Q1 g1.load.length j1))) (by kernel_rfl) ⟨hM.1, hM.2.2.2.1⟩ (fun hHeld => ?_)
        refine wpAnyH_take (i := 0) (v := ?_) rfl (by kernel_rfl) (by kernel_rfl) (by kernel_rfl) (fun _ _ _ h => h) (Or.inl ⟨by rfl, ?_⟩) (by assumption) ?_
        rotate_left
        · simp only [List.getElem_toArray, List.getElem_cons_zero, List.getElem_cons_succ]; intro W hSw; (try dsimp only at hSw); go_simp; all_goals with_reducible rfl
        simp only [Act.put, List.getElem_toArray, List.getElem_cons_zero, List.getElem_cons_succ, List.setIfInBounds_toArray, List.set_cons_zero, List.set_cons_succ]
        refine wpAnyH_take (i := 1) (v := ?_) rfl (by kernel_rfl) (by kernel_rfl) (by kernel_rfl) (fun _ _ _ h => h) (Or.inl ⟨by rfl, ?_⟩) (by assumption) ?_
        rotate_left
        · simp only [List.getElem_toArray, List.getElem_cons_zero, List.getElem_cons_succ]; intro W hSw; (try dsimp only at hSw); go_simp; all_goals with_reducible rfl
        simp only [Act.put, List.getElem_toArray, List.getElem_cons_zero, List.getElem_cons_succ, List.setIfInBounds_toArray, List.set_cons_zero, List.set_cons_succ]
        refine wpAnyH_take (i := 2) (v := ?_) rfl (by kernel_rfl) (by kernel_rfl) (by kernel_rfl) (fun _ _ _ h => h) (Or.inl ⟨by rfl, ?_⟩) (by assumption) ?_
        rotate_left
        · simp only [List.getElem_toArray, List.getElem_cons_zero, List.getElem_cons_succ]; intro W hSw; (try dsimp only at hSw); go_simp; all_goals with_reducible rfl
        simp only [Act.put, List.getElem_toArray, List.getElem_cons_zero, List.getElem_cons_succ, List.setIfInBounds_toArray, List.set_cons_zero, List.set_cons_succ]
        refine wpAnyH_take (i := 3) (v := ?_) rfl (by kernel_rfl) (by kernel_rfl) (by kernel_rfl) (fun _ _ _ h => h) (Or.inl ⟨by rfl, ?_⟩) (by assumption) ?_
        rotate_left
        · simp only [List.getElem_toArray, List.getElem_cons_zero, List.getElem_cons_succ]; intro W hSw; (try dsimp only at hSw); go_simp; all_goals with_reducible rfl
        simp only [Act.put, List.getElem_toArray, List.getElem_cons_zero, List.getElem_cons_succ, List.setIfInBounds_toArray, List.set_cons_zero, List.set_cons_succ]
        refine wpAnyH_take (i := 4) (v := ?_) rfl (by kernel_rfl) (by kernel_rfl) (by kernel_rfl) (fun _ _ _ h => h) (Or.inl ⟨by rfl, ?_⟩) (by assumption) ?_
        rotate_left
        · simp only [List.getElem_toArray, List.getElem_cons_zero, List.getElem_cons_succ]; intro W hSw; (try dsimp only at hSw); go_simp; all_goals with_reducible rfl
        simp only [Act.put, List.getElem_toArray, List.getElem_cons_zero, List.getElem_cons_succ, List.setIfInBounds_toArray, List.set_cons_zero, List.set_cons_succ]
        refine wpAnyH_take (i := 5) (v := ?_) rfl (by kernel_rfl) (by kernel_rfl) (by kernel_rfl) (fun _ _ _ h => h) (Or.inl ⟨by rfl, ?_⟩) (by assumption) ?_
        rotate_left
        · simp only [List.getElem_toArray, List.getElem_cons_zero, List.getElem_cons_succ]; intro W hSw; (try dsimp only at hSw); go_simp; all_goals with_reducible rfl
        simp only [Act.put, List.getElem_toArray, List.getElem_cons_zero, List.getElem_cons_succ, List.setIfInBounds_toArray, List.set_cons_zero, List.set_cons_succ]
        refine wpAnyH_ready (rs := [6]) (by kernel_rfl) (by simp) ?_
        refine AllReadyH.cons rfl (fun K hK => ?_) AllReadyH.nil
        simp only [List.getElem_toArray, List.getElem_cons_zero, List.getElem_cons_succ]
        go_simp
        have hb3 : Below w2.heap.size w2 (w2.drew.alloc (.cells ((frv P0 k0 f0) ++ (frv Q1 j1 g1)).toArray 33)) := HW2.out.drew.alloc HW2.out.drew.size _
        have hM3 := HM.out _ hb3
        unfold frv at hM3 HJo hb3
        simp only [List.cons_append, List.nil_append] at hM3 HJo hb3
        refine hK.out _ _ (⟨hM3.1, hM3.2.2.2.1⟩) (fun hHeldN => ?_)
        clear hK K hHeld
        have hHeld := hHeldN
        clear hHeldN
        (try simp only [Act.put, List.getElem_toArray, List.getElem_cons_zero, List.getElem_cons_succ, List.setIfInBounds_toArray, List.set_cons_zero, List.set_cons_succ])
        refine wpAnyH_ready (rs := [7]) (by kernel_rfl) (by simp) ?_
        refine AllReadyH.cons rfl (fun K hK => ?_) AllReadyH.nil
        simp only [List.getElem_toArray, List.getElem_cons_zero, List.getElem_cons_succ]
        go_simp
        refine HJo.out.mono ?_
        rintro e w6 ⟨v, rfl, hb4⟩
        have hb5 : Below w2.heap.size w2 w6 := HW2.out.drew.trans (hb4.mono HW2.out.drew.size)
        have hM4 := HM.out _ hb5
        go_wp2_with fail
        refine hK.out _ _ (⟨hM4.1, hM4.2.2.2.1⟩) (fun hHeldN => ?_)
        clear hK K hHeld
        have hHeld := hHeldN
        clear hHeldN
        (try simp only [Act.put, List.getElem_toArray, List.getElem_cons_zero, List.getElem_cons_succ, List.setIfInBounds_toArray, List.set_cons_zero, List.set_cons_succ])
        refine wpAnyH_take (i := 8) (v := ?_) rfl (by kernel_rfl) (by kernel_rfl) (by kernel_rfl) (fun _ _ _ h => h) (Or.inl ⟨by rfl, ?_⟩) (by assumption) ?_
        rotate_left
        · simp only [List.getElem_toArray, List.getElem_cons_zero, List.getElem_cons_succ]; intro W hSw; (try dsimp only at hSw); go_simp; all_goals with_reducible rfl
        simp only [Act.put, List.getElem_toArray, List.getElem_cons_zero, List.getElem_cons_succ, List.setIfInBounds_toArray, List.set_cons_zero, List.set_cons_succ]
        refine wpAnyH_take (i := 9) (v := ?_) rfl (by kernel_rfl) (by kernel_rfl) (by kernel_rfl) (fun _ _ _ h => h) (Or.inl ⟨by rfl, ?_⟩) (by assumption) ?_
        rotate_left
        · simp only [List.getElem_toArray, List.getElem_cons_zero, List.getElem_cons_succ]; intro W hSw; (try dsimp only at hSw); go_simp; all_goals with_reducible rfl
        simp only [Act.put, List.getElem_toArray, List.getElem_cons_zero, List.getElem_cons_succ, List.setIfInBounds_toArray, List.set_cons_zero, List.set_cons_succ]
        refine wpAnyH_take (i := 10) (v := ?_) rfl (by kernel_rfl) (by kernel_rfl) (by kernel_rfl) (fun _ _ _ h => h) (Or.inl ⟨by rfl, ?_⟩) (by assumption) ?_
        rotate_left
        · simp only [List.getElem_toArray, List.getElem_cons_zero, List.getElem_cons_succ]; intro W hSw; (try dsimp only at hSw); go_simp; all_goals with_reducible rfl
        simp only [Act.put, List.getElem_toArray, List.getElem_cons_zero, List.getElem_cons_succ, List.setIfInBounds_toArray, List.set_cons_zero, List.set_cons_succ]
        refine wpAnyH_take (i := 11) (v := ?_) rfl (by kernel_rfl) (by kernel_rfl) (by kernel_rfl) (fun _ _ _ h => h) (Or.inl ⟨by rfl, ?_⟩) (by assumption) ?_
        rotate_left
        · simp only [List.getElem_toArray, List.getElem_cons_zero, List.getElem_cons_succ]; intro W hSw; (try dsimp only at hSw); go_simp; all_goals with_reducible rfl
        simp only [Act.put, List.getElem_toArray, List.getElem_cons_zero, List.getElem_cons_succ, List.setIfInBounds_toArray, List.set_cons_zero, List.set_cons_succ]
        refine wpAnyH_take (i := 12) (v := ?_) rfl (by kernel_rfl) (by kernel_rfl) (by kernel_rfl) (fun _ _ _ h => h) (Or.inl ⟨by rfl, ?_⟩) (by assumption) ?_
        rotate_left
        · simp only [List.getElem_toArray, List.getElem_cons_zero, List.getElem_cons_succ]; intro W hSw; (try dsimp only at hSw); go_simp; all_goals with_reducible rfl
        simp only [Act.put, List.getElem_toArray, List.getElem_cons_zero, List.getElem_cons_succ, List.setIfInBounds_toArray, List.set_cons_zero, List.set_cons_succ]
        refine wpAnyH_done (by kernel_rfl) ?_ _
        have HX6 := Lib.hid hb5
        clear hM hM3 hM4 HJo hb3 hb4 hb5 hHeld
        go_wp2_with fail
        have hM := HM.out w6.drew HX6.out.drew
        have HJo := Lib.hid (join_two (W := w6.drew) hM.2.2.2.2.2.2.1 hM.2.2.2.2.2.1 HJ2.out)
        refine wp_region_held_drew (S := fun W => (W.cell? ⟨b', off', none⟩ = some (.int .i64 g0.seq) ∧ W.cell? ⟨b', off' + 1, none⟩ = some (.int .i64 g0.inc) ∧ W.cell? ⟨b', off' + 2, none⟩ = some (.int .i64 g0.part) ∧ W.cell? ⟨b', off' + 3, none⟩ = some (.int .i64 g0.of) ∧ W.cell? ⟨b', off' + 4, none⟩ = some (.int .u32 (g0.mark : Nat)) ∧ W.cell? ⟨b', off' + 5, none⟩ = some (.slice Q0 g0.load.length j0)) ∧ (W.cell? ⟨b, off + 6, none⟩ = some (.int .i64 f1.seq) ∧ W.cell? ⟨b, off + 7, none⟩ = some (.int .i64 f1.inc) ∧ W.cell? ⟨b, off + 8, none⟩ = some (.int .i64 f1.part) ∧ W.cell? ⟨b, off + 9, none⟩ = some (.int .i64 f1.of) ∧ W.cell? ⟨b, off + 10, none⟩ = some (.int .u32 (f1.mark : Nat)) ∧ W.cell? ⟨b, off + 11, none⟩ = some (.slice P1 f1.load.length k1))) (by kernel_rfl) ⟨hM.2.2.1, hM.2.1⟩ (fun hHeld => ?_)
        refine wpAnyH_take (i := 0) (v := ?_) rfl (by kernel_rfl) (by kernel_rfl) (by kernel_rfl) (fun _ _ _ h => h) (Or.inl ⟨by rfl, ?_⟩) (by assumption) ?_
        rotate_left
        · simp only [List.getElem_toArray, List.getElem_cons_zero, List.getElem_cons_succ]; intro W hSw; (try dsimp only at hSw); go_simp; all_goals with_reducible rfl
        simp only [Act.put, List.getElem_toArray, List.getElem_cons_zero, List.getElem_cons_succ, List.setIfInBounds_toArray, List.set_cons_zero, List.set_cons_succ]
        refine wpAnyH_take (i := 1) (v := ?_) rfl (by kernel_rfl) (by kernel_rfl) (by kernel_rfl) (fun _ _ _ h => h) (Or.inl ⟨by rfl, ?_⟩) (by assumption) ?_
        rotate_left
        · simp only [List.getElem_toArray, List.getElem_cons_zero, List.getElem_cons_succ]; intro W hSw; (try dsimp only at hSw); go_simp; all_goals with_reducible rfl
        simp only [Act.put, List.getElem_toArray, List.getElem_cons_zero, List.getElem_cons_succ, List.setIfInBounds_toArray, List.set_cons_zero, List.set_cons_succ]
        refine wpAnyH_take (i := 2) (v := ?_) rfl (by kernel_rfl) (by kernel_rfl) (by kernel_rfl) (fun _ _ _ h => h) (Or.inl ⟨by rfl, ?_⟩) (by assumption) ?_
        rotate_left
        · simp only [List.getElem_toArray, List.getElem_cons_zero, List.getElem_cons_succ]; intro W hSw; (try dsimp only at hSw); go_simp; all_goals with_reducible rfl
        simp only [Act.put, List.getElem_toArray, List.getElem_cons_zero, List.getElem_cons_succ, List.setIfInBounds_toArray, List.set_cons_zero, List.set_cons_succ]
        refine wpAnyH_take (i := 3) (v := ?_) rfl (by kernel_rfl) (by kernel_rfl) (by kernel_rfl) (fun _ _ _ h => h) (Or.inl ⟨by rfl, ?_⟩) (by assumption) ?_
        rotate_left
        · simp only [List.getElem_toArray, List.getElem_cons_zero, List.getElem_cons_succ]; intro W hSw; (try dsimp only at hSw); go_simp; all_goals with_reducible rfl
        simp only [Act.put, List.getElem_toArray, List.getElem_cons_zero, List.getElem_cons_succ, List.setIfInBounds_toArray, List.set_cons_zero, List.set_cons_succ]
        refine wpAnyH_take (i := 4) (v := ?_) rfl (by kernel_rfl) (by kernel_rfl) (by kernel_rfl) (fun _ _ _ h => h) (Or.inl ⟨by rfl, ?_⟩) (by assumption) ?_
        rotate_left
        · simp only [List.getElem_toArray, List.getElem_cons_zero, List.getElem_cons_succ]; intro W hSw; (try dsimp only at hSw); go_simp; all_goals with_reducible rfl
        simp only [Act.put, List.getElem_toArray, List.getElem_cons_zero, List.getElem_cons_succ, List.setIfInBounds_toArray, List.set_cons_zero, List.set_cons_succ]
        refine wpAnyH_take (i := 5) (v := ?_) rfl (by kernel_rfl) (by kernel_rfl) (by kernel_rfl) (fun _ _ _ h => h) (Or.inl ⟨by rfl, ?_⟩) (by assumption) ?_
        rotate_left
        · simp only [List.getElem_toArray, List.getElem_cons_zero, List.getElem_cons_succ]; intro W hSw; (try dsimp only at hSw); go_simp; all_goals with_reducible rfl
        simp only [Act.put, List.getElem_toArray, List.getElem_cons_zero, List.getElem_cons_succ, List.setIfInBounds_toArray, List.set_cons_zero, List.set_cons_succ]
        refine wpAnyH_ready (rs := [6]) (by kernel_rfl) (by simp) ?_
        refine AllReadyH.cons rfl (fun K hK => ?_) AllReadyH.nil
        simp only [List.getElem_toArray, List.getElem_cons_zero, List.getElem_cons_succ]
        go_simp
        have hb3 : Below w2.heap.size w2 (w6.drew.alloc (.cells ((frv Q0 j0 g0) ++ (frv P1 k1 f1)).toArray 33)) := HX6.out.drew.alloc HX6.out.drew.size _
        have hM3 := HM.out _ hb3
        unfold frv at hM3 HJo hb3
        simp only [List.cons_append, List.nil_append] at hM3 HJo hb3
        refine hK.out _ _ (⟨hM3.2.2.1, hM3.2.1⟩) (fun hHeldN => ?_)
        clear hK K hHeld
        have hHeld := hHeldN
        clear hHeldN
        (try simp only [Act.put, List.getElem_toArray, List.getElem_cons_zero, List.getElem_cons_succ, List.setIfInBounds_toArray, List.set_cons_zero, List.set_cons_succ])
        refine wpAnyH_ready (rs := [7]) (by kernel_rfl) (by simp) ?_
        refine AllReadyH.cons rfl (fun K hK => ?_) AllReadyH.nil
        simp only [List.getElem_toArray, List.getElem_cons_zero, List.getElem_cons_succ]
        go_simp
        refine HJo.out.mono ?_
        rintro e w7 ⟨v, rfl, hb4⟩
        have hb5 : Below w2.heap.size w2 w7 := HX6.out.drew.trans (hb4.mono HX6.out.drew.size)
        have hM4 := HM.out _ hb5
        go_wp2_with fail
        refine hK.out _ _ (⟨hM4.2.2.1, hM4.2.1⟩) (fun hHeldN => ?_)
        clear hK K hHeld
        have hHeld := hHeldN
        clear hHeldN
        (try simp only [Act.put, List.getElem_toArray, List.getElem_cons_zero, List.getElem_cons_succ, List.setIfInBounds_toArray, List.set_cons_zero, List.set_cons_succ])
        refine wpAnyH_take (i := 8) (v := ?_) rfl (by kernel_rfl) (by kernel_rfl) (by kernel_rfl) (fun _ _ _ h => h) (Or.inl ⟨by rfl, ?_⟩) (by assumption) ?_
        rotate_left
        · simp only [List.getElem_toArray, List.getElem_cons_zero, List.getElem_cons_succ]; intro W hSw; (try dsimp only at hSw); go_simp; all_goals with_reducible rfl
        simp only [Act.put, List.getElem_toArray, List.getElem_cons_zero, List.getElem_cons_succ, List.setIfInBounds_toArray, List.set_cons_zero, List.set_cons_succ]
        refine wpAnyH_take (i := 9) (v := ?_) rfl (by kernel_rfl) (by kernel_rfl) (by kernel_rfl) (fun _ _ _ h => h) (Or.inl ⟨by rfl, ?_⟩) (by assumption) ?_
        rotate_left
        · simp only [List.getElem_toArray, List.getElem_cons_zero, List.getElem_cons_succ]; intro W hSw; (try dsimp only at hSw); go_simp; all_goals with_reducible rfl
        simp only [Act.put, List.getElem_toArray, List.getElem_cons_zero, List.getElem_cons_succ, List.setIfInBounds_toArray, List.set_cons_zero, List.set_cons_succ]
        refine wpAnyH_take (i := 10) (v := ?_) rfl (by kernel_rfl) (by kernel_rfl) (by kernel_rfl) (fun _ _ _ h => h) (Or.inl ⟨by rfl, ?_⟩) (by assumption) ?_
        rotate_left
        · simp only [List.getElem_toArray, List.getElem_cons_zero, List.getElem_cons_succ]; intro W hSw; (try dsimp only at hSw); go_simp; all_goals with_reducible rfl
        simp only [Act.put, List.getElem_toArray, List.getElem_cons_zero, List.getElem_cons_succ, List.setIfInBounds_toArray, List.set_cons_zero, List.set_cons_succ]
        refine wpAnyH_take (i := 11) (v := ?_) rfl (by kernel_rfl) (by kernel_rfl) (by kernel_rfl) (fun _ _ _ h => h) (Or.inl ⟨by rfl, ?_⟩) (by assumption) ?_
        rotate_left
        · simp only [List.getElem_toArray, List.getElem_cons_zero, List.getElem_cons_succ]; intro W hSw; (try dsimp only at hSw); go_simp; all_goals with_reducible rfl
        simp only [Act.put, List.getElem_toArray, List.getElem_cons_zero, List.getElem_cons_succ, List.setIfInBounds_toArray, List.set_cons_zero, List.set_cons_succ]
        refine wpAnyH_take (i := 12) (v := ?_) rfl (by kernel_rfl) (by kernel_rfl) (by kernel_rfl) (fun _ _ _ h => h) (Or.inl ⟨by rfl, ?_⟩) (by assumption) ?_
        rotate_left
        · simp only [List.getElem_toArray, List.getElem_cons_zero, List.getElem_cons_succ]; intro W hSw; (try dsimp only at hSw); go_simp; all_goals with_reducible rfl
        simp only [Act.put, List.getElem_toArray, List.getElem_cons_zero, List.getElem_cons_succ, List.setIfInBounds_toArray, List.set_cons_zero, List.set_cons_succ]
        refine wpAnyH_done (by kernel_rfl) ?_ _
        have HX7 := Lib.hid hb5
        clear hM hM3 hM4 HJo hb3 hb4 hb5 hHeld
        go_wp2_with fail
        have hM := HM.out w7.drew HX7.out.drew
        have HJo := Lib.hid (join_two (W := w7.drew) hM.2.2.2.2.2.1 hM.2.2.2.2.1 HJ3.out)
        refine wp_region_held_drew (S := fun W => (W.cell? ⟨b, off + 6, none⟩ = some (.int .i64 f1.seq) ∧ W.cell? ⟨b, off + 7, none⟩ = some (.int .i64 f1.inc) ∧ W.cell? ⟨b, off + 8, none⟩ = some (.int .i64 f1.part) ∧ W.cell? ⟨b, off + 9, none⟩ = some (.int .i64 f1.of) ∧ W.cell? ⟨b, off + 10, none⟩ = some (.int .u32 (f1.mark : Nat)) ∧ W.cell? ⟨b, off + 11, none⟩ = some (.slice P1 f1.load.length k1)) ∧ (W.cell? ⟨b, off, none⟩ = some (.int .i64 f0.seq) ∧ W.cell? ⟨b, off + 1, none⟩ = some (.int .i64 f0.inc) ∧ W.cell? ⟨b, off + 2, none⟩ = some (.int .i64 f0.part) ∧ W.cell? ⟨b, off + 3, none⟩ = some (.int .i64 f0.of) ∧ W.cell? ⟨b, off + 4, none⟩ = some (.int .u32 (f0.mark : Nat)) ∧ W.cell? ⟨b, off + 5, none⟩ = some (.slice P0 f0.load.length k0))) (by kernel_rfl) ⟨hM.2.1, hM.1⟩ (fun hHeld => ?_)
        refine wpAnyH_take (i := 0) (v := ?_) rfl (by kernel_rfl) (by kernel_rfl) (by kernel_rfl) (fun _ _ _ h => h) (Or.inl ⟨by rfl, ?_⟩) (by assumption) ?_
        rotate_left
        · simp only [List.getElem_toArray, List.getElem_cons_zero, List.getElem_cons_succ]; intro W hSw; (try dsimp only at hSw); go_simp; all_goals with_reducible rfl
        simp only [Act.put, List.getElem_toArray, List.getElem_cons_zero, List.getElem_cons_succ, List.setIfInBounds_toArray, List.set_cons_zero, List.set_cons_succ]
        refine wpAnyH_take (i := 1) (v := ?_) rfl (by kernel_rfl) (by kernel_rfl) (by kernel_rfl) (fun _ _ _ h => h) (Or.inl ⟨by rfl, ?_⟩) (by assumption) ?_
        rotate_left
        · simp only [List.getElem_toArray, List.getElem_cons_zero, List.getElem_cons_succ]; intro W hSw; (try dsimp only at hSw); go_simp; all_goals with_reducible rfl
        simp only [Act.put, List.getElem_toArray, List.getElem_cons_zero, List.getElem_cons_succ, List.setIfInBounds_toArray, List.set_cons_zero, List.set_cons_succ]
        refine wpAnyH_take (i := 2) (v := ?_) rfl (by kernel_rfl) (by kernel_rfl) (by kernel_rfl) (fun _ _ _ h => h) (Or.inl ⟨by rfl, ?_⟩) (by assumption) ?_
        rotate_left
        · simp only [List.getElem_toArray, List.getElem_cons_zero, List.getElem_cons_succ]; intro W hSw; (try dsimp only at hSw); go_simp; all_goals with_reducible rfl
        simp only [Act.put, List.getElem_toArray, List.getElem_cons_zero, List.getElem_cons_succ, List.setIfInBounds_toArray, List.set_cons_zero, List.set_cons_succ]
        refine wpAnyH_take (i := 3) (v := ?_) rfl (by kernel_rfl) (by kernel_rfl) (by kernel_rfl) (fun _ _ _ h => h) (Or.inl ⟨by rfl, ?_⟩) (by assumption) ?_
        rotate_left
        · simp only [List.getElem_toArray, List.getElem_cons_zero, List.getElem_cons_succ]; intro W hSw; (try dsimp only at hSw); go_simp; all_goals with_reducible rfl
        simp only [Act.put, List.getElem_toArray, List.getElem_cons_zero, List.getElem_cons_succ, List.setIfInBounds_toArray, List.set_cons_zero, List.set_cons_succ]
        refine wpAnyH_take (i := 4) (v := ?_) rfl (by kernel_rfl) (by kernel_rfl) (by kernel_rfl) (fun _ _ _ h => h) (Or.inl ⟨by rfl, ?_⟩) (by assumption) ?_
        rotate_left
        · simp only [List.getElem_toArray, List.getElem_cons_zero, List.getElem_cons_succ]; intro W hSw; (try dsimp only at hSw); go_simp; all_goals with_reducible rfl
        simp only [Act.put, List.getElem_toArray, List.getElem_cons_zero, List.getElem_cons_succ, List.setIfInBounds_toArray, List.set_cons_zero, List.set_cons_succ]
        refine wpAnyH_take (i := 5) (v := ?_) rfl (by kernel_rfl) (by kernel_rfl) (by kernel_rfl) (fun _ _ _ h => h) (Or.inl ⟨by rfl, ?_⟩) (by assumption) ?_
        rotate_left
        · simp only [List.getElem_toArray, List.getElem_cons_zero, List.getElem_cons_succ]; intro W hSw; (try dsimp only at hSw); go_simp; all_goals with_reducible rfl
        simp only [Act.put, List.getElem_toArray, List.getElem_cons_zero, List.getElem_cons_succ, List.setIfInBounds_toArray, List.set_cons_zero, List.set_cons_succ]
        refine wpAnyH_ready (rs := [6]) (by kernel_rfl) (by simp) ?_
        refine AllReadyH.cons rfl (fun K hK => ?_) AllReadyH.nil
        simp only [List.getElem_toArray, List.getElem_cons_zero, List.getElem_cons_succ]
        go_simp
        have hb3 : Below w2.heap.size w2 (w7.drew.alloc (.cells ((frv P1 k1 f1) ++ (frv P0 k0 f0)).toArray 33)) := HX7.out.drew.alloc HX7.out.drew.size _
        have hM3 := HM.out _ hb3
        unfold frv at hM3 HJo hb3
        simp only [List.cons_append, List.nil_append] at hM3 HJo hb3
        refine hK.out _ _ (⟨hM3.2.1, hM3.1⟩) (fun hHeldN => ?_)
        clear hK K hHeld
        have hHeld := hHeldN
        clear hHeldN
        (try simp only [Act.put, List.getElem_toArray, List.getElem_cons_zero, List.getElem_cons_succ, List.setIfInBounds_toArray, List.set_cons_zero, List.set_cons_succ])
        refine wpAnyH_ready (rs := [7]) (by kernel_rfl) (by simp) ?_
        refine AllReadyH.cons rfl (fun K hK => ?_) AllReadyH.nil
        simp only [List.getElem_toArray, List.getElem_cons_zero, List.getElem_cons_succ]
        go_simp
        refine HJo.out.mono ?_
        rintro e w8 ⟨v, rfl, hb4⟩
        have hb5 : Below w2.heap.size w2 w8 := HX7.out.drew.trans (hb4.mono HX7.out.drew.size)
        have hM4 := HM.out _ hb5
        go_wp2_with fail
        refine hK.out _ _ (⟨hM4.2.1, hM4.1⟩) (fun hHeldN => ?_)
        clear hK K hHeld
        have hHeld := hHeldN
        clear hHeldN
        (try simp only [Act.put, List.getElem_toArray, List.getElem_cons_zero, List.getElem_cons_succ, List.setIfInBounds_toArray, List.set_cons_zero, List.set_cons_succ])
        refine wpAnyH_take (i := 8) (v := ?_) rfl (by kernel_rfl) (by kernel_rfl) (by kernel_rfl) (fun _ _ _ h => h) (Or.inl ⟨by rfl, ?_⟩) (by assumption) ?_
        rotate_left
        · simp only [List.getElem_toArray, List.getElem_cons_zero, List.getElem_cons_succ]; intro W hSw; (try dsimp only at hSw); go_simp; all_goals with_reducible rfl
        simp only [Act.put, List.getElem_toArray, List.getElem_cons_zero, List.getElem_cons_succ, List.setIfInBounds_toArray, List.set_cons_zero, List.set_cons_succ]
        refine wpAnyH_take (i := 9) (v := ?_) rfl (by kernel_rfl) (by kernel_rfl) (by kernel_rfl) (fun _ _ _ h => h) (Or.inl ⟨by rfl, ?_⟩) (by assumption) ?_
        rotate_left
        · simp only [List.getElem_toArray, List.getElem_cons_zero, List.getElem_cons_succ]; intro W hSw; (try dsimp only at hSw); go_simp; all_goals with_reducible rfl
        simp only [Act.put, List.getElem_toArray, List.getElem_cons_zero, List.getElem_cons_succ, List.setIfInBounds_toArray, List.set_cons_zero, List.set_cons_succ]
        refine wpAnyH_take (i := 10) (v := ?_) rfl (by kernel_rfl) (by kernel_rfl) (by kernel_rfl) (fun _ _ _ h => h) (Or.inl ⟨by rfl, ?_⟩) (by assumption) ?_
        rotate_left
        · simp only [List.getElem_toArray, List.getElem_cons_zero, List.getElem_cons_succ]; intro W hSw; (try dsimp only at hSw); go_simp; all_goals with_reducible rfl
        simp only [Act.put, List.getElem_toArray, List.getElem_cons_zero, List.getElem_cons_succ, List.setIfInBounds_toArray, List.set_cons_zero, List.set_cons_succ]
        refine wpAnyH_take (i := 11) (v := ?_) rfl (by kernel_rfl) (by kernel_rfl) (by kernel_rfl) (fun _ _ _ h => h) (Or.inl ⟨by rfl, ?_⟩) (by assumption) ?_
        rotate_left
        · simp only [List.getElem_toArray, List.getElem_cons_zero, List.getElem_cons_succ]; intro W hSw; (try dsimp only at hSw); go_simp; all_goals with_reducible rfl
        simp only [Act.put, List.getElem_toArray, List.getElem_cons_zero, List.getElem_cons_succ, List.setIfInBounds_toArray, List.set_cons_zero, List.set_cons_succ]
        refine wpAnyH_take (i := 12) (v := ?_) rfl (by kernel_rfl) (by kernel_rfl) (by kernel_rfl) (fun _ _ _ h => h) (Or.inl ⟨by rfl, ?_⟩) (by assumption) ?_
        rotate_left
        · simp only [List.getElem_toArray, List.getElem_cons_zero, List.getElem_cons_succ]; intro W hSw; (try dsimp only at hSw); go_simp; all_goals with_reducible rfl
        simp only [Act.put, List.getElem_toArray, List.getElem_cons_zero, List.getElem_cons_succ, List.setIfInBounds_toArray, List.set_cons_zero, List.set_cons_succ]
        refine wpAnyH_done (by kernel_rfl) ?_ _
        have HX8 := Lib.hid hb5
        clear hM hM3 hM4 HJo hb3 hb4 hb5 hHeld
        go_wp2_with fail
        refine (wakes_any _).mono ?_
        rintro e w9 ⟨rfl, hb9⟩
        have HB9 := Lib.hid (HB2.out.trans ((HX8.out.trans (hb9.mono HX8.out.size)).mono HB2.out.size))
        clear hb9
        go_wp2
        go_ret
        exact ⟨rfl, HB9.out⟩
    · have q1 : (inc == other) = false := beq_eq_false_iff_ne.2 hi
      have HJ1 := Lib.hid (HNe1.out (fun h => hi h.1))
      have HJ2 := Lib.hid (HNe2.out (fun h => hi h.1))
      clear hi
      have HW2 := Lib.hid (Below.refl w2.heap.size w2)
      go_wp2_with fail
      have hM := HM.out w2.drew HW2.out.drew
      have HJo := Lib.hid (join_two (W := w2.drew) hM.2.2.2.2.1 hM.2.2.2.2.2.2.2 HJ1.out)
      refine wp_region_held_drew (S := fun W => (W.cell? ⟨b, off, none⟩ = some (.int .i64 f0.seq) ∧ W.cell? ⟨b, off + 1, none⟩ = some (.int .i64 f0.inc) ∧ W.cell? ⟨b, off + 2, none⟩ = some (.int .i64 f0.part) ∧ W.cell? ⟨b, off + 3, none⟩ = some (.int .i64 f0.of) ∧ W.cell? ⟨b, off + 4, none⟩ = some (.int .u32 (f0.mark : Nat)) ∧ W.cell? ⟨b, off + 5, none⟩ = some (.slice P0 f0.load.length k0)) ∧ (W.cell? ⟨b', off' + 6, none⟩ = some (.int .i64 g1.seq) ∧ W.cell? ⟨b', off' + 7, none⟩ = some (.int .i64 g1.inc) ∧ W.cell? ⟨b', off' + 8, none⟩ = some (.int .i64 g1.part) ∧ W.cell? ⟨b', off' + 9, none⟩ = some (.int .i64 g1.of) ∧ W.cell? ⟨b', off' + 10, none⟩ = some (.int .u32 (g1.mark : Nat)) ∧ W.cell? ⟨b', off' + 11, none⟩ = some (.slice Q1 g1.load.length j1))) (by kernel_rfl) ⟨hM.1, hM.2.2.2.1⟩ (fun hHeld => ?_)
      refine wpAnyH_take (i := 0) (v := ?_) rfl (by kernel_rfl) (by kernel_rfl) (by kernel_rfl) (fun _ _ _ h => h) (Or.inl ⟨by rfl, ?_⟩) (by assumption) ?_
      rotate_left
      · simp only [List.getElem_toArray, List.getElem_cons_zero, List.getElem_cons_succ]; intro W hSw; (try dsimp only at hSw); go_simp; all_goals with_reducible rfl
      simp only [Act.put, List.getElem_toArray, List.getElem_cons_zero, List.getElem_cons_succ, List.setIfInBounds_toArray, List.set_cons_zero, List.set_cons_succ]
      refine wpAnyH_take (i := 1) (v := ?_) rfl (by kernel_rfl) (by kernel_rfl) (by kernel_rfl) (fun _ _ _ h => h) (Or.inl ⟨by rfl, ?_⟩) (by assumption) ?_
      rotate_left
      · simp only [List.getElem_toArray, List.getElem_cons_zero, List.getElem_cons_succ]; intro W hSw; (try dsimp only at hSw); go_simp; all_goals with_reducible rfl
      simp only [Act.put, List.getElem_toArray, List.getElem_cons_zero, List.getElem_cons_succ, List.setIfInBounds_toArray, List.set_cons_zero, List.set_cons_succ]
      refine wpAnyH_take (i := 2) (v := ?_) rfl (by kernel_rfl) (by kernel_rfl) (by kernel_rfl) (fun _ _ _ h => h) (Or.inl ⟨by rfl, ?_⟩) (by assumption) ?_
      rotate_left
      · simp only [List.getElem_toArray, List.getElem_cons_zero, List.getElem_cons_succ]; intro W hSw; (try dsimp only at hSw); go_simp; all_goals with_reducible rfl
      simp only [Act.put, List.getElem_toArray, List.getElem_cons_zero, List.getElem_cons_succ, List.setIfInBounds_toArray, List.set_cons_zero, List.set_cons_succ]
      refine wpAnyH_take (i := 3) (v := ?_) rfl (by kernel_rfl) (by kernel_rfl) (by kernel_rfl) (fun _ _ _ h => h) (Or.inl ⟨by rfl, ?_⟩) (by assumption) ?_
      rotate_left
      · simp only [List.getElem_toArray, List.getElem_cons_zero, List.getElem_cons_succ]; intro W hSw; (try dsimp only at hSw); go_simp; all_goals with_reducible rfl
      simp only [Act.put, List.getElem_toArray, List.getElem_cons_zero, List.getElem_cons_succ, List.setIfInBounds_toArray, List.set_cons_zero, List.set_cons_succ]
      refine wpAnyH_take (i := 4) (v := ?_) rfl (by kernel_rfl) (by kernel_rfl) (by kernel_rfl) (fun _ _ _ h => h) (Or.inl ⟨by rfl, ?_⟩) (by assumption) ?_
      rotate_left
      · simp only [List.getElem_toArray, List.getElem_cons_zero, List.getElem_cons_succ]; intro W hSw; (try dsimp only at hSw); go_simp; all_goals with_reducible rfl
      simp only [Act.put, List.getElem_toArray, List.getElem_cons_zero, List.getElem_cons_succ, List.setIfInBounds_toArray, List.set_cons_zero, List.set_cons_succ]
      refine wpAnyH_take (i := 5) (v := ?_) rfl (by kernel_rfl) (by kernel_rfl) (by kernel_rfl) (fun _ _ _ h => h) (Or.inl ⟨by rfl, ?_⟩) (by assumption) ?_
      rotate_left
      · simp only [List.getElem_toArray, List.getElem_cons_zero, List.getElem_cons_succ]; intro W hSw; (try dsimp only at hSw); go_simp; all_goals with_reducible rfl
      simp only [Act.put, List.getElem_toArray, List.getElem_cons_zero, List.getElem_cons_succ, List.setIfInBounds_toArray, List.set_cons_zero, List.set_cons_succ]
      refine wpAnyH_ready (rs := [6]) (by kernel_rfl) (by simp) ?_
      refine AllReadyH.cons rfl (fun K hK => ?_) AllReadyH.nil
      simp only [List.getElem_toArray, List.getElem_cons_zero, List.getElem_cons_succ]
      go_simp
      have hb3 : Below w2.heap.size w2 (w2.drew.alloc (.cells ((frv P0 k0 f0) ++ (frv Q1 j1 g1)).toArray 33)) := HW2.out.drew.alloc HW2.out.drew.size _
      have hM3 := HM.out _ hb3
      unfold frv at hM3 HJo hb3
      simp only [List.cons_append, List.nil_append] at hM3 HJo hb3
      refine hK.out _ _ (⟨hM3.1, hM3.2.2.2.1⟩) (fun hHeldN => ?_)
      clear hK K hHeld
      have hHeld := hHeldN
      clear hHeldN
      (try simp only [Act.put, List.getElem_toArray, List.getElem_cons_zero, List.getElem_cons_succ, List.setIfInBounds_toArray, List.set_cons_zero, List.set_cons_succ])
      refine wpAnyH_ready (rs := [7]) (by kernel_rfl) (by simp) ?_
      refine AllReadyH.cons rfl (fun K hK => ?_) AllReadyH.nil
      simp only [List.getElem_toArray, List.getElem_cons_zero, List.getElem_cons_succ]
      go_simp
      refine HJo.out.mono ?_
      rintro e w6 ⟨v, rfl, hb4⟩
      have hb5 : Below w2.heap.size w2 w6 := HW2.out.drew.trans (hb4.mono HW2.out.drew.size)
      have hM4 := HM.out _ hb5
      go_wp2_with fail
      refine hK.out _ _ (⟨hM4.1, hM4.2.2.2.1⟩) (fun hHeldN => ?_)
      clear hK K hHeld
      have hHeld := hHeldN
      clear hHeldN
      (try simp only [Act.put, List.getElem_toArray, List.getElem_cons_zero, List.getElem_cons_succ, List.setIfInBounds_toArray, List.set_cons_zero, List.set_cons_succ])
      refine wpAnyH_take (i := 8) (v := ?_) rfl (by kernel_rfl) (by kernel_rfl) (by kernel_rfl) (fun _ _ _ h => h) (Or.inl ⟨by rfl, ?_⟩) (by assumption) ?_
      rotate_left
      · simp only [List.getElem_toArray, List.getElem_cons_zero, List.getElem_cons_succ]; intro W hSw; (try dsimp only at hSw); go_simp; all_goals with_reducible rfl
      simp only [Act.put, List.getElem_toArray, List.getElem_cons_zero, List.getElem_cons_succ, List.setIfInBounds_toArray, List.set_cons_zero, List.set_cons_succ]
      refine wpAnyH_take (i := 9) (v := ?_) rfl (by kernel_rfl) (by kernel_rfl) (by kernel_rfl) (fun _ _ _ h => h) (Or.inl ⟨by rfl, ?_⟩) (by assumption) ?_
      rotate_left
      · simp only [List.getElem_toArray, List.getElem_cons_zero, List.getElem_cons_succ]; intro W hSw; (try dsimp only at hSw); go_simp; all_goals with_reducible rfl
      simp only [Act.put, List.getElem_toArray, List.getElem_cons_zero, List.getElem_cons_succ, List.setIfInBounds_toArray, List.set_cons_zero, List.set_cons_succ]
      refine wpAnyH_take (i := 10) (v := ?_) rfl (by kernel_rfl) (by kernel_rfl) (by kernel_rfl) (fun _ _ _ h => h) (Or.inl ⟨by rfl, ?_⟩) (by assumption) ?_
      rotate_left
      · simp only [List.getElem_toArray, List.getElem_cons_zero, List.getElem_cons_succ]; intro W hSw; (try dsimp only at hSw); go_simp; all_goals with_reducible rfl
      simp only [Act.put, List.getElem_toArray, List.getElem_cons_zero, List.getElem_cons_succ, List.setIfInBounds_toArray, List.set_cons_zero, List.set_cons_succ]
      refine wpAnyH_take (i := 11) (v := ?_) rfl (by kernel_rfl) (by kernel_rfl) (by kernel_rfl) (fun _ _ _ h => h) (Or.inl ⟨by rfl, ?_⟩) (by assumption) ?_
      rotate_left
      · simp only [List.getElem_toArray, List.getElem_cons_zero, List.getElem_cons_succ]; intro W hSw; (try dsimp only at hSw); go_simp; all_goals with_reducible rfl
      simp only [Act.put, List.getElem_toArray, List.getElem_cons_zero, List.getElem_cons_succ, List.setIfInBounds_toArray, List.set_cons_zero, List.set_cons_succ]
      refine wpAnyH_take (i := 12) (v := ?_) rfl (by kernel_rfl) (by kernel_rfl) (by kernel_rfl) (fun _ _ _ h => h) (Or.inl ⟨by rfl, ?_⟩) (by assumption) ?_
      rotate_left
      · simp only [List.getElem_toArray, List.getElem_cons_zero, List.getElem_cons_succ]; intro W hSw; (try dsimp only at hSw); go_simp; all_goals with_reducible rfl
      simp only [Act.put, List.getElem_toArray, List.getElem_cons_zero, List.getElem_cons_succ, List.setIfInBounds_toArray, List.set_cons_zero, List.set_cons_succ]
      refine wpAnyH_done (by kernel_rfl) ?_ _
      have HX6 := Lib.hid hb5
      clear hM hM3 hM4 HJo hb3 hb4 hb5 hHeld
      go_wp2_with fail
      have hM := HM.out w6.drew HX6.out.drew
      have HJo := Lib.hid (join_two (W := w6.drew) hM.2.2.2.2.2.2.1 hM.2.2.2.2.2.1 HJ2.out)
      refine wp_region_held_drew (S := fun W => (W.cell? ⟨b', off', none⟩ = some (.int .i64 g0.seq) ∧ W.cell? ⟨b', off' + 1, none⟩ = some (.int .i64 g0.inc) ∧ W.cell? ⟨b', off' + 2, none⟩ = some (.int .i64 g0.part) ∧ W.cell? ⟨b', off' + 3, none⟩ = some (.int .i64 g0.of) ∧ W.cell? ⟨b', off' + 4, none⟩ = some (.int .u32 (g0.mark : Nat)) ∧ W.cell? ⟨b', off' + 5, none⟩ = some (.slice Q0 g0.load.length j0)) ∧ (W.cell? ⟨b, off + 6, none⟩ = some (.int .i64 f1.seq) ∧ W.cell? ⟨b, off + 7, none⟩ = some (.int .i64 f1.inc) ∧ W.cell? ⟨b, off + 8, none⟩ = some (.int .i64 f1.part) ∧ W.cell? ⟨b, off + 9, none⟩ = some (.int .i64 f1.of) ∧ W.cell? ⟨b, off + 10, none⟩ = some (.int .u32 (f1.mark : Nat)) ∧ W.cell? ⟨b, off + 11, none⟩ = some (.slice P1 f1.load.length k1))) (by kernel_rfl) ⟨hM.2.2.1, hM.2.1⟩ (fun hHeld => ?_)
      refine wpAnyH_take (i := 0) (v := ?_) rfl (by kernel_rfl) (by kernel_rfl) (by kernel_rfl) (fun _ _ _ h => h) (Or.inl ⟨by rfl, ?_⟩) (by assumption) ?_
      rotate_left
      · simp only [List.getElem_toArray, List.getElem_cons_zero, List.getElem_cons_succ]; intro W hSw; (try dsimp only at hSw); go_simp; all_goals with_reducible rfl
      simp only [Act.put, List.getElem_toArray, List.getElem_cons_zero, List.getElem_cons_succ, List.setIfInBounds_toArray, List.set_cons_zero, List.set_cons_succ]
      refine wpAnyH_take (i := 1) (v := ?_) rfl (by kernel_rfl) (by kernel_rfl) (by kernel_rfl) (fun _ _ _ h => h) (Or.inl ⟨by rfl, ?_⟩) (by assumption) ?_
      rotate_left
      · simp only [List.getElem_toArray, List.getElem_cons_zero, List.getElem_cons_succ]; intro W hSw; (try dsimp only at hSw); go_simp; all_goals with_reducible rfl
      simp only [Act.put, List.getElem_toArray, List.getElem_cons_zero, List.getElem_cons_succ, List.setIfInBounds_toArray, List.set_cons_zero, List.set_cons_succ]
      refine wpAnyH_take (i := 2) (v := ?_) rfl (by kernel_rfl) (by kernel_rfl) (by kernel_rfl) (fun _ _ _ h => h) (Or.inl ⟨by rfl, ?_⟩) (by assumption) ?_
      rotate_left
      · simp only [List.getElem_toArray, List.getElem_cons_zero, List.getElem_cons_succ]; intro W hSw; (try dsimp only at hSw); go_simp; all_goals with_reducible rfl
      simp only [Act.put, List.getElem_toArray, List.getElem_cons_zero, List.getElem_cons_succ, List.setIfInBounds_toArray, List.set_cons_zero, List.set_cons_succ]
      refine wpAnyH_take (i := 3) (v := ?_) rfl (by kernel_rfl) (by kernel_rfl) (by kernel_rfl) (fun _ _ _ h => h) (Or.inl ⟨by rfl, ?_⟩) (by assumption) ?_
      rotate_left
      · simp only [List.getElem_toArray, List.getElem_cons_zero, List.getElem_cons_succ]; intro W hSw; (try dsimp only at hSw); go_simp; all_goals with_reducible rfl
      simp only [Act.put, List.getElem_toArray, List.getElem_cons_zero, List.getElem_cons_succ, List.setIfInBounds_toArray, List.set_cons_zero, List.set_cons_succ]
      refine wpAnyH_take (i := 4) (v := ?_) rfl (by kernel_rfl) (by kernel_rfl) (by kernel_rfl) (fun _ _ _ h => h) (Or.inl ⟨by rfl, ?_⟩) (by assumption) ?_
      rotate_left
      · simp only [List.getElem_toArray, List.getElem_cons_zero, List.getElem_cons_succ]; intro W hSw; (try dsimp only at hSw); go_simp; all_goals with_reducible rfl
      simp only [Act.put, List.getElem_toArray, List.getElem_cons_zero, List.getElem_cons_succ, List.setIfInBounds_toArray, List.set_cons_zero, List.set_cons_succ]
      refine wpAnyH_take (i := 5) (v := ?_) rfl (by kernel_rfl) (by kernel_rfl) (by kernel_rfl) (fun _ _ _ h => h) (Or.inl ⟨by rfl, ?_⟩) (by assumption) ?_
      rotate_left
      · simp only [List.getElem_toArray, List.getElem_cons_zero, List.getElem_cons_succ]; intro W hSw; (try dsimp only at hSw); go_simp; all_goals with_reducible rfl
      simp only [Act.put, List.getElem_toArray, List.getElem_cons_zero, List.getElem_cons_succ, List.setIfInBounds_toArray, List.set_cons_zero, List.set_cons_succ]
      refine wpAnyH_ready (rs := [6]) (by kernel_rfl) (by simp) ?_
      refine AllReadyH.cons rfl (fun K hK => ?_) AllReadyH.nil
      simp only [List.getElem_toArray, List.getElem_cons_zero, List.getElem_cons_succ]
      go_simp
      have hb3 : Below w2.heap.size w2 (w6.drew.alloc (.cells ((frv Q0 j0 g0) ++ (frv P1 k1 f1)).toArray 33)) := HX6.out.drew.alloc HX6.out.drew.size _
      have hM3 := HM.out _ hb3
      unfold frv at hM3 HJo hb3
      simp only [List.cons_append, List.nil_append] at hM3 HJo hb3
      refine hK.out _ _ (⟨hM3.2.2.1, hM3.2.1⟩) (fun hHeldN => ?_)
      clear hK K hHeld
      have hHeld := hHeldN
      clear hHeldN
      (try simp only [Act.put, List.getElem_toArray, List.getElem_cons_zero, List.getElem_cons_succ, List.setIfInBounds_toArray, List.set_cons_zero, List.set_cons_succ])
      refine wpAnyH_ready (rs := [7]) (by kernel_rfl) (by simp) ?_
      refine AllReadyH.cons rfl (fun K hK => ?_) AllReadyH.nil
      simp only [List.getElem_toArray, List.getElem_cons_zero, List.getElem_cons_succ]
      go_simp
      refine HJo.out.mono ?_
      rintro e w7 ⟨v, rfl, hb4⟩
      have hb5 : Below w2.heap.size w2 w7 := HX6.out.drew.trans (hb4.mono HX6.out.drew.size)
      have hM4 := HM.out _ hb5
      go_wp2_with fail
      refine hK.out _ _ (⟨hM4.2.2.1, hM4.2.1⟩) (fun hHeldN => ?_)
      clear hK K hHeld
      have hHeld := hHeldN
      clear hHeldN
      (try simp only [Act.put, List.getElem_toArray, List.getElem_cons_zero, List.getElem_cons_succ, List.setIfInBounds_toArray, List.set_cons_zero, List.set_cons_succ])
      refine wpAnyH_take (i := 8) (v := ?_) rfl (by kernel_rfl) (by kernel_rfl) (by kernel_rfl) (fun _ _ _ h => h) (Or.inl ⟨by rfl, ?_⟩) (by assumption) ?_
      rotate_left
      · simp only [List.getElem_toArray, List.getElem_cons_zero, List.getElem_cons_succ]; intro W hSw; (try dsimp only at hSw); go_simp; all_goals with_reducible rfl
      simp only [Act.put, List.getElem_toArray, List.getElem_cons_zero, List.getElem_cons_succ, List.setIfInBounds_toArray, List.set_cons_zero, List.set_cons_succ]
      refine wpAnyH_take (i := 9) (v := ?_) rfl (by kernel_rfl) (by kernel_rfl) (by kernel_rfl) (fun _ _ _ h => h) (Or.inl ⟨by rfl, ?_⟩) (by assumption) ?_
      rotate_left
      · simp only [List.getElem_toArray, List.getElem_cons_zero, List.getElem_cons_succ]; intro W hSw; (try dsimp only at hSw); go_simp; all_goals with_reducible rfl
      simp only [Act.put, List.getElem_toArray, List.getElem_cons_zero, List.getElem_cons_succ, List.setIfInBounds_toArray, List.set_cons_zero, List.set_cons_succ]
      refine wpAnyH_take (i := 10) (v := ?_) rfl (by kernel_rfl) (by kernel_rfl) (by kernel_rfl) (fun _ _ _ h => h) (Or.inl ⟨by rfl, ?_⟩) (by assumption) ?_
      rotate_left
      · simp only [List.getElem_toArray, List.getElem_cons_zero, List.getElem_cons_succ]; intro W hSw; (try dsimp only at hSw); go_simp; all_goals with_reducible rfl
      simp only [Act.put, List.getElem_toArray, List.getElem_cons_zero, List.getElem_cons_succ, List.setIfInBounds_toArray, List.set_cons_zero, List.set_cons_succ]
      refine wpAnyH_take (i := 11) (v := ?_) rfl (by kernel_rfl) (by kernel_rfl) (by kernel_rfl) (fun _ _ _ h => h) (Or.inl ⟨by rfl, ?_⟩) (by assumption) ?_
      rotate_left
      · simp only [List.getElem_toArray, List.getElem_cons_zero, List.getElem_cons_succ]; intro W hSw; (try dsimp only at hSw); go_simp; all_goals with_reducible rfl
      simp only [Act.put, List.getElem_toArray, List.getElem_cons_zero, List.getElem_cons_succ, List.setIfInBounds_toArray, List.set_cons_zero, List.set_cons_succ]
      refine wpAnyH_take (i := 12) (v := ?_) rfl (by kernel_rfl) (by kernel_rfl) (by kernel_rfl) (fun _ _ _ h => h) (Or.inl ⟨by rfl, ?_⟩) (by assumption) ?_
      rotate_left
      · simp only [List.getElem_toArray, List.getElem_cons_zero, List.getElem_cons_succ]; intro W hSw; (try dsimp only at hSw); go_simp; all_goals with_reducible rfl
      simp only [Act.put, List.getElem_toArray, List.getElem_cons_zero, List.getElem_cons_succ, List.setIfInBounds_toArray, List.set_cons_zero, List.set_cons_succ]
      refine wpAnyH_done (by kernel_rfl) ?_ _
      have HX7 := Lib.hid hb5
      clear hM hM3 hM4 HJo hb3 hb4 hb5 hHeld
      go_wp2_with fail
      have hM := HM.out w7.drew HX7.out.drew
      have HJo := Lib.hid (join_two (W := w7.drew) hM.2.2.2.2.2.1 hM.2.2.2.2.1 HJ3.out)
      refine wp_region_held_drew (S := fun W => (W.cell? ⟨b, off + 6, none⟩ = some (.int .i64 f1.seq) ∧ W.cell? ⟨b, off + 7, none⟩ = some (.int .i64 f1.inc) ∧ W.cell? ⟨b, off + 8, none⟩ = some (.int .i64 f1.part) ∧ W.cell? ⟨b, off + 9, none⟩ = some (.int .i64 f1.of) ∧ W.cell? ⟨b, off + 10, none⟩ = some (.int .u32 (f1.mark : Nat)) ∧ W.cell? ⟨b, off + 11, none⟩ = some (.slice P1 f1.load.length k1)) ∧ (W.cell? ⟨b, off, none⟩ = some (.int .i64 f0.seq) ∧ W.cell? ⟨b, off + 1, none⟩ = some (.int .i64 f0.inc) ∧ W.cell? ⟨b, off + 2, none⟩ = some (.int .i64 f0.part) ∧ W.cell? ⟨b, off + 3, none⟩ = some (.int .i64 f0.of) ∧ W.cell? ⟨b, off + 4, none⟩ = some (.int .u32 (f0.mark : Nat)) ∧ W.cell? ⟨b, off + 5, none⟩ = some (.slice P0 f0.load.length k0))) (by kernel_rfl) ⟨hM.2.1, hM.1⟩ (fun hHeld => ?_)
      refine wpAnyH_take (i := 0) (v := ?_) rfl (by kernel_rfl) (by kernel_rfl) (by kernel_rfl) (fun _ _ _ h => h) (Or.inl ⟨by rfl, ?_⟩) (by assumption) ?_
      rotate_left
      · simp only [List.getElem_toArray, List.getElem_cons_zero, List.getElem_cons_succ]; intro W hSw; (try dsimp only at hSw); go_simp; all_goals with_reducible rfl
      simp only [Act.put, List.getElem_toArray, List.getElem_cons_zero, List.getElem_cons_succ, List.setIfInBounds_toArray, List.set_cons_zero, List.set_cons_succ]
      refine wpAnyH_take (i := 1) (v := ?_) rfl (by kernel_rfl) (by kernel_rfl) (by kernel_rfl) (fun _ _ _ h => h) (Or.inl ⟨by rfl, ?_⟩) (by assumption) ?_
      rotate_left
      · simp only [List.getElem_toArray, List.getElem_cons_zero, List.getElem_cons_succ]; intro W hSw; (try dsimp only at hSw); go_simp; all_goals with_reducible rfl
      simp only [Act.put, List.getElem_toArray, List.getElem_cons_zero, List.getElem_cons_succ, List.setIfInBounds_toArray, List.set_cons_zero, List.set_cons_succ]
      refine wpAnyH_take (i := 2) (v := ?_) rfl (by kernel_rfl) (by kernel_rfl) (by kernel_rfl) (fun _ _ _ h => h) (Or.inl ⟨by rfl, ?_⟩) (by assumption) ?_
      rotate_left
      · simp only [List.getElem_toArray, List.getElem_cons_zero, List.getElem_cons_succ]; intro W hSw; (try dsimp only at hSw); go_simp; all_goals with_reducible rfl
      simp only [Act.put, List.getElem_toArray, List.getElem_cons_zero, List.getElem_cons_succ, List.setIfInBounds_toArray, List.set_cons_zero, List.set_cons_succ]
      refine wpAnyH_take (i := 3) (v := ?_) rfl (by kernel_rfl) (by kernel_rfl) (by kernel_rfl) (fun _ _ _ h => h) (Or.inl ⟨by rfl, ?_⟩) (by assumption) ?_
      rotate_left
      · simp only [List.getElem_toArray, List.getElem_cons_zero, List.getElem_cons_succ]; intro W hSw; (try dsimp only at hSw); go_simp; all_goals with_reducible rfl
      simp only [Act.put, List.getElem_toArray, List.getElem_cons_zero, List.getElem_cons_succ, List.setIfInBounds_toArray, List.set_cons_zero, List.set_cons_succ]
      refine wpAnyH_take (i := 4) (v := ?_) rfl (by kernel_rfl) (by kernel_rfl) (by kernel_rfl) (fun _ _ _ h => h) (Or.inl ⟨by rfl, ?_⟩) (by assumption) ?_
      rotate_left
      · simp only [List.getElem_toArray, List.getElem_cons_zero, List.getElem_cons_succ]; intro W hSw; (try dsimp only at hSw); go_simp; all_goals with_reducible rfl
      simp only [Act.put, List.getElem_toArray, List.getElem_cons_zero, List.getElem_cons_succ, List.setIfInBounds_toArray, List.set_cons_zero, List.set_cons_succ]
      refine wpAnyH_take (i := 5) (v := ?_) rfl (by kernel_rfl) (by kernel_rfl) (by kernel_rfl) (fun _ _ _ h => h) (Or.inl ⟨by rfl, ?_⟩) (by assumption) ?_
      rotate_left
      · simp only [List.getElem_toArray, List.getElem_cons_zero, List.getElem_cons_succ]; intro W hSw; (try dsimp only at hSw); go_simp; all_goals with_reducible rfl
      simp only [Act.put, List.getElem_toArray, List.getElem_cons_zero, List.getElem_cons_succ, List.setIfInBounds_toArray, List.set_cons_zero, List.set_cons_succ]
      refine wpAnyH_ready (rs := [6]) (by kernel_rfl) (by simp) ?_
      refine AllReadyH.cons rfl (fun K hK => ?_) AllReadyH.nil
      simp only [List.getElem_toArray, List.getElem_cons_zero, List.getElem_cons_succ]
      go_simp
      have hb3 : Below w2.heap.size w2 (w7.drew.alloc (.cells ((frv P1 k1 f1) ++ (frv P0 k0 f0)).toArray 33)) := HX7.out.drew.alloc HX7.out.drew.size _
      have hM3 := HM.out _ hb3
      unfold frv at hM3 HJo hb3
      simp only [List.cons_append, List.nil_append] at hM3 HJo hb3
      refine hK.out _ _ (⟨hM3.2.1, hM3.1⟩) (fun hHeldN => ?_)
      clear hK K hHeld
      have hHeld := hHeldN
      clear hHeldN
      (try simp only [Act.put, List.getElem_toArray, List.getElem_cons_zero, List.getElem_cons_succ, List.setIfInBounds_toArray, List.set_cons_zero, List.set_cons_succ])
      refine wpAnyH_ready (rs := [7]) (by kernel_rfl) (by simp) ?_
      refine AllReadyH.cons rfl (fun K hK => ?_) AllReadyH.nil
      simp only [List.getElem_toArray, List.getElem_cons_zero, List.getElem_cons_succ]
      go_simp
      refine HJo.out.mono ?_
      rintro e w8 ⟨v, rfl, hb4⟩
      have hb5 : Below w2.heap.size w2 w8 := HX7.out.drew.trans (hb4.mono HX7.out.drew.size)
      have hM4 := HM.out _ hb5
      go_wp2_with fail
      refine hK.out _ _ (⟨hM4.2.1, hM4.1⟩) (fun hHeldN => ?_)
      clear hK K hHeld
      have hHeld := hHeldN
      clear hHeldN
      (try simp only [Act.put, List.getElem_toArray, List.getElem_cons_zero, List.getElem_cons_succ, List.setIfInBounds_toArray, List.set_cons_zero, List.set_cons_succ])
      refine wpAnyH_take (i := 8) (v := ?_) rfl (by kernel_rfl) (by kernel_rfl) (by kernel_rfl) (fun _ _ _ h => h) (Or.inl ⟨by rfl, ?_⟩) (by assumption) ?_
      rotate_left
      · simp only [List.getElem_toArray, List.getElem_cons_zero, List.getElem_cons_succ]; intro W hSw; (try dsimp only at hSw); go_simp; all_goals with_reducible rfl
      simp only [Act.put, List.getElem_toArray, List.getElem_cons_zero, List.getElem_cons_succ, List.setIfInBounds_toArray, List.set_cons_zero, List.set_cons_succ]
      refine wpAnyH_take (i := 9) (v := ?_) rfl (by kernel_rfl) (by kernel_rfl) (by kernel_rfl) (fun _ _ _ h => h) (Or.inl ⟨by rfl, ?_⟩) (by assumption) ?_
      rotate_left
      · simp only [List.getElem_toArray, List.getElem_cons_zero, List.getElem_cons_succ]; intro W hSw; (try dsimp only at hSw); go_simp; all_goals with_reducible rfl
      simp only [Act.put, List.getElem_toArray, List.getElem_cons_zero, List.getElem_cons_succ, List.setIfInBounds_toArray, List.set_cons_zero, List.set_cons_succ]
      refine wpAnyH_take (i := 10) (v := ?_) rfl (by kernel_rfl) (by kernel_rfl) (by kernel_rfl) (fun _ _ _ h => h) (Or.inl ⟨by rfl, ?_⟩) (by assumption) ?_
      rotate_left
      · simp only [List.getElem_toArray, List.getElem_cons_zero, List.getElem_cons_succ]; intro W hSw; (try dsimp only at hSw); go_simp; all_goals with_reducible rfl
      simp only [Act.put, List.getElem_toArray, List.getElem_cons_zero, List.getElem_cons_succ, List.setIfInBounds_toArray, List.set_cons_zero, List.set_cons_succ]
      refine wpAnyH_take (i := 11) (v := ?_) rfl (by kernel_rfl) (by kernel_rfl) (by kernel_rfl) (fun _ _ _ h => h) (Or.inl ⟨by rfl, ?_⟩) (by assumption) ?_
      rotate_left
      · simp only [List.getElem_toArray, List.getElem_cons_zero, List.getElem_cons_succ]; intro W hSw; (try dsimp only at hSw); go_simp; all_goals with_reducible rfl
      simp only [Act.put, List.getElem_toArray, List.getElem_cons_zero, List.getElem_cons_succ, List.setIfInBounds_toArray, List.set_cons_zero, List.set_cons_succ]
      refine wpAnyH_take (i := 12) (v := ?_) rfl (by kernel_rfl) (by kernel_rfl) (by kernel_rfl) (fun _ _ _ h => h) (Or.inl ⟨by rfl, ?_⟩) (by assumption) ?_
      rotate_left
      · simp only [List.getElem_toArray, List.getElem_cons_zero, List.getElem_cons_succ]; intro W hSw; (try dsimp only at hSw); go_simp; all_goals with_reducible rfl
      simp only [Act.put, List.getElem_toArray, List.getElem_cons_zero, List.getElem_cons_succ, List.setIfInBounds_toArray, List.set_cons_zero, List.set_cons_succ]
      refine wpAnyH_done (by kernel_rfl) ?_ _
      have HX8 := Lib.hid hb5
      clear hM hM3 hM4 HJo hb3 hb4 hb5 hHeld
      go_wp2_with fail
      refine (wakes_any _).mono ?_
      rintro e w9 ⟨rfl, hb9⟩
      have HB9 := Lib.hid (HB2.out.trans ((HX8.out.trans (hb9.mono HX8.out.size)).mono HB2.out.size))
      clear hb9
      go_wp2
      go_ret
      exact ⟨rfl, HB9.out⟩
end Go.Proofs.Ytehkohnpfbdngaa
