/-
  wakes, by contract: the document's own example.
-/
import Derived.Test.YtehkohnpfbdngaaDoorJoin
import Derived.Test.YtehkohnpfbdngaaDoorCutBack
import Derived.Deep.OwnRows
namespace Go.Proofs.YtehkohnpfbdngaaDoor
open Go.RowKit

theorem Frs.tail_ {w : World} {B b off : Nat} {f : Fr} {r : List Fr} (h : Frs w B (some ⟨b, off, none⟩) (f :: r)) : Frs w B (some ⟨b, off + 6, none⟩) r := fun hn => by
  obtain ⟨b', off', e, hlt, hc⟩ := h (by simp)
  obtain ⟨rfl, rfl⟩ : b = b' ∧ off = off' := by simpa using e
  refine ⟨b, off + 6, rfl, hlt, fun i hi => ?_⟩
  obtain ⟨xs, hx, hcell⟩ := hc (i + 1) (by simp; omega)
  refine ⟨xs, by simpa using hx, fun j u hu => ?_⟩
  rw [show off + 6 + i * 6 + j = off + (i + 1) * 6 + j by omega]
  exact hcell j u hu
/-- 85 bytes -/
def b85 : List Nat := List.replicate 85 0
theorem b85_E : cutE b85.length 7 1 = 0 := by decide
theorem b85_L : ∃ m, cutL b85 7 1 = [⟨7, 1, 0, 2, m, List.replicate 45 0⟩, ⟨8, 1, 1, 2, m, List.replicate 40 0⟩] := ⟨Crc.sum b85, by
  rw [cutL_yes b85_E, cutAll_two (by decide)]
  unfold cutOne b85
  simp [cutN]⟩
theorem b85_J : joinR (cutL b85 7 1) = b85 ∧ joinE (cutL b85 7 1) = 0 := by
  unfold joinR joinE
  rw [cutL_yes b85_E, if_pos (join_cut b85_E), if_pos (join_cut b85_E), loads_cut b85_E]
  exact ⟨rfl, rfl⟩
theorem made85 : (madeCells #[.int .u8 0] 85).toList = vals b85 := by kernel_rfl

set_option maxHeartbeats 2000000 in
theorem wakes_any (w : World) :
    Calls Tryd.prog 6 #[] w fun e w' => e = .returned (.bool true) ∧ Below w.heap.size w w' := by
  have hmk := run_make_row' (P := Tryd.prog) 23 5 (.int .u8 0) 1 Tryd.underlying23 Tryd.info5 rfl .i64 .i64 85 (by omega) (by omega)
  rw [show ((85 : Nat) : Int) = 85 from rfl] at hmk
  obtain ⟨C, hC⟩ : ∃ C, C = madeCells #[.int .u8 0] 85 := ⟨_, rfl⟩
  rw [← hC] at hmk
  have hb0 := (Below.refl w.heap.size w).alloc (Nat.le_refl _) (.cells C 5)
  have hy0 : By (w.alloc (.cells C 5)) (w.alloc (.cells C 5)).heap.size (some ⟨w.heap.size, 0, none⟩) b85 := (By.of_row (heap_alloc_new w _) (by rw [hC, made85]; rfl) (by decide)).mono (by simp)
  have HC := Lib.hid (cut_any b85 7 1 (some ⟨w.heap.size, 0, none⟩) 85 (w.alloc (.cells C 5)) hy0 (by decide) (by unfold maxLen; omega) (by decide) (by omega) (by omega))
  rw [show b85.length = 85 from rfl] at HC
  have HB0 := Lib.hid hb0
  clear hC hb0 hy0
  go_enter Tryd.func6, Tryd.ntmps6
  go_wp2_with fail
  refine HC.out.mono ?_
  rintro e w1 ⟨A1, c1, rfl, hfr, hlc, hc2, hn1, hb1⟩
  obtain ⟨m, hm⟩ := b85_L
  have hJ1 := join_any (cutL b85 7 1) A1 c1 w1 hfr (by rw [hm]; simp)
  rw [show cutE b85.length 7 1 = 0 from b85_E]
  rw [hm] at hfr hlc hJ1 ⊢
  obtain ⟨b, off, A2, c2, rfl, hbw, hy2, hlc2, hcm2, hn2, hf2, a0, a1, a2, a3, a4, a5⟩ := hfr.cells (k := 0) (by simp)
  obtain ⟨b', off', A3, c3, e', hbw', hy3, hlc3, hcm3, hn3, hf3, b0, b1, b2, b3, b4, b5⟩ := hfr.cells (k := 1) (by simp)
  obtain ⟨rfl, rfl⟩ : b = b' ∧ off = off' := by simpa using e'
  obtain rfl : c1 = 2 := by simp at hlc; omega
  have hS : ∀ W, Below w1.heap.size w1 W → W.cell? ⟨b, off + 5, none⟩ = some (.slice A2 45 c2) ∧ W.cell? ⟨b, off + 6, none⟩ = some (.int .i64 8) ∧ W.cell? ⟨b, off + 8, none⟩ = some (.int .i64 1) ∧ W.cell? ⟨b, off + 11, none⟩ = some (.slice A3 40 c3) := fun W hW =>
    ⟨(hW.cell (p := ⟨b, off + 5, none⟩) hbw).trans a5, (hW.cell (p := ⟨b, off + 6, none⟩) hbw).trans b0, (hW.cell (p := ⟨b, off + 8, none⟩) hbw).trans b2, (hW.cell (p := ⟨b, off + 11, none⟩) hbw).trans b5⟩
  have hJ2 := fun W (hW : Below w1.heap.size w1 W) => join_any [⟨8, 1, 1, 2, m, List.replicate 40 0⟩] (some ⟨b, off + 6, none⟩) 1 W ((hfr.tail_.below hW (Nat.le_refl _)).mono hW.size) (by simp)
  have HS := Lib.hid hS
  have HJ1 := Lib.hid hJ1
  have HJ2 := Lib.hid hJ2
  have HB1 := Lib.hid (HB0.out.trans (hb1.mono HB0.out.size))
  have HM := Lib.hid hm
  clear hS hJ1 hJ2 hb1 hm hy2 hy3 hfr a0 a1 a2 a3 a4 a5 b0 b1 b2 b3 b4 b5 hf2 hf3 hlc2 hlc3 hlc hcm2 hcm3 hn1 hn2 hn3 HC hmk hc2 hbw hbw' e'
  go_wp2_with fail
  refine HJ1.out.mono ?_
  rintro e w2 ⟨A4, c4, rfl, hy4, hlc4, _, _, hb2⟩
  have hq1 := b85_J.1
  have hq2 := b85_J.2
  rw [HM.out] at hq1 hq2
  rw [hq1, hq2, show b85.length = 85 from rfl]
  have HB2 := Lib.hid hb2
  clear hq1 hq2 hy4 hlc4 hb2
  go_wp2_with fail
  refine (HJ2.out w2 HB2.out).mono ?_
  rintro e w3 ⟨A5, c5, rfl, _, _, _, _, hb3⟩
  have hE : joinE [(⟨8, 1, 1, 2, m, List.replicate 40 0⟩ : Fr)] = 40 := by
    unfold joinE; rw [join_first (by simp)]; rfl
  rw [hE]
  have hb13 := HB2.out.trans (hb3.mono HB2.out.size)
  obtain ⟨k0, k1, k2, k3⟩ := HS.out w3 hb13
  have HB3 := Lib.hid (HB1.out.trans (hb13.mono HB1.out.size))
  clear hE hb3 hb13
  go_wp2
  go_ret
  exact ⟨rfl, HB3.out⟩
end Go.Proofs.YtehkohnpfbdngaaDoor
