/-
  The developers' answers: a superblock put.
-/
import Derived.Test.YtgkbhdecohlpmaaHDput
namespace Go.Proofs.Ytgkbhdecohlpmaa
set_option maxRecDepth 100000
open Go.RowKit
set_option maxRecDepth 100000

theorem super_info : (Try.prog.info? 25).map (·.size) = some (13 : Nat) := by kernel_rfl
theorem cells_all {s : Sup} : s.cells.all (·.oneCell') = true := by
  unfold Sup.cells
  rw [Array.all_eq_true_iff_forall_mem]
  intro u hu
  simp only [List.mem_toArray, List.mem_map] at hu
  obtain ⟨z, _, rfl⟩ := hu
  rfl
theorem puts_nil_dev : PutSNil := by
  intro s w hf
  generalize s.cells = cs
  go_enter Try.func12, Try.ntmps12
  go_wp2
  go_ret
  exact ⟨rfl, (Below.refl _ _).alloc (Nat.le_refl _) _⟩
set_option maxHeartbeats 2000000 in
theorem puts_dev : PutSSays := by
  intro w S a d s h hd hf hs
  obtain ⟨cs, hcs⟩ : ∃ cs, cs = s.cells := ⟨_, rfl⟩
  have HI := Lib.hid (show (Try.prog.info? 25).map (·.size) = some cs.size by rw [super_info, hcs, cells_len hs])
  have HM := Lib.hid (fun W => mayH_dev s W hs)
  rw [← hcs] at HM ⊢
  obtain ⟨w1, hw1⟩ : ∃ w1, w1 = w.alloc (.cells cs 25) := ⟨_, rfl⟩
  have hs1 : w1.heap.size = w.heap.size + 1 := by rw [hw1]; simp
  have hb1 : Below w.heap.size w w1 := by rw [hw1]; exact (Below.refl _ w).alloc (Nat.le_refl _) _
  have hin : SupIn w1 w.heap.size s := by unfold SupIn; rw [hw1, hcs]; exact heap_alloc_new w _
  have HRow := Lib.hid (show w1.heap[w.heap.size]? = some (.cells cs 25 (0, 0)) by rw [hw1]; exact heap_alloc_new w _)
  have HB1 := Lib.hid hb1
  have HS1 := Lib.hid hs1
  have HIn := Lib.hid (fun W (hW : Below w1.heap.size w1 W) => hin.below hW (by omega))
  have HW1 := Lib.hid hw1
  clear hw1 hs1 hb1 hin
  by_cases hm : mayP s
  · have hP : putSD d s = d.write (s.gen % 2).toNat (Crc.sealed (supB s)) := if_pos hm
    rw [hP, if_pos hm]
    rw [decide_eq_true hm] at HM
    have hg0 : 0 ≤ s.gen := hm.1.1
    have HN := Lib.hid (fun W (hW : Below w1.heap.size w1 W) => numbers_dev w.heap.size W (HIn.out W hW).lt)
    have HJ := Lib.hid (fun W (hW : Below w1.heap.size w1 W) b off c (hat : NumsAt W w.heap.size b off) (hb : b < W.heap.size) => joinN_dev s hs hm w.heap.size b off c W (HIn.out W hW) hat hb)
    have HPl := Lib.hid (fun W => place_dev s W hs hg0)
    rw [← hcs] at HPl
    have hsl : (supB s).length = 27 := supB_len hs.1
    have HSl := Lib.hid (fun A c W (hW : By W W.heap.size A (supB s)) (hc : (supB s).length ≤ c) => seal_any (supB s) A c W hW hc (by omega))
    have HL := Lib.hid (supB_lt s)
    have HL2 := Lib.hid (Crc.sealed_lt (supB_lt s))
    have hl2 : (Crc.sealed (supB s)).length = 31 := by rw [Crc.sealed_length, hsl]
    have hp2 : (((s.gen % 2).toNat : Nat) : Int) = s.gen % 2 := Int.toNat_of_nonneg (by omega)
    have HWr := Lib.hid (fun W (hW : Below w.heap.size w W) A c (hA : By W W.heap.size A (Crc.sealed (supB s))) => write_home (h.below hW (Nat.le_refl _)) hd hf (s.gen % 2).toNat (by omega) A (Crc.sealed (supB s)) c hA (by omega))
    rw [hp2] at HWr
    generalize Crc.sealed (supB s) = sb at *
    generalize supB s = fb at *
    generalize (s.gen % 2).toNat = pn at *
    generalize s.gen % 2 = pz at *
    clear h hd hf hs hcs hP hg0 hsl hl2 hp2 hm
    go_enter Try.func12, Try.ntmps12
    go_wp2_with (first | (rw [← HW1.out]) | (refine wpList_load_row rfl 25 _ rfl w.heap.size rfl 25 cs (0, 0) _ HRow.out Try.underlying25 rfl HI.out ?_))
    refine (HM.out _).mono ?_
    rintro e w2 ⟨rfl, hb2⟩
    have HB2 := Lib.hid hb2
    clear hb2
    have R2 := Lib.hid ((HB2.out.block _ (by have := HS1.out; omega)).trans HRow.out)
    go_wp2_with (fail)
    refine (HN.out _ HB2.out).mono ?_
    rintro e w3 ⟨v, rfl, hv, hb3⟩
    have HB3 := Lib.hid (HB2.out.trans (hb3.mono HB2.out.size))
    obtain ⟨b, off, c, rfl, _, hbl, _, _, hat⟩ := nums_at hv
    have HAt := Lib.hid hat
    clear hv hb3 hat
    go_wp2_with (fail)
    refine (HJ.out _ HB3.out _ _ _ HAt.out hbl).mono ?_
    rintro e w4 ⟨v, rfl, hv⟩
    have HB4 := Lib.hid (HB3.out.trans (hv.2.mono HB3.out.size))
    obtain ⟨A4, c4, rfl, hy4, hl4, _⟩ := New.slice hv HL.out
    have HY4 := Lib.hid hy4
    have HL4 := Lib.hid hl4
    have R4 := Lib.hid ((HB4.out.block _ (by have := HS1.out; omega)).trans HRow.out)
    clear hv hy4 hl4
    go_wp2_with (refine wpList_load_row rfl 25 _ rfl w.heap.size rfl 25 cs (0, 0) _ R4.out Try.underlying25 rfl HI.out ?_)
    refine (HPl.out _).mono ?_
    rintro e w5 ⟨rfl, hb5⟩
    have HB5 := Lib.hid (HB4.out.trans (hb5.mono HB4.out.size))
    have HY5 := Lib.hid ((HY4.out.below hb5 (Nat.le_refl _)).mono hb5.size)
    clear hb5
    go_wp2_with (fail)
    refine (HSl.out _ _ _ HY5.out HL4.out).mono ?_
    rintro e w6 ⟨v, rfl, hv⟩
    have HB6 := Lib.hid (HB1.out.trans ((HB5.out.trans (hv.2.mono HB5.out.size)).mono HB1.out.size))
    obtain ⟨A6, c6, rfl, hy6, hl6, _⟩ := New.slice hv HL2.out
    have HY6 := Lib.hid hy6
    clear hv hy6
    go_wp2_with (fail)
    refine (HWr.out _ HB6.out _ _ HY6.out).mono ?_
    rintro e w7 ⟨rfl, hg7⟩
    have HG := Lib.hid (goes_afterH HB6.out hg7)
    clear hg7
    go_wp2
    go_ret
    exact ⟨rfl, HG.out⟩
  · have hP : putSD d s = d := if_neg hm
    rw [hP, if_neg hm]
    rw [decide_eq_false hm] at HM
    have HD := Lib.hid h
    clear h hm hP hcs
    go_enter Try.func12, Try.ntmps12
    go_wp2_with (first | (rw [← HW1.out]) | (refine wpList_load_row rfl 25 _ rfl w.heap.size rfl 25 cs (0, 0) _ HRow.out Try.underlying25 rfl HI.out ?_))
    refine (HM.out _).mono ?_
    rintro e w2 ⟨rfl, hb2⟩
    have HB2 := Lib.hid hb2
    clear hb2
    go_wp2
    go_ret
    exact ⟨rfl, Dk.Goes.same HD.out (HB1.out.trans (HB2.out.mono HB1.out.size))⟩
end Go.Proofs.Ytgkbhdecohlpmaa
