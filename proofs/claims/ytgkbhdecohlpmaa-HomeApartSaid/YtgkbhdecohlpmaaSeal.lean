/-
  Seal, by contract: a slice of its own.
-/
import Derived.Test.YtgkbhdecohlpmaaLowest
import Derived.Deep.RegionLawGrows
namespace Go.Proofs.Ytgkbhdecohlpmaa
set_option maxRecDepth 100000
open Go.RowKit

set_option maxHeartbeats 400000 in
theorem seal_any (bs : List Nat) (A : Option Addr) (c : Nat) (w : World) (hby : By w w.heap.size A bs) (hc : bs.length ≤ c) (hl : bs.length ≤ 1000000000) :
    Calls Try.prog 24 #[.slice A bs.length c] w fun e w' => ∃ v, e = .returned v ∧ New w w' (Crc.sealed bs) v := by
  have hs := Crc.sum_lt hby.1
  have H1 := Lib.hid (sum_any bs A c w hby (by unfold maxLen; omega))
  have HE := Lib.hid (show Crc.sealed bs = bs ++ Crc.tail (Crc.sum bs) from rfl)
  generalize Crc.sum bs = s at *
  go_enter Try.func24, Try.ntmps24
  go_wp2_with fail
  refine H1.out.mono ?_
  rintro e w1 ⟨rfl, hw1⟩
  go_wp2_with fail
  refine (lowest_any s hs _).mono ?_
  rintro e w2 ⟨rfl, hw2⟩
  have H0 := Lib.hid (heap_alloc_new w2 (.cells #[.int .u8 0, .int .u8 0, .int .u8 0, .int .u8 0] 92))
  have HI := Lib.hid (show (Try.prog.info? 92).map (·.size) = some (four s).size by rw [four_size]; kernel_rfl)
  have HO := Lib.hid (show (#[Value.int .u8 0, .int .u8 0, .int .u8 0, .int .u8 0] : Array Value).size = (four s).size from rfl)
  have H4 := Lib.hid (four_one s)
  go_wp2_with ((refine wpList_store_row rfl 92 _ _ rfl w2.heap.size (four s) rfl rfl 92 _ H0.out HI.out HO.out H4.out ?_))
  have h3 := setRow_heap _ _ _ (four s) _ _ H0.out
  have hB := below_setRow (((hw1.trans (hw2.mono hw1.size))).alloc (Nat.le_trans hw1.size hw2.size) (.cells #[.int .u8 0, .int .u8 0, .int .u8 0, .int .u8 0] 92)) (Nat.le_trans hw1.size hw2.size) (four s)
  generalize (w2.alloc (.cells #[.int .u8 0, .int .u8 0, .int .u8 0, .int .u8 0] 92)).setRow w2.heap.size (four s) = w3 at h3 hB ⊢
  generalize w2.heap.size = g at h3 ⊢
  have hby3 := hby.below hB (Nat.le_refl _)
  clear H0 HI HO H4 hw1 hw2 H1 hby
  obtain ⟨i0, hi, hz0, hz1, hz2⟩ := info_parts Try.info5
  have s1 := Lib.hid (show A = none → bs.length = 0 ∧ bs.length = 0 from hby3.of_none)
  have s2 := Lib.hid (show (vals bs).length = bs.length * 1 by rw [vals_length, Nat.mul_one])
  have s3 := Lib.hid hby3.vals
  have s4 := Lib.hid (show (vals (Crc.tail s)).length = 4 * 1 from rfl)
  have s5 : Hid (∀ j u, (vals (Crc.tail s))[j]? = some u → w3.cell? ((⟨g, 0, none⟩ : Addr).add j) = some u) := fun j u hu => by
    rw [add_flat, Nat.zero_add, cell_of_row w3 g j _ _ _ h3]; simpa [four] using hu
  have s6 := Lib.hid (vals_one (bs := Crc.tail s))
  go_region_law (refine step_append_grows rfl (.tmp 12) (.tmp 13) 44 rfl 5 i0 (.int .u8 0) 1 1 Try.underlying44 hi hz0 hz1 hz2 rfl (by decide) A bs.length bs.length (vals bs) (by simp [Act.eval, Act.put]) s1.out s2.out s3.out ⟨g, 0, none⟩ 4 4 (vals (Crc.tail s)) (by simp [Act.eval, Act.put]) s4.out s5.out s6.out (by omega) (by unfold maxLen; omega) (by omega) ?_; intro v' w4 hown hgrow)
  go_wp2
  go_ret
  refine ⟨v', rfl, ?_, ?_⟩
  · rw [HE.out, vals_append, List.length_append]
    exact own_mono hown hB.size
  · exact grown_below hB.drew hgrow
end Go.Proofs.Ytgkbhdecohlpmaa
