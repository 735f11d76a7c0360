/-
  The document's own Seal, by contract.
-/
import Derived.Test.YtehkohnpfbdngaaDoorSeal
namespace Go.Proofs.YtehkohnpfbdngaaDoor
open Go.RowKit

theorem nl_eq (s : Nat) (hs : s < 4294967296) : [Value.int .u8 ((s : Int) % 256), .int .u8 ((s : Int) / 256 % 256), .int .u8 ((s : Int) / 65536 % 256), .int .u8 ((s : Int) / 16777216)] = vals (Crc.tail s) := by
  have h := congrArg Array.toList (four_eq s hs)
  simpa [four] using h

set_option maxHeartbeats 400000 in
theorem rseal_some (bs : List Nat) (b off c : Nat) (w : World) (hby : By w w.heap.size (some ⟨b, off, none⟩) bs) (hl : bs.length ≤ 1000000000) :
    Calls Tryd.prog 20 #[.slice (some ⟨b, off, none⟩) bs.length c] w fun e w' => ∃ v, e = .returned v ∧ New w w' (Crc.sealed bs) v := by
  have hs := Crc.sum_lt hby.1
  have H1 := Lib.hid (rsum_any bs (some ⟨b, off, none⟩) c w hby (by unfold maxLen; omega))
  have HE := Lib.hid (show Crc.sealed bs = bs ++ Crc.tail (Crc.sum bs) from rfl)
  generalize Crc.sum bs = s at *
  have HN := Lib.hid (nl_eq s hs)
  obtain ⟨i0, hi, hz0, hz1, hz2⟩ := info_parts Tryd.info5
  have s0 : Hid (w.ownsRow w.heap.size 5 1 (.slice none 0 0) 0 []) := ⟨rfl, Or.inl ⟨rfl, rfl⟩⟩
  have s2 := Lib.hid (show (vals bs).length = bs.length * 1 by rw [vals_length, Nat.mul_one])
  have s3 := Lib.hid (hby.vals _ rfl)
  have s4 := Lib.hid (vals_one (bs := bs))
  have s5 : Hid (0 + bs.length ≤ maxLen) := by show 0 + bs.length ≤ maxLen; unfold maxLen; omega
  have s6 : Hid ((0 + bs.length) * 1 ≤ 140737488355328) := by show (0 + bs.length) * 1 ≤ 140737488355328; omega
  have s7 := Lib.hid (Nat.le_refl w.heap.size)
  have t5 : Hid (bs.length + 4 ≤ maxLen) := by show bs.length + 4 ≤ maxLen; unfold maxLen; omega
  have t6 : Hid ((bs.length + 4) * 1 ≤ 140737488355328) := by show (bs.length + 4) * 1 ≤ 140737488355328; omega
  clear hby
  go_enter Tryd.func20, Tryd.ntmps20
  go_wp2_with (first
    | (go_at_call 35; refine H1.out.mono ?_; rintro e w' ⟨rfl, rfl⟩)
    | (at_builtin; refine wpList_append_own _ rfl (.tmp 7) (.tmp 8) 23 rfl w.heap.size 5 i0 (.int .u8 0) 1 1 Tryd.underlying23 hi hz0 hz1 hz2 rfl (by decide) _ 0 [] rfl s0.out ⟨b, off, none⟩ bs.length c (vals bs) rfl s2.out s3.out s4.out s5.out s6.out s7.out ?_; intro v1 w2 hown1 hgrow1 _; rw [Nat.zero_add, List.nil_append] at hown1; replace hgrow1 : w.grownBy w2 none := hgrow1)
    | (at_builtin; refine wpList_append_own _ rfl (.tmp 10) (.tmp 22) 23 rfl w.heap.size 5 i0 (.int .u8 0) 1 1 Tryd.underlying23 hi hz0 hz1 hz2 rfl (by decide) _ bs.length (vals bs) rfl ?_ ⟨w2.heap.size, 0, none⟩ 4 4 (vals (Crc.tail s)) rfl rfl ?_ vals_one t5.out t6.out ?_ ?_; (exact hown1.alloc _); (exact new_cells HN.out); (exact Nat.le_trans hgrow1.size (by simp)); intro v3 w4 hown3 hgrow3 _))
  go_ret
  refine ⟨v3, rfl, by rw [HE.out, vals_append, List.length_append]; exact hown3, ?_⟩
  exact ((grown_below (Below.refl _ _) hgrow1).alloc hgrow1.size _).grown hgrow3 (Nat.le_trans hgrow1.size (by simp)) (own_ge hown1)

set_option maxHeartbeats 400000 in
theorem rseal_nil (w : World) :
    Calls Tryd.prog 20 #[.slice none 0 0] w fun e w' => ∃ v, e = .returned v ∧ New w w' (Crc.sealed []) v := by
  have hs : Crc.sum [] < 4294967296 := Crc.sum_lt (fun _ h => (List.not_mem_nil h).elim)
  have H1 := Lib.hid (rsum_any [] none 0 w By.nil_ (by unfold maxLen; simp))
  have HE := Lib.hid (show Crc.sealed [] = [] ++ Crc.tail (Crc.sum []) from rfl)
  generalize Crc.sum [] = s at *
  have HN := Lib.hid (nl_eq s hs)
  obtain ⟨i0, hi, hz0, hz1, hz2⟩ := info_parts Tryd.info5
  have hown1 : w.ownsRow w.heap.size 5 1 (.slice none 0 0) 0 [] := ⟨rfl, Or.inl ⟨rfl, rfl⟩⟩
  have HO := Lib.hid hown1
  clear hown1
  go_enter Tryd.func20, Tryd.ntmps20
  go_wp2_with (first
    | (go_at_call 35; refine H1.out.mono ?_; rintro e w' ⟨rfl, rfl⟩)
    | (at_builtin; refine wpList_append_own _ rfl (.tmp 10) (.tmp 22) 23 rfl w.heap.size 5 i0 (.int .u8 0) 1 1 Tryd.underlying23 hi hz0 hz1 hz2 rfl (by decide) _ 0 [] rfl ?_ ⟨w.heap.size, 0, none⟩ 4 4 (vals (Crc.tail s)) rfl rfl ?_ vals_one (by decide) (by decide) ?_ ?_; (exact HO.out.alloc _); (exact new_cells HN.out); (simp); intro v3 w4 hown3 hgrow3 _))
  go_ret
  refine ⟨v3, rfl, by rw [HE.out]; exact hown3, ?_⟩
  exact ((Below.refl _ _).alloc (Nat.le_refl _) _).grown hgrow3 (by simp) (own_ge HO.out)

set_option maxHeartbeats 400000 in
theorem rseal_zero (ad : Addr) (c : Nat) (w : World) :
    Calls Tryd.prog 20 #[.slice (some ad) 0 c] w fun e w' => ∃ v, e = .returned v ∧ New w w' (Crc.sealed []) v := by
  have hs : Crc.sum [] < 4294967296 := Crc.sum_lt (fun _ h => (List.not_mem_nil h).elim)
  have H1 := Lib.hid (rsum_any [] (some ad) c w By.nil_ (by unfold maxLen; simp))
  have HE := Lib.hid (show Crc.sealed [] = [] ++ Crc.tail (Crc.sum []) from rfl)
  generalize Crc.sum [] = s at *
  have HN := Lib.hid (nl_eq s hs)
  obtain ⟨i0, hi, hz0, hz1, hz2⟩ := info_parts Tryd.info5
  have hown1 : w.ownsRow w.heap.size 5 1 (.slice none 0 0) 0 [] := ⟨rfl, Or.inl ⟨rfl, rfl⟩⟩
  have HO := Lib.hid hown1
  clear hown1
  go_enter Tryd.func20, Tryd.ntmps20
  go_wp2_with (first
    | (go_at_call 35; refine H1.out.mono ?_; rintro e w' ⟨rfl, rfl⟩)
    | (at_builtin; refine wpList_append_own _ rfl (.tmp 10) (.tmp 22) 23 rfl w.heap.size 5 i0 (.int .u8 0) 1 1 Tryd.underlying23 hi hz0 hz1 hz2 rfl (by decide) _ 0 [] rfl ?_ ⟨w.heap.size, 0, none⟩ 4 4 (vals (Crc.tail s)) rfl rfl ?_ vals_one (by decide) (by decide) ?_ ?_; (exact HO.out.alloc _); (exact new_cells HN.out); (simp); intro v3 w4 hown3 hgrow3 _))
  go_ret
  refine ⟨v3, rfl, by rw [HE.out]; exact hown3, ?_⟩
  exact ((Below.refl _ _).alloc (Nat.le_refl _) _).grown hgrow3 (by simp) (own_ge HO.out)

theorem rseal_any (bs : List Nat) (A : Option Addr) (c : Nat) (w : World) (hby : By w w.heap.size A bs) (hA : A = none → c = 0) (hl : bs.length ≤ 1000000000) :
    Calls Tryd.prog 20 #[.slice A bs.length c] w fun e w' => ∃ v, e = .returned v ∧ New w w' (Crc.sealed bs) v := by
  rcases Nat.eq_zero_or_pos bs.length with h0 | h0
  · obtain rfl := List.eq_nil_of_length_eq_zero h0
    cases A with
    | none =>
      obtain rfl := hA rfl
      exact rseal_nil w
    | some ad => exact rseal_zero ad c w
  · obtain ⟨b, off, rfl, _⟩ := hby.at_ h0
    exact rseal_some bs b off c w hby hl
end Go.Proofs.YtehkohnpfbdngaaDoor
