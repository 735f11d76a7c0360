/-
  The document's own Values, by contract.
-/
import Derived.Test.YtaapkohcembjbaaValues
namespace Go.Proofs.Ytaapkohcembjbaa
open Go.RowKit

set_option maxHeartbeats 1000000 in
theorem rvalues_any (bs : List Nat) (n : Nat) (hn : bs.length = 8 * n) (A : Option Addr) (c : Nat) (w : World) (hA : By w w.heap.size A bs) (hl : n ≤ 1000000) :
    Calls Try.prog 19 #[.slice A n c] w fun e w' => ∃ v, e = .returned v ∧ New w w' bs v := by
  have HA := Lib.hid hA
  clear hA
  go_enter Try.func19, Try.ntmps19
  go_wp2
  go_loopw [3, 4, 5] (fun v i _ wr => ∃ k : Nat, k ≤ n ∧ i = .int .i64 k ∧ Own wr w.heap.size (bs.take (k * 8)) v ∧ Below w.heap.size w wr) (fun _ i _ _ => n - (intOf i).toNat)
  case atStart => exact ⟨0, by omega, rfl, by simpa using Own.nil_ w w.heap.size, Below.refl _ _⟩
  case round =>
    obtain ⟨k, hk, rfl, hv, hb⟩ := hrel
    by_cases hlt : k < n
    · go_wp2
      go_loopw [3, 5] (fun v i wr => ∃ j : Nat, j ≤ 8 ∧ i = .int .i64 j ∧ Own wr w.heap.size (bs.take (k * 8 + j)) v ∧ Below w.heap.size w wr) (fun _ i _ => 8 - (intOf i).toNat)
      case atStart => exact ⟨0, by omega, rfl, hv, hb⟩
      case round =>
        obtain ⟨j, hj, rfl, hv, hb⟩ := hrel
        by_cases hjt : j < 8
        · obtain ⟨b, off, rfl, hbw, hcells⟩ := HA.out.at_ (by omega)
          have hlen : k * 8 + j < bs.length := by omega
          have hcell := (hb.cell (p := ⟨b, off + (k * 8 + j), none⟩) hbw).trans (hcells _ hlen)
          rw [← Nat.add_assoc] at hcell
          have hB : bs.getD (k * 8 + j) 0 < 256 := by rw [getD_at _ _ hlen]; exact HA.out.1 _ (List.getElem_mem hlen)
          have HN := Lib.hid (show bs.take (k * 8 + j) ++ [bs.getD (k * 8 + j) 0] = bs.take (k * 8 + (j + 1)) by
            rw [← Nat.add_assoc, List.take_succ_eq_append_getElem hlen, getD_at _ _ hlen])
          generalize bs.getD (k * 8 + j) 0 = r at *
          have HX := Lib.hid (show ∀ x ∈ [r], x < 256 from fun x hx => by rw [List.mem_singleton] at hx; omega)
          have HV := Lib.hid hv
          have HB := Lib.hid hb
          have HL := Lib.hid (show (bs.take (k * 8 + j)).length ≤ 90000000 by rw [List.length_take]; omega)
          generalize bs.take (k * 8 + j) = T at *
          clear hv hb hcells
          go_wp2_with (first | (at_builtin; refine append_by rfl (.tmp 16) (.tmp 23) rfl w.heap.size T [r] _ rfl (HV.out.alloc _) (some ⟨_, 0, none⟩) 1 1 rfl rfl _ (by_made _ #[.int .u8 (r : Int)] [r] rfl HX.out) (fun e => by cases e) (by rw [List.length_singleton]; have := HL.out; omega) w (HB.out.alloc HB.out.size _) (Nat.le_trans HB.out.size (by simp)) ?_; intro v3 w3 hv3 hb3; rw [HN.out] at hv3))
          go_roundw
          case rel => exact ⟨j + 1, by omega, by go_num, hv3, hb3⟩
          case measure => simp [intOf]; omega
        · obtain rfl : j = 8 := by omega
          go_wp2
          go_roundw
          case rel => exact ⟨k + 1, by omega, by go_num, by rw [show (k + 1) * 8 = k * 8 + 8 by omega]; exact hv, hb⟩
          case measure => simp [intOf]; omega
    · obtain rfl : k = n := by omega
      rw [List.take_of_length_le (by omega)] at hv
      go_wp2
      go_ret
      exact ⟨_, rfl, hv, hb⟩
end Go.Proofs.Ytaapkohcembjbaa
