/-
  The document's own sums: remainder, Join, Sum, by contract.
-/
import Derived.Test.YtehkohnpfbdngaaDoorBits
namespace Go.Proofs.YtehkohnpfbdngaaDoor
open Go.RowKit

set_option maxHeartbeats 400000 in
theorem remainder_any (r b : Nat) (w : World) (hr : r < 4294967296) (hb : b < 256) :
    Calls Tryd.prog 44 #[.int .u32 (r : Int), .int .u8 (b : Int)] w fun e w' => e = .returned (.int .u32 (Crc.upd r b : Nat)) ∧ w = w' := by
  have e1 := u32_xor_nat r b hr (by omega)
  have hX : r ^^^ b < 4294967296 := Nat.xor_lt_two_pow (n := 32) hr (by omega)
  have HU := Lib.hid (show Crc.upd r b = Crc.shn 8 (r ^^^ b) from rfl)
  generalize r ^^^ b = X at *
  go_enter Tryd.func44, Tryd.ntmps44
  go_wp2
  go_loop [0, 5] (fun q i => ∃ k : Nat, k ≤ 8 ∧ i = .int .i64 k ∧ q = .int .u32 (Crc.shn k X : Nat)) (fun _ i => 8 - (intOf i).toNat)
  case atStart => exact ⟨0, by omega, rfl, rfl⟩
  case round =>
    obtain ⟨k, hk, rfl, rfl⟩ := hrel
    by_cases hlt : k < 8
    · have hY := Crc.shn_lt k hX
      have HN := Lib.hid (Crc.shn_succ k X)
      generalize Crc.shn k X = Y at hY HN ⊢
      by_cases ho : Y % 2 = 1
      · have hd := one_eq Y hY ho
        have he := sh_odd Y hY ho
        have HO := Lib.hid ho
        clear ho
        go_wp2
        go_round
        case rel => exact ⟨k + 1, by omega, by go_num, by rw [HN.out]⟩
        case measure => simp [intOf]; omega
      · have hd := one_eq' Y hY ho
        have he := sh_even Y ho
        have HO := Lib.hid ho
        clear ho
        go_wp2
        go_round
        case rel => exact ⟨k + 1, by omega, by go_num, by rw [HN.out]⟩
        case measure => simp [intOf]; omega
    · obtain rfl : k = 8 := by omega
      go_wp2
      go_ret
      exact ⟨ret_int (by rw [HU.out]), rfl⟩

theorem neg_bits (x : Nat) (hx : x < 4294967296) : bits .xor .u32 IntKind.u32.max (x : Int) = (Crc.neg x : Nat) := by
  have h := u32_xor_nat 4294967295 x (by omega) hx
  rw [Crc.neg_def, ← h]; rfl

set_option maxHeartbeats 400000 in
theorem rjoin_any (s : Nat) (bs : List Nat) (A : Option Addr) (c : Nat) (w : World) (hs : s < 4294967296) (hby : By w w.heap.size A bs) (hl : bs.length ≤ maxLen) :
    Calls Tryd.prog 41 #[.int .u32 (s : Int), .slice A bs.length c] w fun e w' => e = .returned (.int .u32 (Crc.join s bs : Nat)) ∧ w = w' := by
  unfold maxLen at hl
  have h0 := neg_bits s hs
  have hN := Crc.neg_lt hs
  have HJ := Lib.hid (show Crc.join s bs = Crc.neg (Crc.rem (Crc.neg s) bs) from rfl)
  generalize Crc.neg s = N at *
  go_enter Tryd.func41, Tryd.ntmps41
  go_wp2
  go_loop [5, 6] (fun q i => ∃ k : Nat, k ≤ bs.length ∧ i = .int .i64 k ∧ q = .int .u32 (Crc.rem N (bs.take k) : Nat)) (fun _ i => bs.length - (intOf i).toNat)
  case atStart => exact ⟨0, by omega, rfl, rfl⟩
  case round =>
    obtain ⟨k, hk, rfl, rfl⟩ := hrel
    by_cases hlt : k < bs.length
    · have hR : Crc.rem N (bs.take k) < 4294967296 := Crc.rem_lt (fun x hx => hby.1 x (List.mem_of_mem_take hx)) hN
      have HN := Lib.hid (show Crc.rem N (bs.take (k + 1)) = Crc.upd (Crc.rem N (bs.take k)) (bs.getD k 0) by
        rw [List.take_succ_eq_append_getElem hlt, Crc.rem_snoc, getD_at _ _ hlt])
      obtain ⟨b, off, rfl, hb, hcells⟩ := hby.at_ (by omega)
      have hcell := hcells k hlt
      have hbk : bs.getD k 0 < 256 := by rw [getD_at _ _ hlt]; exact hby.1 _ (List.getElem_mem hlt)
      clear hcells
      generalize Crc.rem N (bs.take k) = R at hR HN ⊢
      generalize bs.getD k 0 = B at hcell hbk HN
      go_wp2_with fail
      refine (remainder_any R B _ hR hbk).mono ?_
      rintro e w' ⟨rfl, rfl⟩
      go_wp2
      go_round
      case rel => exact ⟨k + 1, by omega, by go_num, by rw [HN.out]⟩
      case measure => simp [intOf]; omega
    · obtain rfl : k = bs.length := by omega
      have hR : Crc.rem N bs < 4294967296 := Crc.rem_lt hby.1 hN
      have h1 := neg_bits _ hR
      rw [List.take_length]
      generalize Crc.rem N bs = R at *
      go_wp2
      go_ret
      exact ⟨ret_int (by rw [HJ.out]), rfl⟩

set_option maxHeartbeats 400000 in
theorem rsum_any (bs : List Nat) (A : Option Addr) (c : Nat) (w : World) (hby : By w w.heap.size A bs) (hl : bs.length ≤ maxLen) :
    Calls Tryd.prog 35 #[.slice A bs.length c] w fun e w' => e = .returned (.int .u32 (Crc.sum bs : Nat)) ∧ w = w' := by
  have HD := Lib.hid (rjoin_any 0 bs A c w (by omega) hby hl)
  clear hby
  go_enter Tryd.func35, Tryd.ntmps35
  go_wp2_with fail
  refine HD.out.mono ?_
  rintro e w1 ⟨rfl, rfl⟩
  go_wp2
  go_ret
  exact ⟨rfl, rfl⟩
end Go.Proofs.YtehkohnpfbdngaaDoor
