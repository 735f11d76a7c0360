/-
  The document's own numbers: low, number, by contract.
-/
import Derived.Test.YtehkohnpfbdngaaDoorPut
namespace Go.Proofs.YtehkohnpfbdngaaDoor
open Go.RowKit

theorem u64_bits (a : Nat) (ha : a < 18446744073709551616) : (BitVec.ofInt 64 (a : Int)).toNat = a := by
  rw [BitVec.toNat_ofInt]
  omega
theorem u64_wraps (a : Nat) (ha : a < 18446744073709551616) : IntKind.u64.wrap (a : Int) = (a : Int) := by
  rw [IntKind.wrap_u64]; omega
theorem u64_and_nat (a b : Nat) (ha : a < 18446744073709551616) (hb : b < 18446744073709551616) : bits .and .u64 (a : Int) (b : Int) = ((a &&& b : Nat) : Int) := by
  show IntKind.u64.wrap ((BitVec.ofInt 64 (a : Int) &&& BitVec.ofInt 64 (b : Int)).toNat : Nat) = _
  rw [BitVec.toNat_and, u64_bits a ha, u64_bits b hb]
  exact u64_wraps _ (Nat.lt_of_le_of_lt Nat.and_le_left ha)
theorem u64_or_nat (a b : Nat) (ha : a < 18446744073709551616) (hb : b < 18446744073709551616) : bits .or .u64 (a : Int) (b : Int) = ((a ||| b : Nat) : Int) := by
  show IntKind.u64.wrap ((BitVec.ofInt 64 (a : Int) ||| BitVec.ofInt 64 (b : Int)).toNat : Nat) = _
  rw [BitVec.toNat_or, u64_bits a ha, u64_bits b hb]
  exact u64_wraps _ (Nat.or_lt_two_pow (n := 64) ha hb)
theorem u64_low (n : Nat) (hn : n < 281474976710656) : bits .and .u64 (n : Int) 255 = ((n % 256 : Nat) : Int) := by
  have h := u64_and_nat n 255 (by omega) (by omega)
  rwa [nat_mask8] at h
theorem u64_or_lo (n b : Nat) (hn : n < 1099511627776) (hb : b < 256) : bits .or .u64 ((n * 256 : Nat) : Int) (b : Int) = ((b + 256 * n : Nat) : Int) := by
  have e : n * 256 ||| b = b + 256 * n := by
    have := Nat.shiftLeft_add_eq_or_of_lt (i := 8) hb n
    rw [Nat.shiftLeft_eq] at this
    rw [show n * 256 = n * 2 ^ 8 from rfl, ← this]
    omega
  rw [u64_or_nat _ _ (by omega) (by omega), e]

set_option maxHeartbeats 400000 in
theorem low_any (bs : List Nat) (n m base : Nat) (hn : n < 281474976710656) (hm6 : m ≤ 6) (u : Value) (w : World) (hbase : base ≤ w.heap.size) (hO : Own w base bs u) (hl : bs.length ≤ 1000) :
    Calls Tryd.prog 19 #[u, .int .u64 (n : Int), .int .i64 (m : Int)] w fun e w' => ∃ v, e = .returned v ∧ Own w' base (bs ++ dig n m) v ∧ Below base w w' := by
  have HO := Lib.hid hO
  have HB0 := Lib.hid hbase
  clear hO hbase
  go_enter Tryd.func19, Tryd.ntmps19
  go_wp2
  go_loopw [0, 1, 7] (fun v x i wr => ∃ k : Nat, k ≤ m ∧ i = .int .i64 k ∧ x = .int .u64 (n / 256 ^ k : Nat) ∧ Own wr base (bs ++ dig n k) v ∧ Below base w wr) (fun _ _ i _ => m - (intOf i).toNat)
  case atStart => exact ⟨0, by omega, rfl, by simp, by simpa [dig] using HO.out, Below.refl _ _⟩
  case round =>
    obtain ⟨k, hk, rfl, rfl, hv, hb⟩ := hrel
    by_cases hlt : k < m
    · have hd := dig_succ k n
      have hq : n / 256 ^ k < 281474976710656 := Nat.lt_of_le_of_lt (Nat.div_le_self _ _) hn
      have hs : n / 256 ^ (k + 1) = n / 256 ^ k / 256 := by rw [Nat.pow_succ, Nat.div_div_eq_div_mul]
      have HS := Lib.hid hs
      have HD := Lib.hid hd
      have HL := Lib.hid (dig_length k n)
      generalize n / 256 ^ k = q at *
      have ha := u64_low q hq
      have hb8 : q % 256 < 256 := by omega
      have HX := Lib.hid (show ∀ x ∈ [q % 256], x < 256 from fun x hx => by rw [List.mem_singleton] at hx; omega)
      have HV := Lib.hid hv
      have HB := Lib.hid hb
      have HZ := Lib.hid (Nat.le_trans HB0.out hb.size)
      clear hs hd hv hb
      generalize q % 256 = r at *
      go_wp2_with (first | (at_builtin; refine append_by rfl (.tmp 13) (.tmp 17) rfl base (bs ++ dig n k) [r] _ rfl (HV.out.alloc _) (some ⟨wr.heap.size, 0, none⟩) 1 1 rfl rfl _ (by_made wr #[.int .u8 (r : Int)] [r] rfl HX.out) (fun e => by cases e) (by rw [List.length_append, HL.out, List.length_singleton]; omega) w (HB.out.alloc HZ.out _) (Nat.le_trans HZ.out (by simp)) ?_; intro v3 w3 hv3 hb3; rw [List.append_assoc, ← HD.out] at hv3))
      go_roundw
      case rel => exact ⟨k + 1, by omega, by go_num, by rw [HS.out]; go_num, hv3, hb3⟩
      case measure => simp [intOf]; omega
    · obtain rfl : k = m := by omega
      go_wp2
      go_ret
      exact ⟨_, rfl, hv, hb⟩

set_option maxHeartbeats 400000 in
theorem number_any (P : List Nat) (A : Option Addr) (c : Nat) (w : World) (hA : By w w.heap.size A P) (hl : P.length ≤ 6) (h1 : 1 ≤ P.length) :
    Calls Tryd.prog 23 #[.slice A P.length c] w fun e w' => e = .returned (.int .u64 (num P : Nat)) ∧ w = w' := by
  obtain ⟨b, off, rfl, hb, hcells⟩ := hA.at_ (by omega)
  have hpb := hA.1
  have HC := Lib.hid hcells
  clear hA hcells
  go_enter Tryd.func23, Tryd.ntmps23
  go_wp2
  go_loop [3, 4] (fun n i => ∃ k : Nat, k ≤ P.length ∧ i = .int .i64 ((k : Int) - 1) ∧ n = .int .u64 (num (P.drop k) : Nat)) (fun _ i => (intOf i + 1).toNat)
  case atStart => exact ⟨P.length, by omega, rfl, by rw [List.drop_of_length_le (by omega)]; rfl⟩
  case round =>
    obtain ⟨k, hk, rfl, rfl⟩ := hrel
    cases k with
    | succ j =>
      rw [show ((j + 1 : Nat) : Int) - 1 = (j : Int) by omega]
      have hcell := HC.out j (by omega)
      have hB : P.getD j 0 < 256 := by rw [getD_at _ _ (by omega)]; exact hpb _ (List.getElem_mem _)
      have hs : num (P.drop j) = P.getD j 0 + 256 * num (P.drop (j + 1)) := by
        rw [getD_at _ _ (by omega), List.drop_eq_getElem_cons (by omega)]
        rfl
      have hN := num_lt (P.drop (j + 1)) fun x hx => hpb x (List.mem_of_mem_drop hx)
      have hN5 : num (P.drop (j + 1)) < 1099511627776 := by
        refine Nat.lt_of_lt_of_le hN ?_
        have := Nat.pow_le_pow_right (show 0 < 256 by omega) (show (P.drop (j + 1)).length ≤ 5 by rw [List.length_drop]; omega)
        exact this
      clear hN hpb
      generalize P.getD j 0 = B at *
      have HS := Lib.hid hs
      clear hs
      generalize num (P.drop (j + 1)) = N at *
      have ho := u64_or_lo N B hN5 hB
      rw [← HS.out, show ((N * 256 : Nat) : Int) = (N : Int) * 256 by omega] at ho
      obtain ⟨N', hN'⟩ : ∃ N', num (P.drop j) = N' := ⟨_, rfl⟩
      rw [hN'] at ho
      have HN := Lib.hid hN'
      clear hN' HS
      go_wp2
      exact ⟨⟨j, by omega, rfl, by rw [HN.out]⟩, by simp [intOf]⟩
    | zero =>
      go_wp2
      go_ret
      exact ⟨rfl, rfl⟩
end Go.Proofs.YtehkohnpfbdngaaDoor
