/-
  The document's own Put, by contract.
-/
import Derived.Test.YtaapkohcembjbaaPut
namespace Go.Proofs.Ytaapkohcembjbaa
open Go.RowKit

set_option maxHeartbeats 400000 in
theorem rput_yes (bs : List Nat) (n m : Nat) (hn : n < 256 ^ m) (hm : 1 ≤ m) (hm6 : m ≤ 6) (A : Option Addr) (c : Nat) (w : World) (hA : By w w.heap.size A bs) (hc : A = none → c = 0) (hl : bs.length ≤ 100000000) :
    Calls Try.prog 8 #[.slice A bs.length c, .int .i64 (n : Int), .int .i64 (m : Int)] w fun e w' => ∃ v, e = .returned (.tuple #[v, .int .i64 0]) ∧ New w w' (bs ++ dig n m) v := by
  have hf := fits_yes hm hm6 hn
  have hw := Lib.hid (rfits_any n m)
  rw [hf] at hw
  have hn48 : n < 281474976710656 := Nat.lt_of_lt_of_le hn (pow_le6 hm6)
  have HA := Lib.hid hA
  have HC := Lib.hid hc
  have HO := Lib.hid (Own.nil_ w w.heap.size)
  clear hn hf hA hc
  go_enter Try.func8, Try.ntmps8
  go_wp2_with fail
  refine (hw.out _).mono ?_
  rintro e w1 ⟨rfl, rfl⟩
  go_wp2_with (first | (at_builtin; refine append_by rfl (.tmp 14) (.tmp 15) rfl w.heap.size [] bs _ rfl HO.out A bs.length c rfl rfl w.heap.size HA.out HC.out (by rw [List.length_nil]; omega) w (Below.refl _ _) (Nat.le_refl _) ?_; intro v1 w2 hv1 hb1; rw [List.nil_append] at hv1))

  go_loopw [1, 8, 9] (fun x v i wr => ∃ k : Nat, k ≤ m ∧ i = .int .i64 k ∧ x = .int .i64 (n / 256 ^ k : Nat) ∧ Own wr w.heap.size (bs ++ dig n k) v ∧ Below w.heap.size w wr) (fun _ _ i _ => m - (intOf i).toNat)
  case atStart => exact ⟨0, by omega, rfl, by simp, by simpa [dig] using hv1, hb1⟩
  case round =>
    obtain ⟨k, hk, rfl, rfl, hv, hb⟩ := hrel
    by_cases hlt : k < m
    · have hd := dig_succ k n
      have hq : n / 256 ^ k < 281474976710656 := Nat.lt_of_le_of_lt (Nat.div_le_self _ _) hn48
      have hs : n / 256 ^ (k + 1) = n / 256 ^ k / 256 := by rw [Nat.pow_succ, Nat.div_div_eq_div_mul]
      have HS := Lib.hid hs
      have HD := Lib.hid hd
      have HL := Lib.hid (dig_length k n)
      generalize n / 256 ^ k = q at *
      have ha := and_low q hq
      have hb8 : q % 256 < 256 := by omega
      have HX := Lib.hid (show ∀ x ∈ [q % 256], x < 256 from fun x hx => by rw [List.mem_singleton] at hx; omega)
      have HV := Lib.hid hv
      have HB := Lib.hid hb
      clear hs hd hv hb
      generalize q % 256 = r at *
      go_wp2_with (first | (at_builtin; refine append_by rfl (.tmp 22) (.tmp 26) rfl w.heap.size (bs ++ dig n k) [r] _ rfl (HV.out.alloc _) (some ⟨wr.heap.size, 0, none⟩) 1 1 rfl rfl _ (by_made wr #[.int .u8 (r : Int)] [r] rfl HX.out) (fun e => by cases e) (by rw [List.length_append, HL.out, List.length_singleton]; omega) w (HB.out.alloc HB.out.size _) (Nat.le_trans HB.out.size (by simp)) ?_; intro v3 w3 hv3 hb3; rw [List.append_assoc, ← HD.out] at hv3))
      go_roundw
      case rel => exact ⟨k + 1, by omega, by go_num, by rw [HS.out]; go_num, hv3, hb3⟩
      case measure => simp [intOf]; omega
    · obtain rfl : k = m := by omega
      go_wp2
      go_ret2
      exact ⟨_, rfl, hv, hb⟩
end Go.Proofs.Ytaapkohcembjbaa
