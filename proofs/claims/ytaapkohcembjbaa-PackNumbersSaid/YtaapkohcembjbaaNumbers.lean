/-
  PackNumbers, by contract.
-/
import Derived.Test.YtaapkohcembjbaaSame
namespace Go.Proofs.Ytaapkohcembjbaa
open Go.RowKit

/-- what Put and the document's Put answer: the same bytes, the same number -/
theorem put_both (bs : List Nat) (n z : Int) (hbl : ∀ x ∈ bs, x < 256) (hl : bs.length ≤ 1000000) : ∃ (ps : List Nat) (er : Int),
    (∀ (A : Option Addr) (c : Nat) (w : World), By w w.heap.size A bs → (A = none → c = 0) → Calls Try.prog 7 #[.slice A bs.length c, .int .i64 n, .int .i64 z] w fun e w' => ∃ A' c', e = .returned (.tuple #[.slice A' ps.length c', .int .i64 er]) ∧ By w' w'.heap.size A' ps ∧ Below w.heap.size w w') ∧
    (∀ (A : Option Addr) (c : Nat) (w : World), By w w.heap.size A bs → (A = none → c = 0) → Calls Try.prog 8 #[.slice A bs.length c, .int .i64 n, .int .i64 z] w fun e w' => ∃ A' c', e = .returned (.tuple #[.slice A' ps.length c', .int .i64 er]) ∧ By w' w'.heap.size A' ps ∧ Below w.heap.size w w') := by
  cases hf : fits n z with
  | true =>
    obtain ⟨x, m, rfl, rfl, h1, h6, hx⟩ := fits_of hf
    have hps : ∀ y ∈ bs ++ dig x m, y < 256 := fun y hy => (List.mem_append.1 hy).elim (hbl y) (dig_lt m x y)
    refine ⟨bs ++ dig x m, 0, fun A c w hA hc => ?_, fun A c w hA hc => ?_⟩
    · refine (put_yes bs x m hx h1 h6 A c w hA (by omega)).mono ?_
      rintro e w' ⟨v, rfl, hv⟩
      obtain ⟨A', c', rfl, hy, _⟩ := hv.slice hps
      exact ⟨A', c', rfl, hy, hv.2⟩
    · refine (rput_yes bs x m hx h1 h6 A c w hA hc (by omega)).mono ?_
      rintro e w' ⟨v, rfl, hv⟩
      obtain ⟨A', c', rfl, hy, _⟩ := hv.slice hps
      exact ⟨A', c', rfl, hy, hv.2⟩
  | false =>
    refine ⟨[], 2, fun A c w hA hc => ?_, fun A c w hA hc => ?_⟩
    · refine (put_no bs.length n z hf A c w).mono ?_
      rintro e w' ⟨rfl, rfl⟩
      exact ⟨none, 0, rfl, By.nil_, Below.refl _ _⟩
    · refine (rput_no bs.length n z hf A c w).mono ?_
      rintro e w' ⟨rfl, rfl⟩
      exact ⟨none, 0, rfl, By.nil_, Below.refl _ _⟩
/-- what Get and the document's Get answer: the same number, the same error -/
theorem get_both (bs : List Nat) (a z : Int) (hl : bs.length ≤ 1000000) : ∃ (i er : Int),
    (∀ (A : Option Addr) (c : Nat) (w : World), By w w.heap.size A bs → Calls Try.prog 9 #[.slice A bs.length c, .int .i64 a, .int .i64 z] w fun e w' => e = .returned (.tuple #[.int .i64 i, .int .i64 er]) ∧ w = w') ∧
    (∀ (A : Option Addr) (c : Nat) (w : World), By w w.heap.size A bs → Calls Try.prog 10 #[.slice A bs.length c, .int .i64 a, .int .i64 z] w fun e w' => e = .returned (.tuple #[.int .i64 i, .int .i64 er]) ∧ w = w') := by
  cases hz : wid z with
  | true =>
    obtain ⟨m, rfl, h1, h6⟩ := wid_of hz
    by_cases hp : a < 0 ∨ (bs.length : Int) - m < a
    · exact ⟨0, 40, fun A c w _ => get_place bs.length a m h1 h6 hp (by omega) A c w, fun A c w _ => rget_place bs.length a m h1 h6 hp (by omega) A c w⟩
    · obtain ⟨k, rfl⟩ := Int.eq_ofNat_of_zero_le (show 0 ≤ a by omega)
      exact ⟨_, 0, fun A c w hA => get_yes bs k m h1 h6 (by omega) A c w hA (by omega), fun A c w hA => rget_yes bs k m h1 h6 (by omega) A c w hA (by omega)⟩
  | false => exact ⟨0, 2, fun A c w _ => get_width bs.length a z hz A c w, fun A c w _ => rget_width bs.length a z hz A c w⟩

set_option maxHeartbeats 1000000 in
theorem numbers_small (bs : List Nat) (n z a : Int) (A : Option Addr) (c : Nat) (w : World) (hA : By w w.heap.size A bs) (hc : A = none → c = 0) (hl : bs.length ≤ 5000) :
    Calls Try.prog 3 #[.slice A bs.length c, .int .i64 n, .int .i64 z, .int .i64 a] w fun e w' => e = .returned (.bool true) ∧ Below w.heap.size w w' := by
  have hlb : ¬ 5000 < bs.length := by omega
  obtain ⟨ps, er, hp1, hp2⟩ := put_both bs n z hA.1 (by omega)
  obtain ⟨i, ge, hg1, hg2⟩ := get_both bs a z (by omega)
  have P1 := Lib.hid hp1
  have P2 := Lib.hid hp2
  have G1 := Lib.hid hg1
  have G2 := Lib.hid hg2
  have HA := Lib.hid hA
  have HC := Lib.hid hc
  have q1 : (er == er) = true := by simp
  have q2 : (i == i) = true := by simp
  have q3 : (ge == ge) = true := by simp
  have F1 := Lib.hid (fits_any n z)
  have F2 := Lib.hid (rfits_any n z)
  generalize fits n z = f at *
  have q4 : (f == f) = true := by simp
  clear hp1 hp2 hg1 hg2 hA hc
  go_enter Try.func3, Try.ntmps3
  go_wp2_with fail
  refine (P1.out A c w HA.out HC.out).mono ?_
  rintro e w1 ⟨A1, c1, rfl, hy1, hb1⟩
  have Y1 := Lib.hid hy1
  have B1 := Lib.hid hb1
  clear hy1 hb1
  go_wp2_with fail
  refine (P2.out A c w1 ((HA.out.below B1.out (Nat.le_refl _)).mono B1.out.size) HC.out).mono ?_
  rintro e w2 ⟨A2, c2, rfl, hy2, hb2⟩
  have Y2 := Lib.hid hy2
  have B2 := Lib.hid (B1.out.trans (hb2.mono B1.out.size))
  have Y12 := Lib.hid ((Y1.out.below hb2 (Nat.le_refl _)).mono hb2.size)
  clear hy2 hb2
  go_wp2_with fail
  refine (G1.out A c w2 ((HA.out.below B2.out (Nat.le_refl _)).mono B2.out.size)).mono ?_
  rintro e w3 ⟨rfl, rfl⟩
  go_wp2_with fail
  refine (G2.out A c w2 ((HA.out.below B2.out (Nat.le_refl _)).mono B2.out.size)).mono ?_
  rintro e w4 ⟨rfl, rfl⟩
  go_wp2_with fail
  refine (bytes_same ps A1 A2 c1 c2 w2 Y12.out Y2.out).mono ?_
  rintro e w5 ⟨rfl, rfl⟩
  go_wp2_with fail
  refine (F1.out w2).mono ?_
  rintro e w6 ⟨rfl, rfl⟩
  go_wp2_with fail
  refine (F2.out w2).mono ?_
  rintro e w7 ⟨rfl, rfl⟩
  go_wp2_with fail
  refine (wakes_any w2).mono ?_
  rintro e w8 ⟨rfl, hb8⟩
  have hB := B2.out.trans (hb8.mono B2.out.size)
  clear hb8
  go_wp2
  go_ret
  exact ⟨rfl, hB⟩
end Go.Proofs.Ytaapkohcembjbaa
