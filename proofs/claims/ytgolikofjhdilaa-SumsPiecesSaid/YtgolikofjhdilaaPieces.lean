/-
  SumsPieces, by contract.
-/
import Derived.Test.YtgolikofjhdilaaStr
namespace Go.Proofs.Ytgolikofjhdilaa
open Go.RowKit

/-- The slice at A holds the integers zs, in a block below B. -/
def Ints (w : World) (B : Nat) (A : Option Addr) (zs : List Int) : Prop :=
  0 < zs.length → ∃ b off, A = some ⟨b, off, none⟩ ∧ b < B ∧ ∀ j, j < zs.length → w.cell? ⟨b, off + j, none⟩ = some (.int .i64 (zs.getD j 0))
theorem Ints.below {w w' : World} {B B' : Nat} {A : Option Addr} {zs : List Int} (h : Ints w B A zs) (hb : Below B' w w') (hB : B ≤ B') : Ints w' B A zs := fun hn => by
  obtain ⟨b, off, e, hlt, hc⟩ := h hn
  exact ⟨b, off, e, hlt, fun j hj => (hb.cell (by simp; omega)).trans (hc j hj)⟩

theorem piece (bs : List Nat) (n n' : Nat) (h1 : n ≤ n') (h2 : n' ≤ bs.length) : ((bs.drop n).take (n' - n)).length = n' - n ∧ Crc.join (Crc.sum (bs.take n)) ((bs.drop n).take (n' - n)) = Crc.sum (bs.take n') := by
  refine ⟨by rw [List.length_take, List.length_drop]; omega, ?_⟩
  unfold Crc.sum
  rw [Crc.join_append]
  congr 1
  have e : n' = n + (n' - n) := by omega
  conv => rhs; rw [e, List.take_add]
theorem By.cut {w : World} {B : Nat} {A : Option Addr} {bs : List Nat} {c : Nat} (h : By w B A bs) (n : Nat) (hc : bs.length ≤ c) : ∃ A', By w B A' (bs.drop n) ∧ (c = n → A' = A) ∧ (¬ c = n → A' = A.map (·.add n)) :=
  ⟨if c = n then A else A.map (·.add n), h.drop n hc, fun e => if_pos e, fun e => if_neg e⟩

set_option maxHeartbeats 1000000 in
theorem pieces_small (bs : List Nat) (zs : List Int) (A C : Option Addr) (c c2 : Nat) (w : World) (hby : By w w.heap.size A bs) (hc : bs.length ≤ c) (hcm : c ≤ maxLen) (hl : bs.length ≤ 20000)
    (hin : Ints w w.heap.size C zs) (hz : zs.length ≤ 100) (hr : ∀ z ∈ zs, -9223372036854775808 ≤ z ∧ z ≤ 9223372036854775807) :
    Calls Try.prog 4 #[.slice A bs.length c, .slice C zs.length c2] w fun e w' => e = .returned (.bool true) ∧ Below w.heap.size w w' := by
  have hlb : decide (20000 < (bs.length : Int)) = false := by simp; omega
  have hlz : decide (100 < (zs.length : Int)) = false := by simp; omega
  unfold maxLen at hcm
  go_enter Try.func4, Try.ntmps4
  go_wp2
  go_loopw [5, 6, 8, 9, 21] (fun s a _ _ i wr => ∃ k n : Nat, k ≤ zs.length ∧ n ≤ bs.length ∧ i = .int .i64 k ∧ a = .int .i64 n ∧ s = .int .u32 (Crc.sum (bs.take n) : Nat) ∧ Below w.heap.size w wr) (fun _ _ _ _ i _ => zs.length - (intOf i).toNat)
  case atStart => exact ⟨0, 0, by omega, by omega, rfl, rfl, by rw [List.take_zero, sum_nil]; rfl, Below.refl _ _⟩
  case round =>
    obtain ⟨k, n, hk, hn, rfl, rfl, rfl, hB⟩ := hrel
    have hsn : Crc.sum (bs.take n) < 4294967296 := Crc.sum_lt fun x hx => hby.1 x (List.mem_of_mem_take hx)
    have hbr := (hby.below hB (Nat.le_refl _)).mono hB.size
    by_cases hlt : k < zs.length
    · obtain ⟨b, off, rfl, hb, hcell⟩ := (hin.below hB (Nat.le_refl _)) (by omega)
      have hce := hcell k hlt
      have hzr := hr (zs.getD k 0) (by rw [show zs.getD k 0 = zs[k] by simp [List.getD, hlt]]; exact List.getElem_mem hlt)
      generalize zs.getD k 0 = z at hce hzr
      obtain ⟨z1, z2⟩ := hzr
      clear hcell hin hr
      obtain ⟨M, hM, m1, m2⟩ : ∃ M : Int, (if z < (n : Int) then (n : Int) else z) = M ∧ (n : Int) ≤ M ∧ M ≤ 9223372036854775807 := ⟨_, rfl, by split <;> omega, by split <;> omega⟩
      obtain ⟨n', hN, n1, n2⟩ : ∃ n' : Nat, (if (bs.length : Int) < M then (bs.length : Int) else M) = (n' : Int) ∧ n ≤ n' ∧ n' ≤ bs.length := by
        split
        · exact ⟨bs.length, rfl, by omega, by omega⟩
        · exact ⟨M.toNat, by omega, by omega, by omega⟩
      obtain ⟨p1, p2⟩ := piece bs n n' n1 n2
      obtain ⟨A', hy', ha, hb'⟩ := hbr.cut n hc
      have HJ := join_any (Crc.sum (bs.take n)) ((bs.drop n).take (n' - n)) A' (c - n) wr hsn (hy'.take _) (by rw [p1]; unfold maxLen; omega)
      rw [p1, p2] at HJ
      have H := Lib.hid HJ
      clear HJ p1 p2 hy' hbr hsn
      generalize Crc.sum (bs.take n) = S at H ⊢
      by_cases hca : c = n
      · obtain rfl := ha hca
        rw [show c - n = 0 by omega] at H
        clear hb' ha
        subst hca
        go_wp2_with fail
        refine H.out.mono ?_
        rintro e w5 ⟨rfl, hw5⟩
        have hB5 := hB.trans (hw5.mono hB.size)
        clear hB hw5 H
        go_wp2
        go_roundw
        case rel => first | exact ⟨k + 1, n', by omega, n2, by go_num, rfl, rfl, hB5⟩ | exact ⟨k + 1, n', by omega, n2, by go_num, rfl, hB5⟩
        case measure => simp [intOf]; omega
      · have e := hb' hca
        rw [e] at H
        clear hb' ha e
        go_wp2_with fail
        refine H.out.mono ?_
        rintro e w5 ⟨rfl, hw5⟩
        have hB5 := hB.trans (hw5.mono hB.size)
        clear hB hw5 H
        go_wp2
        go_roundw
        case rel => first | exact ⟨k + 1, n', by omega, n2, by go_num, rfl, rfl, hB5⟩ | exact ⟨k + 1, n', by omega, n2, by go_num, rfl, hB5⟩
        case measure => simp [intOf]; omega
    · obtain rfl : k = zs.length := by omega
      obtain ⟨A', hy', ha, hb'⟩ := hbr.cut n hc
      obtain ⟨p1, p2⟩ := piece bs n bs.length hn (Nat.le_refl _)
      rw [show (bs.drop n).take (bs.length - n) = bs.drop n from List.take_of_length_le (by rw [List.length_drop]; omega)] at p1 p2
      rw [List.take_length] at p2
      have HJ := join_any (Crc.sum (bs.take n)) (bs.drop n) A' (c - n) wr hsn hy' (by rw [p1]; unfold maxLen; omega)
      rw [p1, p2] at HJ
      have H := Lib.hid HJ
      have HY := Lib.hid hbr
      clear HJ p1 p2 hy' hbr hsn hin hr
      generalize Crc.sum (bs.take n) = S at H ⊢
      by_cases hca : c = n
      · obtain rfl := ha hca
        rw [show c - n = 0 by omega, show bs.length - n = 0 by omega] at H
        clear hb' ha
        subst hca
        go_wp2_with fail
        refine H.out.mono ?_
        rintro e w5 ⟨rfl, hw5⟩
        go_wp2_with fail
        refine (sum_any bs A' c w5 ((HY.out.below hw5 (Nat.le_refl _)).mono hw5.size) (by unfold maxLen; omega)).mono ?_
        rintro e w6 ⟨rfl, hw6⟩
        go_wp2_with fail
        refine (wakes_any w6).mono ?_
        rintro e w7 ⟨rfl, hw7⟩
        have hB5 := hB.trans (hw5.mono hB.size)
        have hB6 := hB5.trans (hw6.mono hB5.size)
        have hB7 := hB6.trans (hw7.mono hB6.size)
        go_wp2
        go_ret
        exact ⟨rfl, hB7⟩
      · have e := hb' hca
        rw [e] at H
        clear hb' ha e
        go_wp2_with fail
        refine H.out.mono ?_
        rintro e w5 ⟨rfl, hw5⟩
        go_wp2_with fail
        refine (sum_any bs A c w5 ((HY.out.below hw5 (Nat.le_refl _)).mono hw5.size) (by unfold maxLen; omega)).mono ?_
        rintro e w6 ⟨rfl, hw6⟩
        go_wp2_with fail
        refine (wakes_any w6).mono ?_
        rintro e w7 ⟨rfl, hw7⟩
        have hB5 := hB.trans (hw5.mono hB.size)
        have hB6 := hB5.trans (hw6.mono hB5.size)
        have hB7 := hB6.trans (hw7.mono hB6.size)
        go_wp2
        go_ret
        exact ⟨rfl, hB7⟩
end Go.Proofs.Ytgolikofjhdilaa
