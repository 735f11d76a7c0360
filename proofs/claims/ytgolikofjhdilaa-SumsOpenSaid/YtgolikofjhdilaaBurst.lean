/-
  SumsOpen, by contract.
-/
import Derived.Test.YtgolikofjhdilaaOwn
import Derived.IntWalk
namespace Go.Proofs.Ytgolikofjhdilaa
open Go.RowKit

/-- Block g begins with the bytes bs. -/
def Rw (w : World) (g : Nat) (bs : List Nat) : Prop := ∃ cur, w.heap[g]? = some (.cells cur 5 (0, 0)) ∧ cur.toList.take bs.length = vals bs
theorem Rw.by_ {w : World} {g : Nat} {bs : List Nat} (h : Rw w g bs) (hb : ∀ x ∈ bs, x < 256) : By w (g + 1) (some ⟨g, 0, none⟩) bs := by
  obtain ⟨cur, hg, ht⟩ := h
  exact By.of_row hg ht hb
theorem Rw.at_ {w : World} {g j : Nat} {bs : List Nat} (h : Rw w g bs) (hj : j < bs.length) : w.cell? ⟨g, j, none⟩ = some (.int .u8 (bs.getD j 0 : Nat)) ∧ w.frozen? ⟨g, j, none⟩ = false := by
  obtain ⟨cur, hg, ht⟩ := h
  refine ⟨?_, frozen_of_row w g j cur _ hg⟩
  rw [cell_of_row w g j cur _ _ hg]
  have h := congrArg (·[j]?) ht
  simp only [List.getElem?_take, hj, if_true] at h
  rw [show cur[j]? = cur.toList[j]? by simp, h]
  unfold vals
  rw [List.getElem?_map, List.getElem?_eq_getElem hj, Option.map_some, getD_at _ _ hj]
theorem Rw.set_ {w : World} {g j z : Nat} {bs : List Nat} (h : Rw w g bs) : Rw (w.setCell ⟨g, j, none⟩ (.int .u8 (z : Int))) g (bs.set j z) := by
  obtain ⟨cur, hg, ht⟩ := h
  refine ⟨_, heap_setCell_same w g j cur _ _ hg, ?_⟩
  rw [List.length_set, Array.toList_setIfInBounds, List.take_set, ht]
  unfold vals
  rw [List.map_set]
/-- One byte changed, in the number that the bytes are. -/
theorem le_set (l : List Nat) : ∀ (j z : Nat), j < l.length → (∀ x ∈ l, x < 256) → z < 256 → Crc.le (l.set j (l.getD j 0 ^^^ z)) = Crc.le l ^^^ (2 ^ (8 * j) * z) := by
  induction l with
  | nil => intro j z h; simp at h
  | cons a l ih =>
    intro j z hj hb hz
    have ha := hb a List.mem_cons_self
    have hl : ∀ x ∈ l, x < 256 := fun x hx => hb x (List.mem_cons_of_mem _ hx)
    cases j with
    | zero =>
      simp only [List.set_cons_zero, List.getD_cons_zero, Crc.le, Nat.mul_zero, Nat.pow_zero, Nat.one_mul]
      have hx : a ^^^ z < 256 := u8_xor_lt a z ha hz
      rw [Crc.add_shift _ _ hx, Crc.add_shift _ _ ha, Nat.xor_assoc, Nat.xor_assoc, Nat.xor_comm z]
    | succ j =>
      have hj' : j < l.length := by simpa using hj
      have h1 := ih j z hj' hl hz
      simp only [List.set_cons_succ, List.getD_cons_succ, Crc.le]
      rw [h1, Crc.add_shift _ _ ha, Crc.add_shift _ _ ha, Nat.xor_assoc]
      congr 1
      have e : 2 ^ (8 * (j + 1)) * z = 256 * (2 ^ (8 * j) * z) := by
        rw [Nat.mul_add, Nat.pow_add, Nat.mul_comm (2 ^ (8 * j)), Nat.mul_assoc]
      rw [e]
      have hs : ∀ x y : Nat, 256 * (x ^^^ y) = (256 * x) ^^^ (256 * y) := fun x y => by
        have := Nat.shiftLeft_xor_distrib (a := x) (b := y) (i := 8)
        simp only [Nat.shiftLeft_eq] at this
        rw [Nat.mul_comm 256, Nat.mul_comm 256, Nat.mul_comm 256]
        exact this
      exact hs _ _
/-- The bits so far, and one more. -/
theorem bits_snoc (B i : Nat) : B % 2 ^ (i + 1) = (B % 2 ^ i) ^^^ (2 ^ i * (B / 2 ^ i % 2)) := by
  have h := Crc.split_xor i (B % 2 ^ (i + 1))
  rw [h, Nat.xor_comm]
  congr 1
  · rw [Nat.mod_mod_of_dvd]; exact Nat.pow_dvd_pow 2 (by omega)
  · congr 1
    rw [Nat.pow_succ, Nat.mod_mul_right_div_self]
theorem flip_bit (p i : Nat) : 2 ^ p * 2 ^ i = 2 ^ (8 * ((p + i) / 8)) * 2 ^ ((p + i) % 8) := by
  rw [← Nat.pow_add, ← Nat.pow_add]
  congr 1
  omega
theorem mul_xor (p x y : Nat) : 2 ^ p * (x ^^^ y) = (2 ^ p * x) ^^^ (2 ^ p * y) := by
  have := Nat.shiftLeft_xor_distrib (a := x) (b := y) (i := p)
  simp only [Nat.shiftLeft_eq] at this
  rw [Nat.mul_comm (2 ^ p), Nat.mul_comm (2 ^ p), Nat.mul_comm (2 ^ p)]
  exact this
/-- the place where the change begins -/
theorem place (a : Int) (n : Nat) : ∃ p : Nat, p ≤ 8 * n ∧ (a.tmod (8 * (n : Int) + 1) + (8 * (n : Int) + 1)) % (8 * (n : Int) + 1) = (p : Int) := by
  have h1 := Int.emod_nonneg (a.tmod (8 * (n : Int) + 1) + (8 * (n : Int) + 1)) (b := 8 * (n : Int) + 1) (by omega)
  have h2 := Int.emod_lt_of_pos (a.tmod (8 * (n : Int) + 1) + (8 * (n : Int) + 1)) (b := 8 * (n : Int) + 1) (by omega)
  exact ⟨((a.tmod (8 * (n : Int) + 1) + (8 * (n : Int) + 1)) % (8 * (n : Int) + 1)).toNat, by omega, by omega⟩
theorem tmod_range (a : Int) (n : Nat) : -(8 * (n : Int) + 1) < a.tmod (8 * (n : Int) + 1) ∧ a.tmod (8 * (n : Int) + 1) < 8 * (n : Int) + 1 :=
  ⟨Int.lt_tmod_of_pos a (by omega), Int.tmod_lt_of_pos a (by omega)⟩
theorem bits_or_one (x : Nat) (hx : x < 4294967296) : bits .or .u32 (x : Int) 1 = ((x ||| 1 : Nat) : Int) := u32_or_nat x 1 hx (by omega)

theorem own_rw {w : World} {base g c : Nat} {bs : List Nat} (h : w.ownsRow base 5 1 (.slice (some ⟨g, 0, none⟩) bs.length c) bs.length (vals bs)) : Rw w g bs := by
  rcases h.2 with ⟨h, _⟩ | ⟨g', cap, cur, he, _, hh, _, _, _, ht⟩
  · cases h
  · cases he
    exact ⟨cur, hh, by rw [Nat.mul_one] at ht; exact ht⟩
theorem bit_one (B k : Nat) (hB : B < 4294967296) (h : B / 2 ^ k % 2 = 1) : (bits .and .u32 ((B : Int) / 2 ^ k) 1 == 1) = true := by
  have e : (B : Int) / 2 ^ k = ((B / 2 ^ k : Nat) : Int) := by push_cast; rfl
  rw [e]
  exact one_eq _ (Nat.lt_of_le_of_lt (Nat.div_le_self _ _) hB) h
theorem bit_one' (B k : Nat) (hB : B < 4294967296) (h : ¬ B / 2 ^ k % 2 = 1) : (bits .and .u32 ((B : Int) / 2 ^ k) 1 == 1) = false := by
  have e : (B : Int) / 2 ^ k = ((B / 2 ^ k : Nat) : Int) := by push_cast; rfl
  rw [e]
  exact one_eq' _ (Nat.lt_of_le_of_lt (Nat.div_le_self _ _) hB) h
/-- What the loop has done behind k rounds. -/
def Bst (sb : List Nat) (p B g k : Nat) (w2 wr : World) : Prop :=
  ∃ cur : List Nat, cur.length = sb.length ∧ (∀ x ∈ cur, x < 256) ∧ Crc.le cur = Crc.le sb ^^^ (2 ^ p * (B % 2 ^ k)) ∧ Rw wr g cur ∧ w2.grownBy wr (some g)

theorem Bst.next {sb cur : List Nat} {p B g k J z Q : Nat} {w2 wr : World} (hcl : cur.length = sb.length) (hcb : ∀ x ∈ cur, x < 256) (hle : Crc.le cur = Crc.le sb ^^^ (2 ^ p * (B % 2 ^ k))) (hrw : Rw wr g cur) (hon : w2.grownBy wr (some g))
    (hbit : B / 2 ^ k % 2 = 1) (hJ : (p + k) / 8 = J) (hQ : 2 ^ ((p + k) % 8) = Q) (hQ2 : Q < 256) (hJl : J < cur.length) (hz : cur.getD J 0 = z) :
    Bst sb p B g (k + 1) w2 ((wr.setCell ⟨g, J, none⟩ (.int .u8 ((z ^^^ Q : Nat) : Int))).drew) := by
  have hz2 : z < 256 := by rw [← hz, getD_at _ _ hJl]; exact hcb _ (List.getElem_mem hJl)
  refine ⟨cur.set J (z ^^^ Q), by rw [List.length_set, hcl], fun x hx => ?_, ?_, hrw.set_, ?_⟩
  · rcases List.mem_or_eq_of_mem_set hx with h | rfl
    · exact hcb x h
    · exact u8_xor_lt z Q hz2 hQ2
  · rw [← hz, le_set cur J Q hJl hcb hQ2, hle, bits_snoc, hbit, Nat.mul_one, mul_xor, flip_bit, hJ, hQ, Nat.xor_assoc]
  · have h := only_set (j := J) hon (.int .u8 ((z ^^^ Q : Nat) : Int))
    exact ⟨h.os, h.tape, h.output, h.size, h.block⟩
theorem Bst.skip {sb : List Nat} {p B g k : Nat} {w2 wr : World} (h : Bst sb p B g k w2 wr) (hbit : ¬ B / 2 ^ k % 2 = 1) : Bst sb p B g (k + 1) w2 wr := by
  obtain ⟨cur, hcl, hcb, hle, hrw, hon⟩ := h
  have h0 : B / 2 ^ k % 2 = 0 := by omega
  exact ⟨cur, hcl, hcb, by rw [hle, bits_snoc, h0, Nat.mul_zero, Nat.xor_zero], hrw, hon⟩
theorem pow_small (j : Nat) (h : j < 8) : 2 ^ j < 256 ∧ (2 : Int) ^ j % 256 = ((2 ^ j : Nat) : Int) := by
  have h1 : 2 ^ j < 2 ^ 8 := Nat.pow_lt_pow_right (by omega) h
  have h2 : ((2 ^ j : Nat) : Int) = (2 : Int) ^ j := by push_cast; rfl
  refine ⟨h1, ?_⟩
  rw [← h2]
  clear h2
  generalize 2 ^ j = q at h1 ⊢
  omega

set_option maxHeartbeats 1000000 in
theorem burst_small (bs : List Nat) (y : Nat) (hy : y < 4294967296) (a : Int) (_ha1 : -9223372036854775808 ≤ a) (_ha2 : a ≤ 9223372036854775807) (A : Option Addr) (c : Nat) (w : World) (hby : By w w.heap.size A bs) (hc : bs.length ≤ c) (hl : bs.length ≤ 20000) :
    Calls Try.prog 5 #[.slice A bs.length c, .int .u32 (y : Int), .int .i64 a] w fun e w' => e = .returned (.bool true) ∧ Below w.heap.size w w' := by
  have hlb : ¬ 20000 < bs.length := by omega
  have HS := Lib.hid (seal_any bs A c w hby hc (by omega))
  have hsl := Crc.sealed_lt hby.1
  have hsn := Crc.sealed_length bs
  have HSE := Lib.hid (Crc.isSealed_sealed bs)
  have HT := Lib.hid (show (Crc.sealed bs).take ((Crc.sealed bs).length - 4) = bs by rw [hsn, Nat.add_sub_cancel]; simp [Crc.sealed])
  generalize Crc.sealed bs = sb at *
  have HN := Lib.hid hsn
  have HSL := Lib.hid hsl
  have HY := Lib.hid hby
  have hor := bits_or_one y hy
  have hB : y ||| 1 < 4294967296 := Nat.or_lt_two_pow (n := 32) hy (by omega)
  have HB1 := Lib.hid (show y ||| 1 ≠ 0 from fun e => by have : 1 ≤ y ||| 1 := Nat.right_le_or; omega)
  generalize y ||| 1 = B at hor hB HB1
  obtain ⟨t1, t2⟩ := tmod_range a bs.length
  obtain ⟨p, hp, hpe⟩ := place a bs.length
  generalize hT : a.tmod (8 * (bs.length : Int) + 1) = T at t1 t2 hpe
  clear hsn hsl hby
  go_enter Try.func5, Try.ntmps5
  go_wp2_with fail
  refine HS.out.mono ?_
  rintro e w1 ⟨v, rfl, hnew⟩
  have hb1 := hnew.2
  have hown := hnew.1
  obtain ⟨g, cs, rfl, hys, hcs, hcsm, hg0, hg1, _⟩ := hnew.block HSL.out (by rw [HN.out]; omega)
  have HO := Lib.hid (open_sealed sb (some ⟨g, 0, none⟩) cs w1 hys hcs (by rw [HN.out]; omega) HSE.out)
  rw [HN.out, Nat.add_sub_cancel] at HO
  rw [HN.out] at hcs ⊢
  clear hys hnew HS
  go_wp2_with fail
  refine HO.out.mono ?_
  have hTk := HT.out
  rw [HN.out, Nat.add_sub_cancel] at hTk
  rw [hTk]
  clear hTk
  rintro e w2 ⟨x, rfl, hx⟩
  have hb2 := hx.2
  obtain ⟨AX, cx, rfl, hyx, _⟩ := hx.slice HY.out.1
  have hyb := (HY.out.below hb1 (Nat.le_refl _)).below hb2 hb1.size
  have kx := conv_str w2 hyx cx
  have kb := conv_str w2 hyb c
  have HOWN := Lib.hid hown
  clear hyx hyb hx HO hown
  go_wp2_with fail
  simp only [hpe]
  have hRw : Rw w2 g sb := by
    obtain ⟨cur, hg, ht⟩ := (show Rw w1 g sb from own_rw HOWN.out)
    exact ⟨cur, (hb2.block g hg1).trans hg, ht⟩
  go_loopw [11, 12] (fun i _ wr => ∃ k : Nat, k ≤ 32 ∧ i = .int .i64 k ∧ Bst sb p B g k w2 wr) (fun i _ _ => 32 - (intOf i).toNat)
  case atStart => exact ⟨0, by omega, rfl, sb, rfl, HSL.out, by simp [Nat.mod_one], hRw, only_refl _ _⟩
  case round =>
    obtain ⟨k, hk, rfl, hbst⟩ := hrel
    by_cases hlt : k < 32
    · by_cases hbit : B / 2 ^ k % 2 = 1
      · have ht := bit_one B k hB hbit
        have HBIT := Lib.hid hbit
        obtain ⟨cur, hcl, hcb, hle, hrw, hon⟩ := hbst
        have hq : (p + k) / 8 < cur.length := by rw [hcl, HN.out]; omega
        obtain ⟨hcell, hfr⟩ := hrw.at_ hq
        have hz : cur.getD ((p + k) / 8) 0 < 256 := by rw [getD_at _ _ hq]; exact hcb _ (List.getElem_mem hq)
        have HQ := Lib.hid hq
        have HLE := Lib.hid hle
        have HRW := Lib.hid hrw
        have HCL := Lib.hid hcl
        have HCB := Lib.hid hcb
        have HON := Lib.hid hon
        obtain ⟨z, hzd⟩ : ∃ z, cur.getD ((p + k) / 8) 0 = z := ⟨_, rfl⟩
        rw [hzd] at hcell hz
        have HCU := Lib.hid hzd
        clear hzd
        clear hbit hcl hcb hle hrw hon hq
        have d1 : IntKind.i64.wrap (((p : Int) + k).tdiv 8) = (((p + k) / 8 : Nat) : Int) := by
          rw [Int.tdiv_eq_ediv_of_nonneg (by omega), IntWalk.i64_in _ (by omega)]; omega
        have m1 : ((p : Int) + k).tmod 8 = (((p + k) % 8 : Nat) : Int) := by
          rw [Int.tmod_eq_emod_of_nonneg (by omega)]; omega
        have hJ : (p + k) / 8 < bs.length + 4 := by omega
        have hj : (p + k) % 8 < 8 := by omega
        generalize hJe : (p + k) / 8 = J at d1 hJ hcell hfr HCU HQ
        obtain ⟨hQ2, s1⟩ := pow_small _ hj
        have HQe := Lib.hid (show 2 ^ ((p + k) % 8) = 2 ^ ((p + k) % 8) from Eq.refl _)
        obtain ⟨Q, hQd⟩ : ∃ Q, 2 ^ ((p + k) % 8) = Q := ⟨_, rfl⟩
        rw [hQd] at hQ2 s1
        have HQD := Lib.hid hQd
        have x1 := u8_xor_nat z Q hz hQ2
        have HJ := Lib.hid hJe
        generalize (p + k) % 8 = j at m1 hj s1
        clear hJe hQd HQe
        have d2 : (0 : Int) ≤ (J : Int) := by omega
        have d3 : (J : Int) < (bs.length : Int) + 4 := by omega
        have HX := Lib.hid (Bst.next HCL.out HCB.out HLE.out HRW.out HON.out HBIT.out HJ.out HQD.out hQ2 HQ.out HCU.out)
        generalize z ^^^ Q = V at x1 HX
        go_wp2_with fail
        go_region
        go_wp2
        go_roundw
        case rel => exact ⟨k + 1, by omega, by go_num, HX.out⟩
        case measure => simp [intOf]; omega
      · have ht := bit_one' B k hB hbit
        have HX := Lib.hid (hbst.skip hbit)
        clear hbit hbst
        go_wp2
        go_roundw
        case rel => exact ⟨k + 1, by omega, by go_num, HX.out⟩
        case measure => simp [intOf]; omega
    · obtain rfl : k = 32 := by omega
      obtain ⟨cur, hcl, hcb, hle, hrw, hon⟩ := hbst
      have h32 : B % 2 ^ 32 = B := Nat.mod_eq_of_lt (by omega)
      rw [h32] at hle
      have hnot := Crc.burst HSL.out hcb hcl.symm B p HB1.out hB (by rw [HN.out]; omega) hle HSE.out
      have hgw : g < wr.heap.size := Nat.lt_of_lt_of_le hg1 (Nat.le_trans hb2.size hon.size)
      have hO2 := open_other cur (some ⟨g, 0, none⟩) cs wr ((hrw.by_ hcb).mono hgw) (by rw [hcl, HN.out]; exact hcs) (by rw [hcl, HN.out]; omega) hnot
      rw [hcl, HN.out] at hO2
      have HO2 := Lib.hid hO2
      have hBw2 := hb1.trans (hb2.mono hb1.size)
      have hBr := hBw2.trans (only_below hon hg0 hBw2.size)
      clear hcl hcb hle hrw hon h32 hnot hO2
      go_wp2_with fail
      refine HO2.out.mono ?_
      rintro e w5 ⟨rfl, hw5⟩
      go_wp2_with fail
      refine (wakes_any _).mono ?_
      rintro e w7 ⟨rfl, hb7⟩
      have hB5 := hBr.trans (hw5.mono hBr.size)
      have hB7 := hB5.trans (hb7.mono hB5.size)
      clear hBr hB5 hb7 hw5
      go_wp2
      go_ret
      exact ⟨rfl, hB7⟩
end Go.Proofs.Ytgolikofjhdilaa
