/-
  Bits of a sector turned, one after another (after the text of stage 1's law on bits).
-/
import Derived.Test.YtehkohnpfbdngaaDoorBits
import Derived.Test.YtehkohnpfbdngaaDoorBase
import Derived.IntWalk
namespace Go.Proofs.YtehkohnpfbdngaaDoor
open Go.RowKit

theorem u8_xor_lt (z y : Nat) (hz : z < 256) (hy : y < 256) : z ^^^ y < 256 := Nat.xor_lt_two_pow (n := 8) hz hy
/-- Block g begins with the bytes bs. -/
def Rw (w : World) (g : Nat) (bs : List Nat) : Prop := ∃ cur, w.heap[g]? = some (.cells cur 5 (0, 0)) ∧ cur.toList.take bs.length = vals bs
theorem Rw.by_ {w : World} {g : Nat} {bs : List Nat} (h : Rw w g bs) (hb : ∀ x ∈ bs, x < 256) : By w (g + 1) (some ⟨g, 0, none⟩) bs := by
  obtain ⟨cur, hg, ht⟩ := h
  exact By.of_row hg ht hb
theorem Rw.at_ {w : World} {g j : Nat} {bs : List Nat} (h : Rw w g bs) (hj : j < bs.length) : w.cell? ⟨g, j, none⟩ = some (.int .u8 (bs.getD j 0 : Nat)) ∧ w.frozen? ⟨g, j, none⟩ = false := by
  obtain ⟨cur, hg, ht⟩ := h
  refine ⟨?_, frozen_of_row w g j cur _ hg⟩
  rw [cell_of_row w g j cur _ _ hg]
  have h := congrArg (·[j]?) ht
  simp only [List.getElem?_take, hj, if_true] at h
  rw [show cur[j]? = cur.toList[j]? by simp, h]
  unfold vals
  rw [List.getElem?_map, List.getElem?_eq_getElem hj, Option.map_some, getD_at _ _ hj]
theorem Rw.set_ {w : World} {g j z : Nat} {bs : List Nat} (h : Rw w g bs) : Rw (w.setCell ⟨g, j, none⟩ (.int .u8 (z : Int))) g (bs.set j z) := by
  obtain ⟨cur, hg, ht⟩ := h
  refine ⟨_, heap_setCell_same w g j cur _ _ hg, ?_⟩
  rw [List.length_set, Array.toList_setIfInBounds, List.take_set, ht]
  unfold vals
  rw [List.map_set]
/-- One byte changed, in the number that the bytes are. -/
theorem le_set (l : List Nat) : ∀ (j z : Nat), j < l.length → (∀ x ∈ l, x < 256) → z < 256 → Crc.le (l.set j (l.getD j 0 ^^^ z)) = Crc.le l ^^^ (2 ^ (8 * j) * z) := by
  induction l with
  | nil => intro j z h; simp at h
  | cons a l ih =>
    intro j z hj hb hz
    have ha := hb a List.mem_cons_self
    have hl : ∀ x ∈ l, x < 256 := fun x hx => hb x (List.mem_cons_of_mem _ hx)
    cases j with
    | zero =>
      simp only [List.set_cons_zero, List.getD_cons_zero, Crc.le, Nat.mul_zero, Nat.pow_zero, Nat.one_mul]
      have hx : a ^^^ z < 256 := u8_xor_lt a z ha hz
      rw [Crc.add_shift _ _ hx, Crc.add_shift _ _ ha, Nat.xor_assoc, Nat.xor_assoc, Nat.xor_comm z]
    | succ j =>
      have hj' : j < l.length := by simpa using hj
      have h1 := ih j z hj' hl hz
      simp only [List.set_cons_succ, List.getD_cons_succ, Crc.le]
      rw [h1, Crc.add_shift _ _ ha, Crc.add_shift _ _ ha, Nat.xor_assoc]
      congr 1
      have e : 2 ^ (8 * (j + 1)) * z = 256 * (2 ^ (8 * j) * z) := by
        rw [Nat.mul_add, Nat.pow_add, Nat.mul_comm (2 ^ (8 * j)), Nat.mul_assoc]
      rw [e]
      have hs : ∀ x y : Nat, 256 * (x ^^^ y) = (256 * x) ^^^ (256 * y) := fun x y => by
        have := Nat.shiftLeft_xor_distrib (a := x) (b := y) (i := 8)
        simp only [Nat.shiftLeft_eq] at this
        rw [Nat.mul_comm 256, Nat.mul_comm 256, Nat.mul_comm 256]
        exact this
      exact hs _ _
/-- The bits so far, and one more. -/
theorem bits_snoc (B i : Nat) : B % 2 ^ (i + 1) = (B % 2 ^ i) ^^^ (2 ^ i * (B / 2 ^ i % 2)) := by
  have h := Crc.split_xor i (B % 2 ^ (i + 1))
  rw [h, Nat.xor_comm]
  congr 1
  · rw [Nat.mod_mod_of_dvd]; exact Nat.pow_dvd_pow 2 (by omega)
  · congr 1
    rw [Nat.pow_succ, Nat.mod_mul_right_div_self]
theorem flip_bit (p i : Nat) : 2 ^ p * 2 ^ i = 2 ^ (8 * ((p + i) / 8)) * 2 ^ ((p + i) % 8) := by
  rw [← Nat.pow_add, ← Nat.pow_add]
  congr 1
  omega
theorem mul_xor (p x y : Nat) : 2 ^ p * (x ^^^ y) = (2 ^ p * x) ^^^ (2 ^ p * y) := by
  have := Nat.shiftLeft_xor_distrib (a := x) (b := y) (i := p)
  simp only [Nat.shiftLeft_eq] at this
  rw [Nat.mul_comm (2 ^ p), Nat.mul_comm (2 ^ p), Nat.mul_comm (2 ^ p)]
  exact this
/-- the place where the change begins -/
theorem place512 (a : Int) : ∃ p : Nat, p < 512 ∧ (a.tmod 512 + 512).tmod 512 = (p : Int) := by
  have h1 := Int.lt_tmod_of_pos a (show (0 : Int) < 512 by omega)
  have h2 := Int.tmod_lt_of_pos a (show (0 : Int) < 512 by omega)
  refine ⟨((a.tmod 512 + 512) % 512).toNat, by omega, ?_⟩
  rw [Int.tmod_eq_emod_of_nonneg (by omega)]
  omega
theorem bits_or_one (x : Nat) (hx : x < 4294967296) : bits .or .u32 (x : Int) 1 = ((x ||| 1 : Nat) : Int) := u32_or_nat x 1 hx (by omega)

theorem own_rw {w : World} {base g c : Nat} {bs : List Nat} (h : w.ownsRow base 5 1 (.slice (some ⟨g, 0, none⟩) bs.length c) bs.length (vals bs)) : Rw w g bs := by
  rcases h.2 with ⟨h, _⟩ | ⟨g', cap, cur, he, _, hh, _, _, _, ht⟩
  · cases h
  · cases he
    exact ⟨cur, hh, by rw [Nat.mul_one] at ht; exact ht⟩
theorem bit_one (B k : Nat) (hB : B < 4294967296) (h : B / 2 ^ k % 2 = 1) : (bits .and .u32 ((B : Int) / 2 ^ k) 1 == 1) = true := by
  have e : (B : Int) / 2 ^ k = ((B / 2 ^ k : Nat) : Int) := by push_cast; rfl
  rw [e]
  exact one_eq _ (Nat.lt_of_le_of_lt (Nat.div_le_self _ _) hB) h
theorem bit_one' (B k : Nat) (hB : B < 4294967296) (h : ¬ B / 2 ^ k % 2 = 1) : (bits .and .u32 ((B : Int) / 2 ^ k) 1 == 1) = false := by
  have e : (B : Int) / 2 ^ k = ((B / 2 ^ k : Nat) : Int) := by push_cast; rfl
  rw [e]
  exact one_eq' _ (Nat.lt_of_le_of_lt (Nat.div_le_self _ _) hB) h
/-- What the loop has done behind k rounds. -/
def Bst (sb : List Nat) (p B g k : Nat) (w2 wr : World) : Prop :=
  ∃ cur : List Nat, cur.length = sb.length ∧ (∀ x ∈ cur, x < 256) ∧ Crc.le cur = Crc.le sb ^^^ (2 ^ p * (B % 2 ^ k)) ∧ Rw wr g cur ∧ w2.grownBy wr (some g)

theorem Bst.next {sb cur : List Nat} {p B g k J z Q : Nat} {w2 wr : World} (hcl : cur.length = sb.length) (hcb : ∀ x ∈ cur, x < 256) (hle : Crc.le cur = Crc.le sb ^^^ (2 ^ p * (B % 2 ^ k))) (hrw : Rw wr g cur) (hon : w2.grownBy wr (some g))
    (hbit : B / 2 ^ k % 2 = 1) (hJ : (p + k) / 8 = J) (hQ : 2 ^ ((p + k) % 8) = Q) (hQ2 : Q < 256) (hJl : J < cur.length) (hz : cur.getD J 0 = z) :
    Bst sb p B g (k + 1) w2 ((wr.setCell ⟨g, J, none⟩ (.int .u8 ((z ^^^ Q : Nat) : Int))).drew) := by
  have hz2 : z < 256 := by rw [← hz, getD_at _ _ hJl]; exact hcb _ (List.getElem_mem hJl)
  refine ⟨cur.set J (z ^^^ Q), by rw [List.length_set, hcl], fun x hx => ?_, ?_, hrw.set_, ?_⟩
  · rcases List.mem_or_eq_of_mem_set hx with h | rfl
    · exact hcb x h
    · exact u8_xor_lt z Q hz2 hQ2
  · rw [← hz, le_set cur J Q hJl hcb hQ2, hle, bits_snoc, hbit, Nat.mul_one, mul_xor, flip_bit, hJ, hQ, Nat.xor_assoc]
  · have h := only_set (j := J) hon (.int .u8 ((z ^^^ Q : Nat) : Int))
    exact ⟨h.os, h.tape, h.output, h.size, h.block⟩
theorem Bst.skip {sb : List Nat} {p B g k : Nat} {w2 wr : World} (h : Bst sb p B g k w2 wr) (hbit : ¬ B / 2 ^ k % 2 = 1) : Bst sb p B g (k + 1) w2 wr := by
  obtain ⟨cur, hcl, hcb, hle, hrw, hon⟩ := h
  have h0 : B / 2 ^ k % 2 = 0 := by omega
  exact ⟨cur, hcl, hcb, by rw [hle, bits_snoc, h0, Nat.mul_zero, Nat.xor_zero], hrw, hon⟩
theorem pow_small (j : Nat) (h : j < 8) : 2 ^ j < 256 ∧ (2 : Int) ^ j % 256 = ((2 ^ j : Nat) : Int) := by
  have h1 : 2 ^ j < 2 ^ 8 := Nat.pow_lt_pow_right (by omega) h
  have h2 : ((2 ^ j : Nat) : Int) = (2 : Int) ^ j := by push_cast; rfl
  refine ⟨h1, ?_⟩
  rw [← h2]
  clear h2
  generalize 2 ^ j = q at h1 ⊢
  omega

/-- Behind one round and more the bytes are sealed no longer. -/
theorem Bst.bad {sb : List Nat} {p B g k : Nat} {w2 wr : World} (h : Bst sb p B g k w2 wr) (hs : ∀ x ∈ sb, x < 256) (hB : B < 4294967296) (hodd : B % 2 = 1) (hk : 1 ≤ k) (hp : p ≤ 8 * sb.length) (hse : Crc.isSealed sb = true) :
    ∃ cur : List Nat, cur.length = sb.length ∧ (∀ x ∈ cur, x < 256) ∧ Rw wr g cur ∧ w2.grownBy wr (some g) ∧ Crc.isSealed cur = false := by
  obtain ⟨cur, hcl, hcb, hle, hrw, hon⟩ := h
  refine ⟨cur, hcl, hcb, hrw, hon, Crc.burst hs hcb hcl.symm (B % 2 ^ k) p ?_ (Nat.lt_of_le_of_lt (Nat.mod_le _ _) hB) hp hle hse⟩
  have h1 : B % 2 ^ k % 2 = B % 2 := Nat.mod_mod_of_dvd B (by
    have := Nat.pow_dvd_pow 2 hk
    simpa using this)
  omega
theorem row_below {w w' : World} {base size n : Nat} {e : TypeId} {v : Value} {xs : List Value} (h : w.ownsRow base e size v n xs) (hb : Below w.heap.size w w') : w'.ownsRow base e size v n xs := by
  obtain ⟨h1, h2⟩ := h
  refine ⟨h1, ?_⟩
  rcases h2 with h2 | ⟨g, cap, cur, hv, hg, hh, r⟩
  · exact Or.inl h2
  · refine Or.inr ⟨g, cap, cur, hv, hg, (hb.block g ?_).trans hh, r⟩
    rcases Nat.lt_or_ge g w.heap.size with h | h
    · exact h
    · rw [Array.getElem?_eq_none h] at hh; cases hh
/-- a slice of bytes of one's own: its block -/
theorem Own.row_ {w : World} {base : Nat} {bs : List Nat} {v : Value} (h : Own w base bs v) (hb : ∀ x ∈ bs, x < 256) (hn : 0 < bs.length) :
    ∃ g c, v = .slice (some ⟨g, 0, none⟩) bs.length c ∧ Rw w g bs ∧ bs.length ≤ c ∧ c ≤ maxLen ∧ base ≤ g ∧ g < w.heap.size := by
  rcases h.2 with ⟨_, h0⟩ | ⟨g, cap, cur, rfl, hg, hh, hle, hc, _, ht⟩
  · omega
  have hlt : g < w.heap.size := by
    rcases Nat.lt_or_ge g w.heap.size with h | h
    · exact h
    · rw [Array.getElem?_eq_none h] at hh; cases hh
  exact ⟨g, cap, rfl, ⟨cur, hh, by rw [Nat.mul_one] at ht; exact ht⟩, hle, hc, hg, hlt⟩
end Go.Proofs.YtehkohnpfbdngaaDoor
