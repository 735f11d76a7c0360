/-
  Homes and superblocks on a disk, as plain data: their bytes, what a sector is read as.
-/
import Derived.Test.YtgkbhdecohlpmaaCrc
import Derived.Test.YtgkbhdecohlpmaaDkCrash
namespace Go.Proofs.Ytgkbhdecohlpmaa
set_option maxRecDepth 100000
open Go.RowKit

/-! ### numbers, the lowest byte first -/
def numH (n : Nat) : Nat → List Nat
  | 0 => []
  | k + 1 => n % 256 :: numH (n / 256) k
theorem numH_len (k : Nat) : ∀ n, (numH n k).length = k := by
  induction k with
  | zero => intro n; rfl
  | succ k ih => intro n; rw [numH, List.length_cons, ih]
theorem numH_lt (k : Nat) : ∀ n, ∀ b ∈ numH n k, b < 256 := by
  induction k with
  | zero => intro n b h; simp [numH] at h
  | succ k ih =>
    intro n b h
    rcases List.mem_cons.1 h with rfl | h
    · exact Nat.mod_lt _ (by omega)
    · exact ih _ b h
theorem numH_le (k : Nat) : ∀ n, n < 256 ^ k → Crc.le (numH n k) = n := by
  induction k with
  | zero => intro n h; rw [Nat.pow_zero] at h; simp [numH, Crc.le]; omega
  | succ k ih =>
    intro n h
    rw [numH, Crc.le, ih (n / 256) (by rw [Nat.pow_succ] at h; exact Nat.div_lt_of_lt_mul (by rw [Nat.mul_comm]; exact h))]
    omega

/-! ### superblocks -/
structure Sup where
  gen : Int
  tail : Int
  owned : Int
  inc : Int
  bound : Int
  map : List Int
deriving DecidableEq
def Sup.ints (s : Sup) : List Int := s.gen :: s.tail :: s.owned :: s.inc :: s.bound :: s.map
/-- its cells -/
def Sup.cells (s : Sup) : Array Value := (s.ints.map fun z => Value.int .i64 z).toArray
def Sup.Fine (s : Sup) : Prop := s.map.length = 8 ∧ ∀ z ∈ s.ints, -9223372036854775808 ≤ z ∧ z ≤ 9223372036854775807
/-- P9.2: may it be? -/
def mayP (s : Sup) : Prop := (0 ≤ s.gen ∧ s.gen ≤ 1099511627776) ∧ (1 ≤ s.tail ∧ s.tail ≤ 1099511627776) ∧ (0 ≤ s.owned ∧ s.owned < 256) ∧ (0 ≤ s.inc ∧ s.inc ≤ 1048576) ∧ (1 ≤ s.bound ∧ s.bound ≤ 1048577) ∧ ∀ z ∈ s.map, 0 ≤ z ∧ z ≤ 4
instance (s : Sup) : Decidable (mayP s) := by unfold mayP; infer_instance
def zeros8 : List Int := List.replicate 8 0
def firstS : Sup := ⟨0, 1, 0, 0, 1, zeros8⟩
def zeroS : Sup := ⟨0, 0, 0, 0, 0, zeros8⟩
/-- its bytes -/
def supB (s : Sup) : List Nat := numH s.gen.toNat 6 ++ (numH s.tail.toNat 6 ++ (numH s.owned.toNat 1 ++ (numH s.inc.toNat 3 ++ (numH s.bound.toNat 3 ++ s.map.flatMap fun z => numH z.toNat 1))))
def supOf (b : List Nat) : Sup := ⟨(Crc.le (b.take 6) : Nat), (Crc.le ((b.drop 6).take 6) : Nat), (Crc.le ((b.drop 12).take 1) : Nat), (Crc.le ((b.drop 13).take 3) : Nat), (Crc.le ((b.drop 16).take 3) : Nat), ((b.drop 19).take 8).map fun x => ((x : Nat) : Int)⟩
theorem mapB (l : List Int) : (l.flatMap fun z => numH z.toNat 1) = l.map fun z => z.toNat % 256 := by
  induction l with
  | nil => rfl
  | cons a l ih => rw [List.flatMap_cons, ih]; rfl
theorem supB_len {s : Sup} (h : s.map.length = 8) : (supB s).length = 27 := by
  unfold supB
  rw [mapB]
  simp only [List.length_append, numH_len, List.length_map, h]
theorem supB_lt (s : Sup) : ∀ b ∈ supB s, b < 256 := by
  intro b h
  unfold supB at h
  simp only [List.mem_append, mapB, List.mem_map] at h
  rcases h with h | h | h | h | h | ⟨z, _, rfl⟩
  · exact numH_lt _ _ b h
  · exact numH_lt _ _ b h
  · exact numH_lt _ _ b h
  · exact numH_lt _ _ b h
  · exact numH_lt _ _ b h
  · exact Nat.mod_lt _ (by omega)
theorem take_front {α : Type} {a b : List α} {n : Nat} (h : a.length = n) : (a ++ b).take n = a := by rw [← h]; simp
theorem drop_front {α : Type} {a b : List α} {n m : Nat} (h : a.length = n) : (a ++ b).drop (n + m) = b.drop m := by
  rw [← h, List.drop_append, List.drop_of_length_le (by omega), List.nil_append]
  congr 1; omega
theorem sup_back {s : Sup} (h : mayP s) (hm : s.map.length = 8) : supOf (supB s) = s := by
  obtain ⟨h1, h2, h3, h4, h5, h6⟩ := h
  have e1 : ((supB s).take 6) = numH s.gen.toNat 6 := take_front (numH_len _ _)
  have d1 : ∀ m, (supB s).drop (6 + m) = (numH s.tail.toNat 6 ++ (numH s.owned.toNat 1 ++ (numH s.inc.toNat 3 ++ (numH s.bound.toNat 3 ++ s.map.flatMap fun z => numH z.toNat 1)))).drop m := fun m => drop_front (numH_len _ _)
  have e2 : ((supB s).drop 6).take 6 = numH s.tail.toNat 6 := by rw [show 6 = 6 + 0 from rfl, d1, List.drop_zero]; exact take_front (numH_len _ _)
  have e3 : ((supB s).drop 12).take 1 = numH s.owned.toNat 1 := by rw [show 12 = 6 + (6 + 0) from rfl, d1, drop_front (numH_len _ _), List.drop_zero]; exact take_front (numH_len _ _)
  have e4 : ((supB s).drop 13).take 3 = numH s.inc.toNat 3 := by rw [show 13 = 6 + (6 + (1 + 0)) from rfl, d1, drop_front (numH_len _ _), drop_front (numH_len _ _), List.drop_zero]; exact take_front (numH_len _ _)
  have e5 : ((supB s).drop 16).take 3 = numH s.bound.toNat 3 := by rw [show 16 = 6 + (6 + (1 + (3 + 0))) from rfl, d1, drop_front (numH_len _ _), drop_front (numH_len _ _), drop_front (numH_len _ _), List.drop_zero]; exact take_front (numH_len _ _)
  have e6 : ((supB s).drop 19).take 8 = s.map.map fun z => z.toNat % 256 := by
    rw [show 19 = 6 + (6 + (1 + (3 + (3 + 0)))) from rfl, d1, drop_front (numH_len _ _), drop_front (numH_len _ _), drop_front (numH_len _ _), drop_front (numH_len _ _), List.drop_zero, mapB, List.take_of_length_le (by rw [List.length_map, hm]; omega)]
  unfold supOf
  rw [e1, e2, e3, e4, e5, e6, numH_le 6 _ (by omega), numH_le 6 _ (by omega), numH_le 1 _ (by omega), numH_le 3 _ (by omega), numH_le 3 _ (by omega), List.map_map]
  have e7 : s.map.map ((fun x => ((x : Nat) : Int)) ∘ fun z => z.toNat % 256) = s.map := by
    refine (List.map_congr_left fun z hz => ?_).trans (List.map_id _)
    have := h6 z hz
    simp only [Function.comp, id]
    omega
  rw [e7]
  obtain ⟨g, t, o, i, b, m⟩ := s
  simp only at h1 h2 h3 h4 h5 ⊢
  rw [Int.toNat_of_nonneg h1.1, Int.toNat_of_nonneg (by omega), Int.toNat_of_nonneg h3.1, Int.toNat_of_nonneg h4.1, Int.toNat_of_nonneg (by omega)]

/-! ### sealed bytes in a sector -/
def allZ (b : List Nat) : Bool := decide (∀ x ∈ b, x = 0)
/-- the n bytes that are sealed in a sector -/
def openH (sec : List Nat) (n : Nat) : Option (List Nat) := if allZ (sec.drop (n + 4)) = true ∧ Crc.isSealed (sec.take (n + 4)) = true then some (sec.take n) else none
theorem open_sealed {b : List Nat} {n : Nat} (h : b.length = n) (hn : n + 4 ≤ 64) : openH (Dk.padded (Crc.sealed b)) n = some b := by
  have hl : (Crc.sealed b).length = n + 4 := by rw [Crc.sealed_length, h]
  unfold openH Dk.padded
  rw [take_front hl, List.drop_append, List.drop_of_length_le (by omega), List.nil_append, Crc.isSealed_sealed]
  rw [if_pos ⟨by unfold allZ; rw [decide_eq_true_eq]; intro x hx; exact (List.mem_replicate.1 (List.mem_of_mem_drop hx)).2, rfl⟩]
  rw [List.take_append_of_le_length (by omega)]
  unfold Crc.sealed
  rw [take_front h]
theorem open_zero : openH (List.replicate 64 0) 27 = none := by decide +kernel
theorem open_x : openH (Dk.padded [120]) 27 = none := by decide +kernel
theorem allZ_zero : allZ (List.replicate 64 0) = true := by decide +kernel
theorem allZ_x : allZ (Dk.padded [120]) = false := by decide +kernel

/-! ### a home -/
def homeB (l : List (List Nat)) : List Nat := Crc.sealed l.flatten
def cut8 (b : List Nat) : Nat → List (List Nat)
  | 0 => []
  | k + 1 => b.take 8 :: cut8 (b.drop 8) k
def blocks0 : List (List Nat) := List.replicate 4 (List.replicate 8 0)
/-- P9.1: what a home's sector is read as -/
def readHm (sec : List Nat) : Option (List (List Nat)) := if allZ sec = true then some blocks0 else (openH sec 32).map fun b => cut8 b 4
def Four (l : List (List Nat)) : Prop := l.length = 4 ∧ ∀ v ∈ l, v.length = 8 ∧ ∀ z ∈ v, z < 256
theorem cut_flat : ∀ (l : List (List Nat)), (∀ v ∈ l, v.length = 8) → cut8 l.flatten l.length = l := by
  intro l
  induction l with
  | nil => intro _; rfl
  | cons a l ih =>
    intro h
    have ha := h a List.mem_cons_self
    rw [List.length_cons, cut8, List.flatten_cons, take_front ha, show 8 = 8 + 0 from rfl, drop_front ha, List.drop_zero, ih fun v hv => h v (List.mem_cons_of_mem _ hv)]
theorem flat_len8 : ∀ (l : List (List Nat)), (∀ v ∈ l, v.length = 8) → l.flatten.length = 8 * l.length := by
  intro l
  induction l with
  | nil => intro _; rfl
  | cons a l ih =>
    intro h
    rw [List.flatten_cons, List.length_append, ih fun v hv => h v (List.mem_cons_of_mem _ hv), h a List.mem_cons_self, List.length_cons]; omega
theorem home_back {l : List (List Nat)} (h : Four l) : readHm (Dk.padded (homeB l)) = some l := by
  have h8 : ∀ v ∈ l, v.length = 8 := fun v hv => (h.2 v hv).1
  have hf : l.flatten.length = 32 := by rw [flat_len8 l h8, h.1]
  unfold readHm homeB
  by_cases hz : allZ (Dk.padded (Crc.sealed l.flatten)) = true
  · rw [if_pos hz]
    unfold allZ at hz
    rw [decide_eq_true_eq] at hz
    have h0 : ∀ v ∈ l, v = List.replicate 8 0 := fun v hv => by
      rw [List.eq_replicate_iff]
      refine ⟨h8 v hv, fun x hx => hz x ?_⟩
      unfold Dk.padded Crc.sealed
      exact List.mem_append_left _ (List.mem_append_left _ (List.mem_flatten.2 ⟨v, hv, hx⟩))
    have : l = blocks0 := by unfold blocks0; rw [List.eq_replicate_iff]; exact ⟨h.1, h0⟩
    rw [this]
  · rw [if_neg hz, open_sealed hf (by omega), Option.map_some]
    have := cut_flat l h8
    rw [h.1] at this
    rw [this]
theorem homeB_len {l : List (List Nat)} (h : Four l) : (homeB l).length = 36 := by
  unfold homeB
  rw [Crc.sealed_length, flat_len8 l fun v hv => (h.2 v hv).1, h.1]
theorem homeB_lt {l : List (List Nat)} (h : Four l) : ∀ x ∈ homeB l, x < 256 := Crc.sealed_lt fun x hx => by
  obtain ⟨v, hv, hx⟩ := List.mem_flatten.1 hx
  exact (h.2 v hv).2 x hx
/-- a home of which a byte is changed -/
theorem home_torn {l : List (List Nat)} (h : Four l) (i x : Nat) (hi : i < 64) (hx0 : x ≠ 0) (hx : x < 256) (sec : List Nat) (hs : sec = (Dk.padded (homeB l)).set i (((Dk.padded (homeB l)).getD i 0) ^^^ x)) : readHm sec = none ∨ readHm sec = some blocks0 := by
  have hl := homeB_len h
  have hP : (Dk.padded (homeB l)).length = 64 := by unfold Dk.padded; simp [hl]
  unfold readHm
  by_cases hz : allZ sec = true
  · rw [if_pos hz]; exact Or.inr rfl
  rw [if_neg hz]
  refine Or.inl ?_
  have key : openH sec 32 = none := by
    unfold openH
    rw [if_neg ?_]
    rintro ⟨h1, h2⟩
    by_cases hi2 : i < 36
    · have e1 : sec.take 36 = (homeB l).set i ((homeB l).getD i 0 ^^^ x) := by
        rw [hs, List.take_set]
        unfold Dk.padded
        rw [take_front hl]
        congr 2
        rw [List.getD_eq_getElem?_getD, List.getD_eq_getElem?_getD, List.getElem?_append_left (by omega)]
      have hlt := homeB_lt h
      have hget : (homeB l)[i]? = some ((homeB l).getD i 0) := by rw [List.getD_eq_getElem?_getD, List.getElem?_eq_getElem (by omega)]; rfl
      have hv : (homeB l).getD i 0 < 256 := hlt _ (List.mem_of_getElem? hget)
      generalize hg : (homeB l).getD i 0 = v at *
      have hsplit : homeB l = (homeB l).take i ++ (v :: (homeB l).drop (i + 1)) := by
        have h3 : (homeB l)[i]'(by omega) = v := by have h4 := List.getElem?_eq_some_iff.1 hget; exact h4.2
        rw [← h3, List.getElem_cons_drop, List.take_append_drop]
      have hset : (homeB l).set i (v ^^^ x) = (homeB l).take i ++ ((v ^^^ x) :: (homeB l).drop (i + 1)) := by
        rw [List.set_eq_take_append_cons_drop, if_pos (by omega)]
      have hti : ((homeB l).take i).length = i := by rw [List.length_take]; omega
      have hne : v ^^^ x < 256 := Nat.xor_lt_two_pow (n := 8) hv hx
      have hb : Crc.isSealed ((homeB l).set i (v ^^^ x)) = false := by
        refine Crc.burst (s := homeB l) (e := x) (at_ := 8 * i) hlt ?_ (by rw [List.length_set]) hx0 (by omega) (by omega) ?_ (Crc.isSealed_sealed _)
        · intro b hb
          rcases List.mem_or_eq_of_mem_set hb with hb | rfl
          · exact hlt b hb
          · exact hne
        · rw [hset]
          conv => rhs; rw [hsplit]
          rw [Crc.le_append, Crc.le_append, hti]
          simp only [Crc.le]
          generalize Crc.le ((homeB l).drop (i + 1)) = R
          generalize hA : Crc.le ((homeB l).take i) = A
          have hAlt : A < 2 ^ (8 * i) := by
            have := Crc.le_lt (bs := (homeB l).take i) fun b hb => hlt b (List.mem_of_mem_take hb)
            rw [hti, hA] at this; exact this
          have q : ∀ y : Nat, A + 2 ^ (8 * i) * y = (2 ^ (8 * i) * y) ^^^ A := fun y => by
            have h5 := Crc.split_xor (8 * i) (A + 2 ^ (8 * i) * y)
            rw [Nat.add_mul_div_left _ _ (Nat.two_pow_pos _), Nat.div_eq_of_lt hAlt, Nat.zero_add, Nat.add_mul_mod_self_left, Nat.mod_eq_of_lt hAlt] at h5
            exact h5
          rw [q, q, Crc.add_shift _ _ hne, Crc.add_shift _ _ hv]
          have m : ∀ a b : Nat, 2 ^ (8 * i) * (a ^^^ b) = (2 ^ (8 * i) * a) ^^^ (2 ^ (8 * i) * b) := fun a b => by
            simp only [Nat.mul_comm (2 ^ (8 * i)), ← Nat.shiftLeft_eq, Nat.shiftLeft_xor_distrib]
          simp only [m]
          generalize 2 ^ (8 * i) * v = a1
          generalize 2 ^ (8 * i) * x = a2
          generalize 2 ^ (8 * i) * (256 * R) = a3
          rw [Nat.xor_assoc a1 a2 a3, Nat.xor_comm a2 a3, ← Nat.xor_assoc a1 a3 a2, Nat.xor_assoc (a1 ^^^ a3) a2 A, Nat.xor_comm a2 A, ← Nat.xor_assoc (a1 ^^^ a3) A a2]
      rw [show 32 + 4 = 36 from rfl, e1, hb] at h2
      cases h2
    · have h6 : sec[i]? = some x := by
        have h7 : (Dk.padded (homeB l)).getD i 0 = 0 := by
          unfold Dk.padded
          rw [List.getD_eq_getElem?_getD, List.getElem?_append_right (by omega), List.getElem?_replicate]
          split <;> rfl
        rw [hs, h7, Nat.zero_xor, List.getElem?_set_self (by omega)]
      unfold allZ at h1
      rw [decide_eq_true_eq] at h1
      refine hx0 (h1 x ?_)
      have h8 : (sec.drop 36)[i - 36]? = some x := by rw [List.getElem?_drop, show 36 + (i - 36) = i by omega, h6]
      exact List.mem_of_getElem? h8
  rw [key]; rfl

/-! ### the superblock of a disk -/
def readSp (i : Int) (sec : List Nat) : Option Sup := match openH sec 27 with
  | some b => if mayP (supOf b) ∧ (supOf b).gen % 2 = i then some (supOf b) else none
  | none => none
/-- P9.2: the superblock of two sectors, or none -/
def getSp (s0 s1 : List Nat) : Option Sup := match readSp 0 s0, readSp 1 s1 with
  | some x, some y => if x.gen < y.gen then some y else some x
  | some x, none => some x
  | none, some y => some y
  | none, none => if allZ s0 = true ∧ allZ s1 = true then some firstS else none
def supSec (s : Sup) : List Nat := Dk.padded (Crc.sealed (supB s))
theorem read_sup {s : Sup} (h : mayP s) (hm : s.map.length = 8) (i : Int) (hi : s.gen % 2 = i) : readSp i (supSec s) = some s := by
  unfold readSp supSec
  rw [open_sealed (supB_len hm) (by omega)]
  simp only [sup_back h hm]
  rw [if_pos ⟨h, hi⟩]
theorem read_zero (i : Int) : readSp i (List.replicate 64 0) = none := by
  unfold readSp
  rw [open_zero]
theorem read_x (i : Int) : readSp i (Dk.padded [120]) = none := by
  unfold readSp
  rw [open_x]
theorem get_first : getSp (List.replicate 64 0) (List.replicate 64 0) = some firstS := by
  unfold getSp
  rw [read_zero, read_zero]
  simp only
  rw [if_pos ⟨allZ_zero, allZ_zero⟩]
theorem get_spoilt : getSp (Dk.padded [120]) (Dk.padded [120]) = none := by
  unfold getSp
  rw [read_x, read_x]
  simp only
  rw [if_neg (by rw [allZ_x]; simp)]
end Go.Proofs.Ytgkbhdecohlpmaa
