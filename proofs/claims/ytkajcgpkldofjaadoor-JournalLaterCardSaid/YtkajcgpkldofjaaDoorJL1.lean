/-
  Texts Crc, Base, FmFr, Parts, FmMay, FmAllMay, Num, Put, FmHead, FmLoad, Bits, Halves, Ref, Sum, FmCut, FmEqual, FmJoin, Lowest, Seal, FmBytes, Get, joined.
-/
import Derived.Test.YtkajcgpkldofjaaDoorRows
import Derived.WalkKit
import Derived.WalkLawsBesides
import Derived.WalkSpells
import Derived.Lib.Hide
import Derived.Laws.CopyOwn
import Derived.Laws.AppendOwnNone
import Derived.Maps.RangeWalk
import Derived.Maps.OwnSet
import Derived.Maps.OwnOps
import Derived.Maps.AppendAt
import Derived.Deep.RegionHeld3
import Derived.Deep.DeepCutAuto
import Derived.Deep.LoopGhost
import Derived.Deep.OwnRows
import Derived.Lib.Strings
import Derived.Deep.RegionLaw
import Derived.Deep.RegionLawGrows
set_option linter.all false
section
/-
  Plain mathematics of layer 1: one step of the remainder on natural numbers, its linearity, the sum of bytes, the table of half bytes, changes within 32 bits.
-/
namespace Go.Proofs.YtkajcgpkldofjaaDoor.Crc

/-- one bit of the remainder -/
def sh (x : Nat) : Nat := if x % 2 = 1 then (x / 2) ^^^ 3988292384 else x / 2
/-- n bits -/
def shn : Nat → Nat → Nat
  | 0, x => x
  | n + 1, x => shn n (sh x)

theorem xor_mod2 (x y : Nat) : (x ^^^ y) % 2 = (x % 2 + y % 2) % 2 := by
  have h : (x ^^^ y) % 2 ^ 1 = (x % 2 ^ 1) ^^^ (y % 2 ^ 1) := Nat.xor_mod_two_pow
  simp only [Nat.pow_one] at h
  rw [h]
  rcases Nat.mod_two_eq_zero_or_one x with a | a <;> rcases Nat.mod_two_eq_zero_or_one y with b | b <;> rw [a, b] <;> rfl
theorem xor_half (x y : Nat) : (x ^^^ y) / 2 = (x / 2) ^^^ (y / 2) := by
  have h : (x ^^^ y) / 2 ^ 1 = (x / 2 ^ 1) ^^^ (y / 2 ^ 1) := Nat.xor_div_two_pow
  simpa only [Nat.pow_one] using h
theorem sh_xor (x y : Nat) : sh (x ^^^ y) = sh x ^^^ sh y := by
  unfold sh
  rw [xor_mod2, xor_half]
  rcases Nat.mod_two_eq_zero_or_one x with a | a <;> rcases Nat.mod_two_eq_zero_or_one y with b | b <;> rw [a, b]
  · simp
  · simp [Nat.xor_assoc]
  · simp [Nat.xor_assoc, Nat.xor_comm (y / 2)]
  · simp only [Nat.reduceAdd, Nat.mod_self, Nat.reduceEqDiff, if_false, if_true]
    rw [Nat.xor_assoc, Nat.xor_comm 3988292384, Nat.xor_assoc, Nat.xor_self, Nat.xor_zero]
theorem sh_lt {x : Nat} (h : x < 4294967296) : sh x < 4294967296 := by
  unfold sh
  split
  · exact Nat.xor_lt_two_pow (n := 32) (by omega) (by decide)
  · omega
theorem sh_zero_iff {x : Nat} (h : sh x = 0) : x = 0 ∨ 4294967296 ≤ x := by
  unfold sh at h
  split at h
  · have : x / 2 = 3988292384 := by
      have e := congrArg (· ^^^ 3988292384) h
      simpa [Nat.xor_assoc] using e
    omega
  · omega
theorem shn_xor (n : Nat) : ∀ x y, shn n (x ^^^ y) = shn n x ^^^ shn n y := by
  induction n with
  | zero => intro x y; rfl
  | succ n ih => intro x y; simp only [shn]; rw [sh_xor, ih]
theorem shn_lt (n : Nat) : ∀ {x}, x < 4294967296 → shn n x < 4294967296 := by
  induction n with
  | zero => intro x h; exact h
  | succ n ih => intro x h; exact ih (sh_lt h)
theorem shn_add (m n : Nat) : ∀ x, shn (m + n) x = shn n (shn m x) := by
  induction m with
  | zero => intro x; rw [Nat.zero_add]; rfl
  | succ m ih => intro x; rw [Nat.succ_add]; exact ih _
theorem shn_succ (n x : Nat) : shn (n + 1) x = sh (shn n x) := by rw [shn_add]; rfl
theorem shn_zero (n : Nat) : shn n 0 = 0 := by
  induction n with
  | zero => rfl
  | succ n ih => exact ih
/-- a nonzero remainder stays one -/
theorem shn_ne (n : Nat) : ∀ {x}, x < 4294967296 → x ≠ 0 → shn n x ≠ 0 := by
  induction n with
  | zero => intro x _ h; exact h
  | succ n ih =>
    intro x hx h
    refine ih (sh_lt hx) fun e => ?_
    rcases sh_zero_iff e with e | e <;> omega
/-- bits that have not come to the lowest place yet -/
theorem shn_pow (n : Nat) : ∀ y, shn n (2 ^ n * y) = y := by
  induction n with
  | zero => intro y; simp [shn]
  | succ n ih =>
    intro y
    have e : 2 ^ (n + 1) * y = 2 * (2 ^ n * y) := by rw [Nat.pow_succ, Nat.mul_comm (2 ^ n) 2, Nat.mul_assoc]
    show shn n (sh (2 ^ (n + 1) * y)) = y
    have h : sh (2 ^ (n + 1) * y) = 2 ^ n * y := by
      rw [e]; unfold sh; rw [if_neg (by omega)]; omega
    rw [h]; exact ih y
theorem split_xor (n x : Nat) : x = (2 ^ n * (x / 2 ^ n)) ^^^ (x % 2 ^ n) := by
  refine Nat.eq_of_testBit_eq fun i => ?_
  rw [Nat.testBit_xor, Nat.testBit_two_pow_mul, Nat.testBit_mod_two_pow, Nat.testBit_div_two_pow]
  by_cases h : i < n
  · have : ¬ n ≤ i := by omega
    simp [h, this]
  · have : n ≤ i := by omega
    simp [h, this]
/-- n bits at once: the lowest n by the table, the others shifted -/
theorem shn_split (n x : Nat) : shn n x = (x / 2 ^ n) ^^^ shn n (x % 2 ^ n) := by
  conv => lhs; rw [split_xor n x]
  rw [shn_xor, shn_pow]
/-- the table of half bytes -/
def half (h : Nat) : Nat := shn 4 h
theorem nibble (x : Nat) : shn 4 x = (x / 16) ^^^ half (x % 16) := shn_split 4 x
theorem half_lt {h : Nat} (hh : h < 16) : half h < 4294967296 := shn_lt 4 (by omega)

/-- a byte more -/
def upd (r b : Nat) : Nat := shn 8 (r ^^^ b)
theorem upd_lt {r b : Nat} (hr : r < 4294967296) (hb : b < 256) : upd r b < 4294967296 := shn_lt 8 (Nat.xor_lt_two_pow (n := 32) hr (by omega))
theorem upd_two (r b : Nat) : upd r b = shn 4 (shn 4 (r ^^^ b)) := shn_add 4 4 _
/-- bytes -/
def rem (r : Nat) (bs : List Nat) : Nat := bs.foldl upd r
theorem rem_lt {bs : List Nat} (hb : ∀ b ∈ bs, b < 256) : ∀ {r}, r < 4294967296 → rem r bs < 4294967296 := by
  induction bs with
  | nil => intro r h; exact h
  | cons a l ih =>
    intro r h
    exact ih (fun b hm => hb b (List.mem_cons_of_mem _ hm)) (upd_lt h (hb a List.mem_cons_self))
theorem rem_append (r : Nat) (a b : List Nat) : rem r (a ++ b) = rem (rem r a) b := List.foldl_append
theorem rem_snoc (r : Nat) (a : List Nat) (b : Nat) : rem r (a ++ [b]) = upd (rem r a) b := rem_append r a [b]
/-- all bits turned about -/
def neg (x : Nat) : Nat := 4294967295 ^^^ x
theorem neg_lt {x : Nat} (h : x < 4294967296) : neg x < 4294967296 := Nat.xor_lt_two_pow (n := 32) (by decide) h
theorem xor_twice (a x : Nat) : a ^^^ (a ^^^ x) = x := by rw [← Nat.xor_assoc, Nat.xor_self, Nat.zero_xor]
theorem neg_def (x : Nat) : neg x = 4294967295 ^^^ x := by rw [neg]
theorem neg_neg (x : Nat) : neg (neg x) = x := by rw [neg_def (neg x), neg_def x, xor_twice]
/-- P1.1: Join, Sum -/
def join (s : Nat) (bs : List Nat) : Nat := neg (rem (neg s) bs)
def sum (bs : List Nat) : Nat := join 0 bs
theorem join_lt {s : Nat} {bs : List Nat} (hs : s < 4294967296) (hb : ∀ b ∈ bs, b < 256) : join s bs < 4294967296 := neg_lt (rem_lt hb (neg_lt hs))
theorem sum_lt {bs : List Nat} (hb : ∀ b ∈ bs, b < 256) : sum bs < 4294967296 := join_lt (by omega) hb
theorem join_append (s : Nat) (a b : List Nat) : join (join s a) b = join s (a ++ b) := by
  unfold join; rw [neg_neg, rem_append]
theorem rem_nil (r : Nat) : rem r [] = r := rfl
theorem join_nil (s : Nat) : join s [] = s := by unfold join; rw [rem_nil, neg_neg]
/-- the sum's bytes, the lowest first -/
def tail (s : Nat) : List Nat := [s % 256, s / 256 % 256, s / 65536 % 256, s / 16777216 % 256]
def sealed (bs : List Nat) : List Nat := bs ++ tail (sum bs)
theorem tail_lt (s : Nat) : ∀ b ∈ tail s, b < 256 := by
  intro b hb
  simp only [tail, List.mem_cons, List.not_mem_nil, or_false] at hb
  rcases hb with rfl | rfl | rfl | rfl <;> omega
theorem sealed_lt {bs : List Nat} (hb : ∀ b ∈ bs, b < 256) : ∀ b ∈ sealed bs, b < 256 := by
  intro b hm
  rcases List.mem_append.1 hm with h | h
  · exact hb b h
  · exact tail_lt _ b h
theorem sealed_length (bs : List Nat) : (sealed bs).length = bs.length + 4 := by simp [sealed, tail]
/-- whether bytes are sealed -/
def isSealed (bs : List Nat) : Bool := decide (4 ≤ bs.length) && decide (bs.drop (bs.length - 4) = tail (sum (bs.take (bs.length - 4))))
theorem isSealed_sealed (bs : List Nat) : isSealed (sealed bs) = true := by
  unfold isSealed
  rw [sealed_length, Nat.add_sub_cancel]
  simp [sealed]

/-- bytes as one number, the lowest first -/
def le : List Nat → Nat
  | [] => 0
  | b :: l => b + 256 * le l
theorem le_lt {bs : List Nat} (hb : ∀ b ∈ bs, b < 256) : le bs < 2 ^ (8 * bs.length) := by
  induction bs with
  | nil => simp [le]
  | cons a l ih =>
    have h1 := ih fun b hm => hb b (List.mem_cons_of_mem _ hm)
    have h2 := hb a List.mem_cons_self
    have e : 2 ^ (8 * (a :: l).length) = 256 * 2 ^ (8 * l.length) := by
      rw [List.length_cons, Nat.mul_add, Nat.pow_add, Nat.mul_comm]
    rw [e]; simp only [le]; omega
theorem add_shift (a m : Nat) (h : a < 256) : a + 256 * m = a ^^^ (256 * m) := by
  have h1 := split_xor 8 (a + 256 * m)
  have h2 : (a + 256 * m) / 2 ^ 8 = m := by show (a + 256 * m) / 256 = m; omega
  have h3 : (a + 256 * m) % 2 ^ 8 = a := by show (a + 256 * m) % 256 = a; omega
  rw [h2, h3, Nat.xor_comm] at h1
  exact h1
/-- the remainder of bytes is that of their number -/
theorem rem_le (bs : List Nat) (hb : ∀ b ∈ bs, b < 256) : ∀ r, rem r bs = shn (8 * bs.length) (r ^^^ le bs) := by
  induction bs with
  | nil => intro r; simp [rem, le, shn]
  | cons a l ih =>
    intro r
    have h1 := ih (fun b hm => hb b (List.mem_cons_of_mem _ hm)) (upd r a)
    have h2 := hb a List.mem_cons_self
    have e : 8 * (a :: l).length = 8 + 8 * l.length := by rw [List.length_cons]; omega
    show rem (upd r a) l = _
    rw [h1, e, shn_add]
    congr 1
    simp only [le]
    rw [add_shift a _ h2, ← Nat.xor_assoc, shn_xor, upd]
    congr 1
    exact (shn_pow 8 (le l)).symm
theorem le_append (a b : List Nat) : le (a ++ b) = le a + 2 ^ (8 * a.length) * le b := by
  induction a with
  | nil => simp [le]
  | cons x l ih =>
    have e : 8 * (x :: l).length = 8 + 8 * l.length := by rw [List.length_cons]; omega
    simp only [List.cons_append, le, ih, e, Nat.pow_add]
    rw [Nat.mul_add, ← Nat.mul_assoc, Nat.add_assoc]
theorem le_tail {s : Nat} (h : s < 4294967296) : le (tail s) = s := by
  simp only [le, tail]; omega
theorem le_inj : ∀ {a b : List Nat}, (∀ x ∈ a, x < 256) → (∀ x ∈ b, x < 256) → a.length = b.length → le a = le b → a = b := by
  intro a
  induction a with
  | nil => intro b _ _ hl _; cases b with
    | nil => rfl
    | cons _ _ => simp at hl
  | cons x l ih =>
    intro b ha hb hl he
    cases b with
    | nil => simp at hl
    | cons y m =>
      have h1 := ha x List.mem_cons_self
      have h2 := hb y List.mem_cons_self
      simp only [le] at he
      have e1 : x = y := by omega
      have e2 : le l = le m := by omega
      rw [e1, ih (fun z hz => ha z (List.mem_cons_of_mem _ hz)) (fun z hz => hb z (List.mem_cons_of_mem _ hz)) (by simpa using hl) e2]

/-- what is left of sealed bytes: always the same -/
def good : Nat := shn 32 4294967295
theorem rem_tail (r : Nat) (s : Nat) (hs : s < 4294967296) : rem r (tail s) = shn 32 (r ^^^ s) := by
  rw [rem_le _ (tail_lt s), le_tail hs]; rfl
theorem good_of_sealed {bs : List Nat} (hb : ∀ b ∈ bs, b < 256) (h : isSealed bs = true) : rem 4294967295 bs = good := by
  unfold isSealed at h
  simp only [Bool.and_eq_true, decide_eq_true_eq] at h
  obtain ⟨_, h⟩ := h
  have hb' : ∀ b ∈ bs.take (bs.length - 4), b < 256 := fun b hm => hb b (List.mem_of_mem_take hm)
  have e : bs = bs.take (bs.length - 4) ++ tail (sum (bs.take (bs.length - 4))) := by rw [← h, List.take_append_drop]
  rw [e, rem_append, rem_tail _ _ (sum_lt hb')]
  have f : ∀ x : Nat, x ^^^ neg x = 4294967295 := fun x => by
    unfold neg; rw [Nat.xor_comm 4294967295, ← Nat.xor_assoc, Nat.xor_self, Nat.zero_xor]
  have g : neg 0 = 4294967295 := by unfold neg; rw [Nat.xor_zero]
  unfold good sum join
  rw [g, f]
/-- P1.3: a change whose bits lie within 32 of one another is told. -/
theorem burst {s t : List Nat} (hs : ∀ b ∈ s, b < 256) (ht : ∀ b ∈ t, b < 256) (hl : s.length = t.length) (e at_ : Nat) (he : e ≠ 0) (he2 : e < 4294967296) (hat : at_ ≤ 8 * s.length)
    (hx : le t = le s ^^^ (2 ^ at_ * e)) (h1 : isSealed s = true) : isSealed t = false := by
  rcases hb : isSealed t with _ | _
  · rfl
  exfalso
  have g1 := good_of_sealed hs h1
  have g2 := good_of_sealed ht hb
  rw [rem_le _ hs] at g1
  rw [rem_le _ ht, hx, ← hl, ← Nat.xor_assoc, shn_xor, g1] at g2
  have h3 : shn (8 * s.length) (2 ^ at_ * e) = 0 := by
    have e := congrArg (good ^^^ ·) g2
    simpa [← Nat.xor_assoc] using e
  obtain ⟨k, hk⟩ := Nat.exists_eq_add_of_le hat
  rw [hk, shn_add, shn_pow] at h3
  exact shn_ne k he2 he h3
end Go.Proofs.YtkajcgpkldofjaaDoor.Crc
end

section
/-
  Bytes in memory, as lists of numbers below 256: what reads, what was made, what stays; strings of them; rows that are written in a loop.
-/
namespace Go.Proofs.YtkajcgpkldofjaaDoor
set_option maxRecDepth 100000
open Go.RowKit

theorem ret_int {k : IntKind} {a b : Int} (h : a = b) : Ending.returned (.int k a) = .returned (.int k b) := by rw [h]
theorem i64_bits (a : Nat) (ha : a < 9223372036854775808) : (BitVec.ofInt 64 (a : Int)).toNat = a := by rw [BitVec.toNat_ofInt]; omega
theorem i64_wraps (x : Nat) (h : x < 9223372036854775808) : IntKind.i64.wrap (x : Int) = (x : Int) := by rw [IntKind.wrap_i64]; omega
theorem i64_and_nat (a b : Nat) (ha : a < 9223372036854775808) (hb : b < 9223372036854775808) : bits .and .i64 (a : Int) (b : Int) = ((a &&& b : Nat) : Int) := by
  show IntKind.i64.wrap ((BitVec.ofInt 64 (a : Int) &&& BitVec.ofInt 64 (b : Int)).toNat : Nat) = _
  rw [BitVec.toNat_and, i64_bits a ha, i64_bits b hb]
  exact i64_wraps _ (Nat.lt_of_le_of_lt Nat.and_le_left ha)
theorem i64_or_nat (a b : Nat) (ha : a < 9223372036854775808) (hb : b < 9223372036854775808) : bits .or .i64 (a : Int) (b : Int) = ((a ||| b : Nat) : Int) := by
  show IntKind.i64.wrap ((BitVec.ofInt 64 (a : Int) ||| BitVec.ofInt 64 (b : Int)).toNat : Nat) = _
  rw [BitVec.toNat_or, i64_bits a ha, i64_bits b hb]
  exact i64_wraps _ (Nat.or_lt_two_pow (n := 63) ha hb)
theorem Tryd.info5 : (Tryd.prog.info? 5).map (fun i => (i.zero, i.size, i.bytes)) = some (some (.int .u8 0), 1, 1) := by kernel_rfl
theorem getD_at (l : List Nat) (k : Nat) (h : k < l.length) : l.getD k 0 = l[k] := by simp [List.getD, h]
theorem add_flat (b off n : Nat) : (⟨b, off, none⟩ : Addr).add n = ⟨b, off + n, none⟩ := by
  unfold Addr.add; split <;> simp_all

/-- The slice at A holds the bytes bs, in a block below B (asked for only where there is a byte). -/
def By (w : World) (B : Nat) (A : Option Addr) (bs : List Nat) : Prop :=
  (∀ x ∈ bs, x < 256) ∧ (0 < bs.length → ∃ b off, A = some ⟨b, off, none⟩ ∧ b < B ∧ ∀ j, j < bs.length → w.cell? ⟨b, off + j, none⟩ = some (.int .u8 (bs.getD j 0 : Nat)))

section
variable {w w' : World} {B B' : Nat} {A : Option Addr} {bs : List Nat}
theorem By.nil_ : By w B A [] := ⟨fun _ h => (List.not_mem_nil h).elim, fun h => absurd h (by simp)⟩
theorem By.keep (h : By w B A bs) (hk : ∀ p : Addr, p.block < B → w'.cell? p = w.cell? p) : By w' B A bs :=
  ⟨h.1, fun hn => by
    obtain ⟨b, off, e, hb, hc⟩ := h.2 hn
    exact ⟨b, off, e, hb, fun j hj => (hk _ hb).trans (hc j hj)⟩⟩
theorem By.mono (h : By w B A bs) (hB : B ≤ B') : By w B' A bs :=
  ⟨h.1, fun hn => by
    obtain ⟨b, off, e, hb, hc⟩ := h.2 hn
    exact ⟨b, off, e, by omega, hc⟩⟩
theorem By.below (h : By w B A bs) (hb : Below B' w w') (hB : B ≤ B') : By w' B A bs := h.keep fun _ hp => hb.cell (by omega)
theorem By.take (h : By w B A bs) (k : Nat) : By w B A (bs.take k) :=
  ⟨fun x hx => h.1 x (List.mem_of_mem_take hx), fun hn => by
    have hl : (bs.take k).length ≤ bs.length := List.length_take_le' _ _
    obtain ⟨b, off, e, hb, hc⟩ := h.2 (by omega)
    refine ⟨b, off, e, hb, fun j hj => ?_⟩
    rw [hc j (by omega)]
    have hj' : j < bs.length := by omega
    rw [getD_at _ _ hj', getD_at _ _ hj, List.getElem_take]⟩
theorem By.drop {c : Nat} (h : By w B A bs) (k : Nat) (hc : bs.length ≤ c) : By w B (if c = k then A else A.map (·.add k)) (bs.drop k) :=
  ⟨fun x hx => h.1 x (List.mem_of_mem_drop hx), fun hn => by
    rw [List.length_drop] at hn
    obtain ⟨b, off, e, hb, hcell⟩ := h.2 (by omega)
    refine ⟨b, off + k, ?_, hb, fun j hj => ?_⟩
    · rw [if_neg (by omega), e, Option.map_some, add_flat]
    · have hj' : k + j < bs.length := by rw [List.length_drop] at hj; omega
      rw [Nat.add_assoc, hcell _ hj', getD_at _ _ hj', getD_at _ _ hj, List.getElem_drop]⟩
theorem By.of_none (h : By w B A bs) (hA : A = none) : bs.length = 0 ∧ bs.length = 0 := by
  rcases Nat.eq_zero_or_pos bs.length with h0 | h0
  · exact ⟨h0, h0⟩
  · obtain ⟨_, _, e, _⟩ := h.2 h0
    rw [hA] at e; cases e
theorem By.at_ (h : By w B A bs) (hn : 0 < bs.length) : ∃ b off, A = some ⟨b, off, none⟩ ∧ b < B ∧ ∀ j, j < bs.length → w.cell? ⟨b, off + j, none⟩ = some (.int .u8 (bs.getD j 0 : Nat)) := h.2 hn
end

/-- bytes as values -/
def vals (bs : List Nat) : List Value := bs.map fun (n : Nat) => Value.int .u8 (n : Int)
theorem vals_length (bs : List Nat) : (vals bs).length = bs.length := List.length_map _
theorem vals_get {bs : List Nat} {j : Nat} {u : Value} (h : (vals bs)[j]? = some u) : j < bs.length ∧ u = .int .u8 (bs.getD j 0 : Nat) := by
  have hj : j < bs.length := by
    have := (List.getElem?_eq_some_iff.1 h).1
    rwa [vals_length] at this
  refine ⟨hj, ?_⟩
  unfold vals at h
  rw [List.getElem?_map, List.getElem?_eq_getElem hj, Option.map_some] at h
  rw [getD_at _ _ hj]
  exact (Option.some.inj h).symm
theorem vals_one {bs : List Nat} : ∀ u ∈ vals bs, u.oneCell' = true := by
  intro u hu
  obtain ⟨n, _, rfl⟩ := List.mem_map.1 hu
  rfl
theorem vals_append (a b : List Nat) : vals (a ++ b) = vals a ++ vals b := List.map_append
theorem By.vals {w : World} {B : Nat} {A : Option Addr} {bs : List Nat} (h : By w B A bs) : ∀ b, A = some b → ∀ j u, (vals bs)[j]? = some u → w.cell? (b.add j) = some u := by
  intro b hA j u hu
  obtain ⟨hj, rfl⟩ := vals_get hu
  obtain ⟨g, off, e, _, hc⟩ := h.at_ (by omega)
  rw [hA] at e
  obtain rfl := Option.some.inj e
  rw [add_flat]
  exact hc j hj
theorem By.src {w : World} {B : Nat} {A : Option Addr} {bs : List Nat} (h : By w B A bs) (h0 : 0 < (Go.Proofs.YtkajcgpkldofjaaDoor.vals bs).length) : ∃ ad, A = some ad ∧ ∀ j v, (Go.Proofs.YtkajcgpkldofjaaDoor.vals bs)[j]? = some v → w.cell? (ad.add j) = some v := by
  obtain ⟨b, off, e, _⟩ := h.at_ (by rwa [vals_length] at h0)
  exact ⟨_, e, h.vals _ e⟩
theorem By.of_row {w : World} {g : Nat} {bs : List Nat} {t : TypeId} {fr : Nat × Nat} {cs : Array Value} (hg : w.heap[g]? = some (.cells cs t fr)) (hc : cs.toList.take bs.length = Go.Proofs.YtkajcgpkldofjaaDoor.vals bs) (hb : ∀ x ∈ bs, x < 256) : By w (g + 1) (some ⟨g, 0, none⟩) bs := by
  refine ⟨hb, fun _ => ⟨g, 0, rfl, by omega, fun j hj => ?_⟩⟩
  rw [Nat.zero_add, cell_of_row w g j cs t fr hg]
  have h := congrArg (·[j]?) hc
  simp only [List.getElem?_take, hj, if_true] at h
  rw [show cs[j]? = cs.toList[j]? by simp, h]
  unfold Go.Proofs.YtkajcgpkldofjaaDoor.vals
  rw [List.getElem?_map, List.getElem?_eq_getElem hj, Option.map_some, getD_at _ _ hj]

/-- What the call made: a slice of its own that holds the bytes bs; nothing below has turned. -/
def New (w w' : World) (bs : List Nat) (v : Value) : Prop := w'.ownsRow w.heap.size 5 1 v bs.length (vals bs) ∧ Below w.heap.size w w'
theorem own_mono {w : World} {base base' : Nat} {e : TypeId} {size : Nat} {v : Value} {n : Nat} {xs : List Value} (h : w.ownsRow base e size v n xs) (hb : base' ≤ base) : w.ownsRow base' e size v n xs := by
  obtain ⟨h1, h2⟩ := h
  refine ⟨h1, ?_⟩
  rcases h2 with h2 | ⟨g, cap, cur, hv, hg, r⟩
  · exact Or.inl h2
  · exact Or.inr ⟨g, cap, cur, hv, by omega, r⟩
theorem grown_below {a w w' : World} (h : Below a.heap.size a w) (hg : w.grownBy w' none) : Below a.heap.size a w' := h.grown hg h.size (fun _ e => by cases e)
theorem own_ge {w : World} {base : Nat} {e : TypeId} {size : Nat} {v : Value} {n : Nat} {xs : List Value} (h : w.ownsRow base e size v n xs) : ∀ k, v.ownBlock = some k → base ≤ k := by
  intro k hk
  rcases h.2 with ⟨rfl, _⟩ | ⟨g, cap, cur, rfl, hg, _⟩
  · simp [Value.ownBlock] at hk
  · have : g = k := by simpa [Value.ownBlock] using hk
    omega
theorem new_cells {w : World} {nl xs : List Value} {t : TypeId} (h : nl = xs) : ∀ j u, xs[j]? = some u → (w.alloc (.cells nl.toArray t)).cell? ((⟨w.heap.size, 0, none⟩ : Addr).add j) = some u := by
  subst h
  intro j u hu
  rw [add_flat, Nat.zero_add, cell_of_row _ _ j _ _ _ (heap_alloc_new w (.cells nl.toArray t))]
  simpa using hu
theorem By.cut {w : World} {B : Nat} {A : Option Addr} {bs : List Nat} {c : Nat} (h : By w B A bs) (n : Nat) (hc : bs.length ≤ c) : ∃ A', By w B A' (bs.drop n) ∧ (c = n → A' = A) ∧ (¬ c = n → A' = A.map (·.add n)) :=
  ⟨if c = n then A else A.map (·.add n), h.drop n hc, fun e => if_pos e, fun e => if_neg e⟩
def strOf (s : ByteArray) (bs : List Nat) : ByteArray := bs.foldl (fun r n => r.push (UInt8.ofNat n)) s
/-- the bytes as a string -/
def str (bs : List Nat) : ByteArray := strOf ByteArray.empty bs
theorem fold_int (bs : List Nat) : ∀ s : ByteArray, (bs.map fun (n : Nat) => (n : Int)).foldl (fun r n => r.push (UInt8.ofNat n.toNat)) s = strOf s bs := by
  induction bs with
  | nil => intro s; rfl
  | cons a l ih => intro s; exact ih _

/-- string(b) for bytes in memory -/
theorem conv_str (w : World) {B : Nat} {A : Option Addr} {bs : List Nat} (h : By w B A bs) (c : Nat) :
    (convert 24 9 (.slice A bs.length c)).run Tryd.prog w = .ok (.string (str bs)) w := by
  rw [run_convert_bytes_string w 24 9 5 A bs.length c Tryd.underlying24 Tryd.underlying5 Tryd.underlying9]
  cases A with
  | none =>
    have h0 := (h.of_none rfl).1
    obtain rfl := List.eq_nil_of_length_eq_zero h0
    rfl
  | some a =>
    rw [run_bytesToString w a bs.length c (bs.map fun (n : Nat) => (n : Int))]
    · rw [fold_int]; rfl
    · have h1 := run_loadCells_list (P := Tryd.prog) w a (vals bs) (fun j v hv => h.vals a rfl j v hv)
      rw [vals_length] at h1
      rw [h1]
      simp [vals, List.map_map, Function.comp_def]

/-- The slice v reads as the bytes bs, here and in every world that keeps what is here. -/
def StrAt (w : World) (v : Value) (bs : List Nat) : Prop := ∀ W, Below w.heap.size w W → (convert 24 9 v).run Tryd.prog W = .ok (.string (str bs)) W
theorem StrAt.here {w : World} {v : Value} {bs : List Nat} (h : StrAt w v bs) : (convert 24 9 v).run Tryd.prog w = .ok (.string (str bs)) w := h w (Below.refl _ _)
theorem StrAt.later {w w' : World} {v : Value} {bs : List Nat} (h : StrAt w v bs) (hb : Below w.heap.size w w') : StrAt w' v bs := fun W hW => h W (hb.trans (hW.mono hb.size))
theorem By.strAt {w : World} {A : Option Addr} {bs : List Nat} {c : Nat} (h : By w w.heap.size A bs) : StrAt w (.slice A bs.length c) bs := fun W hW => conv_str W (h.below hW (Nat.le_refl _)) c

/-- What the call made, as a slice that reads as bytes. -/
theorem New.slice {w w' : World} {bs : List Nat} {v : Value} (h : New w w' bs v) (hb : ∀ x ∈ bs, x < 256) : ∃ A c, v = .slice A bs.length c ∧ By w' w'.heap.size A bs ∧ bs.length ≤ c ∧ c ≤ maxLen ∧ (A = none → c = 0) ∧ ∀ b, A = some b → w.heap.size ≤ b.block := by
  obtain ⟨⟨_, h2⟩, _⟩ := h
  rcases h2 with ⟨rfl, h0⟩ | ⟨g, cap, cur, rfl, hg, hh, hn, hc, hsz, ht⟩
  · obtain rfl := List.eq_nil_of_length_eq_zero h0
    exact ⟨none, 0, rfl, By.nil_, Nat.le_refl _, (by unfold maxLen; omega), (fun _ => rfl), (fun _ e => by cases e)⟩
  · refine ⟨some ⟨g, 0, none⟩, cap, rfl, ?_, hn, hc, (fun e => by cases e), (fun b e => by cases e; exact hg)⟩
    have hlt : g < w'.heap.size := by
      rcases Nat.lt_or_ge g w'.heap.size with h | h
      · exact h
      · rw [Array.getElem?_eq_none h] at hh; cases hh
    exact (By.of_row hh (by rw [Nat.mul_one] at ht; exact ht) hb).mono hlt
theorem New.strAt {w w' : World} {bs : List Nat} {v : Value} (h : New w w' bs v) (hb : ∀ x ∈ bs, x < 256) : StrAt w' v bs := by
  obtain ⟨A, c, rfl, hy, _⟩ := h.slice hb
  exact hy.strAt
/-- Block g holds n bytes, whichever. -/
def Wr (w : World) (g n : Nat) : Prop := ∃ cur, w.heap[g]? = some (.cells cur 5 (0, 0)) ∧ ∀ j, j < n → ∃ z : Nat, z < 256 ∧ cur[j]? = some (.int .u8 (z : Int))
theorem Wr.at_ {w : World} {g n j : Nat} (h : Wr w g n) (hj : j < n) : ∃ z : Nat, z < 256 ∧ w.cell? ⟨g, j, none⟩ = some (.int .u8 (z : Int)) ∧ w.frozen? ⟨g, j, none⟩ = false := by
  obtain ⟨cur, hg, hc⟩ := h
  obtain ⟨z, hz, e⟩ := hc j hj
  exact ⟨z, hz, by rw [cell_of_row w g j cur _ _ hg]; exact e, frozen_of_row w g j cur _ hg⟩
theorem Wr.set_ {w : World} {g n j z : Nat} (h : Wr w g n) (hz : z < 256) : Wr (w.setCell ⟨g, j, none⟩ (.int .u8 (z : Int))) g n := by
  obtain ⟨cur, hg, hc⟩ := h
  refine ⟨_, heap_setCell_same w g j cur _ _ hg, fun i hi => ?_⟩
  obtain ⟨y, hy, e⟩ := hc i hi
  have hlt : i < cur.size := (Array.getElem?_eq_some_iff.1 e).1
  by_cases hij : j = i
  · subst hij
    exact ⟨z, hz, by rw [Array.getElem?_setIfInBounds_self_of_lt hlt]⟩
  · exact ⟨y, hy, by rw [Array.getElem?_setIfInBounds_ne hij]; exact e⟩
theorem only_refl (w : World) (row : Option Nat) : w.grownBy w row := ⟨rfl, rfl, rfl, Nat.le_refl _, fun _ _ _ => rfl⟩
theorem only_set {a w : World} {g j : Nat} (h : a.grownBy w (some g)) (u : Value) : a.grownBy (w.setCell ⟨g, j, none⟩ u) (some g) :=
  ⟨h.os, h.tape, h.output, by simpa [World.setCell] using h.size, fun i hi hne => (Below.heap_setCell w ⟨g, j, none⟩ u i (fun e => hne (by rw [e]))).trans (h.block i hi hne)⟩
theorem only_below {a w : World} {g B : Nat} (h : a.grownBy w (some g)) (hB : B ≤ g) (hs : B ≤ a.heap.size) : Below B a w :=
  ⟨h.os, h.tape, h.output, h.size, fun k hk => h.block k (by omega) (fun e => by cases e; omega)⟩
/-- A slice in another block reads as it did. -/
theorem By.only {a w : World} {g : Nat} {B : Nat} {A : Option Addr} {bs : List Nat} (h : By a B A bs) (hB : B ≤ a.heap.size) (hg : a.grownBy w (some g)) (hne : ∀ b, A = some b → b.block ≠ g) : By w B A bs :=
  ⟨h.1, fun hn => by
    obtain ⟨b, off, e, hb, hc⟩ := h.2 hn
    exact ⟨b, off, e, hb, fun j hj => (World.cell?_of_block (w := a) (hg.block b (by omega) (fun e2 => hne _ e (by cases e2; rfl)))).trans (hc j hj)⟩⟩
/-- What the call made, as a block of its own. -/
theorem New.block {w w' : World} {bs : List Nat} {v : Value} (h : New w w' bs v) (hb : ∀ x ∈ bs, x < 256) (hn : 0 < bs.length) :
    ∃ g c, v = .slice (some ⟨g, 0, none⟩) bs.length c ∧ By w' w'.heap.size (some ⟨g, 0, none⟩) bs ∧ bs.length ≤ c ∧ c ≤ maxLen ∧ w.heap.size ≤ g ∧ g < w'.heap.size ∧ Wr w' g bs.length := by
  have h' := h
  obtain ⟨⟨_, h2⟩, _⟩ := h
  rcases h2 with ⟨_, h0⟩ | ⟨g, cap, cur, rfl, hg, hh, hle, hc, _, ht⟩
  · omega
  have hlt : g < w'.heap.size := by
    rcases Nat.lt_or_ge g w'.heap.size with h | h
    · exact h
    · rw [Array.getElem?_eq_none h] at hh; cases hh
  have hy : By w' w'.heap.size (some ⟨g, 0, none⟩) bs := (By.of_row hh (by rw [Nat.mul_one] at ht; exact ht) hb).mono hlt
  refine ⟨g, cap, rfl, hy, hle, hc, hg, hlt, cur, hh, fun j hj => ?_⟩
  obtain ⟨b, off, e, _, hcell⟩ := hy.at_ hn
  cases e
  have hj' := hcell j hj
  rw [Nat.zero_add, cell_of_row w' g j cur _ _ hh] at hj'
  exact ⟨bs.getD j 0, by rw [getD_at _ _ hj]; exact hb _ (List.getElem_mem hj), hj'⟩

/-- a slice of one's own, in a block from base on, that holds the bytes bs -/
def Own (w : World) (base : Nat) (bs : List Nat) (v : Value) : Prop := w.ownsRow base 5 1 v bs.length (vals bs)
theorem Own.nil_ (w : World) (base : Nat) : Own w base [] (.slice none 0 0) := ⟨rfl, Or.inl ⟨rfl, rfl⟩⟩
theorem Own.alloc {w : World} {base : Nat} {bs : List Nat} {v : Value} (h : Own w base bs v) (o : Obj) : Own (w.alloc o) base bs v := World.ownsRow.alloc h o
/-- append(v, d...), v one's own, d whatever bytes. -/
theorem append_by {w : World} {ops : Array Oper} {rest : List Oper} {o : Oper} {a : Act} {Q : Exit → Act → World → Prop} (hgd : o.guard = none) (s x : Operand)
    (ho : o.op = .call { callee := .builtin .append, args := #[s, x], argTypes := #[24, 24] }) (base : Nat) (bs ds : List Nat) (v : Value) (hs : a.eval s = v) (hown : Own w base bs v)
    (D : Option Addr) (m c : Nat) (hx : a.eval x = .slice D m c) (hm : m = ds.length) (B : Nat) (hD : By w B D ds) (hc : D = none → c = 0) (hl : bs.length + ds.length ≤ 1000000000) (w0 : World) (hb : Below base w0 w) (hbase : base ≤ w.heap.size)
    (h : ∀ v' w', Own w' base (bs ++ ds) v' → Below base w0 w' → wpList Tryd.prog ops Q rest (a.put o.dst v') w') : wpList Tryd.prog ops Q (o :: rest) a w := by
  obtain ⟨i0, hi, hz0, hz1, hz2⟩ := info_parts Tryd.info5
  subst hm
  cases D with
  | none =>
    have h0 := (hD.of_none rfl).1
    obtain rfl := List.eq_nil_of_length_eq_zero h0
    obtain rfl := hc rfl
    refine wpList_append_own_none hgd s x 24 ho base 5 i0 1 Tryd.underlying24 hi v bs.length (vals bs) hs hown hx ?_
    exact h v w (by rw [List.append_nil]; exact hown) hb
  | some ad =>
    refine wpList_append_own w hgd s x 24 ho base 5 i0 (.int .u8 0) 1 1 Tryd.underlying24 hi hz0 hz1 hz2 rfl (by decide) v bs.length (vals bs) hs hown ad ds.length c (vals ds) hx (by rw [vals_length, Nat.mul_one]) (hD.vals ad rfl) vals_one (by unfold maxLen; omega) (by omega) hbase ?_
    intro v' w' hown' hgrow _
    refine h v' w' ?_ (hb.grown hgrow hbase (own_ge hown))
    unfold Own
    rw [vals_append, List.length_append]
    exact hown'
/-- bytes of a new block -/
theorem by_made (w : World) (cs : Array Value) (ds : List Nat) (h : cs.toList = vals ds) (hb : ∀ x ∈ ds, x < 256) : By (w.alloc (.cells cs 5)) (w.heap.size + 1) (some ⟨w.heap.size, 0, none⟩) ds :=
  By.of_row (heap_alloc_new w _) (by rw [h]; exact List.take_of_length_le (by rw [vals_length]; exact Nat.le_refl _)) hb

/-- The slice at A holds the integers zs, in a block below B. -/
def Ints (w : World) (B : Nat) (A : Option Addr) (zs : List Int) : Prop :=
  0 < zs.length → ∃ b off, A = some ⟨b, off, none⟩ ∧ b < B ∧ ∀ j, j < zs.length → w.cell? ⟨b, off + j, none⟩ = some (.int .i64 (zs.getD j 0))
theorem Ints.below {w w' : World} {B B' : Nat} {A : Option Addr} {zs : List Int} (h : Ints w B A zs) (hb : Below B' w w') (hB : B ≤ B') : Ints w' B A zs := fun hn => by
  obtain ⟨b, off, e, hlt, hc⟩ := h hn
  exact ⟨b, off, e, hlt, fun j hj => (hb.cell (by simp; omega)).trans (hc j hj)⟩
theorem By.drew {w : World} {B : Nat} {A : Option Addr} {bs : List Nat} (h : By w B A bs) : By w.drew B A bs := h.keep fun _ _ => rfl
end Go.Proofs.YtkajcgpkldofjaaDoor
end

section
/-
  Frames as plain data: which may be, into which a record is cut, which are joined; and frames in memory.
-/
namespace Go.Proofs.YtkajcgpkldofjaaDoor.Fm
set_option maxRecDepth 100000
open Go.RowKit

structure Fr where
  seq : Int
  inc : Int
  part : Int
  of : Int
  mark : Nat
  load : List Nat
deriving DecidableEq

/-- its numbers are of their kinds -/
structure Fr.Fine (f : Fr) : Prop where
  seq : -9223372036854775808 ≤ f.seq ∧ f.seq ≤ 9223372036854775807
  inc : -9223372036854775808 ≤ f.inc ∧ f.inc ≤ 9223372036854775807
  part : -9223372036854775808 ≤ f.part ∧ f.part ≤ 9223372036854775807
  of : -9223372036854775808 ≤ f.of ∧ f.of ≤ 9223372036854775807
  mark : f.mark < 4294967296
  load : ∀ x ∈ f.load, x < 256

/-- P4.1: whether it may be -/
def mayB (f : Fr) : Bool := decide (1 ≤ f.seq ∧ f.seq ≤ 1099511627776 ∧ 0 ≤ f.inc ∧ f.inc ≤ 1048576 ∧ 1 ≤ f.of ∧ f.of ≤ 2 ∧ 0 ≤ f.part ∧ f.part ≤ f.of - 1 ∧ 1 ≤ f.load.length ∧ f.load.length ≤ 45 ∧ (f.part = f.of - 1 ∨ f.load.length = 45))
/-- P4.1: Same -/
def sameB (f g : Fr) : Bool := decide (f = g)
theorem Fr.ext_iff' (f g : Fr) : f = g ↔ f.seq = g.seq ∧ f.inc = g.inc ∧ f.part = g.part ∧ f.of = g.of ∧ f.mark = g.mark ∧ f.load = g.load := by
  cases f; cases g; simp

/-- how many frames n bytes want -/
def cutN (n : Nat) : Nat := (n - 1) / 45 + 1
/-- the i-th frame of a record -/
def cutOne (b : List Nat) (seq inc : Int) (i : Nat) : Fr := ⟨seq + i, inc, i, (cutN b.length : Nat), Crc.sum b, (b.drop (i * 45)).take 45⟩
def cutAll (b : List Nat) (seq inc : Int) : List Fr := (List.range (cutN b.length)).map (cutOne b seq inc)
/-- P4.2: which error Cut answers -/
def cutE (n : Nat) (seq inc : Int) : Int :=
  if n = 0 ∨ ¬ (1 ≤ seq ∧ seq ≤ 1099511627776) ∨ ¬ (0 ≤ inc ∧ inc ≤ 1048576) then 2
  else if 90 < n then 3 else if 1099511627776 < seq + cutN n - 1 then 2 else 0
def cutL (b : List Nat) (seq inc : Int) : List Fr := if cutE b.length seq inc = 0 then cutAll b seq inc else []
theorem cutE_yes {n : Nat} {seq inc : Int} (h : cutE n seq inc = 0) : 1 ≤ n ∧ n ≤ 90 ∧ 1 ≤ seq ∧ seq + cutN n - 1 ≤ 1099511627776 ∧ 0 ≤ inc ∧ inc ≤ 1048576 ∧ cutN n ≤ 2 ∧ 1 ≤ cutN n := by
  unfold cutE at h
  unfold cutN at h ⊢
  split at h
  · cases h
  split at h
  · cases h
  split at h
  · cases h
  omega

/-- P4.2: the frames' bytes, one behind the other -/
def loads (l : List Fr) : List Nat := l.flatMap (·.load)
/-- P4.2: whether frames are those that a record is cut into -/
def joinB (l : List Fr) : Bool :=
  match l with
  | [] => false
  | f :: _ => decide (l.length ≤ 2) && l.all mayB && decide (cutE (loads l).length f.seq f.inc = 0 ∧ cutAll (loads l) f.seq f.inc = l)

/-! ### frames in memory -/
/-- a frame as a value: its load is the slice at A -/
def frv (A : Option Addr) (c : Nat) (f : Fr) : List Value := [.int .i64 f.seq, .int .i64 f.inc, .int .i64 f.part, .int .i64 f.of, .int .u32 (f.mark : Nat), .slice A f.load.length c]
/-- The value v is the frame f, its load in a block below B. -/
def FrV (w : World) (B : Nat) (xs : List Value) (f : Fr) : Prop :=
  ∃ A c, xs = frv A c f ∧ By w B A f.load ∧ f.load.length ≤ c ∧ c ≤ maxLen ∧ (A = none → c = 0) ∧ f.Fine
section
variable {w w' : World} {B B' : Nat} {xs : List Value} {f : Fr} {A : Option Addr} {fs : List Fr}
theorem FrV.below (h : FrV w B xs f) (hb : Below B' w w') (hB : B ≤ B') : FrV w' B xs f := by
  obtain ⟨A, c, e, hy, h1, h2, h3, h4⟩ := h
  exact ⟨A, c, e, hy.below hb hB, h1, h2, h3, h4⟩
theorem FrV.mono (h : FrV w B xs f) (hB : B ≤ B') : FrV w B' xs f := by
  obtain ⟨A, c, e, hy, h1, h2, h3, h4⟩ := h
  exact ⟨A, c, e, hy.mono hB, h1, h2, h3, h4⟩
theorem FrV.fine (h : FrV w B xs f) : f.Fine := by
  obtain ⟨A, c, _, _, _, _, _, h4⟩ := h
  exact h4
theorem FrV.load_by {c : Nat} (h : FrV w B (frv A c f) f) : By w B A f.load := by
  obtain ⟨A', c', e, hy, _⟩ := h
  simp only [frv, List.cons.injEq, Value.slice.injEq] at e
  obtain ⟨_, _, _, _, _, ⟨e, _⟩, _⟩ := e
  rw [e]; exact hy
theorem FrV.load_le {c : Nat} (h : FrV w B (frv A c f) f) : f.load.length ≤ c ∧ c ≤ maxLen ∧ (A = none → c = 0) := by
  obtain ⟨A', c', e, _, h1, h2, h3, _⟩ := h
  simp only [frv, List.cons.injEq, Value.slice.injEq] at e
  obtain ⟨_, _, _, _, _, ⟨e, _, e'⟩, _⟩ := e
  rw [e, e']; exact ⟨h1, h2, h3⟩
/-- The slice at A holds the frames fs, in blocks below B. -/
def Frs (w : World) (B : Nat) (A : Option Addr) (fs : List Fr) : Prop :=
  0 < fs.length → ∃ b off, A = some ⟨b, off, none⟩ ∧ b < B ∧ ∀ i (h : i < fs.length), ∃ xs, FrV w B xs fs[i] ∧ ∀ j u, xs[j]? = some u → w.cell? ⟨b, off + i * 6 + j, none⟩ = some u
/-- frame k of the slice, cell by cell -/
theorem Frs.cells (h : Frs w B A fs) {k : Nat} (hk : k < fs.length) : ∃ b off A' c', A = some ⟨b, off, none⟩ ∧ b < B ∧ By w B A' fs[k].load ∧ fs[k].load.length ≤ c' ∧ c' ≤ maxLen ∧ (A' = none → c' = 0) ∧ fs[k].Fine ∧
    w.cell? ⟨b, off + k * 6, none⟩ = some (.int .i64 fs[k].seq) ∧ w.cell? ⟨b, off + k * 6 + 1, none⟩ = some (.int .i64 fs[k].inc) ∧ w.cell? ⟨b, off + k * 6 + 2, none⟩ = some (.int .i64 fs[k].part) ∧ w.cell? ⟨b, off + k * 6 + 3, none⟩ = some (.int .i64 fs[k].of) ∧
    w.cell? ⟨b, off + k * 6 + 4, none⟩ = some (.int .u32 (fs[k].mark : Nat)) ∧ w.cell? ⟨b, off + k * 6 + 5, none⟩ = some (.slice A' fs[k].load.length c') := by
  obtain ⟨b, off, e, hlt, hc⟩ := h (by omega)
  obtain ⟨xs, ⟨A', c', rfl, hy, h1, h2, h3, h4⟩, hcell⟩ := hc k hk
  exact ⟨b, off, A', c', e, hlt, hy, h1, h2, h3, h4, hcell 0 _ rfl, hcell 1 _ rfl, hcell 2 _ rfl, hcell 3 _ rfl, hcell 4 _ rfl, hcell 5 _ rfl⟩
theorem Frs.nil_ : Frs w B A [] := fun h => absurd h (by simp)
theorem Frs.below (h : Frs w B A fs) (hb : Below B' w w') (hB : B ≤ B') : Frs w' B A fs := fun hn => by
  obtain ⟨b, off, e, hlt, hc⟩ := h hn
  refine ⟨b, off, e, hlt, fun i hi => ?_⟩
  obtain ⟨xs, hx, hcell⟩ := hc i hi
  exact ⟨xs, hx.below hb hB, fun j u hu => (hb.cell (by simp; omega)).trans (hcell j u hu)⟩
theorem Frs.mono (h : Frs w B A fs) (hB : B ≤ B') : Frs w B' A fs := fun hn => by
  obtain ⟨b, off, e, hlt, hc⟩ := h hn
  refine ⟨b, off, e, by omega, fun i hi => ?_⟩
  obtain ⟨xs, hx, hcell⟩ := hc i hi
  exact ⟨xs, hx.mono hB, hcell⟩
end
/-- frames that lie one behind the other in a block -/
theorem Frs.of_row {w : World} {B g n : Nat} {cs : List Value} {t : TypeId} {fr : Nat × Nat} {fs : List Fr} (hg : w.heap[g]? = some (.cells cs.toArray t fr)) (hB : g < B)
    (hf : ∀ i (h : i < fs.length), ∃ xs, FrV w B xs fs[i] ∧ ∀ j u, xs[j]? = some u → cs[n + i * 6 + j]? = some u) : Frs w B (some ⟨g, n, none⟩) fs := fun _ =>
  ⟨g, n, rfl, hB, fun i hi => by
    obtain ⟨xs, h1, h2⟩ := hf i hi
    refine ⟨xs, h1, fun j u hu => ?_⟩
    rw [cell_of_row w g _ _ _ _ hg, List.getElem?_toArray]
    exact h2 j u hu⟩
theorem Frs.one {w : World} {B g : Nat} {xs : List Value} {t : TypeId} {fr : Nat × Nat} {f : Fr} (hg : w.heap[g]? = some (.cells xs.toArray t fr)) (hB : g < B) (hf : FrV w B xs f) : Frs w B (some ⟨g, 0, none⟩) [f] :=
  Frs.of_row hg hB fun i hi => by
    obtain rfl : i = 0 := by simp at hi; exact hi
    exact ⟨xs, hf, fun j u hu => by simpa using hu⟩
theorem frv_length (A : Option Addr) (c : Nat) (f : Fr) : (frv A c f).length = 6 := rfl
theorem frv_one (A : Option Addr) (c : Nat) (f : Fr) : ∀ v ∈ frv A c f, v.oneCell' = true := by
  intro v hv
  simp only [frv, List.mem_cons, List.not_mem_nil, or_false] at hv
  rcases hv with rfl | rfl | rfl | rfl | rfl | rfl <;> rfl
end Go.Proofs.YtkajcgpkldofjaaDoor.Fm
end

section
/-
  A part of a block read and written as one value; what stays while some blocks turn.
-/
namespace Go.Proofs.YtkajcgpkldofjaaDoor
set_option maxRecDepth 100000
open Go.RowKit Go.Maps

/-! ### a part of a block -/
section
variable {P : Program}
theorem run_load_part (w : World) (g off : Nat) (ty : TypeId) (xs : List Value) (d : TypeDesc) (hc : ∀ j u, xs[j]? = some u → w.cell? ⟨g, off + j, none⟩ = some u)
    (hu : P.underlying ty = some d) (hd : (match d with | .struct _ | .array _ _ => true | _ => false) = true) (hi : (P.info? ty).map (·.size) = some xs.length) :
    (loadVar ty ⟨g, off, none⟩).run P w = .ok (.agg xs.toArray) w := by
  have hl := run_loadCells_list (P := P) w ⟨g, off, none⟩ xs (fun j v hv => by rw [add_flat]; exact hc j v hv)
  cases hq : P.info? ty with
  | none => simp [hq] at hi
  | some i =>
    have hs : i.size = xs.length := by simpa [hq] using hi
    have hagg : (isAgg ty).run P w = .ok true w := by
      unfold isAgg
      rw [Sem.run_bind, run_underlying hu w]
      cases d <;> simp_all
    simp [loadVar, Sem.run_bind, hagg, sizeOf, typeInfo, hq, hs, hl]
theorem wp_load_part {o : Oper} {a : Act} {w : World} {K : Act → World → Prop} {Q : Exit → Act → World → Prop} (ty : TypeId) (x : Operand) (ho : o.op = .load ty x)
    (g off : Nat) (hx : a.eval x = .pointer (some ⟨g, off, none⟩)) (xs : List Value) (d : TypeDesc) (hc : ∀ j u, xs[j]? = some u → w.cell? ⟨g, off + j, none⟩ = some u)
    (hu : P.underlying ty = some d) (hd : (match d with | .struct _ | .array _ _ => true | _ => false) = true) (hi : (P.info? ty).map (·.size) = some xs.length)
    (h : K (a.put o.dst (.agg xs.toArray)) w) : o.wp P a w K Q := by
  unfold Oper.wp execOp
  simp only [ho, hx, Instr.loadAt, Instr.sureAddr, Sem.run_bind, Sem.run_pure, Result.andThen_ok, run_load_part w g off ty xs d hc hu hd hi]
  exact h
theorem wpList_load_part {ops : Array Oper} {rest : List Oper} {o : Oper} {a : Act} {w : World} {Q : Exit → Act → World → Prop} (hgd : o.guard = none) (ty : TypeId) (x : Operand) (ho : o.op = .load ty x)
    (g off : Nat) (hx : a.eval x = .pointer (some ⟨g, off, none⟩)) (xs : List Value) (d : TypeDesc) (hc : ∀ j u, xs[j]? = some u → w.cell? ⟨g, off + j, none⟩ = some u)
    (hu : P.underlying ty = some d) (hd : (match d with | .struct _ | .array _ _ => true | _ => false) = true) (hi : (P.info? ty).map (·.size) = some xs.length)
    (h : wpList P ops Q rest (a.put o.dst (.agg xs.toArray)) w) : wpList P ops Q (o :: rest) a w :=
  wpList_plain hgd fun _ hK => wp_load_part ty x ho g off hx xs d hc hu hd hi (hK _ _ h)

/-- 'a[i]' of an array of arrays or structs, by value -/
theorem run_index_agg (w : World) (t e : TypeId) (n q i : Nat) (cs : Array Value) (h : P.underlying t = some (.array n e)) (d : TypeDesc) (he : P.underlying e = some d) (hd : (match d with | .struct _ | .array _ _ => true | _ => false) = true)
    (hs : (P.info? e).map (·.size) = some q) (hi : i < n) : (Instr.index t (.agg cs) (.int .i64 (i : Int))).run P w = .ok (.agg (cs.extract (i * q) (i * q + q))) w := by
  have hagg : (isAgg e).run P w = .ok true w := by
    unfold isAgg
    rw [Sem.run_bind, run_underlying he w]
    cases d <;> simp_all
  cases hq : P.info? e with
  | none => simp [hq] at hs
  | some x =>
    have hz : x.size = q := by simpa [hq] using hs
    simp [Instr.index, run_underlying h, asIntOf, hi, part, hagg, sizeOf, typeInfo, hq, hz, go_sem]
/-- 'a[i]' of an array of single cells, by value -/
theorem run_index_cell (w : World) (t e : TypeId) (n i : Nat) (cs : Array Value) (h : P.underlying t = some (.array n e)) (k : IntKind) (he : P.underlying e = some (.int k)) (hs : (P.info? e).map (·.size) = some 1) (hi : i < n) (v : Value) (hv : cs[i]? = some v) :
    (Instr.index t (.agg cs) (.int .i64 (i : Int))).run P w = .ok v w := by
  cases hq : P.info? e with
  | none => simp [hq] at hs
  | some x =>
    have hz : x.size = 1 := by simpa [hq] using hs
    have hagg : (isAgg e).run P w = .ok false w := by
      unfold isAgg
      rw [Sem.run_bind, run_underlying he w]
      rfl
    simp [Instr.index, run_underlying h, asIntOf, hi, part, hagg, sizeOf, typeInfo, hq, hz, hv, go_sem]

theorem run_storeCells_part (g : Nat) (t : TypeId) : ∀ (vs : List Value) (off i : Nat) (pre post old : List Value) (w : World), w.heap[g]? = some (.cells (pre ++ old ++ post).toArray t (0, 0)) → pre.length = off + i → old.length = vs.length →
    (∀ v ∈ vs, v.oneCell' = true) → (storeCells ⟨g, off, none⟩ vs i).run P w = .ok () (w.setRow g (pre ++ vs ++ post).toArray)
  | [], off, i, pre, post, old, w, hg, _, hl, _ => by
    obtain rfl : old = [] := List.eq_nil_of_length_eq_zero (by simpa using hl)
    have := run_storeCells_from (P := P) g t [] (pre ++ [] ++ post).length (pre ++ [] ++ post).toArray w hg (by simp) (by simp)
    simp only [storeCells, List.append_nil] at this ⊢
    rw [List.take_of_length_le (by simp)] at this
    simpa using this
  | v :: rest, off, i, pre, post, old, w, hg, hp, hl, h1 => by
    obtain ⟨y, ys, rfl⟩ : ∃ y ys, old = y :: ys := by
      cases old with
      | nil => simp at hl
      | cons y ys => exact ⟨y, ys, rfl⟩
    have hat : (pre ++ y :: ys ++ post).toArray[off + i]? = some y := by
      rw [← hp]; simp
    have hcell : w.cell? ⟨g, off + i, none⟩ = some y := by rw [cell_of_row w g (off + i) _ _ _ hg]; exact hat
    have hfro := frozen_of_row w g (off + i) _ _ hg
    have hst : (store ((⟨g, off, none⟩ : Addr).add i) v).run P w = .ok () (w.setCell ⟨g, off + i, none⟩ v) := by
      rw [add_flat, run_store P w _ v _ (h1 v (by simp)), hcell]
      simp [hfro]
    have hset : (pre ++ y :: ys ++ post).toArray.setIfInBounds (off + i) v = ((pre ++ [v]) ++ ys ++ post).toArray := by
      rw [← hp]; simp
    have hg2 : (w.setCell ⟨g, off + i, none⟩ v).heap[g]? = some (.cells ((pre ++ [v]) ++ ys ++ post).toArray t (0, 0)) := by
      rw [heap_setCell_same w g (off + i) _ _ v hg, hset]
    have ih := run_storeCells_part g t rest off (i + 1) (pre ++ [v]) post ys (w.setCell ⟨g, off + i, none⟩ v) hg2 (by simp; omega) (by simpa using hl) (fun x hx => h1 x (by simp [hx]))
    simp only [storeCells, Sem.run_bind, hst, Result.andThen_ok, ih]
    rw [setCell_eq_setRow w g (off + i) _ _ _ v hg, setRow_setRow]
    simp

theorem run_store_part (w : World) (g : Nat) (t ty : TypeId) (pre old post xs : List Value) (hg : w.heap[g]? = some (.cells (pre ++ old ++ post).toArray t (0, 0))) (ho : old.length = xs.length)
    (hi : (P.info? ty).map (·.size) = some xs.length) (h1 : ∀ v ∈ xs, v.oneCell' = true) :
    (storeVar ty ⟨g, pre.length, none⟩ (.agg xs.toArray)).run P w = .ok () (w.setRow g (pre ++ xs ++ post).toArray) := by
  have := run_storeCells_part (P := P) g t xs pre.length 0 pre post old w hg rfl ho h1
  cases hq : P.info? ty with
  | none => simp [hq] at hi
  | some i =>
    have hs : xs.length = i.size := by simp [hq] at hi; omega
    simp [storeVar, sizeOf, typeInfo, hq, Value.cells, hs, this]
theorem wp_store_part {o : Oper} {a : Act} {w : World} {K : Act → World → Prop} {Q : Exit → Act → World → Prop} (ty : TypeId) (x y : Operand) (ho : o.op = .store ty x y)
    (g off : Nat) (hx : a.eval x = .pointer (some ⟨g, off, none⟩)) (xs : List Value) (hy : a.eval y = .agg xs.toArray) (t : TypeId) (pre old post : List Value)
    (hg : w.heap[g]? = some (.cells (pre ++ old ++ post).toArray t (0, 0))) (hoff : pre.length = off) (hold : old.length = xs.length) (hi : (P.info? ty).map (·.size) = some xs.length) (h1 : ∀ v ∈ xs, v.oneCell' = true)
    (h : K (a.put o.dst undef) (w.setRow g (pre ++ xs ++ post).toArray)) : o.wp P a w K Q := by
  subst hoff
  unfold Oper.wp execOp
  simp only [ho, hx, hy, Instr.storeAt, Instr.sureAddr, Sem.run_bind, Sem.run_pure, Result.andThen_ok, run_store_part w g t ty pre old post xs hg hold hi h1]
  exact h
theorem wpList_store_part {ops : Array Oper} {rest : List Oper} {o : Oper} {a : Act} {w : World} {Q : Exit → Act → World → Prop} (hgd : o.guard = none) (ty : TypeId) (x y : Operand) (ho : o.op = .store ty x y)
    (g off : Nat) (hx : a.eval x = .pointer (some ⟨g, off, none⟩)) (xs : List Value) (hy : a.eval y = .agg xs.toArray) (t : TypeId) (pre old post : List Value)
    (hg : w.heap[g]? = some (.cells (pre ++ old ++ post).toArray t (0, 0))) (hoff : pre.length = off) (hold : old.length = xs.length) (hi : (P.info? ty).map (·.size) = some xs.length) (h1 : ∀ v ∈ xs, v.oneCell' = true)
    (h : wpList P ops Q rest (a.put o.dst undef) (w.setRow g (pre ++ xs ++ post).toArray)) : wpList P ops Q (o :: rest) a w :=
  wpList_plain hgd fun _ hK => wp_store_part ty x y ho g off hx xs hy t pre old post hg hoff hold hi h1 (hK _ _ h)

/-- a step of a region that draws its order -/
theorem step_of_wp_ {ops : Array Oper} {o : Oper} {a : Act} {w : World} {K : Act → World → Prop} {Q : Exit → Act → World → Prop} {E : Prop} (hgd : o.guard = none) (h : o.wp P a w K Q) : if Region.wanted o (yielded ops a.tmps) = true then Oper.wp P o a w K Q else E := by
  have hw : Region.wanted o (yielded ops a.tmps) = true := by simp [Region.wanted, hgd]
  rw [if_pos hw]
  exact h
theorem wp_value {o : Oper} {a : Act} {w w' : World} {K : Act → World → Prop} {Q : Exit → Act → World → Prop} {v : Value} (hrun : (execOp a.eval o).run P w = .ok (.value v) w') (h : K (a.put o.dst v) w') : o.wp P a w K Q := by
  unfold Oper.wp
  rw [hrun, Oper.upon_value]
  exact h
theorem wp_mapUpdate {o : Oper} {a : Act} {w w' : World} {K : Act → World → Prop} {Q : Exit → Act → World → Prop} (t : TypeId) (m x v : Operand) (hop : o.op = .mapUpdate t m x v) (M key val : Value) (hm : a.eval m = M) (hx : a.eval x = key) (hv : a.eval v = val)
    (hrun : (Instr.mapUpdate t M key val).run P w = .ok () w') (h : K (a.put o.dst undef) w') : o.wp P a w K Q := by
  unfold Oper.wp
  simp [execOp, hop, hm, hx, hv, hrun, Result.andThen]
  exact h
/-- the builtin copy, at a step of a region -/
theorem wp_copy_splice {o : Oper} {a : Act} {w : World} {K : Act → World → Prop} {Q : Exit → Act → World → Prop} (hgd : o.guard = none) (d s : Operand) (dT sT : TypeId)
    (ho : o.op = .call { callee := .builtin .copy, args := #[d, s], argTypes := #[dT, sT] }) (elem : TypeId) (hu : P.underlying dT = some (.slice elem)) (hsz : (P.info? elem).map (·.size) = some 1)
    (dp sp : Option Addr) (dLen dCap sLen sCap : Nat) (hd : a.eval d = .slice dp dLen dCap) (hs : a.eval s = .slice sp sLen sCap)
    (g off : Nat) (cur : List Value) (t : TypeId) (hg : w.heap[g]? = some (.cells cur.toArray t (0, 0))) (cs : List Value) (hn : cs.length = Nat.min sLen dLen)
    (hpos : 0 < cs.length → dp = some ⟨g, off, none⟩ ∧ ∃ ad, sp = some ad ∧ ∀ j v, cs[j]? = some v → w.cell? (ad.add j) = some v)
    (hfit : off + cs.length ≤ cur.length) (h1 : ∀ v ∈ cs, v.oneCell' = true) (B : Nat) (w0 : World) (hb : RowKit.Below B w0 w) (hBg : B ≤ g)
    (h : ∀ w', RowKit.Hid (w'.heap[g]? = some (.cells (splice cur off cs).toArray t (0, 0))) → RowKit.Below B w0 w' → K (a.put o.dst (goInt cs.length)) w') : o.wp P a w K Q := by
  have h2 := step_copy_splice (P := P) (ops := #[]) (Q := Q) (E := True) hgd d s dT sT ho elem hu hsz dp sp dLen dCap sLen sCap hd hs g off cur t hg cs hn hpos hfit h1 B w0 hb hBg h
  rwa [if_pos (by simp [Region.wanted, hgd])] at h2
theorem laid_from : ∀ (vs Z pre : List Value), vs.length ≤ Z.length → List.foldl (fun (cs : Array Value) (x : Value × Nat) => cs.setIfInBounds x.snd x.fst) (pre ++ Z).toArray (vs.zipIdx pre.length) = (pre ++ (vs ++ Z.drop vs.length)).toArray := by
  intro vs
  induction vs with
  | nil => intro Z pre _; simp
  | cons v t ih =>
    intro Z pre h
    cases Z with
    | nil => simp at h
    | cons z r =>
      rw [List.zipIdx_cons, List.foldl_cons]
      have e : (pre ++ z :: r).toArray.setIfInBounds pre.length v = ((pre ++ [v]) ++ r).toArray := by simp
      have hi := ih r (pre ++ [v]) (by simpa using h)
      rw [List.length_append, List.length_singleton] at hi
      rw [e, hi]
      simp
theorem fill_one (xs : List Value) (base : Array Value) (n : Nat) (hn : xs.length = n) (hb : base.size = n) : Instr.fill (fun i => some (i * n, n)) base [(0, .agg xs.toArray)] = some xs.toArray := by
  have h := laid_from xs base.toList [] (by simp; omega)
  rw [List.drop_of_length_le (by simp; omega)] at h
  simp only [Instr.fill, Value.cells, List.size_toArray, hn, hb]
  simp only [Nat.zero_mul, Nat.zero_add, ne_eq, not_true_eq_false, decide_false, Bool.false_or, gt_iff_lt, Nat.lt_irrefl]
  simp at h
  simpa using h
/-- a slice literal of one array -/
theorem run_buildSlice_one (w : World) (t e : TypeId) (i : TypeInfo) (z : Value) (n : Nat) (ht : P.underlying t = some (.slice e)) (hi : P.info? e = some i) (hz : i.zero = some z) (hs : i.size = n) (h0 : 0 < n) (h1 : n ≤ 1000) (xs : List Value) (hx : xs.length = n) :
    (Instr.buildSlice t 1 #[(0, .agg xs.toArray)]).run P w = .ok (.slice (some ⟨w.heap.size, 0, none⟩) 1 1) (w.alloc (.cells xs.toArray e)) := by
  have hf := fill_one xs ((Array.range n).map (z.cells[· % z.cells.size]!)) n hx (by simp)
  have h2 : ¬ 16777216 < n := by omega
  have h3 : ¬ n = 0 := by omega
  simp [Instr.buildSlice, run_underlying ht, sizeOf, typeInfo, zeroValue, hi, hz, hs, h2, h3, hf, newRow]

/-- a new variable of whatever type -/
theorem wp_alloc_any {o : Oper} {a : Act} {w : World} {K : Act → World → Prop} {Q : Exit → Act → World → Prop} (ty : TypeId) (ho : o.op = .alloc ty) (z : Array Value) (hz : (P.info? ty).map (·.zero) = some (some (.agg z)))
    (h : K (a.put o.dst (.pointer (some ⟨w.heap.size, 0, none⟩))) (w.alloc (.cells z ty))) : o.wp P a w K Q := by
  have hzv : (zeroValue ty).run P w = .ok (.agg z) w := by
    cases hq : P.info? ty with
    | none => simp [hq] at hz
    | some i =>
      have hs : i.zero = some (.agg z) := by simpa [hq] using hz
      simp [zeroValue, typeInfo, hq, hs]
  unfold Oper.wp execOp
  simp only [ho, Instr.alloc, Sem.run_bind, hzv, Result.andThen_ok]
  simp [newVar, newRow, Value.cells, go_sem, Result.andThen]
  exact h
theorem wpList_alloc_any {ops : Array Oper} {rest : List Oper} {o : Oper} {a : Act} {w : World} {Q : Exit → Act → World → Prop} (hgd : o.guard = none) (ty : TypeId) (ho : o.op = .alloc ty) (z : Array Value) (hz : (P.info? ty).map (·.zero) = some (some (.agg z)))
    (h : wpList P ops Q rest (a.put o.dst (.pointer (some ⟨w.heap.size, 0, none⟩))) (w.alloc (.cells z ty))) : wpList P ops Q (o :: rest) a w := by
  refine wpList_plain hgd fun _ hK => ?_
  have hzv : (zeroValue ty).run P w = .ok (.agg z) w := by
    cases hq : P.info? ty with
    | none => simp [hq] at hz
    | some i =>
      have hs : i.zero = some (.agg z) := by simpa [hq] using hz
      simp [zeroValue, typeInfo, hq, hs]
  unfold Oper.wp execOp
  simp only [ho, Instr.alloc, Sem.run_bind, hzv, Result.andThen_ok]
  simp [newVar, newRow, Value.cells, go_sem, Result.andThen]
  exact hK _ _ h
end

/-! ### what stays -/
/-- No block has turned but those of S. -/
structure Kept (S : Nat → Prop) (w w' : World) : Prop where
  os : w'.os = w.os
  tape : w'.tape = w.tape
  output : w'.output = w.output
  size : w.heap.size ≤ w'.heap.size
  block : ∀ k, k < w.heap.size → ¬ S k → w'.heap[k]? = w.heap[k]?
section
variable {S S' : Nat → Prop} {a b c w w' : World}
theorem Kept.refl (S : Nat → Prop) (w : World) : Kept S w w := ⟨rfl, rfl, rfl, Nat.le_refl _, fun _ _ _ => rfl⟩
theorem Kept.trans (h : Kept S a b) (k : Kept S' b c) (hs : ∀ i, i < a.heap.size → S' i → S i) : Kept S a c :=
  ⟨k.os.trans h.os, k.tape.trans h.tape, k.output.trans h.output, Nat.le_trans h.size k.size, fun i hi hne => (k.block i (Nat.lt_of_lt_of_le hi h.size) (fun e => hne (hs i hi e))).trans (h.block i hi hne)⟩
theorem Kept.mono (h : Kept S a b) (hs : ∀ i, i < a.heap.size → S i → S' i) : Kept S' a b := ⟨h.os, h.tape, h.output, h.size, fun i hi hne => h.block i hi (fun e => hne (hs i hi e))⟩
theorem Kept.grown (h : Kept S a b) {row : Option Nat} (hg : b.grownBy c row) (hr : ∀ k, row = some k → k < a.heap.size → S k) : Kept S a c :=
  ⟨hg.os.trans h.os, hg.tape.trans h.tape, hg.output.trans h.output, Nat.le_trans h.size hg.size, fun i hi hne => (hg.block i (Nat.lt_of_lt_of_le hi h.size) (fun e => hne (hr i e.symm hi))).trans (h.block i hi hne)⟩
theorem Kept.below (h : Kept S a b) {B : Nat} (_hB : B ≤ b.heap.size) (hw : Below B b c) (hS : a.heap.size ≤ B ∨ ∀ k, B ≤ k → k < a.heap.size → S k) : Kept S a c :=
  ⟨hw.os.trans h.os, hw.tape.trans h.tape, hw.output.trans h.output, Nat.le_trans h.size hw.size, fun i hi hne => (hw.block i (by
    rcases hS with hS | hS
    · omega
    · rcases Nat.lt_or_ge i B with h1 | h1
      · exact h1
      · exact absurd (hS i h1 hi) hne)).trans (h.block i hi hne)⟩
theorem Kept.of_below {B : Nat} (hw : Below B a b) (hB : a.heap.size ≤ B) : Kept S a b := ⟨hw.os, hw.tape, hw.output, hw.size, fun i hi _ => hw.block i (by omega)⟩
theorem Kept.to_below (h : Kept S a b) {B : Nat} (hB : B ≤ a.heap.size) (hs : ∀ k, k < B → ¬ S k) : Below B a b := ⟨h.os, h.tape, h.output, h.size, fun i hi => h.block i (by omega) (hs i hi)⟩
theorem Kept.alloc (h : Kept S a b) (o : Obj) : Kept S a (b.alloc o) := h.grown (World.grownBy_alloc b o none) (fun _ e => by cases e)
theorem Kept.drew (h : Kept S a b) : Kept S a b.drew := ⟨h.os, h.tape, h.output, h.size, h.block⟩
theorem grown_setRow (w : World) (g : Nat) (cs : Array Value) : w.grownBy (w.setRow g cs) (some g) := ⟨rfl, rfl, rfl, by simp, fun k _ hk => setRow_other w g k _ (fun e => hk (by rw [e]))⟩
theorem grown_setCell (w : World) (g j : Nat) (u : Value) : w.grownBy (w.setCell ⟨g, j, none⟩ u) (some g) := only_set (only_refl w (some g)) u
theorem Kept.cell (h : Kept S a b) {p : Addr} (hp : p.block < a.heap.size) (hn : ¬ S p.block) : b.cell? p = a.cell? p := World.cell?_of_block (w := a) (h.block p.block hp hn)
end

end Go.Proofs.YtkajcgpkldofjaaDoor
end

section
/-
  May, by contract.
-/
namespace Go.Proofs.YtkajcgpkldofjaaDoor.Fm
set_option maxRecDepth 100000
open Go.RowKit

/-- a bound as a value -/
def bnd (n least most : Int) : List Value := [.int .i64 n, .int .i64 least, .int .i64 most]
theorem Tryd.info86 : (Tryd.prog.info? 86).map (·.size) = some 3 := by kernel_rfl
set_option maxHeartbeats 400000 in
theorem seqBound_any (n : Int) (w : World) :
    Calls Tryd.prog 35 #[.int .i64 n] w fun e w' => e = .returned (.agg #[.int .i64 n, .int .i64 1, .int .i64 1099511627776]) ∧ Below w.heap.size w w' := by
  go_enter Tryd.func35, Tryd.ntmps35
  go_wp2
  exact bodyPost_ret (results_cell_row rfl _ _ w.heap.size 86 #[.int .i64 n, .int .i64 1, .int .i64 1099511627776] (0, 0) _ rfl (heap_alloc_new w _) Tryd.underlying86 rfl Tryd.info86) rfl ⟨rfl, (Below.refl _ _).alloc (Nat.le_refl _) _⟩
set_option maxHeartbeats 400000 in
theorem incBound_any (n : Int) (w : World) :
    Calls Tryd.prog 37 #[.int .i64 n] w fun e w' => e = .returned (.agg #[.int .i64 n, .int .i64 0, .int .i64 1048576]) ∧ Below w.heap.size w w' := by
  go_enter Tryd.func37, Tryd.ntmps37
  go_wp2
  exact bodyPost_ret (results_cell_row rfl _ _ w.heap.size 86 #[.int .i64 n, .int .i64 0, .int .i64 1048576] (0, 0) _ rfl (heap_alloc_new w _) Tryd.underlying86 rfl Tryd.info86) rfl ⟨rfl, (Below.refl _ _).alloc (Nat.le_refl _) _⟩
set_option maxHeartbeats 400000 in
theorem holds_any (n least most : Int) (w : World) :
    Calls Tryd.prog 36 #[.agg #[.int .i64 n, .int .i64 least, .int .i64 most]] w fun e w' => e = .returned (.bool (decide (least ≤ n) && decide (n ≤ most))) ∧ Below w.heap.size w w' := by
  by_cases h : least ≤ n
  all_goals
    go_enter Tryd.func36, Tryd.ntmps36
    go_wp2
    go_ret
    exact ⟨by simp [h]; try omega, (Below.refl _ _).alloc (Nat.le_refl _) _⟩
/-- Of - 1, as it is reckoned -/
def less1 (o : Int) : Int := IntKind.i64.wrap (o - 1)
/-- the least load -/
def fewest (f : Fr) : Int := if f.part = less1 f.of then 1 else 45
/-- the bounds of a frame -/
def bnds (f : Fr) : List Value := bnd f.seq 1 1099511627776 ++ bnd f.inc 0 1048576 ++ bnd f.of 1 2 ++ bnd f.part 0 (less1 f.of) ++ bnd f.load.length (fewest f) 45
theorem Tryd.info119 : (Tryd.prog.info? 119).map (·.size) = some 15 := by kernel_rfl
set_option maxHeartbeats 1000000 in
theorem bounds_any (f : Fr) (A : Option Addr) (c : Nat) (w : World) (hc : f.load.length ≤ maxLen) :
    Calls Tryd.prog 62 #[.agg (frv A c f).toArray] w fun e w' => e = .returned (.agg (bnds f).toArray) ∧ Below w.heap.size w w' := by
  obtain ⟨seq, inc, part, of, mark, load⟩ := f
  unfold maxLen at hc
  have hl : ∀ (n : Int), IntKind.i64.wrap (n - 1) = less1 n := fun n => rfl
  have HB := Lib.hid (show bnds ⟨seq, inc, part, of, mark, load⟩ = bnd seq 1 1099511627776 ++ bnd inc 0 1048576 ++ bnd of 1 2 ++ bnd part 0 (less1 of) ++ bnd load.length (if part = less1 of then 1 else 45) 45 from rfl)
  generalize bnds ⟨seq, inc, part, of, mark, load⟩ = R at HB ⊢
  obtain ⟨F, hF⟩ : ∃ F : Int, F = if part = less1 of then 1 else 45 := ⟨_, rfl⟩
  rw [← hF] at HB
  have G0 := Lib.hid (heap_alloc2_old w (.cells #[.int .i64 seq, .int .i64 inc, .int .i64 part, .int .i64 of, .int .u32 (mark : Nat), .slice A load.length c] 54) (.cells #[.int .i64 0, .int .i64 0, .int .i64 0, .int .i64 0, .int .i64 0, .int .i64 0, .int .i64 0, .int .i64 0, .int .i64 0, .int .i64 0, .int .i64 0, .int .i64 0, .int .i64 0, .int .i64 0, .int .i64 0] 119))
  have G1 := Lib.hid (heap_alloc2_new w (.cells #[.int .i64 seq, .int .i64 inc, .int .i64 part, .int .i64 of, .int .u32 (mark : Nat), .slice A load.length c] 54) (.cells #[.int .i64 0, .int .i64 0, .int .i64 0, .int .i64 0, .int .i64 0, .int .i64 0, .int .i64 0, .int .i64 0, .int .i64 0, .int .i64 0, .int .i64 0, .int .i64 0, .int .i64 0, .int .i64 0, .int .i64 0] 119))
  have GB := Lib.hid (((Below.refl w.heap.size w).alloc (Nat.le_refl _) (.cells #[.int .i64 seq, .int .i64 inc, .int .i64 part, .int .i64 of, .int .u32 (mark : Nat), .slice A load.length c] 54)).alloc (by simp) (.cells #[.int .i64 0, .int .i64 0, .int .i64 0, .int .i64 0, .int .i64 0, .int .i64 0, .int .i64 0, .int .i64 0, .int .i64 0, .int .i64 0, .int .i64 0, .int .i64 0, .int .i64 0, .int .i64 0, .int .i64 0] 119))
  have GZ := Lib.hid (show ((w.alloc (.cells #[.int .i64 seq, .int .i64 inc, .int .i64 part, .int .i64 of, .int .u32 (mark : Nat), .slice A load.length c] 54)).alloc (.cells #[.int .i64 0, .int .i64 0, .int .i64 0, .int .i64 0, .int .i64 0, .int .i64 0, .int .i64 0, .int .i64 0, .int .i64 0, .int .i64 0, .int .i64 0, .int .i64 0, .int .i64 0, .int .i64 0, .int .i64 0] 119)).heap.size = w.heap.size + 2 by simp)
  unfold frv bnd at *
  dsimp only at hc ⊢
  by_cases hp : part = less1 of
  · rw [if_pos hp] at hF
    have hq : (part == less1 of) = true := by simp [hp]
    have HF := Lib.hid hF
    clear hp hF
    go_enter Tryd.func62, Tryd.ntmps62
    go_wp2_with fail
    generalize ((w.alloc (.cells #[.int .i64 seq, .int .i64 inc, .int .i64 part, .int .i64 of, .int .u32 (mark : Nat), .slice A load.length c] 54)).alloc (.cells #[.int .i64 0, .int .i64 0, .int .i64 0, .int .i64 0, .int .i64 0, .int .i64 0, .int .i64 0, .int .i64 0, .int .i64 0, .int .i64 0, .int .i64 0, .int .i64 0, .int .i64 0, .int .i64 0, .int .i64 0] 119)) = w2 at *
    have hS : ∀ W, Below (w.heap.size + 2) w2 W → W.cell? ⟨w.heap.size, 0, none⟩ = some (.int .i64 seq) ∧ W.cell? ⟨w.heap.size, 1, none⟩ = some (.int .i64 inc) ∧ W.cell? ⟨w.heap.size, 2, none⟩ = some (.int .i64 part) ∧ W.cell? ⟨w.heap.size, 3, none⟩ = some (.int .i64 of) ∧ W.cell? ⟨w.heap.size, 5, none⟩ = some (.slice A load.length c) := fun W hb => by
      have hc : ∀ j, W.cell? ⟨w.heap.size, j, none⟩ = _ := fun j => (hb.cell (p := ⟨w.heap.size, j, none⟩) (by simp)).trans (cell_of_row w2 w.heap.size j _ _ _ G0.out)
      exact ⟨hc 0, hc 1, hc 2, hc 3, hc 5⟩
    have HS := Lib.hid hS
    clear hS
    refine wp_region_held_drew (S := fun W => W.cell? ⟨w.heap.size, 0, none⟩ = some (.int .i64 seq) ∧ W.cell? ⟨w.heap.size, 1, none⟩ = some (.int .i64 inc) ∧ W.cell? ⟨w.heap.size, 2, none⟩ = some (.int .i64 part) ∧ W.cell? ⟨w.heap.size, 3, none⟩ = some (.int .i64 of) ∧ W.cell? ⟨w.heap.size, 5, none⟩ = some (.slice A load.length c)) (by kernel_rfl) (HS.out _ (Below.refl _ _).drew) (fun hHeld => ?_)
    refine wpAnyH_take (i := 0) (v := ?_) rfl (by kernel_rfl) (by kernel_rfl) (by kernel_rfl) (fun _ _ _ h => h) (Or.inl ⟨by rfl, ?_⟩) (by assumption) ?_
    rotate_left
    · simp only [List.getElem_toArray, List.getElem_cons_zero, List.getElem_cons_succ]; intro W hSw; (try dsimp only at hSw); go_simp; all_goals with_reducible rfl
    simp only [Act.put, List.getElem_toArray, List.getElem_cons_zero, List.getElem_cons_succ, List.setIfInBounds_toArray, List.set_cons_zero, List.set_cons_succ]
    refine wpAnyH_take (i := 1) (v := ?_) rfl (by kernel_rfl) (by kernel_rfl) (by kernel_rfl) (fun _ _ _ h => h) (Or.inl ⟨by rfl, ?_⟩) (by assumption) ?_
    rotate_left
    · simp only [List.getElem_toArray, List.getElem_cons_zero, List.getElem_cons_succ]; intro W hSw; (try dsimp only at hSw); go_simp; all_goals with_reducible rfl
    simp only [Act.put, List.getElem_toArray, List.getElem_cons_zero, List.getElem_cons_succ, List.setIfInBounds_toArray, List.set_cons_zero, List.set_cons_succ]
    refine wpAnyH_take (i := 3) (v := ?_) rfl (by kernel_rfl) (by kernel_rfl) (by kernel_rfl) (fun _ _ _ h => h) (Or.inl ⟨by rfl, ?_⟩) (by assumption) ?_
    rotate_left
    · simp only [List.getElem_toArray, List.getElem_cons_zero, List.getElem_cons_succ]; intro W hSw; (try dsimp only at hSw); go_simp; all_goals with_reducible rfl
    simp only [Act.put, List.getElem_toArray, List.getElem_cons_zero, List.getElem_cons_succ, List.setIfInBounds_toArray, List.set_cons_zero, List.set_cons_succ]
    refine wpAnyH_take (i := 4) (v := ?_) rfl (by kernel_rfl) (by kernel_rfl) (by kernel_rfl) (fun _ _ _ h => h) (Or.inl ⟨by rfl, ?_⟩) (by assumption) ?_
    rotate_left
    · simp only [List.getElem_toArray, List.getElem_cons_zero, List.getElem_cons_succ]; intro W hSw; (try dsimp only at hSw); go_simp; all_goals with_reducible rfl
    simp only [Act.put, List.getElem_toArray, List.getElem_cons_zero, List.getElem_cons_succ, List.setIfInBounds_toArray, List.set_cons_zero, List.set_cons_succ]
    refine wpAnyH_take (i := 6) (v := ?_) rfl (by kernel_rfl) (by kernel_rfl) (by kernel_rfl) (fun _ _ _ h => h) (Or.inl ⟨by rfl, ?_⟩) (by assumption) ?_
    rotate_left
    · simp only [List.getElem_toArray, List.getElem_cons_zero, List.getElem_cons_succ]; intro W hSw; (try dsimp only at hSw); go_simp; all_goals with_reducible rfl
    simp only [Act.put, List.getElem_toArray, List.getElem_cons_zero, List.getElem_cons_succ, List.setIfInBounds_toArray, List.set_cons_zero, List.set_cons_succ]
    refine wpAnyH_take (i := 7) (v := ?_) rfl (by kernel_rfl) (by kernel_rfl) (by kernel_rfl) (fun _ _ _ h => h) (Or.inl ⟨by rfl, ?_⟩) (by assumption) ?_
    rotate_left
    · simp only [List.getElem_toArray, List.getElem_cons_zero, List.getElem_cons_succ]; intro W hSw; (try dsimp only at hSw); go_simp; all_goals with_reducible rfl
    simp only [Act.put, List.getElem_toArray, List.getElem_cons_zero, List.getElem_cons_succ, List.setIfInBounds_toArray, List.set_cons_zero, List.set_cons_succ]
    refine wpAnyH_take (i := 8) (v := ?_) rfl (by kernel_rfl) (by kernel_rfl) (by kernel_rfl) (fun _ _ _ h => h) (Or.inl ⟨by rfl, ?_⟩) (by assumption) ?_
    rotate_left
    · simp only [List.getElem_toArray, List.getElem_cons_zero, List.getElem_cons_succ]; intro W hSw; (try dsimp only at hSw); go_simp; all_goals with_reducible rfl
    simp only [Act.put, List.getElem_toArray, List.getElem_cons_zero, List.getElem_cons_succ, List.setIfInBounds_toArray, List.set_cons_zero, List.set_cons_succ]
    refine wpAnyH_take (i := 9) (v := ?_) rfl (by kernel_rfl) (by kernel_rfl) (by kernel_rfl) (fun _ _ _ h => h) (Or.inl ⟨by rfl, ?_⟩) (by assumption) ?_
    rotate_left
    · simp only [List.getElem_toArray, List.getElem_cons_zero, List.getElem_cons_succ]; intro W hSw; (try dsimp only at hSw); go_simp; all_goals with_reducible rfl
    simp only [Act.put, List.getElem_toArray, List.getElem_cons_zero, List.getElem_cons_succ, List.setIfInBounds_toArray, List.set_cons_zero, List.set_cons_succ]
    refine wpAnyH_take (i := 10) (v := ?_) rfl (by kernel_rfl) (by kernel_rfl) (by kernel_rfl) (fun _ _ _ h => h) (Or.inl ⟨by rfl, ?_⟩) (by assumption) ?_
    rotate_left
    · simp only [List.getElem_toArray, List.getElem_cons_zero, List.getElem_cons_succ]; intro W hSw; (try dsimp only at hSw); go_simp; all_goals with_reducible rfl
    simp only [Act.put, List.getElem_toArray, List.getElem_cons_zero, List.getElem_cons_succ, List.setIfInBounds_toArray, List.set_cons_zero, List.set_cons_succ]
    refine wpAnyH_take (i := 11) (v := ?_) rfl (by kernel_rfl) (by kernel_rfl) (by kernel_rfl) (fun _ _ _ h => h) (Or.inl ⟨by rfl, ?_⟩) (by assumption) ?_
    rotate_left
    · simp only [List.getElem_toArray, List.getElem_cons_zero, List.getElem_cons_succ]; intro W hSw; (try dsimp only at hSw); go_simp; all_goals with_reducible rfl
    simp only [Act.put, List.getElem_toArray, List.getElem_cons_zero, List.getElem_cons_succ, List.setIfInBounds_toArray, List.set_cons_zero, List.set_cons_succ]
    refine wpAnyH_take (i := 12) (v := ?_) rfl (by kernel_rfl) (by kernel_rfl) (by kernel_rfl) (fun _ _ _ h => h) (Or.inl ⟨by rfl, ?_⟩) (by assumption) ?_
    rotate_left
    · simp only [List.getElem_toArray, List.getElem_cons_zero, List.getElem_cons_succ]; intro W hSw; (try dsimp only at hSw); go_simp; all_goals with_reducible rfl
    simp only [Act.put, List.getElem_toArray, List.getElem_cons_zero, List.getElem_cons_succ, List.setIfInBounds_toArray, List.set_cons_zero, List.set_cons_succ]
    refine wpAnyH_take (i := 13) (v := ?_) rfl (by kernel_rfl) (by kernel_rfl) (by kernel_rfl) (fun _ _ _ h => h) (Or.inl ⟨by rfl, ?_⟩) (by assumption) ?_
    rotate_left
    · simp only [List.getElem_toArray, List.getElem_cons_zero, List.getElem_cons_succ]; intro W hSw; (try dsimp only at hSw); go_simp; all_goals with_reducible rfl
    simp only [Act.put, List.getElem_toArray, List.getElem_cons_zero, List.getElem_cons_succ, List.setIfInBounds_toArray, List.set_cons_zero, List.set_cons_succ]
    refine wpAnyH_take (i := 14) (v := ?_) rfl (by kernel_rfl) (by kernel_rfl) (by kernel_rfl) (fun _ _ _ h => h) (Or.inl ⟨by rfl, ?_⟩) (by assumption) ?_
    rotate_left
    · simp only [List.getElem_toArray, List.getElem_cons_zero, List.getElem_cons_succ]; intro W hSw; (try dsimp only at hSw); go_simp; all_goals with_reducible rfl
    simp only [Act.put, List.getElem_toArray, List.getElem_cons_zero, List.getElem_cons_succ, List.setIfInBounds_toArray, List.set_cons_zero, List.set_cons_succ]
    refine wpAnyH_take (i := 15) (v := ?_) rfl (by kernel_rfl) (by kernel_rfl) (by kernel_rfl) (fun _ _ _ h => h) (Or.inl ⟨by rfl, ?_⟩) (by assumption) ?_
    rotate_left
    · simp only [List.getElem_toArray, List.getElem_cons_zero, List.getElem_cons_succ]; intro W hSw; (try dsimp only at hSw); go_simp; all_goals with_reducible rfl
    simp only [Act.put, List.getElem_toArray, List.getElem_cons_zero, List.getElem_cons_succ, List.setIfInBounds_toArray, List.set_cons_zero, List.set_cons_succ]
    refine wpAnyH_take (i := 16) (v := ?_) rfl (by kernel_rfl) (by kernel_rfl) (by kernel_rfl) (fun _ _ _ h => h) (Or.inl ⟨by rfl, ?_⟩) (by assumption) ?_
    rotate_left
    · simp only [List.getElem_toArray, List.getElem_cons_zero, List.getElem_cons_succ]; intro W hSw; (try dsimp only at hSw); go_simp; all_goals with_reducible rfl
    simp only [Act.put, List.getElem_toArray, List.getElem_cons_zero, List.getElem_cons_succ, List.setIfInBounds_toArray, List.set_cons_zero, List.set_cons_succ]
    refine wpAnyH_take (i := 17) (v := ?_) rfl (by kernel_rfl) (by kernel_rfl) (by kernel_rfl) (fun _ _ _ h => h) (Or.inl ⟨by rfl, ?_⟩) (by assumption) ?_
    rotate_left
    · simp only [List.getElem_toArray, List.getElem_cons_zero, List.getElem_cons_succ]; intro W hSw; (try dsimp only at hSw); go_simp; all_goals with_reducible rfl
    simp only [Act.put, List.getElem_toArray, List.getElem_cons_zero, List.getElem_cons_succ, List.setIfInBounds_toArray, List.set_cons_zero, List.set_cons_succ]
    refine wpAnyH_take (i := 18) (v := ?_) rfl (by kernel_rfl) (by kernel_rfl) (by kernel_rfl) (fun _ _ _ h => h) (Or.inl ⟨by rfl, ?_⟩) (by assumption) ?_
    rotate_left
    · simp only [List.getElem_toArray, List.getElem_cons_zero, List.getElem_cons_succ]; intro W hSw; (try dsimp only at hSw); go_simp; all_goals with_reducible rfl
    simp only [Act.put, List.getElem_toArray, List.getElem_cons_zero, List.getElem_cons_succ, List.setIfInBounds_toArray, List.set_cons_zero, List.set_cons_succ]
    refine wpAnyH_take (i := 19) (v := ?_) rfl (by kernel_rfl) (by kernel_rfl) (by kernel_rfl) (fun _ _ _ h => h) (Or.inl ⟨by rfl, ?_⟩) (by assumption) ?_
    rotate_left
    · simp only [List.getElem_toArray, List.getElem_cons_zero, List.getElem_cons_succ]; intro W hSw; (try dsimp only at hSw); go_simp; all_goals with_reducible rfl
    simp only [Act.put, List.getElem_toArray, List.getElem_cons_zero, List.getElem_cons_succ, List.setIfInBounds_toArray, List.set_cons_zero, List.set_cons_succ]
    refine wpAnyH_ready (rs := [2]) (by kernel_rfl) (by simp) ?_
    refine AllReadyH.cons rfl (fun K hK => ?_) AllReadyH.nil
    simp only [List.getElem_toArray, List.getElem_cons_zero, List.getElem_cons_succ]
    go_simp
    refine (seqBound_any _ _).mono ?_
    rintro e w3 ⟨rfl, hb3⟩
    go_wp2_with fail
    have hb23 : Below (w.heap.size + 2) w2 w3 := (Below.refl _ _).drew.trans (hb3.mono (by have := GZ.out; simp; omega))
    have B23 := Lib.hid hb23
    refine hK.out _ _ (HS.out _ hb23) (fun hHeldN => ?_)
    clear hK K hHeld
    have hHeld := hHeldN
    clear hHeldN
    (try simp only [Act.put, List.getElem_toArray, List.getElem_cons_zero, List.getElem_cons_succ, List.setIfInBounds_toArray, List.set_cons_zero, List.set_cons_succ])
    clear hb23 hb3
    refine wpAnyH_ready (rs := [5]) (by kernel_rfl) (by simp) ?_
    refine AllReadyH.cons rfl (fun K hK => ?_) AllReadyH.nil
    simp only [List.getElem_toArray, List.getElem_cons_zero, List.getElem_cons_succ]
    go_simp
    refine (incBound_any _ _).mono ?_
    rintro e w4 ⟨rfl, hb4⟩
    go_wp2_with fail
    have hb24 : Below (w.heap.size + 2) w2 w4 := B23.out.trans (hb4.mono (by have := GZ.out; have := B23.out.size; omega))
    have B24 := Lib.hid hb24
    refine hK.out _ _ (HS.out _ hb24) (fun hHeldN => ?_)
    clear hK K hHeld
    have hHeld := hHeldN
    clear hHeldN
    (try simp only [Act.put, List.getElem_toArray, List.getElem_cons_zero, List.getElem_cons_succ, List.setIfInBounds_toArray, List.set_cons_zero, List.set_cons_succ])
    clear hb24 hb4
    refine wpAnyH_take (i := 20) (v := ?_) rfl (by kernel_rfl) (by kernel_rfl) (by kernel_rfl) (fun _ _ _ h => h) (Or.inl ⟨by rfl, ?_⟩) (by assumption) ?_
    rotate_left
    · simp only [List.getElem_toArray, List.getElem_cons_zero, List.getElem_cons_succ]; intro W hSw; (try dsimp only at hSw); go_simp; all_goals with_reducible rfl
    simp only [Act.put, List.getElem_toArray, List.getElem_cons_zero, List.getElem_cons_succ, List.setIfInBounds_toArray, List.set_cons_zero, List.set_cons_succ]
    refine wpAnyH_ready (rs := [21]) (by kernel_rfl) (by simp) ?_
    refine AllReadyH.cons rfl (fun K hK => ?_) AllReadyH.nil
    simp only [List.getElem_toArray, List.getElem_cons_zero, List.getElem_cons_succ]
    have G4 := Lib.hid ((B24.out.block (w.heap.size + 1) (by omega)).trans G1.out)
    obtain ⟨xs, hxs⟩ : ∃ xs : List Value, xs = [.int .i64 seq, .int .i64 1, .int .i64 1099511627776, .int .i64 inc, .int .i64 0, .int .i64 1048576, .int .i64 of, .int .i64 1, .int .i64 2, .int .i64 part, .int .i64 0, .int .i64 (less1 of), .int .i64 load.length, .int .i64 1, .int .i64 45] := ⟨_, rfl⟩
    have XL := Lib.hid (show xs.length = 15 by rw [hxs]; rfl)
    have X1 := Lib.hid (show ∀ v ∈ xs, v.oneCell' = true by rw [hxs]; simp [Value.oneCell'])
    rw [if_pos (by rfl)]
    refine wp_store_part 119 (.tmp 2) (.tmp 30) rfl (w.heap.size + 1) 0 rfl xs (by rw [hxs]; rfl) 119 [] [.int .i64 0, .int .i64 0, .int .i64 0, .int .i64 0, .int .i64 0, .int .i64 0, .int .i64 0, .int .i64 0, .int .i64 0, .int .i64 0, .int .i64 0, .int .i64 0, .int .i64 0, .int .i64 0, .int .i64 0] [] G4.out rfl (by rw [XL.out]; rfl) (by rw [XL.out]; exact Tryd.info119) X1.out ?_
    have HG5 := Lib.hid (grown_setRow w4 (w.heap.size + 1) ([] ++ xs ++ []).toArray)
    have H5 := Lib.hid (setRow_heap w4 (w.heap.size + 1) _ ([] ++ xs ++ []).toArray _ _ G4.out)
    have HI := Lib.hid (show (Tryd.prog.info? 119).map (·.size) = some ([] ++ xs ++ []).toArray.size by rw [Tryd.info119]; simp [XL.out])
    have HX := Lib.hid hxs
    clear hxs
    generalize w4.setRow (w.heap.size + 1) ([] ++ xs ++ []).toArray = w5 at *
    have c0 := HG5.out.block w.heap.size (by have := B24.out.size; have := GZ.out; omega) (by simp)
    have hcell : ∀ j, w5.cell? ⟨w.heap.size, j, none⟩ = w4.cell? ⟨w.heap.size, j, none⟩ := fun j => World.cell?_of_block (w := w4) c0
    refine hK.out _ _ ⟨(hcell 0).trans hHeld.1, (hcell 1).trans hHeld.2.1, (hcell 2).trans hHeld.2.2.1, (hcell 3).trans hHeld.2.2.2.1, (hcell 5).trans hHeld.2.2.2.2⟩ (fun hHeld => ?_)
    clear hK K c0 hcell
    (try simp only [Act.put, List.getElem_toArray, List.getElem_cons_zero, List.getElem_cons_succ, List.setIfInBounds_toArray, List.set_cons_zero, List.set_cons_succ])
    refine wpAnyH_done (by kernel_rfl) ?_ _
    go_wp2
    have hb := (GB.out.trans (B24.out.mono (by omega))).grown HG5.out (by have := B24.out.size; have := GZ.out; omega) (fun k e => by cases e; omega)
    refine bodyPost_ret (results_cell_row rfl _ _ (w.heap.size + 1) 119 _ (0, 0) _ rfl H5.out Tryd.underlying119 rfl HI.out) rfl ⟨?_, hb⟩
    rw [HB.out, HF.out, HX.out]
    rfl
  · rw [if_neg hp] at hF
    have hq : (part == less1 of) = false := by simp [hp]
    have HF := Lib.hid hF
    clear hp hF
    go_enter Tryd.func62, Tryd.ntmps62
    go_wp2_with fail
    generalize ((w.alloc (.cells #[.int .i64 seq, .int .i64 inc, .int .i64 part, .int .i64 of, .int .u32 (mark : Nat), .slice A load.length c] 54)).alloc (.cells #[.int .i64 0, .int .i64 0, .int .i64 0, .int .i64 0, .int .i64 0, .int .i64 0, .int .i64 0, .int .i64 0, .int .i64 0, .int .i64 0, .int .i64 0, .int .i64 0, .int .i64 0, .int .i64 0, .int .i64 0] 119)) = w2 at *
    have hS : ∀ W, Below (w.heap.size + 2) w2 W → W.cell? ⟨w.heap.size, 0, none⟩ = some (.int .i64 seq) ∧ W.cell? ⟨w.heap.size, 1, none⟩ = some (.int .i64 inc) ∧ W.cell? ⟨w.heap.size, 2, none⟩ = some (.int .i64 part) ∧ W.cell? ⟨w.heap.size, 3, none⟩ = some (.int .i64 of) ∧ W.cell? ⟨w.heap.size, 5, none⟩ = some (.slice A load.length c) := fun W hb => by
      have hc : ∀ j, W.cell? ⟨w.heap.size, j, none⟩ = _ := fun j => (hb.cell (p := ⟨w.heap.size, j, none⟩) (by simp)).trans (cell_of_row w2 w.heap.size j _ _ _ G0.out)
      exact ⟨hc 0, hc 1, hc 2, hc 3, hc 5⟩
    have HS := Lib.hid hS
    clear hS
    refine wp_region_held_drew (S := fun W => W.cell? ⟨w.heap.size, 0, none⟩ = some (.int .i64 seq) ∧ W.cell? ⟨w.heap.size, 1, none⟩ = some (.int .i64 inc) ∧ W.cell? ⟨w.heap.size, 2, none⟩ = some (.int .i64 part) ∧ W.cell? ⟨w.heap.size, 3, none⟩ = some (.int .i64 of) ∧ W.cell? ⟨w.heap.size, 5, none⟩ = some (.slice A load.length c)) (by kernel_rfl) (HS.out _ (Below.refl _ _).drew) (fun hHeld => ?_)
    refine wpAnyH_take (i := 0) (v := ?_) rfl (by kernel_rfl) (by kernel_rfl) (by kernel_rfl) (fun _ _ _ h => h) (Or.inl ⟨by rfl, ?_⟩) (by assumption) ?_
    rotate_left
    · simp only [List.getElem_toArray, List.getElem_cons_zero, List.getElem_cons_succ]; intro W hSw; (try dsimp only at hSw); go_simp; all_goals with_reducible rfl
    simp only [Act.put, List.getElem_toArray, List.getElem_cons_zero, List.getElem_cons_succ, List.setIfInBounds_toArray, List.set_cons_zero, List.set_cons_succ]
    refine wpAnyH_take (i := 1) (v := ?_) rfl (by kernel_rfl) (by kernel_rfl) (by kernel_rfl) (fun _ _ _ h => h) (Or.inl ⟨by rfl, ?_⟩) (by assumption) ?_
    rotate_left
    · simp only [List.getElem_toArray, List.getElem_cons_zero, List.getElem_cons_succ]; intro W hSw; (try dsimp only at hSw); go_simp; all_goals with_reducible rfl
    simp only [Act.put, List.getElem_toArray, List.getElem_cons_zero, List.getElem_cons_succ, List.setIfInBounds_toArray, List.set_cons_zero, List.set_cons_succ]
    refine wpAnyH_take (i := 3) (v := ?_) rfl (by kernel_rfl) (by kernel_rfl) (by kernel_rfl) (fun _ _ _ h => h) (Or.inl ⟨by rfl, ?_⟩) (by assumption) ?_
    rotate_left
    · simp only [List.getElem_toArray, List.getElem_cons_zero, List.getElem_cons_succ]; intro W hSw; (try dsimp only at hSw); go_simp; all_goals with_reducible rfl
    simp only [Act.put, List.getElem_toArray, List.getElem_cons_zero, List.getElem_cons_succ, List.setIfInBounds_toArray, List.set_cons_zero, List.set_cons_succ]
    refine wpAnyH_take (i := 4) (v := ?_) rfl (by kernel_rfl) (by kernel_rfl) (by kernel_rfl) (fun _ _ _ h => h) (Or.inl ⟨by rfl, ?_⟩) (by assumption) ?_
    rotate_left
    · simp only [List.getElem_toArray, List.getElem_cons_zero, List.getElem_cons_succ]; intro W hSw; (try dsimp only at hSw); go_simp; all_goals with_reducible rfl
    simp only [Act.put, List.getElem_toArray, List.getElem_cons_zero, List.getElem_cons_succ, List.setIfInBounds_toArray, List.set_cons_zero, List.set_cons_succ]
    refine wpAnyH_take (i := 6) (v := ?_) rfl (by kernel_rfl) (by kernel_rfl) (by kernel_rfl) (fun _ _ _ h => h) (Or.inl ⟨by rfl, ?_⟩) (by assumption) ?_
    rotate_left
    · simp only [List.getElem_toArray, List.getElem_cons_zero, List.getElem_cons_succ]; intro W hSw; (try dsimp only at hSw); go_simp; all_goals with_reducible rfl
    simp only [Act.put, List.getElem_toArray, List.getElem_cons_zero, List.getElem_cons_succ, List.setIfInBounds_toArray, List.set_cons_zero, List.set_cons_succ]
    refine wpAnyH_take (i := 7) (v := ?_) rfl (by kernel_rfl) (by kernel_rfl) (by kernel_rfl) (fun _ _ _ h => h) (Or.inl ⟨by rfl, ?_⟩) (by assumption) ?_
    rotate_left
    · simp only [List.getElem_toArray, List.getElem_cons_zero, List.getElem_cons_succ]; intro W hSw; (try dsimp only at hSw); go_simp; all_goals with_reducible rfl
    simp only [Act.put, List.getElem_toArray, List.getElem_cons_zero, List.getElem_cons_succ, List.setIfInBounds_toArray, List.set_cons_zero, List.set_cons_succ]
    refine wpAnyH_take (i := 8) (v := ?_) rfl (by kernel_rfl) (by kernel_rfl) (by kernel_rfl) (fun _ _ _ h => h) (Or.inl ⟨by rfl, ?_⟩) (by assumption) ?_
    rotate_left
    · simp only [List.getElem_toArray, List.getElem_cons_zero, List.getElem_cons_succ]; intro W hSw; (try dsimp only at hSw); go_simp; all_goals with_reducible rfl
    simp only [Act.put, List.getElem_toArray, List.getElem_cons_zero, List.getElem_cons_succ, List.setIfInBounds_toArray, List.set_cons_zero, List.set_cons_succ]
    refine wpAnyH_take (i := 9) (v := ?_) rfl (by kernel_rfl) (by kernel_rfl) (by kernel_rfl) (fun _ _ _ h => h) (Or.inl ⟨by rfl, ?_⟩) (by assumption) ?_
    rotate_left
    · simp only [List.getElem_toArray, List.getElem_cons_zero, List.getElem_cons_succ]; intro W hSw; (try dsimp only at hSw); go_simp; all_goals with_reducible rfl
    simp only [Act.put, List.getElem_toArray, List.getElem_cons_zero, List.getElem_cons_succ, List.setIfInBounds_toArray, List.set_cons_zero, List.set_cons_succ]
    refine wpAnyH_take (i := 10) (v := ?_) rfl (by kernel_rfl) (by kernel_rfl) (by kernel_rfl) (fun _ _ _ h => h) (Or.inl ⟨by rfl, ?_⟩) (by assumption) ?_
    rotate_left
    · simp only [List.getElem_toArray, List.getElem_cons_zero, List.getElem_cons_succ]; intro W hSw; (try dsimp only at hSw); go_simp; all_goals with_reducible rfl
    simp only [Act.put, List.getElem_toArray, List.getElem_cons_zero, List.getElem_cons_succ, List.setIfInBounds_toArray, List.set_cons_zero, List.set_cons_succ]
    refine wpAnyH_take (i := 11) (v := ?_) rfl (by kernel_rfl) (by kernel_rfl) (by kernel_rfl) (fun _ _ _ h => h) (Or.inl ⟨by rfl, ?_⟩) (by assumption) ?_
    rotate_left
    · simp only [List.getElem_toArray, List.getElem_cons_zero, List.getElem_cons_succ]; intro W hSw; (try dsimp only at hSw); go_simp; all_goals with_reducible rfl
    simp only [Act.put, List.getElem_toArray, List.getElem_cons_zero, List.getElem_cons_succ, List.setIfInBounds_toArray, List.set_cons_zero, List.set_cons_succ]
    refine wpAnyH_take (i := 12) (v := ?_) rfl (by kernel_rfl) (by kernel_rfl) (by kernel_rfl) (fun _ _ _ h => h) (Or.inl ⟨by rfl, ?_⟩) (by assumption) ?_
    rotate_left
    · simp only [List.getElem_toArray, List.getElem_cons_zero, List.getElem_cons_succ]; intro W hSw; (try dsimp only at hSw); go_simp; all_goals with_reducible rfl
    simp only [Act.put, List.getElem_toArray, List.getElem_cons_zero, List.getElem_cons_succ, List.setIfInBounds_toArray, List.set_cons_zero, List.set_cons_succ]
    refine wpAnyH_take (i := 13) (v := ?_) rfl (by kernel_rfl) (by kernel_rfl) (by kernel_rfl) (fun _ _ _ h => h) (Or.inl ⟨by rfl, ?_⟩) (by assumption) ?_
    rotate_left
    · simp only [List.getElem_toArray, List.getElem_cons_zero, List.getElem_cons_succ]; intro W hSw; (try dsimp only at hSw); go_simp; all_goals with_reducible rfl
    simp only [Act.put, List.getElem_toArray, List.getElem_cons_zero, List.getElem_cons_succ, List.setIfInBounds_toArray, List.set_cons_zero, List.set_cons_succ]
    refine wpAnyH_take (i := 14) (v := ?_) rfl (by kernel_rfl) (by kernel_rfl) (by kernel_rfl) (fun _ _ _ h => h) (Or.inl ⟨by rfl, ?_⟩) (by assumption) ?_
    rotate_left
    · simp only [List.getElem_toArray, List.getElem_cons_zero, List.getElem_cons_succ]; intro W hSw; (try dsimp only at hSw); go_simp; all_goals with_reducible rfl
    simp only [Act.put, List.getElem_toArray, List.getElem_cons_zero, List.getElem_cons_succ, List.setIfInBounds_toArray, List.set_cons_zero, List.set_cons_succ]
    refine wpAnyH_take (i := 15) (v := ?_) rfl (by kernel_rfl) (by kernel_rfl) (by kernel_rfl) (fun _ _ _ h => h) (Or.inl ⟨by rfl, ?_⟩) (by assumption) ?_
    rotate_left
    · simp only [List.getElem_toArray, List.getElem_cons_zero, List.getElem_cons_succ]; intro W hSw; (try dsimp only at hSw); go_simp; all_goals with_reducible rfl
    simp only [Act.put, List.getElem_toArray, List.getElem_cons_zero, List.getElem_cons_succ, List.setIfInBounds_toArray, List.set_cons_zero, List.set_cons_succ]
    refine wpAnyH_take (i := 16) (v := ?_) rfl (by kernel_rfl) (by kernel_rfl) (by kernel_rfl) (fun _ _ _ h => h) (Or.inl ⟨by rfl, ?_⟩) (by assumption) ?_
    rotate_left
    · simp only [List.getElem_toArray, List.getElem_cons_zero, List.getElem_cons_succ]; intro W hSw; (try dsimp only at hSw); go_simp; all_goals with_reducible rfl
    simp only [Act.put, List.getElem_toArray, List.getElem_cons_zero, List.getElem_cons_succ, List.setIfInBounds_toArray, List.set_cons_zero, List.set_cons_succ]
    refine wpAnyH_take (i := 17) (v := ?_) rfl (by kernel_rfl) (by kernel_rfl) (by kernel_rfl) (fun _ _ _ h => h) (Or.inl ⟨by rfl, ?_⟩) (by assumption) ?_
    rotate_left
    · simp only [List.getElem_toArray, List.getElem_cons_zero, List.getElem_cons_succ]; intro W hSw; (try dsimp only at hSw); go_simp; all_goals with_reducible rfl
    simp only [Act.put, List.getElem_toArray, List.getElem_cons_zero, List.getElem_cons_succ, List.setIfInBounds_toArray, List.set_cons_zero, List.set_cons_succ]
    refine wpAnyH_take (i := 18) (v := ?_) rfl (by kernel_rfl) (by kernel_rfl) (by kernel_rfl) (fun _ _ _ h => h) (Or.inl ⟨by rfl, ?_⟩) (by assumption) ?_
    rotate_left
    · simp only [List.getElem_toArray, List.getElem_cons_zero, List.getElem_cons_succ]; intro W hSw; (try dsimp only at hSw); go_simp; all_goals with_reducible rfl
    simp only [Act.put, List.getElem_toArray, List.getElem_cons_zero, List.getElem_cons_succ, List.setIfInBounds_toArray, List.set_cons_zero, List.set_cons_succ]
    refine wpAnyH_take (i := 19) (v := ?_) rfl (by kernel_rfl) (by kernel_rfl) (by kernel_rfl) (fun _ _ _ h => h) (Or.inl ⟨by rfl, ?_⟩) (by assumption) ?_
    rotate_left
    · simp only [List.getElem_toArray, List.getElem_cons_zero, List.getElem_cons_succ]; intro W hSw; (try dsimp only at hSw); go_simp; all_goals with_reducible rfl
    simp only [Act.put, List.getElem_toArray, List.getElem_cons_zero, List.getElem_cons_succ, List.setIfInBounds_toArray, List.set_cons_zero, List.set_cons_succ]
    refine wpAnyH_ready (rs := [2]) (by kernel_rfl) (by simp) ?_
    refine AllReadyH.cons rfl (fun K hK => ?_) AllReadyH.nil
    simp only [List.getElem_toArray, List.getElem_cons_zero, List.getElem_cons_succ]
    go_simp
    refine (seqBound_any _ _).mono ?_
    rintro e w3 ⟨rfl, hb3⟩
    go_wp2_with fail
    have hb23 : Below (w.heap.size + 2) w2 w3 := (Below.refl _ _).drew.trans (hb3.mono (by have := GZ.out; simp; omega))
    have B23 := Lib.hid hb23
    refine hK.out _ _ (HS.out _ hb23) (fun hHeldN => ?_)
    clear hK K hHeld
    have hHeld := hHeldN
    clear hHeldN
    (try simp only [Act.put, List.getElem_toArray, List.getElem_cons_zero, List.getElem_cons_succ, List.setIfInBounds_toArray, List.set_cons_zero, List.set_cons_succ])
    clear hb23 hb3
    refine wpAnyH_ready (rs := [5]) (by kernel_rfl) (by simp) ?_
    refine AllReadyH.cons rfl (fun K hK => ?_) AllReadyH.nil
    simp only [List.getElem_toArray, List.getElem_cons_zero, List.getElem_cons_succ]
    go_simp
    refine (incBound_any _ _).mono ?_
    rintro e w4 ⟨rfl, hb4⟩
    go_wp2_with fail
    have hb24 : Below (w.heap.size + 2) w2 w4 := B23.out.trans (hb4.mono (by have := GZ.out; have := B23.out.size; omega))
    have B24 := Lib.hid hb24
    refine hK.out _ _ (HS.out _ hb24) (fun hHeldN => ?_)
    clear hK K hHeld
    have hHeld := hHeldN
    clear hHeldN
    (try simp only [Act.put, List.getElem_toArray, List.getElem_cons_zero, List.getElem_cons_succ, List.setIfInBounds_toArray, List.set_cons_zero, List.set_cons_succ])
    clear hb24 hb4
    refine wpAnyH_take (i := 20) (v := ?_) rfl (by kernel_rfl) (by kernel_rfl) (by kernel_rfl) (fun _ _ _ h => h) (Or.inl ⟨by rfl, ?_⟩) (by assumption) ?_
    rotate_left
    · simp only [List.getElem_toArray, List.getElem_cons_zero, List.getElem_cons_succ]; intro W hSw; (try dsimp only at hSw); go_simp; all_goals with_reducible rfl
    simp only [Act.put, List.getElem_toArray, List.getElem_cons_zero, List.getElem_cons_succ, List.setIfInBounds_toArray, List.set_cons_zero, List.set_cons_succ]
    refine wpAnyH_ready (rs := [21]) (by kernel_rfl) (by simp) ?_
    refine AllReadyH.cons rfl (fun K hK => ?_) AllReadyH.nil
    simp only [List.getElem_toArray, List.getElem_cons_zero, List.getElem_cons_succ]
    have G4 := Lib.hid ((B24.out.block (w.heap.size + 1) (by omega)).trans G1.out)
    obtain ⟨xs, hxs⟩ : ∃ xs : List Value, xs = [.int .i64 seq, .int .i64 1, .int .i64 1099511627776, .int .i64 inc, .int .i64 0, .int .i64 1048576, .int .i64 of, .int .i64 1, .int .i64 2, .int .i64 part, .int .i64 0, .int .i64 (less1 of), .int .i64 load.length, .int .i64 45, .int .i64 45] := ⟨_, rfl⟩
    have XL := Lib.hid (show xs.length = 15 by rw [hxs]; rfl)
    have X1 := Lib.hid (show ∀ v ∈ xs, v.oneCell' = true by rw [hxs]; simp [Value.oneCell'])
    rw [if_pos (by rfl)]
    refine wp_store_part 119 (.tmp 2) (.tmp 30) rfl (w.heap.size + 1) 0 rfl xs (by rw [hxs]; rfl) 119 [] [.int .i64 0, .int .i64 0, .int .i64 0, .int .i64 0, .int .i64 0, .int .i64 0, .int .i64 0, .int .i64 0, .int .i64 0, .int .i64 0, .int .i64 0, .int .i64 0, .int .i64 0, .int .i64 0, .int .i64 0] [] G4.out rfl (by rw [XL.out]; rfl) (by rw [XL.out]; exact Tryd.info119) X1.out ?_
    have HG5 := Lib.hid (grown_setRow w4 (w.heap.size + 1) ([] ++ xs ++ []).toArray)
    have H5 := Lib.hid (setRow_heap w4 (w.heap.size + 1) _ ([] ++ xs ++ []).toArray _ _ G4.out)
    have HI := Lib.hid (show (Tryd.prog.info? 119).map (·.size) = some ([] ++ xs ++ []).toArray.size by rw [Tryd.info119]; simp [XL.out])
    have HX := Lib.hid hxs
    clear hxs
    generalize w4.setRow (w.heap.size + 1) ([] ++ xs ++ []).toArray = w5 at *
    have c0 := HG5.out.block w.heap.size (by have := B24.out.size; have := GZ.out; omega) (by simp)
    have hcell : ∀ j, w5.cell? ⟨w.heap.size, j, none⟩ = w4.cell? ⟨w.heap.size, j, none⟩ := fun j => World.cell?_of_block (w := w4) c0
    refine hK.out _ _ ⟨(hcell 0).trans hHeld.1, (hcell 1).trans hHeld.2.1, (hcell 2).trans hHeld.2.2.1, (hcell 3).trans hHeld.2.2.2.1, (hcell 5).trans hHeld.2.2.2.2⟩ (fun hHeld => ?_)
    clear hK K c0 hcell
    (try simp only [Act.put, List.getElem_toArray, List.getElem_cons_zero, List.getElem_cons_succ, List.setIfInBounds_toArray, List.set_cons_zero, List.set_cons_succ])
    refine wpAnyH_done (by kernel_rfl) ?_ _
    go_wp2
    have hb := (GB.out.trans (B24.out.mono (by omega))).grown HG5.out (by have := B24.out.size; have := GZ.out; omega) (fun k e => by cases e; omega)
    refine bodyPost_ret (results_cell_row rfl _ _ (w.heap.size + 1) 119 _ (0, 0) _ rfl H5.out Tryd.underlying119 rfl HI.out) rfl ⟨?_, hb⟩
    rw [HB.out, HF.out, HX.out]
    rfl
end Go.Proofs.YtkajcgpkldofjaaDoor.Fm
end

section
/-
  allMay, May, by contract.
-/
namespace Go.Proofs.YtkajcgpkldofjaaDoor.Fm
set_option maxRecDepth 100000
open Go.RowKit

/-- whether bound k of a frame holds -/
def bOK (f : Fr) : Nat → Bool
  | 0 => decide (1 ≤ f.seq) && decide (f.seq ≤ 1099511627776)
  | 1 => decide (0 ≤ f.inc) && decide (f.inc ≤ 1048576)
  | 2 => decide (1 ≤ f.of) && decide (f.of ≤ 2)
  | 3 => decide (0 ≤ f.part) && decide (f.part ≤ less1 f.of)
  | _ => decide (fewest f ≤ f.load.length) && decide ((f.load.length : Int) ≤ 45)
theorem may_of_bounds {f : Fr} (h : ∀ k, k < 5 → bOK f k = true) : mayB f = true := by
  have h0 := h 0 (by omega)
  have h1 := h 1 (by omega)
  have h2 := h 2 (by omega)
  have h3 := h 3 (by omega)
  have h4 := h 4 (by omega)
  simp only [bOK, Bool.and_eq_true, decide_eq_true_eq] at h0 h1 h2 h3 h4
  have hl : less1 f.of = f.of - 1 := by unfold less1; rw [IntKind.wrap_i64]; omega
  unfold fewest at h4
  rw [hl] at h3 h4
  unfold mayB
  rw [decide_eq_true_eq]
  split at h4 <;> omega
theorem not_may {f : Fr} {k : Nat} (hk : k < 5) (h : bOK f k = false) : mayB f = false := by
  unfold mayB
  rw [decide_eq_false_iff_not]
  intro hm
  have hl : less1 f.of = f.of - 1 := by unfold less1; rw [IntKind.wrap_i64]; omega
  have hk5 : k = 0 ∨ k = 1 ∨ k = 2 ∨ k = 3 ∨ k = 4 := by omega
  rcases hk5 with rfl | rfl | rfl | rfl | rfl
  · simp [bOK] at h; omega
  · simp [bOK] at h; omega
  · simp [bOK] at h; omega
  · simp [bOK, hl] at h; omega
  · simp only [bOK, fewest, hl] at h
    rw [Bool.and_eq_false_iff, decide_eq_false_iff_not, decide_eq_false_iff_not] at h
    split at h <;> omega
theorem five_ways {k : Nat} (h : k < 5) : k = 0 ∨ k = 1 ∨ k = 2 ∨ k = 3 ∨ k = 4 := by omega
theorem all_take_snoc {fs : List Fr} {k : Nat} (h : k < fs.length) (h1 : (fs.take k).all mayB = true) (h2 : mayB fs[k] = true) : (fs.take (k + 1)).all mayB = true := by
  rw [List.take_succ_eq_append_getElem h, List.all_append, h1]
  simp [h2]
theorem not_all {fs : List Fr} {k : Nat} (h : k < fs.length) (h2 : mayB fs[k] = false) : fs.all mayB = false := by
  rw [List.all_eq_false]
  exact ⟨fs[k], List.getElem_mem h, by simp [h2]⟩

set_option maxHeartbeats 4000000 in
theorem allMay_any (fs : List Fr) (A : Option Addr) (c : Nat) (w : World) (hA : Frs w w.heap.size A fs) (hl : fs.length ≤ 1000000000) :
    Calls Tryd.prog 49 #[.slice A fs.length c] w fun e w' => e = .returned (.bool (fs.all mayB)) ∧ Below w.heap.size w w' := by
  have HA := Lib.hid hA
  clear hA
  go_enter Tryd.func49, Tryd.ntmps49
  go_wp2
  go_step3
  go_wp2
  go_step3
  go_wp2
  go_loopg [3, 10] fs.length (fun g m i wr => ∃ k : Nat, k + g = fs.length ∧ i = .int .i64 k ∧ m = .bool true ∧ (fs.take k).all mayB = true ∧ Below w.heap.size w wr)
  case atStart => exact ⟨0, by omega, rfl, rfl, rfl, Below.refl _ _⟩
  case round =>
    obtain ⟨k, hk, rfl, rfl, hall, hb⟩ := hrel
    have HB := Lib.hid hb
    have HL := Lib.hid hall
    have HK := Lib.hid hk
    clear hb hall hk
    cases gk with
    | succ g =>
      have hlt : k < fs.length := by have := HK.out; omega
      obtain ⟨b, off, A', c', rfl, hbw, hby, hlc, hcm, _, _, c0, c1, c2, c3, c4, c5⟩ := (HA.out.below HB.out (Nat.le_refl _)).cells hlt
      have HM := Lib.hid (all_take_snoc hlt HL.out)
      have HN := Lib.hid (not_all hlt)
      have hki : (k : Int) < fs.length := by omega
      clear HL
      generalize fs[k] = f at *
      have HBO := Lib.hid (bounds_any f A' c' (wr.alloc (.cells (frv A' c' f).toArray 54)) (by omega))
      have HBB := Lib.hid (show bnds f = bnd f.seq 1 1099511627776 ++ bnd f.inc 0 1048576 ++ bnd f.of 1 2 ++ bnd f.part 0 (less1 f.of) ++ bnd f.load.length (fewest f) 45 from rfl)
      have HF := Lib.hid (show ∀ k, bOK f k = match k with | 0 => decide (1 ≤ f.seq) && decide (f.seq ≤ 1099511627776) | 1 => decide (0 ≤ f.inc) && decide (f.inc ≤ 1048576) | 2 => decide (1 ≤ f.of) && decide (f.of ≤ 2) | 3 => decide (0 ≤ f.part) && decide (f.part ≤ less1 f.of) | _ => decide (fewest f ≤ f.load.length) && decide ((f.load.length : Int) ≤ 45) from fun k => by unfold bOK; rfl)
      have HMay := Lib.hid (may_of_bounds (f := f))
      have HNot := Lib.hid (fun k => not_may (f := f) (k := k))
      clear hby
      unfold frv bnd at *
      go_wp2_with fail
      refine HBO.out.mono ?_
      rintro e w2 ⟨rfl, hb2⟩
      rw [HBB.out]
      have HB2 := Lib.hid ((HB.out.alloc HB.out.size _).trans (hb2.mono (by have := HB.out.size; simp; omega)))
      clear hb2 HBO
      go_wp2
      go_loopg [3, 16] 5 (fun g m i wx => ∃ j : Nat, j + g = 5 ∧ i = .int .i64 j ∧ m = .bool true ∧ (∀ q, q < j → bOK f q = true) ∧ Below w.heap.size w wx)
      case atStart => exact ⟨0, by omega, rfl, rfl, fun q h => absurd h (by omega), HB2.out⟩
      case round =>
        obtain ⟨j, hj, rfl, rfl, hq, hb4⟩ := hrel
        have HJ := Lib.hid hj
        have HQ := Lib.hid hq
        have HBX := Lib.hid hb4
        clear hj hq hb4
        cases gk with
        | succ g2 =>
          have hj5 : j < 5 := by have := HJ.out; omega
          rcases five_ways hj5 with rfl | rfl | rfl | rfl | rfl
          · have hx : ∀ W, (Instr.index 119 (.agg #[.int .i64 f.seq, .int .i64 1, .int .i64 1099511627776, .int .i64 f.inc, .int .i64 0, .int .i64 1048576, .int .i64 f.of, .int .i64 1, .int .i64 2, .int .i64 f.part, .int .i64 0, .int .i64 (less1 f.of), .int .i64 f.load.length, .int .i64 (fewest f), .int .i64 45]) (.int .i64 0)).run Tryd.prog W = .ok (.agg #[.int .i64 f.seq, .int .i64 1, .int .i64 1099511627776]) W := fun W => by
              have h := run_index_agg (P := Tryd.prog) W 119 86 5 3 0 #[.int .i64 f.seq, .int .i64 1, .int .i64 1099511627776, .int .i64 f.inc, .int .i64 0, .int .i64 1048576, .int .i64 f.of, .int .i64 1, .int .i64 2, .int .i64 f.part, .int .i64 0, .int .i64 (less1 f.of), .int .i64 f.load.length, .int .i64 (fewest f), .int .i64 45] Tryd.underlying119 _ Tryd.underlying86 rfl Tryd.info86 (by omega)
              simpa using h
            have hh := fun W => holds_any f.seq 1 1099511627776 W
            rw [show (decide (1 ≤ f.seq) && decide (f.seq ≤ 1099511627776)) = bOK f 0 from rfl] at hh
            cases hq : bOK f 0 with
            | true =>
              rw [hq] at hh
              have HH := Lib.hid hh
              have HQ2 := Lib.hid (show ∀ q, q < 0 + 1 → bOK f q = true from fun q h => by
                by_cases h' : q = 0
                · rw [h']; exact hq
                · exact HQ.out q (by omega))
              clear hq hh
              go_wp2_with fail
              refine (HH.out _).mono ?_
              rintro e w3 ⟨rfl, hb3⟩
              have HB3 := Lib.hid ((HBX.out.alloc HBX.out.size _).trans (hb3.mono (by have := HBX.out.size; simp; omega)))
              clear hb3
              go_wp2
              go_roundg g2
              case measure => omega
              case rel => exact ⟨0 + 1, by have := HJ.out; omega, rfl, rfl, HQ2.out, HB3.out⟩
            | false =>
              rw [hq] at hh
              have HH := Lib.hid hh
              have HR := Lib.hid (HN.out (HNot.out 0 (by omega) hq))
              clear hq hh
              go_wp2_with fail
              refine (HH.out _).mono ?_
              rintro e w3 ⟨rfl, hb3⟩
              have HB3 := Lib.hid ((HBX.out.alloc HBX.out.size _).trans (hb3.mono (by have := HBX.out.size; simp; omega)))
              clear hb3
              go_wp2
              (try rw [Exit.noGoto_ret])
              go_ret
              exact ⟨by rw [HR.out]; rfl, HB3.out⟩
          · have hx : ∀ W, (Instr.index 119 (.agg #[.int .i64 f.seq, .int .i64 1, .int .i64 1099511627776, .int .i64 f.inc, .int .i64 0, .int .i64 1048576, .int .i64 f.of, .int .i64 1, .int .i64 2, .int .i64 f.part, .int .i64 0, .int .i64 (less1 f.of), .int .i64 f.load.length, .int .i64 (fewest f), .int .i64 45]) (.int .i64 1)).run Tryd.prog W = .ok (.agg #[.int .i64 f.inc, .int .i64 0, .int .i64 1048576]) W := fun W => by
              have h := run_index_agg (P := Tryd.prog) W 119 86 5 3 1 #[.int .i64 f.seq, .int .i64 1, .int .i64 1099511627776, .int .i64 f.inc, .int .i64 0, .int .i64 1048576, .int .i64 f.of, .int .i64 1, .int .i64 2, .int .i64 f.part, .int .i64 0, .int .i64 (less1 f.of), .int .i64 f.load.length, .int .i64 (fewest f), .int .i64 45] Tryd.underlying119 _ Tryd.underlying86 rfl Tryd.info86 (by omega)
              simpa using h
            have hh := fun W => holds_any f.inc 0 1048576 W
            rw [show (decide (0 ≤ f.inc) && decide (f.inc ≤ 1048576)) = bOK f 1 from rfl] at hh
            cases hq : bOK f 1 with
            | true =>
              rw [hq] at hh
              have HH := Lib.hid hh
              have HQ2 := Lib.hid (show ∀ q, q < 1 + 1 → bOK f q = true from fun q h => by
                by_cases h' : q = 1
                · rw [h']; exact hq
                · exact HQ.out q (by omega))
              clear hq hh
              go_wp2_with fail
              refine (HH.out _).mono ?_
              rintro e w3 ⟨rfl, hb3⟩
              have HB3 := Lib.hid ((HBX.out.alloc HBX.out.size _).trans (hb3.mono (by have := HBX.out.size; simp; omega)))
              clear hb3
              go_wp2
              go_roundg g2
              case measure => omega
              case rel => exact ⟨1 + 1, by have := HJ.out; omega, rfl, rfl, HQ2.out, HB3.out⟩
            | false =>
              rw [hq] at hh
              have HH := Lib.hid hh
              have HR := Lib.hid (HN.out (HNot.out 1 (by omega) hq))
              clear hq hh
              go_wp2_with fail
              refine (HH.out _).mono ?_
              rintro e w3 ⟨rfl, hb3⟩
              have HB3 := Lib.hid ((HBX.out.alloc HBX.out.size _).trans (hb3.mono (by have := HBX.out.size; simp; omega)))
              clear hb3
              go_wp2
              (try rw [Exit.noGoto_ret])
              go_ret
              exact ⟨by rw [HR.out]; rfl, HB3.out⟩
          · have hx : ∀ W, (Instr.index 119 (.agg #[.int .i64 f.seq, .int .i64 1, .int .i64 1099511627776, .int .i64 f.inc, .int .i64 0, .int .i64 1048576, .int .i64 f.of, .int .i64 1, .int .i64 2, .int .i64 f.part, .int .i64 0, .int .i64 (less1 f.of), .int .i64 f.load.length, .int .i64 (fewest f), .int .i64 45]) (.int .i64 2)).run Tryd.prog W = .ok (.agg #[.int .i64 f.of, .int .i64 1, .int .i64 2]) W := fun W => by
              have h := run_index_agg (P := Tryd.prog) W 119 86 5 3 2 #[.int .i64 f.seq, .int .i64 1, .int .i64 1099511627776, .int .i64 f.inc, .int .i64 0, .int .i64 1048576, .int .i64 f.of, .int .i64 1, .int .i64 2, .int .i64 f.part, .int .i64 0, .int .i64 (less1 f.of), .int .i64 f.load.length, .int .i64 (fewest f), .int .i64 45] Tryd.underlying119 _ Tryd.underlying86 rfl Tryd.info86 (by omega)
              simpa using h
            have hh := fun W => holds_any f.of 1 2 W
            rw [show (decide (1 ≤ f.of) && decide (f.of ≤ 2)) = bOK f 2 from rfl] at hh
            cases hq : bOK f 2 with
            | true =>
              rw [hq] at hh
              have HH := Lib.hid hh
              have HQ2 := Lib.hid (show ∀ q, q < 2 + 1 → bOK f q = true from fun q h => by
                by_cases h' : q = 2
                · rw [h']; exact hq
                · exact HQ.out q (by omega))
              clear hq hh
              go_wp2_with fail
              refine (HH.out _).mono ?_
              rintro e w3 ⟨rfl, hb3⟩
              have HB3 := Lib.hid ((HBX.out.alloc HBX.out.size _).trans (hb3.mono (by have := HBX.out.size; simp; omega)))
              clear hb3
              go_wp2
              go_roundg g2
              case measure => omega
              case rel => exact ⟨2 + 1, by have := HJ.out; omega, rfl, rfl, HQ2.out, HB3.out⟩
            | false =>
              rw [hq] at hh
              have HH := Lib.hid hh
              have HR := Lib.hid (HN.out (HNot.out 2 (by omega) hq))
              clear hq hh
              go_wp2_with fail
              refine (HH.out _).mono ?_
              rintro e w3 ⟨rfl, hb3⟩
              have HB3 := Lib.hid ((HBX.out.alloc HBX.out.size _).trans (hb3.mono (by have := HBX.out.size; simp; omega)))
              clear hb3
              go_wp2
              (try rw [Exit.noGoto_ret])
              go_ret
              exact ⟨by rw [HR.out]; rfl, HB3.out⟩
          · have hx : ∀ W, (Instr.index 119 (.agg #[.int .i64 f.seq, .int .i64 1, .int .i64 1099511627776, .int .i64 f.inc, .int .i64 0, .int .i64 1048576, .int .i64 f.of, .int .i64 1, .int .i64 2, .int .i64 f.part, .int .i64 0, .int .i64 (less1 f.of), .int .i64 f.load.length, .int .i64 (fewest f), .int .i64 45]) (.int .i64 3)).run Tryd.prog W = .ok (.agg #[.int .i64 f.part, .int .i64 0, .int .i64 (less1 f.of)]) W := fun W => by
              have h := run_index_agg (P := Tryd.prog) W 119 86 5 3 3 #[.int .i64 f.seq, .int .i64 1, .int .i64 1099511627776, .int .i64 f.inc, .int .i64 0, .int .i64 1048576, .int .i64 f.of, .int .i64 1, .int .i64 2, .int .i64 f.part, .int .i64 0, .int .i64 (less1 f.of), .int .i64 f.load.length, .int .i64 (fewest f), .int .i64 45] Tryd.underlying119 _ Tryd.underlying86 rfl Tryd.info86 (by omega)
              simpa using h
            have hh := fun W => holds_any f.part 0 (less1 f.of) W
            rw [show (decide (0 ≤ f.part) && decide (f.part ≤ (less1 f.of))) = bOK f 3 from rfl] at hh
            cases hq : bOK f 3 with
            | true =>
              rw [hq] at hh
              have HH := Lib.hid hh
              have HQ2 := Lib.hid (show ∀ q, q < 3 + 1 → bOK f q = true from fun q h => by
                by_cases h' : q = 3
                · rw [h']; exact hq
                · exact HQ.out q (by omega))
              clear hq hh
              go_wp2_with fail
              refine (HH.out _).mono ?_
              rintro e w3 ⟨rfl, hb3⟩
              have HB3 := Lib.hid ((HBX.out.alloc HBX.out.size _).trans (hb3.mono (by have := HBX.out.size; simp; omega)))
              clear hb3
              go_wp2
              go_roundg g2
              case measure => omega
              case rel => exact ⟨3 + 1, by have := HJ.out; omega, rfl, rfl, HQ2.out, HB3.out⟩
            | false =>
              rw [hq] at hh
              have HH := Lib.hid hh
              have HR := Lib.hid (HN.out (HNot.out 3 (by omega) hq))
              clear hq hh
              go_wp2_with fail
              refine (HH.out _).mono ?_
              rintro e w3 ⟨rfl, hb3⟩
              have HB3 := Lib.hid ((HBX.out.alloc HBX.out.size _).trans (hb3.mono (by have := HBX.out.size; simp; omega)))
              clear hb3
              go_wp2
              (try rw [Exit.noGoto_ret])
              go_ret
              exact ⟨by rw [HR.out]; rfl, HB3.out⟩
          · have hx : ∀ W, (Instr.index 119 (.agg #[.int .i64 f.seq, .int .i64 1, .int .i64 1099511627776, .int .i64 f.inc, .int .i64 0, .int .i64 1048576, .int .i64 f.of, .int .i64 1, .int .i64 2, .int .i64 f.part, .int .i64 0, .int .i64 (less1 f.of), .int .i64 f.load.length, .int .i64 (fewest f), .int .i64 45]) (.int .i64 4)).run Tryd.prog W = .ok (.agg #[.int .i64 (f.load.length:Int), .int .i64 (fewest f), .int .i64 45]) W := fun W => by
              have h := run_index_agg (P := Tryd.prog) W 119 86 5 3 4 #[.int .i64 f.seq, .int .i64 1, .int .i64 1099511627776, .int .i64 f.inc, .int .i64 0, .int .i64 1048576, .int .i64 f.of, .int .i64 1, .int .i64 2, .int .i64 f.part, .int .i64 0, .int .i64 (less1 f.of), .int .i64 f.load.length, .int .i64 (fewest f), .int .i64 45] Tryd.underlying119 _ Tryd.underlying86 rfl Tryd.info86 (by omega)
              simpa using h
            have hh := fun W => holds_any (f.load.length:Int) (fewest f) 45 W
            rw [show (decide ((fewest f) ≤ (f.load.length:Int)) && decide ((f.load.length:Int) ≤ 45)) = bOK f 4 from rfl] at hh
            cases hq : bOK f 4 with
            | true =>
              rw [hq] at hh
              have HH := Lib.hid hh
              have HQ2 := Lib.hid (show ∀ q, q < 4 + 1 → bOK f q = true from fun q h => by
                by_cases h' : q = 4
                · rw [h']; exact hq
                · exact HQ.out q (by omega))
              clear hq hh
              go_wp2_with fail
              refine (HH.out _).mono ?_
              rintro e w3 ⟨rfl, hb3⟩
              have HB3 := Lib.hid ((HBX.out.alloc HBX.out.size _).trans (hb3.mono (by have := HBX.out.size; simp; omega)))
              clear hb3
              go_wp2
              go_roundg g2
              case measure => omega
              case rel => exact ⟨4 + 1, by have := HJ.out; omega, rfl, rfl, HQ2.out, HB3.out⟩
            | false =>
              rw [hq] at hh
              have HH := Lib.hid hh
              have HR := Lib.hid (HN.out (HNot.out 4 (by omega) hq))
              clear hq hh
              go_wp2_with fail
              refine (HH.out _).mono ?_
              rintro e w3 ⟨rfl, hb3⟩
              have HB3 := Lib.hid ((HBX.out.alloc HBX.out.size _).trans (hb3.mono (by have := HBX.out.size; simp; omega)))
              clear hb3
              go_wp2
              (try rw [Exit.noGoto_ret])
              go_ret
              exact ⟨by rw [HR.out]; rfl, HB3.out⟩
        | zero =>
          obtain rfl : j = 5 := by have := HJ.out; omega
          have HM2 := Lib.hid (HM.out (HMay.out HQ.out))
          go_wp2
          go_roundg g
          case measure => omega
          case rel => exact ⟨k + 1, by have := HK.out; omega, by go_num, rfl, HM2.out, HBX.out⟩
    | zero =>
      obtain rfl : k = fs.length := by have := HK.out; omega
      have hr := HL.out
      rw [List.take_length] at hr
      have HR := Lib.hid hr
      clear hr HL
      go_wp2
      (try rw [Exit.noGoto_ret])
      go_ret
      exact ⟨by rw [HR.out]; rfl, HB.out⟩

set_option maxHeartbeats 1000000 in
theorem may_any (f : Fr) (A : Option Addr) (c : Nat) (w : World) (h : FrV w w.heap.size (frv A c f) f) :
    Calls Tryd.prog 57 #[.agg (frv A c f).toArray] w fun e w' => e = .returned (.bool (mayB f)) ∧ Below w.heap.size w w' := by
  have g1 := heap_alloc2_new w (.cells (frv A c f).toArray 54) (.cells (frv A c f).toArray 54)
  have hb := ((Below.refl w.heap.size w).alloc (Nat.le_refl _) (.cells (frv A c f).toArray 54)).alloc (by simp) (.cells (frv A c f).toArray 54)
  have hz : ((w.alloc (.cells (frv A c f).toArray 54)).alloc (.cells (frv A c f).toArray 54)).heap.size = w.heap.size + 2 := by simp
  have hH := allMay_any [f] (some ⟨w.heap.size + 1, 0, none⟩) 1 _ (Frs.one g1 (by omega) ((h.below hb (Nat.le_refl _)).mono (by omega))) (by simp)
  have H := Lib.hid hH
  have HB := Lib.hid hb
  have HZ := Lib.hid hz
  clear g1 hb hz h hH
  simp only [List.all_cons, List.all_nil, Bool.and_true, List.length_singleton] at H
  unfold frv at *
  go_enter Tryd.func57, Tryd.ntmps57
  go_wp2_with fail
  refine H.out.mono ?_
  rintro e w2 ⟨rfl, hb2⟩
  have HB2 := Lib.hid (HB.out.trans (hb2.mono (by have := HZ.out; omega)))
  clear hb2
  go_wp2
  go_ret
  exact ⟨rfl, HB2.out⟩
end Go.Proofs.YtkajcgpkldofjaaDoor.Fm
end

section
/-
  Numbers of w bytes: fits, digits, and back.
-/
namespace Go.Proofs.YtkajcgpkldofjaaDoor
set_option maxRecDepth 100000
open Go.RowKit

/-- is n a number of z bytes? -/
def fits (n z : Int) : Bool := decide (1 ≤ z ∧ z ≤ 6 ∧ 0 ≤ n ∧ n < 2 ^ (8 * z.toNat))
/-- is z a width? -/
def wid (z : Int) : Bool := decide (1 ≤ z ∧ z ≤ 6)
theorem bool_ret {a b : Bool} (h : a = b) : Ending.returned (.bool a) = .returned (.bool b) := by rw [h]

set_option maxHeartbeats 400000 in
theorem isWidth_any (z : Int) (w : World) :
    Calls Tryd.prog 75 #[.int .i64 z] w fun e w' => e = .returned (.bool (wid z)) ∧ w = w' := by
  have hw : wid z = (decide (1 ≤ z) && decide (z ≤ 6)) := by unfold wid; rw [Bool.eq_iff_iff]; simp
  rw [hw]
  by_cases h1 : 1 ≤ z
  all_goals
    go_enter Tryd.func75, Tryd.ntmps75
    go_wp2
    go_ret
    exact ⟨bool_ret (by simp [h1]; try omega), rfl⟩
theorem width_cases {z : Int} (h : 1 ≤ z ∧ z ≤ 6) : z = 1 ∨ z = 2 ∨ z = 3 ∨ z = 4 ∨ z = 5 ∨ z = 6 := by omega
set_option maxHeartbeats 400000 in
theorem fits_any (n z : Int) (w : World) :
    Calls Tryd.prog 72 #[.int .i64 n, .int .i64 z] w fun e w' => e = .returned (.bool (fits n z)) ∧ w = w' := by
  have hw := Lib.hid (isWidth_any z)
  by_cases h : 1 ≤ z ∧ z ≤ 6
  · have hd : wid z = true := by unfold wid; simp; omega
    rw [hd] at hw
    rcases width_cases h with rfl | rfl | rfl | rfl | rfl | rfl
    all_goals
      clear h hd
      by_cases h0 : 0 ≤ n
      all_goals
        go_enter Tryd.func72, Tryd.ntmps72
        go_wp2_with fail
        refine (hw.out _).mono ?_
        rintro e w1 ⟨rfl, rfl⟩
        go_wp2
        go_ret
        exact ⟨bool_ret (by unfold fits; rw [Bool.eq_iff_iff]; simp [h0]; try omega), rfl⟩
  · have hf : fits n z = false := by unfold fits; simp; omega
    have hd : wid z = false := by unfold wid; simp; omega
    rw [hf]
    rw [hd] at hw
    go_enter Tryd.func72, Tryd.ntmps72
    go_wp2_with fail
    refine (hw.out _).mono ?_
    rintro e w1 ⟨rfl, rfl⟩
    go_wp2
    go_ret
    exact ⟨rfl, rfl⟩

/-- the digits, the lowest first -/
def dig (n : Nat) : Nat → List Nat
  | 0 => []
  | k + 1 => n % 256 :: dig (n / 256) k
/-- the number that has these digits -/
def num : List Nat → Nat
  | [] => 0
  | b :: t => b + 256 * num t
theorem dig_length (k : Nat) : ∀ n, (dig n k).length = k := by
  induction k with
  | zero => intro n; rfl
  | succ k ih => intro n; simp [dig, ih]
theorem dig_lt (k : Nat) : ∀ n, ∀ x ∈ dig n k, x < 256 := by
  induction k with
  | zero => intro n x h; cases h
  | succ k ih =>
    intro n x h
    rcases List.mem_cons.1 h with rfl | h
    · omega
    · exact ih _ x h
theorem num_dig (k : Nat) : ∀ n, n < 256 ^ k → num (dig n k) = n := by
  induction k with
  | zero => intro n h; simp at h; simp [dig, num, h]
  | succ k ih =>
    intro n h
    rw [Nat.pow_succ] at h
    rw [dig, num, ih _ (by omega)]
    omega
theorem dig_succ (k : Nat) : ∀ n, dig n (k + 1) = dig n k ++ [n / 256 ^ k % 256] := by
  induction k with
  | zero => intro n; simp [dig]
  | succ k ih =>
    intro n
    rw [dig, ih, dig, List.cons_append, Nat.div_div_eq_div_mul, Nat.pow_succ, Nat.mul_comm 256]
theorem num_snoc (b : Nat) : ∀ l : List Nat, num (l ++ [b]) = num l + 256 ^ l.length * b := by
  intro l
  induction l with
  | nil => simp [num]
  | cons a t ih =>
    rw [List.cons_append, num, ih, num, List.length_cons, Nat.pow_succ, Nat.mul_add, ← Nat.add_assoc, Nat.mul_right_comm, Nat.mul_comm (256 ^ t.length * b), Nat.mul_comm 256]
theorem num_lt : ∀ l : List Nat, (∀ x ∈ l, x < 256) → num l < 256 ^ l.length := by
  intro l
  induction l with
  | nil => intro _; simp [num]
  | cons a t ih =>
    intro h
    have h1 := h a (List.mem_cons_self ..)
    have h2 := ih fun x hx => h x (List.mem_cons_of_mem _ hx)
    rw [List.length_cons, Nat.pow_succ, num]
    omega
theorem pow_w (m : Nat) : (2 : Int) ^ (8 * m) = ((256 ^ m : Nat) : Int) := by
  rw [show (256 : Nat) = 2 ^ 8 from rfl, ← Nat.pow_mul]
  exact (Int.natCast_pow 2 (8 * m)).symm
theorem fits_yes {n m : Nat} (h1 : 1 ≤ m) (h6 : m ≤ 6) (hn : n < 256 ^ m) : fits n m = true := by
  unfold fits
  rw [decide_eq_true_eq, Int.toNat_natCast, pow_w]
  omega
theorem fits_of {n z : Int} (h : fits n z = true) : ∃ x m : Nat, n = x ∧ z = m ∧ 1 ≤ m ∧ m ≤ 6 ∧ x < 256 ^ m := by
  unfold fits at h
  rw [decide_eq_true_eq] at h
  obtain ⟨h1, h2, h3, h4⟩ := h
  obtain ⟨x, rfl⟩ := Int.eq_ofNat_of_zero_le h3
  obtain ⟨m, rfl⟩ := Int.eq_ofNat_of_zero_le (show 0 ≤ z by omega)
  rw [Int.toNat_natCast, pow_w] at h4
  exact ⟨x, m, rfl, rfl, by omega, by omega, by omega⟩
theorem pow_le6 {m : Nat} (h : m ≤ 6) : 256 ^ m ≤ 281474976710656 := by
  have := Nat.pow_le_pow_right (show 0 < 256 by omega) h
  exact this
theorem or_hi (k n b : Nat) (hn : n < 256 ^ k) (hb : b < 256) (hk : k < 6) : bits .or .i64 (n : Int) ((b * 256 ^ k : Nat) : Int) = ((n + 256 ^ k * b : Nat) : Int) := by
  have h1 := pow_le6 (show k ≤ 6 by omega)
  have h2 := pow_le6 (show k + 1 ≤ 6 by omega)
  rw [Nat.pow_succ] at h2
  have h3 : b * 256 ^ k ≤ 256 * 256 ^ k := Nat.mul_le_mul_right _ (by omega)
  have e : n ||| b * 256 ^ k = n + 256 ^ k * b := by
    have hp : 256 ^ k = 2 ^ (8 * k) := by rw [show (256 : Nat) = 2 ^ 8 from rfl, ← Nat.pow_mul]
    rw [hp] at hn ⊢
    have := Nat.shiftLeft_add_eq_or_of_lt hn b
    rw [Nat.shiftLeft_eq] at this
    rw [Nat.or_comm, ← this, Nat.add_comm, Nat.mul_comm]
  rw [i64_or_nat _ _ (by omega) (by omega), e]
theorem or_lo (n b : Nat) (hn : n < 1099511627776) (hb : b < 256) : bits .or .i64 ((n * 256 : Nat) : Int) (b : Int) = ((b + 256 * n : Nat) : Int) := by
  have e : n * 256 ||| b = b + 256 * n := by
    have := Nat.shiftLeft_add_eq_or_of_lt (i := 8) hb n
    rw [Nat.shiftLeft_eq] at this
    rw [show n * 256 = n * 2 ^ 8 from rfl, ← this]
    omega
  rw [i64_or_nat _ _ (by omega) (by omega), e]
theorem and_low (n : Nat) (hn : n < 281474976710656) : bits .and .i64 (n : Int) 255 = ((n % 256 : Nat) : Int) := by
  have h := i64_and_nat n 255 (by omega) (by omega)
  rwa [nat_mask8] at h
end Go.Proofs.YtkajcgpkldofjaaDoor
end

section
/-
  Put, of the program, by contract.
-/
namespace Go.Proofs.YtkajcgpkldofjaaDoor
set_option maxRecDepth 100000
open Go.RowKit

theorem copied (bs ds : List Value) (Z : List Value) (hZ : Z.length = bs.length + ds.length) : splice (splice Z 0 bs) bs.length ds = bs ++ ds := by
  have := splice_splice_splice Z bs ds [] bs.length ds.length rfl rfl (by simp [hZ])
  rw [List.append_nil] at this
  rw [← this]
  have hl : (splice (splice Z 0 bs) bs.length ds).length = bs.length + ds.length := by
    rw [length_splice, length_splice, hZ] <;> simp [length_splice, hZ]
  generalize splice (splice Z 0 bs) bs.length ds = Y at hl
  unfold splice
  simp only [List.length_nil, Nat.add_zero, List.nil_append, List.take_append_drop]

/-- a block of n zero bytes -/
theorem made_zeros (n : Nat) : ∃ Z : List Value, madeCells #[.int .u8 0] n = Z.toArray ∧ Z.length = n := ⟨(madeCells #[.int .u8 0] n).toList, by simp, by simp [size_madeCells]⟩
theorem Tryd.size5 : (Tryd.prog.info? 5).map (·.size) = some 1 := by kernel_rfl


theorem New.of_row {w w' : World} {bs : List Nat} {g : Nat} (hg : w'.heap[g]? = some (.cells (vals bs).toArray 5 (0, 0))) (hge : w.heap.size ≤ g) (hb : Below w.heap.size w w') (hl : bs.length ≤ maxLen) :
    New w w' bs (.slice (some ⟨g, 0, none⟩) bs.length bs.length) :=
  ⟨⟨by rw [vals_length, Nat.mul_one], Or.inr ⟨g, bs.length, _, rfl, hge, hg, Nat.le_refl _, hl, by simp [vals_length], by simp [vals_length, List.take_of_length_le]⟩⟩, hb⟩

set_option maxHeartbeats 400000 in
theorem behind_any (bs ds : List Nat) (A D : Option Addr) (c cd : Nat) (w : World) (hA : By w w.heap.size A bs) (hD : By w w.heap.size D ds) (hl : bs.length + ds.length ≤ 1000000000) :
    Calls Tryd.prog 73 #[.slice A bs.length c, .slice D ds.length cd] w fun e w' => ∃ v, e = .returned v ∧ New w w' (bs ++ ds) v := by
  have hmk := run_make_row' (P := Tryd.prog) 24 5 (.int .u8 0) 1 Tryd.underlying24 Tryd.info5 rfl .i64 .i64 (bs.length + ds.length) (by omega) (by omega)
  rw [show ((bs.length + ds.length : Nat) : Int) = (bs.length : Int) + (ds.length : Int) by omega] at hmk
  obtain ⟨Z, hZ, hZl⟩ := made_zeros (bs.length + ds.length)
  rw [hZ] at hmk
  have HB := Lib.hid (Below.refl w.heap.size w)
  have n1 := Lib.hid (vals_length bs)
  have n2 := Lib.hid (vals_length ds)
  have ZL := Lib.hid hZl
  have H0 := Lib.hid (heap_alloc_new w (.cells Z.toArray 5))
  have B0 := Lib.hid ((Below.refl w.heap.size w).alloc (Nat.le_refl _) (.cells Z.toArray 5))
  have A0 := Lib.hid ((hA.below B0.out (Nat.le_refl _)).src)
  have HC := Lib.hid (show splice (splice Z 0 (vals bs)) bs.length (vals ds) = vals (bs ++ ds) by
    have h := copied (vals bs) (vals ds) Z (by rw [hZl, vals_length, vals_length])
    rw [vals_length] at h
    rw [h, vals_append])
  have HD := Lib.hid hD
  have HP := Lib.hid (show (bs ++ ds).length = bs.length + ds.length from List.length_append)
  generalize bs ++ ds = P at HC HP ⊢
  clear hZ hZl hA hD HB
  go_enter Tryd.func73, Tryd.ntmps73
  go_wp2_with (first
    | (with_reducible refine wpList_copy_splice rfl (.tmp 13) (.tmp 14) 24 24 rfl 5 Tryd.underlying24 Tryd.size5 _ _ _ _ _ _ rfl rfl w.heap.size 0 Z 5 H0.out (vals bs) (by rw [n1.out]; simp only [Nat.min_def]; split <;> omega) (fun h => ⟨rfl, A0.out h⟩) (by rw [n1.out, ZL.out]; omega) vals_one w.heap.size w B0.out (Nat.le_refl _) ?_; intro w2 hg2 hb2; rw [n1.out])
    | (with_reducible refine wpList_copy_splice rfl (.tmp 18) (.tmp 19) 24 24 rfl 5 Tryd.underlying24 Tryd.size5 _ _ _ _ _ _ rfl rfl w.heap.size bs.length (splice Z 0 (vals bs)) 5 hg2.out (vals ds) (by rw [n2.out]; simp only [Nat.min_def]; split <;> omega) (by
        intro h
        have h' := h
        rw [n2.out] at h'
        have e := List.length_pos_iff.1 h'
        exact ⟨by simp [e], (HD.out.below hb2 (Nat.le_refl _)).src h⟩) (by rw [length_splice _ _ _ (by rw [n1.out, ZL.out]; omega), n2.out, ZL.out]; omega) vals_one w.heap.size w hb2 (Nat.le_refl _) ?_; intro w3 hg3 hb3; rw [HC.out] at hg3))
  all_goals
    go_ret
    have hr := New.of_row hg3.out (Nat.le_refl _) hb3 (by rw [HP.out]; unfold maxLen; omega)
    rw [HP.out] at hr
    refine ⟨_, ?_, hr⟩
    simp_all

/-- the array of digits behind k rounds -/
def digRow (n k : Nat) : Array Value := (vals (dig n k ++ List.replicate (6 - k) 0)).toArray
theorem digRow_size (n k : Nat) (h : k ≤ 6) : (digRow n k).size = 6 := by simp [digRow, vals_length, dig_length]; omega
theorem digRow_set (n k : Nat) (h : k < 6) : (digRow n k).setIfInBounds k (.int .u8 (n / 256 ^ k % 256 : Nat)) = digRow n (k + 1) := by
  unfold digRow
  rw [dig_succ, show 6 - k = (6 - (k + 1)) + 1 by omega, List.replicate_succ, List.append_assoc]
  simp [vals, dig_length, List.set_append]
theorem digRow_take (n k : Nat) : (digRow n k).toList.take (dig n k).length = vals (dig n k) := by
  unfold digRow
  rw [vals_append]
  simp [vals_length, List.take_append]
theorem digRow_zero (n : Nat) : digRow n 0 = #[.int .u8 0, .int .u8 0, .int .u8 0, .int .u8 0, .int .u8 0, .int .u8 0] := rfl
theorem six_cases {k : Nat} (h : k < 6) : k = 0 ∨ k = 1 ∨ k = 2 ∨ k = 3 ∨ k = 4 ∨ k = 5 := by omega

set_option maxHeartbeats 400000 in
theorem put_yes (bs : List Nat) (n m : Nat) (hn : n < 256 ^ m) (hm : 1 ≤ m) (hm6 : m ≤ 6) (A : Option Addr) (c : Nat) (w : World) (hA : By w w.heap.size A bs) (hl : bs.length ≤ 100000000) :
    Calls Tryd.prog 67 #[.slice A bs.length c, .int .i64 (n : Int), .int .i64 (m : Int)] w fun e w' => ∃ v, e = .returned (.tuple #[v, .int .i64 0]) ∧ New w w' (bs ++ dig n m) v := by
  have hf := fits_yes hm hm6 hn
  have hw := Lib.hid (fits_any n m)
  rw [hf] at hw
  have hn48 : n < 281474976710656 := Nat.lt_of_lt_of_le hn (pow_le6 hm6)
  have HA := Lib.hid hA
  clear hn hf hA
  go_enter Tryd.func67, Tryd.ntmps67
  go_wp2_with fail
  refine (hw.out _).mono ?_
  rintro e w1 ⟨rfl, rfl⟩
  go_wp2
  go_loopw [9, 15] (fun _ i wr => ∃ k : Nat, k ≤ m ∧ i = .int .i64 k ∧ wr.heap[w.heap.size]? = some (.cells (digRow n k) 135 (0, 0)) ∧ Below w.heap.size w wr) (fun _ i _ => m - (intOf i).toNat)
  case atStart =>
    refine ⟨0, by omega, rfl, ?_, (Below.refl _ _).alloc (Nat.le_refl _) _⟩
    rw [digRow_zero]
    exact heap_alloc_new w _
  case round =>
    obtain ⟨k, hk, rfl, h0, hb⟩ := hrel
    by_cases hlt : k < m
    · have hk6 : k < 6 := by omega
      obtain ⟨v, hc⟩ : ∃ v, wr.cell? ⟨w.heap.size, k, none⟩ = some v := ⟨(digRow n k)[k]'(by rw [digRow_size _ _ (by omega)]; exact hk6), by rw [cell_of_row wr _ k _ _ _ h0]; simp⟩
      have hfr := frozen_of_row wr w.heap.size k _ _ h0
      have HN := Lib.hid ((heap_setCell_same wr w.heap.size k _ _ (.int .u8 (n / 256 ^ k % 256 : Nat)) h0).trans (by rw [digRow_set n k hk6]))
      have HB := Lib.hid (hb.setCell (p := ⟨w.heap.size, k, none⟩) (Nat.le_refl _) (.int .u8 (n / 256 ^ k % 256 : Nat)))
      clear h0 hb
      rcases six_cases hk6 with rfl | rfl | rfl | rfl | rfl | rfl
      · rw [show ((n / 256 ^ 0 % 256 : Nat) : Int) = (n : Int) % 256 by omega] at HN HB
        go_wp2
        exact ⟨⟨1, by omega, rfl, HN.out, HB.out⟩, by simp [intOf]; omega⟩
      · rw [show ((n / 256 ^ 1 % 256 : Nat) : Int) = (n : Int) / 256 % 256 by omega] at HN HB
        go_wp2
        exact ⟨⟨2, by omega, rfl, HN.out, HB.out⟩, by simp [intOf]; omega⟩
      · rw [show ((n / 256 ^ 2 % 256 : Nat) : Int) = (n : Int) / 65536 % 256 by omega] at HN HB
        go_wp2
        exact ⟨⟨3, by omega, rfl, HN.out, HB.out⟩, by simp [intOf]; omega⟩
      · rw [show ((n / 256 ^ 3 % 256 : Nat) : Int) = (n : Int) / 16777216 % 256 by omega] at HN HB
        go_wp2
        exact ⟨⟨4, by omega, rfl, HN.out, HB.out⟩, by simp [intOf]; omega⟩
      · rw [show ((n / 256 ^ 4 % 256 : Nat) : Int) = (n : Int) / 4294967296 % 256 by omega] at HN HB
        go_wp2
        exact ⟨⟨5, by omega, rfl, HN.out, HB.out⟩, by simp [intOf]; omega⟩
      · rw [show ((n / 256 ^ 5 % 256 : Nat) : Int) = (n : Int) / 1099511627776 by omega] at HN HB
        go_wp2
        exact ⟨⟨6, by omega, rfl, HN.out, HB.out⟩, by simp [intOf]; omega⟩
    · obtain rfl : k = m := by omega
      have hD : By wr (w.heap.size + 1) (some ⟨w.heap.size, 0, none⟩) (dig n k) := By.of_row h0 (digRow_take n k) (dig_lt k n)
      have hs : w.heap.size + 1 ≤ wr.heap.size := by
        rcases Nat.lt_or_ge w.heap.size wr.heap.size with h | h
        · exact h
        · rw [Array.getElem?_eq_none h] at h0; cases h0
      have HW := Lib.hid (behind_any bs (dig n k) A (some ⟨w.heap.size, 0, none⟩) c 6 wr ((HA.out.below hb (Nat.le_refl _)).mono hb.size) (hD.mono hs) (by rw [dig_length]; omega))
      rw [dig_length] at HW
      have HB := Lib.hid hb
      clear h0 hD hb
      have g0 : (0 : Int) ≤ (k : Int) := by omega
      have g6 : (k : Int) ≤ 6 := by omega
      go_wp2_with fail
      refine HW.out.mono ?_
      rintro e w3 ⟨v, rfl, hv⟩
      go_wp2
      go_ret2
      exact ⟨v, rfl, own_mono hv.1 HB.out.size, HB.out.trans (hv.2.mono HB.out.size)⟩

set_option maxHeartbeats 400000 in
theorem put_no (bs : Nat) (n z : Int) (hf : fits n z = false) (A : Option Addr) (c : Nat) (w : World) :
    Calls Tryd.prog 67 #[.slice A bs c, .int .i64 n, .int .i64 z] w fun e w' => e = .returned (.tuple #[.slice none 0 0, .int .i64 2]) ∧ w = w' := by
  have hw := Lib.hid (fits_any n z)
  rw [hf] at hw
  go_enter Tryd.func67, Tryd.ntmps67
  go_wp2_with fail
  refine (hw.out _).mono ?_
  rintro e w1 ⟨rfl, rfl⟩
  go_wp2
  go_ret2
  exact ⟨rfl, rfl⟩
end Go.Proofs.YtkajcgpkldofjaaDoor
end

section
/-
  The widths that the program lays; numbers, head, by contract.
-/
namespace Go.Proofs.YtkajcgpkldofjaaDoor.Fm
set_option maxRecDepth 100000
open Go.RowKit

/-- the table of widths lies where the program lays it -/
def Widths (w : World) : Prop :=
  0 < w.heap.size ∧ w.cell? ⟨0, 0, none⟩ = some (.int .i64 6) ∧ w.cell? ⟨0, 1, none⟩ = some (.int .i64 3) ∧ w.cell? ⟨0, 2, none⟩ = some (.int .i64 1) ∧ w.cell? ⟨0, 3, none⟩ = some (.int .i64 1) ∧ w.cell? ⟨0, 4, none⟩ = some (.int .i64 4)
theorem Widths.below {w w' : World} (h : Widths w) (hb : Below w.heap.size w w') : Widths w' := by
  obtain ⟨h0, h1, h2, h3, h4, h5⟩ := h
  exact ⟨Nat.lt_of_lt_of_le h0 hb.size, (hb.cell (by simp; omega)).trans h1, (hb.cell (by simp; omega)).trans h2, (hb.cell (by simp; omega)).trans h3, (hb.cell (by simp; omega)).trans h4, (hb.cell (by simp; omega)).trans h5⟩

/-- the numbers ahead of the load -/
def headB (f : Fr) : List Nat := dig f.seq.toNat 6 ++ dig f.inc.toNat 3 ++ dig (16 * f.part.toNat + f.of.toNat) 1 ++ dig f.load.length 1 ++ dig f.mark 4
theorem or_small (p o : Nat) (hp : p < 2) (ho : o < 3) : bits .or .i64 ((p : Int) * 16) (o : Int) = ((16 * p + o : Nat) : Int) := by
  have e : p * 16 ||| o = 16 * p + o := by
    have hp' : p = 0 ∨ p = 1 := by omega
    have ho' : o = 0 ∨ o = 1 ∨ o = 2 := by omega
    rcases hp' with rfl | rfl <;> rcases ho' with rfl | rfl | rfl <;> rfl
  have h := i64_or_nat (p * 16) o (by omega) (by omega)
  rw [e] at h
  rw [← h]; rfl
/-- a frame that may be, by natural numbers -/
theorem may_nat {f : Fr} (h : mayB f = true) : ∃ s i p o : Nat, f.seq = s ∧ f.inc = i ∧ f.part = p ∧ f.of = o ∧ 1 ≤ s ∧ s ≤ 1099511627776 ∧ i ≤ 1048576 ∧ p < 2 ∧ o < 3 ∧ p < o ∧ 1 ≤ f.load.length ∧ f.load.length ≤ 45 := by
  unfold mayB at h
  rw [decide_eq_true_eq] at h
  exact ⟨f.seq.toNat, f.inc.toNat, f.part.toNat, f.of.toNat, by omega, by omega, by omega, by omega, by omega, by omega, by omega, by omega, by omega, by omega, by omega, by omega⟩
theorem Tryd.info126 : (Tryd.prog.info? 126).map (·.size) = some 5 := by kernel_rfl

set_option maxHeartbeats 1000000 in
theorem numbers_any (f : Fr) (A : Option Addr) (c : Nat) (w : World) (hm : mayB f = true) (hk : f.mark < 4294967296) :
    Calls Tryd.prog 66 #[.agg (frv A c f).toArray] w fun e w' => e = .returned (.agg #[.int .i64 (f.seq.toNat : Nat), .int .i64 (f.inc.toNat : Nat), .int .i64 (16 * f.part.toNat + f.of.toNat : Nat), .int .i64 f.load.length, .int .i64 (f.mark : Nat)]) ∧ Below w.heap.size w w' := by
  obtain ⟨s, i, p, o, e1, e2, e3, e4, b1, b2, b3, b4, b5, b6, b7, b8⟩ := may_nat hm
  obtain ⟨seq, inc, part, of, mark, load⟩ := f
  dsimp only at e1 e2 e3 e4 b7 b8 hk ⊢
  subst e1 e2 e3 e4
  unfold frv
  simp only [Int.toNat_natCast]
  have ho := or_small p o b4 b5
  have hsh : IntKind.i64.wrap ((p : Int) * 16) = (p : Int) * 16 := by rw [IntKind.wrap_i64]; omega
  clear hm
  go_enter Tryd.func66, Tryd.ntmps66
  go_wp2
  exact bodyPost_ret (results_cell_row rfl _ _ (w.heap.size + 1) 126 _ (0, 0) _ rfl (heap_alloc2_new w _ _) Tryd.underlying126 rfl Tryd.info126) rfl ⟨by simp, ((Below.refl _ _).alloc (Nat.le_refl _) _).alloc (by simp) _⟩

/-- what head has made behind k rounds -/
def preB (f : Fr) : Nat → List Nat
  | 0 => []
  | 1 => dig f.seq.toNat 6
  | 2 => dig f.seq.toNat 6 ++ dig f.inc.toNat 3
  | 3 => dig f.seq.toNat 6 ++ dig f.inc.toNat 3 ++ dig (16 * f.part.toNat + f.of.toNat) 1
  | 4 => dig f.seq.toNat 6 ++ dig f.inc.toNat 3 ++ dig (16 * f.part.toNat + f.of.toNat) 1 ++ dig f.load.length 1
  | _ => headB f
theorem pre_le (f : Fr) (k : Nat) : (preB f k).length ≤ 15 := by
  match k with
  | 0 => simp [preB]
  | 1 => simp [preB, dig_length]
  | 2 => simp [preB, dig_length]
  | 3 => simp [preB, dig_length]
  | 4 => simp [preB, dig_length]
  | _ + 5 => simp [preB, headB, dig_length]
theorem pre_lt (f : Fr) (k : Nat) : ∀ x ∈ preB f k, x < 256 := by
  have h : ∀ x ∈ headB f, x < 256 := by
    intro x hx
    simp only [headB, List.mem_append] at hx
    rcases hx with ((((hx | hx) | hx) | hx) | hx) <;> exact dig_lt _ _ x hx
  intro x hx
  apply h
  match k with
  | 0 => simp [preB] at hx
  | 1 => simp only [preB] at hx; simp [headB, hx]
  | 2 => simp only [preB] at hx; simp only [headB, List.mem_append] at hx ⊢; simp [hx]
  | 3 => simp only [preB] at hx; simp only [headB, List.mem_append] at hx ⊢; simp [hx]
  | 4 => simp only [preB] at hx; simp only [headB, List.mem_append] at hx ⊢; simp [hx]
  | _ + 5 => simpa [preB] using hx
theorem headB_length (f : Fr) : (headB f).length = 15 := by simp [headB, dig_length]

set_option maxRecDepth 100000 in
set_option maxHeartbeats 2000000 in
theorem head_any (f : Fr) (A : Option Addr) (c : Nat) (w : World) (hm : mayB f = true) (hk : f.mark < 4294967296) (hW : Widths w) :
    Calls Tryd.prog 58 #[.agg (frv A c f).toArray] w fun e w' => ∃ A' c', e = .returned (.slice A' 15 c') ∧ By w' w'.heap.size A' (headB f) ∧ Below w.heap.size w w' := by
  obtain ⟨s', i', p, o, e1, e2, e3, e4, b1, b2, b3, b4, b5, b6, b7, b8⟩ := may_nat hm
  have HNum := Lib.hid (numbers_any f A c (w.alloc (.cells (frv A c f).toArray 54)) hm hk)
  have HPre := Lib.hid (headB_length f)
  have HL := Lib.hid (pre_le f)
  have HX := Lib.hid (pre_lt f)
  have HH := Lib.hid (show preB f 5 = headB f from rfl)
  have hN0 : preB f 0 ++ dig f.seq.toNat 6 = preB f 1 := rfl
  have hN1 : preB f 1 ++ dig f.inc.toNat 3 = preB f 2 := rfl
  have hN2 : preB f 2 ++ dig (16 * f.part.toNat + f.of.toNat) 1 = preB f 3 := rfl
  have hN3 : preB f 3 ++ dig f.load.length 1 = preB f 4 := rfl
  have hN4 : preB f 4 ++ dig f.mark 4 = preB f 5 := rfl
  have hs : f.seq.toNat < 256 ^ 6 := by have : (256 : Nat) ^ 6 = 281474976710656 := by decide
                                        omega
  have hi : f.inc.toNat < 256 ^ 3 := by have : (256 : Nat) ^ 3 = 16777216 := by decide
                                        omega
  have hp : 16 * f.part.toNat + f.of.toNat < 256 ^ 1 := by omega
  have hl : f.load.length < 256 ^ 1 := by omega
  have hk4 : f.mark < 256 ^ 4 := by have : (256 : Nat) ^ 4 = 4294967296 := by decide
                                    omega
  have HB0 := Lib.hid ((Below.refl w.heap.size w).alloc (Nat.le_refl _) (.cells (frv A c f).toArray 54))
  have HW := Lib.hid hW
  have h0 : preB f 0 = [] := rfl
  generalize f.seq.toNat = s at *
  generalize f.inc.toNat = i at *
  generalize 16 * f.part.toNat + f.of.toNat = po at *
  have hlen : (f.load.length : Int) = ((f.load.length : Nat) : Int) := rfl
  unfold frv at *
  generalize hL : f.load.length = l at *
  generalize f.mark = m at *
  generalize preB f = P at *
  generalize headB f = H at *
  have HN0 := Lib.hid hN0
  have HN1 := Lib.hid hN1
  have HN2 := Lib.hid hN2
  have HN3 := Lib.hid hN3
  have HN4 := Lib.hid hN4
  have HP0 := Lib.hid h0
  clear hm e1 e2 e3 e4 hN0 hN1 hN2 hN3 hN4 h0 hW hlen hL
  go_enter Tryd.func58, Tryd.ntmps58
  go_wp2_with fail
  refine HNum.out.mono ?_
  rintro e w1 ⟨rfl, hb1⟩
  have HB1 := Lib.hid (HB0.out.trans (hb1.mono HB0.out.size))
  clear hb1 HNum
  go_wp2
  go_loopw [3, 8] (fun v q wr => ∃ k : Nat, k ≤ 5 ∧ q = .int .i64 k ∧ ∃ A' c', v = .slice A' (P k).length c' ∧ By wr wr.heap.size A' (P k) ∧ Below w.heap.size w wr) (fun _ q _ => 5 - (intOf q).toNat)
  case atStart => exact ⟨0, by omega, rfl, none, 0, by rw [HP0.out]; rfl, by rw [HP0.out]; exact By.nil_, HB1.out⟩
  case round =>
    obtain ⟨k, hk', rfl, A', c', rfl, hy, hb⟩ := hrel
    have HY := Lib.hid hy
    have HB := Lib.hid hb
    obtain ⟨_, t0, t1, t2, t3, t4⟩ := HW.out.below hb
    clear hy hb
    by_cases hlt : k < 5
    · rcases five_ways hlt with rfl | rfl | rfl | rfl | rfl
      · have hx : ∀ W, (Instr.index 126 (.agg #[.int .i64 s, .int .i64 i, .int .i64 po, .int .i64 l, .int .i64 m]) (.int .i64 0)).run Tryd.prog W = .ok (.int .i64 s) W := fun W =>
          run_index_cell (P := Tryd.prog) W 126 3 5 0 #[.int .i64 s, .int .i64 i, .int .i64 po, .int .i64 l, .int .i64 m] Tryd.underlying126 .i64 Tryd.underlying3 (by kernel_rfl) (by omega) _ rfl
        have HP := Lib.hid (put_yes (P 0) s 6 hs (by omega) (by omega) A' c' wr HY.out (by have := HL.out 0; omega))
        rw [HN0.out] at HP
        go_wp2_with fail
        refine HP.out.mono ?_
        rintro e w2 ⟨v, rfl, hv⟩
        have hb2 := hv.2
        obtain ⟨A2, c2, rfl, hy2, _⟩ := hv.slice (HX.out _)
        have HY2 := Lib.hid hy2
        have HB2 := Lib.hid (HB.out.trans (hb2.mono HB.out.size))
        clear hv hy2 hb2
        go_wp2
        go_roundw
        case rel => exact ⟨0 + 1, by omega, by go_num, A2, c2, rfl, HY2.out, HB2.out⟩
        case measure => simp [intOf]
      · have hx : ∀ W, (Instr.index 126 (.agg #[.int .i64 s, .int .i64 i, .int .i64 po, .int .i64 l, .int .i64 m]) (.int .i64 1)).run Tryd.prog W = .ok (.int .i64 i) W := fun W =>
          run_index_cell (P := Tryd.prog) W 126 3 5 1 #[.int .i64 s, .int .i64 i, .int .i64 po, .int .i64 l, .int .i64 m] Tryd.underlying126 .i64 Tryd.underlying3 (by kernel_rfl) (by omega) _ rfl
        have HP := Lib.hid (put_yes (P 1) i 3 hi (by omega) (by omega) A' c' wr HY.out (by have := HL.out 1; omega))
        rw [HN1.out] at HP
        go_wp2_with fail
        refine HP.out.mono ?_
        rintro e w2 ⟨v, rfl, hv⟩
        have hb2 := hv.2
        obtain ⟨A2, c2, rfl, hy2, _⟩ := hv.slice (HX.out _)
        have HY2 := Lib.hid hy2
        have HB2 := Lib.hid (HB.out.trans (hb2.mono HB.out.size))
        clear hv hy2 hb2
        go_wp2
        go_roundw
        case rel => exact ⟨1 + 1, by omega, by go_num, A2, c2, rfl, HY2.out, HB2.out⟩
        case measure => simp [intOf]
      · have hx : ∀ W, (Instr.index 126 (.agg #[.int .i64 s, .int .i64 i, .int .i64 po, .int .i64 l, .int .i64 m]) (.int .i64 2)).run Tryd.prog W = .ok (.int .i64 po) W := fun W =>
          run_index_cell (P := Tryd.prog) W 126 3 5 2 #[.int .i64 s, .int .i64 i, .int .i64 po, .int .i64 l, .int .i64 m] Tryd.underlying126 .i64 Tryd.underlying3 (by kernel_rfl) (by omega) _ rfl
        have HP := Lib.hid (put_yes (P 2) po 1 hp (by omega) (by omega) A' c' wr HY.out (by have := HL.out 2; omega))
        rw [HN2.out] at HP
        go_wp2_with fail
        refine HP.out.mono ?_
        rintro e w2 ⟨v, rfl, hv⟩
        have hb2 := hv.2
        obtain ⟨A2, c2, rfl, hy2, _⟩ := hv.slice (HX.out _)
        have HY2 := Lib.hid hy2
        have HB2 := Lib.hid (HB.out.trans (hb2.mono HB.out.size))
        clear hv hy2 hb2
        go_wp2
        go_roundw
        case rel => exact ⟨2 + 1, by omega, by go_num, A2, c2, rfl, HY2.out, HB2.out⟩
        case measure => simp [intOf]
      · have hx : ∀ W, (Instr.index 126 (.agg #[.int .i64 s, .int .i64 i, .int .i64 po, .int .i64 l, .int .i64 m]) (.int .i64 3)).run Tryd.prog W = .ok (.int .i64 l) W := fun W =>
          run_index_cell (P := Tryd.prog) W 126 3 5 3 #[.int .i64 s, .int .i64 i, .int .i64 po, .int .i64 l, .int .i64 m] Tryd.underlying126 .i64 Tryd.underlying3 (by kernel_rfl) (by omega) _ rfl
        have HP := Lib.hid (put_yes (P 3) l 1 hl (by omega) (by omega) A' c' wr HY.out (by have := HL.out 3; omega))
        rw [HN3.out] at HP
        go_wp2_with fail
        refine HP.out.mono ?_
        rintro e w2 ⟨v, rfl, hv⟩
        have hb2 := hv.2
        obtain ⟨A2, c2, rfl, hy2, _⟩ := hv.slice (HX.out _)
        have HY2 := Lib.hid hy2
        have HB2 := Lib.hid (HB.out.trans (hb2.mono HB.out.size))
        clear hv hy2 hb2
        go_wp2
        go_roundw
        case rel => exact ⟨3 + 1, by omega, by go_num, A2, c2, rfl, HY2.out, HB2.out⟩
        case measure => simp [intOf]
      · have hx : ∀ W, (Instr.index 126 (.agg #[.int .i64 s, .int .i64 i, .int .i64 po, .int .i64 l, .int .i64 m]) (.int .i64 4)).run Tryd.prog W = .ok (.int .i64 m) W := fun W =>
          run_index_cell (P := Tryd.prog) W 126 3 5 4 #[.int .i64 s, .int .i64 i, .int .i64 po, .int .i64 l, .int .i64 m] Tryd.underlying126 .i64 Tryd.underlying3 (by kernel_rfl) (by omega) _ rfl
        have HP := Lib.hid (put_yes (P 4) m 4 hk4 (by omega) (by omega) A' c' wr HY.out (by have := HL.out 4; omega))
        rw [HN4.out] at HP
        go_wp2_with fail
        refine HP.out.mono ?_
        rintro e w2 ⟨v, rfl, hv⟩
        have hb2 := hv.2
        obtain ⟨A2, c2, rfl, hy2, _⟩ := hv.slice (HX.out _)
        have HY2 := Lib.hid hy2
        have HB2 := Lib.hid (HB.out.trans (hb2.mono HB.out.size))
        clear hv hy2 hb2
        go_wp2
        go_roundw
        case rel => exact ⟨4 + 1, by omega, by go_num, A2, c2, rfl, HY2.out, HB2.out⟩
        case measure => simp [intOf]
    · obtain rfl : k = 5 := by omega
      have hy := HY.out
      rw [HH.out] at hy
      have HY2 := Lib.hid hy
      clear hy
      rw [HH.out, HPre.out]
      go_wp2
      go_ret
      exact ⟨A', c', rfl, HY2.out, HB.out⟩
end Go.Proofs.YtkajcgpkldofjaaDoor.Fm
end

section
/-
  load, by contract.
-/
namespace Go.Proofs.YtkajcgpkldofjaaDoor.Fm
set_option maxRecDepth 100000
open Go.RowKit

theorem splice_zero_vals (bs : List Nat) (n : Nat) (h : bs.length ≤ n) : (splice (vals (List.replicate n 0)) 0 (vals bs)).take bs.length = vals bs := by
  unfold splice
  rw [List.take_zero, List.nil_append, List.take_append_of_le_length (by rw [vals_length]; exact Nat.le_refl _), List.take_of_length_le (by rw [vals_length]; exact Nat.le_refl _)]
theorem Tryd.size5 : (Tryd.prog.info? 5).map (·.size) = some 1 := by kernel_rfl
theorem zero45 : (Tryd.prog.info? 112).map (·.zero) = some (some (.agg (vals (List.replicate 45 0)).toArray)) := by kernel_rfl

set_option maxHeartbeats 1000000 in
theorem load_any (bs : List Nat) (A : Option Addr) (c : Nat) (w : World) (hA : By w w.heap.size A bs) (hl : bs.length ≤ 45) :
    Calls Tryd.prog 39 #[.slice A bs.length c] w fun e w' => e = .returned (.slice (some ⟨w.heap.size, 0, none⟩) bs.length bs.length) ∧ By w' (w.heap.size + 1) (some ⟨w.heap.size, 0, none⟩) bs ∧ w.heap.size < w'.heap.size ∧ Below w.heap.size w w' := by
  obtain ⟨Z, hZ⟩ : ∃ Z, Z = vals (List.replicate 45 0) := ⟨_, rfl⟩
  have HZ := Lib.hid (show (Tryd.prog.info? 112).map (·.zero) = some (some (.agg Z.toArray)) by rw [hZ]; exact zero45)
  have ZL := Lib.hid (show Z.length = 45 by rw [hZ]; rfl)
  have H0 := Lib.hid (heap_alloc_new w (.cells Z.toArray 112))
  have B0 := Lib.hid ((Below.refl w.heap.size w).alloc (Nat.le_refl _) (.cells Z.toArray 112))
  have A0 := Lib.hid ((hA.below B0.out (Nat.le_refl _)).src)
  have HT := Lib.hid (show (splice Z 0 (vals bs)).take bs.length = vals bs by rw [hZ]; exact splice_zero_vals bs 45 hl)
  have HBl := Lib.hid hA.1
  have n1 := Lib.hid (vals_length bs)
  have hi : (0 : Int) ≤ (bs.length : Int) := by omega
  have hi2 : (bs.length : Int) ≤ 45 := by omega
  clear hA hZ
  go_enter Tryd.func39, Tryd.ntmps39
  go_wp2_with (first
    | (with_reducible refine wpList_alloc_any rfl 112 rfl Z.toArray HZ.out ?_)
    | (with_reducible refine wpList_copy_splice rfl (.tmp 5) (.tmp 6) 24 24 rfl 5 Tryd.underlying24 Tryd.size5 _ _ _ _ _ _ rfl rfl w.heap.size 0 Z 112 H0.out (vals bs) (by rw [n1.out]; simp only [Nat.min_def]; split <;> omega) (fun h => ⟨rfl, A0.out h⟩) (by rw [n1.out, ZL.out]; omega) vals_one w.heap.size w B0.out (Nat.le_refl _) ?_; intro w2 hg2 hb2; rw [n1.out]))
  all_goals
    go_ret
    refine ⟨?_, By.of_row hg2.out (by rw [List.toList_toArray]; exact HT.out) HBl.out, ?_, hb2⟩
    · rfl
    · rcases Nat.lt_or_ge w.heap.size w2.heap.size with h | h
      · exact h
      · have h2 := hg2.out
        rw [Array.getElem?_eq_none h] at h2
        cases h2
end Go.Proofs.YtkajcgpkldofjaaDoor.Fm
end

section
/-
  How the walk spells the arithmetic of layer 1, and what it comes to on natural numbers.
-/
namespace Go.Proofs.YtkajcgpkldofjaaDoor
set_option maxRecDepth 100000
open Go.RowKit

theorem bits_one (x : Nat) (hx : x < 4294967296) : bits .and .u32 (x : Int) 1 = ((x % 2 : Nat) : Int) := by
  have h := u32_and_nat x 1 hx (by omega)
  rw [nat_mask1] at h
  exact h
theorem bits_low (x : Nat) (hx : x < 4294967296) : bits .and .u32 (x : Int) 15 = ((x % 16 : Nat) : Int) := by
  have h := u32_and_nat x 15 hx (by omega)
  rw [nat_mask4] at h
  exact h
theorem bits_poly (x : Nat) (hx : x < 4294967296) : bits .xor .u32 ((x : Int) / 2) 3988292384 = (((x / 2) ^^^ 3988292384 : Nat) : Int) := by
  have h := u32_xor_nat (x / 2) 3988292384 (by omega) (by omega)
  rw [← h]; rfl
theorem sh_odd (x : Nat) (hx : x < 4294967296) (h : x % 2 = 1) : bits .xor .u32 ((x : Int) / 2) 3988292384 = (Crc.sh x : Nat) := by
  rw [bits_poly x hx]; unfold Crc.sh; rw [if_pos h]
theorem sh_even (x : Nat) (h : ¬ x % 2 = 1) : (x : Int) / 2 = (Crc.sh x : Nat) := by
  unfold Crc.sh; rw [if_neg h]; omega
theorem one_ne (x : Nat) (hx : x < 4294967296) (h : x % 2 = 1) : (bits .and .u32 (x : Int) 1 != 0) = true := by rw [bits_one x hx, h]; rfl
theorem one_ne' (x : Nat) (hx : x < 4294967296) (h : ¬ x % 2 = 1) : (bits .and .u32 (x : Int) 1 != 0) = false := by
  have : x % 2 = 0 := by omega
  rw [bits_one x hx, this]; rfl
theorem one_eq (x : Nat) (hx : x < 4294967296) (h : x % 2 = 1) : (bits .and .u32 (x : Int) 1 == 1) = true := by rw [bits_one x hx, h]; rfl
theorem one_eq' (x : Nat) (hx : x < 4294967296) (h : ¬ x % 2 = 1) : (bits .and .u32 (x : Int) 1 == 1) = false := by
  have : x % 2 = 0 := by omega
  rw [bits_one x hx, this]; rfl
end Go.Proofs.YtkajcgpkldofjaaDoor
end

section
namespace Go.Proofs.YtkajcgpkldofjaaDoor
set_option maxRecDepth 100000
open Go.RowKit
set_option maxHeartbeats 400000 in
theorem shift_any (x : Nat) (hx : x < 4294967296) (w : World) :
    Calls Tryd.prog 71 #[.int .u32 (x : Int)] w fun e w' => e = .returned (.int .u32 (Crc.sh x : Nat)) ∧ w = w' := by
  by_cases h : x % 2 = 1
  · have hd := one_ne x hx h
    have H := Lib.hid h; clear h
    go_enter Tryd.func71, Tryd.ntmps71
    go_wp2
    go_ret
    exact ⟨ret_int (sh_odd x hx H.out), rfl⟩
  · have hd := one_ne' x hx h
    have H := Lib.hid h; clear h
    go_enter Tryd.func71, Tryd.ntmps71
    go_wp2
    go_ret
    exact ⟨ret_int (sh_even x H.out), rfl⟩

set_option maxHeartbeats 400000 in
theorem fill_any (h g : Nat) (cs : Array Value) (w : World) (hh : h < 16) (hg : w.heap[g]? = some (.cells cs 123 (0, 0))) (hcs : cs.size = 16) :
    Calls Tryd.prog 70 #[.int .i64 (h : Int), .pointer (some ⟨g, 0, none⟩)] w fun e w' => e = .returned (.tuple #[]) ∧ w.setCell ⟨g, h, none⟩ (.int .u32 (Crc.half h : Nat)) = w' := by
  have hc : ∃ v, w.cell? ⟨g, h, none⟩ = some v := ⟨cs[h]'(by omega), by rw [cell_of_row w g h cs _ _ hg]; simp⟩
  obtain ⟨v, hc⟩ := hc
  have hf : w.frozen? ⟨g, h, none⟩ = false := frozen_of_row w g h cs _ hg
  clear hg hcs
  go_enter Tryd.func70, Tryd.ntmps70
  go_wp2
  go_loop [3, 6] (fun r i => ∃ k : Nat, k ≤ 4 ∧ i = .int .i64 k ∧ r = .int .u32 (Crc.shn k h : Nat)) (fun _ i => 4 - (intOf i).toNat)
  case atStart => exact ⟨0, by omega, rfl, rfl⟩
  case round =>
    obtain ⟨k, hk, rfl, rfl⟩ := hrel
    have hr := Crc.shn_lt k (x := h) (by omega)
    by_cases hlt : k < 4
    · go_wp2_with (go_at_call 71; refine (shift_any _ hr _).mono ?_; rintro e w' ⟨rfl, rfl⟩)
      go_round
      case rel => exact ⟨k + 1, by omega, by go_num, by rw [Crc.shn_succ]⟩
      case measure => simp [intOf]; omega
    · obtain rfl : k = 4 := by omega
      go_wp2
      go_end0
      exact ⟨rfl, rfl⟩

/-- the table behind k rounds -/
def row (k : Nat) : Array Value := ((List.range 16).map fun i => Value.int .u32 ((if i < k then Crc.half i else 0 : Nat) : Int)).toArray
theorem row_size (k : Nat) : (row k).size = 16 := by simp [row]
theorem row_set (k : Nat) : (row k).setIfInBounds k (.int .u32 (Crc.half k : Nat)) = row (k + 1) := by
  apply Array.ext
  · simp [row]
  · intro i h1 h2
    rw [Array.getElem_setIfInBounds (by simpa [row] using h2)]
    simp only [row, List.getElem_toArray, List.getElem_map, List.getElem_range]
    split
    · next e => subst e; rw [if_pos (by omega)]
    · next e =>
      congr 2
      by_cases hk : i < k
      · rw [if_pos hk, if_pos (by omega)]
      · rw [if_neg hk, if_neg (by omega)]
theorem row_get (i : Nat) (h : i < 16) : (row 16)[i]? = some (.int .u32 (Crc.half i : Nat)) := by
  rw [Array.getElem?_eq_getElem (by rw [row_size]; exact h)]
  simp only [row, List.getElem_toArray, List.getElem_map, List.getElem_range]
  rw [if_pos h]
theorem row_zero : row 0 = #[.int .u32 0, .int .u32 0, .int .u32 0, .int .u32 0, .int .u32 0, .int .u32 0, .int .u32 0, .int .u32 0, .int .u32 0, .int .u32 0, .int .u32 0, .int .u32 0, .int .u32 0, .int .u32 0, .int .u32 0, .int .u32 0] := by
  simp [row, List.range, List.range.loop]
theorem row_one (k : Nat) : (row k).all (·.oneCell') = true := by
  simp [row, Value.oneCell']

theorem below_setRow {B : Nat} {a w : World} (h : Below B a w) {g : Nat} (hg : B ≤ g) (cs : Array Value) : Below B a (w.setRow g cs) :=
  h.trans ⟨rfl, rfl, rfl, by simp, fun k hk => setRow_other w g k cs (by omega)⟩

set_option maxHeartbeats 400000 in
theorem halves_any (w : World) :
    Calls Tryd.prog 65 #[] w fun e w' => e = .returned (.agg (row 16)) ∧ Below w.heap.size w w' := by
  have hmf : ∀ (fn : Fn) (first cap : Array Value) (w : World), (Instr.makeFunc fn first cap).run Tryd.prog w = .ok (.func fn first cap) w := fun _ _ _ _ => rfl
  go_enter Tryd.func65, Tryd.ntmps65
  go_wp2
  go_loopw [3, 5] (fun _ i wr => ∃ k : Nat, k ≤ 16 ∧ i = .int .i64 k ∧ wr.heap[w.heap.size]? = some (.cells (row 0) 123 (0, 0)) ∧ wr.heap[w.heap.size + 1]? = some (.cells (row k) 123 (0, 0)) ∧ Below w.heap.size w wr) (fun _ i _ => 16 - (intOf i).toNat)
  case atStart =>
    refine ⟨0, by omega, rfl, ?_, ?_, ((Below.refl _ _).alloc (Nat.le_refl _) _).alloc (by simp) _⟩
    · rw [heap_alloc2_old, row_zero]
    · rw [heap_alloc2_new, row_zero]
  case round =>
    obtain ⟨k, hk, rfl, h0, h1, hb⟩ := hrel
    by_cases hlt : k < 16
    · go_wp2_with (go_at_call 70; refine (fill_any k _ _ _ hlt h1 (row_size k)).mono ?_; rintro e w' ⟨rfl, rfl⟩)
      go_roundw
      case rel => exact ⟨k + 1, by omega, by go_num, by rw [heap_setCell_other _ _ _ _ (by simp)]; exact h0, by rw [heap_setCell_same _ _ _ _ _ _ h1, row_set], hb.setCell (by simp) _⟩
      case measure => simp [intOf]; omega
    · obtain rfl : k = 16 := by omega
      have hi : (Tryd.prog.info? 123).map (·.size) = some (row 16).size := by rw [row_size]; kernel_rfl
      have ho : (row 0).size = (row 16).size := by rw [row_size, row_size]
      have HI := Lib.hid hi
      have HO := Lib.hid ho
      have H0 := Lib.hid h0
      have H1 := Lib.hid h1
      clear hi ho h0 h1
      go_wp2_with (first | (refine wpList_load_row rfl 123 _ rfl (w.heap.size + 1) rfl 123 (row 16) (0, 0) _ H1.out Tryd.underlying123 rfl HI.out ?_) | (refine wpList_store_row rfl 123 _ _ rfl w.heap.size (row 16) rfl rfl 123 (row 0) H0.out HI.out HO.out (row_one 16) ?_))
      exact bodyPost_ret (results_cell_row rfl _ _ w.heap.size 123 (row 16) (0, 0) _ rfl (setRow_heap _ _ _ _ _ _ H0.out) Tryd.underlying123 rfl HI.out) rfl ⟨rfl, below_setRow hb (Nat.le_refl _) _⟩
end Go.Proofs.YtkajcgpkldofjaaDoor
end

section
/-
  The document's own sums: remainder, Join, Sum, by contract.
-/
namespace Go.Proofs.YtkajcgpkldofjaaDoor
set_option maxRecDepth 100000
open Go.RowKit

theorem neg_bits (x : Nat) (hx : x < 4294967296) : bits .xor .u32 IntKind.u32.max (x : Int) = (Crc.neg x : Nat) := by
  have h := u32_xor_nat 4294967295 x (by omega) hx
  rw [Crc.neg_def, ← h]; rfl

end Go.Proofs.YtkajcgpkldofjaaDoor
end

section
/-
  The sums of the program: divide, Sum, by contract.
-/
namespace Go.Proofs.YtkajcgpkldofjaaDoor
set_option maxRecDepth 100000
open Go.RowKit
theorem nib_bits (x : Nat) (hx : x < 4294967296) : bits .xor .u32 ((x : Int) / 16) (Crc.half (x % 16) : Nat) = (Crc.shn 4 x : Nat) := by
  have h := u32_xor_nat (x / 16) (Crc.half (x % 16)) (by omega) (Crc.half_lt (by omega))
  rw [Crc.nibble, ← h]; rfl

set_option maxHeartbeats 400000 in
theorem divide_any (r : Nat) (bs : List Nat) (A : Option Addr) (c : Nat) (w : World) (hr : r < 4294967296) (hby : By w w.heap.size A bs) (hl : bs.length ≤ maxLen) :
    Calls Tryd.prog 54 #[.int .u32 (r : Int), .slice A bs.length c] w fun e w' => e = .returned (.int .u32 (Crc.rem r bs : Nat)) ∧ Below w.heap.size w w' := by
  unfold maxLen at hl
  go_enter Tryd.func54, Tryd.ntmps54
  go_wp2_with fail
  refine (halves_any _).mono ?_
  rintro e w1 ⟨rfl, hw1⟩
  have hi : (Tryd.prog.info? 123).map (·.size) = some (row 16).size := by rw [row_size]; kernel_rfl
  have HI := Lib.hid hi
  clear hi
  have H0 := Lib.hid (heap_alloc_new w1 (.cells (row 0) 123))
  have HO := Lib.hid (show (row 0).size = (row 16).size by rw [row_size, row_size])
  rw [row_zero] at H0 HO
  go_wp2_with ((refine wpList_store_row rfl 123 _ _ rfl w1.heap.size (row 16) rfl rfl 123 _ H0.out HI.out HO.out (row_one 16) ?_))
  have ht : ∀ i, i < 16 → ((w1.alloc (.cells #[.int .u32 0, .int .u32 0, .int .u32 0, .int .u32 0, .int .u32 0, .int .u32 0, .int .u32 0, .int .u32 0, .int .u32 0, .int .u32 0, .int .u32 0, .int .u32 0, .int .u32 0, .int .u32 0, .int .u32 0, .int .u32 0] 123)).setRow w1.heap.size (row 16)).cell? ⟨w1.heap.size, i, none⟩ = some (.int .u32 (Crc.half i : Nat)) := fun i h => by
    rw [cell_setRow_same _ _ _ _ _ _ _ H0.out]; exact row_get i h
  have hB := below_setRow (hw1.alloc hw1.size (.cells #[.int .u32 0, .int .u32 0, .int .u32 0, .int .u32 0, .int .u32 0, .int .u32 0, .int .u32 0, .int .u32 0, .int .u32 0, .int .u32 0, .int .u32 0, .int .u32 0, .int .u32 0, .int .u32 0, .int .u32 0, .int .u32 0] 123)) hw1.size (row 16)
  generalize ((w1.alloc (.cells #[.int .u32 0, .int .u32 0, .int .u32 0, .int .u32 0, .int .u32 0, .int .u32 0, .int .u32 0, .int .u32 0, .int .u32 0, .int .u32 0, .int .u32 0, .int .u32 0, .int .u32 0, .int .u32 0, .int .u32 0, .int .u32 0] 123)).setRow w1.heap.size (row 16)) = w2 at ht hB ⊢
  generalize w1.heap.size = g at ht ⊢
  have HT := Lib.hid ht
  have hby2 := hby.below hB (Nat.le_refl _)
  clear ht H0 HO HI hw1 hby
  go_loop [0, 10] (fun q i => ∃ k : Nat, k ≤ bs.length ∧ i = .int .i64 k ∧ q = .int .u32 (Crc.rem r (bs.take k) : Nat)) (fun _ i => bs.length - (intOf i).toNat)
  case atStart => exact ⟨0, by omega, rfl, rfl⟩
  case round =>
    obtain ⟨k, hk, rfl, rfl⟩ := hrel
    by_cases hlt : k < bs.length
    · have hR : Crc.rem r (bs.take k) < 4294967296 := Crc.rem_lt (fun x hx => hby2.1 x (List.mem_of_mem_take hx)) hr
      have hn : Crc.rem r (bs.take (k + 1)) = Crc.upd (Crc.rem r (bs.take k)) (bs.getD k 0) := by
        rw [List.take_succ_eq_append_getElem hlt, Crc.rem_snoc, getD_at _ _ hlt]
      obtain ⟨b, off, rfl, hb, hcells⟩ := hby2.at_ (by omega)
      have hcell := hcells k hlt
      clear hcells
      have hbk : bs.getD k 0 < 256 := by rw [getD_at _ _ hlt]; exact hby2.1 _ (List.getElem_mem hlt)
      rw [Crc.upd_two] at hn
      have HN := Lib.hid hn
      clear hn
      generalize Crc.rem r (bs.take k) = R at hR HN ⊢
      generalize bs.getD k 0 = B at hcell hbk HN
      have e1 := u32_xor_nat R B hR (by omega)
      have hX : R ^^^ B < 4294967296 := Nat.xor_lt_two_pow (n := 32) hR (by omega)
      generalize R ^^^ B = X at e1 hX HN
      have e2 := bits_low X hX
      have e3 := nib_bits X hX
      have hY := Crc.shn_lt 4 hX
      have c1 := HT.out (X % 16) (by omega)
      generalize Crc.half (X % 16) = V at e3 c1
      generalize Crc.shn 4 X = Y at e3 hY HN
      have e4 := bits_low Y hY
      have e5 := nib_bits Y hY
      have c2 := HT.out (Y % 16) (by omega)
      generalize Crc.half (Y % 16) = U at e5 c2
      go_wp2
      go_round
      case rel => exact ⟨k + 1, by omega, by go_num, by rw [HN.out]⟩
      case measure => simp [intOf]; omega
    · obtain rfl : k = bs.length := by omega
      go_wp2
      go_ret
      exact ⟨rfl, hB⟩

set_option maxHeartbeats 400000 in
theorem sum_any (bs : List Nat) (A : Option Addr) (c : Nat) (w : World) (hby : By w w.heap.size A bs) (hl : bs.length ≤ maxLen) :
    Calls Tryd.prog 38 #[.slice A bs.length c] w fun e w' => e = .returned (.int .u32 (Crc.sum bs : Nat)) ∧ Below w.heap.size w w' := by
  have hr : Crc.rem 4294967295 bs < 4294967296 := Crc.rem_lt hby.1 (by omega)
  have hn := neg_bits _ hr
  have hz : Crc.neg (Crc.rem 4294967295 bs) = Crc.sum bs := by
    unfold Crc.sum Crc.join; rw [Crc.neg_def 0, Nat.xor_zero]
  have HZ := Lib.hid hz
  have hd := divide_any 4294967295 bs A c w (by omega) hby hl
  have HD := Lib.hid hd
  clear hz hd hby
  generalize Crc.rem 4294967295 bs = R at *
  go_enter Tryd.func38, Tryd.ntmps38
  go_wp2_with fail
  refine HD.out.mono ?_
  rintro e w1 ⟨rfl, hw1⟩
  go_wp2
  go_ret
  exact ⟨ret_int (by rw [HZ.out]), hw1⟩

end Go.Proofs.YtkajcgpkldofjaaDoor
end

section
/-
  Cut, by contract.
-/
namespace Go.Proofs.YtkajcgpkldofjaaDoor.Fm
set_option maxRecDepth 100000
open Go.RowKit

theorem holds_true (n least most : Int) (h1 : least ≤ n) (h2 : n ≤ most) (w : World) :
    Calls Tryd.prog 36 #[.agg #[.int .i64 n, .int .i64 least, .int .i64 most]] w fun e w' => e = .returned (.bool true) ∧ Below w.heap.size w w' := by
  have h := holds_any n least most w
  rwa [show (decide (least ≤ n) && decide (n ≤ most)) = true by simp [h1, h2]] at h
theorem holds_false (n least most : Int) (h : ¬ (least ≤ n ∧ n ≤ most)) (w : World) :
    Calls Tryd.prog 36 #[.agg #[.int .i64 n, .int .i64 least, .int .i64 most]] w fun e w' => e = .returned (.bool false) ∧ Below w.heap.size w w' := by
  have h' := holds_any n least most w
  rwa [show (decide (least ≤ n) && decide (n ≤ most)) = false by rw [Bool.and_eq_false_iff, decide_eq_false_iff_not, decide_eq_false_iff_not]; omega] at h'

/-- what Cut answers: frames in memory of their own, and an error -/
def CutOut (w : World) (bs : List Nat) (seq inc : Int) (e : Ending) (w' : World) : Prop :=
  ∃ A' c', e = .returned (.tuple #[.slice A' (cutL bs seq inc).length c', .int .i64 (cutE bs.length seq inc)]) ∧ Frs w' w'.heap.size A' (cutL bs seq inc) ∧ (cutL bs seq inc).length ≤ c' ∧ c' ≤ 2 ∧ (A' = none → c' = 0) ∧ Below w.heap.size w w'
/-- the row and the loads lie in blocks from N on -/
def FrsNew (w : World) (N : Nat) (A : Option Addr) (fs : List Fr) : Prop :=
  0 < fs.length → ∃ b off, A = some ⟨b, off, none⟩ ∧ N ≤ b ∧ ∀ i (h : i < fs.length), ∃ A' c', w.cell? ⟨b, off + i * 6 + 5, none⟩ = some (.slice A' fs[i].load.length c') ∧ ∀ x, A' = some x → N ≤ x.block
/-- .. the frames in memory of their own -/
def CutFresh (w : World) (bs : List Nat) (seq inc : Int) (e : Ending) (w' : World) : Prop :=
  ∃ A' c', e = .returned (.tuple #[.slice A' (cutL bs seq inc).length c', .int .i64 (cutE bs.length seq inc)]) ∧ Frs w' w'.heap.size A' (cutL bs seq inc) ∧ (cutL bs seq inc).length ≤ c' ∧ c' ≤ 2 ∧ (A' = none → c' = 0) ∧ Below w.heap.size w w' ∧ FrsNew w' w.heap.size A' (cutL bs seq inc)
theorem CutFresh.out {w w' : World} {bs : List Nat} {seq inc : Int} {e : Ending} (h : CutFresh w bs seq inc e w') : CutOut w bs seq inc e w' := by
  obtain ⟨A', c', h1, h2, h3, h4, h5, h6, _⟩ := h
  exact ⟨A', c', h1, h2, h3, h4, h5, h6⟩
theorem CutFresh.no {w w' : World} {bs : List Nat} {seq inc E : Int} (hE : cutE bs.length seq inc = E) (h0 : E ≠ 0) (hb : Below w.heap.size w w') : CutFresh w bs seq inc (.returned (.tuple #[.slice none 0 0, .int .i64 E])) w' := by
  have hL : cutL bs seq inc = [] := by unfold cutL; rw [hE, if_neg h0]
  exact ⟨none, 0, by rw [hL, hE]; rfl, by rw [hL]; exact Frs.nil_, by rw [hL]; exact Nat.le_refl _, by omega, fun _ => rfl, hb, by rw [hL]; exact fun h => absurd h (by simp)⟩

set_option maxHeartbeats 1000000 in
theorem cut_no (bs : List Nat) (seq inc : Int) (A : Option Addr) (c : Nat) (w : World) (hl : bs.length ≤ 9223372036854775807) (h1 : -9223372036854775808 ≤ seq) (h2 : seq ≤ 9223372036854775807) (hE : cutE bs.length seq inc ≠ 0) :
    Calls Tryd.prog 20 #[.slice A bs.length c, .int .i64 seq, .int .i64 inc] w (CutFresh w bs seq inc) := by
  by_cases h0 : bs.length = 0
  · have HE := Lib.hid (show cutE bs.length seq inc = 2 by unfold cutE; rw [if_pos (Or.inl h0)])
    have hq : ((bs.length : Int) == 0) = true := by simp [h0]
    have H := Lib.hid h0
    clear hE h0
    go_enter Tryd.func20, Tryd.ntmps20
    go_wp2
    go_ret2
    exact CutFresh.no HE.out (by omega) (Below.refl _ _)
  have hq : ((bs.length : Int) == 0) = false := beq_eq_false_iff_ne.2 (by omega)
  by_cases hs : 1 ≤ seq ∧ seq ≤ 1099511627776
  rotate_left
  · have HE := Lib.hid (show cutE bs.length seq inc = 2 by unfold cutE; rw [if_pos (Or.inr (Or.inl hs))])
    have HS := Lib.hid hs
    clear hE h0 hs
    go_enter Tryd.func20, Tryd.ntmps20
    go_wp2_with fail
    refine (seqBound_any _ _).mono ?_
    rintro e w1 ⟨rfl, hb1⟩
    have B1 := Lib.hid hb1
    clear hb1
    go_wp2_with fail
    refine (holds_false _ _ _ HS.out _).mono ?_
    rintro e w2 ⟨rfl, hb2⟩
    have B2 := Lib.hid (B1.out.trans (hb2.mono B1.out.size))
    clear hb2
    go_wp2
    go_ret2
    exact CutFresh.no HE.out (by omega) B2.out
  by_cases hi : 0 ≤ inc ∧ inc ≤ 1048576
  rotate_left
  · have HE := Lib.hid (show cutE bs.length seq inc = 2 by unfold cutE; rw [if_pos (Or.inr (Or.inr hi))])
    have HS := Lib.hid hs
    have HI := Lib.hid hi
    clear hE h0 hs hi
    go_enter Tryd.func20, Tryd.ntmps20
    go_wp2_with fail
    refine (seqBound_any _ _).mono ?_
    rintro e w1 ⟨rfl, hb1⟩
    have B1 := Lib.hid hb1
    clear hb1
    go_wp2_with fail
    refine (holds_true _ _ _ HS.out.1 HS.out.2 _).mono ?_
    rintro e w2 ⟨rfl, hb2⟩
    have B2 := Lib.hid (B1.out.trans (hb2.mono B1.out.size))
    clear hb2
    go_wp2_with fail
    refine (incBound_any _ _).mono ?_
    rintro e w3 ⟨rfl, hb3⟩
    have B3 := Lib.hid (B2.out.trans (hb3.mono B2.out.size))
    clear hb3
    go_wp2_with fail
    refine (holds_false _ _ _ HI.out _).mono ?_
    rintro e w4 ⟨rfl, hb4⟩
    have B4 := Lib.hid (B3.out.trans (hb4.mono B3.out.size))
    clear hb4
    go_wp2
    go_ret2
    exact CutFresh.no HE.out (by omega) B4.out
  obtain ⟨q, hqd⟩ : ∃ q : Nat, (bs.length - 1) / 45 = q := ⟨_, rfl⟩
  have hdiv : ((bs.length : Int) - 1).tdiv 45 = (q : Int) := by
    rw [Int.tdiv_eq_ediv_of_nonneg (by omega), ← hqd]; omega
  have hqb : q ≤ 300000000000000000 := by omega
  by_cases h90 : 90 < bs.length
  · have HE := Lib.hid (show cutE bs.length seq inc = 3 by unfold cutE; rw [if_neg (by omega), if_pos h90])
    have HS := Lib.hid hs
    have HI := Lib.hid hi
    clear hE h0 hs hi
    have h91 : (2 : Int) < (q : Int) + 1 := by omega
    clear hqd
    go_enter Tryd.func20, Tryd.ntmps20
    go_wp2_with fail
    refine (seqBound_any _ _).mono ?_
    rintro e w1 ⟨rfl, hb1⟩
    have B1 := Lib.hid hb1
    clear hb1
    go_wp2_with fail
    refine (holds_true _ _ _ HS.out.1 HS.out.2 _).mono ?_
    rintro e w2 ⟨rfl, hb2⟩
    have B2 := Lib.hid (B1.out.trans (hb2.mono B1.out.size))
    clear hb2
    go_wp2_with fail
    refine (incBound_any _ _).mono ?_
    rintro e w3 ⟨rfl, hb3⟩
    have B3 := Lib.hid (B2.out.trans (hb3.mono B2.out.size))
    clear hb3
    go_wp2_with fail
    refine (holds_true _ _ _ HI.out.1 HI.out.2 _).mono ?_
    rintro e w4 ⟨rfl, hb4⟩
    have B4 := Lib.hid (B3.out.trans (hb4.mono B3.out.size))
    clear hb4
    go_wp2
    go_ret2
    exact CutFresh.no HE.out (by omega) B4.out
  · have hE2 : 1099511627776 < seq + cutN bs.length - 1 := by
      unfold cutE at hE
      rw [if_neg (by omega), if_neg h90] at hE
      by_cases h : 1099511627776 < seq + cutN bs.length - 1
      · exact h
      · rw [if_neg h] at hE; exact absurd rfl hE
    have HE := Lib.hid (show cutE bs.length seq inc = 2 by unfold cutE; rw [if_neg (by omega), if_neg h90, if_pos hE2])
    unfold cutN at hE2
    have HS := Lib.hid hs
    have HI := Lib.hid hi
    have h91 : (q : Int) + 1 ≤ 2 := by omega
    rw [hqd] at hE2
    have hs1 : 1 ≤ seq := hs.1
    have hs2 : seq ≤ 1099511627776 := hs.2
    have HK := Lib.hid (show ¬ (1 ≤ seq + ((q : Int) + 1) - 1 ∧ seq + ((q : Int) + 1) - 1 ≤ 1099511627776) by omega)
    clear hE h0 hs hi hE2 hqd
    go_enter Tryd.func20, Tryd.ntmps20
    go_wp2_with fail
    refine (seqBound_any _ _).mono ?_
    rintro e w1 ⟨rfl, hb1⟩
    have B1 := Lib.hid hb1
    clear hb1
    go_wp2_with fail
    refine (holds_true _ _ _ HS.out.1 HS.out.2 _).mono ?_
    rintro e w2 ⟨rfl, hb2⟩
    have B2 := Lib.hid (B1.out.trans (hb2.mono B1.out.size))
    clear hb2
    go_wp2_with fail
    refine (incBound_any _ _).mono ?_
    rintro e w3 ⟨rfl, hb3⟩
    have B3 := Lib.hid (B2.out.trans (hb3.mono B2.out.size))
    clear hb3
    go_wp2_with fail
    refine (holds_true _ _ _ HI.out.1 HI.out.2 _).mono ?_
    rintro e w4 ⟨rfl, hb4⟩
    have B4 := Lib.hid (B3.out.trans (hb4.mono B3.out.size))
    clear hb4
    go_wp2_with fail
    refine (seqBound_any _ _).mono ?_
    rintro e w5 ⟨rfl, hb5⟩
    have B5 := Lib.hid (B4.out.trans (hb5.mono B4.out.size))
    clear hb5
    go_wp2_with fail
    refine (holds_false _ _ _ HK.out _).mono ?_
    rintro e w6 ⟨rfl, hb6⟩
    have B6 := Lib.hid (B5.out.trans (hb6.mono B5.out.size))
    clear hb6
    go_wp2
    go_ret2
    exact CutFresh.no HE.out (by omega) B6.out

theorem Tryd.zero54 : (Tryd.prog.info? 54).map (fun i => (i.zero, i.size, i.bytes)) = some (some (.agg #[.int .i64 0, .int .i64 0, .int .i64 0, .int .i64 0, .int .u32 0, .slice none 0 0]), 6, 64) := by kernel_rfl
theorem Tryd.size54 : (Tryd.prog.info? 54).map (·.size) = some 6 := by kernel_rfl
/-- A row of n frames in block g of which the first k are laid. -/
structure Rowed (w0 wr : World) (g n k : Nat) (F : Nat → Fr) (cs : List Value) : Prop where
  len : cs.length = n * 6
  row : wr.heap[g]? = some (.cells cs.toArray 54 (0, 0))
  done : ∀ i, i < k → ∃ A' c', (∀ j u, (frv A' c' (F i))[j]? = some u → cs[i * 6 + j]? = some u) ∧ By wr wr.heap.size A' (F i).load ∧ (F i).load.length ≤ c' ∧ c' ≤ maxLen ∧ (A' = none → c' = 0) ∧ ∀ b, A' = some b → b.block ≠ g ∧ w0.heap.size ≤ b.block
  keeps : Below w0.heap.size w0 wr
  ge : w0.heap.size ≤ g
  lt : g < wr.heap.size
theorem frv_get {A : Option Addr} {c : Nat} {f : Fr} {j : Nat} {u : Value} (h : (frv A c f)[j]? = some u) : j < 6 := (List.getElem?_eq_some_iff.1 h).1
theorem Rowed.next {w0 wr w2 : World} {g n k c' : Nat} {F : Nat → Fr} {cs : List Value} {A' : Option Addr} (h : Rowed w0 wr g n k F cs) (hk : k < n) (hb : Below wr.heap.size wr w2)
    (hy : By w2 w2.heap.size A' (F k).load) (h1 : (F k).load.length ≤ c') (h2 : c' ≤ maxLen) (h3 : A' = none → c' = 0) (hne : ∀ b, A' = some b → wr.heap.size ≤ b.block) :
    Rowed w0 (w2.setRow g (cs.take (k * 6) ++ frv A' c' (F k) ++ cs.drop (k * 6 + 6)).toArray) g n (k + 1) F (cs.take (k * 6) ++ frv A' c' (F k) ++ cs.drop (k * 6 + 6)) := by
  have hl := h.len
  have hg2 : w2.heap[g]? = some (.cells cs.toArray 54 (0, 0)) := (hb.block g h.lt).trans h.row
  have hgr := grown_setRow w2 g (cs.take (k * 6) ++ frv A' c' (F k) ++ cs.drop (k * 6 + 6)).toArray
  have hsz : (w2.setRow g (cs.take (k * 6) ++ frv A' c' (F k) ++ cs.drop (k * 6 + 6)).toArray).heap.size = w2.heap.size := by simp
  have ht : (cs.take (k * 6)).length = k * 6 := by rw [List.length_take]; omega
  have hlt2 : g < w2.heap.size := Nat.lt_of_lt_of_le h.lt hb.size
  refine ⟨?_, setRow_heap _ _ _ _ _ _ hg2, fun i hi => ?_, ?_, h.ge, by rw [hsz]; exact hlt2⟩
  · simp only [List.length_append, ht, frv_length, List.length_drop]; omega
  · by_cases hik : i = k
    · subst hik
      refine ⟨A', c', fun j u hu => ?_, ?_, h1, h2, h3, fun b e => ?_⟩
      · have := frv_get hu
        rw [List.append_assoc, List.getElem?_append_right (by omega), ht, Nat.add_sub_cancel_left, List.getElem?_append_left (by rw [frv_length]; omega)]
        exact hu
      · rw [hsz]
        exact hy.only (Nat.le_refl _) hgr (fun b e => by have := hne b e; have := h.lt; omega)
      · have := hne b e; have := h.lt; have := h.keeps.size; omega
    · obtain ⟨A1, c1, q1, q2, q3, q4, q5, q6⟩ := h.done i (by omega)
      refine ⟨A1, c1, fun j u hu => ?_, ?_, q3, q4, q5, q6⟩
      · have := frv_get hu
        rw [List.append_assoc, List.getElem?_append_left (by omega), List.getElem?_take, if_pos (by omega)]
        exact q1 j u hu
      · rw [hsz]
        exact ((q2.below hb (Nat.le_refl _)).mono hb.size).only (Nat.le_refl _) hgr (fun b e => (q6 b e).1)
  · exact (h.keeps.trans (hb.mono h.keeps.size)).grown hgr (Nat.le_trans h.keeps.size hb.size) (fun j e => by cases e; exact h.ge)
theorem Rowed.frs {w0 wr : World} {g n : Nat} {F : Nat → Fr} {cs : List Value} (h : Rowed w0 wr g n n F cs) (hf : ∀ i, i < n → (F i).Fine) : Frs wr wr.heap.size (some ⟨g, 0, none⟩) ((List.range n).map F) :=
  Frs.of_row h.row h.lt fun i hi => by
    have hin : i < n := by simpa using hi
    obtain ⟨A1, c1, q1, q2, q3, q4, q5, _⟩ := h.done i hin
    rw [List.getElem_map, List.getElem_range]
    exact ⟨frv A1 c1 (F i), ⟨A1, c1, rfl, q2, q3, q4, q5, hf i hin⟩, fun j u hu => by rw [Nat.zero_add]; exact q1 j u hu⟩

theorem Rowed.new {w0 wr : World} {g n : Nat} {F : Nat → Fr} {cs : List Value} (h : Rowed w0 wr g n n F cs) : FrsNew wr w0.heap.size (some ⟨g, 0, none⟩) ((List.range n).map F) := fun _ => by
  refine ⟨g, 0, rfl, h.ge, fun i hi => ?_⟩
  have hin : i < n := by simpa using hi
  obtain ⟨A1, c1, q1, _, _, _, _, q6⟩ := h.done i hin
  refine ⟨A1, c1, ?_, fun b e => (q6 b e).2⟩
  rw [List.getElem_map, List.getElem_range]
  have h1 := q1 5 (.slice A1 (F i).load.length c1) rfl
  have h2 := cell_of_row wr g (i * 6 + 5) _ _ _ h.row
  rw [List.getElem?_toArray, h1] at h2
  simpa using h2

theorem cut_fine {bs : List Nat} {seq inc : Int} (hb : ∀ x ∈ bs, x < 256) (hE : cutE bs.length seq inc = 0) (i : Nat) (hi : i < cutN bs.length) : (cutOne bs seq inc i).Fine := by
  obtain ⟨h1, h2, h3, h4, h5, h6, h7, h8⟩ := cutE_yes hE
  have hs := Crc.sum_lt hb
  exact ⟨by simp only [cutOne]; omega, by simp only [cutOne]; omega, by simp only [cutOne]; omega, by simp only [cutOne]; omega, hs, fun x hx => hb x (List.mem_of_mem_drop (List.mem_of_mem_take hx))⟩
theorem made_frames {w : World} {base g n : Nat} {xs : List Value} (h : w.ownsRow base 54 6 (.slice (some ⟨g, 0, none⟩) n n) n xs) : ∃ Z : List Value, w.heap[g]? = some (.cells Z.toArray 54 (0, 0)) ∧ Z.length = n * 6 := by
  rcases h.2 with ⟨e, _⟩ | ⟨g', cap, cur, e, _, hh, _, _, hs, _⟩
  · cases e
  · cases e
    exact ⟨cur.toList, by simpa using hh, by simpa using hs⟩

set_option maxRecDepth 100000 in
set_option maxHeartbeats 2000000 in
theorem cut_yes (bs : List Nat) (seq inc : Int) (A : Option Addr) (c : Nat) (w : World) (hA : By w w.heap.size A bs) (hc : bs.length ≤ c) (hcm : c ≤ maxLen) (hE : cutE bs.length seq inc = 0) :
    Calls Tryd.prog 20 #[.slice A bs.length c, .int .i64 seq, .int .i64 inc] w (CutFresh w bs seq inc) := by
  obtain ⟨e1, e2, e3, e4, e5, e6, e7, e8⟩ := cutE_yes hE
  obtain ⟨n, hn⟩ : ∃ n, n = cutN bs.length := ⟨_, rfl⟩
  rw [← hn] at e4 e7 e8
  have hN := Lib.hid hn
  have hq : ((bs.length : Int) == 0) = false := beq_eq_false_iff_ne.2 (by omega)
  obtain ⟨q, hqd⟩ : ∃ q : Nat, (bs.length - 1) / 45 = q := ⟨_, rfl⟩
  have hnq : n = q + 1 := by rw [hn, ← hqd]; rfl
  have hlo : q * 45 < bs.length := by omega
  have hhi : bs.length ≤ q * 45 + 45 := by omega
  have hdiv : ((bs.length : Int) - 1).tdiv 45 = (q : Int) := by
    rw [Int.tdiv_eq_ediv_of_nonneg (by omega), ← hqd]; omega
  have HFine := Lib.hid (fun i hi => cut_fine (bs := bs) (seq := seq) (inc := inc) hA.1 hE i hi)
  have HE := Lib.hid hE
  have HA := Lib.hid hA
  have h91 : (q : Int) + 1 ≤ 2 := by omega
  have hs2 : seq ≤ 1099511627776 := by omega
  have hs3 : seq + ((q : Int) + 1) - 1 ≤ 1099511627776 := by omega
  obtain ⟨i0, hi, hz⟩ := Option.map_eq_some_iff.1 Tryd.zero54
  simp only [Prod.mk.injEq] at hz
  obtain ⟨hz0, hz1, hz2⟩ := hz
  have HB0 : Hid (i0.bytes * n ≤ 281474976710656) := by show _ ≤ _; rw [hz2]; omega
  have HNQ := Lib.hid hnq
  have HSum := Lib.hid (show ∀ W, Below w.heap.size w W → Calls Tryd.prog 38 #[.slice A bs.length c] W fun e w' => e = .returned (.int .u32 (Crc.sum bs : Nat)) ∧ Below W.heap.size W w' from fun W hW => sum_any bs A c W ((HA.out.below hW (Nat.le_refl _)).mono hW.size) (by unfold maxLen; omega))
  have HOne := Lib.hid (show ∀ i, cutOne bs seq inc i = ⟨seq + i, inc, i, (q : Int) + 1, Crc.sum bs, (bs.drop (i * 45)).take 45⟩ from fun i => by unfold cutOne; rw [← hn, hnq]; rfl)
  clear hA hE hn hqd hnq
  generalize Crc.sum bs = mark at *
  go_enter Tryd.func20, Tryd.ntmps20
  go_wp2_with fail
  refine (seqBound_any _ _).mono ?_
  rintro e w1 ⟨rfl, hb1⟩
  have B1 := Lib.hid hb1
  clear hb1
  go_wp2_with fail
  refine (holds_true _ _ _ e3 hs2 _).mono ?_
  rintro e w2 ⟨rfl, hb2⟩
  have B2 := Lib.hid (B1.out.trans (hb2.mono B1.out.size))
  clear hb2
  go_wp2_with fail
  refine (incBound_any _ _).mono ?_
  rintro e w3 ⟨rfl, hb3⟩
  have B3 := Lib.hid (B2.out.trans (hb3.mono B2.out.size))
  clear hb3
  go_wp2_with fail
  refine (holds_true _ _ _ e5 e6 _).mono ?_
  rintro e w4 ⟨rfl, hb4⟩
  have B4 := Lib.hid (B3.out.trans (hb4.mono B3.out.size))
  clear hb4
  go_wp2_with fail
  refine (seqBound_any _ _).mono ?_
  rintro e w5 ⟨rfl, hb5⟩
  have B5 := Lib.hid (B4.out.trans (hb5.mono B4.out.size))
  clear hb5
  go_wp2_with fail
  refine (holds_true _ _ _ (by omega) hs3 _).mono ?_
  rintro e w6 ⟨rfl, hb6⟩
  have B6 := Lib.hid (B5.out.trans (hb6.mono B5.out.size))
  clear hb6
  go_wp2_with (first
    | (refine wpList_make_full w6 rfl (.tmp 43) (.tmp 43) 47 rfl w6.heap.size 54 i0 _ 6 Tryd.underlying47 hi hz0 hz1 .i64 .i64 _ _ n rfl rfl (by rw [HNQ.out]; omega) (by rw [HNQ.out]; omega) HB0.out (by unfold maxLen; omega) (Nat.le_refl _) ?_; intro w7 hown hgrow; obtain ⟨Z, h0, hZ⟩ := made_frames hown; have hB := grown_below (Below.refl w6.heap.size w6) hgrow; clear hown hgrow))
  have hB7 := B6.out.trans (hB.mono B6.out.size)
  refine (HSum.out w7 hB7).mono ?_
  rintro e w8 ⟨rfl, hb8⟩
  have hg8 : w6.heap.size < w7.heap.size := by
    rcases Nat.lt_or_ge w6.heap.size w7.heap.size with h | h
    · exact h
    · rw [Array.getElem?_eq_none h] at h0; cases h0
  have R0 := Lib.hid (show Rowed w w8 w6.heap.size n 0 (cutOne bs seq inc) Z from ⟨hZ, (hb8.block _ hg8).trans h0, fun i hi => absurd hi (by omega), hB7.trans (hb8.mono hB7.size), B6.out.size, Nat.lt_of_lt_of_le hg8 hb8.size⟩)
  clear h0 hZ hB hb8 hg8 hB7 HSum
  generalize w6.heap.size = g at *
  go_wp2
  go_loopw [49] (fun i wr => ∃ k : Nat, k ≤ n ∧ i = .int .i64 k ∧ ∃ cs, Rowed w wr g n k (cutOne bs seq inc) cs) (fun i _ => n - (intOf i).toNat)
  case atStart => exact ⟨0, by omega, rfl, Z, R0.out⟩
  case round =>
    obtain ⟨k, hk, rfl, cs, hR⟩ := hrel
    have R := Lib.hid hR
    clear hR
    by_cases hlt : k < n
    · have hkq : k ≤ q := by have := HNQ.out; omega
      obtain ⟨b, off, rfl, hbw, _⟩ := HA.out.at_ (by omega)
      have hk45 : k * 45 < bs.length := by omega
      have hy := ((HA.out.below R.out.keeps (Nat.le_refl _)).mono R.out.keeps.size)
      have hyk := (hy.drop (c := c) (k * 45) hc).take 45
      rw [if_neg (by omega), Option.map_some, add_flat] at hyk
      have HY := Lib.hid hyk
      have HL := Lib.hid (show ((bs.drop (k * 45)).take 45).length ≤ 45 by rw [List.length_take]; omega)
      have HLoad := Lib.hid (load_any ((bs.drop (k * 45)).take 45) (some ⟨b, off + k * 45, none⟩) (((bs.drop (k * 45)).take 45).length) wr hyk (by rw [List.length_take]; omega))
      have hll : ((bs.drop (k * 45)).take 45).length = min 45 (bs.length - k * 45) := by rw [List.length_take, List.length_drop]
      have hOk := HOne.out k
      have hL2 : (cutOne bs seq inc k).load = (bs.drop (k * 45)).take 45 := by rw [hOk]
      have hO2 := hOk
      generalize (bs.drop (k * 45)).take 45 = ld at *
      have HO := Lib.hid hO2
      have HL2 := Lib.hid hL2
      clear hy hyk hOk hL2 hO2
      by_cases hm : (k : Int) * 45 + 45 ≤ (bs.length : Int)
      · have hr : ((k : Int) * 45 + 45).toNat - k * 45 = 45 := by omega
        have hr2 : ¬ ((k : Int) * 45 + 45).toNat = k * 45 := by omega
        have hld : ld.length = 45 := by omega
        rw [hld] at HLoad
        have HLD := Lib.hid hld
        clear hll hld
        go_wp2_with fail
        refine HLoad.out.mono ?_
        rintro e w9 ⟨rfl, hy9, hs9, hb9⟩
        have hX : frv (some ⟨wr.heap.size, 0, none⟩) 45 (cutOne bs seq inc k) = [.int .i64 (seq + (k : Int)), .int .i64 inc, .int .i64 (k : Int), .int .i64 ((q : Int) + 1), .int .u32 (mark : Nat), .slice (some ⟨wr.heap.size, 0, none⟩) 45 45] := by
          rw [HO.out]; unfold frv; dsimp only; rw [HLD.out]
        have R9 := Lib.hid (R.out.next hlt hb9 (A' := some ⟨wr.heap.size, 0, none⟩) (c' := 45) (by rw [HL2.out]; exact hy9.mono hs9) (by rw [HL2.out, HLD.out]; exact Nat.le_refl _) (by unfold maxLen; omega) (fun e => by cases e) (fun b e => by cases e; exact Nat.le_refl _))
        rw [hX] at R9
        have G9 := Lib.hid (show w9.heap[g]? = some (.cells (cs.take (k * 6) ++ (cs.drop (k * 6)).take 6 ++ cs.drop (k * 6 + 6)).toArray 54 (0, 0)) by
          rw [List.append_assoc, ← List.drop_drop, List.take_append_drop, List.take_append_drop]
          exact (hb9.block g R.out.lt).trans R.out.row)
        have L1 := Lib.hid (show (cs.take (k * 6)).length = k * 6 by have := R.out.len; rw [List.length_take]; omega)
        have L2 := Lib.hid (show ((cs.drop (k * 6)).take 6).length = 6 by have := R.out.len; rw [List.length_take, List.length_drop]; omega)
        clear hX hy9 hs9 hb9 HLoad
        generalize (cs.drop (k * 6)).take 6 = old at *
        generalize cs.drop (k * 6 + 6) = post at *
        generalize cs.take (k * 6) = ahead at *
        go_wp2_with (first
          | (refine wpList_store_part rfl 54 (.tmp 75) (.tmp 74) rfl g (k * 6) rfl [.int .i64 (seq + (k : Int)), .int .i64 inc, .int .i64 (k : Int), .int .i64 ((q : Int) + 1), .int .u32 (mark : Nat), .slice (some ⟨wr.heap.size, 0, none⟩) 45 45] rfl 54 ahead old post G9.out L1.out (by rw [L2.out]; rfl) Tryd.size54 (by simp [Value.oneCell']) ?_))
        go_roundw
        case rel =>
          have h9 := R9.out
          simp only [List.append_assoc, List.cons_append, List.nil_append] at h9
          exact ⟨k + 1, by omega, by go_num, _, h9⟩
        case measure => simp [intOf]; omega
      · have hr2 : ¬ bs.length = k * 45 := by omega
        have hld : ld.length = bs.length - k * 45 := by omega
        rw [hld] at HLoad
        have HLD := Lib.hid hld
        clear hll hld
        go_wp2_with fail
        refine HLoad.out.mono ?_
        rintro e w9 ⟨rfl, hy9, hs9, hb9⟩
        have hX : frv (some ⟨wr.heap.size, 0, none⟩) (bs.length - k * 45) (cutOne bs seq inc k) = [.int .i64 (seq + (k : Int)), .int .i64 inc, .int .i64 (k : Int), .int .i64 ((q : Int) + 1), .int .u32 (mark : Nat), .slice (some ⟨wr.heap.size, 0, none⟩) (bs.length - k * 45) (bs.length - k * 45)] := by
          rw [HO.out]; unfold frv; dsimp only; rw [HLD.out]
        have R9 := Lib.hid (R.out.next hlt hb9 (A' := some ⟨wr.heap.size, 0, none⟩) (c' := (bs.length - k * 45)) (by rw [HL2.out]; exact hy9.mono hs9) (by rw [HL2.out, HLD.out]; exact Nat.le_refl _) (by unfold maxLen; omega) (fun e => by cases e) (fun b e => by cases e; exact Nat.le_refl _))
        rw [hX] at R9
        have G9 := Lib.hid (show w9.heap[g]? = some (.cells (cs.take (k * 6) ++ (cs.drop (k * 6)).take 6 ++ cs.drop (k * 6 + 6)).toArray 54 (0, 0)) by
          rw [List.append_assoc, ← List.drop_drop, List.take_append_drop, List.take_append_drop]
          exact (hb9.block g R.out.lt).trans R.out.row)
        have L1 := Lib.hid (show (cs.take (k * 6)).length = k * 6 by have := R.out.len; rw [List.length_take]; omega)
        have L2 := Lib.hid (show ((cs.drop (k * 6)).take 6).length = 6 by have := R.out.len; rw [List.length_take, List.length_drop]; omega)
        clear hX hy9 hs9 hb9 HLoad
        generalize (cs.drop (k * 6)).take 6 = old at *
        generalize cs.drop (k * 6 + 6) = post at *
        generalize cs.take (k * 6) = ahead at *
        go_wp2_with (first
          | (refine wpList_store_part rfl 54 (.tmp 75) (.tmp 74) rfl g (k * 6) rfl [.int .i64 (seq + (k : Int)), .int .i64 inc, .int .i64 (k : Int), .int .i64 ((q : Int) + 1), .int .u32 (mark : Nat), .slice (some ⟨wr.heap.size, 0, none⟩) (bs.length - k * 45) (bs.length - k * 45)] rfl 54 ahead old post G9.out L1.out (by rw [L2.out]; rfl) Tryd.size54 (by simp [Value.oneCell']) ?_))
        go_roundw
        case rel =>
          have h9 := R9.out
          simp only [List.append_assoc, List.cons_append, List.nil_append] at h9
          exact ⟨k + 1, by omega, by go_num, _, h9⟩
        case measure => simp [intOf]; omega
    · obtain rfl : k = n := by omega
      have hF := R.out.frs (fun i hi => HFine.out i (by rw [← hN.out]; exact hi))
      have hL : cutL bs seq inc = (List.range k).map (cutOne bs seq inc) := by unfold cutL; rw [if_pos HE.out, cutAll, ← hN.out]
      have hLl : (cutL bs seq inc).length = k := by rw [hL]; simp
      have hNw := R.out.new
      rw [← hL] at hF hNw
      have HNw := Lib.hid hNw
      have HF := Lib.hid hF
      have HLl := Lib.hid hLl
      have HK := Lib.hid R.out.keeps
      clear hF hL hLl hNw
      go_wp2
      go_ret2
      exact ⟨some ⟨g, 0, none⟩, k, by rw [HLl.out, HE.out]; rfl, HF.out, by rw [HLl.out]; exact Nat.le_refl _, e7, (fun e => by cases e), HK.out, HNw.out⟩
/-- P4.2: Cut, the frames in memory of their own -/
theorem cut_fresh (bs : List Nat) (seq inc : Int) (A : Option Addr) (c : Nat) (w : World) (hA : By w w.heap.size A bs) (hc : bs.length ≤ c) (hcm : c ≤ maxLen) (h1 : -9223372036854775808 ≤ seq) (h2 : seq ≤ 9223372036854775807) :
    Calls Tryd.prog 20 #[.slice A bs.length c, .int .i64 seq, .int .i64 inc] w (CutFresh w bs seq inc) := by
  by_cases hE : cutE bs.length seq inc = 0
  · exact cut_yes bs seq inc A c w hA hc hcm hE
  · exact cut_no bs seq inc A c w (by unfold maxLen at hcm; omega) h1 h2 hE
/-- P4.2: Cut -/
theorem cut_any (bs : List Nat) (seq inc : Int) (A : Option Addr) (c : Nat) (w : World) (hA : By w w.heap.size A bs) (hc : bs.length ≤ c) (hcm : c ≤ maxLen) (hl : bs.length ≤ 1000000000) (h1 : -9223372036854775808 ≤ seq) (h2 : seq ≤ 9223372036854775807) :
    Calls Tryd.prog 20 #[.slice A bs.length c, .int .i64 seq, .int .i64 inc] w (CutOut w bs seq inc) :=
  (cut_fresh bs seq inc A c w hA hc hcm h1 h2).mono fun _ _ h => h.out
end Go.Proofs.YtkajcgpkldofjaaDoor.Fm
end

section
/-
  bytes.Equal, Same, by contract.
-/
namespace Go.Proofs.YtkajcgpkldofjaaDoor.Fm
set_option maxRecDepth 100000
open Go.RowKit

theorem strOf_data (bs : List Nat) : ∀ s : ByteArray, (strOf s bs).data.toList = s.data.toList ++ bs.map UInt8.ofNat := by
  induction bs with
  | nil => intro s; simp [strOf]
  | cons a l ih =>
    intro s
    show (strOf (s.push (UInt8.ofNat a)) l).data.toList = _
    rw [ih]
    simp [ByteArray.push]
theorem str_data (bs : List Nat) : (str bs).data.toList = bs.map UInt8.ofNat := by
  unfold str
  rw [strOf_data]
  rfl
theorem map_u8_inj : ∀ {a b : List Nat}, (∀ x ∈ a, x < 256) → (∀ x ∈ b, x < 256) → a.map UInt8.ofNat = b.map UInt8.ofNat → a = b := by
  intro a
  induction a with
  | nil => intro b _ _ h; simpa using h.symm
  | cons x l ih =>
    intro b ha hb h
    cases b with
    | nil => simp at h
    | cons y m =>
      rw [List.map_cons, List.map_cons, List.cons.injEq] at h
      have h1 := ha x List.mem_cons_self
      have h2 := hb y List.mem_cons_self
      have h3 := congrArg UInt8.toNat h.1
      rw [UInt8.toNat_ofNat', UInt8.toNat_ofNat', Nat.mod_eq_of_lt h1, Nat.mod_eq_of_lt h2] at h3
      rw [h3, ih (fun z hz => ha z (List.mem_cons_of_mem _ hz)) (fun z hz => hb z (List.mem_cons_of_mem _ hz)) h.2]
/-- Two strings are alike just if the bytes are. -/
theorem str_beq {a b : List Nat} (ha : ∀ x ∈ a, x < 256) (hb : ∀ x ∈ b, x < 256) : ((str a).toList == (str b).toList) = decide (a = b) := by
  rw [Lib.toList_data, Lib.toList_data, str_data, str_data, Bool.eq_iff_iff, beq_iff_eq, decide_eq_true_eq]
  exact ⟨fun h => map_u8_inj ha hb h, fun h => by rw [h]⟩

set_option maxHeartbeats 400000 in
theorem equal_any (xs bs : List Nat) (A B : Option Addr) (c d : Nat) (w : World) (hA : By w w.heap.size A xs) (hB : By w w.heap.size B bs) :
    Calls Tryd.prog 63 #[.slice A xs.length c, .slice B bs.length d] w fun e w' => e = .returned (.bool (decide (xs = bs))) ∧ w = w' := by
  have k1 := conv_str w hA c
  have k2 := conv_str w hB d
  have HS := Lib.hid (str_beq hA.1 hB.1)
  generalize decide (xs = bs) = r at *
  clear hA hB
  generalize str xs = s at *
  generalize str bs = t at *
  go_enter Tryd.func63, Tryd.ntmps63
  go_wp2
  go_ret
  exact ⟨by rw [← HS.out]; rfl, rfl⟩

theorem same_no {f g : Fr} (h : ¬ (f.seq = g.seq ∧ f.inc = g.inc ∧ f.part = g.part ∧ f.of = g.of ∧ f.mark = g.mark ∧ f.load = g.load)) : sameB f g = false := by
  unfold sameB
  rw [decide_eq_false_iff_not, Fr.ext_iff']
  exact h
theorem same_yes {f g : Fr} (h : f.seq = g.seq ∧ f.inc = g.inc ∧ f.part = g.part ∧ f.of = g.of ∧ f.mark = g.mark) : sameB f g = decide (f.load = g.load) := by
  unfold sameB
  rw [Bool.eq_iff_iff, decide_eq_true_eq, decide_eq_true_eq, Fr.ext_iff']
  obtain ⟨h1, h2, h3, h4, h5⟩ := h
  simp [h1, h2, h3, h4, h5]
set_option maxHeartbeats 1000000 in
theorem same_any (f g : Fr) (A B : Option Addr) (c d : Nat) (w : World) (hf : FrV w w.heap.size (frv A c f) f) (hg : FrV w w.heap.size (frv B d g) g) :
    Calls Tryd.prog 51 #[.agg (frv A c f).toArray, .agg (frv B d g).toArray] w fun e w' => e = .returned (.bool (sameB f g)) ∧ Below w.heap.size w w' := by
  have HB := Lib.hid (((Below.refl w.heap.size w).alloc (Nat.le_refl _) (.cells (frv A c f).toArray 54)).alloc (by simp) (.cells (frv B d g).toArray 54))
  have HY1 := Lib.hid ((hf.load_by.below HB.out (Nat.le_refl _)).mono HB.out.size)
  have HY2 := Lib.hid ((hg.load_by.below HB.out (Nat.le_refl _)).mono HB.out.size)
  clear hf hg
  unfold frv at *
  by_cases h1 : f.seq = g.seq
  rotate_left
  · have hq : (f.seq == g.seq) = false := beq_eq_false_iff_ne.2 h1
    have HF := Lib.hid (same_no (f := f) (g := g) (fun h => h1 h.1))
    go_enter Tryd.func51, Tryd.ntmps51
    go_wp2
    go_ret
    exact ⟨by rw [HF.out]; rfl, HB.out⟩
  have q1 : (f.seq == g.seq) = true := beq_iff_eq.2 h1
  have H1 := Lib.hid h1
  clear h1
  by_cases h2 : f.inc = g.inc
  rotate_left
  · have hq : (f.inc == g.inc) = false := beq_eq_false_iff_ne.2 h2
    have HF := Lib.hid (same_no (f := f) (g := g) (fun h => h2 h.2.1))
    go_enter Tryd.func51, Tryd.ntmps51
    go_wp2
    go_ret
    exact ⟨by rw [HF.out]; rfl, HB.out⟩
  have q2 : (f.inc == g.inc) = true := beq_iff_eq.2 h2
  have H2 := Lib.hid h2
  clear h2
  by_cases h3 : f.part = g.part
  rotate_left
  · have hq : (f.part == g.part) = false := beq_eq_false_iff_ne.2 h3
    have HF := Lib.hid (same_no (f := f) (g := g) (fun h => h3 h.2.2.1))
    go_enter Tryd.func51, Tryd.ntmps51
    go_wp2
    go_ret
    exact ⟨by rw [HF.out]; rfl, HB.out⟩
  have q3 : (f.part == g.part) = true := beq_iff_eq.2 h3
  have H3 := Lib.hid h3
  clear h3
  by_cases h4 : f.of = g.of
  rotate_left
  · have hq : (f.of == g.of) = false := beq_eq_false_iff_ne.2 h4
    have HF := Lib.hid (same_no (f := f) (g := g) (fun h => h4 h.2.2.2.1))
    go_enter Tryd.func51, Tryd.ntmps51
    go_wp2
    go_ret
    exact ⟨by rw [HF.out]; rfl, HB.out⟩
  have q4 : (f.of == g.of) = true := beq_iff_eq.2 h4
  have H4 := Lib.hid h4
  clear h4
  by_cases h5 : f.mark = g.mark
  rotate_left
  · have hq : ((f.mark : Int) == (g.mark : Int)) = false := beq_eq_false_iff_ne.2 (fun e => h5 (by omega))
    have HF := Lib.hid (same_no (f := f) (g := g) (fun h => h5 h.2.2.2.2.1))
    go_enter Tryd.func51, Tryd.ntmps51
    go_wp2
    go_ret
    exact ⟨by rw [HF.out]; rfl, HB.out⟩
  have q5 : ((f.mark : Int) == (g.mark : Int)) = true := by rw [h5]; simp
  have HF := Lib.hid (same_yes ⟨H1.out, H2.out, H3.out, H4.out, h5⟩)
  clear h5
  go_enter Tryd.func51, Tryd.ntmps51
  go_wp2_with fail
  refine (equal_any f.load g.load A B c d _ HY1.out HY2.out).mono ?_
  rintro e w2 ⟨rfl, rfl⟩
  go_wp2
  go_ret
  exact ⟨by rw [HF.out]; rfl, HB.out⟩
end Go.Proofs.YtkajcgpkldofjaaDoor.Fm
end

section
/-
  slices.EqualFunc over frames, Join, by contract.
-/
namespace Go.Proofs.YtkajcgpkldofjaaDoor.Fm
set_option maxRecDepth 100000
open Go.RowKit

theorem take_eq_next {fs gs : List Fr} {k : Nat} (hf : k < fs.length) (hg : k < gs.length) (h : fs.take k = gs.take k) (h2 : fs[k] = gs[k]) : fs.take (k + 1) = gs.take (k + 1) := by
  rw [List.take_succ_eq_append_getElem hf, List.take_succ_eq_append_getElem hg, h, h2]
theorem not_eq_at {fs gs : List Fr} {k : Nat} (hf : k < fs.length) (hg : k < gs.length) (h : ¬ fs[k] = gs[k]) : decide (fs = gs) = false := by
  rw [decide_eq_false_iff_not]
  intro e
  subst e
  exact h rfl
/-- a frame of a slice, as a value -/
theorem Cells.frv {w : World} {B : Nat} {A' : Option Addr} {c' : Nat} {f : Fr} (hy : By w B A' f.load) (h1 : f.load.length ≤ c') (h2 : c' ≤ maxLen) (h3 : A' = none → c' = 0) (h4 : f.Fine) : FrV w B (frv A' c' f) f := ⟨A', c', rfl, hy, h1, h2, h3, h4⟩

set_option maxHeartbeats 1000000 in
theorem equalFunc_any (fs gs : List Fr) (A B : Option Addr) (c d : Nat) (w : World) (hA : Frs w w.heap.size A fs) (hB : Frs w w.heap.size B gs) (hl : fs.length ≤ 1000000000) (hl2 : gs.length ≤ 1000000000) :
    Calls Tryd.prog 50 #[.slice A fs.length c, .slice B gs.length d, .func (.func 51) #[] #[]] w fun e w' => e = .returned (.bool (decide (fs = gs))) ∧ Below w.heap.size w w' := by
  by_cases hn : fs.length = gs.length
  rotate_left
  · have HF := Lib.hid (show decide (fs = gs) = false by rw [decide_eq_false_iff_not]; intro e; exact hn (by rw [e]))
    have hq : ((fs.length : Int) != (gs.length : Int)) = true := by rw [bne_iff_ne]; omega
    clear hn hA hB
    go_enter Tryd.func50, Tryd.ntmps50
    go_wp2
    go_ret
    exact ⟨by rw [HF.out]; rfl, Below.refl _ _⟩
  have hq : ((fs.length : Int) != (gs.length : Int)) = false := by rw [bne_eq_false_iff_eq]; omega
  have HA := Lib.hid hA
  have HB := Lib.hid hB
  have HN := Lib.hid hn
  clear hA hB hn
  go_enter Tryd.func50, Tryd.ntmps50
  go_wp2
  go_loopw [17] (fun i wr => ∃ k : Nat, k ≤ fs.length ∧ i = .int .i64 k ∧ fs.take k = gs.take k ∧ Below w.heap.size w wr) (fun i _ => fs.length - (intOf i).toNat)
  case atStart => exact ⟨0, by omega, rfl, rfl, Below.refl _ _⟩
  case round =>
    obtain ⟨k, hk, rfl, hE, hb⟩ := hrel
    have HE := Lib.hid hE
    have HW := Lib.hid hb
    clear hE hb
    by_cases hlt : k < fs.length
    · have hlt2 : k < gs.length := by have := HN.out; omega
      obtain ⟨b, off, A1, c1, rfl, hbw, hy1, hlc1, hcm1, hn1, hf1, a0, a1, a2, a3, a4, a5⟩ := (HA.out.below HW.out (Nat.le_refl _)).cells hlt
      obtain ⟨b', off', B1, d1, rfl, hbw', hy2, hlc2, hcm2, hn2, hf2, b0, b1, b2, b3, b4, b5⟩ := (HB.out.below HW.out (Nat.le_refl _)).cells hlt2
      have hki : (k : Int) < fs.length := by omega
      have hbr : b < wr.heap.size := by have := HW.out.size; omega
      have hbr' : b' < wr.heap.size := by have := HW.out.size; omega
      have hki2 : (k : Int) < gs.length := by omega
      have HNx := Lib.hid (take_eq_next hlt hlt2 HE.out)
      have HNo := Lib.hid (not_eq_at hlt hlt2)
      have V1 := Lib.hid (Cells.frv hy1 hlc1 hcm1 hn1 hf1)
      have V2 := Lib.hid (Cells.frv hy2 hlc2 hcm2 hn2 hf2)
      clear hy1 hy2 hlc1 hlc2 hcm1 hcm2 hn1 hn2 hf1 hf2 HE
      generalize fs[k] = f at *
      generalize gs[k] = g at *
      have hb2 := ((Below.refl wr.heap.size wr).alloc (Nat.le_refl _) (.cells (frv A1 c1 f).toArray 54)).alloc (by simp) (.cells (frv B1 d1 g).toArray 54)
      have HS := Lib.hid (same_any f g A1 B1 c1 d1 ((wr.alloc (.cells (frv A1 c1 f).toArray 54)).alloc (.cells (frv B1 d1 g).toArray 54)) ((V1.out.below hb2 HW.out.size).mono (Nat.le_trans HW.out.size hb2.size)) ((V2.out.below hb2 HW.out.size).mono (Nat.le_trans HW.out.size hb2.size)))
      have HB2 := Lib.hid hb2
      clear hb2
      unfold frv at *
      go_wp2_with fail
      refine HS.out.mono ?_
      rintro e w2 ⟨rfl, hb2⟩
      have HB3 := Lib.hid ((HW.out.trans (HB2.out.mono HW.out.size)).trans (hb2.mono (Nat.le_trans HW.out.size HB2.out.size)))
      clear hb2
      unfold sameB at *
      by_cases he : f = g
      · have hd : decide (f = g) = true := by rw [decide_eq_true_eq]; exact he
        have HX := Lib.hid (HNx.out he)
        have HD := Lib.hid he
        clear he
        go_wp2
        go_roundw
        case rel => exact ⟨k + 1, by omega, by go_num, HX.out, HB3.out⟩
        case measure => simp [intOf]; omega
      · have hd : decide (f = g) = false := by rw [decide_eq_false_iff_not]; exact he
        have HX := Lib.hid (HNo.out he)
        have HD := Lib.hid he
        clear he
        go_wp2
        go_ret
        exact ⟨by rw [HX.out]; rfl, HB3.out⟩
    · obtain rfl : k = fs.length := by omega
      have HF := Lib.hid (show decide (fs = gs) = true by
        rw [decide_eq_true_eq]
        have h := HE.out
        rwa [List.take_length, HN.out, List.take_length] at h)
      go_wp2
      go_ret
      exact ⟨by rw [HF.out]; rfl, HW.out⟩

def joinR (l : List Fr) : List Nat := if joinB l = true then loads l else []
def joinE (l : List Fr) : Int := if joinB l = true then 0 else 40
/-- what Join answers: bytes in memory of their own, and an error -/
def JoinOut (w : World) (l : List Fr) (e : Ending) (w' : World) : Prop :=
  ∃ A' c', e = .returned (.tuple #[.slice A' (joinR l).length c', .int .i64 (joinE l)]) ∧ By w' w'.heap.size A' (joinR l) ∧ (joinR l).length ≤ c' ∧ c' ≤ 90 ∧ (A' = none → c' = 0) ∧ Below w.heap.size w w'
/-- .. and the bytes in a block of their own -/
def JoinNew (w : World) (l : List Fr) (e : Ending) (w' : World) : Prop :=
  ∃ A' c', e = .returned (.tuple #[.slice A' (joinR l).length c', .int .i64 (joinE l)]) ∧ By w' w'.heap.size A' (joinR l) ∧ (joinR l).length ≤ c' ∧ c' ≤ 90 ∧ (A' = none → c' = 0) ∧ Below w.heap.size w w' ∧ ∀ b, A' = some b → w.heap.size ≤ b.block
theorem JoinNew.out {w w' : World} {l : List Fr} {e : Ending} (h : JoinNew w l e w') : JoinOut w l e w' := by
  obtain ⟨A', c', h1, h2, h3, h4, h5, h6, _⟩ := h
  exact ⟨A', c', h1, h2, h3, h4, h5, h6⟩
theorem JoinNew.no {w w' : World} {l : List Fr} (h : joinB l = false) (hb : Below w.heap.size w w') : JoinNew w l (.returned (.tuple #[.slice none 0 0, .int .i64 40])) w' := by
  unfold JoinNew joinR joinE
  rw [if_neg (by rw [h]; simp), if_neg (by rw [h]; simp)]
  exact ⟨none, 0, rfl, By.nil_, Nat.le_refl _, by omega, fun _ => rfl, hb, fun b e => by cases e⟩
theorem join_long {l : List Fr} (h : ¬ (1 ≤ l.length ∧ l.length ≤ 2)) : joinB l = false := by
  cases l with
  | nil => rfl
  | cons f r =>
    have : ¬ (f :: r).length ≤ 2 := by simp only [List.length_cons] at h ⊢; omega
    unfold joinB
    simp only [decide_eq_false this, Bool.false_and]
theorem join_may {l : List Fr} (h : l.all mayB = false) : joinB l = false := by
  cases l with
  | nil => rfl
  | cons f r => unfold joinB; simp only [h, Bool.and_false, Bool.false_and]
theorem join_rest {l : List Fr} (h0 : 0 < l.length) (h1 : l.length ≤ 2) (h2 : l.all mayB = true) : joinB l = decide (cutE (loads l).length l[0].seq l[0].inc = 0 ∧ cutAll (loads l) l[0].seq l[0].inc = l) := by
  cases l with
  | nil => simp at h0
  | cons f r => unfold joinB; simp only [h2, decide_eq_true h1, Bool.true_and, List.getElem_cons_zero]
theorem loads_snoc {l : List Fr} {k : Nat} (h : k < l.length) : loads (l.take (k + 1)) = loads (l.take k) ++ l[k].load := by
  unfold loads
  rw [List.take_succ_eq_append_getElem h, List.flatMap_append]
  simp
theorem may_load {f : Fr} (h : mayB f = true) : f.load.length ≤ 45 := by
  unfold mayB at h
  rw [decide_eq_true_eq] at h
  omega
theorem may_one {f : Fr} (h : mayB f = true) : 1 ≤ f.load.length := by
  unfold mayB at h
  rw [decide_eq_true_eq] at h
  omega
theorem loads_le {l : List Fr} (h : l.all mayB = true) : (loads l).length ≤ l.length * 45 := by
  induction l with
  | nil => simp [loads]
  | cons f r ih =>
    rw [List.all_cons, Bool.and_eq_true] at h
    have h1 := may_load h.1
    have h2 := ih h.2
    unfold loads at *
    rw [List.flatMap_cons, List.length_append, List.length_cons]
    omega
theorem all_take {l : List Fr} (h : l.all mayB = true) (k : Nat) : (l.take k).all mayB = true := by
  rw [List.all_eq_true] at h ⊢
  exact fun x hx => h x (List.mem_of_mem_take hx)
theorem zero90 : (Tryd.prog.info? 101).map (·.zero) = some (some (.agg (vals (List.replicate 90 0)).toArray)) := by kernel_rfl
theorem splice_more (bs ds : List Nat) (n : Nat) (h : bs.length + ds.length ≤ n) : splice (vals (bs ++ List.replicate (n - bs.length) 0)) bs.length (vals ds) = vals ((bs ++ ds) ++ List.replicate (n - (bs ++ ds).length) 0) := by
  have e1 : n - (bs ++ ds).length = n - bs.length - ds.length := by rw [List.length_append]; omega
  unfold splice
  rw [vals_append, List.take_append_of_le_length (by rw [vals_length]; exact Nat.le_refl _), List.take_of_length_le (by rw [vals_length]; exact Nat.le_refl _), List.drop_append, vals_length, vals_length,
    List.drop_of_length_le (by rw [vals_length]; omega), List.nil_append, Nat.add_sub_cancel_left, e1, vals_append, vals_append]
  unfold vals
  rw [List.map_replicate, List.map_replicate, List.drop_replicate, List.append_assoc]

set_option maxHeartbeats 1000000 in
theorem join_no (l : List Fr) (A : Option Addr) (c : Nat) (w : World) (hA : Frs w w.heap.size A l) (hl : l.length ≤ 1000000000) (h : ¬ (1 ≤ l.length ∧ l.length ≤ 2 ∧ l.all mayB = true)) :
    Calls Tryd.prog 25 #[.slice A l.length c] w (JoinNew w l) := by
  by_cases h0 : l.length = 0
  · have HJ := Lib.hid (join_long (l := l) (by omega))
    have hq : ((l.length : Int) == 0) = true := by simp [h0]
    clear h0 h hA
    go_enter Tryd.func25, Tryd.ntmps25
    go_wp2
    go_ret2
    exact JoinNew.no HJ.out (Below.refl _ _)
  have hq : ((l.length : Int) == 0) = false := beq_eq_false_iff_ne.2 (by omega)
  by_cases h2 : 2 < l.length
  · have HJ := Lib.hid (join_long (l := l) (by omega))
    have h2' : (2 : Int) < l.length := by omega
    clear h0 h hA
    go_enter Tryd.func25, Tryd.ntmps25
    go_wp2
    go_ret2
    exact JoinNew.no HJ.out (Below.refl _ _)
  · have hm : l.all mayB = false := by
      cases hm : l.all mayB with
      | false => rfl
      | true => exact absurd ⟨by omega, by omega, hm⟩ h
    have HJ := Lib.hid (join_may hm)
    have HM := allMay_any l A c w hA hl
    rw [hm] at HM
    have HM2 := Lib.hid HM
    have h2' : (l.length : Int) ≤ 2 := by omega
    clear h0 h hA hm HM
    go_enter Tryd.func25, Tryd.ntmps25
    go_wp2_with fail
    refine HM2.out.mono ?_
    rintro e w1 ⟨rfl, hb1⟩
    go_wp2
    go_ret2
    exact JoinNew.no HJ.out hb1

set_option maxRecDepth 100000 in
set_option maxHeartbeats 2000000 in
theorem join_yes (l : List Fr) (A : Option Addr) (c : Nat) (w : World) (hA : Frs w w.heap.size A l) (h1 : 1 ≤ l.length) (h2 : l.length ≤ 2) (hm : l.all mayB = true) :
    Calls Tryd.prog 25 #[.slice A l.length c] w (JoinNew w l) := by
  have hq : ((l.length : Int) == 0) = false := beq_eq_false_iff_ne.2 (by omega)
  have h2' : (l.length : Int) ≤ 2 := by omega
  have HM := allMay_any l A c w hA (by omega)
  rw [hm] at HM
  have HM2 := Lib.hid HM
  have HAll := Lib.hid hm
  have HA := Lib.hid hA
  obtain ⟨Z, hZ⟩ : ∃ Z, Z = vals (List.replicate 90 0) := ⟨_, rfl⟩
  have HZ := Lib.hid (show (Tryd.prog.info? 101).map (·.zero) = some (some (.agg Z.toArray)) by rw [hZ]; exact zero90)
  have HZ2 := Lib.hid hZ
  clear HM hm hA hZ
  go_enter Tryd.func25, Tryd.ntmps25
  go_wp2_with fail
  refine HM2.out.mono ?_
  rintro e w1 ⟨rfl, hb1⟩
  have B1 := Lib.hid hb1
  clear hb1 HM2
  go_wp2_with (first
    | (with_reducible refine wpList_alloc_any rfl 101 rfl Z.toArray HZ.out ?_))
  have R0 := Lib.hid (show (w1.alloc (.cells Z.toArray 101)).heap[w1.heap.size]? = some (.cells (vals (loads (l.take 0) ++ List.replicate (90 - (loads (l.take 0)).length) 0)).toArray 101 (0, 0)) by
    rw [heap_alloc_new, HZ2.out]; rfl)
  have RB := Lib.hid (B1.out.alloc B1.out.size (.cells Z.toArray 101))
  have RZ := Lib.hid (show w1.heap.size < (w1.alloc (.cells Z.toArray 101)).heap.size by simp)
  have RG := Lib.hid B1.out.size
  generalize w1.alloc (.cells Z.toArray 101) = w2 at *
  generalize w1.heap.size = g at *
  clear B1 HZ HZ2
  go_loopw [5, 26] (fun n i wr => ∃ k : Nat, k ≤ l.length ∧ i = .int .i64 k ∧ n = .int .i64 (loads (l.take k)).length ∧ wr.heap[g]? = some (.cells (vals (loads (l.take k) ++ List.replicate (90 - (loads (l.take k)).length) 0)).toArray 101 (0, 0)) ∧ Below w.heap.size w wr) (fun _ i _ => l.length - (intOf i).toNat)
  case atStart => exact ⟨0, by omega, rfl, rfl, R0.out, RB.out⟩
  case round =>
    obtain ⟨k, hk, rfl, rfl, hrow, hb⟩ := hrel
    have HB := Lib.hid hb
    have HR := Lib.hid hrow
    clear hb hrow
    by_cases hlt : k < l.length
    · obtain ⟨b, off, A1, c1, rfl, hbw, hy1, hlc1, hcm1, hn1, hf1, a0, a1, a2, a3, a4, a5⟩ := (HA.out.below HB.out (Nat.le_refl _)).cells hlt
      have hbr : b < wr.heap.size := by have := HB.out.size; omega
      have hki : (k : Int) < l.length := by omega
      have hsn := loads_snoc hlt
      have hl1 := may_one (show mayB l[k] = true from (List.all_eq_true.1 HAll.out) _ (List.getElem_mem hlt))
      have hll := loads_le (all_take HAll.out (k + 1))
      have hlk : (l.take (k + 1)).length ≤ 2 := by rw [List.length_take]; omega
      rw [hsn] at hll
      generalize l[k] = f at *
      generalize loads (l.take k) = bs at *
      rw [List.length_append] at hll
      have HSP := Lib.hid (splice_more bs f.load 90 (by omega))
      have HSN := Lib.hid hsn
      have HY := Lib.hid hy1
      have hn0 : (0 : Int) ≤ (bs.length : Int) := by omega
      have hn90 : (bs.length : Int) ≤ 90 := by omega
      have hnl : bs.length + f.load.length ≤ 90 := by omega
      have hne : ¬ 90 = bs.length := by omega
      clear hsn hll hlk hy1
      have hgw : g < wr.heap.size := by
        have h := HR.out
        rcases Nat.lt_or_ge g wr.heap.size with h' | h'
        · exact h'
        · rw [Array.getElem?_eq_none h'] at h; cases h
      have hB5 := (Below.refl wr.heap.size wr).alloc (Nat.le_refl _) (.cells #[.int .i64 f.seq, .int .i64 f.inc, .int .i64 f.part, .int .i64 f.of, .int .u32 (f.mark : Nat), .slice A1 f.load.length c1] 54)
      have HX := Lib.hid ((hB5.drew.block g hgw).trans HR.out)
      have HS5 := Lib.hid ((HY.out.below hB5.drew HB.out.size).src)
      have HB5 := Lib.hid (HB.out.trans (hB5.drew.mono HB.out.size))
      have n1 := Lib.hid (vals_length f.load)
      have n2 := Lib.hid (show (vals (bs ++ List.replicate (90 - bs.length) 0)).length = 90 by rw [vals_length, List.length_append, List.length_replicate]; omega)
      have hw1 : IntKind.i64.wrap ((bs.length : Int) + (f.load.length : Int)) = (bs.length : Int) + (f.load.length : Int) := by rw [IntKind.wrap_i64]; omega
      clear hB5 hgw
      generalize vals (bs ++ List.replicate (90 - bs.length) 0) = X at *
      go_wp2_with fail
      go_region_law (refine step_copy_splice rfl (.tmp 32) (.tmp 34) 24 24 rfl 5 Tryd.underlying24 Tryd.size5 (some ⟨g, bs.length, none⟩) A1 (90 - bs.length) (90 - bs.length) f.load.length c1 (by simp [Act.eval, Act.put]) (by simp [Act.eval, Act.put]) g bs.length X 101 HX.out (vals f.load) (by rw [n1.out]; exact (Nat.min_eq_left (by omega)).symm) (fun h => ⟨rfl, HS5.out h⟩) (by rw [n1.out, n2.out]; omega) vals_one w.heap.size w HB5.out (by assumption) ?_; intro w4 hg4 hb4; rw [HSP.out] at hg4; rw [n1.out])
      go_wp2
      go_roundw
      case rel => exact ⟨k + 1, by omega, by go_num, by rw [HSN.out, List.length_append]; go_num, by rw [HSN.out]; exact hg4.out, hb4⟩
      case measure => simp [intOf]; omega
    · obtain rfl : k = l.length := by omega
      rw [List.take_length] at HR ⊢
      have hll := loads_le HAll.out
      have hJ := join_rest (by omega) h2 HAll.out
      obtain ⟨b, off, A1, c1, rfl, hbw, _, _, _, _, hf, a0, a1, _, _, _, _⟩ := (HA.out.below HB.out (Nat.le_refl _)).cells (show 0 < l.length by omega)
      rw [Nat.zero_mul, Nat.add_zero] at a0 a1
      have hsq := hf.seq
      generalize l[0] = f0 at *
      have hbl : ∀ x ∈ loads l, x < 256 := fun x hx => by
        obtain ⟨f, hf1, hf2⟩ := List.mem_flatMap.1 hx
        obtain ⟨i, hi, rfl⟩ := List.getElem_of_mem hf1
        obtain ⟨_, _, A2, _, _, _, hy, _⟩ := HA.out.cells hi
        exact hy.1 x hf2
      have hrow : (vals (loads l ++ List.replicate (90 - (loads l).length) 0)).take (loads l).length = vals (loads l) := by
        rw [vals_append, List.take_append_of_le_length (by rw [vals_length]; exact Nat.le_refl _), List.take_of_length_le (by rw [vals_length]; exact Nat.le_refl _)]
      obtain ⟨bs, hbs⟩ : ∃ bs, bs = loads l := ⟨_, rfl⟩
      have HBS := Lib.hid hbs
      rw [← hbs] at HR hJ hll hbl hrow ⊢
      clear hbs
      have HY := Lib.hid (show By wr (g + 1) (some ⟨g, 0, none⟩) bs from By.of_row HR.out (by rw [List.toList_toArray]; exact hrow) hbl)
      have hgw : g < wr.heap.size := by
        have h := HR.out
        rcases Nat.lt_or_ge g wr.heap.size with h' | h'
        · exact h'
        · rw [Array.getElem?_eq_none h'] at h; cases h
      have HGW := Lib.hid hgw
      have hn0 : (0 : Int) ≤ (bs.length : Int) := by omega
      have hn90 : (bs.length : Int) ≤ 90 := by omega
      have hpos : (0 : Int) < (l.length : Int) := by omega
      have hpos' : 0 < l.length := by omega
      have HC := Lib.hid (cut_any bs f0.seq f0.inc (some ⟨g, 0, none⟩) bs.length wr.drew ((HY.out.mono hgw).drew) (Nat.le_refl _) (by unfold maxLen; omega) (by omega) hsq.1 hsq.2)
      have HJ := Lib.hid hJ
      clear hJ hrow hbl hf hll hgw hsq
      go_wp2_with fail
      refine wp_region_held_drew (S := fun W => W.cell? ⟨b, off, none⟩ = some (.int .i64 f0.seq) ∧ W.cell? ⟨b, off + 1, none⟩ = some (.int .i64 f0.inc)) (by kernel_rfl) ⟨a0, a1⟩ (fun hHeld => ?_)
      refine wpAnyH_take (i := 0) (v := ?_) rfl (by kernel_rfl) (by kernel_rfl) (by kernel_rfl) (fun _ _ _ h => h) (Or.inl ⟨by rfl, ?_⟩) (by assumption) ?_
      rotate_left
      · simp only [List.getElem_toArray, List.getElem_cons_zero, List.getElem_cons_succ]; intro W hSw; (try dsimp only at hSw); go_simp; all_goals with_reducible rfl
      simp only [Act.put, List.getElem_toArray, List.getElem_cons_zero, List.getElem_cons_succ, List.setIfInBounds_toArray, List.set_cons_zero, List.set_cons_succ]
      refine wpAnyH_take (i := 1) (v := ?_) rfl (by kernel_rfl) (by kernel_rfl) (by kernel_rfl) (fun _ _ _ h => h) (Or.inl ⟨by rfl, ?_⟩) (by assumption) ?_
      rotate_left
      · simp only [List.getElem_toArray, List.getElem_cons_zero, List.getElem_cons_succ]; intro W hSw; (try dsimp only at hSw); go_simp; all_goals with_reducible rfl
      simp only [Act.put, List.getElem_toArray, List.getElem_cons_zero, List.getElem_cons_succ, List.setIfInBounds_toArray, List.set_cons_zero, List.set_cons_succ]
      refine wpAnyH_take (i := 2) (v := ?_) rfl (by kernel_rfl) (by kernel_rfl) (by kernel_rfl) (fun _ _ _ h => h) (Or.inl ⟨by rfl, ?_⟩) (by assumption) ?_
      rotate_left
      · simp only [List.getElem_toArray, List.getElem_cons_zero, List.getElem_cons_succ]; intro W hSw; (try dsimp only at hSw); go_simp; all_goals with_reducible rfl
      simp only [Act.put, List.getElem_toArray, List.getElem_cons_zero, List.getElem_cons_succ, List.setIfInBounds_toArray, List.set_cons_zero, List.set_cons_succ]
      refine wpAnyH_take (i := 3) (v := ?_) rfl (by kernel_rfl) (by kernel_rfl) (by kernel_rfl) (fun _ _ _ h => h) (Or.inl ⟨by rfl, ?_⟩) (by assumption) ?_
      rotate_left
      · simp only [List.getElem_toArray, List.getElem_cons_zero, List.getElem_cons_succ]; intro W hSw; (try dsimp only at hSw); go_simp; all_goals with_reducible rfl
      simp only [Act.put, List.getElem_toArray, List.getElem_cons_zero, List.getElem_cons_succ, List.setIfInBounds_toArray, List.set_cons_zero, List.set_cons_succ]
      refine wpAnyH_take (i := 4) (v := ?_) rfl (by kernel_rfl) (by kernel_rfl) (by kernel_rfl) (fun _ _ _ h => h) (Or.inl ⟨by rfl, ?_⟩) (by assumption) ?_
      rotate_left
      · simp only [List.getElem_toArray, List.getElem_cons_zero, List.getElem_cons_succ]; intro W hSw; (try dsimp only at hSw); go_simp; all_goals with_reducible rfl
      simp only [Act.put, List.getElem_toArray, List.getElem_cons_zero, List.getElem_cons_succ, List.setIfInBounds_toArray, List.set_cons_zero, List.set_cons_succ]
      refine wpAnyH_take (i := 5) (v := ?_) rfl (by kernel_rfl) (by kernel_rfl) (by kernel_rfl) (fun _ _ _ h => h) (Or.inl ⟨by rfl, ?_⟩) (by assumption) ?_
      rotate_left
      · simp only [List.getElem_toArray, List.getElem_cons_zero, List.getElem_cons_succ]; intro W hSw; (try dsimp only at hSw); go_simp; all_goals with_reducible rfl
      simp only [Act.put, List.getElem_toArray, List.getElem_cons_zero, List.getElem_cons_succ, List.setIfInBounds_toArray, List.set_cons_zero, List.set_cons_succ]
      refine wpAnyH_take (i := 6) (v := ?_) rfl (by kernel_rfl) (by kernel_rfl) (by kernel_rfl) (fun _ _ _ h => h) (Or.inl ⟨by rfl, ?_⟩) (by assumption) ?_
      rotate_left
      · simp only [List.getElem_toArray, List.getElem_cons_zero, List.getElem_cons_succ]; intro W hSw; (try dsimp only at hSw); go_simp; all_goals with_reducible rfl
      simp only [Act.put, List.getElem_toArray, List.getElem_cons_zero, List.getElem_cons_succ, List.setIfInBounds_toArray, List.set_cons_zero, List.set_cons_succ]
      refine wpAnyH_take (i := 7) (v := ?_) rfl (by kernel_rfl) (by kernel_rfl) (by kernel_rfl) (fun _ _ _ h => h) (Or.inl ⟨by rfl, ?_⟩) (by assumption) ?_
      rotate_left
      · simp only [List.getElem_toArray, List.getElem_cons_zero, List.getElem_cons_succ]; intro W hSw; (try dsimp only at hSw); go_simp; all_goals with_reducible rfl
      simp only [Act.put, List.getElem_toArray, List.getElem_cons_zero, List.getElem_cons_succ, List.setIfInBounds_toArray, List.set_cons_zero, List.set_cons_succ]
      refine wpAnyH_take (i := 8) (v := ?_) rfl (by kernel_rfl) (by kernel_rfl) (by kernel_rfl) (fun _ _ _ h => h) (Or.inl ⟨by rfl, ?_⟩) (by assumption) ?_
      rotate_left
      · simp only [List.getElem_toArray, List.getElem_cons_zero, List.getElem_cons_succ]; intro W hSw; (try dsimp only at hSw); go_simp; all_goals with_reducible rfl
      simp only [Act.put, List.getElem_toArray, List.getElem_cons_zero, List.getElem_cons_succ, List.setIfInBounds_toArray, List.set_cons_zero, List.set_cons_succ]
      refine wpAnyH_ready (rs := [9]) (by kernel_rfl) (by simp) ?_
      refine AllReadyH.cons rfl (fun K hK => ?_) AllReadyH.nil
      simp only [List.getElem_toArray, List.getElem_cons_zero, List.getElem_cons_succ]
      go_simp
      refine HC.out.mono ?_
      rintro e w5 ⟨A5, c5, rfl, hfr5, hl5, hc5, hn5, hb5⟩
      go_wp2_with fail
      refine hK.out _ _ (⟨(hb5.cell (p := ⟨b, off, none⟩) (by have := HB.out.size; simp; omega)).trans a0, (hb5.cell (p := ⟨b, off + 1, none⟩) (by have := HB.out.size; simp; omega)).trans a1⟩) (fun hHeldN => ?_)
      clear hK K hHeld
      have hHeld := hHeldN
      clear hHeldN
      (try simp only [Act.put, List.getElem_toArray, List.getElem_cons_zero, List.getElem_cons_succ, List.setIfInBounds_toArray, List.set_cons_zero, List.set_cons_succ])
      refine wpAnyH_take (i := 10) (v := ?_) rfl (by kernel_rfl) (by kernel_rfl) (by kernel_rfl) (fun _ _ _ h => h) (Or.inl ⟨by rfl, ?_⟩) (by assumption) ?_
      rotate_left
      · simp only [List.getElem_toArray, List.getElem_cons_zero, List.getElem_cons_succ]; intro W hSw; (try dsimp only at hSw); go_simp; all_goals with_reducible rfl
      simp only [Act.put, List.getElem_toArray, List.getElem_cons_zero, List.getElem_cons_succ, List.setIfInBounds_toArray, List.set_cons_zero, List.set_cons_succ]
      refine wpAnyH_take (i := 11) (v := ?_) rfl (by kernel_rfl) (by kernel_rfl) (by kernel_rfl) (fun _ _ _ h => h) (Or.inl ⟨by rfl, ?_⟩) (by assumption) ?_
      rotate_left
      · simp only [List.getElem_toArray, List.getElem_cons_zero, List.getElem_cons_succ]; intro W hSw; (try dsimp only at hSw); go_simp; all_goals with_reducible rfl
      simp only [Act.put, List.getElem_toArray, List.getElem_cons_zero, List.getElem_cons_succ, List.setIfInBounds_toArray, List.set_cons_zero, List.set_cons_succ]
      refine wpAnyH_take (i := 12) (v := ?_) rfl (by kernel_rfl) (by kernel_rfl) (by kernel_rfl) (fun _ _ _ h => h) (Or.inl ⟨by rfl, ?_⟩) (by assumption) ?_
      rotate_left
      · simp only [List.getElem_toArray, List.getElem_cons_zero, List.getElem_cons_succ]; intro W hSw; (try dsimp only at hSw); go_simp; all_goals with_reducible rfl
      simp only [Act.put, List.getElem_toArray, List.getElem_cons_zero, List.getElem_cons_succ, List.setIfInBounds_toArray, List.set_cons_zero, List.set_cons_succ]
      refine wpAnyH_take (i := 13) (v := ?_) rfl (by kernel_rfl) (by kernel_rfl) (by kernel_rfl) (fun _ _ _ h => h) (Or.inl ⟨by rfl, ?_⟩) (by assumption) ?_
      rotate_left
      · simp only [List.getElem_toArray, List.getElem_cons_zero, List.getElem_cons_succ]; intro W hSw; (try dsimp only at hSw); go_simp; all_goals with_reducible rfl
      simp only [Act.put, List.getElem_toArray, List.getElem_cons_zero, List.getElem_cons_succ, List.setIfInBounds_toArray, List.set_cons_zero, List.set_cons_succ]
      refine wpAnyH_take (i := 14) (v := ?_) rfl (by kernel_rfl) (by kernel_rfl) (by kernel_rfl) (fun _ _ _ h => h) (Or.inl ⟨by rfl, ?_⟩) (by assumption) ?_
      rotate_left
      · simp only [List.getElem_toArray, List.getElem_cons_zero, List.getElem_cons_succ]; intro W hSw; (try dsimp only at hSw); go_simp; all_goals with_reducible rfl
      simp only [Act.put, List.getElem_toArray, List.getElem_cons_zero, List.getElem_cons_succ, List.setIfInBounds_toArray, List.set_cons_zero, List.set_cons_succ]
      refine wpAnyH_done (by kernel_rfl) ?_ _
      have HB5 := Lib.hid (HB.out.trans (((Below.refl wr.heap.size wr).drew.trans hb5).mono HB.out.size))
      have HY5 := Lib.hid ((HY.out.below ((Below.refl wr.heap.size wr).drew.trans hb5) HGW.out).mono (Nat.le_trans HGW.out hb5.size))
      have HA5 := Lib.hid ((HA.out.below HB5.out (Nat.le_refl _)).mono HB5.out.size)
      have HF5 := Lib.hid hfr5
      clear hfr5 hb5 hHeld HC
      by_cases hE : cutE bs.length f0.seq f0.inc = 0
      · have hq2 : (cutE bs.length f0.seq f0.inc != 0) = false := by rw [hE]; rfl
        have hL : cutL bs f0.seq f0.inc = cutAll bs f0.seq f0.inc := by unfold cutL; rw [if_pos hE]
        rw [hL] at HF5 hl5 ⊢
        have HEq := Lib.hid (equalFunc_any l (cutAll bs f0.seq f0.inc) (some ⟨b, off, none⟩) A5 c c5 w5 HA5.out HF5.out (by omega) (by omega))
        have hJ2 : joinB l = decide (l = cutAll bs f0.seq f0.inc) := by
          rw [HJ.out, Bool.eq_iff_iff, decide_eq_true_eq, decide_eq_true_eq]
          exact ⟨fun h => h.2.symm, fun h => ⟨hE, h.symm⟩⟩
        have HJ2 := Lib.hid hJ2
        clear hE hL hJ2
        go_wp2_with fail
        refine HEq.out.mono ?_
        rintro e w6 ⟨rfl, hb6⟩
        have HB6 := Lib.hid (HB5.out.trans (hb6.mono HB5.out.size))
        have HY6 := Lib.hid ((HY5.out.below hb6 (Nat.le_refl _)).mono hb6.size)
        clear hb6
        by_cases he : l = cutAll bs f0.seq f0.inc
        · have HT := Lib.hid (show joinB l = true by rw [HJ2.out, decide_eq_true_eq]; exact he)
          have hd : decide (l = cutAll bs f0.seq f0.inc) = true := by rw [decide_eq_true_eq]; exact he
          clear he
          go_wp2
          go_ret2
          unfold JoinNew joinR joinE
          rw [if_pos HT.out, if_pos HT.out, ← HBS.out]
          exact ⟨some ⟨g, 0, none⟩, bs.length, rfl, HY6.out, Nat.le_refl _, by omega, (fun e => by cases e), HB6.out, fun b e => by cases e; exact RG.out⟩
        · have HT := Lib.hid (show joinB l = false by rw [HJ2.out, decide_eq_false_iff_not]; exact he)
          have hd : decide (l = cutAll bs f0.seq f0.inc) = false := by rw [decide_eq_false_iff_not]; exact he
          clear he
          go_wp2
          go_ret2
          exact JoinNew.no HT.out HB6.out
      · have hq2 : (cutE bs.length f0.seq f0.inc != 0) = true := by rw [bne_iff_ne]; exact hE
        have HJ2 := Lib.hid (show joinB l = false by rw [HJ.out, decide_eq_false_iff_not]; exact fun h => hE h.1)
        clear hE
        go_wp2
        go_ret2
        exact JoinNew.no HJ2.out HB5.out
/-- P4.2: Join, the bytes in a block of their own -/
theorem join_new (l : List Fr) (A : Option Addr) (c : Nat) (w : World) (hA : Frs w w.heap.size A l) (hl : l.length ≤ 1000000000) :
    Calls Tryd.prog 25 #[.slice A l.length c] w (JoinNew w l) := by
  by_cases h : 1 ≤ l.length ∧ l.length ≤ 2 ∧ l.all mayB = true
  · exact join_yes l A c w hA h.1 h.2.1 h.2.2
  · exact join_no l A c w hA hl h
/-- P4.2: Join -/
theorem join_any (l : List Fr) (A : Option Addr) (c : Nat) (w : World) (hA : Frs w w.heap.size A l) (hl : l.length ≤ 1000000000) :
    Calls Tryd.prog 25 #[.slice A l.length c] w (JoinOut w l) := (join_new l A c w hA hl).mono fun _ _ h => h.out
end Go.Proofs.YtkajcgpkldofjaaDoor.Fm
end

section
/-
  A sum's bytes, the lowest first, by contract.
-/
namespace Go.Proofs.YtkajcgpkldofjaaDoor
set_option maxRecDepth 100000
open Go.RowKit

theorem tail_top (s : Nat) (hs : s < 4294967296) : s / 16777216 % 256 = s / 16777216 := by omega
/-- the four bytes as an array's value -/
def four (s : Nat) : Array Value := (vals (Crc.tail s)).toArray
theorem four_size (s : Nat) : (four s).size = 4 := rfl
theorem four_one (s : Nat) : (four s).all (·.oneCell') = true := Array.all_eq_true_iff_forall_mem.2 fun u hu => vals_one u (by simpa [four] using hu)
theorem four_eq (s : Nat) (hs : s < 4294967296) : #[Value.int .u8 ((s : Int) % 256), .int .u8 ((s : Int) / 256 % 256), .int .u8 ((s : Int) / 65536 % 256), .int .u8 ((s : Int) / 16777216)] = four s := by
  unfold four vals Crc.tail
  rw [tail_top s hs]
  simp

set_option maxHeartbeats 400000 in
theorem lowest_any (s : Nat) (hs : s < 4294967296) (w : World) :
    Calls Tryd.prog 68 #[.int .u32 (s : Int)] w fun e w' => e = .returned (.agg (four s)) ∧ Below w.heap.size w w' := by
  have HF := Lib.hid (four_eq s hs)
  go_enter Tryd.func68, Tryd.ntmps68
  go_wp2
  rw [HF.out]
  exact bodyPost_ret (results_cell_row rfl _ _ w.heap.size 129 (four s) (0, 0) _ rfl (heap_alloc_new w _) Tryd.underlying129 rfl (by rw [four_size]; kernel_rfl)) rfl ⟨rfl, (Below.refl _ _).alloc (Nat.le_refl _) _⟩
end Go.Proofs.YtkajcgpkldofjaaDoor
end

section
/-
  Seal, by contract: a slice of its own.
-/
namespace Go.Proofs.YtkajcgpkldofjaaDoor
set_option maxRecDepth 100000
open Go.RowKit

set_option maxHeartbeats 400000 in
theorem seal_any (bs : List Nat) (A : Option Addr) (c : Nat) (w : World) (hby : By w w.heap.size A bs) (hc : bs.length ≤ c) (hl : bs.length ≤ 1000000000) :
    Calls Tryd.prog 59 #[.slice A bs.length c] w fun e w' => ∃ v, e = .returned v ∧ New w w' (Crc.sealed bs) v := by
  have hs := Crc.sum_lt hby.1
  have H1 := Lib.hid (sum_any bs A c w hby (by unfold maxLen; omega))
  have HE := Lib.hid (show Crc.sealed bs = bs ++ Crc.tail (Crc.sum bs) from rfl)
  generalize Crc.sum bs = s at *
  go_enter Tryd.func59, Tryd.ntmps59
  go_wp2_with fail
  refine H1.out.mono ?_
  rintro e w1 ⟨rfl, hw1⟩
  go_wp2_with fail
  refine (lowest_any s hs _).mono ?_
  rintro e w2 ⟨rfl, hw2⟩
  have H0 := Lib.hid (heap_alloc_new w2 (.cells #[.int .u8 0, .int .u8 0, .int .u8 0, .int .u8 0] 129))
  have HI := Lib.hid (show (Tryd.prog.info? 129).map (·.size) = some (four s).size by rw [four_size]; kernel_rfl)
  have HO := Lib.hid (show (#[Value.int .u8 0, .int .u8 0, .int .u8 0, .int .u8 0] : Array Value).size = (four s).size from rfl)
  have H4 := Lib.hid (four_one s)
  go_wp2_with ((refine wpList_store_row rfl 129 _ _ rfl w2.heap.size (four s) rfl rfl 129 _ H0.out HI.out HO.out H4.out ?_))
  have h3 := setRow_heap _ _ _ (four s) _ _ H0.out
  have hB := below_setRow (((hw1.trans (hw2.mono hw1.size))).alloc (Nat.le_trans hw1.size hw2.size) (.cells #[.int .u8 0, .int .u8 0, .int .u8 0, .int .u8 0] 129)) (Nat.le_trans hw1.size hw2.size) (four s)
  generalize (w2.alloc (.cells #[.int .u8 0, .int .u8 0, .int .u8 0, .int .u8 0] 129)).setRow w2.heap.size (four s) = w3 at h3 hB ⊢
  generalize w2.heap.size = g at h3 ⊢
  have hby3 := hby.below hB (Nat.le_refl _)
  clear H0 HI HO H4 hw1 hw2 H1 hby
  obtain ⟨i0, hi, hz0, hz1, hz2⟩ := info_parts Tryd.info5
  have s1 := Lib.hid (show A = none → bs.length = 0 ∧ bs.length = 0 from hby3.of_none)
  have s2 := Lib.hid (show (vals bs).length = bs.length * 1 by rw [vals_length, Nat.mul_one])
  have s3 := Lib.hid hby3.vals
  have s4 := Lib.hid (show (vals (Crc.tail s)).length = 4 * 1 from rfl)
  have s5 : Hid (∀ j u, (vals (Crc.tail s))[j]? = some u → w3.cell? ((⟨g, 0, none⟩ : Addr).add j) = some u) := fun j u hu => by
    rw [add_flat, Nat.zero_add, cell_of_row w3 g j _ _ _ h3]; simpa [four] using hu
  have s6 := Lib.hid (vals_one (bs := Crc.tail s))
  go_region_law (refine step_append_grows rfl (.tmp 12) (.tmp 13) 24 rfl 5 i0 (.int .u8 0) 1 1 Tryd.underlying24 hi hz0 hz1 hz2 rfl (by decide) A bs.length bs.length (vals bs) (by simp [Act.eval, Act.put]) s1.out s2.out s3.out ⟨g, 0, none⟩ 4 4 (vals (Crc.tail s)) (by simp [Act.eval, Act.put]) s4.out s5.out s6.out (by omega) (by unfold maxLen; omega) (by omega) ?_; intro v' w4 hown hgrow)
  go_wp2
  go_ret
  refine ⟨v', rfl, ?_, ?_⟩
  · rw [HE.out, vals_append, List.length_append]
    exact own_mono hown hB.size
  · exact grown_below hB.drew hgrow
end Go.Proofs.YtkajcgpkldofjaaDoor
end

section
/-
  Bytes, by contract.
-/
namespace Go.Proofs.YtkajcgpkldofjaaDoor.Fm
set_option maxRecDepth 100000
open Go.RowKit

/-- a frame's 60 bytes -/
def secB (f : Fr) : List Nat := (headB f ++ f.load) ++ List.replicate (60 - (headB f ++ f.load).length) 0
theorem secB_length {f : Fr} (h : f.load.length ≤ 45) : (secB f).length = 60 := by
  unfold secB
  rw [List.length_append, List.length_replicate, List.length_append, headB_length]
  omega
theorem headB_lt (f : Fr) : ∀ x ∈ headB f, x < 256 := fun x hx => pre_lt f 5 x hx
theorem secB_lt {f : Fr} (h : ∀ x ∈ f.load, x < 256) : ∀ x ∈ secB f, x < 256 := by
  intro x hx
  unfold secB at hx
  rcases List.mem_append.1 hx with hx | hx
  · rcases List.mem_append.1 hx with hx | hx
    · exact headB_lt f x hx
    · exact h x hx
  · have := List.eq_of_mem_replicate hx
    omega
theorem zero60 : (Tryd.prog.info? 114).map (·.zero) = some (some (.agg (vals (List.replicate 60 0)).toArray)) := by kernel_rfl

set_option maxHeartbeats 1000000 in
theorem bytes_no (f : Fr) (A : Option Addr) (c : Nat) (w : World) (hv : FrV w w.heap.size (frv A c f) f) (hm : mayB f = false) :
    Calls Tryd.prog 44 #[.agg (frv A c f).toArray] w fun e w' => e = .returned (.tuple #[.slice none 0 0, .int .i64 2]) ∧ Below w.heap.size w w' := by
  have hb := (Below.refl w.heap.size w).alloc (Nat.le_refl _) (.cells (frv A c f).toArray 54)
  have hM := may_any f A c _ ((hv.below hb (Nat.le_refl _)).mono hb.size)
  rw [hm] at hM
  have HM := Lib.hid hM
  have HB := Lib.hid hb
  clear hM hb hv hm
  unfold frv at *
  go_enter Tryd.func44, Tryd.ntmps44
  go_wp2_with fail
  refine HM.out.mono ?_
  rintro e w1 ⟨rfl, hb1⟩
  have HB1 := Lib.hid (HB.out.trans (hb1.mono HB.out.size))
  clear hb1
  go_wp2
  go_ret2
  exact ⟨rfl, HB1.out⟩

set_option maxRecDepth 100000 in
set_option maxHeartbeats 2000000 in
theorem bytes_yes (f : Fr) (A : Option Addr) (c : Nat) (w : World) (hv : FrV w w.heap.size (frv A c f) f) (hm : mayB f = true) (hW : Widths w) :
    Calls Tryd.prog 44 #[.agg (frv A c f).toArray] w fun e w' => ∃ v, e = .returned (.tuple #[v, .int .i64 0]) ∧ New w w' (Crc.sealed (secB f)) v := by
  have hb := (Below.refl w.heap.size w).alloc (Nat.le_refl _) (.cells (frv A c f).toArray 54)
  have hM := may_any f A c _ ((hv.below hb (Nat.le_refl _)).mono hb.size)
  rw [hm] at hM
  have HM := Lib.hid hM
  have HB := Lib.hid hb
  have G0 := Lib.hid (heap_alloc_new w (.cells (frv A c f).toArray 54))
  have GZ := Lib.hid (show (w.alloc (.cells (frv A c f).toArray 54)).heap.size = w.heap.size + 1 by simp)
  have l1 := may_one hm
  have l2 := may_load hm
  have HHead := Lib.hid (fun W (hW' : Widths W) => head_any f A c W hm hv.fine.mark hW')
  have HLY := Lib.hid hv.load_by
  have HLc := Lib.hid hv.load_le
  have HF := Lib.hid hv.fine.load
  have HW := Lib.hid hW
  obtain ⟨Z, hZ⟩ : ∃ Z, Z = vals (List.replicate 60 0) := ⟨_, rfl⟩
  have HZ := Lib.hid (show (Tryd.prog.info? 114).map (·.zero) = some (some (.agg Z.toArray)) by rw [hZ]; exact zero60)
  have HS1 := Lib.hid (show splice Z 0 (vals (headB f)) = vals (headB f ++ List.replicate 45 0) by
    have h := splice_more [] (headB f) 60 (by rw [headB_length]; simp)
    simp only [List.nil_append, headB_length, List.length_nil, Nat.sub_zero] at h
    rw [hZ]; exact h)
  have HS2 := Lib.hid (show splice (vals (headB f ++ List.replicate 45 0)) 15 (vals f.load) = vals (secB f) by
    have h := splice_more (headB f) f.load 60 (by rw [headB_length]; omega)
    rw [headB_length] at h
    exact h)
  have HSec := Lib.hid (show secB f = (headB f ++ f.load) ++ List.replicate (60 - (headB f ++ f.load).length) 0 from rfl)
  have HSl := Lib.hid (secB_length (f := f) l2)
  have HSlt := Lib.hid (secB_lt (f := f) hv.fine.load)
  have HHl := Lib.hid (headB_length f)
  have HZl := Lib.hid (show Z.length = 60 by rw [hZ]; rfl)
  clear hM hb hv hm hW hZ
  unfold frv at *
  go_enter Tryd.func44, Tryd.ntmps44
  go_wp2_with fail
  generalize w.alloc (.cells #[.int .i64 f.seq, .int .i64 f.inc, .int .i64 f.part, .int .i64 f.of, .int .u32 (f.mark : Nat), .slice A f.load.length c] 54) = w0 at *
  refine HM.out.mono ?_
  rintro e w1 ⟨rfl, hb1⟩
  have HB1 := Lib.hid hb1
  clear hb1 HM
  go_wp2_with (first
    | (with_reducible refine wpList_alloc_any rfl 114 rfl Z.toArray HZ.out ?_))
  have hb2 := HB1.out.alloc HB1.out.size (.cells Z.toArray 114)
  have hr2 := heap_alloc_new w1 (.cells Z.toArray 114)
  have hz2 : w1.heap.size < (w1.alloc (.cells Z.toArray 114)).heap.size := by simp
  have HB2 := Lib.hid hb2
  have HR2 := Lib.hid hr2
  have HZ2 := Lib.hid hz2
  clear hb2 hr2 hz2
  have hS : ∀ W, Below w0.heap.size w0 W → W.cell? ⟨w.heap.size, 0, none⟩ = some (.int .i64 f.seq) ∧ W.cell? ⟨w.heap.size, 1, none⟩ = some (.int .i64 f.inc) ∧ W.cell? ⟨w.heap.size, 2, none⟩ = some (.int .i64 f.part) ∧ W.cell? ⟨w.heap.size, 3, none⟩ = some (.int .i64 f.of) ∧ W.cell? ⟨w.heap.size, 4, none⟩ = some (.int .u32 (f.mark : Nat)) ∧ W.cell? ⟨w.heap.size, 5, none⟩ = some (.slice A f.load.length c) := fun W hW => by
    have hc : ∀ j, W.cell? ⟨w.heap.size, j, none⟩ = _ := fun j => (hW.cell (p := ⟨w.heap.size, j, none⟩) (by have := GZ.out; simp; omega)).trans (cell_of_row w0 w.heap.size j _ _ _ G0.out)
    exact ⟨hc 0, hc 1, hc 2, hc 3, hc 4, hc 5⟩
  have HS := Lib.hid hS
  clear hS
  have hg : w0.heap.size ≤ w1.heap.size := HB1.out.size
  generalize w1.alloc (.cells Z.toArray 114) = w2 at *
  generalize w1.heap.size = g at *
  have HY2 := Lib.hid (fun W (hW : Below w0.heap.size w0 W) => (HLY.out.below (HB.out.trans (hW.mono HB.out.size)) (Nat.le_refl _)))
  have HG := Lib.hid hg
  go_wp2_with fail
  refine wp_region_held_drew (S := fun W => W.cell? ⟨w.heap.size, 0, none⟩ = some (.int .i64 f.seq) ∧ W.cell? ⟨w.heap.size, 1, none⟩ = some (.int .i64 f.inc) ∧ W.cell? ⟨w.heap.size, 2, none⟩ = some (.int .i64 f.part) ∧ W.cell? ⟨w.heap.size, 3, none⟩ = some (.int .i64 f.of) ∧ W.cell? ⟨w.heap.size, 4, none⟩ = some (.int .u32 (f.mark : Nat)) ∧ W.cell? ⟨w.heap.size, 5, none⟩ = some (.slice A f.load.length c)) (by kernel_rfl) (HS.out _ HB2.out.drew) (fun hHeld => ?_)
  refine wpAnyH_take (i := 0) (v := ?_) rfl (by kernel_rfl) (by kernel_rfl) (by kernel_rfl) (fun _ _ _ h => h) (Or.inl ⟨by rfl, ?_⟩) (by assumption) ?_
  rotate_left
  · simp only [List.getElem_toArray, List.getElem_cons_zero, List.getElem_cons_succ]; intro W hSw; (try dsimp only at hSw); go_simp; all_goals with_reducible rfl
  simp only [Act.put, List.getElem_toArray, List.getElem_cons_zero, List.getElem_cons_succ, List.setIfInBounds_toArray, List.set_cons_zero, List.set_cons_succ]
  refine wpAnyH_take (i := 1) (v := ?_) rfl (by kernel_rfl) (by kernel_rfl) (by kernel_rfl) (fun _ _ _ h => h) (Or.inl ⟨by rfl, ?_⟩) (by assumption) ?_
  rotate_left
  · simp only [List.getElem_toArray, List.getElem_cons_zero, List.getElem_cons_succ]; intro W hSw; (try dsimp only at hSw); go_simp; all_goals with_reducible rfl
  simp only [Act.put, List.getElem_toArray, List.getElem_cons_zero, List.getElem_cons_succ, List.setIfInBounds_toArray, List.set_cons_zero, List.set_cons_succ]
  refine wpAnyH_ready (rs := [2]) (by kernel_rfl) (by simp) ?_
  refine AllReadyH.cons rfl (fun K hK => ?_) AllReadyH.nil
  simp only [List.getElem_toArray, List.getElem_cons_zero, List.getElem_cons_succ]
  go_simp
  refine (HHead.out w2.drew (HW.out.below (HB.out.trans (HB2.out.drew.mono HB.out.size)))).mono ?_
  rintro e w3 ⟨A3, c3, rfl, hy3, hb3⟩
  have hb03 : Below w0.heap.size w0 w3 := HB2.out.drew.trans (hb3.mono HB2.out.drew.size)
  have hr3 := (hb3.block g HZ2.out).trans HR2.out
  have HB3 := Lib.hid hb03
  have HR3 := Lib.hid hr3
  have HY3 := Lib.hid hy3.src
  go_wp2_with fail
  refine hK.out _ _ (HS.out _ hb03) (fun hHeldN => ?_)
  clear hK K hHeld
  have hHeld := hHeldN
  clear hHeldN
  (try simp only [Act.put, List.getElem_toArray, List.getElem_cons_zero, List.getElem_cons_succ, List.setIfInBounds_toArray, List.set_cons_zero, List.set_cons_succ])
  clear hb3 hb03 hr3 hy3
  refine wpAnyH_ready (rs := [3]) (by kernel_rfl) (by simp) ?_
  refine AllReadyH.cons rfl (fun K hK => ?_) AllReadyH.nil
  simp only [List.getElem_toArray, List.getElem_cons_zero, List.getElem_cons_succ]
  have n1 := Lib.hid (vals_length (headB f))
  rw [HHl.out] at n1
  rw [if_pos (by rfl)]
  refine wp_copy_splice rfl (.tmp 9) (.tmp 11) 24 24 rfl 5 Tryd.underlying24 Tryd.size5 (some ⟨g, 0, none⟩) A3 60 60 15 c3 rfl rfl g 0 Z 114 HR3.out (vals (headB f)) (by rw [n1.out]; rfl) (fun h => ⟨rfl, HY3.out h⟩) (by rw [n1.out, HZl.out]; omega) vals_one w0.heap.size w0 HB3.out HG.out ?_
  intro w4 hr4 hb4
  rw [HS1.out] at hr4
  rw [n1.out]
  refine hK.out _ _ (HS.out _ hb4) (fun hHeldN => ?_)
  clear hK K hHeld
  have hHeld := hHeldN
  clear hHeldN
  (try simp only [Act.put, List.getElem_toArray, List.getElem_cons_zero, List.getElem_cons_succ, List.setIfInBounds_toArray, List.set_cons_zero, List.set_cons_succ])
  refine wpAnyH_take (i := 4) (v := ?_) rfl (by kernel_rfl) (by kernel_rfl) (by kernel_rfl) (fun _ _ _ h => h) (Or.inl ⟨by rfl, ?_⟩) (by assumption) ?_
  rotate_left
  · simp only [List.getElem_toArray, List.getElem_cons_zero, List.getElem_cons_succ]; intro W hSw; (try dsimp only at hSw); go_simp; all_goals with_reducible rfl
  simp only [Act.put, List.getElem_toArray, List.getElem_cons_zero, List.getElem_cons_succ, List.setIfInBounds_toArray, List.set_cons_zero, List.set_cons_succ]
  refine wpAnyH_done (by kernel_rfl) ?_ _
  have HB4 := Lib.hid hb4
  have HR4 := Lib.hid hr4.out
  have HY4 := Lib.hid ((HY2.out w4.drew hb4.drew).src)
  clear hb4 hr4 hHeld
  go_wp2_with fail
  refine wp_region_held_drew (S := fun W => W.cell? ⟨w.heap.size, 0, none⟩ = some (.int .i64 f.seq) ∧ W.cell? ⟨w.heap.size, 1, none⟩ = some (.int .i64 f.inc) ∧ W.cell? ⟨w.heap.size, 2, none⟩ = some (.int .i64 f.part) ∧ W.cell? ⟨w.heap.size, 3, none⟩ = some (.int .i64 f.of) ∧ W.cell? ⟨w.heap.size, 4, none⟩ = some (.int .u32 (f.mark : Nat)) ∧ W.cell? ⟨w.heap.size, 5, none⟩ = some (.slice A f.load.length c)) (by kernel_rfl) (HS.out _ HB4.out.drew) (fun hHeld => ?_)
  refine wpAnyH_take (i := 0) (v := ?_) rfl (by kernel_rfl) (by kernel_rfl) (by kernel_rfl) (fun _ _ _ h => h) (Or.inl ⟨by rfl, ?_⟩) (by assumption) ?_
  rotate_left
  · simp only [List.getElem_toArray, List.getElem_cons_zero, List.getElem_cons_succ]; intro W hSw; (try dsimp only at hSw); go_simp; all_goals with_reducible rfl
  simp only [Act.put, List.getElem_toArray, List.getElem_cons_zero, List.getElem_cons_succ, List.setIfInBounds_toArray, List.set_cons_zero, List.set_cons_succ]
  refine wpAnyH_take (i := 1) (v := ?_) rfl (by kernel_rfl) (by kernel_rfl) (by kernel_rfl) (fun _ _ _ h => h) (Or.inl ⟨by rfl, ?_⟩) (by assumption) ?_
  rotate_left
  · simp only [List.getElem_toArray, List.getElem_cons_zero, List.getElem_cons_succ]; intro W hSw; (try dsimp only at hSw); go_simp; all_goals with_reducible rfl
  simp only [Act.put, List.getElem_toArray, List.getElem_cons_zero, List.getElem_cons_succ, List.setIfInBounds_toArray, List.set_cons_zero, List.set_cons_succ]
  refine wpAnyH_take (i := 2) (v := ?_) rfl (by kernel_rfl) (by kernel_rfl) (by kernel_rfl) (fun _ _ _ h => h) (Or.inl ⟨by rfl, ?_⟩) (by assumption) ?_
  rotate_left
  · simp only [List.getElem_toArray, List.getElem_cons_zero, List.getElem_cons_succ]; intro W hSw; (try dsimp only at hSw); go_simp; all_goals with_reducible rfl
  simp only [Act.put, List.getElem_toArray, List.getElem_cons_zero, List.getElem_cons_succ, List.setIfInBounds_toArray, List.set_cons_zero, List.set_cons_succ]
  refine wpAnyH_take (i := 3) (v := ?_) rfl (by kernel_rfl) (by kernel_rfl) (by kernel_rfl) (fun _ _ _ h => h) (Or.inl ⟨by rfl, ?_⟩) (by assumption) ?_
  rotate_left
  · simp only [List.getElem_toArray, List.getElem_cons_zero, List.getElem_cons_succ]; intro W hSw; (try dsimp only at hSw); go_simp; all_goals with_reducible rfl
  simp only [Act.put, List.getElem_toArray, List.getElem_cons_zero, List.getElem_cons_succ, List.setIfInBounds_toArray, List.set_cons_zero, List.set_cons_succ]
  refine wpAnyH_ready (rs := [4]) (by kernel_rfl) (by simp) ?_
  refine AllReadyH.cons rfl (fun K hK => ?_) AllReadyH.nil
  simp only [List.getElem_toArray, List.getElem_cons_zero, List.getElem_cons_succ]
  have n2 := Lib.hid (vals_length f.load)
  have n3 := Lib.hid (show (vals (headB f ++ List.replicate 45 0)).length = 60 by rw [vals_length, List.length_append, List.length_replicate, HHl.out])
  rw [if_pos (by rfl)]
  refine wp_copy_splice rfl (.tmp 14) (.tmp 16) 24 24 rfl 5 Tryd.underlying24 Tryd.size5 (some ⟨g, 15, none⟩) A 45 45 f.load.length c rfl rfl g 15 (vals (headB f ++ List.replicate 45 0)) 114 HR4.out (vals f.load) (by rw [n2.out]; exact (Nat.min_eq_left (by omega)).symm) (fun h => ⟨rfl, HY4.out h⟩) (by rw [n2.out, n3.out]; omega) vals_one w0.heap.size w0 HB4.out.drew HG.out ?_
  intro w5 hr5 hb5
  rw [HS2.out] at hr5
  refine hK.out _ _ (HS.out _ hb5) (fun hHeldN => ?_)
  clear hK K hHeld
  have hHeld := hHeldN
  clear hHeldN
  (try simp only [Act.put, List.getElem_toArray, List.getElem_cons_zero, List.getElem_cons_succ, List.setIfInBounds_toArray, List.set_cons_zero, List.set_cons_succ])
  refine wpAnyH_done (by kernel_rfl) ?_ _
  have hgz : g < w5.heap.size := by
    have h := hr5.out
    rcases Nat.lt_or_ge g w5.heap.size with h' | h'
    · exact h'
    · rw [Array.getElem?_eq_none h'] at h; cases h
  have HB5 := Lib.hid (HB.out.trans (hb5.mono HB.out.size))
  have hSeal := seal_any (secB f) (some ⟨g, 0, none⟩) 60 w5 ((By.of_row hr5.out (by rw [List.toList_toArray]; exact List.take_of_length_le (by rw [vals_length]; exact Nat.le_refl _)) HSlt.out).mono hgz) (by rw [HSl.out]; omega) (by rw [HSl.out]; omega)
  rw [HSl.out] at hSeal
  have HSeal := Lib.hid hSeal
  clear hSeal hr5 hb5 hHeld hgz
  go_wp2_with fail
  refine HSeal.out.mono ?_
  rintro e w6 ⟨v, rfl, hv⟩
  have HV := Lib.hid hv
  clear hv
  go_wp2
  go_ret2
  exact ⟨v, rfl, own_mono HV.out.1 HB5.out.size, HB5.out.trans (HV.out.2.mono HB5.out.size)⟩
end Go.Proofs.YtkajcgpkldofjaaDoor.Fm
end

section
/-
  Get, of the program, by contract.
-/
namespace Go.Proofs.YtkajcgpkldofjaaDoor
set_option maxRecDepth 100000
open Go.RowKit

theorem wid_yes {m : Nat} (h1 : 1 ≤ m) (h6 : m ≤ 6) : wid m = true := by unfold wid; simp; omega
theorem wid_of {z : Int} (h : wid z = true) : ∃ m : Nat, z = m ∧ 1 ≤ m ∧ m ≤ 6 := by
  unfold wid at h
  rw [decide_eq_true_eq] at h
  exact ⟨z.toNat, by omega, by omega, by omega⟩
theorem six_ways {k : Nat} (h : k < 6) : k = 0 ∨ k = 1 ∨ k = 2 ∨ k = 3 ∨ k = 4 ∨ k = 5 := by omega
/-- the part that stands at a place -/
theorem part_snoc (bs : List Nat) (a k : Nat) (h : a + k < bs.length) : (bs.drop a).take (k + 1) = (bs.drop a).take k ++ [bs.getD (a + k) 0] := by
  rw [List.take_succ_eq_append_getElem (by rw [List.length_drop]; omega), List.getElem_drop, getD_at _ _ h]
theorem part_length (bs : List Nat) (a k : Nat) (h : a + k ≤ bs.length) : ((bs.drop a).take k).length = k := by
  rw [List.length_take, List.length_drop]; omega

set_option maxHeartbeats 400000 in
theorem get_yes (bs : List Nat) (a m : Nat) (hm : 1 ≤ m) (hm6 : m ≤ 6) (ha : a + m ≤ bs.length) (A : Option Addr) (c : Nat) (w : World) (hA : By w w.heap.size A bs) (hl : bs.length ≤ 100000000) :
    Calls Tryd.prog 74 #[.slice A bs.length c, .int .i64 (a : Int), .int .i64 (m : Int)] w fun e w' => e = .returned (.tuple #[.int .i64 (num ((bs.drop a).take m) : Nat), .int .i64 0]) ∧ w = w' := by
  have hw := Lib.hid (isWidth_any m)
  rw [wid_yes hm hm6] at hw
  obtain ⟨b, off, rfl, hb, hcells⟩ := hA.at_ (by omega)
  have hbl := hA.1
  clear hA
  go_enter Tryd.func74, Tryd.ntmps74
  go_wp2_with fail
  refine (hw.out _).mono ?_
  rintro e w1 ⟨rfl, rfl⟩
  go_wp2
  go_loop [8, 9, 24] (fun n _ i => ∃ k : Nat, k ≤ m ∧ i = .int .i64 k ∧ n = .int .i64 (num ((bs.drop a).take k) : Nat)) (fun _ _ i => m - (intOf i).toNat)
  case atStart => exact ⟨0, by omega, rfl, rfl⟩
  case round =>
    obtain ⟨k, hk, rfl, rfl⟩ := hrel
    by_cases hlt : k < m
    · have hk6 : k < 6 := by omega
      have hp := part_snoc bs a k (by omega)
      have hpl := part_length bs a k (by omega)
      have hcell := hcells (a + k) (by omega)
      have hlen : a + k < bs.length := by omega
      have hN := num_lt ((bs.drop a).take k) fun x hx => hbl x (List.mem_of_mem_drop (List.mem_of_mem_take hx))
      have hB : bs.getD (a + k) 0 < 256 := by rw [getD_at _ _ hlen]; exact hbl _ (List.getElem_mem hlen)
      have hs := num_snoc (bs.getD (a + k) 0) ((bs.drop a).take k)
      rw [← hp, hpl] at hs
      rw [hpl] at hN
      have ho := or_hi k _ _ hN hB hk6
      rw [← hs] at ho
      clear hp hpl hcells hbl hs
      generalize bs.getD (a + k) 0 = B at *
      generalize num ((bs.drop a).take k) = N at *
      obtain ⟨N', hN'⟩ : ∃ N', num ((bs.drop a).take (k + 1)) = N' := ⟨_, rfl⟩
      rw [hN'] at ho
      have HN := Lib.hid hN'
      clear hN'
      rcases six_ways hk6 with rfl | rfl | rfl | rfl | rfl | rfl
      · rw [show ((B * 256 ^ 0 : Nat) : Int) = (B : Int) by omega] at ho
        rw [Nat.add_zero] at hcell
        go_wp2
        exact ⟨⟨1, by omega, rfl, by rw [HN.out]⟩, by simp [intOf]; omega⟩
      · rw [show ((B * 256 ^ 1 : Nat) : Int) = (B : Int) * 256 by omega] at ho
        go_wp2
        exact ⟨⟨2, by omega, rfl, by rw [HN.out]⟩, by simp [intOf]; omega⟩
      · rw [show ((B * 256 ^ 2 : Nat) : Int) = (B : Int) * 65536 by omega] at ho
        go_wp2
        exact ⟨⟨3, by omega, rfl, by rw [HN.out]⟩, by simp [intOf]; omega⟩
      · rw [show ((B * 256 ^ 3 : Nat) : Int) = (B : Int) * 16777216 by omega] at ho
        go_wp2
        exact ⟨⟨4, by omega, rfl, by rw [HN.out]⟩, by simp [intOf]; omega⟩
      · rw [show ((B * 256 ^ 4 : Nat) : Int) = (B : Int) * 4294967296 by omega] at ho
        go_wp2
        exact ⟨⟨5, by omega, rfl, by rw [HN.out]⟩, by simp [intOf]; omega⟩
      · rw [show ((B * 256 ^ 5 : Nat) : Int) = (B : Int) * 1099511627776 by omega] at ho
        go_wp2
        exact ⟨⟨6, by omega, rfl, by rw [HN.out]⟩, by simp [intOf]; omega⟩
    · obtain rfl : k = m := by omega
      go_wp2
      go_ret2
      exact ⟨rfl, rfl⟩

set_option maxHeartbeats 400000 in
theorem get_width (n : Nat) (a z : Int) (hz : wid z = false) (A : Option Addr) (c : Nat) (w : World) :
    Calls Tryd.prog 74 #[.slice A n c, .int .i64 a, .int .i64 z] w fun e w' => e = .returned (.tuple #[.int .i64 0, .int .i64 2]) ∧ w = w' := by
  have hw := Lib.hid (isWidth_any z)
  rw [hz] at hw
  go_enter Tryd.func74, Tryd.ntmps74
  go_wp2_with fail
  refine (hw.out _).mono ?_
  rintro e w1 ⟨rfl, rfl⟩
  go_wp2
  go_ret2
  exact ⟨rfl, rfl⟩
set_option maxHeartbeats 400000 in
theorem get_place (n : Nat) (a : Int) (m : Nat) (hm : 1 ≤ m) (hm6 : m ≤ 6) (ha : a < 0 ∨ (n : Int) - m < a) (hn : n ≤ 100000000) (A : Option Addr) (c : Nat) (w : World) :
    Calls Tryd.prog 74 #[.slice A n c, .int .i64 a, .int .i64 (m : Int)] w fun e w' => e = .returned (.tuple #[.int .i64 0, .int .i64 40]) ∧ w = w' := by
  have hw := Lib.hid (isWidth_any m)
  rw [wid_yes hm hm6] at hw
  by_cases h0 : a < 0
  all_goals
    go_enter Tryd.func74, Tryd.ntmps74
    go_wp2_with fail
    refine (hw.out _).mono ?_
    rintro e w1 ⟨rfl, rfl⟩
    go_wp2
    go_ret2
    exact ⟨rfl, rfl⟩

end Go.Proofs.YtkajcgpkldofjaaDoor
end
