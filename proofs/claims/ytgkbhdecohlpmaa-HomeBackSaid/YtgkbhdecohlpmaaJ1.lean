/-
  Texts Crc, Base, DkGround, DkDisk, DkPlain, DkNewest, DkRead, DkWrites, DkFlush, DkStore, DkWrite, DkClone, DkRounds, DkInRound, DkEach, DkCrash, Hm, HSays, DkWakes, HWaked, joined.
-/
import Derived.Test.YtgkbhdecohlpmaaRows
import Derived.WalkKit
import Derived.WalkLawsBesides
import Derived.WalkSpells
import Derived.Lib.Hide
import Derived.Laws.CopyOwn
import Derived.Laws.AppendOwnNone
import Derived.Maps.RangeWalk
import Derived.Maps.OwnSet
import Derived.Maps.OwnOps
import Derived.Maps.AppendAt
import Derived.Laws.MakeOwn
import Derived.Laws.IdiomRangeMap
import Derived.LoopN
import Derived.Maps.Ext
import Derived.Deep.RegionHeld3
import Derived.Deep.AppendLies
import Derived.Shelf.SlMaps.Clone
import Derived.Lib.BufferMore
import Derived.RangeFuncNested
import Derived.RangeFuncBound
import Derived.RangeFuncLeaves
import Derived.Shelf.Abstract
import Derived.OwnWalkIn
import Derived.TacticsInMore
import Derived.LoopNIn
import Derived.LoopIn
import Derived.Lib.SlBytesConst
set_option linter.all false
section
/-
  Plain mathematics of layer 1: one step of the remainder on natural numbers, its linearity, the sum of bytes, the table of half bytes, changes within 32 bits.
-/
namespace Go.Proofs.Ytgkbhdecohlpmaa.Crc

/-- one bit of the remainder -/
def sh (x : Nat) : Nat := if x % 2 = 1 then (x / 2) ^^^ 3988292384 else x / 2
/-- n bits -/
def shn : Nat → Nat → Nat
  | 0, x => x
  | n + 1, x => shn n (sh x)

theorem xor_mod2 (x y : Nat) : (x ^^^ y) % 2 = (x % 2 + y % 2) % 2 := by
  have h : (x ^^^ y) % 2 ^ 1 = (x % 2 ^ 1) ^^^ (y % 2 ^ 1) := Nat.xor_mod_two_pow
  simp only [Nat.pow_one] at h
  rw [h]
  rcases Nat.mod_two_eq_zero_or_one x with a | a <;> rcases Nat.mod_two_eq_zero_or_one y with b | b <;> rw [a, b] <;> rfl
theorem xor_half (x y : Nat) : (x ^^^ y) / 2 = (x / 2) ^^^ (y / 2) := by
  have h : (x ^^^ y) / 2 ^ 1 = (x / 2 ^ 1) ^^^ (y / 2 ^ 1) := Nat.xor_div_two_pow
  simpa only [Nat.pow_one] using h
theorem sh_xor (x y : Nat) : sh (x ^^^ y) = sh x ^^^ sh y := by
  unfold sh
  rw [xor_mod2, xor_half]
  rcases Nat.mod_two_eq_zero_or_one x with a | a <;> rcases Nat.mod_two_eq_zero_or_one y with b | b <;> rw [a, b]
  · simp
  · simp [Nat.xor_assoc]
  · simp [Nat.xor_assoc, Nat.xor_comm (y / 2)]
  · simp only [Nat.reduceAdd, Nat.mod_self, Nat.reduceEqDiff, if_false, if_true]
    rw [Nat.xor_assoc, Nat.xor_comm 3988292384, Nat.xor_assoc, Nat.xor_self, Nat.xor_zero]
theorem sh_lt {x : Nat} (h : x < 4294967296) : sh x < 4294967296 := by
  unfold sh
  split
  · exact Nat.xor_lt_two_pow (n := 32) (by omega) (by decide)
  · omega
theorem sh_zero_iff {x : Nat} (h : sh x = 0) : x = 0 ∨ 4294967296 ≤ x := by
  unfold sh at h
  split at h
  · have : x / 2 = 3988292384 := by
      have e := congrArg (· ^^^ 3988292384) h
      simpa [Nat.xor_assoc] using e
    omega
  · omega
theorem shn_xor (n : Nat) : ∀ x y, shn n (x ^^^ y) = shn n x ^^^ shn n y := by
  induction n with
  | zero => intro x y; rfl
  | succ n ih => intro x y; simp only [shn]; rw [sh_xor, ih]
theorem shn_lt (n : Nat) : ∀ {x}, x < 4294967296 → shn n x < 4294967296 := by
  induction n with
  | zero => intro x h; exact h
  | succ n ih => intro x h; exact ih (sh_lt h)
theorem shn_add (m n : Nat) : ∀ x, shn (m + n) x = shn n (shn m x) := by
  induction m with
  | zero => intro x; rw [Nat.zero_add]; rfl
  | succ m ih => intro x; rw [Nat.succ_add]; exact ih _
theorem shn_succ (n x : Nat) : shn (n + 1) x = sh (shn n x) := by rw [shn_add]; rfl
theorem shn_zero (n : Nat) : shn n 0 = 0 := by
  induction n with
  | zero => rfl
  | succ n ih => exact ih
/-- a nonzero remainder stays one -/
theorem shn_ne (n : Nat) : ∀ {x}, x < 4294967296 → x ≠ 0 → shn n x ≠ 0 := by
  induction n with
  | zero => intro x _ h; exact h
  | succ n ih =>
    intro x hx h
    refine ih (sh_lt hx) fun e => ?_
    rcases sh_zero_iff e with e | e <;> omega
/-- bits that have not come to the lowest place yet -/
theorem shn_pow (n : Nat) : ∀ y, shn n (2 ^ n * y) = y := by
  induction n with
  | zero => intro y; simp [shn]
  | succ n ih =>
    intro y
    have e : 2 ^ (n + 1) * y = 2 * (2 ^ n * y) := by rw [Nat.pow_succ, Nat.mul_comm (2 ^ n) 2, Nat.mul_assoc]
    show shn n (sh (2 ^ (n + 1) * y)) = y
    have h : sh (2 ^ (n + 1) * y) = 2 ^ n * y := by
      rw [e]; unfold sh; rw [if_neg (by omega)]; omega
    rw [h]; exact ih y
theorem split_xor (n x : Nat) : x = (2 ^ n * (x / 2 ^ n)) ^^^ (x % 2 ^ n) := by
  refine Nat.eq_of_testBit_eq fun i => ?_
  rw [Nat.testBit_xor, Nat.testBit_two_pow_mul, Nat.testBit_mod_two_pow, Nat.testBit_div_two_pow]
  by_cases h : i < n
  · have : ¬ n ≤ i := by omega
    simp [h, this]
  · have : n ≤ i := by omega
    simp [h, this]
/-- n bits at once: the lowest n by the table, the others shifted -/
theorem shn_split (n x : Nat) : shn n x = (x / 2 ^ n) ^^^ shn n (x % 2 ^ n) := by
  conv => lhs; rw [split_xor n x]
  rw [shn_xor, shn_pow]
/-- the table of half bytes -/
def half (h : Nat) : Nat := shn 4 h
theorem nibble (x : Nat) : shn 4 x = (x / 16) ^^^ half (x % 16) := shn_split 4 x
theorem half_lt {h : Nat} (hh : h < 16) : half h < 4294967296 := shn_lt 4 (by omega)

/-- a byte more -/
def upd (r b : Nat) : Nat := shn 8 (r ^^^ b)
theorem upd_lt {r b : Nat} (hr : r < 4294967296) (hb : b < 256) : upd r b < 4294967296 := shn_lt 8 (Nat.xor_lt_two_pow (n := 32) hr (by omega))
theorem upd_two (r b : Nat) : upd r b = shn 4 (shn 4 (r ^^^ b)) := shn_add 4 4 _
/-- bytes -/
def rem (r : Nat) (bs : List Nat) : Nat := bs.foldl upd r
theorem rem_lt {bs : List Nat} (hb : ∀ b ∈ bs, b < 256) : ∀ {r}, r < 4294967296 → rem r bs < 4294967296 := by
  induction bs with
  | nil => intro r h; exact h
  | cons a l ih =>
    intro r h
    exact ih (fun b hm => hb b (List.mem_cons_of_mem _ hm)) (upd_lt h (hb a List.mem_cons_self))
theorem rem_append (r : Nat) (a b : List Nat) : rem r (a ++ b) = rem (rem r a) b := List.foldl_append
theorem rem_snoc (r : Nat) (a : List Nat) (b : Nat) : rem r (a ++ [b]) = upd (rem r a) b := rem_append r a [b]
/-- all bits turned about -/
def neg (x : Nat) : Nat := 4294967295 ^^^ x
theorem neg_lt {x : Nat} (h : x < 4294967296) : neg x < 4294967296 := Nat.xor_lt_two_pow (n := 32) (by decide) h
theorem xor_twice (a x : Nat) : a ^^^ (a ^^^ x) = x := by rw [← Nat.xor_assoc, Nat.xor_self, Nat.zero_xor]
theorem neg_def (x : Nat) : neg x = 4294967295 ^^^ x := by rw [neg]
theorem neg_neg (x : Nat) : neg (neg x) = x := by rw [neg_def (neg x), neg_def x, xor_twice]
/-- P1.1: Join, Sum -/
def join (s : Nat) (bs : List Nat) : Nat := neg (rem (neg s) bs)
def sum (bs : List Nat) : Nat := join 0 bs
theorem join_lt {s : Nat} {bs : List Nat} (hs : s < 4294967296) (hb : ∀ b ∈ bs, b < 256) : join s bs < 4294967296 := neg_lt (rem_lt hb (neg_lt hs))
theorem sum_lt {bs : List Nat} (hb : ∀ b ∈ bs, b < 256) : sum bs < 4294967296 := join_lt (by omega) hb
theorem join_append (s : Nat) (a b : List Nat) : join (join s a) b = join s (a ++ b) := by
  unfold join; rw [neg_neg, rem_append]
theorem rem_nil (r : Nat) : rem r [] = r := rfl
theorem join_nil (s : Nat) : join s [] = s := by unfold join; rw [rem_nil, neg_neg]
/-- the sum's bytes, the lowest first -/
def tail (s : Nat) : List Nat := [s % 256, s / 256 % 256, s / 65536 % 256, s / 16777216 % 256]
def sealed (bs : List Nat) : List Nat := bs ++ tail (sum bs)
theorem tail_lt (s : Nat) : ∀ b ∈ tail s, b < 256 := by
  intro b hb
  simp only [tail, List.mem_cons, List.not_mem_nil, or_false] at hb
  rcases hb with rfl | rfl | rfl | rfl <;> omega
theorem sealed_lt {bs : List Nat} (hb : ∀ b ∈ bs, b < 256) : ∀ b ∈ sealed bs, b < 256 := by
  intro b hm
  rcases List.mem_append.1 hm with h | h
  · exact hb b h
  · exact tail_lt _ b h
theorem sealed_length (bs : List Nat) : (sealed bs).length = bs.length + 4 := by simp [sealed, tail]
/-- whether bytes are sealed -/
def isSealed (bs : List Nat) : Bool := decide (4 ≤ bs.length) && decide (bs.drop (bs.length - 4) = tail (sum (bs.take (bs.length - 4))))
theorem isSealed_sealed (bs : List Nat) : isSealed (sealed bs) = true := by
  unfold isSealed
  rw [sealed_length, Nat.add_sub_cancel]
  simp [sealed]

/-- bytes as one number, the lowest first -/
def le : List Nat → Nat
  | [] => 0
  | b :: l => b + 256 * le l
theorem le_lt {bs : List Nat} (hb : ∀ b ∈ bs, b < 256) : le bs < 2 ^ (8 * bs.length) := by
  induction bs with
  | nil => simp [le]
  | cons a l ih =>
    have h1 := ih fun b hm => hb b (List.mem_cons_of_mem _ hm)
    have h2 := hb a List.mem_cons_self
    have e : 2 ^ (8 * (a :: l).length) = 256 * 2 ^ (8 * l.length) := by
      rw [List.length_cons, Nat.mul_add, Nat.pow_add, Nat.mul_comm]
    rw [e]; simp only [le]; omega
theorem add_shift (a m : Nat) (h : a < 256) : a + 256 * m = a ^^^ (256 * m) := by
  have h1 := split_xor 8 (a + 256 * m)
  have h2 : (a + 256 * m) / 2 ^ 8 = m := by show (a + 256 * m) / 256 = m; omega
  have h3 : (a + 256 * m) % 2 ^ 8 = a := by show (a + 256 * m) % 256 = a; omega
  rw [h2, h3, Nat.xor_comm] at h1
  exact h1
/-- the remainder of bytes is that of their number -/
theorem rem_le (bs : List Nat) (hb : ∀ b ∈ bs, b < 256) : ∀ r, rem r bs = shn (8 * bs.length) (r ^^^ le bs) := by
  induction bs with
  | nil => intro r; simp [rem, le, shn]
  | cons a l ih =>
    intro r
    have h1 := ih (fun b hm => hb b (List.mem_cons_of_mem _ hm)) (upd r a)
    have h2 := hb a List.mem_cons_self
    have e : 8 * (a :: l).length = 8 + 8 * l.length := by rw [List.length_cons]; omega
    show rem (upd r a) l = _
    rw [h1, e, shn_add]
    congr 1
    simp only [le]
    rw [add_shift a _ h2, ← Nat.xor_assoc, shn_xor, upd]
    congr 1
    exact (shn_pow 8 (le l)).symm
theorem le_append (a b : List Nat) : le (a ++ b) = le a + 2 ^ (8 * a.length) * le b := by
  induction a with
  | nil => simp [le]
  | cons x l ih =>
    have e : 8 * (x :: l).length = 8 + 8 * l.length := by rw [List.length_cons]; omega
    simp only [List.cons_append, le, ih, e, Nat.pow_add]
    rw [Nat.mul_add, ← Nat.mul_assoc, Nat.add_assoc]
theorem le_tail {s : Nat} (h : s < 4294967296) : le (tail s) = s := by
  simp only [le, tail]; omega
theorem le_inj : ∀ {a b : List Nat}, (∀ x ∈ a, x < 256) → (∀ x ∈ b, x < 256) → a.length = b.length → le a = le b → a = b := by
  intro a
  induction a with
  | nil => intro b _ _ hl _; cases b with
    | nil => rfl
    | cons _ _ => simp at hl
  | cons x l ih =>
    intro b ha hb hl he
    cases b with
    | nil => simp at hl
    | cons y m =>
      have h1 := ha x List.mem_cons_self
      have h2 := hb y List.mem_cons_self
      simp only [le] at he
      have e1 : x = y := by omega
      have e2 : le l = le m := by omega
      rw [e1, ih (fun z hz => ha z (List.mem_cons_of_mem _ hz)) (fun z hz => hb z (List.mem_cons_of_mem _ hz)) (by simpa using hl) e2]

/-- what is left of sealed bytes: always the same -/
def good : Nat := shn 32 4294967295
theorem rem_tail (r : Nat) (s : Nat) (hs : s < 4294967296) : rem r (tail s) = shn 32 (r ^^^ s) := by
  rw [rem_le _ (tail_lt s), le_tail hs]; rfl
theorem good_of_sealed {bs : List Nat} (hb : ∀ b ∈ bs, b < 256) (h : isSealed bs = true) : rem 4294967295 bs = good := by
  unfold isSealed at h
  simp only [Bool.and_eq_true, decide_eq_true_eq] at h
  obtain ⟨_, h⟩ := h
  have hb' : ∀ b ∈ bs.take (bs.length - 4), b < 256 := fun b hm => hb b (List.mem_of_mem_take hm)
  have e : bs = bs.take (bs.length - 4) ++ tail (sum (bs.take (bs.length - 4))) := by rw [← h, List.take_append_drop]
  rw [e, rem_append, rem_tail _ _ (sum_lt hb')]
  have f : ∀ x : Nat, x ^^^ neg x = 4294967295 := fun x => by
    unfold neg; rw [Nat.xor_comm 4294967295, ← Nat.xor_assoc, Nat.xor_self, Nat.zero_xor]
  have g : neg 0 = 4294967295 := by unfold neg; rw [Nat.xor_zero]
  unfold good sum join
  rw [g, f]
/-- P1.3: a change whose bits lie within 32 of one another is told. -/
theorem burst {s t : List Nat} (hs : ∀ b ∈ s, b < 256) (ht : ∀ b ∈ t, b < 256) (hl : s.length = t.length) (e at_ : Nat) (he : e ≠ 0) (he2 : e < 4294967296) (hat : at_ ≤ 8 * s.length)
    (hx : le t = le s ^^^ (2 ^ at_ * e)) (h1 : isSealed s = true) : isSealed t = false := by
  rcases hb : isSealed t with _ | _
  · rfl
  exfalso
  have g1 := good_of_sealed hs h1
  have g2 := good_of_sealed ht hb
  rw [rem_le _ hs] at g1
  rw [rem_le _ ht, hx, ← hl, ← Nat.xor_assoc, shn_xor, g1] at g2
  have h3 : shn (8 * s.length) (2 ^ at_ * e) = 0 := by
    have e := congrArg (good ^^^ ·) g2
    simpa [← Nat.xor_assoc] using e
  obtain ⟨k, hk⟩ := Nat.exists_eq_add_of_le hat
  rw [hk, shn_add, shn_pow] at h3
  exact shn_ne k he2 he h3
end Go.Proofs.Ytgkbhdecohlpmaa.Crc
end

section
/-
  Bytes in memory, as lists of numbers below 256: what reads, what was made, what stays; strings of them; rows that are written in a loop.
-/
namespace Go.Proofs.Ytgkbhdecohlpmaa
set_option maxRecDepth 100000
open Go.RowKit

theorem ret_int {k : IntKind} {a b : Int} (h : a = b) : Ending.returned (.int k a) = .returned (.int k b) := by rw [h]
theorem i64_bits (a : Nat) (ha : a < 9223372036854775808) : (BitVec.ofInt 64 (a : Int)).toNat = a := by rw [BitVec.toNat_ofInt]; omega
theorem i64_wraps (x : Nat) (h : x < 9223372036854775808) : IntKind.i64.wrap (x : Int) = (x : Int) := by rw [IntKind.wrap_i64]; omega
theorem i64_and_nat (a b : Nat) (ha : a < 9223372036854775808) (hb : b < 9223372036854775808) : bits .and .i64 (a : Int) (b : Int) = ((a &&& b : Nat) : Int) := by
  show IntKind.i64.wrap ((BitVec.ofInt 64 (a : Int) &&& BitVec.ofInt 64 (b : Int)).toNat : Nat) = _
  rw [BitVec.toNat_and, i64_bits a ha, i64_bits b hb]
  exact i64_wraps _ (Nat.lt_of_le_of_lt Nat.and_le_left ha)
theorem i64_or_nat (a b : Nat) (ha : a < 9223372036854775808) (hb : b < 9223372036854775808) : bits .or .i64 (a : Int) (b : Int) = ((a ||| b : Nat) : Int) := by
  show IntKind.i64.wrap ((BitVec.ofInt 64 (a : Int) ||| BitVec.ofInt 64 (b : Int)).toNat : Nat) = _
  rw [BitVec.toNat_or, i64_bits a ha, i64_bits b hb]
  exact i64_wraps _ (Nat.or_lt_two_pow (n := 63) ha hb)
theorem Try.info5 : (Try.prog.info? 5).map (fun i => (i.zero, i.size, i.bytes)) = some (some (.int .u8 0), 1, 1) := by kernel_rfl
theorem getD_at (l : List Nat) (k : Nat) (h : k < l.length) : l.getD k 0 = l[k] := by simp [List.getD, h]
theorem add_flat (b off n : Nat) : (⟨b, off, none⟩ : Addr).add n = ⟨b, off + n, none⟩ := by
  unfold Addr.add; split <;> simp_all

/-- The slice at A holds the bytes bs, in a block below B (asked for only where there is a byte). -/
def By (w : World) (B : Nat) (A : Option Addr) (bs : List Nat) : Prop :=
  (∀ x ∈ bs, x < 256) ∧ (0 < bs.length → ∃ b off, A = some ⟨b, off, none⟩ ∧ b < B ∧ ∀ j, j < bs.length → w.cell? ⟨b, off + j, none⟩ = some (.int .u8 (bs.getD j 0 : Nat)))

section
variable {w w' : World} {B B' : Nat} {A : Option Addr} {bs : List Nat}
theorem By.nil_ : By w B A [] := ⟨fun _ h => (List.not_mem_nil h).elim, fun h => absurd h (by simp)⟩
theorem By.keep (h : By w B A bs) (hk : ∀ p : Addr, p.block < B → w'.cell? p = w.cell? p) : By w' B A bs :=
  ⟨h.1, fun hn => by
    obtain ⟨b, off, e, hb, hc⟩ := h.2 hn
    exact ⟨b, off, e, hb, fun j hj => (hk _ hb).trans (hc j hj)⟩⟩
theorem By.mono (h : By w B A bs) (hB : B ≤ B') : By w B' A bs :=
  ⟨h.1, fun hn => by
    obtain ⟨b, off, e, hb, hc⟩ := h.2 hn
    exact ⟨b, off, e, by omega, hc⟩⟩
theorem By.below (h : By w B A bs) (hb : Below B' w w') (hB : B ≤ B') : By w' B A bs := h.keep fun _ hp => hb.cell (by omega)
theorem By.take (h : By w B A bs) (k : Nat) : By w B A (bs.take k) :=
  ⟨fun x hx => h.1 x (List.mem_of_mem_take hx), fun hn => by
    have hl : (bs.take k).length ≤ bs.length := List.length_take_le' _ _
    obtain ⟨b, off, e, hb, hc⟩ := h.2 (by omega)
    refine ⟨b, off, e, hb, fun j hj => ?_⟩
    rw [hc j (by omega)]
    have hj' : j < bs.length := by omega
    rw [getD_at _ _ hj', getD_at _ _ hj, List.getElem_take]⟩
theorem By.drop {c : Nat} (h : By w B A bs) (k : Nat) (hc : bs.length ≤ c) : By w B (if c = k then A else A.map (·.add k)) (bs.drop k) :=
  ⟨fun x hx => h.1 x (List.mem_of_mem_drop hx), fun hn => by
    rw [List.length_drop] at hn
    obtain ⟨b, off, e, hb, hcell⟩ := h.2 (by omega)
    refine ⟨b, off + k, ?_, hb, fun j hj => ?_⟩
    · rw [if_neg (by omega), e, Option.map_some, add_flat]
    · have hj' : k + j < bs.length := by rw [List.length_drop] at hj; omega
      rw [Nat.add_assoc, hcell _ hj', getD_at _ _ hj', getD_at _ _ hj, List.getElem_drop]⟩
theorem By.of_none (h : By w B A bs) (hA : A = none) : bs.length = 0 ∧ bs.length = 0 := by
  rcases Nat.eq_zero_or_pos bs.length with h0 | h0
  · exact ⟨h0, h0⟩
  · obtain ⟨_, _, e, _⟩ := h.2 h0
    rw [hA] at e; cases e
theorem By.at_ (h : By w B A bs) (hn : 0 < bs.length) : ∃ b off, A = some ⟨b, off, none⟩ ∧ b < B ∧ ∀ j, j < bs.length → w.cell? ⟨b, off + j, none⟩ = some (.int .u8 (bs.getD j 0 : Nat)) := h.2 hn
end

/-- bytes as values -/
def vals (bs : List Nat) : List Value := bs.map fun (n : Nat) => Value.int .u8 (n : Int)
theorem vals_length (bs : List Nat) : (vals bs).length = bs.length := List.length_map _
theorem vals_get {bs : List Nat} {j : Nat} {u : Value} (h : (vals bs)[j]? = some u) : j < bs.length ∧ u = .int .u8 (bs.getD j 0 : Nat) := by
  have hj : j < bs.length := by
    have := (List.getElem?_eq_some_iff.1 h).1
    rwa [vals_length] at this
  refine ⟨hj, ?_⟩
  unfold vals at h
  rw [List.getElem?_map, List.getElem?_eq_getElem hj, Option.map_some] at h
  rw [getD_at _ _ hj]
  exact (Option.some.inj h).symm
theorem vals_one {bs : List Nat} : ∀ u ∈ vals bs, u.oneCell' = true := by
  intro u hu
  obtain ⟨n, _, rfl⟩ := List.mem_map.1 hu
  rfl
theorem vals_append (a b : List Nat) : vals (a ++ b) = vals a ++ vals b := List.map_append
theorem By.vals {w : World} {B : Nat} {A : Option Addr} {bs : List Nat} (h : By w B A bs) : ∀ b, A = some b → ∀ j u, (vals bs)[j]? = some u → w.cell? (b.add j) = some u := by
  intro b hA j u hu
  obtain ⟨hj, rfl⟩ := vals_get hu
  obtain ⟨g, off, e, _, hc⟩ := h.at_ (by omega)
  rw [hA] at e
  obtain rfl := Option.some.inj e
  rw [add_flat]
  exact hc j hj
theorem By.src {w : World} {B : Nat} {A : Option Addr} {bs : List Nat} (h : By w B A bs) (h0 : 0 < (Go.Proofs.Ytgkbhdecohlpmaa.vals bs).length) : ∃ ad, A = some ad ∧ ∀ j v, (Go.Proofs.Ytgkbhdecohlpmaa.vals bs)[j]? = some v → w.cell? (ad.add j) = some v := by
  obtain ⟨b, off, e, _⟩ := h.at_ (by rwa [vals_length] at h0)
  exact ⟨_, e, h.vals _ e⟩
theorem By.of_row {w : World} {g : Nat} {bs : List Nat} {t : TypeId} {fr : Nat × Nat} {cs : Array Value} (hg : w.heap[g]? = some (.cells cs t fr)) (hc : cs.toList.take bs.length = Go.Proofs.Ytgkbhdecohlpmaa.vals bs) (hb : ∀ x ∈ bs, x < 256) : By w (g + 1) (some ⟨g, 0, none⟩) bs := by
  refine ⟨hb, fun _ => ⟨g, 0, rfl, by omega, fun j hj => ?_⟩⟩
  rw [Nat.zero_add, cell_of_row w g j cs t fr hg]
  have h := congrArg (·[j]?) hc
  simp only [List.getElem?_take, hj, if_true] at h
  rw [show cs[j]? = cs.toList[j]? by simp, h]
  unfold Go.Proofs.Ytgkbhdecohlpmaa.vals
  rw [List.getElem?_map, List.getElem?_eq_getElem hj, Option.map_some, getD_at _ _ hj]

/-- What the call made: a slice of its own that holds the bytes bs; nothing below has turned. -/
def New (w w' : World) (bs : List Nat) (v : Value) : Prop := w'.ownsRow w.heap.size 5 1 v bs.length (vals bs) ∧ Below w.heap.size w w'
theorem own_mono {w : World} {base base' : Nat} {e : TypeId} {size : Nat} {v : Value} {n : Nat} {xs : List Value} (h : w.ownsRow base e size v n xs) (hb : base' ≤ base) : w.ownsRow base' e size v n xs := by
  obtain ⟨h1, h2⟩ := h
  refine ⟨h1, ?_⟩
  rcases h2 with h2 | ⟨g, cap, cur, hv, hg, r⟩
  · exact Or.inl h2
  · exact Or.inr ⟨g, cap, cur, hv, by omega, r⟩
theorem grown_below {a w w' : World} (h : Below a.heap.size a w) (hg : w.grownBy w' none) : Below a.heap.size a w' := h.grown hg h.size (fun _ e => by cases e)
theorem own_ge {w : World} {base : Nat} {e : TypeId} {size : Nat} {v : Value} {n : Nat} {xs : List Value} (h : w.ownsRow base e size v n xs) : ∀ k, v.ownBlock = some k → base ≤ k := by
  intro k hk
  rcases h.2 with ⟨rfl, _⟩ | ⟨g, cap, cur, rfl, hg, _⟩
  · simp [Value.ownBlock] at hk
  · have : g = k := by simpa [Value.ownBlock] using hk
    omega
theorem new_cells {w : World} {nl xs : List Value} {t : TypeId} (h : nl = xs) : ∀ j u, xs[j]? = some u → (w.alloc (.cells nl.toArray t)).cell? ((⟨w.heap.size, 0, none⟩ : Addr).add j) = some u := by
  subst h
  intro j u hu
  rw [add_flat, Nat.zero_add, cell_of_row _ _ j _ _ _ (heap_alloc_new w (.cells nl.toArray t))]
  simpa using hu
theorem By.cut {w : World} {B : Nat} {A : Option Addr} {bs : List Nat} {c : Nat} (h : By w B A bs) (n : Nat) (hc : bs.length ≤ c) : ∃ A', By w B A' (bs.drop n) ∧ (c = n → A' = A) ∧ (¬ c = n → A' = A.map (·.add n)) :=
  ⟨if c = n then A else A.map (·.add n), h.drop n hc, fun e => if_pos e, fun e => if_neg e⟩
def strOf (s : ByteArray) (bs : List Nat) : ByteArray := bs.foldl (fun r n => r.push (UInt8.ofNat n)) s
/-- the bytes as a string -/
def str (bs : List Nat) : ByteArray := strOf ByteArray.empty bs
theorem fold_int (bs : List Nat) : ∀ s : ByteArray, (bs.map fun (n : Nat) => (n : Int)).foldl (fun r n => r.push (UInt8.ofNat n.toNat)) s = strOf s bs := by
  induction bs with
  | nil => intro s; rfl
  | cons a l ih => intro s; exact ih _

/-- string(b) for bytes in memory -/
theorem conv_str (w : World) {B : Nat} {A : Option Addr} {bs : List Nat} (h : By w B A bs) (c : Nat) :
    (convert 44 9 (.slice A bs.length c)).run Try.prog w = .ok (.string (str bs)) w := by
  rw [run_convert_bytes_string w 44 9 5 A bs.length c Try.underlying44 Try.underlying5 Try.underlying9]
  cases A with
  | none =>
    have h0 := (h.of_none rfl).1
    obtain rfl := List.eq_nil_of_length_eq_zero h0
    rfl
  | some a =>
    rw [run_bytesToString w a bs.length c (bs.map fun (n : Nat) => (n : Int))]
    · rw [fold_int]; rfl
    · have h1 := run_loadCells_list (P := Try.prog) w a (vals bs) (fun j v hv => h.vals a rfl j v hv)
      rw [vals_length] at h1
      rw [h1]
      simp [vals, List.map_map, Function.comp_def]

/-- The slice v reads as the bytes bs, here and in every world that keeps what is here. -/
def StrAt (w : World) (v : Value) (bs : List Nat) : Prop := ∀ W, Below w.heap.size w W → (convert 44 9 v).run Try.prog W = .ok (.string (str bs)) W
theorem StrAt.here {w : World} {v : Value} {bs : List Nat} (h : StrAt w v bs) : (convert 44 9 v).run Try.prog w = .ok (.string (str bs)) w := h w (Below.refl _ _)
theorem StrAt.later {w w' : World} {v : Value} {bs : List Nat} (h : StrAt w v bs) (hb : Below w.heap.size w w') : StrAt w' v bs := fun W hW => h W (hb.trans (hW.mono hb.size))
theorem By.strAt {w : World} {A : Option Addr} {bs : List Nat} {c : Nat} (h : By w w.heap.size A bs) : StrAt w (.slice A bs.length c) bs := fun W hW => conv_str W (h.below hW (Nat.le_refl _)) c

/-- What the call made, as a slice that reads as bytes. -/
theorem New.slice {w w' : World} {bs : List Nat} {v : Value} (h : New w w' bs v) (hb : ∀ x ∈ bs, x < 256) : ∃ A c, v = .slice A bs.length c ∧ By w' w'.heap.size A bs ∧ bs.length ≤ c ∧ c ≤ maxLen ∧ (A = none → c = 0) ∧ ∀ b, A = some b → w.heap.size ≤ b.block := by
  obtain ⟨⟨_, h2⟩, _⟩ := h
  rcases h2 with ⟨rfl, h0⟩ | ⟨g, cap, cur, rfl, hg, hh, hn, hc, hsz, ht⟩
  · obtain rfl := List.eq_nil_of_length_eq_zero h0
    exact ⟨none, 0, rfl, By.nil_, Nat.le_refl _, (by unfold maxLen; omega), (fun _ => rfl), (fun _ e => by cases e)⟩
  · refine ⟨some ⟨g, 0, none⟩, cap, rfl, ?_, hn, hc, (fun e => by cases e), (fun b e => by cases e; exact hg)⟩
    have hlt : g < w'.heap.size := by
      rcases Nat.lt_or_ge g w'.heap.size with h | h
      · exact h
      · rw [Array.getElem?_eq_none h] at hh; cases hh
    exact (By.of_row hh (by rw [Nat.mul_one] at ht; exact ht) hb).mono hlt
theorem New.strAt {w w' : World} {bs : List Nat} {v : Value} (h : New w w' bs v) (hb : ∀ x ∈ bs, x < 256) : StrAt w' v bs := by
  obtain ⟨A, c, rfl, hy, _⟩ := h.slice hb
  exact hy.strAt
/-- Block g holds n bytes, whichever. -/
def Wr (w : World) (g n : Nat) : Prop := ∃ cur, w.heap[g]? = some (.cells cur 5 (0, 0)) ∧ ∀ j, j < n → ∃ z : Nat, z < 256 ∧ cur[j]? = some (.int .u8 (z : Int))
theorem Wr.at_ {w : World} {g n j : Nat} (h : Wr w g n) (hj : j < n) : ∃ z : Nat, z < 256 ∧ w.cell? ⟨g, j, none⟩ = some (.int .u8 (z : Int)) ∧ w.frozen? ⟨g, j, none⟩ = false := by
  obtain ⟨cur, hg, hc⟩ := h
  obtain ⟨z, hz, e⟩ := hc j hj
  exact ⟨z, hz, by rw [cell_of_row w g j cur _ _ hg]; exact e, frozen_of_row w g j cur _ hg⟩
theorem Wr.set_ {w : World} {g n j z : Nat} (h : Wr w g n) (hz : z < 256) : Wr (w.setCell ⟨g, j, none⟩ (.int .u8 (z : Int))) g n := by
  obtain ⟨cur, hg, hc⟩ := h
  refine ⟨_, heap_setCell_same w g j cur _ _ hg, fun i hi => ?_⟩
  obtain ⟨y, hy, e⟩ := hc i hi
  have hlt : i < cur.size := (Array.getElem?_eq_some_iff.1 e).1
  by_cases hij : j = i
  · subst hij
    exact ⟨z, hz, by rw [Array.getElem?_setIfInBounds_self_of_lt hlt]⟩
  · exact ⟨y, hy, by rw [Array.getElem?_setIfInBounds_ne hij]; exact e⟩
theorem only_refl (w : World) (row : Option Nat) : w.grownBy w row := ⟨rfl, rfl, rfl, Nat.le_refl _, fun _ _ _ => rfl⟩
theorem only_set {a w : World} {g j : Nat} (h : a.grownBy w (some g)) (u : Value) : a.grownBy (w.setCell ⟨g, j, none⟩ u) (some g) :=
  ⟨h.os, h.tape, h.output, by simpa [World.setCell] using h.size, fun i hi hne => (Below.heap_setCell w ⟨g, j, none⟩ u i (fun e => hne (by rw [e]))).trans (h.block i hi hne)⟩
theorem only_below {a w : World} {g B : Nat} (h : a.grownBy w (some g)) (hB : B ≤ g) (hs : B ≤ a.heap.size) : Below B a w :=
  ⟨h.os, h.tape, h.output, h.size, fun k hk => h.block k (by omega) (fun e => by cases e; omega)⟩
/-- A slice in another block reads as it did. -/
theorem By.only {a w : World} {g : Nat} {B : Nat} {A : Option Addr} {bs : List Nat} (h : By a B A bs) (hB : B ≤ a.heap.size) (hg : a.grownBy w (some g)) (hne : ∀ b, A = some b → b.block ≠ g) : By w B A bs :=
  ⟨h.1, fun hn => by
    obtain ⟨b, off, e, hb, hc⟩ := h.2 hn
    exact ⟨b, off, e, hb, fun j hj => (World.cell?_of_block (w := a) (hg.block b (by omega) (fun e2 => hne _ e (by cases e2; rfl)))).trans (hc j hj)⟩⟩
/-- What the call made, as a block of its own. -/
theorem New.block {w w' : World} {bs : List Nat} {v : Value} (h : New w w' bs v) (hb : ∀ x ∈ bs, x < 256) (hn : 0 < bs.length) :
    ∃ g c, v = .slice (some ⟨g, 0, none⟩) bs.length c ∧ By w' w'.heap.size (some ⟨g, 0, none⟩) bs ∧ bs.length ≤ c ∧ c ≤ maxLen ∧ w.heap.size ≤ g ∧ g < w'.heap.size ∧ Wr w' g bs.length := by
  have h' := h
  obtain ⟨⟨_, h2⟩, _⟩ := h
  rcases h2 with ⟨_, h0⟩ | ⟨g, cap, cur, rfl, hg, hh, hle, hc, _, ht⟩
  · omega
  have hlt : g < w'.heap.size := by
    rcases Nat.lt_or_ge g w'.heap.size with h | h
    · exact h
    · rw [Array.getElem?_eq_none h] at hh; cases hh
  have hy : By w' w'.heap.size (some ⟨g, 0, none⟩) bs := (By.of_row hh (by rw [Nat.mul_one] at ht; exact ht) hb).mono hlt
  refine ⟨g, cap, rfl, hy, hle, hc, hg, hlt, cur, hh, fun j hj => ?_⟩
  obtain ⟨b, off, e, _, hcell⟩ := hy.at_ hn
  cases e
  have hj' := hcell j hj
  rw [Nat.zero_add, cell_of_row w' g j cur _ _ hh] at hj'
  exact ⟨bs.getD j 0, by rw [getD_at _ _ hj]; exact hb _ (List.getElem_mem hj), hj'⟩

/-- a slice of one's own, in a block from base on, that holds the bytes bs -/
def Own (w : World) (base : Nat) (bs : List Nat) (v : Value) : Prop := w.ownsRow base 5 1 v bs.length (vals bs)
theorem Own.nil_ (w : World) (base : Nat) : Own w base [] (.slice none 0 0) := ⟨rfl, Or.inl ⟨rfl, rfl⟩⟩
theorem Own.alloc {w : World} {base : Nat} {bs : List Nat} {v : Value} (h : Own w base bs v) (o : Obj) : Own (w.alloc o) base bs v := World.ownsRow.alloc h o
/-- append(v, d...), v one's own, d whatever bytes. -/
theorem append_by {w : World} {ops : Array Oper} {rest : List Oper} {o : Oper} {a : Act} {Q : Exit → Act → World → Prop} (hgd : o.guard = none) (s x : Operand)
    (ho : o.op = .call { callee := .builtin .append, args := #[s, x], argTypes := #[44, 44] }) (base : Nat) (bs ds : List Nat) (v : Value) (hs : a.eval s = v) (hown : Own w base bs v)
    (D : Option Addr) (m c : Nat) (hx : a.eval x = .slice D m c) (hm : m = ds.length) (B : Nat) (hD : By w B D ds) (hc : D = none → c = 0) (hl : bs.length + ds.length ≤ 1000000000) (w0 : World) (hb : Below base w0 w) (hbase : base ≤ w.heap.size)
    (h : ∀ v' w', Own w' base (bs ++ ds) v' → Below base w0 w' → wpList Try.prog ops Q rest (a.put o.dst v') w') : wpList Try.prog ops Q (o :: rest) a w := by
  obtain ⟨i0, hi, hz0, hz1, hz2⟩ := info_parts Try.info5
  subst hm
  cases D with
  | none =>
    have h0 := (hD.of_none rfl).1
    obtain rfl := List.eq_nil_of_length_eq_zero h0
    obtain rfl := hc rfl
    refine wpList_append_own_none hgd s x 44 ho base 5 i0 1 Try.underlying44 hi v bs.length (vals bs) hs hown hx ?_
    exact h v w (by rw [List.append_nil]; exact hown) hb
  | some ad =>
    refine wpList_append_own w hgd s x 44 ho base 5 i0 (.int .u8 0) 1 1 Try.underlying44 hi hz0 hz1 hz2 rfl (by decide) v bs.length (vals bs) hs hown ad ds.length c (vals ds) hx (by rw [vals_length, Nat.mul_one]) (hD.vals ad rfl) vals_one (by unfold maxLen; omega) (by omega) hbase ?_
    intro v' w' hown' hgrow _
    refine h v' w' ?_ (hb.grown hgrow hbase (own_ge hown))
    unfold Own
    rw [vals_append, List.length_append]
    exact hown'
/-- bytes of a new block -/
theorem by_made (w : World) (cs : Array Value) (ds : List Nat) (h : cs.toList = vals ds) (hb : ∀ x ∈ ds, x < 256) : By (w.alloc (.cells cs 5)) (w.heap.size + 1) (some ⟨w.heap.size, 0, none⟩) ds :=
  By.of_row (heap_alloc_new w _) (by rw [h]; exact List.take_of_length_le (by rw [vals_length]; exact Nat.le_refl _)) hb

/-- The slice at A holds the integers zs, in a block below B. -/
def Ints (w : World) (B : Nat) (A : Option Addr) (zs : List Int) : Prop :=
  0 < zs.length → ∃ b off, A = some ⟨b, off, none⟩ ∧ b < B ∧ ∀ j, j < zs.length → w.cell? ⟨b, off + j, none⟩ = some (.int .i64 (zs.getD j 0))
theorem Ints.below {w w' : World} {B B' : Nat} {A : Option Addr} {zs : List Int} (h : Ints w B A zs) (hb : Below B' w w') (hB : B ≤ B') : Ints w' B A zs := fun hn => by
  obtain ⟨b, off, e, hlt, hc⟩ := h hn
  exact ⟨b, off, e, hlt, fun j hj => (hb.cell (by simp; omega)).trans (hc j hj)⟩
theorem By.drew {w : World} {B : Nat} {A : Option Addr} {bs : List Nat} (h : By w B A bs) : By w.drew B A bs := h.keep fun _ _ => rfl
end Go.Proofs.Ytgkbhdecohlpmaa
end

section
/-
  A part of a block read and written as one value; what stays while some blocks turn; arrays of 64 bytes.
-/
namespace Go.Proofs.Ytgkbhdecohlpmaa.Dk
set_option maxRecDepth 100000
open Go.RowKit Go.Maps

/-! ### a part of a block -/
section
variable {P : Program}
theorem run_load_part (w : World) (g off : Nat) (ty : TypeId) (xs : List Value) (d : TypeDesc) (hc : ∀ j u, xs[j]? = some u → w.cell? ⟨g, off + j, none⟩ = some u)
    (hu : P.underlying ty = some d) (hd : (match d with | .struct _ | .array _ _ => true | _ => false) = true) (hi : (P.info? ty).map (·.size) = some xs.length) :
    (loadVar ty ⟨g, off, none⟩).run P w = .ok (.agg xs.toArray) w := by
  have hl := run_loadCells_list (P := P) w ⟨g, off, none⟩ xs (fun j v hv => by rw [add_flat]; exact hc j v hv)
  cases hq : P.info? ty with
  | none => simp [hq] at hi
  | some i =>
    have hs : i.size = xs.length := by simpa [hq] using hi
    have hagg : (isAgg ty).run P w = .ok true w := by
      unfold isAgg
      rw [Sem.run_bind, run_underlying hu w]
      cases d <;> simp_all
    simp [loadVar, Sem.run_bind, hagg, sizeOf, typeInfo, hq, hs, hl]
theorem wp_load_part {o : Oper} {a : Act} {w : World} {K : Act → World → Prop} {Q : Exit → Act → World → Prop} (ty : TypeId) (x : Operand) (ho : o.op = .load ty x)
    (g off : Nat) (hx : a.eval x = .pointer (some ⟨g, off, none⟩)) (xs : List Value) (d : TypeDesc) (hc : ∀ j u, xs[j]? = some u → w.cell? ⟨g, off + j, none⟩ = some u)
    (hu : P.underlying ty = some d) (hd : (match d with | .struct _ | .array _ _ => true | _ => false) = true) (hi : (P.info? ty).map (·.size) = some xs.length)
    (h : K (a.put o.dst (.agg xs.toArray)) w) : o.wp P a w K Q := by
  unfold Oper.wp execOp
  simp only [ho, hx, Instr.loadAt, Instr.sureAddr, Sem.run_bind, Sem.run_pure, Result.andThen_ok, run_load_part w g off ty xs d hc hu hd hi]
  exact h
theorem wpList_load_part {ops : Array Oper} {rest : List Oper} {o : Oper} {a : Act} {w : World} {Q : Exit → Act → World → Prop} (hgd : o.guard = none) (ty : TypeId) (x : Operand) (ho : o.op = .load ty x)
    (g off : Nat) (hx : a.eval x = .pointer (some ⟨g, off, none⟩)) (xs : List Value) (d : TypeDesc) (hc : ∀ j u, xs[j]? = some u → w.cell? ⟨g, off + j, none⟩ = some u)
    (hu : P.underlying ty = some d) (hd : (match d with | .struct _ | .array _ _ => true | _ => false) = true) (hi : (P.info? ty).map (·.size) = some xs.length)
    (h : wpList P ops Q rest (a.put o.dst (.agg xs.toArray)) w) : wpList P ops Q (o :: rest) a w :=
  wpList_plain hgd fun _ hK => wp_load_part ty x ho g off hx xs d hc hu hd hi (hK _ _ h)

theorem run_storeCells_part (g : Nat) (t : TypeId) : ∀ (vs : List Value) (off i : Nat) (pre post old : List Value) (w : World), w.heap[g]? = some (.cells (pre ++ old ++ post).toArray t (0, 0)) → pre.length = off + i → old.length = vs.length →
    (∀ v ∈ vs, v.oneCell' = true) → (storeCells ⟨g, off, none⟩ vs i).run P w = .ok () (w.setRow g (pre ++ vs ++ post).toArray)
  | [], off, i, pre, post, old, w, hg, _, hl, _ => by
    obtain rfl : old = [] := List.eq_nil_of_length_eq_zero (by simpa using hl)
    have := run_storeCells_from (P := P) g t [] (pre ++ [] ++ post).length (pre ++ [] ++ post).toArray w hg (by simp) (by simp)
    simp only [storeCells, List.append_nil] at this ⊢
    rw [List.take_of_length_le (by simp)] at this
    simpa using this
  | v :: rest, off, i, pre, post, old, w, hg, hp, hl, h1 => by
    obtain ⟨y, ys, rfl⟩ : ∃ y ys, old = y :: ys := by
      cases old with
      | nil => simp at hl
      | cons y ys => exact ⟨y, ys, rfl⟩
    have hat : (pre ++ y :: ys ++ post).toArray[off + i]? = some y := by
      rw [← hp]; simp
    have hcell : w.cell? ⟨g, off + i, none⟩ = some y := by rw [cell_of_row w g (off + i) _ _ _ hg]; exact hat
    have hfro := frozen_of_row w g (off + i) _ _ hg
    have hst : (store ((⟨g, off, none⟩ : Addr).add i) v).run P w = .ok () (w.setCell ⟨g, off + i, none⟩ v) := by
      rw [add_flat, run_store P w _ v _ (h1 v (by simp)), hcell]
      simp [hfro]
    have hset : (pre ++ y :: ys ++ post).toArray.setIfInBounds (off + i) v = ((pre ++ [v]) ++ ys ++ post).toArray := by
      rw [← hp]; simp
    have hg2 : (w.setCell ⟨g, off + i, none⟩ v).heap[g]? = some (.cells ((pre ++ [v]) ++ ys ++ post).toArray t (0, 0)) := by
      rw [heap_setCell_same w g (off + i) _ _ v hg, hset]
    have ih := run_storeCells_part g t rest off (i + 1) (pre ++ [v]) post ys (w.setCell ⟨g, off + i, none⟩ v) hg2 (by simp; omega) (by simpa using hl) (fun x hx => h1 x (by simp [hx]))
    simp only [storeCells, Sem.run_bind, hst, Result.andThen_ok, ih]
    rw [setCell_eq_setRow w g (off + i) _ _ _ v hg, setRow_setRow]
    simp

theorem run_store_part (w : World) (g : Nat) (t ty : TypeId) (pre old post xs : List Value) (hg : w.heap[g]? = some (.cells (pre ++ old ++ post).toArray t (0, 0))) (ho : old.length = xs.length)
    (hi : (P.info? ty).map (·.size) = some xs.length) (h1 : ∀ v ∈ xs, v.oneCell' = true) :
    (storeVar ty ⟨g, pre.length, none⟩ (.agg xs.toArray)).run P w = .ok () (w.setRow g (pre ++ xs ++ post).toArray) := by
  have := run_storeCells_part (P := P) g t xs pre.length 0 pre post old w hg rfl ho h1
  cases hq : P.info? ty with
  | none => simp [hq] at hi
  | some i =>
    have hs : xs.length = i.size := by simp [hq] at hi; omega
    simp [storeVar, sizeOf, typeInfo, hq, Value.cells, hs, this]
theorem wp_store_part {o : Oper} {a : Act} {w : World} {K : Act → World → Prop} {Q : Exit → Act → World → Prop} (ty : TypeId) (x y : Operand) (ho : o.op = .store ty x y)
    (g off : Nat) (hx : a.eval x = .pointer (some ⟨g, off, none⟩)) (xs : List Value) (hy : a.eval y = .agg xs.toArray) (t : TypeId) (pre old post : List Value)
    (hg : w.heap[g]? = some (.cells (pre ++ old ++ post).toArray t (0, 0))) (hoff : pre.length = off) (hold : old.length = xs.length) (hi : (P.info? ty).map (·.size) = some xs.length) (h1 : ∀ v ∈ xs, v.oneCell' = true)
    (h : K (a.put o.dst undef) (w.setRow g (pre ++ xs ++ post).toArray)) : o.wp P a w K Q := by
  subst hoff
  unfold Oper.wp execOp
  simp only [ho, hx, hy, Instr.storeAt, Instr.sureAddr, Sem.run_bind, Sem.run_pure, Result.andThen_ok, run_store_part w g t ty pre old post xs hg hold hi h1]
  exact h
theorem wpList_store_part {ops : Array Oper} {rest : List Oper} {o : Oper} {a : Act} {w : World} {Q : Exit → Act → World → Prop} (hgd : o.guard = none) (ty : TypeId) (x y : Operand) (ho : o.op = .store ty x y)
    (g off : Nat) (hx : a.eval x = .pointer (some ⟨g, off, none⟩)) (xs : List Value) (hy : a.eval y = .agg xs.toArray) (t : TypeId) (pre old post : List Value)
    (hg : w.heap[g]? = some (.cells (pre ++ old ++ post).toArray t (0, 0))) (hoff : pre.length = off) (hold : old.length = xs.length) (hi : (P.info? ty).map (·.size) = some xs.length) (h1 : ∀ v ∈ xs, v.oneCell' = true)
    (h : wpList P ops Q rest (a.put o.dst undef) (w.setRow g (pre ++ xs ++ post).toArray)) : wpList P ops Q (o :: rest) a w :=
  wpList_plain hgd fun _ hK => wp_store_part ty x y ho g off hx xs hy t pre old post hg hoff hold hi h1 (hK _ _ h)

/-- a step of a region that draws its order -/
theorem step_of_wp_ {ops : Array Oper} {o : Oper} {a : Act} {w : World} {K : Act → World → Prop} {Q : Exit → Act → World → Prop} {E : Prop} (hgd : o.guard = none) (h : o.wp P a w K Q) : if Region.wanted o (yielded ops a.tmps) = true then Oper.wp P o a w K Q else E := by
  have hw : Region.wanted o (yielded ops a.tmps) = true := by simp [Region.wanted, hgd]
  rw [if_pos hw]
  exact h
theorem wp_value {o : Oper} {a : Act} {w w' : World} {K : Act → World → Prop} {Q : Exit → Act → World → Prop} {v : Value} (hrun : (execOp a.eval o).run P w = .ok (.value v) w') (h : K (a.put o.dst v) w') : o.wp P a w K Q := by
  unfold Oper.wp
  rw [hrun, Oper.upon_value]
  exact h
theorem wp_mapUpdate {o : Oper} {a : Act} {w w' : World} {K : Act → World → Prop} {Q : Exit → Act → World → Prop} (t : TypeId) (m x v : Operand) (hop : o.op = .mapUpdate t m x v) (M key val : Value) (hm : a.eval m = M) (hx : a.eval x = key) (hv : a.eval v = val)
    (hrun : (Instr.mapUpdate t M key val).run P w = .ok () w') (h : K (a.put o.dst undef) w') : o.wp P a w K Q := by
  unfold Oper.wp
  simp [execOp, hop, hm, hx, hv, hrun, Result.andThen]
  exact h
theorem laid_from : ∀ (vs Z pre : List Value), vs.length ≤ Z.length → List.foldl (fun (cs : Array Value) (x : Value × Nat) => cs.setIfInBounds x.snd x.fst) (pre ++ Z).toArray (vs.zipIdx pre.length) = (pre ++ (vs ++ Z.drop vs.length)).toArray := by
  intro vs
  induction vs with
  | nil => intro Z pre _; simp
  | cons v t ih =>
    intro Z pre h
    cases Z with
    | nil => simp at h
    | cons z r =>
      rw [List.zipIdx_cons, List.foldl_cons]
      have e : (pre ++ z :: r).toArray.setIfInBounds pre.length v = ((pre ++ [v]) ++ r).toArray := by simp [List.set_append]
      have hi := ih r (pre ++ [v]) (by simpa using h)
      rw [List.length_append, List.length_singleton] at hi
      rw [e, hi]
      simp
theorem fill_one (xs : List Value) (base : Array Value) (n : Nat) (hn : xs.length = n) (hb : base.size = n) : Instr.fill (fun i => some (i * n, n)) base [(0, .agg xs.toArray)] = some xs.toArray := by
  have h := laid_from xs base.toList [] (by simp; omega)
  rw [List.drop_of_length_le (by simp; omega)] at h
  simp only [Instr.fill, Value.cells, List.size_toArray, hn, hb]
  simp only [Nat.zero_mul, Nat.zero_add, ne_eq, not_true_eq_false, decide_false, Bool.false_or, gt_iff_lt, Nat.lt_irrefl]
  simp at h
  simpa using h
/-- a slice literal of one array -/
theorem run_buildSlice_one (w : World) (t e : TypeId) (i : TypeInfo) (z : Value) (n : Nat) (ht : P.underlying t = some (.slice e)) (hi : P.info? e = some i) (hz : i.zero = some z) (hs : i.size = n) (h0 : 0 < n) (h1 : n ≤ 1000) (xs : List Value) (hx : xs.length = n) :
    (Instr.buildSlice t 1 #[(0, .agg xs.toArray)]).run P w = .ok (.slice (some ⟨w.heap.size, 0, none⟩) 1 1) (w.alloc (.cells xs.toArray e)) := by
  have hf := fill_one xs ((Array.range n).map (z.cells[· % z.cells.size]!)) n hx (by simp)
  have h2 : ¬ 16777216 < n := by omega
  have h3 : ¬ n = 0 := by omega
  simp [Instr.buildSlice, run_underlying ht, sizeOf, typeInfo, zeroValue, hi, hz, hs, h2, h3, hf, newRow]

/-- a new variable of whatever type -/
theorem wp_alloc_any {o : Oper} {a : Act} {w : World} {K : Act → World → Prop} {Q : Exit → Act → World → Prop} (ty : TypeId) (ho : o.op = .alloc ty) (z : Array Value) (hz : (P.info? ty).map (·.zero) = some (some (.agg z)))
    (h : K (a.put o.dst (.pointer (some ⟨w.heap.size, 0, none⟩))) (w.alloc (.cells z ty))) : o.wp P a w K Q := by
  have hzv : (zeroValue ty).run P w = .ok (.agg z) w := by
    cases hq : P.info? ty with
    | none => simp [hq] at hz
    | some i =>
      have hs : i.zero = some (.agg z) := by simpa [hq] using hz
      simp [zeroValue, typeInfo, hq, hs]
  unfold Oper.wp execOp
  simp only [ho, Instr.alloc, Sem.run_bind, hzv, Result.andThen_ok]
  simp [newVar, newRow, Value.cells, go_sem, Result.andThen]
  exact h
theorem wpList_alloc_any {ops : Array Oper} {rest : List Oper} {o : Oper} {a : Act} {w : World} {Q : Exit → Act → World → Prop} (hgd : o.guard = none) (ty : TypeId) (ho : o.op = .alloc ty) (z : Array Value) (hz : (P.info? ty).map (·.zero) = some (some (.agg z)))
    (h : wpList P ops Q rest (a.put o.dst (.pointer (some ⟨w.heap.size, 0, none⟩))) (w.alloc (.cells z ty))) : wpList P ops Q (o :: rest) a w := by
  refine wpList_plain hgd fun _ hK => ?_
  have hzv : (zeroValue ty).run P w = .ok (.agg z) w := by
    cases hq : P.info? ty with
    | none => simp [hq] at hz
    | some i =>
      have hs : i.zero = some (.agg z) := by simpa [hq] using hz
      simp [zeroValue, typeInfo, hq, hs]
  unfold Oper.wp execOp
  simp only [ho, Instr.alloc, Sem.run_bind, hzv, Result.andThen_ok]
  simp [newVar, newRow, Value.cells, go_sem, Result.andThen]
  exact hK _ _ h
end

/-! ### what stays -/
/-- No block has turned but those of S. -/
structure Kept (S : Nat → Prop) (w w' : World) : Prop where
  os : w'.os = w.os
  tape : w'.tape = w.tape
  output : w'.output = w.output
  size : w.heap.size ≤ w'.heap.size
  block : ∀ k, k < w.heap.size → ¬ S k → w'.heap[k]? = w.heap[k]?
section
variable {S S' : Nat → Prop} {a b c w w' : World}
theorem Kept.refl (S : Nat → Prop) (w : World) : Kept S w w := ⟨rfl, rfl, rfl, Nat.le_refl _, fun _ _ _ => rfl⟩
theorem Kept.trans (h : Kept S a b) (k : Kept S' b c) (hs : ∀ i, i < a.heap.size → S' i → S i) : Kept S a c :=
  ⟨k.os.trans h.os, k.tape.trans h.tape, k.output.trans h.output, Nat.le_trans h.size k.size, fun i hi hne => (k.block i (Nat.lt_of_lt_of_le hi h.size) (fun e => hne (hs i hi e))).trans (h.block i hi hne)⟩
theorem Kept.mono (h : Kept S a b) (hs : ∀ i, i < a.heap.size → S i → S' i) : Kept S' a b := ⟨h.os, h.tape, h.output, h.size, fun i hi hne => h.block i hi (fun e => hne (hs i hi e))⟩
theorem Kept.grown (h : Kept S a b) {row : Option Nat} (hg : b.grownBy c row) (hr : ∀ k, row = some k → k < a.heap.size → S k) : Kept S a c :=
  ⟨hg.os.trans h.os, hg.tape.trans h.tape, hg.output.trans h.output, Nat.le_trans h.size hg.size, fun i hi hne => (hg.block i (Nat.lt_of_lt_of_le hi h.size) (fun e => hne (hr i e.symm hi))).trans (h.block i hi hne)⟩
theorem Kept.below (h : Kept S a b) {B : Nat} (hB : B ≤ b.heap.size) (hw : Below B b c) (hS : a.heap.size ≤ B ∨ ∀ k, B ≤ k → k < a.heap.size → S k) : Kept S a c :=
  ⟨hw.os.trans h.os, hw.tape.trans h.tape, hw.output.trans h.output, Nat.le_trans h.size hw.size, fun i hi hne => (hw.block i (by
    rcases hS with hS | hS
    · omega
    · rcases Nat.lt_or_ge i B with h1 | h1
      · exact h1
      · exact absurd (hS i h1 hi) hne)).trans (h.block i hi hne)⟩
theorem Kept.of_below {B : Nat} (hw : Below B a b) (hB : a.heap.size ≤ B) : Kept S a b := ⟨hw.os, hw.tape, hw.output, hw.size, fun i hi _ => hw.block i (by omega)⟩
theorem Kept.to_below (h : Kept S a b) {B : Nat} (hB : B ≤ a.heap.size) (hs : ∀ k, k < B → ¬ S k) : Below B a b := ⟨h.os, h.tape, h.output, h.size, fun i hi => h.block i (by omega) (hs i hi)⟩
theorem Kept.alloc (h : Kept S a b) (o : Obj) : Kept S a (b.alloc o) := h.grown (World.grownBy_alloc b o none) (fun _ e => by cases e)
theorem Kept.drew (h : Kept S a b) : Kept S a b.drew := ⟨h.os, h.tape, h.output, h.size, h.block⟩
theorem grown_setRow (w : World) (g : Nat) (cs : Array Value) : w.grownBy (w.setRow g cs) (some g) := ⟨rfl, rfl, rfl, by simp, fun k _ hk => setRow_other w g k _ (fun e => hk (by rw [e]))⟩
theorem grown_setCell (w : World) (g j : Nat) (u : Value) : w.grownBy (w.setCell ⟨g, j, none⟩ u) (some g) := only_set (only_refl w (some g)) u
theorem Kept.cell (h : Kept S a b) {p : Addr} (hp : p.block < a.heap.size) (hn : ¬ S p.block) : b.cell? p = a.cell? p := World.cell?_of_block (w := a) (h.block p.block hp hn)
end

/-! ### arrays of 64 bytes -/
theorem Try.info55 : (Try.prog.info? 55).map (fun i => (i.zero, i.size, i.bytes)) = some (some (.agg (Array.replicate 64 (.int .u8 0))), 64, 64) := by kernel_rfl
theorem sector_size : (Try.prog.info? 55).map (·.size) = some 64 := by kernel_rfl
theorem sector_zero : (Try.prog.info? 55).map (·.zero) = some (some (.agg (vals (List.replicate 64 0)).toArray)) := by kernel_rfl
theorem sector_info (bs : List Nat) (h : bs.length = 64) : (Try.prog.info? 55).map (·.size) = some (vals bs).length := by rw [vals_length, h]; exact sector_size
/-- the bytes of a sector -/
def Sec (bs : List Nat) : Prop := bs.length = 64 ∧ ∀ x ∈ bs, x < 256
/-- some bytes, and 0s behind them -/
def padded (bs : List Nat) : List Nat := bs ++ List.replicate (64 - bs.length) 0
theorem padded_sec {bs : List Nat} (h : bs.length ≤ 64) (hb : ∀ x ∈ bs, x < 256) : Sec (padded bs) := by
  refine ⟨by simp [padded]; omega, fun x hx => ?_⟩
  rcases List.mem_append.1 hx with h1 | h1
  · exact hb x h1
  · have := List.eq_of_mem_replicate h1
    omega
/-- a sector, as a value -/
def sval (bs : List Nat) : Value := .agg (vals bs).toArray
theorem sec_zero : Sec (List.replicate 64 0) := ⟨by simp, fun x hx => by have := List.eq_of_mem_replicate hx; omega⟩
end Go.Proofs.Ytgkbhdecohlpmaa.Dk
end

section
/-
  A disk in memory: its sectors as they are durably, and the writes since, a row of them for each sector.
-/
namespace Go.Proofs.Ytgkbhdecohlpmaa.Dk
set_option maxRecDepth 100000
open Go.RowKit Go.Maps

/-- a disk, as it is thought -/
structure Dk where
  dur : Nat → List Nat
  cache : Nat → List (List Nat)
  down : Bool

/-! ### 34 sectors, one behind the other -/
def flat (f : Nat → List Nat) : List Nat := (List.range 34).flatMap f
def ahead (f : Nat → List Nat) (n : Nat) : List Nat := (List.range n).flatMap f
def behindS (f : Nat → List Nat) (n : Nat) : List Nat := (List.range' (n + 1) (33 - n)).flatMap f
def upd {α : Type} (f : Nat → α) (n : Nat) (x : α) : Nat → α := fun k => if k = n then x else f k
theorem upd_same {α : Type} (f : Nat → α) (n : Nat) (x : α) : upd f n x n = x := by simp [upd]
theorem upd_other {α : Type} (f : Nat → α) {n k : Nat} (x : α) (h : k ≠ n) : upd f n x k = f k := by simp [upd, h]
theorem flat_split (f : Nat → List Nat) {n : Nat} (h : n < 34) : flat f = ahead f n ++ f n ++ behindS f n := by
  have e : List.range 34 = List.range n ++ (n :: List.range' (n + 1) (33 - n)) := by
    have h1 : List.range 34 = List.range' 0 n ++ List.range' (0 + n) (34 - n) := by
      have h2 := List.range'_append_1 (s := 0) (m := n) (n := 34 - n)
      rw [show n + (34 - n) = 34 by omega] at h2
      rw [List.range_eq_range', h2]
    rw [h1, ← List.range_eq_range', Nat.zero_add, show 34 - n = (33 - n) + 1 by omega, List.range'_succ]
  unfold flat ahead behindS
  rw [e, List.flatMap_append, List.flatMap_cons, List.append_assoc]
theorem flatMap_len {f : Nat → List Nat} {l : List Nat} (h : ∀ n ∈ l, (f n).length = 64) : (l.flatMap f).length = l.length * 64 := by
  induction l with
  | nil => rfl
  | cons a r ih =>
    rw [List.flatMap_cons, List.length_append, ih (fun n hn => h n (List.mem_cons_of_mem _ hn)), h a List.mem_cons_self, List.length_cons, Nat.succ_mul, Nat.add_comm]
theorem flat_len {f : Nat → List Nat} (h : ∀ n, n < 34 → Sec (f n)) : (flat f).length = 2176 := by
  unfold flat
  rw [flatMap_len (fun n hn => (h n (List.mem_range.1 hn)).1), List.length_range]
theorem ahead_len {f : Nat → List Nat} (h : ∀ n, n < 34 → Sec (f n)) {n : Nat} (hn : n ≤ 34) : (ahead f n).length = n * 64 := by
  unfold ahead
  rw [flatMap_len (fun k hk => (h k (by have := List.mem_range.1 hk; omega)).1), List.length_range]
theorem flat_lt {f : Nat → List Nat} (h : ∀ n, n < 34 → Sec (f n)) : ∀ x ∈ flat f, x < 256 := by
  intro x hx
  obtain ⟨n, hn, h1⟩ := List.mem_flatMap.1 hx
  exact (h n (List.mem_range.1 hn)).2 x h1
theorem flatMap_congr' {f g : Nat → List Nat} {l : List Nat} (h : ∀ n ∈ l, f n = g n) : l.flatMap f = l.flatMap g := by
  induction l with
  | nil => rfl
  | cons a r ih => rw [List.flatMap_cons, List.flatMap_cons, h a List.mem_cons_self, ih (fun n hn => h n (List.mem_cons_of_mem _ hn))]
theorem flat_congr {f g : Nat → List Nat} (h : ∀ n, n < 34 → f n = g n) : flat f = flat g := flatMap_congr' fun n hn => h n (List.mem_range.1 hn)
theorem flat_upd (f : Nat → List Nat) {n : Nat} (h : n < 34) (s : List Nat) : flat (upd f n s) = ahead f n ++ s ++ behindS f n := by
  rw [flat_split (upd f n s) h, upd_same]
  congr 1
  · congr 1
    exact flatMap_congr' fun k hk => upd_other _ _ (by have := List.mem_range.1 hk; omega)
  · exact flatMap_congr' fun k hk => upd_other _ _ (by have := (List.mem_range'_1.1 hk).1; omega)

/-- the cells of a disk -/
def rowD (f : Nat → List Nat) (m : Option Nat) (dn : Bool) : List Value := vals (flat f) ++ [.map m, .bool dn]
theorem rowD_split (f : Nat → List Nat) (m : Option Nat) (dn : Bool) {n : Nat} (h : n < 34) : rowD f m dn = vals (ahead f n) ++ vals (f n) ++ (vals (behindS f n) ++ [.map m, .bool dn]) := by
  unfold rowD
  rw [flat_split f h, vals_append, vals_append]
  simp only [List.append_assoc]
theorem rowD_upd (f : Nat → List Nat) (m : Option Nat) (dn : Bool) {n : Nat} (h : n < 34) (s : List Nat) : rowD (upd f n s) m dn = vals (ahead f n) ++ vals s ++ (vals (behindS f n) ++ [.map m, .bool dn]) := by
  unfold rowD
  rw [flat_upd f h, vals_append, vals_append]
  simp only [List.append_assoc]
theorem rowD_len {f : Nat → List Nat} (h : ∀ n, n < 34 → Sec (f n)) (m : Option Nat) (dn : Bool) : (rowD f m dn).length = 2178 := by
  simp [rowD, vals_length, flat_len h]
theorem rowD_map {f : Nat → List Nat} (h : ∀ n, n < 34 → Sec (f n)) (m : Option Nat) (dn : Bool) : (rowD f m dn)[2176]? = some (.map m) := by
  have e : (vals (flat f)).length = 2176 := by rw [vals_length, flat_len h]
  unfold rowD
  rw [List.getElem?_append_right (by omega), e]; rfl
theorem rowD_down {f : Nat → List Nat} (h : ∀ n, n < 34 → Sec (f n)) (m : Option Nat) (dn : Bool) : (rowD f m dn)[2177]? = some (.bool dn) := by
  have e : (vals (flat f)).length = 2176 := by rw [vals_length, flat_len h]
  unfold rowD
  rw [List.getElem?_append_right (by omega), e]; rfl
theorem rowD_sec {f : Nat → List Nat} (h : ∀ n, n < 34 → Sec (f n)) (m : Option Nat) (dn : Bool) {n : Nat} (hn : n < 34) : ∀ j u, (vals (f n))[j]? = some u → (rowD f m dn)[n * 64 + j]? = some u := by
  intro j u hu
  have hj := (List.getElem?_eq_some_iff.1 hu).1
  have e : (vals (ahead f n)).length = n * 64 := by rw [vals_length, ahead_len h (by omega)]
  rw [rowD_split f m dn hn, List.append_assoc, List.getElem?_append_right (by omega), e, Nat.add_sub_cancel_left, List.getElem?_append_left hj]
  exact hu
theorem rowD_setMap {f : Nat → List Nat} (h : ∀ n, n < 34 → Sec (f n)) (m m' : Option Nat) (dn : Bool) : (rowD f m dn).toArray.setIfInBounds 2176 (.map m') = (rowD f m' dn).toArray := by
  have e : (vals (flat f)).length = 2176 := by rw [vals_length, flat_len h]
  unfold rowD
  rw [List.setIfInBounds_toArray, List.set_append_right _ _ (by omega), e]; rfl
theorem rowD_setDown {f : Nat → List Nat} (h : ∀ n, n < 34 → Sec (f n)) (m : Option Nat) (dn dn' : Bool) : (rowD f m dn).toArray.setIfInBounds 2177 (.bool dn') = (rowD f m dn').toArray := by
  have e : (vals (flat f)).length = 2176 := by rw [vals_length, flat_len h]
  unfold rowD
  rw [List.setIfInBounds_toArray, List.set_append_right _ _ (by omega), e]; rfl
theorem rowD_one (f : Nat → List Nat) (m : Option Nat) (dn : Bool) : ∀ u ∈ rowD f m dn, u.oneCell' = true := by
  intro u hu
  rcases List.mem_append.1 hu with h | h
  · exact vals_one u h
  · rcases List.mem_cons.1 h with rfl | h
    · rfl
    · obtain rfl := List.mem_singleton.1 h; rfl

/-! ### the cache: a map of rows of sectors -/
/-- How an element of the map is told: as it lies. -/
def held (v : Value) : Option (DataW Value × List MemPlace) := some (.held v, [])
/-- no writes -/
def nilS : Value := .slice none 0 0
def key (n : Nat) : Lit := .int .i64 (n : Int)
/-- The values V n are rows of the writes c n, in blocks of S, no two in one. -/
structure Slots (w : World) (S : Nat → Prop) (c : Nat → List (List Nat)) (V : Nat → Value) : Prop where
  own : ∀ n, n < 34 → w.ownsRow 0 55 64 (V n) (c n).length (vals (c n).flatten)
  mine : ∀ n g, n < 34 → (V n).ownBlock = some g → S g
  apart : ∀ n n' g, n < 34 → n' < 34 → n ≠ n' → (V n).ownBlock = some g → (V n').ownBlock ≠ some g
/-- Block b is a map that has V n at n, just where there are writes of n. -/
def Mapped (w : World) (b : Nat) (c : Nat → List (List Nat)) (V : Nat → Value) : Prop :=
  ∃ D : DataW Value, w.ownsMap Try.prog 3 held b 34 D ∧ (∀ kl, Maps.has D kl = true → ∃ n, n < 34 ∧ kl = key n) ∧
    ∀ n, n < 34 → Maps.has D (key n) = !(c n).isEmpty ∧ D.atKey (key n) (.held nilS) = .held (V n)
/-- The disk at block a is d, and the blocks of S are its own. -/
structure Disk (w : World) (S : Nat → Prop) (a : Nat) (d : Dk) : Prop where
  mine : S a
  old : ∀ k, S k → k < w.heap.size
  secs : ∀ n, n < 34 → Sec (d.dur n)
  puts : ∀ n, n < 34 → ∀ b ∈ d.cache n, Sec b
  body : ∃ m, w.heap[a]? = some (.cells (rowD d.dur m d.down).toArray 59 (0, 0)) ∧
    ((m = none ∧ ∀ n, n < 34 → d.cache n = []) ∨ ∃ b V, m = some b ∧ S b ∧ Mapped w b d.cache V ∧ Slots w S d.cache V)

section
variable {w w' : World} {S S' : Nat → Prop} {a b : Nat} {d : Dk} {c : Nat → List (List Nat)} {V : Nat → Value}
theorem owns_keep {base e size n : Nat} {v : Value} {xs : List Value} (h : w.ownsRow base e size v n xs) (hk : ∀ g, v.ownBlock = some g → w'.heap[g]? = w.heap[g]?) : w'.ownsRow base e size v n xs := by
  obtain ⟨h1, h2⟩ := h
  refine ⟨h1, ?_⟩
  rcases h2 with h2 | ⟨g, cap, cur, rfl, hg, hh, r⟩
  · exact Or.inl h2
  · exact Or.inr ⟨g, cap, cur, rfl, hg, (hk g rfl).trans hh, r⟩
theorem Slots.keep (h : Slots w S c V) (hk : ∀ k, S k → w'.heap[k]? = w.heap[k]?) : Slots w' S c V :=
  ⟨fun n hn => owns_keep (h.own n hn) fun g hg => hk g (h.mine n g hn hg), h.mine, h.apart⟩
theorem Slots.mono (h : Slots w S c V) (hs : ∀ k, S k → S' k) : Slots w S' c V := ⟨h.own, fun n g hn hg => hs g (h.mine n g hn hg), h.apart⟩
theorem Mapped.keep (h : Mapped w b c V) (hk : w'.heap[b]? = w.heap[b]?) : Mapped w' b c V := by
  obtain ⟨D, ⟨es, clock, hb, r⟩, h2⟩ := h
  exact ⟨D, ⟨es, clock, hk.trans hb, r⟩, h2⟩
theorem Disk.keep (h : Disk w S a d) (hk : ∀ k, S k → w'.heap[k]? = w.heap[k]?) (hs : w.heap.size ≤ w'.heap.size) : Disk w' S a d := by
  refine ⟨h.mine, fun k hk' => Nat.lt_of_lt_of_le (h.old k hk') hs, h.secs, h.puts, ?_⟩
  obtain ⟨m, hb, hm⟩ := h.body
  refine ⟨m, (hk a h.mine).trans hb, hm.imp id ?_⟩
  rintro ⟨b, V, rfl, hS, hM, hV⟩
  exact ⟨b, V, rfl, hS, hM.keep (hk b hS), hV.keep hk⟩
theorem Disk.below {B : Nat} (h : Disk w S a d) (hb : Below B w w') (hB : w.heap.size ≤ B) : Disk w' S a d := h.keep (fun k hk => hb.block k (by have := h.old k hk; omega)) hb.size
theorem Disk.mono (h : Disk w S a d) (hs : ∀ k, S k → S' k) (ho : ∀ k, S' k → k < w.heap.size) : Disk w S' a d := by
  refine ⟨hs _ h.mine, ho, h.secs, h.puts, ?_⟩
  obtain ⟨m, hb, hm⟩ := h.body
  refine ⟨m, hb, hm.imp id ?_⟩
  rintro ⟨b, V, rfl, hS, hM, hV⟩
  exact ⟨b, V, rfl, hs b hS, hM, hV.mono hs⟩
theorem Disk.drew (h : Disk w S a d) : Disk w.drew S a d := h.keep (fun _ _ => rfl) (Nat.le_refl _)
theorem Disk.lt (h : Disk w S a d) : a < w.heap.size := h.old a h.mine
/-- the cells that the calls read -/
theorem Disk.cells (h : Disk w S a d) : ∃ m, w.heap[a]? = some (.cells (rowD d.dur m d.down).toArray 59 (0, 0)) ∧ w.cell? ⟨a, 2176, none⟩ = some (.map m) ∧ w.cell? ⟨a, 2177, none⟩ = some (.bool d.down) ∧
    (∀ j, w.frozen? ⟨a, j, none⟩ = false) ∧ ((m = none ∧ ∀ n, n < 34 → d.cache n = []) ∨ ∃ b V, m = some b ∧ S b ∧ Mapped w b d.cache V ∧ Slots w S d.cache V) := by
  obtain ⟨m, hb, hm⟩ := h.body
  refine ⟨m, hb, ?_, ?_, fun j => frozen_of_row w a j _ _ hb, hm⟩
  · rw [cell_of_row w a 2176 _ _ _ hb]; simpa using rowD_map h.secs m d.down
  · rw [cell_of_row w a 2177 _ _ _ hb]; simpa using rowD_down h.secs m d.down

theorem Slots.row_at (h : Slots w S c V) {n g : Nat} (hn : n < 34) (hg : (V n).ownBlock = some g) : ∃ cur fr, w.heap[g]? = some (.cells cur 55 fr) := by
  rcases (h.own n hn).2 with ⟨e, _⟩ | ⟨g', cap, cur, e, _, hh, _⟩
  · rw [e] at hg; cases hg
  · rw [e] at hg
    obtain rfl : g' = g := by simpa [Value.ownBlock] using hg
    exact ⟨_, _, hh⟩
theorem Slots.ne_disk (h : Slots w S c V) {cs : Array Value} {fr : Nat × Nat} (hb : w.heap[a]? = some (.cells cs 59 fr)) {n g : Nat} (hn : n < 34) (hg : (V n).ownBlock = some g) : g ≠ a := by
  rintro rfl
  obtain ⟨cur, fr', hh⟩ := h.row_at hn hg
  rw [hb] at hh; cases hh
theorem Mapped.at_ (h : Mapped w b c V) : ∃ es clock, w.heap[b]? = some (.map es clock) := by
  obtain ⟨D, ⟨es, clock, hb, _⟩, _⟩ := h
  exact ⟨es, clock, hb⟩
theorem Mapped.ne_cells (h : Mapped w b c V) {t : TypeId} {cs : Array Value} {fr : Nat × Nat} (hb : w.heap[a]? = some (.cells cs t fr)) : b ≠ a := by
  rintro rfl
  obtain ⟨es, clock, hh⟩ := h.at_
  rw [hb] at hh; cases hh
theorem Slots.ne_map {V' : Nat → Value} {c' : Nat → List (List Nat)} (h : Slots w S c V) (hM : Mapped w b c' V') {n g : Nat} (hn : n < 34) (hg : (V n).ownBlock = some g) : g ≠ b := by
  rintro rfl
  obtain ⟨cur, fr', hh⟩ := h.row_at hn hg
  obtain ⟨es, clock, hh'⟩ := hM.at_
  rw [hh] at hh'; cases hh'
/-- The cache, where the disk's own block alone has turned. -/
theorem cache_keep {m : Option Nat} {cs : Array Value} {fr : Nat × Nat} (hb : w.heap[a]? = some (.cells cs 59 fr)) (hold : ∀ k, S k → k < w.heap.size)
    (hm : (m = none ∧ ∀ n, n < 34 → c n = []) ∨ ∃ b V, m = some b ∧ S b ∧ Mapped w b c V ∧ Slots w S c V) (hg : w.grownBy w' (some a)) :
    (m = none ∧ ∀ n, n < 34 → c n = []) ∨ ∃ b V, m = some b ∧ S b ∧ Mapped w' b c V ∧ Slots w' S c V := by
  refine hm.imp id ?_
  rintro ⟨b, V, rfl, hS, hM, hV⟩
  refine ⟨b, V, rfl, hS, hM.keep (hg.block b (hold b hS) (fun e => hM.ne_cells hb (by cases e; rfl))), ⟨fun n hn => owns_keep (hV.own n hn) fun g hg' => hg.block g (hold g (hV.mine n g hn hg')) (fun e => hV.ne_disk hb hn hg' (by cases e; rfl)), hV.mine, hV.apart⟩⟩

/-- what is at n -/
theorem Mapped.look (h : Mapped w b c V) {n : Nat} (hn : n < 34) : (Instr.lookup 57 (.map (some b)) (.int .i64 (n : Int)) false).run Try.prog w = .ok (V n) w := by
  obtain ⟨D, hown, _, hat⟩ := h
  have hz : (zeroValue 91).run Try.prog w = .ok nilS w := by kernel_rfl
  have hw : (Lit.int .i64 (n : Int)).wf = true := WalkArith.wf_i64 (by omega)
  obtain ⟨v, ps, hrun, hv⟩ := hown.lookup (Maps.int_keyed Try.underlying3) Try.underlying57 hz (zd := .held nilS) (zp := []) rfl (keyOf_int_mk Try.underlying3 hw)
  have h1 := (hat n hn).2
  unfold key at h1
  rw [h1] at hv
  simp only [held, Option.some.injEq, Prod.mk.injEq, DataW.held.injEq] at hv
  rw [hrun, hv.1]
end

/-! ### what the document says -/
/-- sector n as it is read -/
def Dk.newest (d : Dk) (n : Nat) : List Nat := ((d.cache n).getLast?).getD (d.dur n)
def Dk.fresh : Dk := ⟨fun _ => List.replicate 64 0, fun _ => [], false⟩
/-- how many writes were made -/
def Dk.writes (d : Dk) : Nat := ((List.range 34).map fun n => (d.cache n).length).sum
theorem Disk.newest_sec {w : World} {S : Nat → Prop} {a : Nat} {d : Dk} (h : Disk w S a d) {n : Nat} (hn : n < 34) : Sec (d.newest n) := by
  unfold Dk.newest
  cases e : (d.cache n).getLast? with
  | none => exact h.secs n hn
  | some b => exact h.puts n hn b (List.mem_of_getLast? e)
end Go.Proofs.Ytgkbhdecohlpmaa.Dk
end

section
/-
  The calls that read: who refuses, which sectors there are, up and down, the newest write.
-/
namespace Go.Proofs.Ytgkbhdecohlpmaa.Dk
set_option maxRecDepth 100000
open Go.RowKit Go.Maps

theorem sector_any (z : Int) (w : World) : Calls Try.prog 40 #[.int .i64 z] w fun e w' => e = .returned (.bool (decide (0 ≤ z ∧ z < 34))) ∧ w' = w := by
  by_cases h0 : z ≥ 0
  · by_cases h1 : z < 34
    · have hd : decide (0 ≤ z ∧ z < 34) = true := by simp; omega
      rw [hd]
      go_enter Try.func40, Try.ntmps40
      go_wp2
      go_ret
      exact ⟨rfl, rfl⟩
    · have hd : decide (0 ≤ z ∧ z < 34) = false := by simp; omega
      rw [hd]
      go_enter Try.func40, Try.ntmps40
      go_wp2
      go_ret
      exact ⟨rfl, rfl⟩
  · have hd : decide (0 ≤ z ∧ z < 34) = false := by simp; omega
    rw [hd]
    go_enter Try.func40, Try.ntmps40
    go_wp2
    go_ret
    exact ⟨rfl, rfl⟩

theorem refuses_nil (w : World) : Calls Try.prog 33 #[.pointer none] w fun e w' => e = .returned (.int .i64 1) ∧ w' = w := by
  go_enter Try.func33, Try.ntmps33
  go_wp2
  go_ret
  exact ⟨rfl, rfl⟩
theorem refuses_any {w : World} {S : Nat → Prop} {a : Nat} {d : Dk} (h : Disk w S a d) : Calls Try.prog 33 #[.pointer (some ⟨a, 0, none⟩)] w fun e w' => e = .returned (.int .i64 (if d.down then 30 else 0)) ∧ w' = w := by
  obtain ⟨m, _, _, hc, _, _⟩ := h.cells
  clear h
  cases hd : d.down with
  | true =>
    rw [hd] at hc
    go_enter Try.func33, Try.ntmps33
    go_wp2
    go_ret
    exact ⟨rfl, rfl⟩
  | false =>
    rw [hd] at hc
    go_enter Try.func33, Try.ntmps33
    go_wp2
    go_ret
    exact ⟨rfl, rfl⟩

theorem up_nil (w : World) : Calls Try.prog 17 #[.pointer none] w fun e w' => e = .returned (.int .i64 1) ∧ w' = w := by
  go_enter Try.func17, Try.ntmps17
  go_wp2
  go_ret
  exact ⟨rfl, rfl⟩
/-- Behind a call of a method: the disk is d', nothing has turned but its own blocks; what it has beside those is new. -/
def Goes (w w' : World) (S : Nat → Prop) (a : Nat) (d' : Dk) : Prop := ∃ S', Disk w' S' a d' ∧ Kept S w w' ∧ ∀ k, S' k → S k ∨ w.heap.size ≤ k
theorem Goes.same {w w' : World} {S : Nat → Prop} {a : Nat} {d : Dk} (h : Disk w S a d) (hb : Below w.heap.size w w') : Goes w w' S a d :=
  ⟨S, h.below hb (Nat.le_refl _), Kept.of_below hb (Nat.le_refl _), fun _ hk => Or.inl hk⟩

theorem up_any {w : World} {S : Nat → Prop} {a : Nat} {d : Dk} (h : Disk w S a d) : Calls Try.prog 17 #[.pointer (some ⟨a, 0, none⟩)] w fun e w' =>
    e = .returned (.int .i64 (if d.down then 0 else 2)) ∧ Goes w w' S a { d with down := false } := by
  obtain ⟨m, hb, _, hc, hf, hm⟩ := h.cells
  have hf1 := hf 2177
  cases hd : d.down with
  | false =>
    have H := Lib.hid (show Goes w w S a { d with down := false } by have := Goes.same h (Below.refl _ w); rwa [show { d with down := false } = d by rw [← hd]])
    clear h hm hb
    rw [hd] at hc
    go_enter Try.func17, Try.ntmps17
    go_wp2
    go_ret
    exact ⟨rfl, H.out⟩
  | true =>
    have H := Lib.hid (show Goes w (w.setCell ⟨a, 2177, none⟩ (.bool false)) S a { d with down := false } by
      have hg := grown_setCell w a 2177 (.bool false)
      refine ⟨S, ⟨h.mine, fun k hk => Nat.lt_of_lt_of_le (h.old k hk) hg.size, h.secs, h.puts, m, ?_, cache_keep hb h.old hm hg⟩, (Kept.refl S w).grown hg (fun k e _ => by cases e; exact h.mine), fun _ hk => Or.inl hk⟩
      rw [heap_setCell_same w a 2177 _ _ _ hb, rowD_setDown h.secs])
    clear h hm hb
    rw [hd] at hc
    go_enter Try.func17, Try.ntmps17
    go_wp2
    go_ret
    exact ⟨rfl, H.out⟩
end Go.Proofs.Ytgkbhdecohlpmaa.Dk
end

section
/-
  A new disk; the newest write of a sector.
-/
namespace Go.Proofs.Ytgkbhdecohlpmaa.Dk
set_option maxRecDepth 100000
open Go.RowKit Go.Maps

theorem disk_zero : (Try.prog.info? 59).map (·.zero) = some (some (.agg (rowD Dk.fresh.dur none false).toArray)) := by kernel_rfl
theorem disk_size : (Try.prog.info? 59).map (·.size) = some 2178 := by kernel_rfl
theorem fresh_secs : ∀ n, n < 34 → Sec (Dk.fresh.dur n) := fun _ _ => sec_zero

theorem new_disk (w : World) : Calls Try.prog 7 #[] w fun e w' => e = .returned (.pointer (some ⟨w.heap.size, 0, none⟩)) ∧ Disk w' (fun k => k = w.heap.size) w.heap.size Dk.fresh ∧ Below w.heap.size w w' ∧ w'.heap.size = w.heap.size + 1 := by
  obtain ⟨Z, hZ, hz⟩ : ∃ Z, (Try.prog.info? 59).map (·.zero) = some (some (.agg Z)) ∧ Z = (rowD Dk.fresh.dur none false).toArray := ⟨_, disk_zero, rfl⟩
  have H := Lib.hid (show Disk (w.alloc (.cells Z 59)) (fun k => k = w.heap.size) w.heap.size Dk.fresh ∧ Below w.heap.size w (w.alloc (.cells Z 59)) from
    ⟨⟨rfl, fun k hk => by rw [hk]; simp, fresh_secs, fun _ _ _ hb => by simp [Dk.fresh] at hb, none, by rw [hz]; exact heap_alloc_new w _, Or.inl ⟨rfl, fun _ _ => rfl⟩⟩, (Below.refl _ w).alloc (Nat.le_refl _) _⟩)
  have HZ := Lib.hid hZ
  clear hZ hz
  go_enter Try.func7, Try.ntmps7
  go_wp2_with (refine wpList_alloc_any rfl 59 rfl Z HZ.out ?_)
  go_ret
  exact ⟨rfl, H.out.1, H.out.2, by simp⟩

/-- what a look-up finds -/
theorem look_cases {w : World} {S : Nat → Prop} {m : Option Nat} {c : Nat → List (List Nat)} (hm : (m = none ∧ ∀ n, n < 34 → c n = []) ∨ ∃ b V, m = some b ∧ S b ∧ Mapped w b c V ∧ Slots w S c V) {n : Nat} (hn : n < 34) :
    ∃ v, (Instr.lookup 57 (.map m) (.int .i64 (n : Int)) false).run Try.prog w = .ok v w ∧ ((v = .slice none 0 0 ∧ c n = []) ∨
      ∃ g cap cur, v = .slice (some ⟨g, 0, none⟩) (c n).length cap ∧ S g ∧ w.heap[g]? = some (.cells cur 55 (0, 0)) ∧ (c n).length ≤ cap ∧ cap ≤ maxLen ∧ cur.toList.take ((c n).length * 64) = vals (c n).flatten ∧ c n ≠ []) := by
  rcases hm with ⟨rfl, hc⟩ | ⟨b, V, rfl, _, hM, hV⟩
  · refine ⟨nilS, ?_, Or.inl ⟨rfl, hc n hn⟩⟩
    have hz : (zeroValue 91).run Try.prog w = .ok nilS w := by kernel_rfl
    exact Maps.look_nil false (Maps.int_keyed Try.underlying3) Try.underlying57 hz (keyOf_int_mk Try.underlying3 (WalkArith.wf_i64 (by omega)))
  · refine ⟨V n, hM.look hn, ?_⟩
    by_cases h0 : c n = []
    · left
      refine ⟨?_, h0⟩
      obtain ⟨D, _, _, hat⟩ := hM
      have h1 := hat n hn
      rw [h0] at h1
      have h2 := atKey_of_not_has h1.1 (DataW.held nilS)
      rw [h1.2] at h2
      exact DataW.held.inj h2
    · right
      rcases (hV.own n hn).2 with ⟨_, h1⟩ | ⟨g, cap, cur, e, _, hh, h2, h3, _, h5⟩
      · exact absurd (List.eq_nil_of_length_eq_zero h1) h0
      · exact ⟨g, cap, cur, e, hV.mine n g hn (by rw [e]; rfl), hh, h2, h3, h5, h0⟩

theorem results_sec {fn : Func} {p : Tmp} (h : fn.results = #[.cell p 55]) (tmps : Array Value) (w : World) (g : Nat) (bs : List Nat) (hl : bs.length = 64)
    (hp : tmps.getD p undef = .pointer (some ⟨g, 0, none⟩)) (hg : w.heap[g]? = some (.cells (vals bs).toArray 55 (0, 0))) :
    (results fn tmps).run Try.prog w = .ok (sval bs) w :=
  results_cell_row h tmps w g 55 (vals bs).toArray (0, 0) _ hp hg Try.underlying55 rfl (by rw [sector_size]; simp [vals_length, hl])
theorem row_cells {w : World} {g : Nat} {t : TypeId} {fr : Nat × Nat} {cs : List Value} (hg : w.heap[g]? = some (.cells cs.toArray t fr)) {off : Nat} {xs : List Value} (h : ∀ j u, xs[j]? = some u → cs[off + j]? = some u) :
    ∀ j u, xs[j]? = some u → w.cell? ⟨g, off + j, none⟩ = some u := by
  intro j u hu
  rw [cell_of_row w g (off + j) _ _ _ hg]
  simpa using h j u hu

set_option maxHeartbeats 400000 in
theorem newest_any {w : World} {S : Nat → Prop} {a : Nat} {d : Dk} (h : Disk w S a d) {n : Nat} (hn : n < 34) :
    Calls Try.prog 34 #[.pointer (some ⟨a, 0, none⟩), .int .i64 (n : Int)] w fun e w' => e = .returned (sval (d.newest n)) ∧ Below w.heap.size w w' := by
  have hs := h.newest_sec hn
  have hn1 := hs.1
  obtain ⟨Z, hZ, hz⟩ : ∃ Z, (Try.prog.info? 55).map (·.zero) = some (some (.agg Z)) ∧ Z = (vals (List.replicate 64 0)).toArray := ⟨_, sector_zero, rfl⟩
  have hzl : Z.size = 64 := by rw [hz]; simp [vals_length]
  have HZ := Lib.hid hZ
  clear hZ hz
  obtain ⟨w1, hw1⟩ : ∃ w1, w1 = w.alloc (.cells Z 55) := ⟨_, rfl⟩
  have hB1 : Below w.heap.size w w1 := by rw [hw1]; exact (Below.refl _ w).alloc (Nat.le_refl _) _
  have HR := Lib.hid (show w1.heap[w.heap.size]? = some (.cells Z 55 (0, 0)) by rw [hw1]; exact heap_alloc_new w _)
  have hd1 := h.below hB1 (Nat.le_refl _)
  obtain ⟨m, hb, hc, _, _, hm⟩ := hd1.cells
  obtain ⟨v, hlook, hv⟩ := look_cases hm hn
  have HW := Lib.hid hw1
  have HB := Lib.hid (below_setRow hB1 (Nat.le_refl _) (vals (d.newest n)).toArray)
  have HI := Lib.hid (show (Try.prog.info? 55).map (·.size) = some (vals (d.newest n)).toArray.size by rw [sector_size]; simp [vals_length, hs.1])
  have HI' := Lib.hid (sector_info _ hs.1)
  have HS := Lib.hid (show Z.size = (vals (d.newest n)).toArray.size by rw [hzl]; simp [vals_length, hs.1])
  have H1 := Lib.hid (show (vals (d.newest n)).toArray.all (·.oneCell') = true from Array.all_eq_true_iff_forall_mem.2 fun u hu => vals_one u (by simpa using hu))
  have HE := Lib.hid (setRow_heap w1 w.heap.size Z (vals (d.newest n)).toArray 55 _ HR.out)
  clear hw1 hB1 hm hzl
  rcases hv with ⟨rfl, h0⟩ | ⟨g, cap, cur, rfl, _, hg, hle, hmax, ht, h0⟩
  · have e : d.newest n = d.dur n := by unfold Dk.newest; rw [h0]; rfl
    have HC := Lib.hid (row_cells hb (rowD_sec h.secs m d.down hn))
    rw [e] at HI HI' HS H1 HE HB hn1 ⊢
    clear hb h hd1 hs
    go_enter Try.func34, Try.ntmps34
    go_wp2_with (first
      | (refine wpList_alloc_any rfl 55 rfl Z HZ.out ?_; rw [← HW.out])
      | (refine wpList_load_part rfl 55 _ rfl a (n * 64) rfl (vals (d.dur n)) _ HC.out Try.underlying55 rfl HI'.out ?_)
      | (refine wpList_store_row rfl 55 _ _ rfl w.heap.size (vals (d.dur n)).toArray rfl rfl 55 Z HR.out HI.out HS.out H1.out ?_))
    exact bodyPost_ret (results_sec rfl _ _ w.heap.size _ hn1 rfl HE.out) rfl ⟨rfl, HB.out⟩
  · obtain ⟨ws, x, hws⟩ : ∃ ws x, d.cache n = ws ++ [x] := ⟨(d.cache n).dropLast, (d.cache n).getLast h0, (List.dropLast_concat_getLast h0).symm⟩
    have e : d.newest n = x := by unfold Dk.newest; rw [hws]; simp
    have hwl : ∀ b ∈ ws, b.length = 64 := fun b hb' => (h.puts n hn b (by rw [hws]; simp [hb'])).1
    have hfl : (vals ws.flatten).length = ws.length * 64 := by
      rw [vals_length]
      clear hws
      induction ws with
      | nil => rfl
      | cons b r ih => rw [List.flatten_cons, List.length_append, ih (fun c hc => hwl c (List.mem_cons_of_mem _ hc)), hwl b List.mem_cons_self, List.length_cons, Nat.succ_mul, Nat.add_comm]
    have HC := Lib.hid (show ∀ j u, (vals x)[j]? = some u → w1.cell? ⟨g, ws.length * 64 + j, none⟩ = some u by
      intro j u hu
      have hj := (List.getElem?_eq_some_iff.1 hu).1
      rw [← e, vals_length, hs.1] at hj
      rw [cell_of_row w1 g _ cur _ _ hg]
      have h2 : (cur.toList.take ((d.cache n).length * 64))[ws.length * 64 + j]? = some u := by
        rw [ht, hws, List.flatten_append, vals_append, List.getElem?_append_right (by omega), hfl, Nat.add_sub_cancel_left]
        simpa using hu
      rw [List.getElem?_take_of_lt (by rw [hws]; simp; omega)] at h2
      simpa using h2)
    rw [e] at HI HI' HS H1 HE HB hn1 ⊢
    rw [hws] at hlook hle ht
    simp only [List.length_append, List.length_cons, List.length_nil, Nat.zero_add] at hlook hle
    have hk : ws.length + 1 ≤ maxLen := Nat.le_trans hle hmax
    generalize ws.length = k at hlook hle HC hk
    clear hb h hd1 hs hws e hwl hfl ht h0
    unfold maxLen at hk hmax
    go_enter Try.func34, Try.ntmps34
    go_wp2_with (first
      | (refine wpList_alloc_any rfl 55 rfl Z HZ.out ?_; rw [← HW.out])
      | (refine wpList_load_part rfl 55 _ rfl g (k * 64) rfl (vals x) _ HC.out Try.underlying55 rfl HI'.out ?_)
      | (refine wpList_store_row rfl 55 _ _ rfl w.heap.size (vals x).toArray rfl rfl 55 Z HR.out HI.out HS.out H1.out ?_))
    exact bodyPost_ret (results_sec rfl _ _ w.heap.size _ hn1 rfl HE.out) rfl ⟨rfl, HB.out⟩
end Go.Proofs.Ytgkbhdecohlpmaa.Dk
end

section
/-
  Read, Durable: bytes of new memory.
-/
namespace Go.Proofs.Ytgkbhdecohlpmaa.Dk
set_option maxRecDepth 100000
open Go.RowKit Go.Maps

theorem read_nil (z : Int) (w : World) : Calls Try.prog 18 #[.pointer none, .int .i64 z] w fun e w' => e = .returned (.tuple #[.slice none 0 0, .int .i64 1]) ∧ w' = w := by
  go_enter Try.func18, Try.ntmps18
  go_wp2_with fail
  refine (refuses_nil w).mono ?_
  rintro e w' ⟨rfl, rfl⟩
  go_wp2
  go_ret2
  exact ⟨rfl, rfl⟩
theorem read_down {w : World} {S : Nat → Prop} {a : Nat} {d : Dk} (h : Disk w S a d) (hd : d.down = true) (z : Int) : Calls Try.prog 18 #[.pointer (some ⟨a, 0, none⟩), .int .i64 z] w fun e w' => e = .returned (.tuple #[.slice none 0 0, .int .i64 30]) ∧ w' = w := by
  have HR := Lib.hid (refuses_any h)
  rw [hd] at HR
  clear h hd
  go_enter Try.func18, Try.ntmps18
  go_wp2_with fail
  refine HR.out.mono ?_
  rintro e w' ⟨rfl, rfl⟩
  go_wp2
  go_ret2
  exact ⟨rfl, rfl⟩
theorem read_arg {w : World} {S : Nat → Prop} {a : Nat} {d : Dk} (h : Disk w S a d) (hd : d.down = false) (z : Int) (hz : ¬ (0 ≤ z ∧ z < 34)) : Calls Try.prog 18 #[.pointer (some ⟨a, 0, none⟩), .int .i64 z] w fun e w' => e = .returned (.tuple #[.slice none 0 0, .int .i64 2]) ∧ w' = w := by
  have HR := Lib.hid (refuses_any h)
  have HN := Lib.hid (sector_any z w)
  rw [decide_eq_false hz] at HN
  rw [hd] at HR
  clear h hd hz
  go_enter Try.func18, Try.ntmps18
  go_wp2_with fail
  refine HR.out.mono ?_
  rintro e w' ⟨rfl, rfl⟩
  go_wp2_with fail
  refine HN.out.mono ?_
  rintro e w' ⟨rfl, rfl⟩
  go_wp2
  go_ret2
  exact ⟨rfl, rfl⟩
/-- bytes of new memory -/
def Fresh (w w' : World) (bs : List Nat) (v : Value) : Prop := ∃ g c, v = .slice (some ⟨g, 0, none⟩) bs.length c ∧ w.heap.size ≤ g ∧ g < w'.heap.size ∧ By w' w'.heap.size (some ⟨g, 0, none⟩) bs ∧ bs.length ≤ c ∧ c ≤ maxLen
set_option maxHeartbeats 400000 in
theorem read_ok {w : World} {S : Nat → Prop} {a : Nat} {d : Dk} (h : Disk w S a d) (hd : d.down = false) {n : Nat} (hn : n < 34) : Calls Try.prog 18 #[.pointer (some ⟨a, 0, none⟩), .int .i64 (n : Int)] w fun e w' =>
    ∃ v, e = .returned (.tuple #[v, .int .i64 0]) ∧ Fresh w w' (d.newest n) v ∧ Below w.heap.size w w' := by
  have hs := h.newest_sec hn
  have HR := Lib.hid (refuses_any h)
  have HN := Lib.hid (sector_any (n : Int) w)
  rw [decide_eq_true (by omega)] at HN
  rw [hd] at HR
  have HW := Lib.hid (newest_any h hn)
  obtain ⟨Z, hZ, hz⟩ : ∃ Z, (Try.prog.info? 55).map (·.zero) = some (some (.agg Z)) ∧ Z = (vals (List.replicate 64 0)).toArray := ⟨_, sector_zero, rfl⟩
  have HS := Lib.hid (show Z.size = (vals (d.newest n)).toArray.size by rw [hz]; simp [vals_length, hs.1])
  have HZ := Lib.hid hZ
  have HI := Lib.hid (show (Try.prog.info? 55).map (·.size) = some (vals (d.newest n)).toArray.size by rw [sector_size]; simp [vals_length, hs.1])
  have H1 := Lib.hid (show (vals (d.newest n)).toArray.all (·.oneCell') = true from Array.all_eq_true_iff_forall_mem.2 fun u hu => vals_one u (by simpa using hu))
  generalize d.newest n = bs at hs HW HS HI H1 ⊢
  clear h hd hZ hz
  go_enter Try.func18, Try.ntmps18
  go_wp2_with fail
  refine HR.out.mono ?_
  rintro e w' ⟨rfl, rfl⟩
  go_wp2_with fail
  refine HN.out.mono ?_
  rintro e w' ⟨rfl, rfl⟩
  go_wp2_with fail
  refine HW.out.mono ?_
  rintro e w1 ⟨rfl, hb1⟩
  unfold sval
  have hb2 := hb1.alloc hb1.size (.cells Z 55)
  have hg2 := heap_alloc_new w1 (.cells Z 55)
  have HG := Lib.hid hg2
  have hb3 := below_setRow hb2 hb1.size (vals bs).toArray
  have hg3 := setRow_heap (w1.alloc (.cells Z 55)) w1.heap.size Z (vals bs).toArray 55 _ hg2
  have HB := Lib.hid (show Below w'.heap.size w' ((w1.alloc (.cells Z 55)).setRow w1.heap.size (vals bs).toArray) ∧ Fresh w' ((w1.alloc (.cells Z 55)).setRow w1.heap.size (vals bs).toArray) bs (.slice (some ⟨w1.heap.size, 0, none⟩) 64 64) from
    ⟨hb3, w1.heap.size, 64, by rw [hs.1], hb1.size, by simp, (By.of_row hg3 (by rw [show (vals bs).toArray.toList = vals bs by simp]; exact List.take_of_length_le (by rw [vals_length]; exact Nat.le_refl _)) hs.2).mono (by simp), by rw [hs.1]; omega, by unfold maxLen; omega⟩)
  clear hb2 hg2 hb3 hg3
  go_wp2_with (first
    | (refine wpList_alloc_any rfl 55 rfl Z HZ.out ?_)
    | (refine wpList_store_row rfl 55 _ _ rfl w1.heap.size (vals bs).toArray rfl rfl 55 Z HG.out HI.out HS.out H1.out ?_))
  go_ret2
  exact ⟨_, rfl, HB.out.2, HB.out.1⟩

theorem ahead_succ (f : Nat → List Nat) (n : Nat) : ahead f (n + 1) = ahead f n ++ f n := by
  unfold ahead
  rw [List.range_succ, List.flatMap_append]
  simp
end Go.Proofs.Ytgkbhdecohlpmaa.Dk
end

section
/-
  Writes: the writes are counted in whatever order the map gives them.
-/
namespace Go.Proofs.Ytgkbhdecohlpmaa.Dk
set_option maxRecDepth 100000
open Go.RowKit Go.Maps

def sumF (f : Nat → Nat) (N : Nat) : Nat := ((List.range N).map f).sum
theorem sumF_succ (f : Nat → Nat) (N : Nat) : sumF f (N + 1) = sumF f N + f N := by
  unfold sumF
  rw [List.range_succ, List.map_append, List.sum_append]
  simp
theorem sumF_congr {f g : Nat → Nat} {N : Nat} (h : ∀ n, n < N → f n = g n) : sumF f N = sumF g N := by
  induction N with
  | zero => rfl
  | succ N ih => rw [sumF_succ, sumF_succ, ih (fun n hn => h n (by omega)), h N (by omega)]
theorem sumF_le {f g : Nat → Nat} {N : Nat} (h : ∀ n, n < N → f n ≤ g n) : sumF f N ≤ sumF g N := by
  induction N with
  | zero => exact Nat.le_refl _
  | succ N ih =>
    rw [sumF_succ, sumF_succ]
    have h1 := ih (fun n hn => h n (by omega))
    have h2 := h N (by omega)
    omega
theorem sumF_upd {f g : Nat → Nat} {k x : Nat} (h : ∀ n, n ≠ k → g n = f n) (hk : g k = f k + x) : ∀ N, k < N → sumF g N = sumF f N + x
  | 0, h0 => by omega
  | N + 1, h0 => by
    rw [sumF_succ, sumF_succ]
    by_cases e : k = N
    · subst e
      rw [sumF_congr (f := g) (g := f) (fun n hn => h n (by omega)), hk]; omega
    · rw [sumF_upd h hk N (by omega), h N (by omega)]; omega
theorem sumF_zero {f : Nat → Nat} {N : Nat} (h : ∀ n, n < N → f n = 0) : sumF f N = 0 := by
  induction N with
  | zero => rfl
  | succ N ih => rw [sumF_succ, ih (fun n hn => h n (by omega)), h N (by omega)]

/-- those of the entries that have come -/
def come {H : Type} (D : DataW H) (left : Lit → Bool) (c : Nat → Nat) (n : Nat) : Nat := if Maps.has D (key n) && !left (key n) then c n else 0
theorem key_inj {n k : Nat} (h : key n = key k) : n = k := by
  unfold key at h
  have := (Lit.int.inj h).2
  omega
theorem sameKey_key (n k : Nat) : (key n).sameKey (key k) = decide (n = k) := by
  by_cases h : n = k
  · subst h; simp [Lit.sameKey, key]
  · rw [decide_eq_false h]
    exact Maps.sameKey_ne (fun e => h (key_inj e))

theorem come_all {H : Type} {D : DataW H} {left : Lit → Bool} {C : Nat → List (List Nat)} {n : Nat} (h : Maps.has D (key n) = !(C n).isEmpty) (hl : ∀ kl, left kl = false) : come D left (fun n => (C n).length) n = (C n).length := by
  simp only [come]
  rw [hl (key n), h]
  cases e : C n <;> simp
theorem come_other {H : Type} {D : DataW H} {left : Lit → Bool} {c : Nat → Nat} {n i : Nat} (h : i ≠ n) : come D (fun z => left z && !z.sameKey (key n)) c i = come D left c i := by
  simp [come, sameKey_key, h]
theorem come_same {H : Type} {D : DataW H} {left : Lit → Bool} {c : Nat → Nat} {n : Nat} (h : Maps.has D (key n) = true) (hl : left (key n) = true) : come D (fun z => left z && !z.sameKey (key n)) c n = come D left c n + c n := by
  simp [come, sameKey_key, h, hl]
theorem below_grown {w w' : World} (h : Below w.heap.size w w') : w.grownBy w' none := ⟨h.os, h.tape, h.output, h.size, fun k hk _ => h.block k hk⟩
theorem Slots.val {w : World} {S : Nat → Prop} {c : Nat → List (List Nat)} {V : Nat → Value} (h : Slots w S c V) {n : Nat} (hn : n < 34) : ∃ A cap, V n = .slice A (c n).length cap := by
  rcases (h.own n hn).2 with ⟨e, h0⟩ | ⟨g, cap, _, e, _⟩
  · exact ⟨none, 0, by rw [e, h0]⟩
  · exact ⟨_, _, e⟩
theorem writes_eq (d : Dk) : d.writes = sumF (fun n => (d.cache n).length) 34 := rfl

/-- what an entry of the cache is, as the map gives it -/
theorem Mapped.entry {D : DataW Value} {c : Nat → List (List Nat)} {V : Nat → Value} (h1 : ∀ kl, Maps.has D kl = true → ∃ n, n < 34 ∧ kl = key n)
    (h2 : ∀ n, n < 34 → Maps.has D (key n) = !(c n).isEmpty ∧ D.atKey (key n) (.held nilS) = .held (V n))
    {x : Int} {v : Value} {kl : Lit} {y : DataW Value × List MemPlace} (hk : keyOf Try.prog 3 (.int .i64 x) = some kl) (hl : Maps.has D kl = true) (hy : held v = some y) (hat : ∀ zd, D.atKey kl zd = y.1) :
    ∃ n : Nat, n < 34 ∧ x = (n : Int) ∧ kl = key n ∧ v = V n ∧ c n ≠ [] := by
  obtain ⟨n, hn, rfl⟩ := h1 kl hl
  obtain ⟨x', ex, ekl, _⟩ := Maps.keyOf_int_inv Try.underlying3 hk
  cases ex
  have hx : x = (n : Int) := by
    unfold key at ekl
    exact (Lit.int.inj ekl).2.symm
  have h3 := h2 n hn
  have h4 := hat (.held nilS)
  rw [h3.2] at h4
  unfold held at hy
  cases hy
  refine ⟨n, hn, hx, rfl, (DataW.held.inj h4).symm, fun e => ?_⟩
  rw [h3.1, e] at hl
  cases hl

end Go.Proofs.Ytgkbhdecohlpmaa.Dk
end

section
/-
  Flush: the newest write of each sector becomes durable, in whatever order the map gives the sectors.
-/
namespace Go.Proofs.Ytgkbhdecohlpmaa.Dk
set_option maxRecDepth 100000
open Go.RowKit Go.Maps Go.MapKept Go.ChangeMaps

def Dk.flush (d : Dk) : Dk := ⟨d.newest, fun _ => [], d.down⟩
theorem flush_nil (w : World) : Calls Try.prog 14 #[.pointer none] w fun e w' => e = .returned (.int .i64 1) ∧ w' = w := by
  go_enter Try.func14, Try.ntmps14
  go_wp2_with fail
  refine (refuses_nil w).mono ?_
  rintro e w' ⟨rfl, rfl⟩
  go_wp2
  go_ret
  exact ⟨rfl, rfl⟩
theorem flush_down {w : World} {S : Nat → Prop} {a : Nat} {d : Dk} (h : Disk w S a d) (hd : d.down = true) : Calls Try.prog 14 #[.pointer (some ⟨a, 0, none⟩)] w fun e w' => e = .returned (.int .i64 30) ∧ w' = w := by
  have HR := Lib.hid (refuses_any h)
  rw [hd] at HR
  clear h hd
  go_enter Try.func14, Try.ntmps14
  go_wp2_with fail
  refine HR.out.mono ?_
  rintro e w' ⟨rfl, rfl⟩
  go_wp2
  go_ret
  exact ⟨rfl, rfl⟩

/-- An emptied map. -/
theorem mapped_empty {w : World} {b clock : Nat} (hb : w.heap[b]? = some (.map #[] clock)) : Mapped w b (fun _ => []) (fun _ => nilS) :=
  ⟨.map [], ⟨#[], clock, hb, ⟨by simp, stamped_empty clock, by simp⟩, by simp, rfl⟩, fun kl hk => by simp [Maps.has] at hk, fun n _ => ⟨by simp [Maps.has], rfl⟩⟩
theorem slots_empty (w : World) (S : Nat → Prop) : Slots w S (fun _ => []) (fun _ => nilS) :=
  ⟨fun _ _ => ⟨rfl, Or.inl ⟨rfl, rfl⟩⟩, fun _ _ _ e => (by cases e), fun _ _ _ _ _ _ e => (by cases e)⟩
theorem run_clear (w : World) (b : Nat) (ty : TypeId) {es : Array MapEntry} {clock : Nat} (hb : w.heap[b]? = some (.map es clock)) :
    (Builtin.clear_ #[57] ty #[.map (some b)]).run Try.prog w = .ok (.tuple #[]) (setBlock w b (.map #[] clock)) := by
  simp [Builtin.clear_, run_underlying Try.underlying57, MapKept.run_getObj_map hb, MapKept.run_setObj_map _ hb, Result.andThen]
  rfl
theorem run_clear_nil (w : World) (ty : TypeId) : (Builtin.clear_ #[57] ty #[.map none]).run Try.prog w = .ok (.tuple #[]) w := by
  simp [Builtin.clear_, run_underlying Try.underlying57, Result.andThen]

theorem Disk.same_as {w : World} {S : Nat → Prop} {a : Nat} {d d' : Dk} (h : Disk w S a d) (hf : ∀ n, n < 34 → d'.dur n = d.dur n) (hc : ∀ n, n < 34 → d'.cache n = d.cache n) (hd : d'.down = d.down) : Disk w S a d' := by
  refine ⟨h.mine, h.old, fun n hn => by rw [hf n hn]; exact h.secs n hn, fun n hn => by rw [hc n hn]; exact h.puts n hn, ?_⟩
  obtain ⟨m, hb, hm⟩ := h.body
  refine ⟨m, ?_, ?_⟩
  · rw [hb, hd]
    unfold rowD
    rw [flat_congr hf]
  · refine hm.imp (fun h1 => ⟨h1.1, fun n hn => by rw [hc n hn]; exact h1.2 n hn⟩) ?_
    rintro ⟨b, V, e, hS, ⟨D, hown, h1, h2⟩, hV⟩
    exact ⟨b, V, e, hS, ⟨D, hown, h1, fun n hn => by rw [hc n hn]; exact h2 n hn⟩, ⟨fun n hn => by rw [hc n hn]; exact hV.own n hn, hV.mine, hV.apart⟩⟩

theorem World.ownsMap.at_ {H : Type} {P : Program} {k : TypeId} {R : Value → Option (DataW H × List MemPlace)} {w : World} {b n : Nat} {D : DataW H} (h : w.ownsMap P k R b n D) : ∃ es clock, w.heap[b]? = some (.map es clock) := by
  obtain ⟨es, clock, hb, _⟩ := h
  exact ⟨es, clock, hb⟩

/-- The disk while its cache is made durable. -/
theorem Disk.stored {w : World} {S : Nat → Prop} {a : Nat} {d : Dk} {m : Option Nat} (h : Disk w S a d) (hb : w.heap[a]? = some (.cells (rowD d.dur m d.down).toArray 59 (0, 0)))
    (hm : (m = none ∧ ∀ n, n < 34 → d.cache n = []) ∨ ∃ b V, m = some b ∧ S b ∧ Mapped w b d.cache V ∧ Slots w S d.cache V) {n : Nat} (hn : n < 34) {s : List Nat} (hs : Sec s) :
    Disk (w.setRow a (vals (ahead d.dur n) ++ vals s ++ (vals (behindS d.dur n) ++ [Value.map m, .bool d.down])).toArray) S a { d with dur := upd d.dur n s } := by
  have hg := grown_setRow w a (vals (ahead d.dur n) ++ vals s ++ (vals (behindS d.dur n) ++ [Value.map m, .bool d.down])).toArray
  refine ⟨h.mine, fun k hk => Nat.lt_of_lt_of_le (h.old k hk) hg.size, fun k hk => ?_, h.puts, m, ?_, cache_keep hb h.old hm hg⟩
  · show Sec (upd d.dur n s k)
    by_cases e : k = n
    · subst e; rw [upd_same]; exact hs
    · rw [upd_other _ _ e]; exact h.secs k hk
  · rw [← rowD_upd _ _ _ hn]
    exact setRow_heap w a _ _ 59 _ hb

set_option maxHeartbeats 1000000 in
theorem flush_ok {w : World} {S : Nat → Prop} {a : Nat} {d : Dk} (h : Disk w S a d) (hd : d.down = false) : Calls Try.prog 14 #[.pointer (some ⟨a, 0, none⟩)] w fun e w' =>
    e = .returned (.int .i64 0) ∧ Goes w w' S a d.flush := by
  have HR := Lib.hid (refuses_any h)
  rw [hd] at HR
  obtain ⟨m, hb, hc, _, _, hm⟩ := h.cells
  have HD := Lib.hid h
  rcases hm with ⟨rfl, h0⟩ | ⟨b, V, rfl, hS, hM, hV⟩
  · have hrn := fun w => run_range_nilMap (P := Try.prog) w 57 _ _ Try.underlying57
    have hnn := fun (w : World) ty a b s => run_next_nilMap (P := Try.prog) w ty a b s
    have hcl := fun (w : World) ty => run_clear_nil w ty
    have hc' : (w.alloc (.mapIter none 0 #[] 0)).cell? ⟨a, 2176, none⟩ = some (.map none) := by
      rw [World.cell?_of_block (w := w) (Below.heap_alloc w _ a h.lt)]; exact hc
    have HB := Lib.hid ((Below.refl w.heap.size w).alloc (Nat.le_refl _) (.mapIter none 0 #[] 0))
    have H0 := Lib.hid h0
    clear h0 h hb
    go_enter Try.func14, Try.ntmps14
    go_wp2_with fail
    refine HR.out.mono ?_
    rintro e w' ⟨rfl, rfl⟩
    go_wp2
    refine wp_loop_rounds 1 ?_
    rw [rounds_succ]
    go_wp2
    go_ret
    refine ⟨rfl, S, ?_, Kept.of_below HB.out (Nat.le_refl _), fun _ hk => Or.inl hk⟩
    refine (HD.out.below HB.out (Nat.le_refl _)).same_as (fun n hn => ?_) (fun n hn => (H0.out n hn).symm) rfl
    show d.newest n = d.dur n
    unfold Dk.newest
    rw [H0.out n hn]; rfl
  · have hba := hM.ne_cells hb
    have hMc := hM.at_
    obtain ⟨D, hown, h1, h2⟩ := hM
    have H12 := Lib.hid (And.intro h1 h2)
    have HDn := Lib.hid hd
    clear h hb h1 h2 hd
    go_enter Try.func14, Try.ntmps14
    go_wp2_with fail
    refine HR.out.mono ?_
    rintro e w' ⟨rfl, rfl⟩
    go_wp2_with (at_range; refine wpList_range_own _ rfl _ 57 rfl 3 91 (Maps.int_keyed Try.underlying3) Try.underlying57 held b 34 D rfl hown ?_; intro w0 hrg0 hg0 hs0)
    go_frame
    go_loopw [4] (fun _ wr => ∃ left cnt f, wr.ranges Try.prog 3 held b w'.heap.size 34 D left cnt ∧ (∀ kl, left kl = true → Maps.has D kl = true) ∧ Disk wr S a { d with dur := f } ∧ wr.cell? ⟨a, 2176, none⟩ = some (.map (some b)) ∧
      (∀ n, n < 34 → f n = if Maps.has D (key n) && !left (key n) then d.newest n else d.dur n) ∧ Kept S w' wr) (fun _ wr => wr.rangeLeft b w'.heap.size)
    case atStart =>
      refine ⟨_, _, d.dur, hrg0, fun _ h => h, HD.out.keep (fun k hk => hg0.block k (HD.out.old k hk) (by simp)) hg0.size, ?_, fun n hn => ?_, (Kept.refl S w').grown hg0 (fun _ e => by cases e)⟩
      · exact (World.cell?_of_block (w := w') (hg0.block a HD.out.lt (by simp))).trans hc
      · cases Maps.has D (key n) <;> rfl
    case round =>
      obtain ⟨left, cnt, f, hrg, hsub, hdk, hcm, hf, hk⟩ := hrel
      have HT := Lib.hid hrg
      have HS := Lib.hid hsub
      have HF := Lib.hid hf
      have HK := Lib.hid hk
      have HDk := Lib.hid hdk
      have HCM := Lib.hid hcm
      clear hsub hf hk hdk hcm
      go_wp2_with (at_next; refine wpList_next_ranges _ rfl _ rfl 3 (Maps.int_keyed Try.underlying3) held (Value.int .i64) (fun v => v) (fun k kl hk => by obtain ⟨x, rfl, _⟩ := Maps.keyOf_int_inv Try.underlying3 hk; exact ⟨x, rfl⟩) (fun v y _ => ⟨v, rfl⟩) b w'.heap.size 34 _ _ _ rfl hrg ?_ ?_)
      · intro _ hl0
        obtain ⟨es, clock, hmb⟩ := World.ownsMap.at_ HT.out.owns
        have hcl := fun ty => run_clear wr b ty hmb
        obtain ⟨w3, hw3⟩ : ∃ w3, w3 = setBlock wr b (.map #[] clock) := ⟨_, rfl⟩
        rw [← hw3] at hcl
        have hcm := HCM.out
        have HG := Lib.hid (show Disk w3 S a d.flush ∧ Kept S w' w3 from by
          have hg3 : wr.grownBy w3 (some b) := by rw [hw3]; exact ⟨rfl, rfl, rfl, by simp [setBlock], fun i _ hi => heap_setBlock_other hmb _ (fun e => hi (by rw [e]))⟩
          refine ⟨?_, HK.out.grown hg3 (fun k e _ => by cases e; exact hS)⟩
          obtain ⟨m', hb', hc', _, _, hm'⟩ := HDk.out.cells
          rw [hcm] at hc'
          cases hc'
          have hd3 : Disk w3 S a ⟨f, fun _ => [], d.down⟩ := ⟨HDk.out.mine, fun k hk => Nat.lt_of_lt_of_le (HDk.out.old k hk) hg3.size, HDk.out.secs, fun _ _ _ h => by simp at h, some b, (hg3.block a HDk.out.lt (fun e => hba (by cases e; rfl))).trans hb',
            Or.inr ⟨b, fun _ => nilS, rfl, hS, mapped_empty (clock := clock) (by rw [hw3]; exact heap_setBlock_same hmb _), slots_empty w3 S⟩⟩
          refine hd3.same_as (fun n hn => ?_) (fun _ _ => rfl) rfl
          show d.newest n = f n
          rw [HF.out n hn, hl0 (key n), (H12.out.2 n hn).1]
          unfold Dk.newest
          cases e : d.cache n <;> simp)
        clear hrg hmb hw3 hrg0 hg0 hs0 hown
        go_wp2
        go_ret
        exact ⟨rfl, S, HG.out.1, HG.out.2, fun _ hk => Or.inl hk⟩
      · intro x v kl yd yp w1 cnt1 hkey hlk hv hat hrg1 hlt hg1 hs1 hen
        obtain ⟨n, hn, rfl, rfl, rfl, hne⟩ := Mapped.entry H12.out.1 H12.out.2 hkey (HS.out kl hlk) hv hat
        have hd1 : Disk w1 S a { d with dur := f } := HDk.out.keep (fun k hk => hg1.block k (HDk.out.old k hk) (fun e => by cases e; have := HD.out.old _ hk; omega)) hg1.size
        have hcm1 : w1.cell? ⟨a, 2176, none⟩ = some (.map (some b)) := (World.cell?_of_block (w := wr) (hg1.block a HDk.out.lt (fun e => by cases e; have := HD.out.lt; omega))).trans HCM.out
        have HN := Lib.hid (show ∀ W, Below w1.heap.size w1 W → Calls Try.prog 34 #[.pointer (some ⟨a, 0, none⟩), .int .i64 (n : Int)] W fun e w' => e = .returned (sval (d.newest n)) ∧ Below W.heap.size W w' from fun W hW => by
          have h1 := newest_any (hd1.below hW (Nat.le_refl _)) hn
          rwa [show Dk.newest { d with dur := f } n = d.newest n by
            unfold Dk.newest
            cases e : (d.cache n).getLast? with
            | none => exact absurd (List.getLast?_eq_none_iff.1 e) hne
            | some x => simp [e]] at h1)
        have hni : (n : Int) < 34 := by omega
        have H1 := Lib.hid hd1
        have HC1 := Lib.hid hcm1
        have HG1 := Lib.hid hg1
        have HR1 := Lib.hid hrg1
        have HLT := Lib.hid hlt
        clear hd1 hcm1 hg1 hrg1 hlt hat hv hkey hrg hrg0 hg0 hs0 hown
        go_wp2_with fail
        refine wp_region_held_drew (S := fun _ => True) (by kernel_rfl) trivial (fun hHeld => ?_)
        refine wpAnyH_take (i := 0) (v := ?_) rfl (by kernel_rfl) (by kernel_rfl) (by kernel_rfl) (fun _ _ _ h => h) (Or.inl ⟨by rfl, ?_⟩) (by assumption) ?_
        rotate_left
        · simp only [List.getElem_toArray, List.getElem_cons_zero, List.getElem_cons_succ]; intro W hSw; (try dsimp only at hSw); go_simp; all_goals with_reducible rfl
        simp only [Act.put, List.getElem_toArray, List.getElem_cons_zero, List.getElem_cons_succ, List.setIfInBounds_toArray, List.set_cons_zero, List.set_cons_succ]
        refine wpAnyH_take (i := 1) (v := ?_) rfl (by kernel_rfl) (by kernel_rfl) (by kernel_rfl) (fun _ _ _ h => h) (Or.inl ⟨by rfl, ?_⟩) (by assumption) ?_
        rotate_left
        · simp only [List.getElem_toArray, List.getElem_cons_zero, List.getElem_cons_succ]; intro W hSw; (try dsimp only at hSw); go_simp; all_goals with_reducible rfl
        simp only [Act.put, List.getElem_toArray, List.getElem_cons_zero, List.getElem_cons_succ, List.setIfInBounds_toArray, List.set_cons_zero, List.set_cons_succ]
        refine wpAnyH_take (i := 2) (v := ?_) rfl (by kernel_rfl) (by kernel_rfl) (by kernel_rfl) (fun _ _ _ h => h) (Or.inl ⟨by rfl, ?_⟩) (by assumption) ?_
        rotate_left
        · simp only [List.getElem_toArray, List.getElem_cons_zero, List.getElem_cons_succ]; intro W hSw; (try dsimp only at hSw); go_simp; all_goals with_reducible rfl
        simp only [Act.put, List.getElem_toArray, List.getElem_cons_zero, List.getElem_cons_succ, List.setIfInBounds_toArray, List.set_cons_zero, List.set_cons_succ]
        refine wpAnyH_take (i := 3) (v := ?_) rfl (by kernel_rfl) (by kernel_rfl) (by kernel_rfl) (fun _ _ _ h => h) (Or.inl ⟨by rfl, ?_⟩) (by assumption) ?_
        rotate_left
        · simp only [List.getElem_toArray, List.getElem_cons_zero, List.getElem_cons_succ]; intro W hSw; (try dsimp only at hSw); go_simp; all_goals with_reducible rfl
        simp only [Act.put, List.getElem_toArray, List.getElem_cons_zero, List.getElem_cons_succ, List.setIfInBounds_toArray, List.set_cons_zero, List.set_cons_succ]
        refine wpAnyH_take (i := 5) (v := ?_) rfl (by kernel_rfl) (by kernel_rfl) (by kernel_rfl) (fun _ _ _ h => h) (Or.inl ⟨by rfl, ?_⟩) (by assumption) ?_
        rotate_left
        · simp only [List.getElem_toArray, List.getElem_cons_zero, List.getElem_cons_succ]; intro W hSw; (try dsimp only at hSw); go_simp; all_goals with_reducible rfl
        simp only [Act.put, List.getElem_toArray, List.getElem_cons_zero, List.getElem_cons_succ, List.setIfInBounds_toArray, List.set_cons_zero, List.set_cons_succ]
        refine wpAnyH_take (i := 6) (v := ?_) rfl (by kernel_rfl) (by kernel_rfl) (by kernel_rfl) (fun _ _ _ h => h) (Or.inl ⟨by rfl, ?_⟩) (by assumption) ?_
        rotate_left
        · simp only [List.getElem_toArray, List.getElem_cons_zero, List.getElem_cons_succ]; intro W hSw; (try dsimp only at hSw); go_simp; all_goals with_reducible rfl
        simp only [Act.put, List.getElem_toArray, List.getElem_cons_zero, List.getElem_cons_succ, List.setIfInBounds_toArray, List.set_cons_zero, List.set_cons_succ]
        refine wpAnyH_ready (rs := [4]) (by kernel_rfl) (by simp) ?_
        refine AllReadyH.cons rfl (fun K hK => ?_) AllReadyH.nil
        simp only [List.getElem_toArray, List.getElem_cons_zero, List.getElem_cons_succ]
        go_simp
        refine (HN.out _ (Below.refl _ _).drew).mono ?_
        rintro e w2 ⟨rfl, hb2⟩
        unfold sval
        go_wp2_with fail
        refine hK.out _ _ trivial (fun hHeld2 => ?_)
        clear hK K
        (try simp only [Act.put, List.getElem_toArray, List.getElem_cons_zero, List.getElem_cons_succ, List.setIfInBounds_toArray, List.set_cons_zero, List.set_cons_succ])
        refine wpAnyH_take (i := 7) (v := ?_) rfl (by kernel_rfl) (by kernel_rfl) (by kernel_rfl) (fun _ _ _ h => h) (Or.inl ⟨by rfl, ?_⟩) (by assumption) ?_
        rotate_left
        · simp only [List.getElem_toArray, List.getElem_cons_zero, List.getElem_cons_succ]; intro W hSw; (try dsimp only at hSw); go_simp; all_goals with_reducible rfl
        simp only [Act.put, List.getElem_toArray, List.getElem_cons_zero, List.getElem_cons_succ, List.setIfInBounds_toArray, List.set_cons_zero, List.set_cons_succ]
        refine wpAnyH_ready (rs := [8]) (by kernel_rfl) (by simp) ?_
        refine AllReadyH.cons rfl (fun K hK => ?_) AllReadyH.nil
        simp only [List.getElem_toArray, List.getElem_cons_zero, List.getElem_cons_succ]
        have hb12 : Below w1.heap.size w1 w2 := (Below.refl _ w1).drew.trans hb2
        have hd2 := H1.out.below hb12 (Nat.le_refl _)
        obtain ⟨m2, hrow, hcm2, _, _, hm2⟩ := hd2.cells
        obtain rfl : m2 = some b := by
          rw [hb12.cell H1.out.lt, HC1.out] at hcm2
          cases hcm2; rfl
        have hsn := HD.out.newest_sec hn
        have hst := hd2.stored hrow hm2 hn hsn
        have hgr := grown_setRow w2 a (vals (ahead f n) ++ vals (d.newest n) ++ (vals (behindS f n) ++ [Value.map (some b), .bool d.down])).toArray
        have hrow2 := hrow
        rw [rowD_split _ _ _ hn] at hrow2
        rw [if_pos]
        rotate_left
        · simp [Region.wanted]
        refine wp_store_part 55 (.tmp 26) (.tmp 23) rfl a (n * 64) rfl (vals (d.newest n)) rfl 59 (vals (ahead f n)) (vals (f n)) (vals (behindS f n) ++ [Value.map (some b), .bool d.down]) hrow2 (by rw [vals_length]; exact ahead_len hd2.secs (by omega)) (by rw [vals_length, vals_length, hsn.1]; exact (hd2.secs n hn).1) (sector_info _ hsn.1) vals_one ?_
        refine hK.out _ _ trivial (fun hHeld3 => ?_)
        clear hK K
        refine wpAnyH_done (by kernel_rfl) ?_ _
        generalize hw3 : w2.setRow a (vals (ahead f n) ++ vals (d.newest n) ++ (vals (behindS f n) ++ [Value.map (some b), .bool d.down])).toArray = w3 at hst hgr ⊢
        replace hw3 := hw3.symm
        have hne2 : w'.heap.size ≠ a := by have := HD.out.lt; omega
        have HREL := Lib.hid (show w3.ranges Try.prog 3 held b w'.heap.size 34 D (fun z => left z && !z.sameKey (key n)) cnt1 ∧ Disk w3 S a { d with dur := upd f n (d.newest n) } ∧ w3.cell? ⟨a, 2176, none⟩ = some (.map (some b)) ∧
            (∀ k, k < 34 → upd f n (d.newest n) k = if Maps.has D (key k) && !(left (key k) && !(key k).sameKey (key n)) then d.newest k else d.dur k) ∧ Kept S w' w3 from by
          have hrg3 := (HR1.out.kept (below_grown hb12) (by simp) (by simp)).kept hgr (fun e => hba (by cases e; rfl)) (fun e => hne2 (by cases e; rfl))
          refine ⟨hrg3, hst, ?_, fun k hk => ?_, ?_⟩
          · obtain ⟨m3, hb3, hc3, _, _, hm3⟩ := hst.cells
            have h5 : w3.heap[a]? = some (.cells (rowD (upd f n (d.newest n)) (some b) d.down).toArray 59 (0, 0)) := by
              rw [rowD_upd _ _ _ hn, hw3]
              exact setRow_heap w2 a _ _ 59 _ hrow
            rw [cell_of_row w3 a 2176 _ _ _ h5]
            simpa using rowD_map hst.secs (some b) d.down
          · by_cases e : k = n
            · subst e
              rw [upd_same, sameKey_key, decide_eq_true rfl, HS.out _ hlk]
              simp
            · rw [upd_other _ _ e, sameKey_key, decide_eq_false e, HF.out k hk]
              simp
          · exact ((HK.out.grown HG1.out (fun k e hk => by cases e; omega)).below (Nat.le_refl _) hb12 (Or.inl (by
              have := HK.out.size; have := HG1.out.size; omega))).grown hgr (fun k e _ => by cases e; exact HD.out.mine))
        have HM := Lib.hid (show w3.rangeLeft b w'.heap.size < wr.rangeLeft b w'.heap.size by rw [HREL.out.1.left_eq, HT.out.left_eq]; exact HLT.out)
        clear hst hgr hw3 hrow hrow2 hcm2 hm2 hd2 hb12 hb2 hsn
        (try simp only [Act.put, List.getElem_toArray, List.getElem_cons_zero, List.getElem_cons_succ, List.setIfInBounds_toArray, List.set_cons_zero, List.set_cons_succ])
        go_wp2
        go_roundw
        case rel => exact ⟨_, _, _, HREL.out.1, fun kl hk => HS.out kl (by simp at hk; exact hk.1), HREL.out.2.1, HREL.out.2.2.1, HREL.out.2.2.2.1, HREL.out.2.2.2.2⟩
        case measure => exact HM.out
end Go.Proofs.Ytgkbhdecohlpmaa.Dk
end

section
/-
  One more write in the cache: the row of its sector has grown, the map has it.
-/
namespace Go.Proofs.Ytgkbhdecohlpmaa.Dk
set_option maxRecDepth 100000
open Go.RowKit Go.Maps Go.MapKept Go.ChangeMaps

theorem nodup_below : ∀ (N : Nat) (l : List Nat), l.Nodup → (∀ x ∈ l, x < N) → l.length ≤ N
  | 0, l, _, h => by
    cases l with
    | nil => exact Nat.le_refl _
    | cons x r => exact absurd (h x List.mem_cons_self) (by omega)
  | N + 1, l, hn, h => by
    have h1 := nodup_below N (l.filter (fun x => decide (x ≠ N))) (hn.filter _) (fun x hx => by
      have h2 := List.mem_filter.1 hx
      have h3 := h x h2.1
      have h4 : x ≠ N := by simpa using h2.2
      omega)
    have h5 : l.length ≤ (l.filter (fun x => decide (x ≠ N))).length + 1 := by
      clear h h1
      induction l with
      | nil => simp
      | cons a r ih =>
        have hr := (List.nodup_cons.1 hn)
        by_cases e : a = N
        · subst e
          have : r.filter (fun x => decide (x ≠ a)) = r := List.filter_eq_self.2 fun x hx => by
            have : x ≠ a := fun e => hr.1 (e ▸ hx)
            simpa using this
          rw [List.filter_cons_of_neg (by simp), this]
          exact Nat.le_refl _
        · have := ih hr.2
          simp only [List.filter_cons]
          rw [if_pos (by simpa using e)]
          simp only [List.length_cons]
          omega
    omega
def at_ : Lit → Nat
  | .int _ z => z.toNat
  | _ => 0
theorem sameKey_self {k : Lit} (h : WideAt.IsKeyLit k) : k.sameKey k = true := by
  cases k <;> simp_all [Lit.sameKey, WideAt.IsKeyLit]
/-- A map whose keys are sectors has no more than 34 entries. -/
theorem own34 {w : World} {b N : Nat} {D : DataW Value} (h : w.ownsMap Try.prog 3 held b N D) (hk : ∀ kl, Maps.has D kl = true → ∃ n, n < 34 ∧ kl = key n) : w.ownsMap Try.prog 3 held b 34 D := by
  obtain ⟨es', e, hp, hl⟩ := h.entries (Maps.int_keyed Try.underlying3)
  have hkeys : ∀ p ∈ es', ∃ n, n < 34 ∧ p.1 = key n := fun p hp' => by
    refine hk p.1 ?_
    rw [e, Maps.has_eq, List.any_eq_true]
    exact ⟨p, hp', sameKey_self (hl p hp')⟩
  have hlen : es'.length ≤ 34 := by
    have h1 := nodup_below 34 (es'.map fun p => at_ p.1) ?_ ?_
    · simpa using h1
    · rw [List.nodup_iff_pairwise_ne, List.pairwise_map]
      refine hp.imp_of_mem ?_
      intro p q hp' hq' hne
      obtain ⟨n, hn, e1⟩ := hkeys p hp'
      obtain ⟨m, hm, e2⟩ := hkeys q hq'
      rw [e1, e2] at hne ⊢
      intro he
      simp only [at_, key, Int.toNat_natCast] at he
      exact hne (by rw [he])
    · intro x hx
      obtain ⟨p, hp', rfl⟩ := List.mem_map.1 hx
      obtain ⟨n, hn, e1⟩ := hkeys p hp'
      rw [e1]
      simpa [at_, key] using hn
  obtain ⟨es, clock, hb, F, _, hD⟩ := h
  refine ⟨es, clock, hb, F, ?_, hD⟩
  rw [hD] at e
  cases e
  rw [length_read] at hlen
  exact hlen
theorem Disk.appended {w w4 w5 w6 : World} {S : Nat → Prop} {a b g cap : Nat} {d : Dk} {n : Nat} {p : List Nat} {D : DataW Value} {V : Nat → Value} (h : Disk w S a d) (hn : n < 34) (hp : Sec p)
    (hb : w.heap[a]? = some (.cells (rowD d.dur (some b) d.down).toArray 59 (0, 0))) (hS : S b) (hown : w.ownsMap Try.prog 3 held b 34 D) (hk : ∀ kl, Maps.has D kl = true → ∃ n, n < 34 ∧ kl = key n)
    (hD : ∀ n, n < 34 → Maps.has D (key n) = !(d.cache n).isEmpty ∧ D.atKey (key n) (.held nilS) = .held (V n)) (hV : Slots w S d.cache V)
    (h4 : Below w.heap.size w w4) (h5 : w4.grownBy w5 (V n).ownBlock) (hrow : w5.ownsRow 0 55 64 (.slice (some ⟨g, 0, none⟩) ((d.cache n).length + 1) cap) ((d.cache n).length + 1) (vals (d.cache n).flatten ++ vals p))
    (hg : (V n).ownBlock = some g ∨ w.heap.size ≤ g) (hlt : g < w5.heap.size) (h6 : w5.grownBy w6 (some b)) {N : Nat} (hown6 : w6.ownsMap Try.prog 3 held b N (D.put (key n) (.held (.slice (some ⟨g, 0, none⟩) ((d.cache n).length + 1) cap)))) :
    Goes w w6 S a { d with cache := upd d.cache n (d.cache n ++ [p]) } := by
  have hM : Mapped w b d.cache V := ⟨D, hown, hk, hD⟩
  have hba := hM.ne_cells hb
  have hSg : ∀ k, (V n).ownBlock = some k → S k := fun k e => hV.mine n k hn e
  have hsz : w.heap.size ≤ w6.heap.size := Nat.le_trans h4.size (Nat.le_trans h5.size h6.size)
  -- what lies in blocks of w that are neither the row nor the map stays
  have stays : ∀ k, k < w.heap.size → some k ≠ (V n).ownBlock → k ≠ b → w6.heap[k]? = w.heap[k]? := fun k h1 h2 h3 => by
    have s4 := h4.size
    have s5 := h5.size
    exact ((h6.block k (by omega) (fun e => h3 (by cases e; rfl))).trans (h5.block k (by omega) h2)).trans (h4.block k h1)
  have hgb : g ≠ b := by
    rintro rfl
    rcases hg with h1 | h1
    · exact hV.ne_map hM hn h1 rfl
    · have := h.old _ hS; omega
  have hrow6 : w6.ownsRow 0 55 64 (.slice (some ⟨g, 0, none⟩) ((d.cache n).length + 1) cap) ((d.cache n).length + 1) (vals (d.cache n).flatten ++ vals p) :=
    owns_keep hrow fun k e => by
      obtain rfl : g = k := by simpa [Value.ownBlock] using e
      exact h6.block g hlt (fun e => hgb (by cases e; rfl))
  have hmap := hown.isMap
  have hik : WideAt.IsKeyLit (key n) := trivial
  have hk' : ∀ kl, Maps.has (D.put (key n) (.held (.slice (some ⟨g, 0, none⟩) ((d.cache n).length + 1) cap))) kl = true → ∃ n, n < 34 ∧ kl = key n := fun kl hkl => by
    by_cases e : kl = key n
    · exact ⟨n, hn, e⟩
    · rw [has_put_other e] at hkl
      exact hk kl hkl
  refine ⟨fun k => S k ∨ (w.heap.size ≤ k ∧ k < w6.heap.size), ⟨Or.inl h.mine, fun k hk2 => ?_, h.secs, fun m hm x hx => ?_, some b, ?_, Or.inr ⟨b, upd V n (.slice (some ⟨g, 0, none⟩) ((d.cache n).length + 1) cap), rfl, Or.inl hS, ⟨_, own34 hown6 hk', hk', fun m hm => ?_⟩, ⟨fun m hm => ?_, fun m k hm e => ?_, fun m m' k hm hm' hne e => ?_⟩⟩⟩,
    ⟨(h6.os.trans h5.os).trans h4.os, (h6.tape.trans h5.tape).trans h4.tape, (h6.output.trans h5.output).trans h4.output, hsz, fun k h1 h2 => stays k h1 (fun e => h2 (hSg k e.symm)) (fun e => h2 (e ▸ hS))⟩, fun k hk2 => hk2.imp id (·.1)⟩
  · rcases hk2 with h1 | h1
    · have := h.old k h1; omega
    · exact h1.2
  · by_cases e : m = n
    · subst e
      rw [show ({ d with cache := upd d.cache m (d.cache m ++ [p]) } : Dk).cache m = d.cache m ++ [p] from upd_same _ _ _] at hx
      rcases List.mem_append.1 hx with h1 | h1
      · exact h.puts m hm x h1
      · rw [List.mem_singleton.1 h1]; exact hp
    · rw [show ({ d with cache := upd d.cache n (d.cache n ++ [p]) } : Dk).cache m = d.cache m from upd_other _ _ e] at hx
      exact h.puts m hm x hx
  · rw [stays a h.lt (fun e => hV.ne_disk hb hn e.symm rfl) (fun e => hba e.symm)]
    exact hb
  · show Maps.has _ (key m) = !(upd d.cache n (d.cache n ++ [p]) m).isEmpty ∧ _ = DataW.held (upd V n _ m)
    by_cases e : m = n
    · subst e
      rw [upd_same, upd_same, has_put_same hmap hik, atKey_put_same hmap hik]
      exact ⟨by cases d.cache m <;> rfl, rfl⟩
    · rw [upd_other _ _ e, upd_other _ _ e, has_put_other (fun h => e (key_inj h)), atKey_put_other (fun h => e (key_inj h))]
      exact hD m hm
  · show w6.ownsRow 0 _ 64 (upd V n _ m) (upd d.cache n (d.cache n ++ [p]) m).length (vals (upd d.cache n (d.cache n ++ [p]) m).flatten)
    by_cases e : m = n
    · subst e
      rw [upd_same, upd_same, List.length_append, List.flatten_append, vals_append]
      simpa using hrow6
    · rw [upd_other _ _ e, upd_other _ _ e]
      exact owns_keep (hV.own m hm) fun k hk2 => stays k (h.old k (hV.mine m k hm hk2)) (fun h2 => hV.apart n m k hn hm (fun h3 => e h3.symm) h2.symm hk2) (hV.ne_map hM hm hk2)
  · by_cases e2 : m = n
    · subst e2
      rw [upd_same] at e
      obtain rfl : g = k := by simpa [Value.ownBlock] using e
      rcases hg with h1 | h1
      · exact Or.inl (hSg g h1)
      · exact Or.inr ⟨h1, Nat.lt_of_lt_of_le hlt h6.size⟩
    · rw [upd_other _ _ e2] at e
      exact Or.inl (hV.mine m k hm e)
  · by_cases e1 : m = n
    · subst e1
      rw [upd_same] at e
      rw [upd_other _ _ (fun h => hne h.symm)]
      obtain rfl : g = k := by simpa [Value.ownBlock] using e
      rcases hg with h1 | h1
      · exact hV.apart m m' g hn hm' hne h1
      · intro h2
        have := h.old g (hV.mine m' g hm' h2)
        omega
    · rw [upd_other _ _ e1] at e
      by_cases e2 : m' = n
      · subst e2
        rw [upd_same]
        intro h2
        obtain rfl : g = k := by simpa [Value.ownBlock] using h2
        rcases hg with h1 | h1
        · exact hV.apart m m' g hm hn hne e h1
        · have := h.old g (hV.mine m g hm e)
          omega
      · rw [upd_other _ _ e2]
        exact hV.apart m m' k hm hm' hne e
end Go.Proofs.Ytgkbhdecohlpmaa.Dk
end

section
/-
  Write: one more write of a sector.
-/
namespace Go.Proofs.Ytgkbhdecohlpmaa.Dk
set_option maxRecDepth 100000
open Go.RowKit Go.Maps Go.MapKept Go.ChangeMaps

def Dk.write (d : Dk) (n : Nat) (bs : List Nat) : Dk := { d with cache := upd d.cache n (d.cache n ++ [padded bs]) }
theorem write_nil (z : Int) (A : Option Addr) (l c : Nat) (w : World) : Calls Try.prog 19 #[.pointer none, .int .i64 z, .slice A l c] w fun e w' => e = .returned (.int .i64 1) ∧ w' = w := by
  go_enter Try.func19, Try.ntmps19
  go_wp2_with fail
  refine (refuses_nil w).mono ?_
  rintro e w' ⟨rfl, rfl⟩
  go_wp2
  go_ret
  exact ⟨rfl, rfl⟩
theorem write_down {w : World} {S : Nat → Prop} {a : Nat} {d : Dk} (h : Disk w S a d) (hd : d.down = true) (z : Int) (A : Option Addr) (l c : Nat) :
    Calls Try.prog 19 #[.pointer (some ⟨a, 0, none⟩), .int .i64 z, .slice A l c] w fun e w' => e = .returned (.int .i64 30) ∧ w' = w := by
  have HR := Lib.hid (refuses_any h)
  rw [hd] at HR
  clear h hd
  go_enter Try.func19, Try.ntmps19
  go_wp2_with fail
  refine HR.out.mono ?_
  rintro e w' ⟨rfl, rfl⟩
  go_wp2
  go_ret
  exact ⟨rfl, rfl⟩
theorem write_arg {w : World} {S : Nat → Prop} {a : Nat} {d : Dk} (h : Disk w S a d) (hd : d.down = false) (z : Int) (A : Option Addr) (l c : Nat) (hl : l ≤ maxLen) (hz : ¬ (0 ≤ z ∧ z < 34 ∧ l ≤ 64)) :
    Calls Try.prog 19 #[.pointer (some ⟨a, 0, none⟩), .int .i64 z, .slice A l c] w fun e w' => e = .returned (.int .i64 2) ∧ w' = w := by
  have HR := Lib.hid (refuses_any h)
  rw [hd] at HR
  clear h hd
  unfold maxLen at hl
  by_cases hs : 0 ≤ z ∧ z < 34
  · have HN := Lib.hid (sector_any z w)
    rw [decide_eq_true hs] at HN
    have hl2 : (l : Int) > 64 := by omega
    clear hz hs
    go_enter Try.func19, Try.ntmps19
    go_wp2_with fail
    refine HR.out.mono ?_
    rintro e w' ⟨rfl, rfl⟩
    go_wp2_with fail
    refine HN.out.mono ?_
    rintro e w' ⟨rfl, rfl⟩
    go_wp2
    go_ret
    exact ⟨rfl, rfl⟩
  · have HN := Lib.hid (sector_any z w)
    rw [decide_eq_false hs] at HN
    clear hz hs
    go_enter Try.func19, Try.ntmps19
    go_wp2_with fail
    refine HR.out.mono ?_
    rintro e w' ⟨rfl, rfl⟩
    go_wp2_with fail
    refine HN.out.mono ?_
    rintro e w' ⟨rfl, rfl⟩
    go_wp2
    go_ret
    exact ⟨rfl, rfl⟩

/-- A disk that has got a map. -/
theorem Disk.made {w : World} {S : Nat → Prop} {a : Nat} {d : Dk} (h : Disk w S a d) (hb : w.heap[a]? = some (.cells (rowD d.dur none d.down).toArray 59 (0, 0))) (h0 : ∀ n, n < 34 → d.cache n = []) :
    Disk ((w.alloc (.map #[] 0)).setCell ⟨a, 2176, none⟩ (.map (some w.heap.size))) (fun k => S k ∨ k = w.heap.size) a d ∧ ((w.alloc (.map #[] 0)).setCell ⟨a, 2176, none⟩ (.map (some w.heap.size))).cell? ⟨a, 2176, none⟩ = some (.map (some w.heap.size)) ∧
      Kept S w ((w.alloc (.map #[] 0)).setCell ⟨a, 2176, none⟩ (.map (some w.heap.size))) := by
  have hlt := h.lt
  have hb1 := (Below.heap_alloc w (.map #[] 0) a hlt).trans hb
  have hg := grown_setCell (w.alloc (.map #[] 0)) a 2176 (.map (some w.heap.size))
  have hrow := heap_setCell_same (w.alloc (.map #[] 0)) a 2176 _ _ (.map (some w.heap.size)) hb1
  rw [rowD_setMap h.secs] at hrow
  refine ⟨⟨Or.inl h.mine, fun k hk => ?_, h.secs, h.puts, some w.heap.size, hrow, Or.inr ⟨w.heap.size, fun _ => nilS, rfl, Or.inr rfl, ?_, ?_⟩⟩, ?_, ((Kept.refl S w).alloc _).grown hg (fun k e _ => by cases e; exact h.mine)⟩
  · refine Nat.lt_of_lt_of_le ?_ hg.size
    rcases hk with hk | hk
    · have := h.old k hk; simp; omega
    · simp; omega
  · have := mapped_empty (w := (w.alloc (.map #[] 0)).setCell ⟨a, 2176, none⟩ (.map (some w.heap.size))) (b := w.heap.size) (clock := 0) ((heap_setCell_other _ _ _ _ (by simp; omega)).trans (heap_alloc_new w _))
    obtain ⟨D, hown, h1, h2⟩ := this
    exact ⟨D, hown, h1, fun n hn => by rw [h0 n hn]; exact h2 n hn⟩
  · have := slots_empty ((w.alloc (.map #[] 0)).setCell ⟨a, 2176, none⟩ (.map (some w.heap.size))) (fun k => S k ∨ k = w.heap.size)
    exact ⟨fun n hn => by rw [h0 n hn]; exact this.own n hn, this.mine, this.apart⟩
  · rw [cell_of_row _ a 2176 _ _ _ hrow]
    simpa using rowD_map h.secs (some w.heap.size) d.down
theorem exec_load_part {P : Program} {ρ : Operand → Value} {o : Oper} {w : World} (ty : TypeId) (x : Operand) (ho : o.op = .load ty x) (g off : Nat) (hx : ρ x = .pointer (some ⟨g, off, none⟩)) (xs : List Value) (d : TypeDesc)
    (hc : ∀ j u, xs[j]? = some u → w.cell? ⟨g, off + j, none⟩ = some u) (hu : P.underlying ty = some d) (hd : (match d with | .struct _ | .array _ _ => true | _ => false) = true) (hi : (P.info? ty).map (·.size) = some xs.length) :
    (execOp ρ o).run P w = .ok (.value (.agg xs.toArray)) w := by
  unfold execOp
  simp only [ho, hx, Instr.loadAt, Instr.sureAddr, Sem.run_bind, Sem.run_pure, Result.andThen_ok, run_load_part w g off ty xs d hc hu hd hi]

theorem cell_set_other (w : World) (g j a n : Nat) (v : Value) (h : ¬ (g = a ∧ j = n)) : (w.setCell ⟨a, n, none⟩ v).cell? ⟨g, j, none⟩ = w.cell? ⟨g, j, none⟩ :=
  World.cell?_setCells_out a [v] n w ⟨g, j, none⟩ (fun e _ => by
    have e' : g = a := e
    show j < n ∨ n + 1 ≤ j
    omega)
theorem lt_of_heap {w : World} {k : Nat} {o : Obj} (h : w.heap[k]? = some o) : k < w.heap.size := (Array.getElem?_eq_some_iff.1 h).1
theorem heap_alloc_old' (w : World) (o : Obj) (k : Nat) (h : k < w.heap.size) : (w.alloc o).heap[k]? = w.heap[k]? := Below.heap_alloc w o k h
/-- a sector with bytes in front -/
theorem padded_splice {bs : List Nat} (hl : bs.length ≤ 64) : splice (vals (List.replicate 64 0)) 0 (vals bs) = vals (padded bs) := by
  unfold splice padded
  rw [vals_append]
  simp only [List.take_zero, List.nil_append, Nat.zero_add, vals_length]
  congr 1
  unfold vals
  rw [List.map_replicate, List.map_replicate, List.drop_replicate]
theorem size_u8 : (Try.prog.info? 5).map (·.size) = some 1 := by kernel_rfl

set_option maxHeartbeats 1000000 in
theorem write_go {w : World} {S : Nat → Prop} {a : Nat} {d : Dk} (h : Disk w S a d) (hd : d.down = false) {n : Nat} (hn : n < 34) {A : Option Addr} {bs : List Nat} {c : Nat} (hA : By w w.heap.size A bs) (hl : bs.length ≤ 64) (hk : (d.cache n).length ≤ 1000000000) {b : Nat}
    (hcm : w.cell? ⟨a, 2176, none⟩ = some (.map (some b))) :
    Calls Try.prog 19 #[.pointer (some ⟨a, 0, none⟩), .int .i64 (n : Int), .slice A bs.length c] w fun e w' => e = .returned (.int .i64 0) ∧ Goes w w' S a (d.write n bs) := by
  have HR := Lib.hid (refuses_any h)
  rw [hd] at HR
  have HN := Lib.hid (sector_any (n : Int) w)
  rw [decide_eq_true (by omega)] at HN
  have hl2 : ¬ (bs.length : Int) > 64 := by omega
  have hq := fun w => run_eql_map_nil_sl (P := Try.prog) w 57 _ _ (some b) Try.underlying57
  obtain ⟨Z, hZ, hz⟩ : ∃ Z : List Value, (Try.prog.info? 55).map (·.zero) = some (some (.agg Z.toArray)) ∧ Z = vals (List.replicate 64 0) := ⟨_, sector_zero, rfl⟩
  have HZ := Lib.hid hZ
  have HD := Lib.hid h
  have HA := Lib.hid hA
  have H0 := Lib.hid (heap_alloc_new w (.cells Z.toArray 55))
  have B0 := Lib.hid ((Below.refl w.heap.size w).alloc (Nat.le_refl _) (.cells Z.toArray 55))
  have A0 := Lib.hid (hA.below B0.out (Nat.le_refl _)).src
  have HC := Lib.hid (show splice Z 0 (vals bs) = vals (padded bs) by rw [hz]; exact padded_splice hl)
  have HP := Lib.hid (padded_sec hl hA.1)
  have HL := Lib.hid (show (vals bs).length ≤ Z.length by rw [hz, vals_length, vals_length]; simp; omega)
  have HK := Lib.hid hk
  have hlt := h.lt
  have n1 := vals_length bs
  clear h hd hZ hA hz hk
  go_enter Try.func19, Try.ntmps19
  go_wp2_with fail
  refine HR.out.mono ?_
  rintro e w' ⟨rfl, rfl⟩
  go_wp2_with fail
  refine HN.out.mono ?_
  rintro e w' ⟨rfl, rfl⟩
  go_wp2_with (first
    | (refine wpList_alloc_any rfl 55 rfl Z.toArray HZ.out ?_)
    | (with_reducible refine wpList_copy_splice rfl (.tmp 31) (.tmp 32) 44 44 rfl 5 Try.underlying44 size_u8 _ _ _ _ _ _ rfl rfl w'.heap.size 0 Z 55 H0.out (vals bs) (by rw [n1]; exact (Nat.min_eq_left hl).symm) (fun h => ⟨rfl, A0.out h⟩) (by have := HL.out; omega) vals_one w'.heap.size _ B0.out (Nat.le_refl _) ?_; intro w3 hg3 hb3; rw [HC.out] at hg3; replace hb3 := Lib.hid hb3))
  obtain ⟨i0, hi, hz0, hz1, hz2⟩ := info_parts Try.info55
  obtain ⟨m, hb0, hc0, _, _, hm⟩ := HD.out.cells
  rw [hcm] at hc0
  cases hc0
  rcases hm with ⟨e, _⟩ | ⟨b', V, e, hS, hM, hV⟩
  · cases e
  cases e
  have hM0 := hM
  obtain ⟨D, hown, hk1, hD⟩ := hM
  have hb3d : Below w'.heap.size w' w3.drew := hb3.out.drew
  have hg3d : w3.drew.heap[w'.heap.size]? = some (.cells (vals (padded bs)).toArray 55 (0, 0)) := hg3.out
  refine wp_region_held_drew (S := fun W => W.cell? ⟨a, 2176, none⟩ = some (.map (some b)) ∧ W.heap[w'.heap.size]? = some (.cells (vals (padded bs)).toArray 55 (0, 0))) (by kernel_rfl) ⟨(hb3d.cell HD.out.lt).trans hcm, hg3d⟩ (fun hHeld => ?_)
  generalize w3.drew = W3 at hb3d hg3d hHeld ⊢
  have HL3 := Lib.hid ((hM0.keep (hb3d.block b (HD.out.old b hS))).look hn)
  have HBS := Lib.hid (run_buildSlice_one (P := Try.prog) W3 91 55 i0 _ 64 Try.underlying91 hi hz0 hz1 (by omega) (by omega) (vals (padded bs)) (by rw [vals_length, HP.out.1]))
  have H4 := Lib.hid (hb3d.alloc hb3d.size (.cells (vals (padded bs)).toArray 55))
  have HL4 := Lib.hid ((hM0.keep (H4.out.block b (HD.out.old b hS))).look hn)
  have HO4 := Lib.hid (owns_keep (hV.own n hn) fun g hg => H4.out.block g (HD.out.old g (hV.mine n g hn hg)))
  have HM4 := Lib.hid (hown.kept (below_grown H4.out) (by simp))
  have HNB := Lib.hid (show some b ≠ (V n).ownBlock from fun e => hV.ne_map hM0 hn e.symm rfl)
  have HSZ := Lib.hid (show (W3.alloc (.cells (vals (padded bs)).toArray 55)).heap.size = W3.heap.size + 1 by simp)
  have HS4 := Lib.hid (show (W3.alloc (.cells (vals (padded bs)).toArray 55)).cell? ⟨a, 2176, none⟩ = some (.map (some b)) ∧ (W3.alloc (.cells (vals (padded bs)).toArray 55)).heap[w'.heap.size]? = some (.cells (vals (padded bs)).toArray 55 (0, 0)) from
    ⟨(H4.out.cell HD.out.lt).trans hcm, (heap_alloc_old' _ _ _ (lt_of_heap hg3d)).trans hg3d⟩)
  have HNA := Lib.hid (show some a ≠ (V n).ownBlock from fun e => hV.ne_disk hb0 hn e.symm rfl)
  have HNL := Lib.hid (show some w'.heap.size ≠ (V n).ownBlock from fun e => by have := HD.out.old _ (hV.mine n _ hn e.symm); omega)
  have HNM := Lib.hid (show a ≠ b ∧ w'.heap.size ≠ b from ⟨fun e => hM0.ne_cells hb0 e.symm, fun e => by have := HD.out.old b hS; omega⟩)
  have HLT := Lib.hid (show a < (W3.alloc (.cells (vals (padded bs)).toArray 55)).heap.size ∧ w'.heap.size < (W3.alloc (.cells (vals (padded bs)).toArray 55)).heap.size from by
    have := HD.out.lt
    have h2 := hb3d.size
    rw [HSZ.out]; omega)
  have HS5 := Lib.hid (show ∀ w5, (W3.alloc (.cells (vals (padded bs)).toArray 55)).grownBy w5 (V n).ownBlock → w5.cell? ⟨a, 2176, none⟩ = some (.map (some b)) ∧ w5.heap[w'.heap.size]? = some (.cells (vals (padded bs)).toArray 55 (0, 0)) from fun w5 h =>
    ⟨(World.cell?_of_block (w := W3.alloc (.cells (vals (padded bs)).toArray 55)) (h.block a HLT.out.1 HNA.out)).trans HS4.out.1, (h.block _ HLT.out.2 HNL.out).trans HS4.out.2⟩)
  have HS6 := Lib.hid (show ∀ w5 w6, (W3.alloc (.cells (vals (padded bs)).toArray 55)).grownBy w5 (V n).ownBlock → w5.grownBy w6 (some b) → w6.cell? ⟨a, 2176, none⟩ = some (.map (some b)) ∧ w6.heap[w'.heap.size]? = some (.cells (vals (padded bs)).toArray 55 (0, 0)) from fun w5 w6 h h' =>
    ⟨(World.cell?_of_block (w := w5) (h'.block a (Nat.lt_of_lt_of_le HLT.out.1 h.size) (fun e => HNM.out.1 (by cases e; rfl)))).trans (HS5.out w5 h).1, (h'.block _ (Nat.lt_of_lt_of_le HLT.out.2 h.size) (fun e => HNM.out.2 (by cases e; rfl))).trans (HS5.out w5 h).2⟩)
  simp only [Act.put, List.setIfInBounds_toArray, List.set_cons_succ, List.set_cons_zero]
  refine wpAnyH_take (i := 0) (v := ?_) rfl (by kernel_rfl) (by kernel_rfl) (by kernel_rfl) (fun _ _ _ h => h) (Or.inl ⟨by rfl, ?_⟩) (by assumption) ?_
  rotate_left
  · simp only [List.getElem_toArray, List.getElem_cons_zero, List.getElem_cons_succ]; intro W hSw; (try dsimp only at hSw); go_simp; all_goals with_reducible rfl
  simp only [Act.put, List.getElem_toArray, List.getElem_cons_zero, List.getElem_cons_succ, List.setIfInBounds_toArray, List.set_cons_zero, List.set_cons_succ]
  refine wpAnyH_take (i := 1) (v := ?_) rfl (by kernel_rfl) (by kernel_rfl) (by kernel_rfl) (fun _ _ _ h => h) (Or.inl ⟨by rfl, ?_⟩) (by assumption) ?_
  rotate_left
  · simp only [List.getElem_toArray, List.getElem_cons_zero, List.getElem_cons_succ]; intro W hSw; (try dsimp only at hSw); go_simp; all_goals with_reducible rfl
  simp only [Act.put, List.getElem_toArray, List.getElem_cons_zero, List.getElem_cons_succ, List.setIfInBounds_toArray, List.set_cons_zero, List.set_cons_succ]
  refine wpAnyH_take (i := 2) (v := ?_) rfl (by kernel_rfl) (by kernel_rfl) (by kernel_rfl) (fun _ _ _ h => h) (Or.inl ⟨by rfl, ?_⟩) (by assumption) ?_
  rotate_left
  · simp only [List.getElem_toArray, List.getElem_cons_zero, List.getElem_cons_succ]; intro W hSw; (try dsimp only at hSw); go_simp; all_goals with_reducible rfl
  simp only [Act.put, List.getElem_toArray, List.getElem_cons_zero, List.getElem_cons_succ, List.setIfInBounds_toArray, List.set_cons_zero, List.set_cons_succ]
  refine wpAnyH_take (i := 3) (v := ?_) rfl (by kernel_rfl) (by kernel_rfl) (by kernel_rfl) (fun _ _ _ h => h) (Or.inl ⟨by rfl, ?_⟩) (by assumption) ?_
  rotate_left
  · simp only [List.getElem_toArray, List.getElem_cons_zero, List.getElem_cons_succ]; intro W hSw; (try dsimp only at hSw); go_simp; all_goals with_reducible rfl
  simp only [Act.put, List.getElem_toArray, List.getElem_cons_zero, List.getElem_cons_succ, List.setIfInBounds_toArray, List.set_cons_zero, List.set_cons_succ]
  refine wpAnyH_take (i := 4) (v := ?_) rfl (by kernel_rfl) (by kernel_rfl) (by kernel_rfl) (fun _ _ _ h => h) (Or.inl ⟨by rfl, ?_⟩) (by assumption) ?_
  rotate_left
  · simp only [List.getElem_toArray, List.getElem_cons_zero, List.getElem_cons_succ]; intro W hSw; (try dsimp only at hSw); go_simp; all_goals with_reducible rfl
  simp only [Act.put, List.getElem_toArray, List.getElem_cons_zero, List.getElem_cons_succ, List.setIfInBounds_toArray, List.set_cons_zero, List.set_cons_succ]
  refine wpAnyH_take (i := 5) (v := ?_) rfl (by kernel_rfl) (by kernel_rfl) (by kernel_rfl) (fun _ _ _ h => h) (Or.inl ⟨by rfl, ?_⟩) (by assumption) ?_
  rotate_left
  · simp only [List.getElem_toArray, List.getElem_cons_zero, List.getElem_cons_succ]; intro W hSw; (try dsimp only at hSw); go_simp; all_goals with_reducible rfl
  simp only [Act.put, List.getElem_toArray, List.getElem_cons_zero, List.getElem_cons_succ, List.setIfInBounds_toArray, List.set_cons_zero, List.set_cons_succ]
  refine wpAnyH_take (i := 6) (v := ?_) rfl (by kernel_rfl) (by kernel_rfl) (by kernel_rfl) (fun _ _ _ h => h) (Or.inl ⟨by rfl, ?_⟩) (by assumption) ?_
  rotate_left
  · simp only [List.getElem_toArray, List.getElem_cons_zero, List.getElem_cons_succ]; intro W hSw; (try dsimp only at hSw); go_simp; all_goals with_reducible rfl
  simp only [Act.put, List.getElem_toArray, List.getElem_cons_zero, List.getElem_cons_succ, List.setIfInBounds_toArray, List.set_cons_zero, List.set_cons_succ]
  refine wpAnyH_take (i := 7) (v := ?_) rfl (by kernel_rfl) (by kernel_rfl) (by kernel_rfl) (fun _ _ _ h => h) (Or.inl ⟨by rfl, ?_⟩) (by assumption) ?_
  rotate_left
  · simp only [List.getElem_toArray, List.getElem_cons_zero, List.getElem_cons_succ]; intro W hSw; (try dsimp only at hSw); go_simp; all_goals with_reducible rfl
  simp only [Act.put, List.getElem_toArray, List.getElem_cons_zero, List.getElem_cons_succ, List.setIfInBounds_toArray, List.set_cons_zero, List.set_cons_succ]
  refine wpAnyH_take (i := 8) (v := ?_) rfl (by kernel_rfl) (by kernel_rfl) (by kernel_rfl) (fun _ _ _ h => h) (Or.inl ⟨by rfl, ?_⟩) (by assumption) ?_
  rotate_left
  · simp only [List.getElem_toArray, List.getElem_cons_zero, List.getElem_cons_succ]; intro W hSw; (try dsimp only at hSw); go_simp; all_goals with_reducible rfl
  simp only [Act.put, List.getElem_toArray, List.getElem_cons_zero, List.getElem_cons_succ, List.setIfInBounds_toArray, List.set_cons_zero, List.set_cons_succ]
  refine wpAnyH_take (i := 9) (v := ?_) rfl (by kernel_rfl) (by kernel_rfl) (by kernel_rfl) (fun _ _ _ h => h) (Or.inl ⟨by rfl, ?_⟩) (by assumption) ?_
  rotate_left
  · simp only [List.getElem_toArray, List.getElem_cons_zero, List.getElem_cons_succ]; intro W hSw; (try dsimp only at hSw); go_simp; all_goals with_reducible rfl
  simp only [Act.put, List.getElem_toArray, List.getElem_cons_zero, List.getElem_cons_succ, List.setIfInBounds_toArray, List.set_cons_zero, List.set_cons_succ]
  refine wpAnyH_take (i := 11) (v := ?_) rfl (by kernel_rfl) (by kernel_rfl) (by kernel_rfl) (fun _ _ _ h => h) (Or.inl ⟨by rfl, ?_⟩) (by assumption) ?_
  rotate_left
  · simp only [List.getElem_toArray, List.getElem_cons_zero, List.getElem_cons_succ]
    intro W hSw
    refine exec_load_part 55 (.tmp 8) ?_ w'.heap.size 0 ?_ (vals (padded bs)) _ (row_cells hSw.2 (fun j u hu => by rw [Nat.zero_add]; exact hu)) Try.underlying55 rfl (sector_info _ HP.out.1)
    · rfl
    · rfl
  simp only [Act.put, List.getElem_toArray, List.getElem_cons_zero, List.getElem_cons_succ, List.setIfInBounds_toArray, List.set_cons_zero, List.set_cons_succ]
  refine wpAnyH_ready (rs := [10, 12]) (by kernel_rfl) (by simp) ?_
  refine AllReadyH.cons rfl (fun K hK => ?_) (AllReadyH.cons rfl (fun K hK => ?_) AllReadyH.nil)
  all_goals try simp only [List.getElem_toArray, List.getElem_cons_zero, List.getElem_cons_succ]
  · rw [if_pos]
    rotate_left
    · simp [Region.wanted]
    refine wp_value (v := V n) (w' := W3) (by simp [execOp, Act.eval, HL3.out, Result.andThen]) ?_
    refine hK.out _ _ hHeld (fun hHeld2 => ?_)
    clear hK K
    (try simp only [Act.put, List.getElem_toArray, List.getElem_cons_zero, List.getElem_cons_succ, List.setIfInBounds_toArray, List.set_cons_zero, List.set_cons_succ])
    refine wpAnyH_ready (rs := [12]) (by kernel_rfl) (by simp) ?_
    refine AllReadyH.cons rfl (fun K hK => ?_) AllReadyH.nil
    simp only [List.getElem_toArray, List.getElem_cons_zero, List.getElem_cons_succ]
    rw [if_pos]
    rotate_left
    · simp [Region.wanted]
    refine wp_value (v := .slice (some ⟨W3.heap.size, 0, none⟩) 1 1) (w' := (W3.alloc (.cells (vals (padded bs)).toArray 55))) (by simp [execOp, Act.eval, HBS.out, Result.andThen]) ?_
    refine hK.out _ _ HS4.out (fun hHeld3 => ?_)
    clear hK K
    (try simp only [Act.put, List.getElem_toArray, List.getElem_cons_zero, List.getElem_cons_succ, List.setIfInBounds_toArray, List.set_cons_zero, List.set_cons_succ])
    refine wpAnyH_ready (rs := [13]) (by kernel_rfl) (by simp) ?_
    refine AllReadyH.cons rfl (fun K hK => ?_) AllReadyH.nil
    simp only [List.getElem_toArray, List.getElem_cons_zero, List.getElem_cons_succ]
    rw [if_pos]
    rotate_left
    · simp [Region.wanted]
    refine wp_append_lies _ (.tmp 44) (.tmp 46) 91 rfl 0 55 i0 _ 64 64 Try.underlying91 hi hz0 hz1 hz2 (by simp [Value.cells]) (by omega) (V n) (d.cache n).length (vals (d.cache n).flatten) rfl HO4.out ⟨W3.heap.size, 0, none⟩ 1 1 (vals (padded bs)) rfl (by rw [vals_length, HP.out.1]) (new_cells rfl) vals_one (by omega) (by have := HK.out; unfold maxLen; omega) (by have := HK.out; omega) (Nat.zero_le _) _ rfl ?_
    intro g cap w5 hrow5 hgr5 hor5 hlt5
    refine hK.out _ _ (HS5.out w5 hgr5) (fun hHeld8 => ?_)
    clear hK K
    (try simp only [Act.put, List.getElem_toArray, List.getElem_cons_zero, List.getElem_cons_succ, List.setIfInBounds_toArray, List.set_cons_zero, List.set_cons_succ])
    refine wpAnyH_ready (rs := [14]) (by kernel_rfl) (by simp) ?_
    refine AllReadyH.cons rfl (fun K hK => ?_) AllReadyH.nil
    simp only [List.getElem_toArray, List.getElem_cons_zero, List.getElem_cons_succ]
    rw [if_pos]
    rotate_left
    · simp [Region.wanted]
    obtain ⟨w6, hrun6, hown6, hgr6⟩ := (HM4.out.kept hgr5 HNB.out).update (Maps.int_keyed Try.underlying3) Try.underlying57 (by unfold maxLen; omega) (keyOf_int_mk Try.underlying3 (WalkArith.wf_i64 (n := (n : Int)) (by omega))) (val := .slice (some ⟨g, 0, none⟩) ((d.cache n).length + 1) cap) (d := .held (.slice (some ⟨g, 0, none⟩) ((d.cache n).length + 1) cap)) (ps := []) rfl
    have HG := Lib.hid (Disk.appended HD.out hn HP.out hb0 hS hown hk1 hD hV H4.out hgr5 hrow5 (hor5.imp id (fun e => by have := hb3d.size; have := HSZ.out; omega)) hlt5 hgr6 hown6)
    have hS6 := HS6.out w5 w6 hgr5 hgr6
    refine wp_mapUpdate 57 (.tmp 37) (.tmp 38) (.tmp 47) rfl _ _ _ rfl rfl rfl hrun6 ?_
    refine hK.out _ _ hS6 (fun hHeld9 => ?_)
    clear hK K
    (try simp only [Act.put, List.getElem_toArray, List.getElem_cons_zero, List.getElem_cons_succ, List.setIfInBounds_toArray, List.set_cons_zero, List.set_cons_succ])
    refine wpAnyH_done (by kernel_rfl) ?_ _
    clear hrow5 hgr5 hrun6 hown6 hgr6 hor5 hlt5 hS6 hHeld8 hHeld9
    go_wp2
    go_ret
    exact ⟨rfl, HG.out⟩
  · rw [if_pos]
    rotate_left
    · simp [Region.wanted]
    refine wp_value (v := .slice (some ⟨W3.heap.size, 0, none⟩) 1 1) (w' := (W3.alloc (.cells (vals (padded bs)).toArray 55))) (by simp [execOp, Act.eval, HBS.out, Result.andThen]) ?_
    refine hK.out _ _ HS4.out (fun hHeld2 => ?_)
    clear hK K
    (try simp only [Act.put, List.getElem_toArray, List.getElem_cons_zero, List.getElem_cons_succ, List.setIfInBounds_toArray, List.set_cons_zero, List.set_cons_succ])
    refine wpAnyH_ready (rs := [10]) (by kernel_rfl) (by simp) ?_
    refine AllReadyH.cons rfl (fun K hK => ?_) AllReadyH.nil
    simp only [List.getElem_toArray, List.getElem_cons_zero, List.getElem_cons_succ]
    rw [if_pos]
    rotate_left
    · simp [Region.wanted]
    refine wp_value (v := V n) (w' := (W3.alloc (.cells (vals (padded bs)).toArray 55))) (by simp [execOp, Act.eval, HL4.out, Result.andThen]) ?_
    refine hK.out _ _ HS4.out (fun hHeld3 => ?_)
    clear hK K
    (try simp only [Act.put, List.getElem_toArray, List.getElem_cons_zero, List.getElem_cons_succ, List.setIfInBounds_toArray, List.set_cons_zero, List.set_cons_succ])
    refine wpAnyH_ready (rs := [13]) (by kernel_rfl) (by simp) ?_
    refine AllReadyH.cons rfl (fun K hK => ?_) AllReadyH.nil
    simp only [List.getElem_toArray, List.getElem_cons_zero, List.getElem_cons_succ]
    rw [if_pos]
    rotate_left
    · simp [Region.wanted]
    refine wp_append_lies _ (.tmp 44) (.tmp 46) 91 rfl 0 55 i0 _ 64 64 Try.underlying91 hi hz0 hz1 hz2 (by simp [Value.cells]) (by omega) (V n) (d.cache n).length (vals (d.cache n).flatten) rfl HO4.out ⟨W3.heap.size, 0, none⟩ 1 1 (vals (padded bs)) rfl (by rw [vals_length, HP.out.1]) (new_cells rfl) vals_one (by omega) (by have := HK.out; unfold maxLen; omega) (by have := HK.out; omega) (Nat.zero_le _) _ rfl ?_
    intro g cap w5 hrow5 hgr5 hor5 hlt5
    refine hK.out _ _ (HS5.out w5 hgr5) (fun hHeld8 => ?_)
    clear hK K
    (try simp only [Act.put, List.getElem_toArray, List.getElem_cons_zero, List.getElem_cons_succ, List.setIfInBounds_toArray, List.set_cons_zero, List.set_cons_succ])
    refine wpAnyH_ready (rs := [14]) (by kernel_rfl) (by simp) ?_
    refine AllReadyH.cons rfl (fun K hK => ?_) AllReadyH.nil
    simp only [List.getElem_toArray, List.getElem_cons_zero, List.getElem_cons_succ]
    rw [if_pos]
    rotate_left
    · simp [Region.wanted]
    obtain ⟨w6, hrun6, hown6, hgr6⟩ := (HM4.out.kept hgr5 HNB.out).update (Maps.int_keyed Try.underlying3) Try.underlying57 (by unfold maxLen; omega) (keyOf_int_mk Try.underlying3 (WalkArith.wf_i64 (n := (n : Int)) (by omega))) (val := .slice (some ⟨g, 0, none⟩) ((d.cache n).length + 1) cap) (d := .held (.slice (some ⟨g, 0, none⟩) ((d.cache n).length + 1) cap)) (ps := []) rfl
    have HG := Lib.hid (Disk.appended HD.out hn HP.out hb0 hS hown hk1 hD hV H4.out hgr5 hrow5 (hor5.imp id (fun e => by have := hb3d.size; have := HSZ.out; omega)) hlt5 hgr6 hown6)
    have hS6 := HS6.out w5 w6 hgr5 hgr6
    refine wp_mapUpdate 57 (.tmp 37) (.tmp 38) (.tmp 47) rfl _ _ _ rfl rfl rfl hrun6 ?_
    refine hK.out _ _ hS6 (fun hHeld9 => ?_)
    clear hK K
    (try simp only [Act.put, List.getElem_toArray, List.getElem_cons_zero, List.getElem_cons_succ, List.setIfInBounds_toArray, List.set_cons_zero, List.set_cons_succ])
    refine wpAnyH_done (by kernel_rfl) ?_ _
    clear hrow5 hgr5 hrun6 hown6 hgr6 hor5 hlt5 hS6 hHeld8 hHeld9
    go_wp2
    go_ret
    exact ⟨rfl, HG.out⟩

set_option maxHeartbeats 1000000 in
theorem write_first {w : World} {S : Nat → Prop} {a : Nat} {d : Dk} (h : Disk w S a d) (hd : d.down = false) {n : Nat} (hn : n < 34) {A : Option Addr} {bs : List Nat} {c : Nat} (hA : By w w.heap.size A bs) (hl : bs.length ≤ 64)
    (hcm : w.cell? ⟨a, 2176, none⟩ = some (.map none)) :
    Calls Try.prog 19 #[.pointer (some ⟨a, 0, none⟩), .int .i64 (n : Int), .slice A bs.length c] w fun e w' => e = .returned (.int .i64 0) ∧ Goes w w' S a (d.write n bs) := by
  have HR := Lib.hid (refuses_any h)
  rw [hd] at HR
  have HN := Lib.hid (sector_any (n : Int) w)
  rw [decide_eq_true (by omega)] at HN
  have hl2 : ¬ (bs.length : Int) > 64 := by omega
  have hq := fun w => run_eql_map_nil_sl (P := Try.prog) w 57 _ _ none Try.underlying57
  have hmm := @run_makeMap Try.prog
  obtain ⟨m, hb0, hc0, _, hfr, hm⟩ := h.cells
  rw [hcm] at hc0
  cases hc0
  have h0 : ∀ n, n < 34 → d.cache n = [] := by
    rcases hm with ⟨_, h0⟩ | ⟨_, _, e, _⟩
    · exact h0
    · cases e
  have hlt0 := h.lt
  have hca : (w.alloc (.map #[] 0)).cell? ⟨a, 2176, none⟩ = some (.map none) := (World.cell?_of_block (w := w) (heap_alloc_old' w _ a hlt0)).trans hcm
  have hfa : (w.alloc (.map #[] 0)).frozen? ⟨a, 2176, none⟩ = false := (World.frozen?_of_block (w := w) (heap_alloc_old' w _ a hlt0)).trans (hfr 2176)
  obtain ⟨hmade, hcm1, hkept⟩ := Disk.made h hb0 h0
  have hbs : (Below w.heap.size w (w.alloc (.map #[] 0))) := (Below.refl _ w).alloc (Nat.le_refl _) _
  obtain ⟨W1, hW1⟩ : ∃ W1, W1 = (w.alloc (.map #[] 0)).setCell ⟨a, 2176, none⟩ (.map (some w.heap.size)) := ⟨_, rfl⟩
  rw [← hW1] at hmade hcm1 hkept
  have HW1 := Lib.hid (show W1 = (w.setCell ⟨a, 2176, none⟩ (.map (some w.heap.size))).alloc (.map #[] 0) by rw [hW1, World.setCell_alloc_past _ _ _ _ hlt0])
  have HA1 : By W1 W1.heap.size A bs := by
    have h1 := hA.below hbs (Nat.le_refl _)
    refine ⟨h1.1, fun hn' => ?_⟩
    obtain ⟨g, off, e, hg, hcell⟩ := h1.2 hn'
    refine ⟨g, off, e, Nat.lt_of_lt_of_le hg hkept.size, fun j hj => ?_⟩
    rw [hW1, cell_set_other _ _ _ _ _ _ (fun e2 => ?_)]
    · exact hcell j hj
    · have h3 := hcell j hj
      rw [e2.1, e2.2, hca] at h3
      cases h3
  have HTr := Lib.hid (show ∀ w6 d', Goes W1 w6 (fun k => S k ∨ k = w.heap.size) a d' → Goes w w6 S a d' from fun w6 d' ⟨S', hd', hk', hs'⟩ => ⟨S', hd', hkept.trans hk' (fun i hi hS' => by
      rcases hS' with h1 | h1
      · exact h1
      · omega), fun k hk => by
      rcases hs' k hk with h1 | h1
      · rcases h1 with h2 | h2
        · exact Or.inl h2
        · exact Or.inr (by omega)
      · exact Or.inr (Nat.le_trans hkept.size h1)⟩)
  have hk : (d.cache n).length ≤ 1000000000 := by rw [h0 n hn]; simp
  have hlt := hmade.lt
  have hsz1 := hkept.size
  obtain ⟨Z, hZ, hz⟩ : ∃ Z : List Value, (Try.prog.info? 55).map (·.zero) = some (some (.agg Z.toArray)) ∧ Z = vals (List.replicate 64 0) := ⟨_, sector_zero, rfl⟩
  have HZ := Lib.hid hZ
  have HD := Lib.hid hmade
  have HA := Lib.hid HA1
  have H0 := Lib.hid (heap_alloc_new W1 (.cells Z.toArray 55))
  have B0 := Lib.hid ((Below.refl W1.heap.size W1).alloc (Nat.le_refl _) (.cells Z.toArray 55))
  have A0 := Lib.hid (HA1.below B0.out (Nat.le_refl _)).src
  have HC := Lib.hid (show splice Z 0 (vals bs) = vals (padded bs) by rw [hz]; exact padded_splice hl)
  have HP := Lib.hid (padded_sec hl hA.1)
  have HL := Lib.hid (show (vals bs).length ≤ Z.length by rw [hz, vals_length, vals_length]; simp; omega)
  have HK := Lib.hid hk
  have n1 := vals_length bs
  clear h hd hZ hA hz hk hm hb0 hfr hbs HA1 hkept hmade hW1
  go_enter Try.func19, Try.ntmps19
  go_wp2_with fail
  refine HR.out.mono ?_
  rintro e w' ⟨rfl, rfl⟩
  go_wp2_with fail
  refine HN.out.mono ?_
  rintro e w' ⟨rfl, rfl⟩
  go_wp2_with (first
    | (rw [← HW1.out]; refine wpList_alloc_any rfl 55 rfl Z.toArray HZ.out ?_)
    | (with_reducible refine wpList_copy_splice rfl (.tmp 31) (.tmp 32) 44 44 rfl 5 Try.underlying44 size_u8 _ _ _ _ _ _ rfl rfl W1.heap.size 0 Z 55 H0.out (vals bs) (by rw [n1]; exact (Nat.min_eq_left hl).symm) (fun h => ⟨rfl, A0.out h⟩) (by have := HL.out; omega) vals_one W1.heap.size _ B0.out (Nat.le_refl _) ?_; intro w3 hg3 hb3; rw [HC.out] at hg3; replace hb3 := Lib.hid hb3))
  obtain ⟨i0, hi, hz0, hz1, hz2⟩ := info_parts Try.info55
  generalize hbw : w'.heap.size = b at hcm1 HW1
  obtain ⟨m, hb0, hc0, _, _, hm⟩ := HD.out.cells
  rw [hcm1] at hc0
  cases hc0
  rcases hm with ⟨e, _⟩ | ⟨b', V, e, hS, hM, hV⟩
  · cases e
  cases e
  have hM0 := hM
  obtain ⟨D, hown, hk1, hD⟩ := hM
  have hb3d : Below W1.heap.size W1 w3.drew := hb3.out.drew
  have hg3d : w3.drew.heap[W1.heap.size]? = some (.cells (vals (padded bs)).toArray 55 (0, 0)) := hg3.out
  refine wp_region_held_drew (S := fun W => W.cell? ⟨a, 2176, none⟩ = some (.map (some b)) ∧ W.heap[W1.heap.size]? = some (.cells (vals (padded bs)).toArray 55 (0, 0))) (by kernel_rfl) ⟨(hb3d.cell HD.out.lt).trans hcm1, hg3d⟩ (fun hHeld => ?_)
  generalize w3.drew = W3 at hb3d hg3d hHeld ⊢
  have HL3 := Lib.hid ((hM0.keep (hb3d.block b (HD.out.old b hS))).look hn)
  have HBS := Lib.hid (run_buildSlice_one (P := Try.prog) W3 91 55 i0 _ 64 Try.underlying91 hi hz0 hz1 (by omega) (by omega) (vals (padded bs)) (by rw [vals_length, HP.out.1]))
  have H4 := Lib.hid (hb3d.alloc hb3d.size (.cells (vals (padded bs)).toArray 55))
  have HL4 := Lib.hid ((hM0.keep (H4.out.block b (HD.out.old b hS))).look hn)
  have HO4 := Lib.hid (owns_keep (hV.own n hn) fun g hg => H4.out.block g (HD.out.old g (hV.mine n g hn hg)))
  have HM4 := Lib.hid (hown.kept (below_grown H4.out) (by simp))
  have HNB := Lib.hid (show some b ≠ (V n).ownBlock from fun e => hV.ne_map hM0 hn e.symm rfl)
  have HSZ := Lib.hid (show (W3.alloc (.cells (vals (padded bs)).toArray 55)).heap.size = W3.heap.size + 1 by simp)
  have HS4 := Lib.hid (show (W3.alloc (.cells (vals (padded bs)).toArray 55)).cell? ⟨a, 2176, none⟩ = some (.map (some b)) ∧ (W3.alloc (.cells (vals (padded bs)).toArray 55)).heap[W1.heap.size]? = some (.cells (vals (padded bs)).toArray 55 (0, 0)) from
    ⟨(H4.out.cell HD.out.lt).trans hcm1, (heap_alloc_old' _ _ _ (lt_of_heap hg3d)).trans hg3d⟩)
  have HNA := Lib.hid (show some a ≠ (V n).ownBlock from fun e => hV.ne_disk hb0 hn e.symm rfl)
  have HNL := Lib.hid (show some W1.heap.size ≠ (V n).ownBlock from fun e => by have := HD.out.old _ (hV.mine n _ hn e.symm); omega)
  have HNM := Lib.hid (show a ≠ b ∧ W1.heap.size ≠ b from ⟨fun e => hM0.ne_cells hb0 e.symm, fun e => by have := HD.out.old b hS; omega⟩)
  have HLT := Lib.hid (show a < (W3.alloc (.cells (vals (padded bs)).toArray 55)).heap.size ∧ W1.heap.size < (W3.alloc (.cells (vals (padded bs)).toArray 55)).heap.size from by
    have := HD.out.lt
    have h2 := hb3d.size
    rw [HSZ.out]; omega)
  have HS5 := Lib.hid (show ∀ w5, (W3.alloc (.cells (vals (padded bs)).toArray 55)).grownBy w5 (V n).ownBlock → w5.cell? ⟨a, 2176, none⟩ = some (.map (some b)) ∧ w5.heap[W1.heap.size]? = some (.cells (vals (padded bs)).toArray 55 (0, 0)) from fun w5 h =>
    ⟨(World.cell?_of_block (w := W3.alloc (.cells (vals (padded bs)).toArray 55)) (h.block a HLT.out.1 HNA.out)).trans HS4.out.1, (h.block _ HLT.out.2 HNL.out).trans HS4.out.2⟩)
  have HS6 := Lib.hid (show ∀ w5 w6, (W3.alloc (.cells (vals (padded bs)).toArray 55)).grownBy w5 (V n).ownBlock → w5.grownBy w6 (some b) → w6.cell? ⟨a, 2176, none⟩ = some (.map (some b)) ∧ w6.heap[W1.heap.size]? = some (.cells (vals (padded bs)).toArray 55 (0, 0)) from fun w5 w6 h h' =>
    ⟨(World.cell?_of_block (w := w5) (h'.block a (Nat.lt_of_lt_of_le HLT.out.1 h.size) (fun e => HNM.out.1 (by cases e; rfl)))).trans (HS5.out w5 h).1, (h'.block _ (Nat.lt_of_lt_of_le HLT.out.2 h.size) (fun e => HNM.out.2 (by cases e; rfl))).trans (HS5.out w5 h).2⟩)
  simp only [Act.put, List.setIfInBounds_toArray, List.set_cons_succ, List.set_cons_zero]
  refine wpAnyH_take (i := 0) (v := ?_) rfl (by kernel_rfl) (by kernel_rfl) (by kernel_rfl) (fun _ _ _ h => h) (Or.inl ⟨by rfl, ?_⟩) (by assumption) ?_
  rotate_left
  · simp only [List.getElem_toArray, List.getElem_cons_zero, List.getElem_cons_succ]; intro W hSw; (try dsimp only at hSw); go_simp; all_goals with_reducible rfl
  simp only [Act.put, List.getElem_toArray, List.getElem_cons_zero, List.getElem_cons_succ, List.setIfInBounds_toArray, List.set_cons_zero, List.set_cons_succ]
  refine wpAnyH_take (i := 1) (v := ?_) rfl (by kernel_rfl) (by kernel_rfl) (by kernel_rfl) (fun _ _ _ h => h) (Or.inl ⟨by rfl, ?_⟩) (by assumption) ?_
  rotate_left
  · simp only [List.getElem_toArray, List.getElem_cons_zero, List.getElem_cons_succ]; intro W hSw; (try dsimp only at hSw); go_simp; all_goals with_reducible rfl
  simp only [Act.put, List.getElem_toArray, List.getElem_cons_zero, List.getElem_cons_succ, List.setIfInBounds_toArray, List.set_cons_zero, List.set_cons_succ]
  refine wpAnyH_take (i := 2) (v := ?_) rfl (by kernel_rfl) (by kernel_rfl) (by kernel_rfl) (fun _ _ _ h => h) (Or.inl ⟨by rfl, ?_⟩) (by assumption) ?_
  rotate_left
  · simp only [List.getElem_toArray, List.getElem_cons_zero, List.getElem_cons_succ]; intro W hSw; (try dsimp only at hSw); go_simp; all_goals with_reducible rfl
  simp only [Act.put, List.getElem_toArray, List.getElem_cons_zero, List.getElem_cons_succ, List.setIfInBounds_toArray, List.set_cons_zero, List.set_cons_succ]
  refine wpAnyH_take (i := 3) (v := ?_) rfl (by kernel_rfl) (by kernel_rfl) (by kernel_rfl) (fun _ _ _ h => h) (Or.inl ⟨by rfl, ?_⟩) (by assumption) ?_
  rotate_left
  · simp only [List.getElem_toArray, List.getElem_cons_zero, List.getElem_cons_succ]; intro W hSw; (try dsimp only at hSw); go_simp; all_goals with_reducible rfl
  simp only [Act.put, List.getElem_toArray, List.getElem_cons_zero, List.getElem_cons_succ, List.setIfInBounds_toArray, List.set_cons_zero, List.set_cons_succ]
  refine wpAnyH_take (i := 4) (v := ?_) rfl (by kernel_rfl) (by kernel_rfl) (by kernel_rfl) (fun _ _ _ h => h) (Or.inl ⟨by rfl, ?_⟩) (by assumption) ?_
  rotate_left
  · simp only [List.getElem_toArray, List.getElem_cons_zero, List.getElem_cons_succ]; intro W hSw; (try dsimp only at hSw); go_simp; all_goals with_reducible rfl
  simp only [Act.put, List.getElem_toArray, List.getElem_cons_zero, List.getElem_cons_succ, List.setIfInBounds_toArray, List.set_cons_zero, List.set_cons_succ]
  refine wpAnyH_take (i := 5) (v := ?_) rfl (by kernel_rfl) (by kernel_rfl) (by kernel_rfl) (fun _ _ _ h => h) (Or.inl ⟨by rfl, ?_⟩) (by assumption) ?_
  rotate_left
  · simp only [List.getElem_toArray, List.getElem_cons_zero, List.getElem_cons_succ]; intro W hSw; (try dsimp only at hSw); go_simp; all_goals with_reducible rfl
  simp only [Act.put, List.getElem_toArray, List.getElem_cons_zero, List.getElem_cons_succ, List.setIfInBounds_toArray, List.set_cons_zero, List.set_cons_succ]
  refine wpAnyH_take (i := 6) (v := ?_) rfl (by kernel_rfl) (by kernel_rfl) (by kernel_rfl) (fun _ _ _ h => h) (Or.inl ⟨by rfl, ?_⟩) (by assumption) ?_
  rotate_left
  · simp only [List.getElem_toArray, List.getElem_cons_zero, List.getElem_cons_succ]; intro W hSw; (try dsimp only at hSw); go_simp; all_goals with_reducible rfl
  simp only [Act.put, List.getElem_toArray, List.getElem_cons_zero, List.getElem_cons_succ, List.setIfInBounds_toArray, List.set_cons_zero, List.set_cons_succ]
  refine wpAnyH_take (i := 7) (v := ?_) rfl (by kernel_rfl) (by kernel_rfl) (by kernel_rfl) (fun _ _ _ h => h) (Or.inl ⟨by rfl, ?_⟩) (by assumption) ?_
  rotate_left
  · simp only [List.getElem_toArray, List.getElem_cons_zero, List.getElem_cons_succ]; intro W hSw; (try dsimp only at hSw); go_simp; all_goals with_reducible rfl
  simp only [Act.put, List.getElem_toArray, List.getElem_cons_zero, List.getElem_cons_succ, List.setIfInBounds_toArray, List.set_cons_zero, List.set_cons_succ]
  refine wpAnyH_take (i := 8) (v := ?_) rfl (by kernel_rfl) (by kernel_rfl) (by kernel_rfl) (fun _ _ _ h => h) (Or.inl ⟨by rfl, ?_⟩) (by assumption) ?_
  rotate_left
  · simp only [List.getElem_toArray, List.getElem_cons_zero, List.getElem_cons_succ]; intro W hSw; (try dsimp only at hSw); go_simp; all_goals with_reducible rfl
  simp only [Act.put, List.getElem_toArray, List.getElem_cons_zero, List.getElem_cons_succ, List.setIfInBounds_toArray, List.set_cons_zero, List.set_cons_succ]
  refine wpAnyH_take (i := 9) (v := ?_) rfl (by kernel_rfl) (by kernel_rfl) (by kernel_rfl) (fun _ _ _ h => h) (Or.inl ⟨by rfl, ?_⟩) (by assumption) ?_
  rotate_left
  · simp only [List.getElem_toArray, List.getElem_cons_zero, List.getElem_cons_succ]; intro W hSw; (try dsimp only at hSw); go_simp; all_goals with_reducible rfl
  simp only [Act.put, List.getElem_toArray, List.getElem_cons_zero, List.getElem_cons_succ, List.setIfInBounds_toArray, List.set_cons_zero, List.set_cons_succ]
  refine wpAnyH_take (i := 11) (v := ?_) rfl (by kernel_rfl) (by kernel_rfl) (by kernel_rfl) (fun _ _ _ h => h) (Or.inl ⟨by rfl, ?_⟩) (by assumption) ?_
  rotate_left
  · simp only [List.getElem_toArray, List.getElem_cons_zero, List.getElem_cons_succ]
    intro W hSw
    refine exec_load_part 55 (.tmp 8) ?_ W1.heap.size 0 ?_ (vals (padded bs)) _ (row_cells hSw.2 (fun j u hu => by rw [Nat.zero_add]; exact hu)) Try.underlying55 rfl (sector_info _ HP.out.1)
    · rfl
    · rfl
  simp only [Act.put, List.getElem_toArray, List.getElem_cons_zero, List.getElem_cons_succ, List.setIfInBounds_toArray, List.set_cons_zero, List.set_cons_succ]
  refine wpAnyH_ready (rs := [10, 12]) (by kernel_rfl) (by simp) ?_
  refine AllReadyH.cons rfl (fun K hK => ?_) (AllReadyH.cons rfl (fun K hK => ?_) AllReadyH.nil)
  all_goals try simp only [List.getElem_toArray, List.getElem_cons_zero, List.getElem_cons_succ]
  · rw [if_pos]
    rotate_left
    · simp [Region.wanted]
    refine wp_value (v := V n) (w' := W3) (by simp [execOp, Act.eval, HL3.out, Result.andThen]) ?_
    refine hK.out _ _ hHeld (fun hHeld2 => ?_)
    clear hK K
    (try simp only [Act.put, List.getElem_toArray, List.getElem_cons_zero, List.getElem_cons_succ, List.setIfInBounds_toArray, List.set_cons_zero, List.set_cons_succ])
    refine wpAnyH_ready (rs := [12]) (by kernel_rfl) (by simp) ?_
    refine AllReadyH.cons rfl (fun K hK => ?_) AllReadyH.nil
    simp only [List.getElem_toArray, List.getElem_cons_zero, List.getElem_cons_succ]
    rw [if_pos]
    rotate_left
    · simp [Region.wanted]
    refine wp_value (v := .slice (some ⟨W3.heap.size, 0, none⟩) 1 1) (w' := (W3.alloc (.cells (vals (padded bs)).toArray 55))) (by simp [execOp, Act.eval, HBS.out, Result.andThen]) ?_
    refine hK.out _ _ HS4.out (fun hHeld3 => ?_)
    clear hK K
    (try simp only [Act.put, List.getElem_toArray, List.getElem_cons_zero, List.getElem_cons_succ, List.setIfInBounds_toArray, List.set_cons_zero, List.set_cons_succ])
    refine wpAnyH_ready (rs := [13]) (by kernel_rfl) (by simp) ?_
    refine AllReadyH.cons rfl (fun K hK => ?_) AllReadyH.nil
    simp only [List.getElem_toArray, List.getElem_cons_zero, List.getElem_cons_succ]
    rw [if_pos]
    rotate_left
    · simp [Region.wanted]
    refine wp_append_lies _ (.tmp 44) (.tmp 46) 91 rfl 0 55 i0 _ 64 64 Try.underlying91 hi hz0 hz1 hz2 (by simp [Value.cells]) (by omega) (V n) (d.cache n).length (vals (d.cache n).flatten) rfl HO4.out ⟨W3.heap.size, 0, none⟩ 1 1 (vals (padded bs)) rfl (by rw [vals_length, HP.out.1]) (new_cells rfl) vals_one (by omega) (by have := HK.out; unfold maxLen; omega) (by have := HK.out; omega) (Nat.zero_le _) _ rfl ?_
    intro g cap w5 hrow5 hgr5 hor5 hlt5
    refine hK.out _ _ (HS5.out w5 hgr5) (fun hHeld8 => ?_)
    clear hK K
    (try simp only [Act.put, List.getElem_toArray, List.getElem_cons_zero, List.getElem_cons_succ, List.setIfInBounds_toArray, List.set_cons_zero, List.set_cons_succ])
    refine wpAnyH_ready (rs := [14]) (by kernel_rfl) (by simp) ?_
    refine AllReadyH.cons rfl (fun K hK => ?_) AllReadyH.nil
    simp only [List.getElem_toArray, List.getElem_cons_zero, List.getElem_cons_succ]
    rw [if_pos]
    rotate_left
    · simp [Region.wanted]
    obtain ⟨w6, hrun6, hown6, hgr6⟩ := (HM4.out.kept hgr5 HNB.out).update (Maps.int_keyed Try.underlying3) Try.underlying57 (by unfold maxLen; omega) (keyOf_int_mk Try.underlying3 (WalkArith.wf_i64 (n := (n : Int)) (by omega))) (val := .slice (some ⟨g, 0, none⟩) ((d.cache n).length + 1) cap) (d := .held (.slice (some ⟨g, 0, none⟩) ((d.cache n).length + 1) cap)) (ps := []) rfl
    have HG := Lib.hid (HTr.out _ _ <| Disk.appended HD.out hn HP.out hb0 hS hown hk1 hD hV H4.out hgr5 hrow5 (hor5.imp id (fun e => by have := hb3d.size; have := HSZ.out; omega)) hlt5 hgr6 hown6)
    have hS6 := HS6.out w5 w6 hgr5 hgr6
    refine wp_mapUpdate 57 (.tmp 37) (.tmp 38) (.tmp 47) rfl _ _ _ rfl rfl rfl hrun6 ?_
    refine hK.out _ _ hS6 (fun hHeld9 => ?_)
    clear hK K
    (try simp only [Act.put, List.getElem_toArray, List.getElem_cons_zero, List.getElem_cons_succ, List.setIfInBounds_toArray, List.set_cons_zero, List.set_cons_succ])
    refine wpAnyH_done (by kernel_rfl) ?_ _
    clear hrow5 hgr5 hrun6 hown6 hgr6 hor5 hlt5 hS6 hHeld8 hHeld9
    go_wp2
    go_ret
    exact ⟨rfl, HG.out⟩
  · rw [if_pos]
    rotate_left
    · simp [Region.wanted]
    refine wp_value (v := .slice (some ⟨W3.heap.size, 0, none⟩) 1 1) (w' := (W3.alloc (.cells (vals (padded bs)).toArray 55))) (by simp [execOp, Act.eval, HBS.out, Result.andThen]) ?_
    refine hK.out _ _ HS4.out (fun hHeld2 => ?_)
    clear hK K
    (try simp only [Act.put, List.getElem_toArray, List.getElem_cons_zero, List.getElem_cons_succ, List.setIfInBounds_toArray, List.set_cons_zero, List.set_cons_succ])
    refine wpAnyH_ready (rs := [10]) (by kernel_rfl) (by simp) ?_
    refine AllReadyH.cons rfl (fun K hK => ?_) AllReadyH.nil
    simp only [List.getElem_toArray, List.getElem_cons_zero, List.getElem_cons_succ]
    rw [if_pos]
    rotate_left
    · simp [Region.wanted]
    refine wp_value (v := V n) (w' := (W3.alloc (.cells (vals (padded bs)).toArray 55))) (by simp [execOp, Act.eval, HL4.out, Result.andThen]) ?_
    refine hK.out _ _ HS4.out (fun hHeld3 => ?_)
    clear hK K
    (try simp only [Act.put, List.getElem_toArray, List.getElem_cons_zero, List.getElem_cons_succ, List.setIfInBounds_toArray, List.set_cons_zero, List.set_cons_succ])
    refine wpAnyH_ready (rs := [13]) (by kernel_rfl) (by simp) ?_
    refine AllReadyH.cons rfl (fun K hK => ?_) AllReadyH.nil
    simp only [List.getElem_toArray, List.getElem_cons_zero, List.getElem_cons_succ]
    rw [if_pos]
    rotate_left
    · simp [Region.wanted]
    refine wp_append_lies _ (.tmp 44) (.tmp 46) 91 rfl 0 55 i0 _ 64 64 Try.underlying91 hi hz0 hz1 hz2 (by simp [Value.cells]) (by omega) (V n) (d.cache n).length (vals (d.cache n).flatten) rfl HO4.out ⟨W3.heap.size, 0, none⟩ 1 1 (vals (padded bs)) rfl (by rw [vals_length, HP.out.1]) (new_cells rfl) vals_one (by omega) (by have := HK.out; unfold maxLen; omega) (by have := HK.out; omega) (Nat.zero_le _) _ rfl ?_
    intro g cap w5 hrow5 hgr5 hor5 hlt5
    refine hK.out _ _ (HS5.out w5 hgr5) (fun hHeld8 => ?_)
    clear hK K
    (try simp only [Act.put, List.getElem_toArray, List.getElem_cons_zero, List.getElem_cons_succ, List.setIfInBounds_toArray, List.set_cons_zero, List.set_cons_succ])
    refine wpAnyH_ready (rs := [14]) (by kernel_rfl) (by simp) ?_
    refine AllReadyH.cons rfl (fun K hK => ?_) AllReadyH.nil
    simp only [List.getElem_toArray, List.getElem_cons_zero, List.getElem_cons_succ]
    rw [if_pos]
    rotate_left
    · simp [Region.wanted]
    obtain ⟨w6, hrun6, hown6, hgr6⟩ := (HM4.out.kept hgr5 HNB.out).update (Maps.int_keyed Try.underlying3) Try.underlying57 (by unfold maxLen; omega) (keyOf_int_mk Try.underlying3 (WalkArith.wf_i64 (n := (n : Int)) (by omega))) (val := .slice (some ⟨g, 0, none⟩) ((d.cache n).length + 1) cap) (d := .held (.slice (some ⟨g, 0, none⟩) ((d.cache n).length + 1) cap)) (ps := []) rfl
    have HG := Lib.hid (HTr.out _ _ <| Disk.appended HD.out hn HP.out hb0 hS hown hk1 hD hV H4.out hgr5 hrow5 (hor5.imp id (fun e => by have := hb3d.size; have := HSZ.out; omega)) hlt5 hgr6 hown6)
    have hS6 := HS6.out w5 w6 hgr5 hgr6
    refine wp_mapUpdate 57 (.tmp 37) (.tmp 38) (.tmp 47) rfl _ _ _ rfl rfl rfl hrun6 ?_
    refine hK.out _ _ hS6 (fun hHeld9 => ?_)
    clear hK K
    (try simp only [Act.put, List.getElem_toArray, List.getElem_cons_zero, List.getElem_cons_succ, List.setIfInBounds_toArray, List.set_cons_zero, List.set_cons_succ])
    refine wpAnyH_done (by kernel_rfl) ?_ _
    clear hrow5 hgr5 hrun6 hown6 hgr6 hor5 hlt5 hS6 hHeld8 hHeld9
    go_wp2
    go_ret
    exact ⟨rfl, HG.out⟩

theorem write_ok {w : World} {S : Nat → Prop} {a : Nat} {d : Dk} (h : Disk w S a d) (hd : d.down = false) {n : Nat} (hn : n < 34) {A : Option Addr} {bs : List Nat} {c : Nat} (hA : By w w.heap.size A bs) (hl : bs.length ≤ 64) (hk : (d.cache n).length ≤ 1000000000) :
    Calls Try.prog 19 #[.pointer (some ⟨a, 0, none⟩), .int .i64 (n : Int), .slice A bs.length c] w fun e w' => e = .returned (.int .i64 0) ∧ Goes w w' S a (d.write n bs) := by
  obtain ⟨m, _, hc, _, _, _⟩ := h.cells
  cases m with
  | none => exact write_first h hd hn hA hl hc
  | some b => exact write_go h hd hn hA hl hk hc
/-- what Write answers -/
def Dk.wcode (d : Dk) (z : Int) (l : Nat) : Int := if d.down then 30 else if 0 ≤ z ∧ z < 34 ∧ l ≤ 64 then 0 else 2
/-- what Write does -/
def Dk.wrote (d : Dk) (z : Int) (bs : List Nat) : Dk := if d.wcode z bs.length = 0 then d.write z.toNat bs else d
theorem write_any {w : World} {S : Nat → Prop} {a : Nat} {d : Dk} (h : Disk w S a d) (z : Int) {A : Option Addr} {bs : List Nat} {c : Nat} (hA : By w w.heap.size A bs) (hl : bs.length ≤ maxLen) (hk : ∀ n, n < 34 → (d.cache n).length ≤ 1000000000) :
    Calls Try.prog 19 #[.pointer (some ⟨a, 0, none⟩), .int .i64 z, .slice A bs.length c] w fun e w' => e = .returned (.int .i64 (d.wcode z bs.length)) ∧ Goes w w' S a (d.wrote z bs) := by
  unfold Dk.wrote Dk.wcode
  cases hd : d.down with
  | true =>
    refine (write_down h hd z A bs.length c).mono ?_
    rintro e w' ⟨rfl, rfl⟩
    exact ⟨rfl, Goes.same h (Below.refl _ _)⟩
  | false =>
    by_cases hz : 0 ≤ z ∧ z < 34 ∧ bs.length ≤ 64
    · obtain ⟨n, rfl⟩ : ∃ n : Nat, z = (n : Int) := ⟨z.toNat, by omega⟩
      refine (write_ok h hd (n := n) (by omega) hA hz.2.2 (hk n (by omega))).mono ?_
      rintro e w' ⟨rfl, hg⟩
      simpa [hz] using hg
    · refine (write_arg h hd z A bs.length c hl hz).mono ?_
      rintro e w' ⟨rfl, rfl⟩
      simpa [hz] using Goes.same h (Below.refl _ _)
end Go.Proofs.Ytgkbhdecohlpmaa.Dk
end

section
/-
  Copy: another disk, alike in all.
-/
namespace Go.Proofs.Ytgkbhdecohlpmaa.Dk
set_option maxRecDepth 100000
open Go.RowKit Go.Maps Go.MapKept Go.ChangeMaps

theorem heap_alloc_new' (w : World) (o : Obj) : (w.alloc o).heap[w.heap.size]? = some o := by
  show (w.heap.push o)[w.heap.size]? = some o
  simp
/-- what has been copied of the cache -/
def copied {H : Type} (D : DataW H) (left : Lit → Bool) (c : Nat → List (List Nat)) (n : Nat) : List (List Nat) := if Maps.has D (key n) && !left (key n) then c n else []
/-- Blocks of cells stay. -/
def CellsStay (w w' : World) : Prop := ∀ (k : Nat) (cs : Array Value) (t : TypeId) (fr : Nat × Nat), w.heap[k]? = some (Obj.cells cs t fr) → w'.heap[k]? = some (Obj.cells cs t fr)
theorem CellsStay.trans {a b c : World} (h : CellsStay a b) (k : CellsStay b c) : CellsStay a c := fun i cs t fr e => k i cs t fr (h i cs t fr e)
theorem CellsStay.of_below {w w' : World} (h : Below w.heap.size w w') : CellsStay w w' := fun k _ _ _ e => (h.block k (lt_of_heap e)).trans e
theorem CellsStay.of_grown {w w' : World} {b : Nat} {o : Obj} (h : w.grownBy w' (some b)) (hb : w.heap[b]? = some o) (ho : ∀ cs t fr, o ≠ .cells cs t fr) : CellsStay w w' := fun k cs t fr e =>
  (h.block k (lt_of_heap e) (fun e2 => by
    cases e2
    rw [hb] at e
    exact ho _ _ _ (Option.some.inj e))).trans e
theorem owns_stay {w w' : World} {base e size n : Nat} {v : Value} {xs : List Value} (h : w.ownsRow base e size v n xs) (hk : CellsStay w w') : w'.ownsRow base e size v n xs := by
  obtain ⟨h1, h2⟩ := h
  refine ⟨h1, ?_⟩
  rcases h2 with h2 | ⟨g, cap, cur, rfl, hg, hh, r⟩
  · exact Or.inl h2
  · exact Or.inr ⟨g, cap, cur, rfl, hg, hk _ _ _ _ hh, r⟩

/-- A disk that is being copied: the copy is at block a', its map b' has rows of its own where they have been copied. -/
structure Copying (wr : World) (a' b' : Nat) (d : Dk) (D : DataW Value) (left : Lit → Bool) (D' : DataW Value) (V' : Nat → Value) : Prop where
  own : wr.ownsMap Try.prog 3 held b' 34 D'
  has : ∀ kl, Maps.has D' kl = Maps.has D kl
  row : wr.heap[a']? = some (.cells (rowD d.dur (some b') d.down).toArray 59 (0, 0))
  new : ∀ n, n < 34 → (copied D left d.cache n ≠ [] → D'.atKey (key n) (.held nilS) = .held (V' n)) ∧ (copied D left d.cache n = [] → V' n = nilS)
  slots : Slots wr (fun k => a' ≤ k ∧ k < wr.heap.size) (copied D left d.cache) V'
theorem Copying.keep {wr w' : World} {a' b' : Nat} {d : Dk} {D : DataW Value} {left : Lit → Bool} {D' : DataW Value} {V' : Nat → Value} (h : Copying wr a' b' d D left D' V') (hs : CellsStay wr w') (hm : w'.heap[b']? = wr.heap[b']?) (hz : wr.heap.size ≤ w'.heap.size) : Copying w' a' b' d D left D' V' := by
  refine ⟨?_, h.has, hs _ _ _ _ h.row, h.new, ⟨fun n hn => owns_stay (h.slots.own n hn) hs, fun n g hn e => ?_, h.slots.apart⟩⟩
  · obtain ⟨es, clock, hb, r⟩ := h.own
    exact ⟨es, clock, hm.trans hb, r⟩
  · have := h.slots.mine n g hn e
    omega
theorem copied_other {H : Type} {D : DataW H} {left : Lit → Bool} {c : Nat → List (List Nat)} {n i : Nat} (h : i ≠ n) : copied D (fun z => left z && !z.sameKey (key n)) c i = copied D left c i := by
  simp [copied, sameKey_key, h]
theorem copied_same {H : Type} {D : DataW H} {left : Lit → Bool} {c : Nat → List (List Nat)} {n : Nat} (h : Maps.has D (key n) = true) : copied D (fun z => left z && !z.sameKey (key n)) c n = c n := by
  simp [copied, sameKey_key, h]
theorem copied_left {H : Type} {D : DataW H} {left : Lit → Bool} {c : Nat → List (List Nat)} {n : Nat} (hl : left (key n) = true) : copied D left c n = [] := by
  simp [copied, hl]
theorem Copying.step {w1 w2 w3 : World} {a' b' : Nat} {d : Dk} {D : DataW Value} {left : Lit → Bool} {D' : DataW Value} {V' : Nat → Value} (h : Copying w1 a' b' d D left D' V') {n : Nat} (hn : n < 34) (hh : Maps.has D (key n) = true) (hl : left (key n) = true) (hne : d.cache n ≠ [])
    (hk : ∀ kl, Maps.has D kl = true → ∃ n, n < 34 ∧ kl = key n) {v : Value} (hb : Below w1.heap.size w1 w2) (hrow : w2.ownsRow w1.heap.size 55 64 v (d.cache n).length (vals (d.cache n).flatten))
    (hg : w2.grownBy w3 (some b')) {N : Nat} (hown : w3.ownsMap Try.prog 3 held b' N (D'.put (key n) (.held v))) : Copying w3 a' b' d D (fun z => left z && !z.sameKey (key n)) (D'.put (key n) (.held v)) (upd V' n v) := by
  have hmap := h.own.isMap
  have hik : WideAt.IsKeyLit (key n) := trivial
  have hlb : b' < w1.heap.size := h.own.lt
  have hla : a' < w1.heap.size := lt_of_heap h.row
  obtain ⟨es, clock, hmb⟩ := World.ownsMap.at_ h.own
  have hs2 : CellsStay w1 w2 := CellsStay.of_below hb
  have hs3 : CellsStay w2 w3 := CellsStay.of_grown hg ((hb.block b' hlb).trans hmb) (fun _ _ _ e => by cases e)
  have hhas : ∀ kl, Maps.has (D'.put (key n) (.held v)) kl = Maps.has D kl := fun kl => by
    by_cases e : kl = key n
    · rw [e, has_put_same hmap hik, hh]
    · rw [has_put_other e, h.has]
  have hge : ∀ g, v.ownBlock = some g → w1.heap.size ≤ g ∧ g < w2.heap.size := fun g e => by
    rcases hrow.2 with ⟨e2, _⟩ | ⟨g', cap, cur, e2, hg', hh', _⟩
    · rw [e2] at e; cases e
    · rw [e2] at e
      obtain rfl : g' = g := by simpa [Value.ownBlock] using e
      exact ⟨hg', lt_of_heap hh'⟩
  have hz3 := hg.size
  refine ⟨own34 hown (fun kl hkl => hk kl (by rw [← hhas kl]; exact hkl)), hhas, hs3 _ _ _ _ (hs2 _ _ _ _ h.row), fun m hm => ?_, ⟨fun m hm => ?_, fun m g hm e => ?_, fun m m' g hm hm' hne' e => ?_⟩⟩
  · by_cases e : m = n
    · subst e
      rw [copied_same hh, upd_same, atKey_put_same hmap hik]
      exact ⟨fun _ => rfl, fun e => absurd e hne⟩
    · rw [copied_other e, upd_other _ _ e, atKey_put_other (fun h => e (key_inj h))]
      exact h.new m hm
  · by_cases e : m = n
    · subst e
      rw [copied_same hh, upd_same]
      exact owns_stay (own_mono hrow (Nat.zero_le _)) hs3
    · rw [copied_other e, upd_other _ _ e]
      exact owns_stay (owns_stay (h.slots.own m hm) hs2) hs3
  · by_cases e2 : m = n
    · subst e2
      rw [upd_same] at e
      have := hge g e
      omega
    · rw [upd_other _ _ e2] at e
      have := h.slots.mine m g hm e
      have := hb.size
      omega
  · by_cases e1 : m = n
    · subst e1
      rw [upd_same] at e
      rw [upd_other _ _ (fun h => hne' h.symm)]
      intro h2
      have := h.slots.mine m' g hm' h2
      have := hge g e
      omega
    · rw [upd_other _ _ e1] at e
      by_cases e2 : m' = n
      · subst e2
        rw [upd_same]
        intro h2
        have := h.slots.mine m g hm e
        have := hge g h2
        omega
      · rw [upd_other _ _ e2]
        exact h.slots.apart m m' g hm hm' hne' e
theorem Copying.done {wr : World} {a' b' : Nat} {d : Dk} {D : DataW Value} {left : Lit → Bool} {D' : DataW Value} {V' : Nat → Value} (h : Copying wr a' b' d D left D' V') (hl : ∀ kl, left kl = false) (ha : a' < wr.heap.size) (hb : a' ≤ b')
    (hk : ∀ kl, Maps.has D kl = true → ∃ n, n < 34 ∧ kl = key n) (hD : ∀ n, n < 34 → Maps.has D (key n) = !(d.cache n).isEmpty) (hsec : ∀ n, n < 34 → Sec (d.dur n)) (hput : ∀ n, n < 34 → ∀ b ∈ d.cache n, Sec b) : Disk wr (fun k => a' ≤ k ∧ k < wr.heap.size) a' d := by
  have hc : ∀ n, n < 34 → copied D left d.cache n = d.cache n := fun n hn => by
    unfold copied
    rw [hl, hD n hn]
    cases d.cache n <;> rfl
  refine ⟨⟨Nat.le_refl _, ha⟩, fun k hk => hk.2, hsec, hput, some b', h.row, Or.inr ⟨b', V', rfl, ⟨hb, h.own.lt⟩, ⟨D', h.own, fun kl hkl => hk kl (by rw [← h.has]; exact hkl), fun n hn => ⟨by rw [h.has, hD n hn], ?_⟩⟩, ⟨fun n hn => by rw [← hc n hn]; exact h.slots.own n hn, h.slots.mine, h.slots.apart⟩⟩⟩
  have h1 := h.new n hn
  by_cases e : copied D left d.cache n = []
  · rw [h1.2 e]
    refine atKey_of_not_has ?_ _
    rw [h.has, hD n hn, ← hc n hn, e]; rfl
  · exact h1.1 e

end Go.Proofs.Ytgkbhdecohlpmaa.Dk
end

section
/-
  A range over a function that keeps cells of its own: the body turns the blocks T alone, the function ranged over turns what it has made.
-/
namespace Go.Proofs.Ytgkbhdecohlpmaa.Dk
set_option maxRecDepth 100000
open Go.RowKit Go.Maps Go.MapKept Go.ChangeMaps

/-- What is said of a world stays true while blocks from B on turn. -/
def Lasts {α : Type} (B : Nat) (J : List α → World → Prop) : Prop := ∀ s A A' row, J s A → A.grownBy A' row → (∀ r, row = some r → B ≤ r) → J s A'
/-- The function that is ranged over: whatever holds between the rounds and lasts. -/
def Yields1 {α : Type} (F : Fence) (n : Nat) (P : Program) (g : Nat) (bd : Array Value) (encs : α → Array Value) (Ok : α → Prop) (T : Nat → Prop) (S : List α → Prop) (w : World) : Prop :=
  ∀ (l : Nat) (J : List α → World → Prop) (W : World), Below w.heap.size w W → l < W.heap.size → w.heap.size ≤ l → Lasts W.heap.size J →
    (∀ pre x W1, J pre W1 → Ok x → W.heap.size ≤ W1.heap.size → YieldAt F (n - 1) P l (encs x) W1 fun e W' => e = .returned (.bool true) ∧ J (pre ++ [x]) W' ∧ Kept (fun k => T k ∨ k = l) W1 W') →
    J [] W → CallsIn F n P g (bd ++ #[.func (.yield l) #[] #[]]) W fun e W' => (∃ v, e = .returned v) ∧ ∃ xs, S xs ∧ J xs W'

theorem kept_put {S : Nat → Prop} {W W' : World} {l : Nat} (o : Obj) (h : Kept S W W') (hl : S l) : Kept S W (W'.putObj l o) := h.grown (grownBy_putObj' W' l o) (fun k e _ => by cases e; exact hl)

variable {F : Fence} {n : Nat} {P : Program}
theorem range_rounds {α : Type} {g : Operand} {ps : Array Tmp} {assign body : Code} {Q : Exit → Act → World → Prop} {a : Act} {w : World}
    (hro : F.round = none) (h1 : 1 ≤ n) {gf : Nat} {bd : Array Value} (hg : a.eval g = .func (.func gf) bd #[]) (hFg : F.fn gf) (eg : ∀ args w, (callFunc gf args).run P w = .ok (.enter gf args) w)
    {encs : α → Array Value} {Ok : α → Prop} {T : Nat → Prop} {S : List α → Prop} (hT : ∀ k, T k → k < w.heap.size) (hseq : Yields1 F (n - 1) P gf bd encs Ok T S w) (hps : ∀ x, (encs x).size = ps.size)
    (I : List α → World → Prop) (hI : Lasts w.heap.size I) (h0 : I [] w)
    (hround : ∀ (pre : List α) (x : α) (W : World), w.heap.size + 1 < W.heap.size → I pre W → Ok x →
      assign.wpIn (F.inRound (w.heap.size + 1)) (n - 1 - 1) P (Exit.then (fun a1 W1 => Below W.heap.size W W1 ∧ ∀ W2, W1.grownBy W2 (some (w.heap.size + 1)) →
        body.wpIn (F.inRound (w.heap.size + 1)) (n - 1 - 1) P (fun e _ W' => e = .normal ∧ Kept T W2 W' ∧ I (pre ++ [x]) W') a1 W2) (fun _ _ _ => False))
        { tmps := (ps.zip (encs x)).foldl (fun t (p, v) => t.setIfInBounds p v) a.tmps, defers := [] } W)
    (hdone : ∀ (xs : List α) (W : World), S xs → I xs W → w.heap.size < W.heap.size → W.heap[w.heap.size]? = some (.deferred (some [])) → Q .normal { a with defers := { target := .collected w.heap.size, args := #[] } :: a.defers } W) :
    (Code.rangeFunc g ps assign body).wpIn F n P Q a w := by
  refine wpIn_rangeFunc fun fn hfn => ?_
  rw [hro]
  obtain ⟨rec, hrec⟩ : ∃ rec : LoopState → Option Code → Loop, rec = fun st pe => { state := st, pending := pe, fn, tmps := a.tmps, params := ps, assign, body, defers := w.heap.size } := ⟨_, rfl⟩
  obtain ⟨W1, hW1⟩ : ∃ W1, W1 = (w.alloc (.deferred (some []))).alloc (.loop (rec .ready none)) := ⟨_, rfl⟩
  have hs1 : W1.heap.size = w.heap.size + 2 := by rw [hW1]; simp
  have hL1 : W1.heap[w.heap.size + 1]? = some (.loop (rec .ready none)) := by
    rw [hW1]
    have h2 := World.alloc_heap_new (w.alloc (.deferred (some []))) (.loop (rec .ready none))
    rwa [World.size_alloc] at h2
  have hK1 : W1.heap[w.heap.size]? = some (.deferred (some [])) := by
    rw [hW1, Below.heap_alloc _ _ _ (by simp)]
    exact World.alloc_heap_new w _
  have hI1 : I [] W1 := by
    rw [hW1]
    exact hI _ _ _ none (hI _ _ _ none h0 (World.grownBy_alloc w _ none) (fun _ e => by cases e)) (World.grownBy_alloc _ _ none) (fun _ e => by cases e)
  have hb1 : Below w.heap.size w W1 := by rw [hW1]; exact ((Below.refl _ w).alloc (Nat.le_refl _) _).alloc (by simp) _
  refine ⟨w.heap.size + 1, [{ target := .collected w.heap.size, args := #[] }], W1, { target := .fn (.func gf) #[], args := bd ++ #[.func (.yield (w.heap.size + 1)) #[] #[]] }, W1, gf,
    bd ++ #[.func (.yield (w.heap.size + 1)) #[] #[]], W1, ?_, ?_, ?_, ?_, fun _ => h1, ?_⟩
  · rw [hW1, hrec]; exact run_enterLoop_outer _ _ _ _ _
  · simp only [resolve, hg]
    simp [go_sem]
  · intro f' hf'
    simp [Target.leads] at hf'
    subst hf'
    exact hFg
  · simp [invoke, go_sem, eg]
  · refine (hseq (w.heap.size + 1) (fun pre W => I pre W ∧ W.heap[w.heap.size + 1]? = some (.loop (rec .ready none)) ∧ W.heap[w.heap.size]? = some (.deferred (some []))) W1 hb1 (by omega) (by omega) ?_ ?_ ⟨hI1, hL1, hK1⟩).mono ?_
    · rintro s A A' row ⟨hi, hl, hk⟩ hg' hr
      refine ⟨hI s A A' row hi hg' (fun r e => by have := hr r e; omega), (hg'.block _ (Array.getElem?_eq_some_iff.1 hl).1 (fun e => by have := hr _ e.symm; omega)).trans hl, (hg'.block _ (Array.getElem?_eq_some_iff.1 hk).1 (fun e => by have := hr _ e.symm; omega)).trans hk⟩
    · rintro pre x W ⟨hi, hl, hk⟩ hok hWs
      have hlt : w.heap.size + 1 < W.heap.size := (Array.getElem?_eq_some_iff.1 hl).1
      have hy := run_yield (P := P) (args := encs x) hl (by rw [hrec]; exact hps x)
      rw [hrec] at hy
      refine ⟨fn, _, assign, body, hy, roundIn_of_wpIn hfn (wpIn_mono (hround pre x W hlt hi hok) ?_)⟩
      rintro e a1 Wa hpost
      cases e with
      | normal =>
        obtain ⟨hba, hbody⟩ := hpost
        have hla := (hba.block _ hlt).trans hl
        have hka := (hba.block _ (by omega)).trans hk
        refine ⟨_, run_beginRound hla (by rw [hrec]), wpIn_mono (hbody _ (grownBy_putObj' Wa _ _)) ?_⟩
        rintro e a3 W3 ⟨rfl, hk3, hi3⟩
        have hlta : w.heap.size + 1 < (Wa.putObj (w.heap.size + 1) (.loop { rec .ready none with state := .busy })).heap.size := by
          have := hba.size
          simp; omega
        have hl3 : W3.heap[w.heap.size + 1]? = some (.loop { rec .ready none with state := .busy }) :=
          (hk3.block _ hlta (fun e => by have := hT _ e; omega)).trans (World.putObj_heap_same (by have := hba.size; omega))
        have hd3 : W3.heap[w.heap.size]? = some (.deferred (some [])) :=
          (hk3.block _ (Nat.lt_trans (Nat.lt_succ_self _) hlta) (fun e => by have := hT _ e; omega)).trans ((World.putObj_heap_other (show w.heap.size ≠ w.heap.size + 1 by omega)).trans hka)
        have hlt3 := (Array.getElem?_eq_some_iff.1 hl3).1
        have hend := run_endRound (P := P) none hl3
        rw [hrec] at hend
        have hg3 := grownBy_putObj' W3 (w.heap.size + 1) (.loop (rec .ready none))
        refine ⟨_, _, hend, rfl, ⟨?_, ?_, ?_⟩, ?_⟩
        · exact hI _ _ _ _ hi3 (grownBy_putObj' W3 _ _) (fun r e => by cases e; omega)
        · rw [hrec]; exact World.putObj_heap_same hlt3
        · exact (World.putObj_heap_other (show w.heap.size ≠ w.heap.size + 1 by omega)).trans hd3
        · refine kept_put _ ?_ (Or.inr rfl)
          exact ((kept_put _ (Kept.of_below hba (Nat.le_refl _)) (Or.inr rfl) : Kept (fun k => T k ∨ k = w.heap.size + 1) W _)).trans hk3 (fun i _ hi => Or.inl hi)
      | exit id => exact hpost.elim
      | goto id => exact hpost.elim
      | ret => exact hpost.elim
      | panic c => exact hpost.elim
      | outgrown => exact hpost.elim
    · rintro e W2 ⟨⟨v, rfl⟩, xs, hS, hi, hl, hk⟩
      have hend := run_endLoop (P := P) hl (by rw [hrec]; simp)
      rw [hrec] at hend
      refine ⟨none, _, hend, hdone xs _ hS (hI _ _ _ _ hi (grownBy_putObj' W2 _ _) (fun r e => by cases e; omega)) ?_ ((World.putObj_heap_other (show w.heap.size ≠ w.heap.size + 1 by omega)).trans hk)⟩
      have := (Array.getElem?_eq_some_iff.1 hk).1
      simpa using this
end Go.Proofs.Ytgkbhdecohlpmaa.Dk
end

section
/-
  Within a round: a region that draws its order and makes no call is walked as everywhere; laws at operations of a fenced walk.
-/
namespace Go.Proofs.Ytgkbhdecohlpmaa.Dk
set_option maxRecDepth 100000
open Go.RowKit Go.Maps Go.MapKept Go.ChangeMaps

/-- operations that make no call -/
def plainOp (o : Oper) : Bool := match o.op with
  | .move _ | .assign _ | .load _ _ | .store _ _ _ | .nilCheck _ | .fieldAddr _ _ _ | .indexAddr _ _ _ | .alloc _ | .lookup _ _ _ _ => true
  | _ => false
def NoCall : Result Next → Prop
  | .ok (.value _) _ | .ok .skip _ | .halt _ _ => True
  | _ => False
theorem noCall_value {m : Sem Value} {P : Program} {w : World} : NoCall ((do pure (Next.value (← m)) : Sem Next).run P w) := by
  rw [Sem.run_bind]
  cases m.run P w <;> simp [Result.andThen, NoCall]
theorem noCall_skip {m : Sem Unit} {P : Program} {w : World} : NoCall ((do m; pure Next.skip : Sem Next).run P w) := by
  rw [Sem.run_bind]
  cases m.run P w <;> simp [Result.andThen, NoCall]
theorem noCall_bind {α : Type} {m : Sem α} {f : α → Sem Next} {P : Program} {w : World} (h : ∀ x w, NoCall ((f x).run P w)) : NoCall ((m >>= f).run P w) := by
  rw [Sem.run_bind]
  cases m.run P w with
  | ok x w' => exact h x w'
  | halt x w' => trivial
theorem noCall_pure {v : Value} {P : Program} {w : World} : NoCall ((pure (Next.value v) : Sem Next).run P w) := by
  rw [Sem.run_pure]; trivial
theorem noCall_panic {P : Program} {w : World} : NoCall ((runtimePanic RuntimeError.nilDeref : Sem Next).run P w) := by
  unfold runtimePanic
  exact noCall_bind fun _ _ => by simp [Sem.run, NoCall, throw, throwThe, MonadExceptOf.throw]
theorem noCall_plain {o : Oper} (h : plainOp o = true) (ρ : Operand → Value) (P : Program) (w : World) : NoCall ((execOp ρ o).run P w) := by
  unfold plainOp at h
  unfold execOp
  cases ho : o.op <;> rw [ho] at h <;> first | (cases h; done) | skip
  all_goals simp only []
  all_goals first
    | exact noCall_value
    | exact noCall_skip
    | (simp [NoCall]; done)
    | skip
  all_goals (repeat' split) <;> first | exact noCall_panic | exact noCall_pure | exact noCall_bind fun _ _ => noCall_bind fun _ _ => by split <;> first | exact noCall_pure | exact noCall_bind fun _ _ => noCall_pure

variable {F : Fence} {n : Nat} {P : Program} {ops : Array Oper} {Q : Exit → Act → World → Prop}
theorem plain_not_defer {o : Oper} (h : plainOp o = true) : ∀ c, o.op ≠ .defer c := fun c e => by
  unfold plainOp at h
  rw [e] at h
  cases h
theorem plain_about {o : Oper} (h : plainOp o = true) (w : World) (ρ : Operand → Value) : o.about P w ρ = none := by
  unfold plainOp at h
  unfold Oper.about
  cases ho : o.op <;> rw [ho] at h <;> first | (cases h; done) | rfl
theorem wpIn_of_wp {o : Oper} (hp : plainOp o = true) {a : Act} {w : World} {K : Act → World → Prop} (h : o.wp P a w K Q) : o.wpIn F n P a w K Q := by
  unfold Oper.wpIn
  refine ⟨fun f hf => (by rw [plain_about hp] at hf; cases hf), ?_⟩
  rw [Oper.semAt_plain F _ _ (plain_not_defer hp)]
  have hn := noCall_plain hp a.eval P w
  unfold Oper.wp at h
  generalize (execOp a.eval o).run P w = r at h hn ⊢
  cases r with
  | ok x w' => cases x <;> first | exact h | exact hn.elim
  | halt x w' => cases x <;> exact h
theorem wpListIn_of {rest : List Oper} {o : Oper} {a : Act} {w : World} (hg : o.guard = none) (hp : plainOp o = true) (h : ∀ K : Act → World → Prop, (∀ a w, wpListIn F n P ops Q rest a w → K a w) → o.wp P a w K Q) : wpListIn F n P ops Q (o :: rest) a w :=
  wpListIn_plain hg fun K hK => wpIn_of_wp hp (h K hK)
theorem anyIn_of_any {md : Region.Mode} (hp : ∀ (i : Nat) (o : Oper), ops[i]? = some o → plainOp o = true) (hQ : ¬ LetsOut Q) : ∀ (fuel : Nat) (listed : Array Bool) (a : Act) (w : World), wpAny P md ops Q fuel listed a w → wpAnyIn F n P md ops Q fuel listed a w
  | 0, _, _, _, h => h
  | fuel + 1, listed, a, w, h => ⟨h.1, fun i hi => by
    have h1 := h.2 i hi
    unfold wpOp at h1
    unfold wpOpIn
    cases ho : ops[i]? with
    | none =>
      rw [ho] at h1
      exact anyIn_of_any hp hQ fuel _ _ _ h1
    | some o =>
      rw [ho] at h1
      simp only [] at h1 ⊢
      by_cases hw : Region.wanted o (yielded ops a.tmps) = true
      · rw [if_pos hw] at h1 ⊢
        rcases h1 with h1 | h1
        · exact Oper.wpIn_mono (fun a' w' h' => anyIn_of_any hp hQ fuel _ a' w' h') (wpIn_of_wp (hp i o ho) h1)
        · exact absurd h1.2 hQ
      · rw [if_neg hw] at h1 ⊢
        exact ⟨fun f hf => (by rw [plain_about (hp i o ho)] at hf; cases hf), anyIn_of_any hp hQ fuel _ _ _ h1⟩⟩
/-- A region that draws its order, within a round. -/
theorem region_in_round {id : Nat} {S : World → Prop} {a : Act} {w : World} (hm : P.follows .mixedOrders = true) (hp : (ops.all plainOp) = true) (hQ : ¬ LetsOut Q) (h : wpAnyH P .any ops Q S ops.size (Array.replicate ops.size false) a w.drew) : (Code.region id ops true).wpIn F n P Q a w :=
  wpIn_region_any hm (anyIn_of_any (fun i o ho => (Array.all_eq_true_iff_forall_mem.1 hp) o (Array.mem_of_getElem? ho)) hQ _ _ _ _ (wpAny_of_held _ _ _ _ h))
end Go.Proofs.Ytgkbhdecohlpmaa.Dk
end

section
/-
  The writes that a plan keeps, one after another.
-/
namespace Go.Proofs.Ytgkbhdecohlpmaa.Dk
set_option maxRecDepth 100000
open Go.RowKit Go.Maps Go.MapKept Go.ChangeMaps Go.Shelf
attribute [local go_sem] Oper.semAt_some

/-- what a plan's lines keep, the sectors of earlier lines being told -/
def keptL (c : Nat → List (List Nat)) : List (Int × Int) → List Nat → List (Nat × List Nat)
  | [], _ => []
  | x :: r, told => if 0 ≤ x.1 ∧ x.1 < 34 ∧ ¬ x.1.toNat ∈ told then
      (if 1 ≤ x.2 ∧ x.2 ≤ ((c x.1.toNat).length : Int) then (x.1.toNat, (c x.1.toNat).getD (x.2.toNat - 1) []) :: keptL c r (x.1.toNat :: told) else keptL c r (x.1.toNat :: told))
    else keptL c r told
def toldC (told : List Nat) : List Value := (List.range 34).map fun n => Value.bool (decide (n ∈ told))
theorem told_zero : (Try.prog.info? 99).map (·.zero) = some (some (.agg (toldC []).toArray)) := by kernel_rfl
theorem toldC_len (told : List Nat) : (toldC told).length = 34 := by simp [toldC]
theorem toldC_get (told : List Nat) {n : Nat} (hn : n < 34) : (toldC told)[n]? = some (.bool (decide (n ∈ told))) := by
  unfold toldC
  rw [List.getElem?_map, List.getElem?_range hn]; rfl
theorem toldC_set (told : List Nat) {n : Nat} (hn : n < 34) : (toldC told).toArray.setIfInBounds n (.bool true) = (toldC (n :: told)).toArray := by
  rw [List.setIfInBounds_toArray]
  congr 1
  apply List.ext_getElem?
  intro k
  by_cases hk : k < 34
  · by_cases e : n = k
    · subst e
      rw [List.getElem?_set_self (by rw [toldC_len]; exact hn), toldC_get _ hn]
      simp
    · rw [List.getElem?_set_ne e, toldC_get _ hk, toldC_get _ hk]
      simp [Ne.symm e]
  · rw [List.getElem?_eq_none (by simp [toldC_len]; omega), List.getElem?_eq_none (by simp [toldC_len]; omega)]
/-- The slice at A holds a plan's lines. -/
def PlanAt (w : World) (B : Nat) (A : Option Addr) (plan : List (Int × Int)) : Prop :=
  0 < plan.length → ∃ b off, A = some ⟨b, off, none⟩ ∧ b < B ∧ ∀ j, j < plan.length → w.cell? ⟨b, off + j * 2, none⟩ = some (.int .i64 (plan.getD j (0, 0)).1) ∧ w.cell? ⟨b, off + j * 2 + 1, none⟩ = some (.int .i64 (plan.getD j (0, 0)).2)
def encS (x : Nat × List Nat) : Array Value := #[.int .i64 (x.1 : Int), sval x.2]
def OkS (x : Nat × List Nat) : Prop := x.1 < 34 ∧ Sec x.2

theorem flatten_get : ∀ (ws : List (List Nat)), (∀ b ∈ ws, b.length = 64) → ∀ j, j < ws.length → ∀ i u, (vals (ws.getD j []))[i]? = some u → (vals ws.flatten)[j * 64 + i]? = some u
  | [], _, j, hj, _, _, _ => by simp at hj
  | b :: r, h, 0, _, i, u, hu => by
    have hi := (List.getElem?_eq_some_iff.1 hu).1
    rw [List.flatten_cons, vals_append, Nat.zero_mul, Nat.zero_add, List.getElem?_append_left (by simpa using hi)]
    simpa using hu
  | b :: r, h, j + 1, hj, i, u, hu => by
    have hb : (vals b).length = 64 := by rw [vals_length]; exact h b List.mem_cons_self
    rw [List.flatten_cons, vals_append, List.getElem?_append_right (by omega), hb, show (j + 1) * 64 + i - 64 = j * 64 + i by omega]
    exact flatten_get r (fun c hc => h c (List.mem_cons_of_mem _ hc)) j (by simpa using hj) i u (by simpa using hu)

set_option maxHeartbeats 2000000 in
theorem each_yields {w : World} {S : Nat → Prop} {a : Nat} {d : Dk} {m : Option Nat} (h : Disk w S a d) (hk : ∀ n, n < 34 → (d.cache n).length ≤ 1000000000)
    (hm : (m = none ∧ ∀ n, n < 34 → d.cache n = []) ∨ ∃ b V, m = some b ∧ S b ∧ Mapped w b d.cache V ∧ Slots w S d.cache V) (hba : m ≠ some a)
    {A : Option Addr} {cap : Nat} {plan : List (Int × Int)} (hp : PlanAt w w.heap.size A plan) (hpa : 0 < plan.length → ∀ b, A = some b → b.block ≠ a) (hpl : plan.length ≤ 1000000000) (hi : ∀ x ∈ plan, (-9223372036854775808 ≤ x.1 ∧ x.1 ≤ 9223372036854775807) ∧ -9223372036854775808 ≤ x.2 ∧ x.2 ≤ 9223372036854775807) :
    Yields1 Fence.wide 2 Try.prog 39 #[.agg #[.map m, .slice A plan.length cap]] encS OkS (fun k => k = a) (fun xs => xs = keptL d.cache plan []) w := by
  intro l J W hW hl hl2 hJ hY h0
  refine callsIn_of_wp Try.func39 rfl trivial ?_ rfl
  simp only [Try.ntmps39, List.size_toArray, List.length_cons, List.length_nil, Nat.reduceAdd, Nat.reduceSub, Array.replicate_succ, Array.replicate_zero, List.push_toArray, List.append_toArray, List.nil_append, List.cons_append]
  obtain ⟨Z, hZ, hz⟩ : ∃ Z, (Try.prog.info? 99).map (·.zero) = some (some (.agg Z)) ∧ Z = (toldC []).toArray := ⟨_, told_zero, rfl⟩
  have HZ := Lib.hid hZ
  have HZ2 := Lib.hid hz
  clear hZ hz
  gi_wp2_with (refine wpListIn_of rfl rfl fun K hK => wp_alloc_any 99 rfl Z HZ.out (hK _ _ ?_))
  gi_loopw [11] (fun i wr => ∃ (k : Nat) (told : List Nat) (pre : List (Nat × List Nat)), i = .int .i64 (k : Int) ∧ k ≤ plan.length ∧ wr.heap[W.heap.size]? = some (.cells #[.map m, .slice A plan.length cap] 90 (0, 0)) ∧
      wr.heap[W.heap.size + 1]? = some (.cells (toldC told).toArray 99 (0, 0)) ∧ J pre wr ∧ keptL d.cache plan [] = pre ++ keptL d.cache (plan.drop k) told ∧ Kept (fun k => k = a ∨ k = l) W wr) (fun i _ => plan.length - (intOf i).toNat)
  case atStart =>
    have hk0 : Kept (fun k => k = a ∨ k = l) W ((W.alloc (.cells #[.map m, .slice A plan.length cap] 90)).alloc (.cells Z 99)) := ((Kept.refl _ W).alloc _).alloc _
    refine ⟨0, [], [], rfl, by omega, ?_, ?_, ?_, rfl, ?_⟩
    · rw [Below.heap_alloc _ _ _ (by simp)]
      exact heap_alloc_new' W _
    · have := heap_alloc_new' (W.alloc (.cells #[.map m, .slice A plan.length cap] 90)) (.cells Z 99)
      rw [World.size_alloc] at this
      rw [HZ2.out] at this ⊢
      exact this
    · exact hJ _ _ _ none (hJ _ _ _ none h0 (World.grownBy_alloc W _ none) (fun _ e => by cases e)) (World.grownBy_alloc _ _ none) (fun _ e => by cases e)
    · exact hk0
  case round =>
    obtain ⟨k, told, pre, rfl, hkl, hbox, htold, hj, hkeep, hKe⟩ := hrel
    have HBox := Lib.hid hbox
    have HTold := Lib.hid htold
    have HJ := Lib.hid hj
    have HKeep := Lib.hid hkeep
    have HKe := Lib.hid hKe
    by_cases hlt : k < plan.length
    · obtain ⟨pb, po, rfl, hpb, hcell⟩ := hp (by omega)
      have hpx := hpa (by omega) _ rfl
      have hsW : w.heap.size ≤ W.heap.size := hW.size
      have hstay : ∀ q, q < w.heap.size → q ≠ a → wr.heap[q]? = w.heap[q]? := fun q h1 h2 => (hKe.block q (by omega) (fun e => by rcases e with e | e <;> omega)).trans (hW.block q h1)
      obtain ⟨x, hx⟩ : ∃ x, x = plan.getD k (0, 0) := ⟨_, rfl⟩
      have hc0 : wr.cell? ⟨pb, po + k * 2, none⟩ = some (.int .i64 x.1) := by rw [hx]; exact (World.cell?_of_block (w := w) (hstay pb hpb hpx)).trans (hcell k hlt).1
      have hc1 : wr.cell? ⟨pb, po + k * 2 + 1, none⟩ = some (.int .i64 x.2) := by rw [hx]; exact (World.cell?_of_block (w := w) (hstay pb hpb hpx)).trans (hcell k hlt).2
      have hdrop : plan.drop k = x :: plan.drop (k + 1) := by
        rw [List.drop_eq_getElem_cons hlt, hx]
        simp [List.getD, hlt]
      have hxi := hi x (by rw [hx]; simp [List.getD, hlt])
      obtain ⟨s, q⟩ := x
      rw [hdrop] at hkeep
      have hbs : W.heap.size + 1 < wr.heap.size := lt_of_heap htold
      by_cases hs : 0 ≤ s ∧ s < 34
      · obtain ⟨n, rfl⟩ : ∃ n : Nat, s = (n : Int) := ⟨s.toNat, by omega⟩
        have hn : n < 34 := by omega
        have hni : (n : Int) < 34 := by omega
        have HN := Lib.hid (fun w => sector_any (n : Int) w)
        have hdec := decide_eq_true hs
        have hk1 : (k : Int) < plan.length := by omega
        have hct : (wr.alloc (.cells #[.int .i64 (n : Int), .int .i64 q] 41)).cell? ⟨W.heap.size + 1, n, none⟩ = some (.bool (decide (n ∈ told))) := by
          rw [World.cell?_of_block (w := wr) (heap_alloc_old' wr _ _ hbs), cell_of_row _ _ n _ _ _ htold]
          simpa using toldC_get told hn
        by_cases ht : n ∈ told
        · have HREL := Lib.hid (show keptL d.cache plan [] = pre ++ keptL d.cache (plan.drop (k + 1)) told by
            rw [hkeep]
            simp only [keptL]
            rw [if_neg (by intro h; exact h.2.2 (by simpa using ht))])
          rw [decide_eq_true ht] at hct
          clear hj hkeep hKe hcell hstay hdrop hx ht htold hbox
          gi_wp2_with (refine ⟨trivial, ?_⟩; gi_at_call 40; refine CallsIn.mono (callsIn_wide.2 (HN.out _)) ?_; rintro e w' ⟨rfl, rfl⟩)
          refine ⟨⟨k + 1, told, pre, by simp, by omega, (heap_alloc_old' wr _ _ (by omega)).trans HBox.out, (heap_alloc_old' wr _ _ hbs).trans HTold.out, hJ _ _ _ none HJ.out (World.grownBy_alloc _ _ none) (fun _ e => by cases e), HREL.out, HKe.out.alloc _⟩, by simp [intOf]; omega⟩
        · rw [decide_eq_false ht] at hct
          have hft : (wr.alloc (.cells #[.int .i64 (n : Int), .int .i64 q] 41)).frozen? ⟨W.heap.size + 1, n, none⟩ = false := by
            rw [World.frozen?_of_block (w := wr) (heap_alloc_old' wr _ _ hbs)]
            exact frozen_of_row _ _ n _ _ htold
          obtain ⟨w2, hw2⟩ : ∃ w2, w2 = (wr.setCell ⟨W.heap.size + 1, n, none⟩ (.bool true)).alloc (.cells #[.int .i64 (n : Int), .int .i64 q] 41) := ⟨_, rfl⟩
          have hw2' : w2 = (wr.alloc (.cells #[.int .i64 (n : Int), .int .i64 q] 41)).setCell ⟨W.heap.size + 1, n, none⟩ (.bool true) := by rw [hw2, World.setCell_alloc_past _ _ _ _ hbs]
          have hg2 : wr.grownBy w2 (some (W.heap.size + 1)) := by
            rw [hw2']
            exact (World.grownBy_alloc wr _ _).trans (grown_setCell _ _ _ _)
          have hs2 : w2.heap.size = wr.heap.size + 1 := by rw [hw2]; simp [World.setCell]
          have hline : w2.heap[wr.heap.size]? = some (.cells #[.int .i64 (n : Int), .int .i64 q] 41 (0, 0)) := by
            rw [hw2', heap_setCell_other _ _ _ _ (by simp; omega)]
            exact heap_alloc_new' wr _
          have hl1 : w2.cell? ⟨wr.heap.size, 1, none⟩ = some (.int .i64 q) := by rw [cell_of_row _ _ 1 _ _ _ hline]; rfl
          have hbox2 : w2.heap[W.heap.size]? = some (.cells #[.map m, .slice (some ⟨pb, po, none⟩) plan.length cap] 90 (0, 0)) := (hg2.block _ (by omega) (fun e => by have := Option.some.inj e; omega)).trans hbox
          have hbm : w2.cell? ⟨W.heap.size, 0, none⟩ = some (.map m) := by rw [cell_of_row _ _ 0 _ _ _ hbox2]; rfl
          have htold2 : w2.heap[W.heap.size + 1]? = some (.cells (toldC (n :: told)).toArray 99 (0, 0)) := by
            rw [hw2', heap_setCell_same _ _ n _ _ _ ((heap_alloc_old' wr _ _ hbs).trans htold), toldC_set _ hn]
          have hj2 : J pre w2 := hJ _ _ _ _ hj hg2 (fun r e => by have := Option.some.inj e; omega)
          have hKe2 : Kept (fun k => k = a ∨ k = l) W w2 := hKe.grown hg2 (fun k e h1 => by have := Option.some.inj e; omega)
          have hstay2 : ∀ q, q < w.heap.size → q ≠ a → w2.heap[q]? = w.heap[q]? := fun q h1 h2 => (hg2.block q (by have := hKe.size; omega) (fun e => by have := Option.some.inj e; omega)).trans (hstay q h1 h2)
          have hm2 : (m = none ∧ ∀ n, n < 34 → d.cache n = []) ∨ ∃ b V, m = some b ∧ S b ∧ Mapped w2 b d.cache V ∧ Slots w2 S d.cache V := by
            refine hm.imp id ?_
            rintro ⟨b, V, rfl, hS, hM, hV⟩
            obtain ⟨m', hrow', _⟩ := h.body
            exact ⟨b, V, rfl, hS, hM.keep (hstay2 b (h.old b hS) (fun e => hba (by rw [e]))), ⟨fun n hn => owns_keep (hV.own n hn) fun g hg => hstay2 g (h.old g (hV.mine n g hn hg)) (hV.ne_disk hrow' hn hg), hV.mine, hV.apart⟩⟩
          obtain ⟨v, hlook, hv⟩ := look_cases hm2 hn
          have hrest : keptL d.cache (((n : Int), q) :: plan.drop (k + 1)) told = if 1 ≤ q ∧ q ≤ ((d.cache n).length : Int) then (n, (d.cache n).getD (q.toNat - 1) []) :: keptL d.cache (plan.drop (k + 1)) (n :: told) else keptL d.cache (plan.drop (k + 1)) (n :: told) := by
            rw [keptL, if_pos (by simp; exact ⟨hni, ht⟩)]
            simp
          rw [hrest] at hkeep
          have HR2 := Lib.hid (And.intro hbox2 (And.intro htold2 (And.intro hj2 hKe2)))
          have hfold := hw2.symm
          have hkn := hk n hn
          have hputs := h.puts n hn
          clear hm2 hstay2 hj2 hKe2 htold2 hbox2 hline hg2 hw2 hw2' hcell hstay hdrop hx htold hbox hj hKe hrest
          by_cases hq1 : q < 1
          · have HREL := Lib.hid (show keptL d.cache plan [] = pre ++ keptL d.cache (plan.drop (k + 1)) (n :: told) by rw [hkeep, if_neg (by omega)])
            clear hkeep hv hlook
            gi_wp2_with (refine ⟨trivial, ?_⟩; gi_at_call 40; refine CallsIn.mono (callsIn_wide.2 (HN.out _)) ?_; rintro e w' ⟨rfl, rfl⟩)
            refine ⟨⟨k + 1, n :: told, pre, by simp, by omega, HR2.out.1, HR2.out.2.1, HR2.out.2.2.1, HREL.out, HR2.out.2.2.2⟩, by simp [intOf]; omega⟩
          · rcases hv with ⟨rfl, hv0⟩ | ⟨g, gcap, cur, rfl, hSg, hgh, hle, hmax, htk, hne⟩
            · have HREL := Lib.hid (show keptL d.cache plan [] = pre ++ keptL d.cache (plan.drop (k + 1)) (n :: told) by rw [hkeep, hv0, if_neg (by simp; omega)])
              have hq0 : q > 0 := by omega
              clear hkeep
              gi_wp2_with (refine ⟨trivial, ?_⟩; gi_at_call 40; refine CallsIn.mono (callsIn_wide.2 (HN.out _)) ?_; rintro e w' ⟨rfl, rfl⟩)
              refine ⟨⟨k + 1, n :: told, pre, by simp, by omega, HR2.out.1, HR2.out.2.1, HR2.out.2.2.1, HREL.out, HR2.out.2.2.2⟩, by simp [intOf]; omega⟩
            · by_cases hq2 : q > (d.cache n).length
              · have HREL := Lib.hid (show keptL d.cache plan [] = pre ++ keptL d.cache (plan.drop (k + 1)) (n :: told) by rw [hkeep, if_neg (by omega)])
                clear hkeep
                gi_wp2_with (refine ⟨trivial, ?_⟩; gi_at_call 40; refine CallsIn.mono (callsIn_wide.2 (HN.out _)) ?_; rintro e w' ⟨rfl, rfl⟩)
                refine ⟨⟨k + 1, n :: told, pre, by simp, by omega, HR2.out.1, HR2.out.2.1, HR2.out.2.2.1, HREL.out, HR2.out.2.2.2⟩, by simp [intOf]; omega⟩
              · obtain ⟨j, rfl⟩ : ∃ j : Nat, q = (j : Int) + 1 := ⟨(q - 1).toNat, by omega⟩
                have hjl : j < (d.cache n).length := by omega
                obtain ⟨b, hb⟩ : ∃ b, b = (d.cache n).getD j [] := ⟨_, rfl⟩
                have hbm2 : b ∈ d.cache n := by rw [hb]; simp [List.getD, hjl]
                have hsb := hputs b hbm2
                have HREL := Lib.hid (show keptL d.cache plan [] = (pre ++ [(n, b)]) ++ keptL d.cache (plan.drop (k + 1)) (n :: told) by
                  rw [hkeep, if_pos (by omega), hb]
                  simp)
                have HC := Lib.hid (show ∀ i u, (vals b)[i]? = some u → w2.cell? ⟨g, j * 64 + i, none⟩ = some u by
                  intro i u hu
                  have hi2 := (List.getElem?_eq_some_iff.1 hu).1
                  rw [vals_length, hsb.1] at hi2
                  rw [cell_of_row _ _ _ _ _ _ hgh]
                  have h3 := flatten_get (d.cache n) (fun c hc => (hputs c hc).1) j hjl i u (by rw [← hb]; exact hu)
                  rw [← htk, List.getElem?_take_of_lt (by omega)] at h3
                  simpa using h3)
                have HI := Lib.hid (sector_info b hsb.1)
                obtain ⟨fn, tmps, assign, body, hy, hR⟩ := hY pre (n, b) w2 HR2.out.2.2.1 ⟨hn, hsb⟩ HR2.out.2.2.2.size
                replace hy : (Instr.yield l #[.int .i64 (n : Int), .agg (vals b).toArray]).run Try.prog w2 = .ok (.round l fn tmps assign body) w2 := hy
                have HRn := Lib.hid hR
                have hj3 : (j : Int) < (d.cache n).length := by omega
                have hjq : ¬ ((d.cache n).length : Int) < (j : Int) + 1 := by omega
                unfold maxLen at hmax
                clear hkeep hR htk hb hgh hputs hsb hbm2 hY
                gi_wp2_with (first
                  | (refine ⟨trivial, ?_⟩; gi_at_call 40; refine CallsIn.mono (callsIn_wide.2 (HN.out _)) ?_; rintro e w' ⟨rfl, rfl⟩)
                  | (refine wpListIn_of rfl rfl fun K hK => wp_load_part 55 _ rfl g (j * 64) rfl (vals b) _ HC.out Try.underlying55 rfl HI.out (hK _ _ ?_)))
                refine RoundIn.mono HRn.out ?_
                rintro e W3 ⟨rfl, hJ3, hk3⟩
                have hsz2 := HR2.out.2.2.2.size
                have hbox3 := (hk3.block W.heap.size (by omega) (fun e => by rcases e with e | e <;> (have := h.lt; have := hW.size; omega))).trans HR2.out.1
                have htold3 := (hk3.block (W.heap.size + 1) (lt_of_heap HR2.out.2.1) (fun e => by rcases e with e | e <;> (have := h.lt; have := hW.size; omega))).trans HR2.out.2.1
                have HR3 := Lib.hid (And.intro hbox3 (And.intro htold3 (And.intro hJ3 (HR2.out.2.2.2.trans hk3 (fun i _ hi => hi)))))
                clear hbox3 htold3 hJ3 hk3
                gi_wp2
                refine ⟨⟨k + 1, n :: told, pre ++ [(n, b)], by simp, by omega, HR3.out.1, HR3.out.2.1, HR3.out.2.2.1, HREL.out, HR3.out.2.2.2⟩, by simp [intOf]; omega⟩
      · have HN := Lib.hid (fun w => sector_any s w)
        have HREL := Lib.hid (show keptL d.cache plan [] = pre ++ keptL d.cache (plan.drop (k + 1)) told by
          rw [hkeep]
          simp only [keptL]
          rw [if_neg (by intro h; exact hs ⟨h.1, h.2.1⟩)])
        have hdec := decide_eq_false hs
        have hk1 : (k : Int) < plan.length := by omega
        clear hj hkeep hKe hcell hstay hdrop hx htold hbox
        gi_wp2_with (refine ⟨trivial, ?_⟩; gi_at_call 40; refine CallsIn.mono (callsIn_wide.2 (HN.out _)) ?_; rintro e w' ⟨rfl, rfl⟩)
        refine ⟨⟨k + 1, told, pre, by simp, by omega, (heap_alloc_old' wr _ _ (by omega)).trans HBox.out, (heap_alloc_old' wr _ _ hbs).trans HTold.out, hJ _ _ _ none HJ.out (World.grownBy_alloc _ _ none) (fun _ e => by cases e), HREL.out, HKe.out.alloc _⟩, by simp [intOf]; omega⟩
    · obtain rfl : k = plan.length := by omega
      have HE := Lib.hid (show keptL d.cache plan [] = pre by
        rw [hkeep, List.drop_of_length_le (Nat.le_refl _)]
        simp [keptL])
      clear hj hkeep hKe htold hbox
      gi_wp2
      go_end0
      exact ⟨⟨_, rfl⟩, _, HE.out.symm, HJ.out⟩
end Go.Proofs.Ytgkbhdecohlpmaa.Dk
end

section
/-
  Crash: what the plan keeps is durable, the cache is empty, the disk is down.
-/
namespace Go.Proofs.Ytgkbhdecohlpmaa.Dk
set_option maxRecDepth 100000
open Go.RowKit Go.Maps Go.MapKept Go.ChangeMaps Go.Shelf
attribute [local go_sem] Oper.semAt_some

def stepS (f : Nat → List Nat) (x : Nat × List Nat) : Nat → List Nat := upd f x.1 x.2
def Dk.crash (d : Dk) (plan : List (Int × Int)) : Dk := ⟨(keptL d.cache plan []).foldl stepS d.dur, fun _ => [], true⟩
theorem crash_nil (A : Option Addr) (l c : Nat) (w : World) : Calls Try.prog 16 #[.pointer none, .slice A l c] w fun e w' => e = .returned (.int .i64 1) ∧ Below w.heap.size w w' := by
  have HB := Lib.hid ((Below.refl w.heap.size w).alloc (Nat.le_refl _) (.cells #[.pointer none] 26))
  go_enter Try.func16, Try.ntmps16
  go_wp2_with fail
  refine (refuses_nil _).mono ?_
  rintro e w' ⟨rfl, rfl⟩
  go_wp2
  go_ret
  exact ⟨rfl, HB.out⟩
theorem crash_down {w : World} {S : Nat → Prop} {a : Nat} {d : Dk} (h : Disk w S a d) (hd : d.down = true) (A : Option Addr) (l c : Nat) : Calls Try.prog 16 #[.pointer (some ⟨a, 0, none⟩), .slice A l c] w fun e w' => e = .returned (.int .i64 30) ∧ Below w.heap.size w w' := by
  have HB := Lib.hid ((Below.refl w.heap.size w).alloc (Nat.le_refl _) (.cells #[.pointer (some ⟨a, 0, none⟩)] 26))
  have HR := Lib.hid (refuses_any (h.below HB.out (Nat.le_refl _)))
  rw [hd] at HR
  clear h hd
  go_enter Try.func16, Try.ntmps16
  go_wp2_with fail
  refine HR.out.mono ?_
  rintro e w' ⟨rfl, rfl⟩
  go_wp2
  go_ret
  exact ⟨rfl, HB.out⟩
theorem row_no_i64 (f : Nat → List Nat) (m : Option Nat) (dn : Bool) (z : Int) : (.int .i64 z : Value) ∉ rowD f m dn := by
  intro h
  rcases List.mem_append.1 h with h | h
  · obtain ⟨n, _, e⟩ := List.mem_map.1 h
    cases e
  · simp at h
theorem plan_apart {w : World} {S : Nat → Prop} {a : Nat} {d : Dk} (h : Disk w S a d) {A : Option Addr} {plan : List (Int × Int)} (hp : PlanAt w w.heap.size A plan) : 0 < plan.length → ∀ b, A = some b → b.block ≠ a := by
  intro hl b e hb
  obtain ⟨pb, po, e2, _, hc⟩ := hp hl
  rw [e] at e2
  cases e2
  have h1 := (hc 0 hl).1
  obtain ⟨m, hrow, _⟩ := h.body
  have hb' : pb = a := hb
  rw [hb', cell_of_row _ _ _ _ _ _ hrow] at h1
  have h2 : (rowD d.dur m d.down)[po + 0 * 2]? = some (.int .i64 (plan.getD 0 (0, 0)).1) := by simpa using h1
  exact row_no_i64 _ _ _ _ (List.mem_of_getElem? h2)
theorem foldS_sec : ∀ (xs : List (Nat × List Nat)) (f : Nat → List Nat), (∀ n, n < 34 → Sec (f n)) → (∀ x ∈ xs, OkS x) → ∀ n, n < 34 → Sec (xs.foldl stepS f n)
  | [], _, h, _ => h
  | x :: r, f, h, hx => foldS_sec r (stepS f x) (fun n hn => by
      unfold stepS
      by_cases e : n = x.1
      · subst e; rw [upd_same]; exact (hx x List.mem_cons_self).2
      · rw [upd_other _ _ e]; exact h n hn) (fun y hy => hx y (List.mem_cons_of_mem _ hy))

theorem Disk.cleared {w : World} {S : Nat → Prop} {a b clock : Nat} {es : Array MapEntry} {d : Dk} (h : Disk w S a d) (hc : w.cell? ⟨a, 2176, none⟩ = some (.map (some b))) (hmb : w.heap[b]? = some (.map es clock)) :
    S b ∧ b ≠ a ∧ w.grownBy (setBlock w b (.map #[] clock)) (some b) ∧ Disk (setBlock w b (.map #[] clock)) S a { d with cache := fun _ => [] } := by
  have hg3 : w.grownBy (setBlock w b (.map #[] clock)) (some b) := ⟨rfl, rfl, rfl, by simp [setBlock], fun i _ hi => heap_setBlock_other hmb _ (fun e => hi (by rw [e]))⟩
  obtain ⟨m', hb', hc', _, _, hm'⟩ := h.cells
  rw [hc] at hc'
  cases hc'
  rcases hm' with ⟨e, _⟩ | ⟨b', V, e, hS, hM, _⟩
  · cases e
  cases e
  have hba := hM.ne_cells hb'
  exact ⟨hS, hba, hg3, ⟨h.mine, fun k hk => Nat.lt_of_lt_of_le (h.old k hk) hg3.size, h.secs, fun _ _ _ h => by simp at h, some b, (hg3.block a h.lt (fun e => hba (by cases e; rfl))).trans hb',
    Or.inr ⟨b, fun _ => nilS, rfl, hS, mapped_empty (clock := clock) (heap_setBlock_same hmb _), slots_empty _ S⟩⟩⟩
theorem Disk.downed {w : World} {S : Nat → Prop} {a : Nat} {d : Dk} (h : Disk w S a d) : Disk (w.setCell ⟨a, 2177, none⟩ (.bool true)) S a { d with down := true } := by
  obtain ⟨m, hb, _, _, _, hm⟩ := h.cells
  have hg := grown_setCell w a 2177 (.bool true)
  refine ⟨h.mine, fun k hk => Nat.lt_of_lt_of_le (h.old k hk) hg.size, h.secs, h.puts, m, ?_, cache_keep hb h.old hm hg⟩
  rw [heap_setCell_same w a 2177 _ _ _ hb, rowD_setDown h.secs]
set_option maxHeartbeats 2000000 in
theorem crash_ok {w : World} {S : Nat → Prop} {a : Nat} {d : Dk} (h : Disk w S a d) (hd : d.down = false) (hk : ∀ n, n < 34 → (d.cache n).length ≤ 1000000000) {A : Option Addr} {cap : Nat} {plan : List (Int × Int)} (hp : PlanAt w w.heap.size A plan) (hpl : plan.length ≤ 1000000000)
    (hi : ∀ x ∈ plan, (-9223372036854775808 ≤ x.1 ∧ x.1 ≤ 9223372036854775807) ∧ -9223372036854775808 ≤ x.2 ∧ x.2 ≤ 9223372036854775807) :
    Calls Try.prog 16 #[.pointer (some ⟨a, 0, none⟩), .slice A plan.length cap] w fun e w' => e = .returned (.int .i64 0) ∧ Goes w w' S a (d.crash plan) := by
  obtain ⟨wb, hwb⟩ : ∃ wb, wb = w.alloc (.cells #[.pointer (some ⟨a, 0, none⟩)] 26) := ⟨_, rfl⟩
  have hbb : Below w.heap.size w wb := by rw [hwb]; exact (Below.refl _ w).alloc (Nat.le_refl _) _
  have hdb := h.below hbb (Nat.le_refl _)
  have hsb : wb.heap.size = w.heap.size + 1 := by rw [hwb]; simp
  have hbox : wb.heap[w.heap.size]? = some (.cells #[.pointer (some ⟨a, 0, none⟩)] 26 (0, 0)) := by rw [hwb]; exact heap_alloc_new' w _
  have hcb : wb.cell? ⟨w.heap.size, 0, none⟩ = some (.pointer (some ⟨a, 0, none⟩)) := by rw [cell_of_row _ _ 0 _ _ _ hbox]; rfl
  obtain ⟨m, hrow, hcm, hcd, hfr, hm⟩ := hdb.cells
  have hpb : PlanAt wb wb.heap.size A plan := fun h0 => by
    obtain ⟨pb, po, e, hlt, hc⟩ := hp h0
    exact ⟨pb, po, e, by omega, fun j hj => ⟨(hbb.cell hlt).trans (hc j hj).1, (hbb.cell hlt).trans (hc j hj).2⟩⟩
  have hpa := plan_apart h hp
  have hba : m ≠ some a := by
    rcases hm with ⟨e, _⟩ | ⟨b, V, e, _, hM, _⟩
    · rw [e]; simp
    · rw [e]; intro e2; exact hM.ne_cells hrow (Option.some.inj e2)
  have HSeq := Lib.hid (each_yields hdb hk hm hba hpb hpa hpl hi (cap := cap))
  have HR := Lib.hid (refuses_any hdb)
  rw [hd] at HR
  have HH := Lib.hid h
  have HDb := Lib.hid hdb
  have HM := Lib.hid hm
  have HBB := Lib.hid hbb
  have HBox := Lib.hid hbox
  have HWB := Lib.hid hwb
  have HD := Lib.hid hd
  have HBA := Lib.hid hba
  clear h hk hp hi hpb hpa hba hm hrow hwb hdb hbox hfr hcd hbb hd hpl
  refine (callsIn_wide (n := 3)).1 ?_
  refine callsIn_of_wp_marks Try.func16 rfl trivial ?_ rfl
  simp only [Try.ntmps16, List.size_toArray, List.length_cons, List.length_nil, Nat.reduceAdd, Nat.reduceSub, Array.replicate_succ, Array.replicate_zero, List.push_toArray, List.append_toArray, List.nil_append, List.cons_append]
  gi_wp2_with (rw [← HWB.out]; refine ⟨trivial, ?_⟩; gi_at_call 33; refine CallsIn.mono (callsIn_wide.2 HR.out) ?_; rintro e w' ⟨rfl, rfl⟩)
  have hlta : a < w.heap.size := HH.out.lt
  refine range_rounds rfl (by omega) (gf := 39) (bd := #[.agg #[.map m, .slice A plan.length cap]]) rfl trivial (enters_of Try.func39 (by kernel_rfl) rfl) (T := fun k => k = a) (encs := encS) (Ok := OkS) (fun k e => by omega) HSeq.out (fun _ => rfl)
    (fun pre W => Disk W S a { d with dur := pre.foldl stepS d.dur } ∧ W.cell? ⟨a, 2176, none⟩ = some (.map m) ∧ W.heap[w.heap.size]? = some (.cells #[.pointer (some ⟨a, 0, none⟩)] 26 (0, 0)) ∧ Kept S w W) ?lasts ?start ?round ?done
  case lasts =>
    rintro pre W W' row ⟨hd1, hc1, hb1, hk1⟩ hg hr
    have hne : ∀ k, k < w'.heap.size → some k ≠ row := fun k hk e => by have := hr k e.symm; omega
    refine ⟨hd1.keep (fun k hk => hg.block k (hd1.old k hk) (hne k (by have := HH.out.old k hk; omega))) hg.size, (World.cell?_of_block (w := W) (hg.block a hd1.lt (hne a (by omega)))).trans hc1, (hg.block _ (lt_of_heap hb1) (hne _ (by omega))).trans hb1, hk1.grown hg (fun k e h1 => by have := hr k e; omega)⟩
  case start => exact ⟨HDb.out, hcm, HBox.out, Kept.of_below HBB.out (Nat.le_refl _)⟩
  case round =>
    rintro pre ⟨n, b⟩ W hltW ⟨hd1, hc1, hb1, hk1⟩ ⟨hn, hsb1⟩
    obtain ⟨Z, hZ, hz⟩ : ∃ Z, (Try.prog.info? 55).map (·.zero) = some (some (.agg Z)) ∧ Z = (vals (List.replicate 64 0)).toArray := ⟨_, sector_zero, rfl⟩
    have HS := Lib.hid (show Z.size = (vals b).toArray.size by rw [hz]; simp [vals_length, hsb1.1])
    have HZ := Lib.hid hZ
    have HI := Lib.hid (show (Try.prog.info? 55).map (·.size) = some (vals b).toArray.size by rw [sector_size]; simp [vals_length, hsb1.1])
    have H1 := Lib.hid (show (vals b).toArray.all (·.oneCell') = true from Array.all_eq_true_iff_forall_mem.2 fun u hu => vals_one u (by simpa using hu))
    have HG := Lib.hid (heap_alloc_new' W (.cells Z 55))
    obtain ⟨W1, hW1⟩ : ∃ W1, W1 = (W.alloc (.cells Z 55)).setRow W.heap.size (vals b).toArray := ⟨_, rfl⟩
    have HW1 := Lib.hid hW1
    have hba1 : Below W.heap.size W W1 := by rw [hW1]; exact below_setRow ((Below.refl _ W).alloc (Nat.le_refl _) _) (Nat.le_refl _) _
    have hrow1 : W1.heap[W.heap.size]? = some (.cells (vals b).toArray 55 (0, 0)) := by
      rw [hW1]; exact setRow_heap _ _ Z (vals b).toArray 55 _ (heap_alloc_new' W _)
    have HD1 := Lib.hid hd1
    have HC1 := Lib.hid hc1
    have HB1 := Lib.hid hb1
    have HK1 := Lib.hid hk1
    have HBa := Lib.hid hba1
    have HRw := Lib.hid hrow1
    clear hd1 hc1 hb1 hk1 hba1 hrow1 hW1 hZ hz
    unfold encS sval
    gi_wp2_with (first
      | (refine wpListIn_of rfl rfl fun K hK => wp_alloc_any 55 rfl Z HZ.out (hK _ _ ?_))
      | (refine wpListIn_of rfl rfl fun K hK => wp_store_row 55 _ _ rfl W.heap.size (vals b).toArray rfl rfl 55 Z HG.out HI.out HS.out H1.out (hK _ _ ?_); rw [← HW1.out]))
    refine ⟨HBa.out, fun W2 hg2 => ?_⟩
    have hltl := lt_of_heap HB1.out
    have hne2 : ∀ k, k < W.heap.size → k ≠ w'.heap.size + 1 → W2.heap[k]? = W.heap[k]? := fun k h1 h2 => (hg2.block k (by have := HBa.out.size; omega) (fun e => by have := Option.some.inj e; omega)).trans (HBa.out.block k h1)
    have hd2 : Disk W2 S a { d with dur := pre.foldl stepS d.dur } := HD1.out.keep (fun k hk => hne2 k (HD1.out.old k hk) (by have := HH.out.old k hk; omega)) (Nat.le_trans HBa.out.size hg2.size)
    have hc2 : W2.cell? ⟨a, 2176, none⟩ = some (.map m) := (World.cell?_of_block (w := W) (hne2 a HD1.out.lt (by omega))).trans HC1.out
    have hb2 := (hne2 w.heap.size hltl (by omega)).trans HB1.out
    have hr2 : W2.heap[W.heap.size]? = some (.cells (vals b).toArray 55 (0, 0)) := (hg2.block _ (lt_of_heap HRw.out) (fun e => by have h5 : W.heap.size = w.heap.size + 1 + 1 := Option.some.inj e; omega)).trans HRw.out
    have hcb2 : W2.cell? ⟨w.heap.size, 0, none⟩ = some (.pointer (some ⟨a, 0, none⟩)) := by rw [cell_of_row _ _ 0 _ _ _ hb2]; rfl
    have hk2 : Kept S w W2 := (HK1.out.below (Nat.le_refl _) HBa.out (Or.inl HK1.out.size)).grown hg2 (fun k e h1 => by have := Option.some.inj e; omega)
    have hni : (n : Int) < 34 := by omega
    have hhd : ∀ X, W2.drew = X → X.cell? ⟨w.heap.size, 0, none⟩ = some (.pointer (some ⟨a, 0, none⟩)) ∧ X.heap[W.heap.size]? = some (.cells (vals b).toArray 55 (0, 0)) := fun X e => by rw [← e]; exact ⟨hcb2, hr2⟩
    refine wpIn_block ?_
    refine region_in_round (S := fun X => X.cell? ⟨w.heap.size, 0, none⟩ = some (.pointer (some ⟨a, 0, none⟩)) ∧ X.heap[W.heap.size]? = some (.cells (vals b).toArray 55 (0, 0))) (by kernel_rfl) (by kernel_rfl) (by rintro ⟨_, _, h⟩; simp [Exit.inBlock] at h) ?_
    have hHeld := hhd _ rfl
    have HD2 := Lib.hid hd2
    have HC2 := Lib.hid hc2
    have HB2 := Lib.hid hb2
    have HK2 := Lib.hid hk2
    have HR2 := Lib.hid hr2
    clear hhd hd2 hc2 hb2 hk2 hr2 hcb2 hne2 hg2 hltW hltl
    refine wpAnyH_take (i := 0) (v := ?_) rfl (by kernel_rfl) (by kernel_rfl) (by kernel_rfl) (fun _ _ _ h => h) (Or.inl ⟨by rfl, ?_⟩) (by assumption) ?_
    rotate_left
    · simp only [List.getElem_toArray, List.getElem_cons_zero, List.getElem_cons_succ]; intro W hSw; (try dsimp only at hSw); go_simp; all_goals with_reducible rfl
    simp only [Act.put, List.getElem_toArray, List.getElem_cons_zero, List.getElem_cons_succ, List.setIfInBounds_toArray, List.set_cons_zero, List.set_cons_succ]
    refine wpAnyH_take (i := 1) (v := ?_) rfl (by kernel_rfl) (by kernel_rfl) (by kernel_rfl) (fun _ _ _ h => h) (Or.inl ⟨by rfl, ?_⟩) (by assumption) ?_
    rotate_left
    · simp only [List.getElem_toArray, List.getElem_cons_zero, List.getElem_cons_succ]; intro W hSw; (try dsimp only at hSw); go_simp; all_goals with_reducible rfl
    simp only [Act.put, List.getElem_toArray, List.getElem_cons_zero, List.getElem_cons_succ, List.setIfInBounds_toArray, List.set_cons_zero, List.set_cons_succ]
    refine wpAnyH_take (i := 2) (v := ?_) rfl (by kernel_rfl) (by kernel_rfl) (by kernel_rfl) (fun _ _ _ h => h) (Or.inl ⟨by rfl, ?_⟩) (by assumption) ?_
    rotate_left
    · simp only [List.getElem_toArray, List.getElem_cons_zero, List.getElem_cons_succ]
      intro X hSw
      refine exec_load_part 55 (.tmp 8) ?_ W.heap.size 0 ?_ (vals b) _ (row_cells hSw.2 (fun j u hu => by rw [Nat.zero_add]; exact hu)) Try.underlying55 rfl (sector_info _ hsb1.1)
      · rfl
      · rfl
    simp only [Act.put, List.getElem_toArray, List.getElem_cons_zero, List.getElem_cons_succ, List.setIfInBounds_toArray, List.set_cons_zero, List.set_cons_succ]
    refine wpAnyH_take (i := 3) (v := ?_) rfl (by kernel_rfl) (by kernel_rfl) (by kernel_rfl) (fun _ _ _ h => h) (Or.inl ⟨by rfl, ?_⟩) (by assumption) ?_
    rotate_left
    · simp only [List.getElem_toArray, List.getElem_cons_zero, List.getElem_cons_succ]; intro W hSw; (try dsimp only at hSw); go_simp; all_goals with_reducible rfl
    simp only [Act.put, List.getElem_toArray, List.getElem_cons_zero, List.getElem_cons_succ, List.setIfInBounds_toArray, List.set_cons_zero, List.set_cons_succ]
    refine wpAnyH_take (i := 4) (v := ?_) rfl (by kernel_rfl) (by kernel_rfl) (by kernel_rfl) (fun _ _ _ h => h) (Or.inl ⟨by rfl, ?_⟩) (by assumption) ?_
    rotate_left
    · simp only [List.getElem_toArray, List.getElem_cons_zero, List.getElem_cons_succ]; intro W hSw; (try dsimp only at hSw); go_simp; all_goals with_reducible rfl
    simp only [Act.put, List.getElem_toArray, List.getElem_cons_zero, List.getElem_cons_succ, List.setIfInBounds_toArray, List.set_cons_zero, List.set_cons_succ]
    refine wpAnyH_take (i := 5) (v := ?_) rfl (by kernel_rfl) (by kernel_rfl) (by kernel_rfl) (fun _ _ _ h => h) (Or.inl ⟨by rfl, ?_⟩) (by assumption) ?_
    rotate_left
    · simp only [List.getElem_toArray, List.getElem_cons_zero, List.getElem_cons_succ]; intro W hSw; (try dsimp only at hSw); go_simp; all_goals with_reducible rfl
    simp only [Act.put, List.getElem_toArray, List.getElem_cons_zero, List.getElem_cons_succ, List.setIfInBounds_toArray, List.set_cons_zero, List.set_cons_succ]
    refine wpAnyH_ready (rs := [6]) (by kernel_rfl) (by simp) ?_
    refine AllReadyH.cons rfl (fun K hK => ?_) AllReadyH.nil
    simp only [List.getElem_toArray, List.getElem_cons_zero, List.getElem_cons_succ]
    rw [if_pos]
    rotate_left
    · simp [Region.wanted]
    obtain ⟨m2, hrow, hcm2, _, _, hm2⟩ := HD2.out.drew.cells
    obtain rfl : m2 = m := by
      have h5 : W2.cell? ⟨a, 2176, none⟩ = some (.map m2) := hcm2
      rw [HC2.out] at h5
      cases h5; rfl
    have hst := HD2.out.drew.stored hrow hm2 hn hsb1
    have hgr := grown_setRow W2.drew a (vals (ahead (pre.foldl stepS d.dur) n) ++ vals b ++ (vals (behindS (pre.foldl stepS d.dur) n) ++ [Value.map m2, .bool d.down])).toArray
    have hrow2 := hrow
    rw [rowD_split _ _ _ hn] at hrow2
    refine wp_store_part 55 (.tmp 29) (.tmp 26) rfl a (n * 64) rfl (vals b) rfl 59 (vals (ahead (pre.foldl stepS d.dur) n)) (vals (pre.foldl stepS d.dur n)) (vals (behindS (pre.foldl stepS d.dur) n) ++ [Value.map m2, .bool d.down]) hrow2 (by rw [vals_length]; exact ahead_len HD2.out.secs (by omega)) (by rw [vals_length, vals_length, hsb1.1]; exact (HD2.out.secs n hn).1) (sector_info _ hsb1.1) vals_one ?_
    have hne3 : w.heap.size ≠ a ∧ W.heap.size ≠ a := by
      have h5 : w.heap.size < W.heap.size := lt_of_heap HB1.out
      omega
    generalize hw3 : W2.drew.setRow a (vals (ahead (pre.foldl stepS d.dur) n) ++ vals b ++ (vals (behindS (pre.foldl stepS d.dur) n) ++ [Value.map m2, .bool d.down])).toArray = W3 at hst hgr ⊢
    have hb3 : W3.heap[w.heap.size]? = some (.cells #[.pointer (some ⟨a, 0, none⟩)] 26 (0, 0)) := (hgr.block _ (lt_of_heap HB2.out) (fun e => hne3.1 (Option.some.inj e))).trans HB2.out
    refine hK.out _ _ ⟨by rw [cell_of_row _ _ 0 _ _ _ hb3]; rfl, (hgr.block _ (lt_of_heap HR2.out) (fun e => hne3.2 (Option.some.inj e))).trans HR2.out⟩ (fun hHeld3 => ?_)
    refine wpAnyH_done (by kernel_rfl) ?_ _
    refine ⟨rfl, (Kept.refl _ W2).drew.grown hgr (fun k e _ => (Option.some.inj e).symm), hst, ?_, hb3, HK2.out.drew.grown hgr (fun k e _ => by have := Option.some.inj e; subst this; exact HH.out.mine)⟩
    obtain ⟨m4, hrow4, hcm4, _, _, _⟩ := hst.cells
    have h6 : W3.heap[a]? = some (.cells (rowD (upd (pre.foldl stepS d.dur) n b) m2 d.down).toArray 59 (0, 0)) := by
      rw [rowD_upd _ _ _ hn, ← hw3]
      exact setRow_heap W2.drew a _ _ 59 _ hrow
    rw [cell_of_row _ _ 2176 _ _ _ h6]
    simpa using rowD_map hst.secs m2 d.down
  case done =>
    rintro xs W rfl ⟨hd1, hc1, hb1, hk1⟩ hsz hdef
    have hcb1 : W.cell? ⟨w.heap.size, 0, none⟩ = some (.pointer (some ⟨a, 0, none⟩)) := by rw [cell_of_row _ _ 0 _ _ _ hb1]; rfl
    have hold := HH.out.old
    cases m with
    | none =>
      obtain ⟨_, _, _, hcd, hfr, _⟩ := hd1.cells
      have hfr1 := hfr 2177
      have hcl := fun (w : World) ty => run_clear_nil w ty
      have hd4 := hd1.downed
      have hg4 := grown_setCell W a 2177 (.bool true)
      obtain ⟨W4, hw4⟩ : ∃ W4, W.setCell ⟨a, 2177, none⟩ (.bool true) = W4 := ⟨_, rfl⟩
      rw [hw4] at hd4 hg4
      have hdef4 : W4.heap[w'.heap.size]? = some (.deferred (some [])) := (hg4.block _ hsz (fun e => by have h5 : w'.heap.size = a := Option.some.inj e; omega)).trans hdef
      have hg5 := grownBy_putObj' W4 w'.heap.size (.deferred none)
      have h0 : ∀ n, n < 34 → d.cache n = [] := by
        rcases HM.out with ⟨_, h0⟩ | ⟨_, _, e, _⟩
        · exact h0
        · cases e
      have HG := Lib.hid (show Goes w (W4.putObj w'.heap.size (.deferred none)) S a (d.crash plan) from ⟨S, (hd4.keep (fun k hk => hg5.block k (hd4.old k hk) (fun e => by have h5 := Option.some.inj e; have := hold k hk; omega)) hg5.size).same_as (fun _ _ => rfl) (fun n hn => (h0 n hn).symm) rfl,
        (hk1.grown hg4 (fun k e _ => by have h5 := Option.some.inj e; subst h5; exact HH.out.mine)).grown hg5 (fun k e h1 => by have h5 := Option.some.inj e; omega), fun _ hk => Or.inl hk⟩)
      have HDf := Lib.hid hdef4
      clear hd4 hg4 hdef4 hg5 hd1 hk1 hb1 h0 hfr hdef
      rw [hsb] at HDf HG
      gi_wp2
      refine ⟨by simp, .inl ⟨_, _, rfl, run_takeDeferred HDf.out, ?_⟩⟩
      exact ⟨_, results_tmp rfl _ _ _, rfl, HG.out⟩
    | some b =>
      obtain ⟨_, _, _, hcd, hfr, hmm⟩ := hd1.cells
      obtain ⟨es, clock, hmb⟩ : ∃ es clock, W.heap[b]? = some (.map es clock) := by
        obtain ⟨m9, _, hc9, _, _, hm9⟩ := hd1.cells
        rw [hc1] at hc9
        cases hc9
        rcases hm9 with ⟨e, _⟩ | ⟨b', V, e, _, hM, _⟩
        · cases e
        · cases e; exact hM.at_
      obtain ⟨hSb, hneb, hg3, hd3⟩ := hd1.cleared hc1 hmb
      have hcl := fun ty => run_clear W b ty hmb
      obtain ⟨W3, hw3⟩ : ∃ W3, W3 = setBlock W b (.map #[] clock) := ⟨_, rfl⟩
      rw [← hw3] at hg3 hd3 hcl
      have hlb := hold b hSb
      have hb3 := (hg3.block _ (lt_of_heap hb1) (fun e => by have h5 := Option.some.inj e; omega)).trans hb1
      have hcb3 : W3.cell? ⟨w.heap.size, 0, none⟩ = some (.pointer (some ⟨a, 0, none⟩)) := by rw [cell_of_row _ _ 0 _ _ _ hb3]; rfl
      obtain ⟨m8, _, _, hcd3, hfr3, _⟩ := hd3.cells
      have hfr1 := hfr3 2177
      have hd4 := hd3.downed
      have hg4 := grown_setCell W3 a 2177 (.bool true)
      obtain ⟨W4, hw4⟩ : ∃ W4, W3.setCell ⟨a, 2177, none⟩ (.bool true) = W4 := ⟨_, rfl⟩
      rw [hw4] at hd4 hg4
      have hsz3 := hg3.size
      have hdef3 : W3.heap[w'.heap.size]? = some (.deferred (some [])) := (hg3.block _ hsz (fun e => by have h5 : w'.heap.size = b := Option.some.inj e; omega)).trans hdef
      have hdef4 : W4.heap[w'.heap.size]? = some (.deferred (some [])) := (hg4.block _ (by omega) (fun e => by have h5 : w'.heap.size = a := Option.some.inj e; omega)).trans hdef3
      have hg5 := grownBy_putObj' W4 w'.heap.size (.deferred none)
      have HG := Lib.hid (show Goes w (W4.putObj w'.heap.size (.deferred none)) S a (d.crash plan) from ⟨S, hd4.keep (fun k hk => hg5.block k (hd4.old k hk) (fun e => by have h5 := Option.some.inj e; have := hold k hk; omega)) hg5.size,
        ((hk1.grown hg3 (fun k e _ => by have h5 := Option.some.inj e; subst h5; exact hSb)).grown hg4 (fun k e _ => by have h5 := Option.some.inj e; subst h5; exact HH.out.mine)).grown hg5 (fun k e h1 => by have h5 := Option.some.inj e; omega), fun _ hk => Or.inl hk⟩)
      have HDf := Lib.hid hdef4
      clear hd4 hg4 hdef4 hg5 hd1 hk1 hb1 hfr hdef hdef3 hd3 hg3 hw3 hfr3 hmb hb3 hmm
      rw [hsb] at HDf HG
      gi_wp2
      refine ⟨by simp, .inl ⟨_, _, rfl, run_takeDeferred HDf.out, ?_⟩⟩
      exact ⟨_, results_tmp rfl _ _ _, rfl, HG.out⟩
end Go.Proofs.Ytgkbhdecohlpmaa.Dk
end

section
/-
  Homes and superblocks on a disk, as plain data: their bytes, what a sector is read as.
-/
namespace Go.Proofs.Ytgkbhdecohlpmaa
set_option maxRecDepth 100000
open Go.RowKit

/-! ### numbers, the lowest byte first -/
def numH (n : Nat) : Nat → List Nat
  | 0 => []
  | k + 1 => n % 256 :: numH (n / 256) k
theorem numH_len (k : Nat) : ∀ n, (numH n k).length = k := by
  induction k with
  | zero => intro n; rfl
  | succ k ih => intro n; rw [numH, List.length_cons, ih]
theorem numH_lt (k : Nat) : ∀ n, ∀ b ∈ numH n k, b < 256 := by
  induction k with
  | zero => intro n b h; simp [numH] at h
  | succ k ih =>
    intro n b h
    rcases List.mem_cons.1 h with rfl | h
    · exact Nat.mod_lt _ (by omega)
    · exact ih _ b h
theorem numH_le (k : Nat) : ∀ n, n < 256 ^ k → Crc.le (numH n k) = n := by
  induction k with
  | zero => intro n h; rw [Nat.pow_zero] at h; simp [numH, Crc.le]; omega
  | succ k ih =>
    intro n h
    rw [numH, Crc.le, ih (n / 256) (by rw [Nat.pow_succ] at h; exact Nat.div_lt_of_lt_mul (by rw [Nat.mul_comm]; exact h))]
    omega

/-! ### superblocks -/
structure Sup where
  gen : Int
  tail : Int
  owned : Int
  inc : Int
  bound : Int
  map : List Int
deriving DecidableEq
def Sup.ints (s : Sup) : List Int := s.gen :: s.tail :: s.owned :: s.inc :: s.bound :: s.map
/-- its cells -/
def Sup.cells (s : Sup) : Array Value := (s.ints.map fun z => Value.int .i64 z).toArray
def Sup.Fine (s : Sup) : Prop := s.map.length = 8 ∧ ∀ z ∈ s.ints, -9223372036854775808 ≤ z ∧ z ≤ 9223372036854775807
/-- P9.2: may it be? -/
def mayP (s : Sup) : Prop := (0 ≤ s.gen ∧ s.gen ≤ 1099511627776) ∧ (1 ≤ s.tail ∧ s.tail ≤ 1099511627776) ∧ (0 ≤ s.owned ∧ s.owned < 256) ∧ (0 ≤ s.inc ∧ s.inc ≤ 1048576) ∧ (1 ≤ s.bound ∧ s.bound ≤ 1048577) ∧ ∀ z ∈ s.map, 0 ≤ z ∧ z ≤ 4
instance (s : Sup) : Decidable (mayP s) := by unfold mayP; infer_instance
def zeros8 : List Int := List.replicate 8 0
def firstS : Sup := ⟨0, 1, 0, 0, 1, zeros8⟩
def zeroS : Sup := ⟨0, 0, 0, 0, 0, zeros8⟩
/-- its bytes -/
def supB (s : Sup) : List Nat := numH s.gen.toNat 6 ++ (numH s.tail.toNat 6 ++ (numH s.owned.toNat 1 ++ (numH s.inc.toNat 3 ++ (numH s.bound.toNat 3 ++ s.map.flatMap fun z => numH z.toNat 1))))
def supOf (b : List Nat) : Sup := ⟨(Crc.le (b.take 6) : Nat), (Crc.le ((b.drop 6).take 6) : Nat), (Crc.le ((b.drop 12).take 1) : Nat), (Crc.le ((b.drop 13).take 3) : Nat), (Crc.le ((b.drop 16).take 3) : Nat), ((b.drop 19).take 8).map fun x => ((x : Nat) : Int)⟩
theorem mapB (l : List Int) : (l.flatMap fun z => numH z.toNat 1) = l.map fun z => z.toNat % 256 := by
  induction l with
  | nil => rfl
  | cons a l ih => rw [List.flatMap_cons, ih]; rfl
theorem supB_len {s : Sup} (h : s.map.length = 8) : (supB s).length = 27 := by
  unfold supB
  rw [mapB]
  simp only [List.length_append, numH_len, List.length_map, h]
theorem supB_lt (s : Sup) : ∀ b ∈ supB s, b < 256 := by
  intro b h
  unfold supB at h
  simp only [List.mem_append, mapB, List.mem_map] at h
  rcases h with h | h | h | h | h | ⟨z, _, rfl⟩
  · exact numH_lt _ _ b h
  · exact numH_lt _ _ b h
  · exact numH_lt _ _ b h
  · exact numH_lt _ _ b h
  · exact numH_lt _ _ b h
  · exact Nat.mod_lt _ (by omega)
theorem take_front {α : Type} {a b : List α} {n : Nat} (h : a.length = n) : (a ++ b).take n = a := by rw [← h]; simp
theorem drop_front {α : Type} {a b : List α} {n m : Nat} (h : a.length = n) : (a ++ b).drop (n + m) = b.drop m := by
  rw [← h, List.drop_append, List.drop_of_length_le (by omega), List.nil_append]
  congr 1; omega
theorem sup_back {s : Sup} (h : mayP s) (hm : s.map.length = 8) : supOf (supB s) = s := by
  obtain ⟨h1, h2, h3, h4, h5, h6⟩ := h
  have e1 : ((supB s).take 6) = numH s.gen.toNat 6 := take_front (numH_len _ _)
  have d1 : ∀ m, (supB s).drop (6 + m) = (numH s.tail.toNat 6 ++ (numH s.owned.toNat 1 ++ (numH s.inc.toNat 3 ++ (numH s.bound.toNat 3 ++ s.map.flatMap fun z => numH z.toNat 1)))).drop m := fun m => drop_front (numH_len _ _)
  have e2 : ((supB s).drop 6).take 6 = numH s.tail.toNat 6 := by rw [show 6 = 6 + 0 from rfl, d1, List.drop_zero]; exact take_front (numH_len _ _)
  have e3 : ((supB s).drop 12).take 1 = numH s.owned.toNat 1 := by rw [show 12 = 6 + (6 + 0) from rfl, d1, drop_front (numH_len _ _), List.drop_zero]; exact take_front (numH_len _ _)
  have e4 : ((supB s).drop 13).take 3 = numH s.inc.toNat 3 := by rw [show 13 = 6 + (6 + (1 + 0)) from rfl, d1, drop_front (numH_len _ _), drop_front (numH_len _ _), List.drop_zero]; exact take_front (numH_len _ _)
  have e5 : ((supB s).drop 16).take 3 = numH s.bound.toNat 3 := by rw [show 16 = 6 + (6 + (1 + (3 + 0))) from rfl, d1, drop_front (numH_len _ _), drop_front (numH_len _ _), drop_front (numH_len _ _), List.drop_zero]; exact take_front (numH_len _ _)
  have e6 : ((supB s).drop 19).take 8 = s.map.map fun z => z.toNat % 256 := by
    rw [show 19 = 6 + (6 + (1 + (3 + (3 + 0)))) from rfl, d1, drop_front (numH_len _ _), drop_front (numH_len _ _), drop_front (numH_len _ _), drop_front (numH_len _ _), List.drop_zero, mapB, List.take_of_length_le (by rw [List.length_map, hm]; omega)]
  unfold supOf
  rw [e1, e2, e3, e4, e5, e6, numH_le 6 _ (by omega), numH_le 6 _ (by omega), numH_le 1 _ (by omega), numH_le 3 _ (by omega), numH_le 3 _ (by omega), List.map_map]
  have e7 : s.map.map ((fun x => ((x : Nat) : Int)) ∘ fun z => z.toNat % 256) = s.map := by
    refine (List.map_congr_left fun z hz => ?_).trans (List.map_id _)
    have := h6 z hz
    simp only [Function.comp, id]
    omega
  rw [e7]
  obtain ⟨g, t, o, i, b, m⟩ := s
  simp only at h1 h2 h3 h4 h5 ⊢
  rw [Int.toNat_of_nonneg h1.1, Int.toNat_of_nonneg (by omega), Int.toNat_of_nonneg h3.1, Int.toNat_of_nonneg h4.1, Int.toNat_of_nonneg (by omega)]

/-! ### sealed bytes in a sector -/
def allZ (b : List Nat) : Bool := decide (∀ x ∈ b, x = 0)
/-- the n bytes that are sealed in a sector -/
def openH (sec : List Nat) (n : Nat) : Option (List Nat) := if allZ (sec.drop (n + 4)) = true ∧ Crc.isSealed (sec.take (n + 4)) = true then some (sec.take n) else none
theorem open_sealed {b : List Nat} {n : Nat} (h : b.length = n) (hn : n + 4 ≤ 64) : openH (Dk.padded (Crc.sealed b)) n = some b := by
  have hl : (Crc.sealed b).length = n + 4 := by rw [Crc.sealed_length, h]
  unfold openH Dk.padded
  rw [take_front hl, List.drop_append, List.drop_of_length_le (by omega), List.nil_append, Crc.isSealed_sealed]
  rw [if_pos ⟨by unfold allZ; rw [decide_eq_true_eq]; intro x hx; exact (List.mem_replicate.1 (List.mem_of_mem_drop hx)).2, rfl⟩]
  rw [List.take_append_of_le_length (by omega)]
  unfold Crc.sealed
  rw [take_front h]
theorem open_zero : openH (List.replicate 64 0) 27 = none := by decide +kernel
theorem open_x : openH (Dk.padded [120]) 27 = none := by decide +kernel
theorem allZ_zero : allZ (List.replicate 64 0) = true := by decide +kernel
theorem allZ_x : allZ (Dk.padded [120]) = false := by decide +kernel

/-! ### a home -/
def homeB (l : List (List Nat)) : List Nat := Crc.sealed l.flatten
def cut8 (b : List Nat) : Nat → List (List Nat)
  | 0 => []
  | k + 1 => b.take 8 :: cut8 (b.drop 8) k
def blocks0 : List (List Nat) := List.replicate 4 (List.replicate 8 0)
/-- P9.1: what a home's sector is read as -/
def readHm (sec : List Nat) : Option (List (List Nat)) := if allZ sec = true then some blocks0 else (openH sec 32).map fun b => cut8 b 4
def Four (l : List (List Nat)) : Prop := l.length = 4 ∧ ∀ v ∈ l, v.length = 8 ∧ ∀ z ∈ v, z < 256
theorem cut_flat : ∀ (l : List (List Nat)), (∀ v ∈ l, v.length = 8) → cut8 l.flatten l.length = l := by
  intro l
  induction l with
  | nil => intro _; rfl
  | cons a l ih =>
    intro h
    have ha := h a List.mem_cons_self
    rw [List.length_cons, cut8, List.flatten_cons, take_front ha, show 8 = 8 + 0 from rfl, drop_front ha, List.drop_zero, ih fun v hv => h v (List.mem_cons_of_mem _ hv)]
theorem flat_len8 : ∀ (l : List (List Nat)), (∀ v ∈ l, v.length = 8) → l.flatten.length = 8 * l.length := by
  intro l
  induction l with
  | nil => intro _; rfl
  | cons a l ih =>
    intro h
    rw [List.flatten_cons, List.length_append, ih fun v hv => h v (List.mem_cons_of_mem _ hv), h a List.mem_cons_self, List.length_cons]; omega
theorem home_back {l : List (List Nat)} (h : Four l) : readHm (Dk.padded (homeB l)) = some l := by
  have h8 : ∀ v ∈ l, v.length = 8 := fun v hv => (h.2 v hv).1
  have hf : l.flatten.length = 32 := by rw [flat_len8 l h8, h.1]
  unfold readHm homeB
  by_cases hz : allZ (Dk.padded (Crc.sealed l.flatten)) = true
  · rw [if_pos hz]
    unfold allZ at hz
    rw [decide_eq_true_eq] at hz
    have h0 : ∀ v ∈ l, v = List.replicate 8 0 := fun v hv => by
      rw [List.eq_replicate_iff]
      refine ⟨h8 v hv, fun x hx => hz x ?_⟩
      unfold Dk.padded Crc.sealed
      exact List.mem_append_left _ (List.mem_append_left _ (List.mem_flatten.2 ⟨v, hv, hx⟩))
    have : l = blocks0 := by unfold blocks0; rw [List.eq_replicate_iff]; exact ⟨h.1, h0⟩
    rw [this]
  · rw [if_neg hz, open_sealed hf (by omega), Option.map_some]
    have := cut_flat l h8
    rw [h.1] at this
    rw [this]
theorem homeB_len {l : List (List Nat)} (h : Four l) : (homeB l).length = 36 := by
  unfold homeB
  rw [Crc.sealed_length, flat_len8 l fun v hv => (h.2 v hv).1, h.1]
theorem homeB_lt {l : List (List Nat)} (h : Four l) : ∀ x ∈ homeB l, x < 256 := Crc.sealed_lt fun x hx => by
  obtain ⟨v, hv, hx⟩ := List.mem_flatten.1 hx
  exact (h.2 v hv).2 x hx
/-- a home of which a byte is changed -/
theorem home_torn {l : List (List Nat)} (h : Four l) (i x : Nat) (hi : i < 64) (hx0 : x ≠ 0) (hx : x < 256) (sec : List Nat) (hs : sec = (Dk.padded (homeB l)).set i (((Dk.padded (homeB l)).getD i 0) ^^^ x)) : readHm sec = none ∨ readHm sec = some blocks0 := by
  have hl := homeB_len h
  have hP : (Dk.padded (homeB l)).length = 64 := by unfold Dk.padded; simp [hl]
  unfold readHm
  by_cases hz : allZ sec = true
  · rw [if_pos hz]; exact Or.inr rfl
  rw [if_neg hz]
  refine Or.inl ?_
  have key : openH sec 32 = none := by
    unfold openH
    rw [if_neg ?_]
    rintro ⟨h1, h2⟩
    by_cases hi2 : i < 36
    · have e1 : sec.take 36 = (homeB l).set i ((homeB l).getD i 0 ^^^ x) := by
        rw [hs, List.take_set]
        unfold Dk.padded
        rw [take_front hl]
        congr 2
        rw [List.getD_eq_getElem?_getD, List.getD_eq_getElem?_getD, List.getElem?_append_left (by omega)]
      have hlt := homeB_lt h
      have hget : (homeB l)[i]? = some ((homeB l).getD i 0) := by rw [List.getD_eq_getElem?_getD, List.getElem?_eq_getElem (by omega)]; rfl
      have hv : (homeB l).getD i 0 < 256 := hlt _ (List.mem_of_getElem? hget)
      generalize hg : (homeB l).getD i 0 = v at *
      have hsplit : homeB l = (homeB l).take i ++ (v :: (homeB l).drop (i + 1)) := by
        have h3 : (homeB l)[i]'(by omega) = v := by have h4 := List.getElem?_eq_some_iff.1 hget; exact h4.2
        rw [← h3, List.getElem_cons_drop, List.take_append_drop]
      have hset : (homeB l).set i (v ^^^ x) = (homeB l).take i ++ ((v ^^^ x) :: (homeB l).drop (i + 1)) := by
        rw [List.set_eq_take_append_cons_drop, if_pos (by omega)]
      have hti : ((homeB l).take i).length = i := by rw [List.length_take]; omega
      have hne : v ^^^ x < 256 := Nat.xor_lt_two_pow (n := 8) hv hx
      have hb : Crc.isSealed ((homeB l).set i (v ^^^ x)) = false := by
        refine Crc.burst (s := homeB l) (e := x) (at_ := 8 * i) hlt ?_ (by rw [List.length_set]) hx0 (by omega) (by omega) ?_ (Crc.isSealed_sealed _)
        · intro b hb
          rcases List.mem_or_eq_of_mem_set hb with hb | rfl
          · exact hlt b hb
          · exact hne
        · rw [hset]
          conv => rhs; rw [hsplit]
          rw [Crc.le_append, Crc.le_append, hti]
          simp only [Crc.le]
          generalize Crc.le ((homeB l).drop (i + 1)) = R
          generalize hA : Crc.le ((homeB l).take i) = A
          have hAlt : A < 2 ^ (8 * i) := by
            have := Crc.le_lt (bs := (homeB l).take i) fun b hb => hlt b (List.mem_of_mem_take hb)
            rw [hti, hA] at this; exact this
          have q : ∀ y : Nat, A + 2 ^ (8 * i) * y = (2 ^ (8 * i) * y) ^^^ A := fun y => by
            have h5 := Crc.split_xor (8 * i) (A + 2 ^ (8 * i) * y)
            rw [Nat.add_mul_div_left _ _ (Nat.two_pow_pos _), Nat.div_eq_of_lt hAlt, Nat.zero_add, Nat.add_mul_mod_self_left, Nat.mod_eq_of_lt hAlt] at h5
            exact h5
          rw [q, q, Crc.add_shift _ _ hne, Crc.add_shift _ _ hv]
          have m : ∀ a b : Nat, 2 ^ (8 * i) * (a ^^^ b) = (2 ^ (8 * i) * a) ^^^ (2 ^ (8 * i) * b) := fun a b => by
            simp only [Nat.mul_comm (2 ^ (8 * i)), ← Nat.shiftLeft_eq, Nat.shiftLeft_xor_distrib]
          simp only [m]
          generalize 2 ^ (8 * i) * v = a1
          generalize 2 ^ (8 * i) * x = a2
          generalize 2 ^ (8 * i) * (256 * R) = a3
          rw [Nat.xor_assoc a1 a2 a3, Nat.xor_comm a2 a3, ← Nat.xor_assoc a1 a3 a2, Nat.xor_assoc (a1 ^^^ a3) a2 A, Nat.xor_comm a2 A, ← Nat.xor_assoc (a1 ^^^ a3) A a2]
      rw [show 32 + 4 = 36 from rfl, e1, hb] at h2
      cases h2
    · have h6 : sec[i]? = some x := by
        have h7 : (Dk.padded (homeB l)).getD i 0 = 0 := by
          unfold Dk.padded
          rw [List.getD_eq_getElem?_getD, List.getElem?_append_right (by omega), List.getElem?_replicate]
          split <;> rfl
        rw [hs, h7, Nat.zero_xor, List.getElem?_set_self (by omega)]
      unfold allZ at h1
      rw [decide_eq_true_eq] at h1
      refine hx0 (h1 x ?_)
      have h8 : (sec.drop 36)[i - 36]? = some x := by rw [List.getElem?_drop, show 36 + (i - 36) = i by omega, h6]
      exact List.mem_of_getElem? h8
  rw [key]; rfl

/-! ### the superblock of a disk -/
def readSp (i : Int) (sec : List Nat) : Option Sup := match openH sec 27 with
  | some b => if mayP (supOf b) ∧ (supOf b).gen % 2 = i then some (supOf b) else none
  | none => none
/-- P9.2: the superblock of two sectors, or none -/
def getSp (s0 s1 : List Nat) : Option Sup := match readSp 0 s0, readSp 1 s1 with
  | some x, some y => if x.gen < y.gen then some y else some x
  | some x, none => some x
  | none, some y => some y
  | none, none => if allZ s0 = true ∧ allZ s1 = true then some firstS else none
def supSec (s : Sup) : List Nat := Dk.padded (Crc.sealed (supB s))
theorem read_sup {s : Sup} (h : mayP s) (hm : s.map.length = 8) (i : Int) (hi : s.gen % 2 = i) : readSp i (supSec s) = some s := by
  unfold readSp supSec
  rw [open_sealed (supB_len hm) (by omega)]
  simp only [sup_back h hm]
  rw [if_pos ⟨h, hi⟩]
theorem read_zero (i : Int) : readSp i (List.replicate 64 0) = none := by
  unfold readSp
  rw [open_zero]
theorem read_x (i : Int) : readSp i (Dk.padded [120]) = none := by
  unfold readSp
  rw [open_x]
theorem get_first : getSp (List.replicate 64 0) (List.replicate 64 0) = some firstS := by
  unfold getSp
  rw [read_zero, read_zero]
  simp only
  rw [if_pos ⟨allZ_zero, allZ_zero⟩]
theorem get_spoilt : getSp (Dk.padded [120]) (Dk.padded [120]) = none := by
  unfold getSp
  rw [read_x, read_x]
  simp only
  rw [if_neg (by rw [allZ_x]; simp)]
end Go.Proofs.Ytgkbhdecohlpmaa
end

section
/-
  What the calls of home answer (contracts, over which the laws are proved).
-/
namespace Go.Proofs.Ytgkbhdecohlpmaa
set_option maxRecDepth 100000
open Go.RowKit
set_option maxRecDepth 100000

def VFine (l : List (List Nat)) : Prop := ∀ v ∈ l, v.length = 8 ∧ ∀ z ∈ v, z < 256
def Few (d : Dk.Dk) : Prop := ∀ n, n < 34 → (d.cache n).length ≤ 1000
/-- P9.1: Put's error, the disk being up -/
def putHE (z : Int) (n : Nat) : Int := if 0 ≤ z ∧ z < 8 ∧ n = 4 then 0 else 2
def putD (d : Dk.Dk) (z : Int) (l : List (List Nat)) : Dk.Dk := if putHE z l.length = 0 then d.write (26 + z.toNat) (homeB l) else d
def putSD (d : Dk.Dk) (s : Sup) : Dk.Dk := if mayP s then d.write (s.gen % 2).toNat (Crc.sealed (supB s)) else d
def PutHSays : Prop := ∀ (w : World) (S : Nat → Prop) (a : Nat) (d : Dk.Dk) (z : Int) (l : List (List Nat)) (A : Option Addr) (c : Nat), Dk.Disk w S a d → d.down = false → Few d → VFine l → By w w.heap.size A l.flatten → l.length ≤ c → c ≤ maxLen → -9223372036854775808 ≤ z ∧ z ≤ 9223372036854775807 →
  Calls Try.prog 8 #[.pointer (some ⟨a, 0, none⟩), .int .i64 z, .slice A l.length c] w fun e w' => e = .returned (.int .i64 (putHE z l.length)) ∧ Dk.Goes w w' S a (putD d z l)
def PutHNil : Prop := ∀ (z : Int) (n : Nat) (A : Option Addr) (c : Nat) (w : World), n ≤ maxLen →
  Calls Try.prog 8 #[.pointer none, .int .i64 z, .slice A n c] w fun e w' => e = .returned (.int .i64 1) ∧ Below w.heap.size w w'
def GetHSays : Prop := ∀ (w : World) (S : Nat → Prop) (a : Nat) (d : Dk.Dk) (n : Nat), Dk.Disk w S a d → d.down = false → n < 8 →
  Calls Try.prog 9 #[.pointer (some ⟨a, 0, none⟩), .int .i64 (n : Int)] w fun e w' => ∃ A c,
    e = .returned (.tuple #[.slice A ((readHm (d.newest (26 + n))).getD []).length c, .int .i64 (if (readHm (d.newest (26 + n))).isSome then 0 else 40)]) ∧
    By w' w'.heap.size A ((readHm (d.newest (26 + n))).getD []).flatten ∧ ((readHm (d.newest (26 + n))).getD []).length ≤ c ∧ c ≤ maxLen ∧ Below w.heap.size w w'
def GetHNil : Prop := ∀ (z : Int) (w : World),
  Calls Try.prog 9 #[.pointer none, .int .i64 z] w fun e w' => ∃ A c, e = .returned (.tuple #[.slice A 0 c, .int .i64 1]) ∧ Below w.heap.size w w'
def PutSSays : Prop := ∀ (w : World) (S : Nat → Prop) (a : Nat) (d : Dk.Dk) (s : Sup), Dk.Disk w S a d → d.down = false → Few d → s.Fine →
  Calls Try.prog 12 #[.pointer (some ⟨a, 0, none⟩), .agg s.cells] w fun e w' => e = .returned (.int .i64 (if mayP s then 0 else 2)) ∧ Dk.Goes w w' S a (putSD d s)
def PutSNil : Prop := ∀ (s : Sup) (w : World), s.Fine →
  Calls Try.prog 12 #[.pointer none, .agg s.cells] w fun e w' => e = .returned (.int .i64 1) ∧ Below w.heap.size w w'
def supAt (d : Dk.Dk) : Option Sup := getSp (d.newest 0) (d.newest 1)
def GetSSays : Prop := ∀ (w : World) (S : Nat → Prop) (a : Nat) (d : Dk.Dk), Dk.Disk w S a d → d.down = false →
  Calls Try.prog 15 #[.pointer (some ⟨a, 0, none⟩)] w fun e w' => ∃ s : Sup,
    e = .returned (.tuple #[.agg s.cells, .int .i64 (if (supAt d).isSome then 0 else 40)]) ∧ s.Fine ∧ (∀ x, supAt d = some x → s = x) ∧ Below w.heap.size w w'
def GetSNil : Prop := ∀ (w : World),
  Calls Try.prog 15 #[.pointer none] w fun e w' => e = .returned (.tuple #[.agg zeroS.cells, .int .i64 1]) ∧ Below w.heap.size w w'
def MayHSays : Prop := ∀ (s : Sup) (w : World), s.Fine →
  Calls Try.prog 11 #[.agg s.cells] w fun e w' => e = .returned (.bool (decide (mayP s))) ∧ Below w.heap.size w w'
def FirstHSays : Prop := ∀ (w : World),
  Calls Try.prog 20 #[] w fun e w' => e = .returned (.agg firstS.cells) ∧ Below w.heap.size w w'
structure Calls9 : Prop where
  put : PutHSays
  putNil : PutHNil
  get : GetHSays
  getNil : GetHNil
  puts : PutSSays
  putsNil : PutSNil
  gets : GetSSays
  getsNil : GetSNil
  may : MayHSays
  first : FirstHSays

/-! ### a superblock's cells -/
theorem sup_map {s : Sup} (h : s.Fine) : ∃ a b c d e f g i, s.map = [a, b, c, d, e, f, g, i] := by
  obtain ⟨h, _⟩ := h
  obtain ⟨_, _, _, _, _, m⟩ := s
  simp only at h ⊢
  match m, h with
  | [a, b, c, d, e, f, g, i], _ => exact ⟨a, b, c, d, e, f, g, i, rfl⟩
theorem sup_cells (g t o i b : Int) (a0 a1 a2 a3 a4 a5 a6 a7 : Int) : (Sup.mk g t o i b [a0, a1, a2, a3, a4, a5, a6, a7]).cells = #[.int .i64 g, .int .i64 t, .int .i64 o, .int .i64 i, .int .i64 b, .int .i64 a0, .int .i64 a1, .int .i64 a2, .int .i64 a3, .int .i64 a4, .int .i64 a5, .int .i64 a6, .int .i64 a7] := rfl
theorem first_cells : firstS.cells = #[.int .i64 0, .int .i64 1, .int .i64 0, .int .i64 0, .int .i64 1, .int .i64 0, .int .i64 0, .int .i64 0, .int .i64 0, .int .i64 0, .int .i64 0, .int .i64 0, .int .i64 0] := rfl
theorem zero_cells : zeroS.cells = #[.int .i64 0, .int .i64 0, .int .i64 0, .int .i64 0, .int .i64 0, .int .i64 0, .int .i64 0, .int .i64 0, .int .i64 0, .int .i64 0, .int .i64 0, .int .i64 0, .int .i64 0] := rfl
end Go.Proofs.Ytgkbhdecohlpmaa
end

section
/-
  What the document says of a crash that keeps the first of two writes.
-/
namespace Go.Proofs.Ytgkbhdecohlpmaa.Dk
set_option maxRecDepth 100000
open Go.RowKit Go.Maps Go.MapKept Go.ChangeMaps

/-- A disk of the call's own. -/
structure Mine (w W : World) (S : Nat → Prop) (a : Nat) (d : Dk) : Prop where
  disk : Disk W S a d
  new : ∀ k, S k → w.heap.size ≤ k
  keeps : Below w.heap.size w W
section
variable {w W W' : World} {S : Nat → Prop} {a : Nat} {d d' : Dk}
theorem Mine.step (h : Mine w W S a d) (hg : Goes W W' S a d') : ∃ S', Mine w W' S' a d' := by
  obtain ⟨S', hd, hk, hs⟩ := hg
  refine ⟨S', hd, fun k hk' => ?_, h.keeps.trans (hk.to_below h.keeps.size (fun k hk1 hk2 => by have := h.new k hk2; omega))⟩
  rcases hs k hk' with h1 | h1
  · exact h.new k h1
  · exact Nat.le_trans h.keeps.size h1
theorem Mine.below (h : Mine w W S a d) (hb : Below W.heap.size W W') : Mine w W' S a d := ⟨h.disk.below hb (Nat.le_refl _), h.new, h.keeps.trans (hb.mono h.keeps.size)⟩
theorem Mine.alloc (h : Mine w W S a d) (o : Obj) : Mine w (W.alloc o) S a d := h.below ((Below.refl _ W).alloc (Nat.le_refl _) o)
end
theorem fresh_mine (w W : World) (hB : Below w.heap.size w W) : Calls Try.prog 7 #[] W fun e w' => e = .returned (.pointer (some ⟨W.heap.size, 0, none⟩)) ∧ ∃ S, Mine w w' S W.heap.size Dk.fresh :=
  (new_disk W).mono fun e w' ⟨he, hd, hb, _⟩ => ⟨he, _, hd, fun k hk => by rw [hk]; exact hB.size, hB.trans (hb.mono hB.size)⟩
/-- The disk of the example. -/
def dk1 : Dk := (Dk.fresh.write 5 [97]).flush
def dk2 : Dk := (dk1.write 5 [98]).write 5 [99]
def dk3 : Dk := { dk2.crash [(5, 1)] with down := false }
theorem dk3_read : dk3.newest 5 = padded [98] := by rfl
theorem write_len (d : Dk) (n : Nat) (bs : List Nat) {k L : Nat} (h : (d.cache k).length ≤ L) : ((d.write n bs).cache k).length ≤ L + 1 := by
  show (upd d.cache n (d.cache n ++ [padded bs]) k).length ≤ L + 1
  by_cases e : k = n
  · subst e; rw [upd_same]; simpa using h
  · rw [upd_other _ _ e]; omega

theorem wstep {w W : World} {S : Nat → Prop} {a : Nat} {d : Dk} (h : Mine w W S a d) (hd : d.down = false) (hl : (d.cache 5).length ≤ 1000000000) (c : Nat) (hc : c < 256) :
    Calls Try.prog 19 #[.pointer (some ⟨a, 0, none⟩), .int .i64 5, .slice (some ⟨W.heap.size, 0, none⟩) 1 1] (W.alloc (.cells #[.int .u8 (c : Int)] 5 (1, 2))) fun e w' => e = .returned (.int .i64 0) ∧ ∃ S', Mine w w' S' a (d.write 5 [c]) := by
  have h1 := h.alloc (.cells #[.int .u8 (c : Int)] 5 (1, 2))
  have hy : By (W.alloc (.cells #[.int .u8 (c : Int)] 5 (1, 2))) (W.alloc (.cells #[.int .u8 (c : Int)] 5 (1, 2))).heap.size (some ⟨W.heap.size, 0, none⟩) [c] :=
    (By.of_row (heap_alloc_new' W _) (by rfl) (fun x hx => by rw [List.mem_singleton] at hx; omega)).mono (by simp)
  exact (write_ok h1.disk hd (n := 5) (by omega) hy (by simp) hl).mono fun e w' ⟨he, hg⟩ => ⟨he, h1.step hg⟩

end Go.Proofs.Ytgkbhdecohlpmaa.Dk
end

section
/-
  wakes, by contract, over what home's calls are to answer: the document's own examples.
-/
namespace Go.Proofs.Ytgkbhdecohlpmaa
set_option maxRecDepth 100000
open Go.RowKit Dk
set_option maxRecDepth 100000

/-- A disk of the call's own, and blocks beside it that stay as they are. -/
structure Held (w W : World) (S : Nat → Prop) (a : Nat) (d : Dk.Dk) (L : List (Nat × Obj)) : Prop where
  mine : Mine w W S a d
  keeps : ∀ x ∈ L, ¬ S x.1 ∧ W.heap[x.1]? = some x.2
section
variable {w W W' : World} {S : Nat → Prop} {a : Nat} {d d' : Dk.Dk} {L : List (Nat × Obj)}
theorem lt_of_obj {W : World} {k : Nat} {o : Obj} (h : W.heap[k]? = some o) : k < W.heap.size := by
  rcases Nat.lt_or_ge k W.heap.size with h1 | h1
  · exact h1
  · rw [Array.getElem?_eq_none h1] at h; cases h
theorem Held.step (h : Held w W S a d L) (hg : Goes W W' S a d') : ∃ S', Held w W' S' a d' L := by
  obtain ⟨S', hd, hk, hs⟩ := hg
  refine ⟨S', ⟨hd, fun k hk' => ?_, h.mine.keeps.trans (hk.to_below h.mine.keeps.size (fun k hk1 hk2 => by have := h.mine.new k hk2; omega))⟩, fun x hx => ?_⟩
  · rcases hs k hk' with h1 | h1
    · exact h.mine.new k h1
    · exact Nat.le_trans h.mine.keeps.size h1
  · obtain ⟨h1, h2⟩ := h.keeps x hx
    have h3 := lt_of_obj h2
    refine ⟨fun h4 => ?_, (hk.block _ h3 h1).trans h2⟩
    rcases hs _ h4 with h5 | h5
    · exact h1 h5
    · omega
theorem Held.below (h : Held w W S a d L) (hb : Below W.heap.size W W') : Held w W' S a d L :=
  ⟨h.mine.below hb, fun x hx => ⟨(h.keeps x hx).1, (hb.block _ (lt_of_obj (h.keeps x hx).2)).trans (h.keeps x hx).2⟩⟩
theorem Held.alloc (h : Held w W S a d L) (o : Obj) : Held w (W.alloc o) S a d L := h.below ((Below.refl _ W).alloc (Nat.le_refl _) o)
/-- a new block that stays -/
theorem Held.push (h : Held w W S a d L) (cs : Array Value) (t : TypeId) (fr : Nat × Nat) : Held w (W.alloc (.cells cs t fr)) S a d ((W.heap.size, .cells cs t fr) :: L) := by
  refine ⟨(h.alloc _).mine, fun x hx => ?_⟩
  rcases List.mem_cons.1 hx with rfl | hx
  · exact ⟨fun h1 => by have := h.mine.disk.old _ h1; omega, heap_alloc_new' W _⟩
  · exact (h.alloc _).keeps x hx
end
theorem hstep {w W : World} {S : Nat → Prop} {a : Nat} {d : Dk.Dk} {L : List (Nat × Obj)} (h : Held w W S a d L) (hd : d.down = false) (n : Nat) (hn : n < 34) (hl : (d.cache n).length ≤ 1000000000) (c : Nat) (hc : c < 256) (m : Nat) (hm : m = W.heap.size) :
    Calls Try.prog 19 #[.pointer (some ⟨a, 0, none⟩), .int .i64 (n : Int), .slice (some ⟨m, 0, none⟩) 1 1] (W.alloc (.cells #[.int .u8 (c : Int)] 5 (1, 2))) fun e w' => e = .returned (.int .i64 0) ∧ ∃ S', Held w w' S' a (d.write n [c]) L := by
  subst hm
  have h1 := h.alloc (.cells #[.int .u8 (c : Int)] 5 (1, 2))
  have hy : By (W.alloc (.cells #[.int .u8 (c : Int)] 5 (1, 2))) (W.alloc (.cells #[.int .u8 (c : Int)] 5 (1, 2))).heap.size (some ⟨W.heap.size, 0, none⟩) [c] :=
    (By.of_row (heap_alloc_new' W _) (by rfl) (fun x hx => by rw [List.mem_singleton] at hx; omega)).mono (by simp)
  exact (write_ok h1.mine.disk hd (n := n) (by omega) hy (by simp) hl).mono fun e w' ⟨he, hg⟩ => ⟨he, h1.step hg⟩
/-- a row of 13 cells, cell by cell -/
theorem cells13 {W : World} {b : Nat} {t : TypeId} {fr : Nat × Nat} {v0 v1 v2 v3 v4 v5 v6 v7 v8 v9 v10 v11 v12 : Value} (h : W.heap[b]? = some (.cells #[v0, v1, v2, v3, v4, v5, v6, v7, v8, v9, v10, v11, v12] t fr)) :
    W.cell? ⟨b, 0, none⟩ = some v0 ∧ W.cell? ⟨b, 1, none⟩ = some v1 ∧ W.cell? ⟨b, 2, none⟩ = some v2 ∧ W.cell? ⟨b, 3, none⟩ = some v3 ∧ W.cell? ⟨b, 4, none⟩ = some v4 ∧ W.cell? ⟨b, 5, none⟩ = some v5 ∧ W.cell? ⟨b, 6, none⟩ = some v6 ∧ W.cell? ⟨b, 7, none⟩ = some v7 ∧ W.cell? ⟨b, 8, none⟩ = some v8 ∧ W.cell? ⟨b, 9, none⟩ = some v9 ∧ W.cell? ⟨b, 10, none⟩ = some v10 ∧ W.cell? ⟨b, 11, none⟩ = some v11 ∧ W.cell? ⟨b, 12, none⟩ = some v12 := by
  refine ⟨?_, ?_, ?_, ?_, ?_, ?_, ?_, ?_, ?_, ?_, ?_, ?_, ?_⟩ <;> (rw [cell_of_row _ b _ _ _ _ h]; rfl)
def hk1 : Dk.Dk := Dk.fresh.write 0 [120]
def hk2 : Dk.Dk := hk1.write 1 [120]
theorem fresh_sup : supAt Dk.fresh = some firstS := get_first
theorem hk2_sup : supAt hk2 = none := get_spoilt
set_option maxHeartbeats 4000000 in
theorem wakes9_of (C : Calls9) (w : World) : Calls Try.prog 13 #[] w fun e w' => e = .returned (.bool true) ∧ Below w.heap.size w w' := by
  have kc := fun (w : World) (C : Array Value) (n c : Nat) => Lib.run_convert_bytes_const (P := Try.prog) w 44 5 C n c Try.underlying44 Try.underlying5
  obtain ⟨a, ha⟩ : ∃ a, a = w.heap.size := ⟨_, rfl⟩
  have H0 := Lib.hid (show Calls Try.prog 7 #[] w fun e w' => e = .returned (.pointer (some ⟨a, 0, none⟩)) ∧ ∃ S, Mine w w' S a Dk.fresh by rw [ha]; exact fresh_mine w w (Below.refl _ _))
  clear ha
  have HC := Lib.hid C
  clear C
  go_enter Try.func13, Try.ntmps13
  go_wp2_with fail
  refine H0.out.mono ?_
  rintro e w1 ⟨rfl, S1, h1⟩
  have M1 := Lib.hid h1
  have H1 := Lib.hid (HC.out.gets _ _ _ _ h1.disk rfl)
  clear h1 H0
  go_wp2_with fail
  refine H1.out.mono ?_
  rintro e w2 ⟨s, rfl, _, hs, hb2⟩
  obtain rfl := hs _ fresh_sup
  have hm := (Held.mk (L := []) M1.out (fun _ hx => by cases hx)).below hb2
  have hp := hm.push #[.int .i64 0, .int .i64 1, .int .i64 0, .int .i64 0, .int .i64 1, .int .i64 0, .int .i64 0, .int .i64 0, .int .i64 0, .int .i64 0, .int .i64 0, .int .i64 0, .int .i64 0] 25 (0, 0)
  have H2 := Lib.hid (hstep hp rfl 0 (by omega) (by simp [Dk.fresh]) 120 (by omega) (w2.heap.size + 1) (by simp))
  have k2 := kc (w2.alloc (.cells #[.int .i64 0, .int .i64 1, .int .i64 0, .int .i64 0, .int .i64 1, .int .i64 0, .int .i64 0, .int .i64 0, .int .i64 0, .int .i64 0, .int .i64 0, .int .i64 0, .int .i64 0] 25 (0, 0))) #[.int .u8 120] 1 1
  rw [show (w2.alloc (.cells #[.int .i64 0, .int .i64 1, .int .i64 0, .int .i64 0, .int .i64 1, .int .i64 0, .int .i64 0, .int .i64 0, .int .i64 0, .int .i64 0, .int .i64 0, .int .i64 0, .int .i64 0] 25 (0, 0))).heap.size = w2.heap.size + 1 by simp] at k2
  clear hm hp hs hb2 M1 H1
  generalize hb : w2.heap.size = b
  rw [hb] at H2 k2
  rw [first_cells]
  go_wp2_with fail
  refine H2.out.mono ?_
  rintro e w3 ⟨rfl, S3, h3⟩
  have H3 := Lib.hid (hstep (d := hk1) h3 rfl 1 (by omega) (by simp [hk1, Dk.write, Dk.fresh, upd]) 120 (by omega) _ rfl)
  clear h3 H2 k2
  go_wp2_with fail
  refine H3.out.mono ?_
  rintro e w4 ⟨rfl, S4, h4⟩
  have M4 := Lib.hid h4
  have H4 := Lib.hid (HC.out.gets _ _ _ hk2 h4.mine.disk rfl)
  clear h4 H3
  rw [hk2_sup] at H4
  go_wp2_with fail
  refine H4.out.mono ?_
  rintro e w5 ⟨s5, rfl, hf5, _, hb5⟩
  have M5 := M4.out.below hb5
  have HB := Lib.hid M5.mine.keeps
  obtain ⟨g5, t5, o5, i5, b5, m5⟩ := s5
  obtain ⟨x0, x1, x2, x3, x4, x5, x6, x7, hx⟩ := sup_map hf5
  simp only at hx
  subst hx
  rw [sup_cells]
  have hcell := ((M5.alloc (.cells #[.int .i64 g5, .int .i64 t5, .int .i64 o5, .int .i64 i5, .int .i64 b5, .int .i64 x0, .int .i64 x1, .int .i64 x2, .int .i64 x3, .int .i64 x4, .int .i64 x5, .int .i64 x6, .int .i64 x7] 25 (0, 0))).keeps _ List.mem_cons_self).2
  have c1 := cell_of_row _ b 1 _ _ _ hcell
  have c4 := cell_of_row _ b 4 _ _ _ hcell
  have c0 := cell_of_row _ b 0 _ _ _ hcell
  simp only [List.getElem?_toArray, List.getElem?_cons_zero, List.getElem?_cons_succ] at c0 c1 c4
  clear hcell M5 hf5 hb5 M4 H4
  go_wp2
  go_ret
  exact ⟨rfl, HB.out.alloc HB.out.size _⟩
end Go.Proofs.Ytgkbhdecohlpmaa
end
