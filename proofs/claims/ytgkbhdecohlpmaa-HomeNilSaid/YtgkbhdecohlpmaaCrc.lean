/-
  Plain mathematics of layer 1: one step of the remainder on natural numbers, its linearity, the sum of bytes, the table of half bytes, changes within 32 bits.
-/
import Derived.Test.YtgkbhdecohlpmaaRows
namespace Go.Proofs.Ytgkbhdecohlpmaa.Crc

/-- one bit of the remainder -/
def sh (x : Nat) : Nat := if x % 2 = 1 then (x / 2) ^^^ 3988292384 else x / 2
/-- n bits -/
def shn : Nat → Nat → Nat
  | 0, x => x
  | n + 1, x => shn n (sh x)

theorem xor_mod2 (x y : Nat) : (x ^^^ y) % 2 = (x % 2 + y % 2) % 2 := by
  have h : (x ^^^ y) % 2 ^ 1 = (x % 2 ^ 1) ^^^ (y % 2 ^ 1) := Nat.xor_mod_two_pow
  simp only [Nat.pow_one] at h
  rw [h]
  rcases Nat.mod_two_eq_zero_or_one x with a | a <;> rcases Nat.mod_two_eq_zero_or_one y with b | b <;> rw [a, b] <;> rfl
theorem xor_half (x y : Nat) : (x ^^^ y) / 2 = (x / 2) ^^^ (y / 2) := by
  have h : (x ^^^ y) / 2 ^ 1 = (x / 2 ^ 1) ^^^ (y / 2 ^ 1) := Nat.xor_div_two_pow
  simpa only [Nat.pow_one] using h
theorem sh_xor (x y : Nat) : sh (x ^^^ y) = sh x ^^^ sh y := by
  unfold sh
  rw [xor_mod2, xor_half]
  rcases Nat.mod_two_eq_zero_or_one x with a | a <;> rcases Nat.mod_two_eq_zero_or_one y with b | b <;> rw [a, b]
  · simp
  · simp [Nat.xor_assoc]
  · simp [Nat.xor_assoc, Nat.xor_comm (y / 2)]
  · simp only [Nat.reduceAdd, Nat.mod_self, Nat.reduceEqDiff, if_false, if_true]
    rw [Nat.xor_assoc, Nat.xor_comm 3988292384, Nat.xor_assoc, Nat.xor_self, Nat.xor_zero]
theorem sh_lt {x : Nat} (h : x < 4294967296) : sh x < 4294967296 := by
  unfold sh
  split
  · exact Nat.xor_lt_two_pow (n := 32) (by omega) (by decide)
  · omega
theorem sh_zero_iff {x : Nat} (h : sh x = 0) : x = 0 ∨ 4294967296 ≤ x := by
  unfold sh at h
  split at h
  · have : x / 2 = 3988292384 := by
      have e := congrArg (· ^^^ 3988292384) h
      simpa [Nat.xor_assoc] using e
    omega
  · omega
theorem shn_xor (n : Nat) : ∀ x y, shn n (x ^^^ y) = shn n x ^^^ shn n y := by
  induction n with
  | zero => intro x y; rfl
  | succ n ih => intro x y; simp only [shn]; rw [sh_xor, ih]
theorem shn_lt (n : Nat) : ∀ {x}, x < 4294967296 → shn n x < 4294967296 := by
  induction n with
  | zero => intro x h; exact h
  | succ n ih => intro x h; exact ih (sh_lt h)
theorem shn_add (m n : Nat) : ∀ x, shn (m + n) x = shn n (shn m x) := by
  induction m with
  | zero => intro x; rw [Nat.zero_add]; rfl
  | succ m ih => intro x; rw [Nat.succ_add]; exact ih _
theorem shn_succ (n x : Nat) : shn (n + 1) x = sh (shn n x) := by rw [shn_add]; rfl
theorem shn_zero (n : Nat) : shn n 0 = 0 := by
  induction n with
  | zero => rfl
  | succ n ih => exact ih
/-- a nonzero remainder stays one -/
theorem shn_ne (n : Nat) : ∀ {x}, x < 4294967296 → x ≠ 0 → shn n x ≠ 0 := by
  induction n with
  | zero => intro x _ h; exact h
  | succ n ih =>
    intro x hx h
    refine ih (sh_lt hx) fun e => ?_
    rcases sh_zero_iff e with e | e <;> omega
/-- bits that have not come to the lowest place yet -/
theorem shn_pow (n : Nat) : ∀ y, shn n (2 ^ n * y) = y := by
  induction n with
  | zero => intro y; simp [shn]
  | succ n ih =>
    intro y
    have e : 2 ^ (n + 1) * y = 2 * (2 ^ n * y) := by rw [Nat.pow_succ, Nat.mul_comm (2 ^ n) 2, Nat.mul_assoc]
    show shn n (sh (2 ^ (n + 1) * y)) = y
    have h : sh (2 ^ (n + 1) * y) = 2 ^ n * y := by
      rw [e]; unfold sh; rw [if_neg (by omega)]; omega
    rw [h]; exact ih y
theorem split_xor (n x : Nat) : x = (2 ^ n * (x / 2 ^ n)) ^^^ (x % 2 ^ n) := by
  refine Nat.eq_of_testBit_eq fun i => ?_
  rw [Nat.testBit_xor, Nat.testBit_two_pow_mul, Nat.testBit_mod_two_pow, Nat.testBit_div_two_pow]
  by_cases h : i < n
  · have : ¬ n ≤ i := by omega
    simp [h, this]
  · have : n ≤ i := by omega
    simp [h, this]
/-- n bits at once: the lowest n by the table, the others shifted -/
theorem shn_split (n x : Nat) : shn n x = (x / 2 ^ n) ^^^ shn n (x % 2 ^ n) := by
  conv => lhs; rw [split_xor n x]
  rw [shn_xor, shn_pow]
/-- the table of half bytes -/
def half (h : Nat) : Nat := shn 4 h
theorem nibble (x : Nat) : shn 4 x = (x / 16) ^^^ half (x % 16) := shn_split 4 x
theorem half_lt {h : Nat} (hh : h < 16) : half h < 4294967296 := shn_lt 4 (by omega)

/-- a byte more -/
def upd (r b : Nat) : Nat := shn 8 (r ^^^ b)
theorem upd_lt {r b : Nat} (hr : r < 4294967296) (hb : b < 256) : upd r b < 4294967296 := shn_lt 8 (Nat.xor_lt_two_pow (n := 32) hr (by omega))
theorem upd_two (r b : Nat) : upd r b = shn 4 (shn 4 (r ^^^ b)) := shn_add 4 4 _
/-- bytes -/
def rem (r : Nat) (bs : List Nat) : Nat := bs.foldl upd r
theorem rem_lt {bs : List Nat} (hb : ∀ b ∈ bs, b < 256) : ∀ {r}, r < 4294967296 → rem r bs < 4294967296 := by
  induction bs with
  | nil => intro r h; exact h
  | cons a l ih =>
    intro r h
    exact ih (fun b hm => hb b (List.mem_cons_of_mem _ hm)) (upd_lt h (hb a List.mem_cons_self))
theorem rem_append (r : Nat) (a b : List Nat) : rem r (a ++ b) = rem (rem r a) b := List.foldl_append
theorem rem_snoc (r : Nat) (a : List Nat) (b : Nat) : rem r (a ++ [b]) = upd (rem r a) b := rem_append r a [b]
/-- all bits turned about -/
def neg (x : Nat) : Nat := 4294967295 ^^^ x
theorem neg_lt {x : Nat} (h : x < 4294967296) : neg x < 4294967296 := Nat.xor_lt_two_pow (n := 32) (by decide) h
theorem xor_twice (a x : Nat) : a ^^^ (a ^^^ x) = x := by rw [← Nat.xor_assoc, Nat.xor_self, Nat.zero_xor]
theorem neg_def (x : Nat) : neg x = 4294967295 ^^^ x := by rw [neg]
theorem neg_neg (x : Nat) : neg (neg x) = x := by rw [neg_def (neg x), neg_def x, xor_twice]
/-- P1.1: Join, Sum -/
def join (s : Nat) (bs : List Nat) : Nat := neg (rem (neg s) bs)
def sum (bs : List Nat) : Nat := join 0 bs
theorem join_lt {s : Nat} {bs : List Nat} (hs : s < 4294967296) (hb : ∀ b ∈ bs, b < 256) : join s bs < 4294967296 := neg_lt (rem_lt hb (neg_lt hs))
theorem sum_lt {bs : List Nat} (hb : ∀ b ∈ bs, b < 256) : sum bs < 4294967296 := join_lt (by omega) hb
theorem join_append (s : Nat) (a b : List Nat) : join (join s a) b = join s (a ++ b) := by
  unfold join; rw [neg_neg, rem_append]
theorem rem_nil (r : Nat) : rem r [] = r := rfl
theorem join_nil (s : Nat) : join s [] = s := by unfold join; rw [rem_nil, neg_neg]
/-- the sum's bytes, the lowest first -/
def tail (s : Nat) : List Nat := [s % 256, s / 256 % 256, s / 65536 % 256, s / 16777216 % 256]
def sealed (bs : List Nat) : List Nat := bs ++ tail (sum bs)
theorem tail_lt (s : Nat) : ∀ b ∈ tail s, b < 256 := by
  intro b hb
  simp only [tail, List.mem_cons, List.not_mem_nil, or_false] at hb
  rcases hb with rfl | rfl | rfl | rfl <;> omega
theorem sealed_lt {bs : List Nat} (hb : ∀ b ∈ bs, b < 256) : ∀ b ∈ sealed bs, b < 256 := by
  intro b hm
  rcases List.mem_append.1 hm with h | h
  · exact hb b h
  · exact tail_lt _ b h
theorem sealed_length (bs : List Nat) : (sealed bs).length = bs.length + 4 := by simp [sealed, tail]
/-- whether bytes are sealed -/
def isSealed (bs : List Nat) : Bool := decide (4 ≤ bs.length) && decide (bs.drop (bs.length - 4) = tail (sum (bs.take (bs.length - 4))))
theorem isSealed_sealed (bs : List Nat) : isSealed (sealed bs) = true := by
  unfold isSealed
  rw [sealed_length, Nat.add_sub_cancel]
  simp [sealed]

/-- bytes as one number, the lowest first -/
def le : List Nat → Nat
  | [] => 0
  | b :: l => b + 256 * le l
theorem le_lt {bs : List Nat} (hb : ∀ b ∈ bs, b < 256) : le bs < 2 ^ (8 * bs.length) := by
  induction bs with
  | nil => simp [le]
  | cons a l ih =>
    have h1 := ih fun b hm => hb b (List.mem_cons_of_mem _ hm)
    have h2 := hb a List.mem_cons_self
    have e : 2 ^ (8 * (a :: l).length) = 256 * 2 ^ (8 * l.length) := by
      rw [List.length_cons, Nat.mul_add, Nat.pow_add, Nat.mul_comm]
    rw [e]; simp only [le]; omega
theorem add_shift (a m : Nat) (h : a < 256) : a + 256 * m = a ^^^ (256 * m) := by
  have h1 := split_xor 8 (a + 256 * m)
  have h2 : (a + 256 * m) / 2 ^ 8 = m := by show (a + 256 * m) / 256 = m; omega
  have h3 : (a + 256 * m) % 2 ^ 8 = a := by show (a + 256 * m) % 256 = a; omega
  rw [h2, h3, Nat.xor_comm] at h1
  exact h1
/-- the remainder of bytes is that of their number -/
theorem rem_le (bs : List Nat) (hb : ∀ b ∈ bs, b < 256) : ∀ r, rem r bs = shn (8 * bs.length) (r ^^^ le bs) := by
  induction bs with
  | nil => intro r; simp [rem, le, shn]
  | cons a l ih =>
    intro r
    have h1 := ih (fun b hm => hb b (List.mem_cons_of_mem _ hm)) (upd r a)
    have h2 := hb a List.mem_cons_self
    have e : 8 * (a :: l).length = 8 + 8 * l.length := by rw [List.length_cons]; omega
    show rem (upd r a) l = _
    rw [h1, e, shn_add]
    congr 1
    simp only [le]
    rw [add_shift a _ h2, ← Nat.xor_assoc, shn_xor, upd]
    congr 1
    exact (shn_pow 8 (le l)).symm
theorem le_append (a b : List Nat) : le (a ++ b) = le a + 2 ^ (8 * a.length) * le b := by
  induction a with
  | nil => simp [le]
  | cons x l ih =>
    have e : 8 * (x :: l).length = 8 + 8 * l.length := by rw [List.length_cons]; omega
    simp only [List.cons_append, le, ih, e, Nat.pow_add]
    rw [Nat.mul_add, ← Nat.mul_assoc, Nat.add_assoc]
theorem le_tail {s : Nat} (h : s < 4294967296) : le (tail s) = s := by
  simp only [le, tail]; omega
theorem le_inj : ∀ {a b : List Nat}, (∀ x ∈ a, x < 256) → (∀ x ∈ b, x < 256) → a.length = b.length → le a = le b → a = b := by
  intro a
  induction a with
  | nil => intro b _ _ hl _; cases b with
    | nil => rfl
    | cons _ _ => simp at hl
  | cons x l ih =>
    intro b ha hb hl he
    cases b with
    | nil => simp at hl
    | cons y m =>
      have h1 := ha x List.mem_cons_self
      have h2 := hb y List.mem_cons_self
      simp only [le] at he
      have e1 : x = y := by omega
      have e2 : le l = le m := by omega
      rw [e1, ih (fun z hz => ha z (List.mem_cons_of_mem _ hz)) (fun z hz => hb z (List.mem_cons_of_mem _ hz)) (by simpa using hl) e2]

/-- what is left of sealed bytes: always the same -/
def good : Nat := shn 32 4294967295
theorem rem_tail (r : Nat) (s : Nat) (hs : s < 4294967296) : rem r (tail s) = shn 32 (r ^^^ s) := by
  rw [rem_le _ (tail_lt s), le_tail hs]; rfl
theorem good_of_sealed {bs : List Nat} (hb : ∀ b ∈ bs, b < 256) (h : isSealed bs = true) : rem 4294967295 bs = good := by
  unfold isSealed at h
  simp only [Bool.and_eq_true, decide_eq_true_eq] at h
  obtain ⟨_, h⟩ := h
  have hb' : ∀ b ∈ bs.take (bs.length - 4), b < 256 := fun b hm => hb b (List.mem_of_mem_take hm)
  have e : bs = bs.take (bs.length - 4) ++ tail (sum (bs.take (bs.length - 4))) := by rw [← h, List.take_append_drop]
  rw [e, rem_append, rem_tail _ _ (sum_lt hb')]
  have f : ∀ x : Nat, x ^^^ neg x = 4294967295 := fun x => by
    unfold neg; rw [Nat.xor_comm 4294967295, ← Nat.xor_assoc, Nat.xor_self, Nat.zero_xor]
  have g : neg 0 = 4294967295 := by unfold neg; rw [Nat.xor_zero]
  unfold good sum join
  rw [g, f]
/-- P1.3: a change whose bits lie within 32 of one another is told. -/
theorem burst {s t : List Nat} (hs : ∀ b ∈ s, b < 256) (ht : ∀ b ∈ t, b < 256) (hl : s.length = t.length) (e at_ : Nat) (he : e ≠ 0) (he2 : e < 4294967296) (hat : at_ ≤ 8 * s.length)
    (hx : le t = le s ^^^ (2 ^ at_ * e)) (h1 : isSealed s = true) : isSealed t = false := by
  rcases hb : isSealed t with _ | _
  · rfl
  exfalso
  have g1 := good_of_sealed hs h1
  have g2 := good_of_sealed ht hb
  rw [rem_le _ hs] at g1
  rw [rem_le _ ht, hx, ← hl, ← Nat.xor_assoc, shn_xor, g1] at g2
  have h3 : shn (8 * s.length) (2 ^ at_ * e) = 0 := by
    have e := congrArg (good ^^^ ·) g2
    simpa [← Nat.xor_assoc] using e
  obtain ⟨k, hk⟩ := Nat.exists_eq_add_of_le hat
  rw [hk, shn_add, shn_pow] at h3
  exact shn_ne k he2 he h3
end Go.Proofs.Ytgkbhdecohlpmaa.Crc
