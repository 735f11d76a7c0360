/-
  Texts Rc, Base, Recv, Parts, Arrays, WrEq, RefSame, RefRec, joined.
-/
import Derived.RowKit
import Derived.Test.YtaokhbodmodcgaaRows
import Derived.WalkKit
import Derived.WalkLawsBesides
import Derived.WalkSpells
import Derived.Lib.Hide
import Derived.Laws.CopyOwn
import Derived.Laws.AppendOwnNone
import Derived.Maps.RangeWalk
import Derived.Maps.OwnSet
import Derived.Maps.OwnOps
import Derived.Maps.AppendAt
import Derived.Laws.StructEq
import Derived.Deep.RegionHeld3
import Derived.Deep.DeepCutAuto
set_option linter.all false
section
/-
  Records as plain data: which may be, their bytes, what bytes read as; there and back.
-/
namespace Go.Proofs.Ytaokhbodmodcgaa

structure Nm where
  stamp : Int
  inc : Int
  att : Int
deriving DecidableEq
structure Rc where
  kind : Int
  name : Nm
  yes : Bool
  writes : List (Int × List Nat)
  give : Int
  take : Int
  shards : Int
  stripe : Int
  dest : Int
  n : Int
deriving DecidableEq
def zNm : Nm := ⟨0, 0, 0⟩
def zRc : Rc := ⟨0, zNm, false, [], 0, 0, 0, 0, 0, 0⟩

/-- P7's Words: which name, which writes may be -/
def namedB (n : Nm) : Bool := decide (1 ≤ n.stamp ∧ n.stamp ≤ 1048576 ∧ 1 ≤ n.inc ∧ n.inc ≤ 1048576 ∧ 1 ≤ n.att ∧ n.att ≤ 1048576)
def risingB (lo : Int) : List (Int × List Nat) → Bool
  | [] => true
  | x :: r => decide (lo < x.1 ∧ x.1 ≤ 31) && risingB x.1 r
def writtenB (l : List (Int × List Nat)) : Bool := decide (l.length ≤ 8) && risingB (-1) l
def givenB (g t : Int) : Bool := decide (0 ≤ g ∧ g ≤ 255 ∧ 0 ≤ t ∧ t ≤ 255 ∧ g.toNat &&& t.toNat = 0)
def shardsB (n : Int) : Bool := decide (0 < n ∧ n % 2 = 0 ∧ n < 32)
def changedB (s t : Int) : Bool := if s = -1 then decide (t = 0) else decide (0 ≤ s ∧ s ≤ 7 ∧ 1 ≤ t ∧ t ≤ 4)
/-- the record with the fields alone that its kind names -/
def fieldsR (r : Rc) : Rc :=
  if r.kind = 1 then { zRc with kind := r.kind, name := r.name, writes := r.writes }
  else if r.kind = 2 then { zRc with kind := r.kind, name := r.name, writes := r.writes, give := r.give, take := r.take }
  else if r.kind = 3 then { zRc with kind := r.kind, name := r.name, yes := r.yes }
  else if r.kind = 4 then { zRc with kind := r.kind, name := r.name, shards := r.shards, stripe := r.stripe, dest := r.dest }
  else if r.kind = 5 then { zRc with kind := r.kind, name := r.name }
  else if r.kind = 6 ∨ r.kind = 7 then { zRc with kind := r.kind, n := r.n }
  else { zRc with kind := r.kind }
/-- P7.1 -/
def mayR (r : Rc) : Bool :=
  decide (1 ≤ r.kind ∧ r.kind ≤ 7) && (decide (r = fieldsR r) &&
    (if r.kind = 6 then decide (1 ≤ r.n ∧ r.n ≤ 1048577)
    else if r.kind = 7 then decide (1 ≤ r.n ∧ r.n ≤ 1048576)
    else namedB r.name && (writtenB r.writes && (givenB r.give r.take && (if r.kind = 4 then shardsB r.shards && changedB r.stripe r.dest else true)))))
def lessB (a b : Nm) : Bool :=
  if a.stamp ≠ b.stamp then decide (a.stamp < b.stamp) else if a.inc ≠ b.inc then decide (a.inc < b.inc) else decide (a.att < b.att)

/-! ### bytes -/
def byteN (n : Int) : Nat := (n % 256).toNat
def three (n : Int) : List Nat := [byteN n, byteN (n / 256), byteN (n / 65536)]
def nameL (n : Nm) : List Nat := three n.stamp ++ (three n.inc ++ three n.att)
def writesL (l : List (Int × List Nat)) : List Nat := l.flatMap fun x => byteN x.1 :: x.2
/-- P7's Words: a record's bytes behind the kind -/
def restL (r : Rc) : List Nat :=
  if r.kind = 1 then nameL r.name ++ (r.writes.length % 256 :: writesL r.writes)
  else if r.kind = 2 then nameL r.name ++ (r.writes.length % 256 :: (writesL r.writes ++ [byteN r.give, byteN r.take]))
  else if r.kind = 3 then nameL r.name ++ [if r.yes then 1 else 0]
  else if r.kind = 4 then nameL r.name ++ [byteN r.shards, byteN (r.stripe + 1), byteN r.dest]
  else if r.kind = 5 then nameL r.name
  else three r.n
def bytesR (r : Rc) : List Nat := byteN r.kind :: restL r
/-- P7.2: Bytes -/
def bytesE (r : Rc) : Int := if mayR r = true then 0 else 2
def bytesL (r : Rc) : List Nat := if mayR r = true then bytesR r else []
def sectorsR (r : Rc) : Int := if mayR r = true then ((((bytesR r).length + 44) / 45 : Nat) : Int) else 0

/-! ### reading -/
def rdThree : List Nat → Option (Int × List Nat)
  | a :: b :: c :: q => some ((a : Int) + 256 * (b : Int) + 65536 * (c : Int), q)
  | _ => none
def rdName (b : List Nat) : Option (Nm × List Nat) :=
  match rdThree b with
  | none => none
  | some (x, b1) => match rdThree b1 with
    | none => none
    | some (y, b2) => match rdThree b2 with
      | none => none
      | some (z, b3) => some (⟨x, y, z⟩, b3)
def rdMany : Nat → List Nat → Option (List (Int × List Nat) × List Nat)
  | 0, q => some ([], q)
  | _ + 1, [] => none
  | n + 1, k :: q => if q.length < 8 then none else match rdMany n (q.drop 8) with
    | none => none
    | some (l, q') => some (((k : Int), q.take 8) :: l, q')
def rdWrites : List Nat → Option (List (Int × List Nat) × List Nat)
  | [] => none
  | n :: q => rdMany n q
/-- what stands behind a kind and a name -/
def rdTail (k : Nat) (nm : Nm) (q : List Nat) : Option (Rc × List Nat) :=
  if k = 1 then match rdWrites q with
    | none => none
    | some (l, q') => some ({ zRc with kind := (k : Int), name := nm, writes := l }, q')
  else if k = 2 then match rdWrites q with
    | some (l, g :: t :: q') => some ({ zRc with kind := (k : Int), name := nm, writes := l, give := (g : Int), take := (t : Int) }, q')
    | _ => none
  else if k = 3 then match q with
    | y :: q' => if y ≤ 1 then some ({ zRc with kind := (k : Int), name := nm, yes := decide (y = 1) }, q') else none
    | _ => none
  else if k = 4 then match q with
    | s :: c :: t :: q' => some ({ zRc with kind := (k : Int), name := nm, shards := (s : Int), stripe := (c : Int) - 1, dest := (t : Int) }, q')
    | _ => none
  else if k = 5 then some ({ zRc with kind := (k : Int), name := nm }, q)
  else none
def rdRest : List Nat → Option (Rc × List Nat)
  | [] => none
  | k :: q => if k = 6 ∨ k = 7 then match rdThree q with
      | none => none
      | some (n, q') => some ({ zRc with kind := (k : Int), n := n }, q')
    else match rdName q with
      | none => none
      | some (nm, q') => rdTail k nm q'
/-- P7.2: Read -/
def readR (b : List Nat) : Option Rc := match rdRest b with
  | some (r, []) => if mayR r = true then some r else none
  | _ => none

/-! ### there and back -/
theorem byteN_lt (n : Int) : byteN n < 256 := by unfold byteN; omega
theorem byteN_nat {n : Int} (h0 : 0 ≤ n) (h1 : n < 256) : ((byteN n : Nat) : Int) = n := by unfold byteN; omega
theorem byteN_of {k : Nat} (h : k < 256) : byteN (k : Int) = k := by unfold byteN; omega
theorem three_lt (n : Int) : ∀ x ∈ three n, x < 256 := by
  intro x hx
  unfold three at hx
  simp only [List.mem_cons, List.not_mem_nil, or_false] at hx
  rcases hx with rfl | rfl | rfl <;> exact byteN_lt _
theorem rdThree_three {n : Int} (h0 : 0 ≤ n) (h1 : n < 16777216) (q : List Nat) : rdThree (three n ++ q) = some (n, q) := by
  unfold three rdThree byteN
  simp only [List.cons_append, List.nil_append, Option.some.injEq, Prod.mk.injEq, and_true]
  omega
theorem three_rd {b q : List Nat} {n : Int} (h : rdThree b = some (n, q)) (hb : ∀ x ∈ b, x < 256) : b = three n ++ q ∧ 0 ≤ n ∧ n < 16777216 := by
  match b, h with
  | a :: b1 :: c :: q', h =>
    unfold rdThree at h
    simp only [Option.some.injEq, Prod.mk.injEq] at h
    obtain ⟨rfl, rfl⟩ := h
    have ha := hb a (by simp)
    have hb1 := hb b1 (by simp)
    have hc := hb c (by simp)
    refine ⟨?_, by omega, by omega⟩
    unfold three byteN
    simp only [List.cons_append, List.nil_append, List.cons.injEq, and_true]
    omega
theorem rdThree_more {b q : List Nat} {n : Int} (h : rdThree b = some (n, q)) (c : List Nat) : rdThree (b ++ c) = some (n, q ++ c) := by
  match b, h with
  | a :: b1 :: c1 :: q', h =>
    unfold rdThree at h ⊢
    simp only [Option.some.injEq, Prod.mk.injEq, List.cons_append] at h ⊢
    obtain ⟨rfl, rfl⟩ := h
    exact ⟨rfl, rfl⟩
theorem named_lt {n : Nm} (h : namedB n = true) : (0 ≤ n.stamp ∧ n.stamp < 16777216) ∧ (0 ≤ n.inc ∧ n.inc < 16777216) ∧ 0 ≤ n.att ∧ n.att < 16777216 := by
  unfold namedB at h
  rw [decide_eq_true_eq] at h
  omega
theorem rdName_name {n : Nm} (h : namedB n = true) (q : List Nat) : rdName (nameL n ++ q) = some (n, q) := by
  obtain ⟨h1, h2, h3⟩ := named_lt h
  unfold rdName nameL
  simp only [List.append_assoc, rdThree_three h1.1 h1.2, rdThree_three h2.1 h2.2, rdThree_three h3.1 h3.2]
theorem name_rd {b q : List Nat} {n : Nm} (h : rdName b = some (n, q)) (hb : ∀ x ∈ b, x < 256) : b = nameL n ++ q := by
  unfold rdName at h
  split at h
  · cases h
  rename_i x b1 e1
  split at h
  · cases h
  rename_i y b2 e2
  split at h
  · cases h
  rename_i z b3 e3
  simp only [Option.some.injEq, Prod.mk.injEq] at h
  obtain ⟨rfl, rfl⟩ := h
  obtain ⟨h1, _⟩ := three_rd e1 hb
  obtain ⟨h2, _⟩ := three_rd e2 (fun x hx => hb x (by rw [h1]; exact List.mem_append_right _ hx))
  obtain ⟨h3, _⟩ := three_rd e3 (fun x hx => hb x (by rw [h1, h2]; exact List.mem_append_right _ (List.mem_append_right _ hx)))
  unfold nameL
  rw [h1, h2, h3]
  simp only [List.append_assoc]
theorem rdName_more {b q : List Nat} {n : Nm} (h : rdName b = some (n, q)) (c : List Nat) : rdName (b ++ c) = some (n, q ++ c) := by
  unfold rdName at h ⊢
  split at h
  · cases h
  rename_i x b1 e1
  split at h
  · cases h
  rename_i y b2 e2
  split at h
  · cases h
  rename_i z b3 e3
  simp only [Option.some.injEq, Prod.mk.injEq] at h
  obtain ⟨rfl, rfl⟩ := h
  simp only [rdThree_more e1, rdThree_more e2, rdThree_more e3]
/-- writes whose blocks are bytes, whose values are blocks -/
def WrOk (l : List (Int × List Nat)) : Prop := ∀ x ∈ l, (0 ≤ x.1 ∧ x.1 < 256) ∧ x.2.length = 8
theorem rdMany_writes {l : List (Int × List Nat)} (h : WrOk l) (q : List Nat) : rdMany l.length (writesL l ++ q) = some (l, q) := by
  induction l with
  | nil => rfl
  | cons x r ih =>
    obtain ⟨hx, hv⟩ := h x List.mem_cons_self
    have ih' := ih (fun y hy => h y (List.mem_cons_of_mem _ hy))
    have e : writesL (x :: r) ++ q = byteN x.1 :: (x.2 ++ (writesL r ++ q)) := by unfold writesL; simp [List.append_assoc]
    rw [e, List.length_cons, rdMany, if_neg (by simp [hv]), List.drop_left' hv, ih', List.take_left' hv]
    simp only [Option.some.injEq, Prod.mk.injEq, List.cons.injEq, and_true]
    exact Prod.ext (byteN_nat hx.1 hx.2) rfl
theorem many_rd {n : Nat} {b q : List Nat} {l : List (Int × List Nat)} (h : rdMany n b = some (l, q)) (hb : ∀ x ∈ b, x < 256) : b = writesL l ++ q ∧ l.length = n ∧ WrOk l := by
  induction n generalizing b l with
  | zero =>
    rw [rdMany] at h
    simp only [Option.some.injEq, Prod.mk.injEq] at h
    obtain ⟨rfl, rfl⟩ := h
    exact ⟨rfl, rfl, fun _ hx => absurd hx (by simp)⟩
  | succ n ih =>
    cases b with
    | nil => rw [rdMany] at h; cases h
    | cons k b =>
      rw [rdMany] at h
      split at h
      · cases h
      rename_i hlen
      split at h
      · cases h
      rename_i l' q' e
      simp only [Option.some.injEq, Prod.mk.injEq] at h
      obtain ⟨rfl, rfl⟩ := h
      obtain ⟨h1, h2, h3⟩ := ih e (fun x hx => hb x (List.mem_cons_of_mem _ (List.mem_of_mem_drop hx)))
      have hk := hb k List.mem_cons_self
      refine ⟨?_, by simp [h2], fun x hx => ?_⟩
      · have e2 : writesL (((k : Int), b.take 8) :: l') ++ q' = byteN (k : Int) :: (b.take 8 ++ (writesL l' ++ q')) := by unfold writesL; simp [List.append_assoc]
        rw [e2, byteN_of hk, ← h1, List.take_append_drop]
      · rcases List.mem_cons.1 hx with rfl | hx
        · exact ⟨⟨Int.natCast_nonneg _, by show (k : Int) < 256; omega⟩, by show (b.take 8).length = 8; rw [List.length_take]; omega⟩
        · exact h3 x hx
theorem rdMany_more {n : Nat} {b q : List Nat} {l : List (Int × List Nat)} (h : rdMany n b = some (l, q)) (c : List Nat) : rdMany n (b ++ c) = some (l, q ++ c) := by
  induction n generalizing b l with
  | zero =>
    rw [rdMany] at h ⊢
    simp only [Option.some.injEq, Prod.mk.injEq] at h ⊢
    obtain ⟨rfl, rfl⟩ := h
    exact ⟨rfl, rfl⟩
  | succ n ih =>
    cases b with
    | nil => rw [rdMany] at h; cases h
    | cons k b =>
      rw [rdMany] at h
      split at h
      · cases h
      rename_i hlen
      split at h
      · cases h
      rename_i l' q' e
      simp only [Option.some.injEq, Prod.mk.injEq] at h
      obtain ⟨rfl, rfl⟩ := h
      rw [List.cons_append, rdMany, if_neg (by simp; omega), List.drop_append_of_le_length (by omega), ih e, List.take_append_of_le_length (by omega)]
theorem rising_block {l : List (Int × List Nat)} : ∀ {lo : Int}, -1 ≤ lo → risingB lo l = true → ∀ x ∈ l, 0 ≤ x.1 ∧ x.1 ≤ 31 := by
  induction l with
  | nil => intro lo _ _ x hx; simp at hx
  | cons y r ih =>
    intro lo hlo h x hx
    unfold risingB at h
    simp only [Bool.and_eq_true, decide_eq_true_eq] at h
    rcases List.mem_cons.1 hx with rfl | hx
    · exact ⟨by omega, h.1.2⟩
    · exact ih (by omega) h.2 x hx
/-- the values are blocks' bytes -/
def ValOk (l : List (Int × List Nat)) : Prop := ∀ x ∈ l, x.2.length = 8 ∧ ∀ y ∈ x.2, y < 256
theorem written_ok {l : List (Int × List Nat)} (h : writtenB l = true) (hv : ValOk l) : WrOk l ∧ l.length ≤ 8 := by
  unfold writtenB at h
  simp only [Bool.and_eq_true, decide_eq_true_eq] at h
  exact ⟨fun x hx => ⟨by have := rising_block (by omega) h.2 x hx; omega, (hv x hx).1⟩, h.1⟩
theorem may_parts {r : Rc} (h : mayR r = true) : (1 ≤ r.kind ∧ r.kind ≤ 7) ∧ r = fieldsR r := by
  unfold mayR at h
  simp only [Bool.and_eq_true, decide_eq_true_eq] at h
  exact ⟨h.1, h.2.1⟩
theorem may_n {r : Rc} (h : mayR r = true) (hk : r.kind = 6 ∨ r.kind = 7) : 1 ≤ r.n ∧ r.n ≤ 1048577 := by
  unfold mayR at h
  simp only [Bool.and_eq_true, decide_eq_true_eq] at h
  have h3 := h.2.2
  rcases hk with hk | hk
  · rw [if_pos hk] at h3
    exact of_decide_eq_true h3
  · rw [if_neg (by omega), if_pos hk] at h3
    have := of_decide_eq_true h3
    omega
theorem may_named {r : Rc} (h : mayR r = true) (hk : ¬ (r.kind = 6 ∨ r.kind = 7)) : namedB r.name = true ∧ writtenB r.writes = true ∧ givenB r.give r.take = true ∧ (r.kind = 4 → shardsB r.shards = true ∧ changedB r.stripe r.dest = true) := by
  unfold mayR at h
  simp only [Bool.and_eq_true, decide_eq_true_eq] at h
  have h3 := h.2.2
  rw [if_neg (fun e => hk (Or.inl e)), if_neg (fun e => hk (Or.inr e))] at h3
  simp only [Bool.and_eq_true] at h3
  refine ⟨h3.1, h3.2.1, h3.2.2.1, fun h4 => ?_⟩
  have h5 := h3.2.2.2
  rw [if_pos h4] at h5
  simpa using h5
theorem given_lt {g t : Int} (h : givenB g t = true) : (0 ≤ g ∧ g < 256) ∧ 0 ≤ t ∧ t < 256 := by
  unfold givenB at h
  rw [decide_eq_true_eq] at h
  omega
theorem shards_lt {n : Int} (h : shardsB n = true) : 0 ≤ n ∧ n < 256 := by
  unfold shardsB at h
  rw [decide_eq_true_eq] at h
  omega
theorem changed_lt {s t : Int} (h : changedB s t = true) : (0 ≤ s + 1 ∧ s + 1 < 256) ∧ 0 ≤ t ∧ t < 256 := by
  unfold changedB at h
  split at h
  · have := of_decide_eq_true h; omega
  · have := of_decide_eq_true h; omega
theorem kinds {k : Int} (h : 1 ≤ k ∧ k ≤ 7) : k = 1 ∨ k = 2 ∨ k = 3 ∨ k = 4 ∨ k = 5 ∨ k = 6 ∨ k = 7 := by omega

theorem byte_kinds : (((byteN 1 = 1 ∧ byteN 2 = 2) ∧ byteN 3 = 3 ∧ byteN 4 = 4) ∧ byteN 5 = 5 ∧ byteN 6 = 6 ∧ byteN 7 = 7) := by decide
/-- P7.3: the bytes of a record that may be read as it -/
theorem rd_bytes {r : Rc} (h : mayR r = true) (hv : ValOk r.writes) (q : List Nat) : rdRest (bytesR r ++ q) = some (r, q) := by
  obtain ⟨hk, hf⟩ := may_parts h
  obtain ⟨⟨⟨b1, b2⟩, b3, b4⟩, b5, b6, b7⟩ := byte_kinds
  obtain ⟨kind, name, yes, writes, give, take, shards, stripe, tt7, n⟩ := r
  rcases kinds hk with e | e | e | e | e | e | e
  all_goals (simp only at e; subst e; simp only [fieldsR, zRc, Rc.mk.injEq, Int.reduceEq, if_true, if_false, or_self, or_true, true_or, true_and, and_true] at hf)
  · obtain ⟨rfl, rfl, rfl, rfl, rfl, rfl, rfl⟩ := hf
    obtain ⟨h1, h2, _, _⟩ := may_named h (by simp)
    obtain ⟨w1, w2⟩ := written_ok h2 hv
    have e2 : writes.length % 256 = writes.length := Nat.mod_eq_of_lt (by simp only at w2; omega)
    simp [bytesR, restL, rdRest, rdTail, rdWrites, zRc, b1, e2, rdName_name h1, rdMany_writes w1]
  · obtain ⟨rfl, rfl, rfl, rfl, rfl⟩ := hf
    obtain ⟨h1, h2, h3, _⟩ := may_named h (by simp)
    obtain ⟨w1, w2⟩ := written_ok h2 hv
    obtain ⟨g1, g2⟩ := given_lt h3
    have e2 : writes.length % 256 = writes.length := Nat.mod_eq_of_lt (by simp only at w2; omega)
    simp [bytesR, restL, rdRest, rdTail, rdWrites, zRc, b2, e2, rdName_name h1, rdMany_writes w1, byteN_nat g1.1 g1.2, byteN_nat g2.1 g2.2]
  · obtain ⟨rfl, rfl, rfl, rfl, rfl, rfl, rfl⟩ := hf
    obtain ⟨h1, _, _, _⟩ := may_named h (by simp)
    cases yes <;> simp [bytesR, restL, rdRest, rdTail, zRc, b3, rdName_name h1]
  · obtain ⟨rfl, rfl, rfl, rfl, rfl⟩ := hf
    obtain ⟨h1, _, _, h4⟩ := may_named h (by simp)
    obtain ⟨h5, h6⟩ := h4 rfl
    have s1 := shards_lt h5
    obtain ⟨c1, c2⟩ := changed_lt h6
    simp [bytesR, restL, rdRest, rdTail, zRc, b4, rdName_name h1, byteN_nat s1.1 s1.2, byteN_nat c1.1 c1.2, byteN_nat c2.1 c2.2]
  · obtain ⟨rfl, rfl, rfl, rfl, rfl, rfl, rfl, rfl⟩ := hf
    obtain ⟨h1, _, _, _⟩ := may_named h (by simp)
    simp [bytesR, restL, rdRest, rdTail, zRc, b5, rdName_name h1]
  · obtain ⟨rfl, rfl, rfl, rfl, rfl, rfl, rfl, rfl⟩ := hf
    have hn := may_n h (Or.inl rfl)
    simp only at hn
    simp [bytesR, restL, rdRest, zRc, b6, rdThree_three (n := n) (by omega) (by omega)]
  · obtain ⟨rfl, rfl, rfl, rfl, rfl, rfl, rfl, rfl⟩ := hf
    have hn := may_n h (Or.inr rfl)
    simp only at hn
    simp [bytesR, restL, rdRest, zRc, b7, rdThree_three (n := n) (by omega) (by omega)]
/-- .. and bytes that read as a record that may be are its bytes -/
theorem bytes_rd {b q : List Nat} {r : Rc} (h : rdRest b = some (r, q)) (hm : mayR r = true) (hb : ∀ x ∈ b, x < 256) : b = bytesR r ++ q := by
  obtain ⟨⟨⟨b1, b2⟩, b3, b4⟩, b5, b6, b7⟩ := byte_kinds
  cases b with
  | nil => rw [rdRest] at h; cases h
  | cons k b =>
    have hb' : ∀ x ∈ b, x < 256 := fun x hx => hb x (List.mem_cons_of_mem _ hx)
    have hk := hb k List.mem_cons_self
    rw [rdRest] at h
    split at h
    · rename_i h67
      split at h
      · cases h
      rename_i n q' e
      simp only [Option.some.injEq, Prod.mk.injEq] at h
      obtain ⟨rfl, rfl⟩ := h
      obtain ⟨h1, _⟩ := three_rd e hb'
      rcases h67 with rfl | rfl
      · simp [bytesR, restL, b6, h1]
      · simp [bytesR, restL, b7, h1]
    · rename_i h67
      split at h
      · cases h
      rename_i nm q' e
      have h1 := name_rd e hb'
      have hq' : ∀ x ∈ q', x < 256 := fun x hx => hb' x (by rw [h1]; exact List.mem_append_right _ hx)
      unfold rdTail at h
      split at h
      · rename_i hk1
        subst hk1
        split at h
        · cases h
        rename_i l q2 e2
        simp only [Option.some.injEq, Prod.mk.injEq] at h
        obtain ⟨rfl, rfl⟩ := h
        cases q' with
        | nil => rw [rdWrites] at e2; cases e2
        | cons m q3 =>
          rw [rdWrites] at e2
          obtain ⟨h2, h3, _⟩ := many_rd e2 (fun x hx => hq' x (List.mem_cons_of_mem _ hx))
          have hm8 := hq' m List.mem_cons_self
          simp [bytesR, restL, b1, h1, h2, h3, Nat.mod_eq_of_lt hm8]
      split at h
      · rename_i hk1
        subst hk1
        split at h
        · rename_i l g t q2 e2
          simp only [Option.some.injEq, Prod.mk.injEq] at h
          obtain ⟨rfl, rfl⟩ := h
          cases q' with
          | nil => rw [rdWrites] at e2; cases e2
          | cons m q3 =>
            rw [rdWrites] at e2
            obtain ⟨h2, h3, _⟩ := many_rd e2 (fun x hx => hq' x (List.mem_cons_of_mem _ hx))
            have hm8 := hq' m List.mem_cons_self
            have hg := hq' g (List.mem_cons_of_mem _ (by rw [h2]; simp))
            have ht := hq' t (List.mem_cons_of_mem _ (by rw [h2]; simp))
            simp [bytesR, restL, b2, h1, h2, h3, Nat.mod_eq_of_lt hm8, byteN_of hg, byteN_of ht]
        · cases h
      split at h
      · rename_i hk1
        subst hk1
        split at h
        · rename_i y q2
          split at h
          · rename_i hy
            simp only [Option.some.injEq, Prod.mk.injEq] at h
            obtain ⟨rfl, rfl⟩ := h
            have : y = 0 ∨ y = 1 := by omega
            rcases this with rfl | rfl <;> simp [bytesR, restL, b3, h1]
          · cases h
        · cases h
      split at h
      · rename_i hk1
        subst hk1
        split at h
        · rename_i s c t q2
          simp only [Option.some.injEq, Prod.mk.injEq] at h
          obtain ⟨rfl, rfl⟩ := h
          have hs := hq' s (by simp)
          have hc := hq' c (by simp)
          have ht := hq' t (by simp)
          simp [bytesR, restL, b4, h1, byteN_of hs, byteN_of ht, Int.sub_add_cancel, byteN_of hc]
        · cases h
      split at h
      · rename_i hk1
        subst hk1
        simp only [Option.some.injEq, Prod.mk.injEq] at h
        obtain ⟨rfl, rfl⟩ := h
        simp [bytesR, restL, b5, h1]
      · cases h
theorem rdWrites_more {b q : List Nat} {l : List (Int × List Nat)} (h : rdWrites b = some (l, q)) (c : List Nat) : rdWrites (b ++ c) = some (l, q ++ c) := by
  cases b with
  | nil => rw [rdWrites] at h; cases h
  | cons n b => rw [rdWrites] at h; rw [List.cons_append, rdWrites]; exact rdMany_more h c
theorem rdTail_more {k : Nat} {nm : Nm} {b q : List Nat} {r : Rc} (h : rdTail k nm b = some (r, q)) (c : List Nat) : rdTail k nm (b ++ c) = some (r, q ++ c) := by
  unfold rdTail at h ⊢
  split at h
  · rename_i hk
    rw [if_pos hk]
    split at h
    · cases h
    rename_i l q2 e2
    simp only [Option.some.injEq, Prod.mk.injEq] at h
    obtain ⟨rfl, rfl⟩ := h
    rw [rdWrites_more e2]
  rename_i k1
  rw [if_neg k1]
  split at h
  · rename_i hk
    rw [if_pos hk]
    split at h
    · rename_i l g t q2 e2
      simp only [Option.some.injEq, Prod.mk.injEq] at h
      obtain ⟨rfl, rfl⟩ := h
      rw [rdWrites_more e2]
      rfl
    · cases h
  rename_i k2
  rw [if_neg k2]
  split at h
  · rename_i hk
    rw [if_pos hk]
    split at h
    · rename_i y q2
      split at h
      · rename_i hy
        simp only [Option.some.injEq, Prod.mk.injEq] at h
        obtain ⟨rfl, rfl⟩ := h
        simp [hy]
      · cases h
    · cases h
  rename_i k3
  rw [if_neg k3]
  split at h
  · rename_i hk
    rw [if_pos hk]
    split at h
    · rename_i s x t q2
      simp only [Option.some.injEq, Prod.mk.injEq] at h
      obtain ⟨rfl, rfl⟩ := h
      rfl
    · cases h
  rename_i k4
  rw [if_neg k4]
  split at h
  · rename_i hk
    rw [if_pos hk]
    simp only [Option.some.injEq, Prod.mk.injEq] at h
    obtain ⟨rfl, rfl⟩ := h
    rfl
  · cases h
/-- what is read stays so when more stands behind -/
theorem rd_more {b q : List Nat} {r : Rc} (h : rdRest b = some (r, q)) (c : List Nat) : rdRest (b ++ c) = some (r, q ++ c) := by
  cases b with
  | nil => rw [rdRest] at h; cases h
  | cons k b =>
    rw [rdRest] at h
    rw [List.cons_append, rdRest]
    split at h
    · rename_i h67
      rw [if_pos h67]
      split at h
      · cases h
      rename_i n q' e
      simp only [Option.some.injEq, Prod.mk.injEq] at h
      obtain ⟨rfl, rfl⟩ := h
      rw [rdThree_more e]
    · rename_i h67
      rw [if_neg h67]
      split at h
      · cases h
      rename_i nm q' e
      rw [rdName_more e]
      exact rdTail_more h c
theorem read_bytes {r : Rc} (h : mayR r = true) (hv : ValOk r.writes) : readR (bytesR r) = some r := by
  have h1 := rd_bytes h hv []
  rw [List.append_nil] at h1
  unfold readR
  rw [h1]
  simp only []
  rw [if_pos h]
theorem read_some {b : List Nat} {r : Rc} (h : readR b = some r) : rdRest b = some (r, []) ∧ mayR r = true := by
  unfold readR at h
  split at h
  · rename_i r' e
    split at h
    · rename_i hm
      cases h
      exact ⟨e, hm⟩
    · cases h
  · cases h
theorem bytes_read {b : List Nat} {r : Rc} (h : readR b = some r) (hb : ∀ x ∈ b, x < 256) : bytesR r = b ∧ mayR r = true := by
  obtain ⟨h1, h2⟩ := read_some h
  have h3 := bytes_rd h1 h2 hb
  rw [List.append_nil] at h3
  exact ⟨h3.symm, h2⟩
/-- P7.2: no beginning of a record's bytes is a record's, nothing that goes on behind them -/
theorem read_short {r : Rc} (h : mayR r = true) (hv : ValOk r.writes) {n : Nat} (hn : n < (bytesR r).length) : readR ((bytesR r).take n) = none := by
  cases e : readR ((bytesR r).take n) with
  | none => rfl
  | some o =>
    obtain ⟨h1, h2⟩ := read_some e
    have h3 := rd_more h1 ((bytesR r).drop n)
    rw [List.take_append_drop, List.nil_append] at h3
    have h4 := rd_bytes h hv []
    rw [List.append_nil, h3] at h4
    simp only [Option.some.injEq, Prod.mk.injEq] at h4
    have h5 := congrArg List.length h4.2
    simp at h5
    omega
theorem read_behind {r : Rc} (h : mayR r = true) (hv : ValOk r.writes) {c : List Nat} (hc : c ≠ []) : readR (bytesR r ++ c) = none := by
  unfold readR
  rw [rd_bytes h hv c]
  cases c with
  | nil => exact absurd rfl hc
  | cons x c => rfl
/-! ### how long -/
theorem name_len (n : Nm) : (nameL n).length = 9 := rfl
theorem writes_len {l : List (Int × List Nat)} (h : WrOk l) : (writesL l).length = 9 * l.length := by
  induction l with
  | nil => rfl
  | cons x r ih =>
    have h1 := (h x List.mem_cons_self).2
    have h2 := ih (fun y hy => h y (List.mem_cons_of_mem _ hy))
    unfold writesL at h2 ⊢
    simp [h1, h2]
    omega
theorem bytes_len {r : Rc} (h : mayR r = true) (hv : ValOk r.writes) : 4 ≤ (bytesR r).length ∧ (bytesR r).length ≤ 85 := by
  obtain ⟨hk, _⟩ := may_parts h
  rcases kinds hk with e | e | e | e | e | e | e
  all_goals simp only [bytesR, restL, e, Int.reduceEq, if_true, if_false]
  · obtain ⟨_, h2, _, _⟩ := may_named h (by omega)
    obtain ⟨w1, w2⟩ := written_ok h2 hv
    simp [name_len, writes_len w1]; omega
  · obtain ⟨_, h2, _, _⟩ := may_named h (by omega)
    obtain ⟨w1, w2⟩ := written_ok h2 hv
    simp [name_len, writes_len w1]; omega
  all_goals simp [name_len, three]
end Go.Proofs.Ytaokhbodmodcgaa
end

section
/-
  Bytes in memory, as lists of numbers below 256: what reads, what was made, what stays; strings of them; rows that are written in a loop.
-/
namespace Go.Proofs.Ytaokhbodmodcgaa
set_option maxRecDepth 100000
open Go.RowKit

theorem ret_int {k : IntKind} {a b : Int} (h : a = b) : Ending.returned (.int k a) = .returned (.int k b) := by rw [h]
theorem i64_bits (a : Nat) (ha : a < 9223372036854775808) : (BitVec.ofInt 64 (a : Int)).toNat = a := by rw [BitVec.toNat_ofInt]; omega
theorem i64_wraps (x : Nat) (h : x < 9223372036854775808) : IntKind.i64.wrap (x : Int) = (x : Int) := by rw [IntKind.wrap_i64]; omega
theorem i64_and_nat (a b : Nat) (ha : a < 9223372036854775808) (hb : b < 9223372036854775808) : bits .and .i64 (a : Int) (b : Int) = ((a &&& b : Nat) : Int) := by
  show IntKind.i64.wrap ((BitVec.ofInt 64 (a : Int) &&& BitVec.ofInt 64 (b : Int)).toNat : Nat) = _
  rw [BitVec.toNat_and, i64_bits a ha, i64_bits b hb]
  exact i64_wraps _ (Nat.lt_of_le_of_lt Nat.and_le_left ha)
theorem i64_or_nat (a b : Nat) (ha : a < 9223372036854775808) (hb : b < 9223372036854775808) : bits .or .i64 (a : Int) (b : Int) = ((a ||| b : Nat) : Int) := by
  show IntKind.i64.wrap ((BitVec.ofInt 64 (a : Int) ||| BitVec.ofInt 64 (b : Int)).toNat : Nat) = _
  rw [BitVec.toNat_or, i64_bits a ha, i64_bits b hb]
  exact i64_wraps _ (Nat.or_lt_two_pow (n := 63) ha hb)
theorem Try.info5 : (Try.prog.info? 5).map (fun i => (i.zero, i.size, i.bytes)) = some (some (.int .u8 0), 1, 1) := by kernel_rfl
theorem getD_at (l : List Nat) (k : Nat) (h : k < l.length) : l.getD k 0 = l[k] := by simp [List.getD, h]
theorem add_flat (b off n : Nat) : (⟨b, off, none⟩ : Addr).add n = ⟨b, off + n, none⟩ := by
  unfold Addr.add; split <;> simp_all

/-- The slice at A holds the bytes bs, in a block below B (asked for only where there is a byte). -/
def By (w : World) (B : Nat) (A : Option Addr) (bs : List Nat) : Prop :=
  (∀ x ∈ bs, x < 256) ∧ (0 < bs.length → ∃ b off, A = some ⟨b, off, none⟩ ∧ b < B ∧ ∀ j, j < bs.length → w.cell? ⟨b, off + j, none⟩ = some (.int .u8 (bs.getD j 0 : Nat)))

section
variable {w w' : World} {B B' : Nat} {A : Option Addr} {bs : List Nat}
theorem By.nil_ : By w B A [] := ⟨fun _ h => (List.not_mem_nil h).elim, fun h => absurd h (by simp)⟩
theorem By.keep (h : By w B A bs) (hk : ∀ p : Addr, p.block < B → w'.cell? p = w.cell? p) : By w' B A bs :=
  ⟨h.1, fun hn => by
    obtain ⟨b, off, e, hb, hc⟩ := h.2 hn
    exact ⟨b, off, e, hb, fun j hj => (hk _ hb).trans (hc j hj)⟩⟩
theorem By.mono (h : By w B A bs) (hB : B ≤ B') : By w B' A bs :=
  ⟨h.1, fun hn => by
    obtain ⟨b, off, e, hb, hc⟩ := h.2 hn
    exact ⟨b, off, e, by omega, hc⟩⟩
theorem By.below (h : By w B A bs) (hb : Below B' w w') (hB : B ≤ B') : By w' B A bs := h.keep fun _ hp => hb.cell (by omega)
theorem By.take (h : By w B A bs) (k : Nat) : By w B A (bs.take k) :=
  ⟨fun x hx => h.1 x (List.mem_of_mem_take hx), fun hn => by
    have hl : (bs.take k).length ≤ bs.length := List.length_take_le' _ _
    obtain ⟨b, off, e, hb, hc⟩ := h.2 (by omega)
    refine ⟨b, off, e, hb, fun j hj => ?_⟩
    rw [hc j (by omega)]
    have hj' : j < bs.length := by omega
    rw [getD_at _ _ hj', getD_at _ _ hj, List.getElem_take]⟩
theorem By.drop {c : Nat} (h : By w B A bs) (k : Nat) (hc : bs.length ≤ c) : By w B (if c = k then A else A.map (·.add k)) (bs.drop k) :=
  ⟨fun x hx => h.1 x (List.mem_of_mem_drop hx), fun hn => by
    rw [List.length_drop] at hn
    obtain ⟨b, off, e, hb, hcell⟩ := h.2 (by omega)
    refine ⟨b, off + k, ?_, hb, fun j hj => ?_⟩
    · rw [if_neg (by omega), e, Option.map_some, add_flat]
    · have hj' : k + j < bs.length := by rw [List.length_drop] at hj; omega
      rw [Nat.add_assoc, hcell _ hj', getD_at _ _ hj', getD_at _ _ hj, List.getElem_drop]⟩
theorem By.of_none (h : By w B A bs) (hA : A = none) : bs.length = 0 ∧ bs.length = 0 := by
  rcases Nat.eq_zero_or_pos bs.length with h0 | h0
  · exact ⟨h0, h0⟩
  · obtain ⟨_, _, e, _⟩ := h.2 h0
    rw [hA] at e; cases e
theorem By.at_ (h : By w B A bs) (hn : 0 < bs.length) : ∃ b off, A = some ⟨b, off, none⟩ ∧ b < B ∧ ∀ j, j < bs.length → w.cell? ⟨b, off + j, none⟩ = some (.int .u8 (bs.getD j 0 : Nat)) := h.2 hn
end

/-- bytes as values -/
def vals (bs : List Nat) : List Value := bs.map fun (n : Nat) => Value.int .u8 (n : Int)
theorem vals_length (bs : List Nat) : (vals bs).length = bs.length := List.length_map _
theorem vals_get {bs : List Nat} {j : Nat} {u : Value} (h : (vals bs)[j]? = some u) : j < bs.length ∧ u = .int .u8 (bs.getD j 0 : Nat) := by
  have hj : j < bs.length := by
    have := (List.getElem?_eq_some_iff.1 h).1
    rwa [vals_length] at this
  refine ⟨hj, ?_⟩
  unfold vals at h
  rw [List.getElem?_map, List.getElem?_eq_getElem hj, Option.map_some] at h
  rw [getD_at _ _ hj]
  exact (Option.some.inj h).symm
theorem vals_one {bs : List Nat} : ∀ u ∈ vals bs, u.oneCell' = true := by
  intro u hu
  obtain ⟨n, _, rfl⟩ := List.mem_map.1 hu
  rfl
theorem vals_append (a b : List Nat) : vals (a ++ b) = vals a ++ vals b := List.map_append
theorem By.vals {w : World} {B : Nat} {A : Option Addr} {bs : List Nat} (h : By w B A bs) : ∀ b, A = some b → ∀ j u, (vals bs)[j]? = some u → w.cell? (b.add j) = some u := by
  intro b hA j u hu
  obtain ⟨hj, rfl⟩ := vals_get hu
  obtain ⟨g, off, e, _, hc⟩ := h.at_ (by omega)
  rw [hA] at e
  obtain rfl := Option.some.inj e
  rw [add_flat]
  exact hc j hj
theorem By.src {w : World} {B : Nat} {A : Option Addr} {bs : List Nat} (h : By w B A bs) (h0 : 0 < (Go.Proofs.Ytaokhbodmodcgaa.vals bs).length) : ∃ ad, A = some ad ∧ ∀ j v, (Go.Proofs.Ytaokhbodmodcgaa.vals bs)[j]? = some v → w.cell? (ad.add j) = some v := by
  obtain ⟨b, off, e, _⟩ := h.at_ (by rwa [vals_length] at h0)
  exact ⟨_, e, h.vals _ e⟩
theorem By.of_row {w : World} {g : Nat} {bs : List Nat} {t : TypeId} {fr : Nat × Nat} {cs : Array Value} (hg : w.heap[g]? = some (.cells cs t fr)) (hc : cs.toList.take bs.length = Go.Proofs.Ytaokhbodmodcgaa.vals bs) (hb : ∀ x ∈ bs, x < 256) : By w (g + 1) (some ⟨g, 0, none⟩) bs := by
  refine ⟨hb, fun _ => ⟨g, 0, rfl, by omega, fun j hj => ?_⟩⟩
  rw [Nat.zero_add, cell_of_row w g j cs t fr hg]
  have h := congrArg (·[j]?) hc
  simp only [List.getElem?_take, hj, if_true] at h
  rw [show cs[j]? = cs.toList[j]? by simp, h]
  unfold Go.Proofs.Ytaokhbodmodcgaa.vals
  rw [List.getElem?_map, List.getElem?_eq_getElem hj, Option.map_some, getD_at _ _ hj]

/-- What the call made: a slice of its own that holds the bytes bs; nothing below has turned. -/
def New (w w' : World) (bs : List Nat) (v : Value) : Prop := w'.ownsRow w.heap.size 5 1 v bs.length (vals bs) ∧ Below w.heap.size w w'
theorem own_mono {w : World} {base base' : Nat} {e : TypeId} {size : Nat} {v : Value} {n : Nat} {xs : List Value} (h : w.ownsRow base e size v n xs) (hb : base' ≤ base) : w.ownsRow base' e size v n xs := by
  obtain ⟨h1, h2⟩ := h
  refine ⟨h1, ?_⟩
  rcases h2 with h2 | ⟨g, cap, cur, hv, hg, r⟩
  · exact Or.inl h2
  · exact Or.inr ⟨g, cap, cur, hv, by omega, r⟩
theorem grown_below {a w w' : World} (h : Below a.heap.size a w) (hg : w.grownBy w' none) : Below a.heap.size a w' := h.grown hg h.size (fun _ e => by cases e)
theorem own_ge {w : World} {base : Nat} {e : TypeId} {size : Nat} {v : Value} {n : Nat} {xs : List Value} (h : w.ownsRow base e size v n xs) : ∀ k, v.ownBlock = some k → base ≤ k := by
  intro k hk
  rcases h.2 with ⟨rfl, _⟩ | ⟨g, cap, cur, rfl, hg, _⟩
  · simp [Value.ownBlock] at hk
  · have : g = k := by simpa [Value.ownBlock] using hk
    omega
theorem new_cells {w : World} {nl xs : List Value} {t : TypeId} (h : nl = xs) : ∀ j u, xs[j]? = some u → (w.alloc (.cells nl.toArray t)).cell? ((⟨w.heap.size, 0, none⟩ : Addr).add j) = some u := by
  subst h
  intro j u hu
  rw [add_flat, Nat.zero_add, cell_of_row _ _ j _ _ _ (heap_alloc_new w (.cells nl.toArray t))]
  simpa using hu
theorem By.cut {w : World} {B : Nat} {A : Option Addr} {bs : List Nat} {c : Nat} (h : By w B A bs) (n : Nat) (hc : bs.length ≤ c) : ∃ A', By w B A' (bs.drop n) ∧ (c = n → A' = A) ∧ (¬ c = n → A' = A.map (·.add n)) :=
  ⟨if c = n then A else A.map (·.add n), h.drop n hc, fun e => if_pos e, fun e => if_neg e⟩
def strOf (s : ByteArray) (bs : List Nat) : ByteArray := bs.foldl (fun r n => r.push (UInt8.ofNat n)) s
/-- the bytes as a string -/
def str (bs : List Nat) : ByteArray := strOf ByteArray.empty bs
theorem fold_int (bs : List Nat) : ∀ s : ByteArray, (bs.map fun (n : Nat) => (n : Int)).foldl (fun r n => r.push (UInt8.ofNat n.toNat)) s = strOf s bs := by
  induction bs with
  | nil => intro s; rfl
  | cons a l ih => intro s; exact ih _

/-- string(b) for bytes in memory -/
theorem conv_str (w : World) {B : Nat} {A : Option Addr} {bs : List Nat} (h : By w B A bs) (c : Nat) :
    (convert 32 9 (.slice A bs.length c)).run Try.prog w = .ok (.string (str bs)) w := by
  rw [run_convert_bytes_string w 32 9 5 A bs.length c Try.underlying32 Try.underlying5 Try.underlying9]
  cases A with
  | none =>
    have h0 := (h.of_none rfl).1
    obtain rfl := List.eq_nil_of_length_eq_zero h0
    rfl
  | some a =>
    rw [run_bytesToString w a bs.length c (bs.map fun (n : Nat) => (n : Int))]
    · rw [fold_int]; rfl
    · have h1 := run_loadCells_list (P := Try.prog) w a (vals bs) (fun j v hv => h.vals a rfl j v hv)
      rw [vals_length] at h1
      rw [h1]
      simp [vals, List.map_map, Function.comp_def]

/-- The slice v reads as the bytes bs, here and in every world that keeps what is here. -/
def StrAt (w : World) (v : Value) (bs : List Nat) : Prop := ∀ W, Below w.heap.size w W → (convert 32 9 v).run Try.prog W = .ok (.string (str bs)) W
theorem StrAt.here {w : World} {v : Value} {bs : List Nat} (h : StrAt w v bs) : (convert 32 9 v).run Try.prog w = .ok (.string (str bs)) w := h w (Below.refl _ _)
theorem StrAt.later {w w' : World} {v : Value} {bs : List Nat} (h : StrAt w v bs) (hb : Below w.heap.size w w') : StrAt w' v bs := fun W hW => h W (hb.trans (hW.mono hb.size))
theorem By.strAt {w : World} {A : Option Addr} {bs : List Nat} {c : Nat} (h : By w w.heap.size A bs) : StrAt w (.slice A bs.length c) bs := fun W hW => conv_str W (h.below hW (Nat.le_refl _)) c

/-- What the call made, as a slice that reads as bytes. -/
theorem New.slice {w w' : World} {bs : List Nat} {v : Value} (h : New w w' bs v) (hb : ∀ x ∈ bs, x < 256) : ∃ A c, v = .slice A bs.length c ∧ By w' w'.heap.size A bs ∧ bs.length ≤ c ∧ c ≤ maxLen ∧ (A = none → c = 0) ∧ ∀ b, A = some b → w.heap.size ≤ b.block := by
  obtain ⟨⟨_, h2⟩, _⟩ := h
  rcases h2 with ⟨rfl, h0⟩ | ⟨g, cap, cur, rfl, hg, hh, hn, hc, hsz, ht⟩
  · obtain rfl := List.eq_nil_of_length_eq_zero h0
    exact ⟨none, 0, rfl, By.nil_, Nat.le_refl _, (by unfold maxLen; omega), (fun _ => rfl), (fun _ e => by cases e)⟩
  · refine ⟨some ⟨g, 0, none⟩, cap, rfl, ?_, hn, hc, (fun e => by cases e), (fun b e => by cases e; exact hg)⟩
    have hlt : g < w'.heap.size := by
      rcases Nat.lt_or_ge g w'.heap.size with h | h
      · exact h
      · rw [Array.getElem?_eq_none h] at hh; cases hh
    exact (By.of_row hh (by rw [Nat.mul_one] at ht; exact ht) hb).mono hlt
theorem New.strAt {w w' : World} {bs : List Nat} {v : Value} (h : New w w' bs v) (hb : ∀ x ∈ bs, x < 256) : StrAt w' v bs := by
  obtain ⟨A, c, rfl, hy, _⟩ := h.slice hb
  exact hy.strAt
/-- Block g holds n bytes, whichever. -/
def Wr (w : World) (g n : Nat) : Prop := ∃ cur, w.heap[g]? = some (.cells cur 5 (0, 0)) ∧ ∀ j, j < n → ∃ z : Nat, z < 256 ∧ cur[j]? = some (.int .u8 (z : Int))
theorem Wr.at_ {w : World} {g n j : Nat} (h : Wr w g n) (hj : j < n) : ∃ z : Nat, z < 256 ∧ w.cell? ⟨g, j, none⟩ = some (.int .u8 (z : Int)) ∧ w.frozen? ⟨g, j, none⟩ = false := by
  obtain ⟨cur, hg, hc⟩ := h
  obtain ⟨z, hz, e⟩ := hc j hj
  exact ⟨z, hz, by rw [cell_of_row w g j cur _ _ hg]; exact e, frozen_of_row w g j cur _ hg⟩
theorem Wr.set_ {w : World} {g n j z : Nat} (h : Wr w g n) (hz : z < 256) : Wr (w.setCell ⟨g, j, none⟩ (.int .u8 (z : Int))) g n := by
  obtain ⟨cur, hg, hc⟩ := h
  refine ⟨_, heap_setCell_same w g j cur _ _ hg, fun i hi => ?_⟩
  obtain ⟨y, hy, e⟩ := hc i hi
  have hlt : i < cur.size := (Array.getElem?_eq_some_iff.1 e).1
  by_cases hij : j = i
  · subst hij
    exact ⟨z, hz, by rw [Array.getElem?_setIfInBounds_self_of_lt hlt]⟩
  · exact ⟨y, hy, by rw [Array.getElem?_setIfInBounds_ne hij]; exact e⟩
theorem only_refl (w : World) (row : Option Nat) : w.grownBy w row := ⟨rfl, rfl, rfl, Nat.le_refl _, fun _ _ _ => rfl⟩
theorem only_set {a w : World} {g j : Nat} (h : a.grownBy w (some g)) (u : Value) : a.grownBy (w.setCell ⟨g, j, none⟩ u) (some g) :=
  ⟨h.os, h.tape, h.output, by simpa [World.setCell] using h.size, fun i hi hne => (Below.heap_setCell w ⟨g, j, none⟩ u i (fun e => hne (by rw [e]))).trans (h.block i hi hne)⟩
theorem only_below {a w : World} {g B : Nat} (h : a.grownBy w (some g)) (hB : B ≤ g) (hs : B ≤ a.heap.size) : Below B a w :=
  ⟨h.os, h.tape, h.output, h.size, fun k hk => h.block k (by omega) (fun e => by cases e; omega)⟩
/-- A slice in another block reads as it did. -/
theorem By.only {a w : World} {g : Nat} {B : Nat} {A : Option Addr} {bs : List Nat} (h : By a B A bs) (hB : B ≤ a.heap.size) (hg : a.grownBy w (some g)) (hne : ∀ b, A = some b → b.block ≠ g) : By w B A bs :=
  ⟨h.1, fun hn => by
    obtain ⟨b, off, e, hb, hc⟩ := h.2 hn
    exact ⟨b, off, e, hb, fun j hj => (World.cell?_of_block (w := a) (hg.block b (by omega) (fun e2 => hne _ e (by cases e2; rfl)))).trans (hc j hj)⟩⟩
/-- What the call made, as a block of its own. -/
theorem New.block {w w' : World} {bs : List Nat} {v : Value} (h : New w w' bs v) (hb : ∀ x ∈ bs, x < 256) (hn : 0 < bs.length) :
    ∃ g c, v = .slice (some ⟨g, 0, none⟩) bs.length c ∧ By w' w'.heap.size (some ⟨g, 0, none⟩) bs ∧ bs.length ≤ c ∧ c ≤ maxLen ∧ w.heap.size ≤ g ∧ g < w'.heap.size ∧ Wr w' g bs.length := by
  have h' := h
  obtain ⟨⟨_, h2⟩, _⟩ := h
  rcases h2 with ⟨_, h0⟩ | ⟨g, cap, cur, rfl, hg, hh, hle, hc, _, ht⟩
  · omega
  have hlt : g < w'.heap.size := by
    rcases Nat.lt_or_ge g w'.heap.size with h | h
    · exact h
    · rw [Array.getElem?_eq_none h] at hh; cases hh
  have hy : By w' w'.heap.size (some ⟨g, 0, none⟩) bs := (By.of_row hh (by rw [Nat.mul_one] at ht; exact ht) hb).mono hlt
  refine ⟨g, cap, rfl, hy, hle, hc, hg, hlt, cur, hh, fun j hj => ?_⟩
  obtain ⟨b, off, e, _, hcell⟩ := hy.at_ hn
  cases e
  have hj' := hcell j hj
  rw [Nat.zero_add, cell_of_row w' g j cur _ _ hh] at hj'
  exact ⟨bs.getD j 0, by rw [getD_at _ _ hj]; exact hb _ (List.getElem_mem hj), hj'⟩

/-- a slice of one's own, in a block from base on, that holds the bytes bs -/
def Own (w : World) (base : Nat) (bs : List Nat) (v : Value) : Prop := w.ownsRow base 5 1 v bs.length (vals bs)
theorem Own.nil_ (w : World) (base : Nat) : Own w base [] (.slice none 0 0) := ⟨rfl, Or.inl ⟨rfl, rfl⟩⟩
theorem Own.alloc {w : World} {base : Nat} {bs : List Nat} {v : Value} (h : Own w base bs v) (o : Obj) : Own (w.alloc o) base bs v := World.ownsRow.alloc h o
/-- append(v, d...), v one's own, d whatever bytes. -/
theorem append_by {w : World} {ops : Array Oper} {rest : List Oper} {o : Oper} {a : Act} {Q : Exit → Act → World → Prop} (hgd : o.guard = none) (s x : Operand)
    (ho : o.op = .call { callee := .builtin .append, args := #[s, x], argTypes := #[32, 32] }) (base : Nat) (bs ds : List Nat) (v : Value) (hs : a.eval s = v) (hown : Own w base bs v)
    (D : Option Addr) (m c : Nat) (hx : a.eval x = .slice D m c) (hm : m = ds.length) (B : Nat) (hD : By w B D ds) (hc : D = none → c = 0) (hl : bs.length + ds.length ≤ 1000000000) (w0 : World) (hb : Below base w0 w) (hbase : base ≤ w.heap.size)
    (h : ∀ v' w', Own w' base (bs ++ ds) v' → Below base w0 w' → wpList Try.prog ops Q rest (a.put o.dst v') w') : wpList Try.prog ops Q (o :: rest) a w := by
  obtain ⟨i0, hi, hz0, hz1, hz2⟩ := info_parts Try.info5
  subst hm
  cases D with
  | none =>
    have h0 := (hD.of_none rfl).1
    obtain rfl := List.eq_nil_of_length_eq_zero h0
    obtain rfl := hc rfl
    refine wpList_append_own_none hgd s x 32 ho base 5 i0 1 Try.underlying32 hi v bs.length (vals bs) hs hown hx ?_
    exact h v w (by rw [List.append_nil]; exact hown) hb
  | some ad =>
    refine wpList_append_own w hgd s x 32 ho base 5 i0 (.int .u8 0) 1 1 Try.underlying32 hi hz0 hz1 hz2 rfl (by decide) v bs.length (vals bs) hs hown ad ds.length c (vals ds) hx (by rw [vals_length, Nat.mul_one]) (hD.vals ad rfl) vals_one (by unfold maxLen; omega) (by omega) hbase ?_
    intro v' w' hown' hgrow _
    refine h v' w' ?_ (hb.grown hgrow hbase (own_ge hown))
    unfold Own
    rw [vals_append, List.length_append]
    exact hown'
/-- bytes of a new block -/
theorem by_made (w : World) (cs : Array Value) (ds : List Nat) (h : cs.toList = vals ds) (hb : ∀ x ∈ ds, x < 256) : By (w.alloc (.cells cs 5)) (w.heap.size + 1) (some ⟨w.heap.size, 0, none⟩) ds :=
  By.of_row (heap_alloc_new w _) (by rw [h]; exact List.take_of_length_le (by rw [vals_length]; exact Nat.le_refl _)) hb

/-- The slice at A holds the integers zs, in a block below B. -/
def Ints (w : World) (B : Nat) (A : Option Addr) (zs : List Int) : Prop :=
  0 < zs.length → ∃ b off, A = some ⟨b, off, none⟩ ∧ b < B ∧ ∀ j, j < zs.length → w.cell? ⟨b, off + j, none⟩ = some (.int .i64 (zs.getD j 0))
theorem Ints.below {w w' : World} {B B' : Nat} {A : Option Addr} {zs : List Int} (h : Ints w B A zs) (hb : Below B' w w') (hB : B ≤ B') : Ints w' B A zs := fun hn => by
  obtain ⟨b, off, e, hlt, hc⟩ := h hn
  exact ⟨b, off, e, hlt, fun j hj => (hb.cell (by simp; omega)).trans (hc j hj)⟩
theorem By.drew {w : World} {B : Nat} {A : Option Addr} {bs : List Nat} (h : By w B A bs) : By w.drew B A bs := h.keep fun _ _ => rfl
end Go.Proofs.Ytaokhbodmodcgaa
end

section
/-
  Records, names and writes in memory.
-/
namespace Go.Proofs.Ytaokhbodmodcgaa
open Go.RowKit

def nmv (n : Nm) : List Value := [.int .i64 n.stamp, .int .i64 n.inc, .int .i64 n.att]
/-- a write's cells: its block, its value -/
def wrv (x : Int × List Nat) : List Value := .int .i64 x.1 :: vals x.2
/-- a record's cells: its writes are the slice at A -/
def recv (A : Option Addr) (c : Nat) (r : Rc) : List Value :=
  [.int .i8 r.kind, .int .i64 r.name.stamp, .int .i64 r.name.inc, .int .i64 r.name.att, .bool r.yes, .slice A r.writes.length c, .int .i64 r.give, .int .i64 r.take, .int .i64 r.shards, .int .i64 r.stripe, .int .i64 r.dest, .int .i64 r.n]
def I64 (z : Int) : Prop := -9223372036854775808 ≤ z ∧ z ≤ 9223372036854775807
structure Nm.Fine (n : Nm) : Prop where
  stamp : I64 n.stamp
  inc : I64 n.inc
  att : I64 n.att
/-- the writes' numbers are of their kinds -/
def WrFine (l : List (Int × List Nat)) : Prop := ∀ x ∈ l, I64 x.1 ∧ x.2.length = 8 ∧ ∀ y ∈ x.2, y < 256
structure Rc.Fine (r : Rc) : Prop where
  kind : -128 ≤ r.kind ∧ r.kind ≤ 127
  name : r.name.Fine
  writes : WrFine r.writes
  give : I64 r.give
  take : I64 r.take
  shards : I64 r.shards
  stripe : I64 r.stripe
  dest : I64 r.dest
  n : I64 r.n
theorem WrFine.vals {l : List (Int × List Nat)} (h : WrFine l) : ValOk l := fun x hx => (h x hx).2
theorem wrv_length {x : Int × List Nat} (h : x.2.length = 8) : (wrv x).length = 9 := by unfold wrv; simp [h, vals_length]
/-- The slice at A holds the writes, in blocks of P. -/
def Wrs (w : World) (P : Nat → Prop) (A : Option Addr) (l : List (Int × List Nat)) : Prop :=
  0 < l.length → ∃ b off, A = some ⟨b, off, none⟩ ∧ (P b ∧ b < w.heap.size) ∧ ∀ i (h : i < l.length) j u, (wrv l[i])[j]? = some u → w.cell? ⟨b, off + i * 9 + j, none⟩ = some u
structure WrsV (w : World) (P : Nat → Prop) (A : Option Addr) (c : Nat) (l : List (Int × List Nat)) : Prop where
  at_ : Wrs w P A l
  le : l.length ≤ c
  max : c ≤ maxLen
  nil : A = none → c = 0
section
variable {w w' : World} {P P' : Nat → Prop} {A : Option Addr} {c : Nat} {l : List (Int × List Nat)}
theorem Wrs.nil_ : Wrs w P A [] := fun h => absurd h (by simp)
theorem Wrs.keep (h : Wrs w P A l) (hs : w.heap.size ≤ w'.heap.size) (hk : ∀ b, P b → b < w.heap.size → w'.heap[b]? = w.heap[b]?) : Wrs w' P A l := fun h0 => by
  obtain ⟨b, off, e, ⟨hp, hlt⟩, hc⟩ := h h0
  exact ⟨b, off, e, ⟨hp, Nat.lt_of_lt_of_le hlt hs⟩, fun i hi j u hu => (World.cell?_of_block (w := w) (hk b hp hlt)).trans (hc i hi j u hu)⟩
theorem Wrs.mono (h : Wrs w P A l) (hP : ∀ b, P b → b < w.heap.size → P' b) : Wrs w P' A l := fun h0 => by
  obtain ⟨b, off, e, ⟨hp, hlt⟩, hc⟩ := h h0
  exact ⟨b, off, e, ⟨hP b hp hlt, hlt⟩, hc⟩
theorem Wrs.below (h : Wrs w P A l) (hb : Below w.heap.size w w') : Wrs w' P A l := h.keep hb.size fun b _ hlt => hb.block b hlt
theorem WrsV.below (h : WrsV w P A c l) (hb : Below w.heap.size w w') : WrsV w' P A c l := ⟨h.at_.below hb, h.le, h.max, h.nil⟩
theorem WrsV.mono (h : WrsV w P A c l) (hP : ∀ b, P b → b < w.heap.size → P' b) : WrsV w P' A c l := ⟨h.at_.mono hP, h.le, h.max, h.nil⟩
theorem WrsV.nil_ : WrsV w P none 0 [] := ⟨Wrs.nil_, Nat.le_refl _, Nat.zero_le _, fun _ => rfl⟩
end
end Go.Proofs.Ytaokhbodmodcgaa
end

section
/-
  A part of a block read and written as one value; what stays while some blocks turn.
-/
namespace Go.Proofs.Ytaokhbodmodcgaa
set_option maxRecDepth 100000
open Go.RowKit Go.Maps

/-! ### a part of a block -/
section
variable {P : Program}
theorem run_load_part (w : World) (g off : Nat) (ty : TypeId) (xs : List Value) (d : TypeDesc) (hc : ∀ j u, xs[j]? = some u → w.cell? ⟨g, off + j, none⟩ = some u)
    (hu : P.underlying ty = some d) (hd : (match d with | .struct _ | .array _ _ => true | _ => false) = true) (hi : (P.info? ty).map (·.size) = some xs.length) :
    (loadVar ty ⟨g, off, none⟩).run P w = .ok (.agg xs.toArray) w := by
  have hl := run_loadCells_list (P := P) w ⟨g, off, none⟩ xs (fun j v hv => by rw [add_flat]; exact hc j v hv)
  cases hq : P.info? ty with
  | none => simp [hq] at hi
  | some i =>
    have hs : i.size = xs.length := by simpa [hq] using hi
    have hagg : (isAgg ty).run P w = .ok true w := by
      unfold isAgg
      rw [Sem.run_bind, run_underlying hu w]
      cases d <;> simp_all
    simp [loadVar, Sem.run_bind, hagg, sizeOf, typeInfo, hq, hs, hl]
theorem wp_load_part {o : Oper} {a : Act} {w : World} {K : Act → World → Prop} {Q : Exit → Act → World → Prop} (ty : TypeId) (x : Operand) (ho : o.op = .load ty x)
    (g off : Nat) (hx : a.eval x = .pointer (some ⟨g, off, none⟩)) (xs : List Value) (d : TypeDesc) (hc : ∀ j u, xs[j]? = some u → w.cell? ⟨g, off + j, none⟩ = some u)
    (hu : P.underlying ty = some d) (hd : (match d with | .struct _ | .array _ _ => true | _ => false) = true) (hi : (P.info? ty).map (·.size) = some xs.length)
    (h : K (a.put o.dst (.agg xs.toArray)) w) : o.wp P a w K Q := by
  unfold Oper.wp execOp
  simp only [ho, hx, Instr.loadAt, Instr.sureAddr, Sem.run_bind, Sem.run_pure, Result.andThen_ok, run_load_part w g off ty xs d hc hu hd hi]
  exact h
theorem wpList_load_part {ops : Array Oper} {rest : List Oper} {o : Oper} {a : Act} {w : World} {Q : Exit → Act → World → Prop} (hgd : o.guard = none) (ty : TypeId) (x : Operand) (ho : o.op = .load ty x)
    (g off : Nat) (hx : a.eval x = .pointer (some ⟨g, off, none⟩)) (xs : List Value) (d : TypeDesc) (hc : ∀ j u, xs[j]? = some u → w.cell? ⟨g, off + j, none⟩ = some u)
    (hu : P.underlying ty = some d) (hd : (match d with | .struct _ | .array _ _ => true | _ => false) = true) (hi : (P.info? ty).map (·.size) = some xs.length)
    (h : wpList P ops Q rest (a.put o.dst (.agg xs.toArray)) w) : wpList P ops Q (o :: rest) a w :=
  wpList_plain hgd fun _ hK => wp_load_part ty x ho g off hx xs d hc hu hd hi (hK _ _ h)

/-- 'a[i]' of an array of arrays or structs, by value -/
theorem run_index_agg (w : World) (t e : TypeId) (n q i : Nat) (cs : Array Value) (h : P.underlying t = some (.array n e)) (d : TypeDesc) (he : P.underlying e = some d) (hd : (match d with | .struct _ | .array _ _ => true | _ => false) = true)
    (hs : (P.info? e).map (·.size) = some q) (hi : i < n) : (Instr.index t (.agg cs) (.int .i64 (i : Int))).run P w = .ok (.agg (cs.extract (i * q) (i * q + q))) w := by
  have hagg : (isAgg e).run P w = .ok true w := by
    unfold isAgg
    rw [Sem.run_bind, run_underlying he w]
    cases d <;> simp_all
  cases hq : P.info? e with
  | none => simp [hq] at hs
  | some x =>
    have hz : x.size = q := by simpa [hq] using hs
    simp [Instr.index, run_underlying h, asIntOf, hi, part, hagg, sizeOf, typeInfo, hq, hz, go_sem]
/-- 'a[i]' of an array of single cells, by value -/
theorem run_index_cell (w : World) (t e : TypeId) (n i : Nat) (cs : Array Value) (h : P.underlying t = some (.array n e)) (k : IntKind) (he : P.underlying e = some (.int k)) (hs : (P.info? e).map (·.size) = some 1) (hi : i < n) (v : Value) (hv : cs[i]? = some v) :
    (Instr.index t (.agg cs) (.int .i64 (i : Int))).run P w = .ok v w := by
  cases hq : P.info? e with
  | none => simp [hq] at hs
  | some x =>
    have hz : x.size = 1 := by simpa [hq] using hs
    have hagg : (isAgg e).run P w = .ok false w := by
      unfold isAgg
      rw [Sem.run_bind, run_underlying he w]
      rfl
    simp [Instr.index, run_underlying h, asIntOf, hi, part, hagg, sizeOf, typeInfo, hq, hz, hv, go_sem]

theorem run_storeCells_part (g : Nat) (t : TypeId) : ∀ (vs : List Value) (off i : Nat) (pre post old : List Value) (w : World), w.heap[g]? = some (.cells (pre ++ old ++ post).toArray t (0, 0)) → pre.length = off + i → old.length = vs.length →
    (∀ v ∈ vs, v.oneCell' = true) → (storeCells ⟨g, off, none⟩ vs i).run P w = .ok () (w.setRow g (pre ++ vs ++ post).toArray)
  | [], off, i, pre, post, old, w, hg, _, hl, _ => by
    obtain rfl : old = [] := List.eq_nil_of_length_eq_zero (by simpa using hl)
    have := run_storeCells_from (P := P) g t [] (pre ++ [] ++ post).length (pre ++ [] ++ post).toArray w hg (by simp) (by simp)
    simp only [storeCells, List.append_nil] at this ⊢
    rw [List.take_of_length_le (by simp)] at this
    simpa using this
  | v :: rest, off, i, pre, post, old, w, hg, hp, hl, h1 => by
    obtain ⟨y, ys, rfl⟩ : ∃ y ys, old = y :: ys := by
      cases old with
      | nil => simp at hl
      | cons y ys => exact ⟨y, ys, rfl⟩
    have hat : (pre ++ y :: ys ++ post).toArray[off + i]? = some y := by
      rw [← hp]; simp
    have hcell : w.cell? ⟨g, off + i, none⟩ = some y := by rw [cell_of_row w g (off + i) _ _ _ hg]; exact hat
    have hfro := frozen_of_row w g (off + i) _ _ hg
    have hst : (store ((⟨g, off, none⟩ : Addr).add i) v).run P w = .ok () (w.setCell ⟨g, off + i, none⟩ v) := by
      rw [add_flat, run_store P w _ v _ (h1 v (by simp)), hcell]
      simp [hfro]
    have hset : (pre ++ y :: ys ++ post).toArray.setIfInBounds (off + i) v = ((pre ++ [v]) ++ ys ++ post).toArray := by
      rw [← hp]; simp
    have hg2 : (w.setCell ⟨g, off + i, none⟩ v).heap[g]? = some (.cells ((pre ++ [v]) ++ ys ++ post).toArray t (0, 0)) := by
      rw [heap_setCell_same w g (off + i) _ _ v hg, hset]
    have ih := run_storeCells_part g t rest off (i + 1) (pre ++ [v]) post ys (w.setCell ⟨g, off + i, none⟩ v) hg2 (by simp; omega) (by simpa using hl) (fun x hx => h1 x (by simp [hx]))
    simp only [storeCells, Sem.run_bind, hst, Result.andThen_ok, ih]
    rw [setCell_eq_setRow w g (off + i) _ _ _ v hg, setRow_setRow]
    simp

theorem run_store_part (w : World) (g : Nat) (t ty : TypeId) (pre old post xs : List Value) (hg : w.heap[g]? = some (.cells (pre ++ old ++ post).toArray t (0, 0))) (ho : old.length = xs.length)
    (hi : (P.info? ty).map (·.size) = some xs.length) (h1 : ∀ v ∈ xs, v.oneCell' = true) :
    (storeVar ty ⟨g, pre.length, none⟩ (.agg xs.toArray)).run P w = .ok () (w.setRow g (pre ++ xs ++ post).toArray) := by
  have := run_storeCells_part (P := P) g t xs pre.length 0 pre post old w hg rfl ho h1
  cases hq : P.info? ty with
  | none => simp [hq] at hi
  | some i =>
    have hs : xs.length = i.size := by simp [hq] at hi; omega
    simp [storeVar, sizeOf, typeInfo, hq, Value.cells, hs, this]
theorem wp_store_part {o : Oper} {a : Act} {w : World} {K : Act → World → Prop} {Q : Exit → Act → World → Prop} (ty : TypeId) (x y : Operand) (ho : o.op = .store ty x y)
    (g off : Nat) (hx : a.eval x = .pointer (some ⟨g, off, none⟩)) (xs : List Value) (hy : a.eval y = .agg xs.toArray) (t : TypeId) (pre old post : List Value)
    (hg : w.heap[g]? = some (.cells (pre ++ old ++ post).toArray t (0, 0))) (hoff : pre.length = off) (hold : old.length = xs.length) (hi : (P.info? ty).map (·.size) = some xs.length) (h1 : ∀ v ∈ xs, v.oneCell' = true)
    (h : K (a.put o.dst undef) (w.setRow g (pre ++ xs ++ post).toArray)) : o.wp P a w K Q := by
  subst hoff
  unfold Oper.wp execOp
  simp only [ho, hx, hy, Instr.storeAt, Instr.sureAddr, Sem.run_bind, Sem.run_pure, Result.andThen_ok, run_store_part w g t ty pre old post xs hg hold hi h1]
  exact h
theorem wpList_store_part {ops : Array Oper} {rest : List Oper} {o : Oper} {a : Act} {w : World} {Q : Exit → Act → World → Prop} (hgd : o.guard = none) (ty : TypeId) (x y : Operand) (ho : o.op = .store ty x y)
    (g off : Nat) (hx : a.eval x = .pointer (some ⟨g, off, none⟩)) (xs : List Value) (hy : a.eval y = .agg xs.toArray) (t : TypeId) (pre old post : List Value)
    (hg : w.heap[g]? = some (.cells (pre ++ old ++ post).toArray t (0, 0))) (hoff : pre.length = off) (hold : old.length = xs.length) (hi : (P.info? ty).map (·.size) = some xs.length) (h1 : ∀ v ∈ xs, v.oneCell' = true)
    (h : wpList P ops Q rest (a.put o.dst undef) (w.setRow g (pre ++ xs ++ post).toArray)) : wpList P ops Q (o :: rest) a w :=
  wpList_plain hgd fun _ hK => wp_store_part ty x y ho g off hx xs hy t pre old post hg hoff hold hi h1 (hK _ _ h)

/-- a step of a region that draws its order -/
theorem step_of_wp_ {ops : Array Oper} {o : Oper} {a : Act} {w : World} {K : Act → World → Prop} {Q : Exit → Act → World → Prop} {E : Prop} (hgd : o.guard = none) (h : o.wp P a w K Q) : if Region.wanted o (yielded ops a.tmps) = true then Oper.wp P o a w K Q else E := by
  have hw : Region.wanted o (yielded ops a.tmps) = true := by simp [Region.wanted, hgd]
  rw [if_pos hw]
  exact h
theorem wp_value {o : Oper} {a : Act} {w w' : World} {K : Act → World → Prop} {Q : Exit → Act → World → Prop} {v : Value} (hrun : (execOp a.eval o).run P w = .ok (.value v) w') (h : K (a.put o.dst v) w') : o.wp P a w K Q := by
  unfold Oper.wp
  rw [hrun, Oper.upon_value]
  exact h
theorem wp_mapUpdate {o : Oper} {a : Act} {w w' : World} {K : Act → World → Prop} {Q : Exit → Act → World → Prop} (t : TypeId) (m x v : Operand) (hop : o.op = .mapUpdate t m x v) (M key val : Value) (hm : a.eval m = M) (hx : a.eval x = key) (hv : a.eval v = val)
    (hrun : (Instr.mapUpdate t M key val).run P w = .ok () w') (h : K (a.put o.dst undef) w') : o.wp P a w K Q := by
  unfold Oper.wp
  simp [execOp, hop, hm, hx, hv, hrun, Result.andThen]
  exact h
/-- the builtin copy, at a step of a region -/
theorem wp_copy_splice {o : Oper} {a : Act} {w : World} {K : Act → World → Prop} {Q : Exit → Act → World → Prop} (hgd : o.guard = none) (d s : Operand) (dT sT : TypeId)
    (ho : o.op = .call { callee := .builtin .copy, args := #[d, s], argTypes := #[dT, sT] }) (elem : TypeId) (hu : P.underlying dT = some (.slice elem)) (hsz : (P.info? elem).map (·.size) = some 1)
    (dp sp : Option Addr) (dLen dCap sLen sCap : Nat) (hd : a.eval d = .slice dp dLen dCap) (hs : a.eval s = .slice sp sLen sCap)
    (g off : Nat) (cur : List Value) (t : TypeId) (hg : w.heap[g]? = some (.cells cur.toArray t (0, 0))) (cs : List Value) (hn : cs.length = Nat.min sLen dLen)
    (hpos : 0 < cs.length → dp = some ⟨g, off, none⟩ ∧ ∃ ad, sp = some ad ∧ ∀ j v, cs[j]? = some v → w.cell? (ad.add j) = some v)
    (hfit : off + cs.length ≤ cur.length) (h1 : ∀ v ∈ cs, v.oneCell' = true) (B : Nat) (w0 : World) (hb : RowKit.Below B w0 w) (hBg : B ≤ g)
    (h : ∀ w', RowKit.Hid (w'.heap[g]? = some (.cells (splice cur off cs).toArray t (0, 0))) → RowKit.Below B w0 w' → K (a.put o.dst (goInt cs.length)) w') : o.wp P a w K Q := by
  have h2 := step_copy_splice (P := P) (ops := #[]) (Q := Q) (E := True) hgd d s dT sT ho elem hu hsz dp sp dLen dCap sLen sCap hd hs g off cur t hg cs hn hpos hfit h1 B w0 hb hBg h
  rwa [if_pos (by simp [Region.wanted, hgd])] at h2
theorem laid_from : ∀ (vs Z pre : List Value), vs.length ≤ Z.length → List.foldl (fun (cs : Array Value) (x : Value × Nat) => cs.setIfInBounds x.snd x.fst) (pre ++ Z).toArray (vs.zipIdx pre.length) = (pre ++ (vs ++ Z.drop vs.length)).toArray := by
  intro vs
  induction vs with
  | nil => intro Z pre _; simp
  | cons v t ih =>
    intro Z pre h
    cases Z with
    | nil => simp at h
    | cons z r =>
      rw [List.zipIdx_cons, List.foldl_cons]
      have e : (pre ++ z :: r).toArray.setIfInBounds pre.length v = ((pre ++ [v]) ++ r).toArray := by simp
      have hi := ih r (pre ++ [v]) (by simpa using h)
      rw [List.length_append, List.length_singleton] at hi
      rw [e, hi]
      simp
theorem fill_one (xs : List Value) (base : Array Value) (n : Nat) (hn : xs.length = n) (hb : base.size = n) : Instr.fill (fun i => some (i * n, n)) base [(0, .agg xs.toArray)] = some xs.toArray := by
  have h := laid_from xs base.toList [] (by simp; omega)
  rw [List.drop_of_length_le (by simp; omega)] at h
  simp only [Instr.fill, Value.cells, List.size_toArray, hn, hb]
  simp only [Nat.zero_mul, Nat.zero_add, ne_eq, not_true_eq_false, decide_false, Bool.false_or, gt_iff_lt, Nat.lt_irrefl]
  simp at h
  simpa using h
/-- a slice literal of one array -/
theorem run_buildSlice_one (w : World) (t e : TypeId) (i : TypeInfo) (z : Value) (n : Nat) (ht : P.underlying t = some (.slice e)) (hi : P.info? e = some i) (hz : i.zero = some z) (hs : i.size = n) (h0 : 0 < n) (h1 : n ≤ 1000) (xs : List Value) (hx : xs.length = n) :
    (Instr.buildSlice t 1 #[(0, .agg xs.toArray)]).run P w = .ok (.slice (some ⟨w.heap.size, 0, none⟩) 1 1) (w.alloc (.cells xs.toArray e)) := by
  have hf := fill_one xs ((Array.range n).map (z.cells[· % z.cells.size]!)) n hx (by simp)
  have h2 : ¬ 16777216 < n := by omega
  have h3 : ¬ n = 0 := by omega
  simp [Instr.buildSlice, run_underlying ht, sizeOf, typeInfo, zeroValue, hi, hz, hs, h2, h3, hf, newRow]

/-- a new variable of whatever type -/
theorem wp_alloc_any {o : Oper} {a : Act} {w : World} {K : Act → World → Prop} {Q : Exit → Act → World → Prop} (ty : TypeId) (ho : o.op = .alloc ty) (z : Array Value) (hz : (P.info? ty).map (·.zero) = some (some (.agg z)))
    (h : K (a.put o.dst (.pointer (some ⟨w.heap.size, 0, none⟩))) (w.alloc (.cells z ty))) : o.wp P a w K Q := by
  have hzv : (zeroValue ty).run P w = .ok (.agg z) w := by
    cases hq : P.info? ty with
    | none => simp [hq] at hz
    | some i =>
      have hs : i.zero = some (.agg z) := by simpa [hq] using hz
      simp [zeroValue, typeInfo, hq, hs]
  unfold Oper.wp execOp
  simp only [ho, Instr.alloc, Sem.run_bind, hzv, Result.andThen_ok]
  simp [newVar, newRow, Value.cells, go_sem, Result.andThen]
  exact h
theorem wpList_alloc_any {ops : Array Oper} {rest : List Oper} {o : Oper} {a : Act} {w : World} {Q : Exit → Act → World → Prop} (hgd : o.guard = none) (ty : TypeId) (ho : o.op = .alloc ty) (z : Array Value) (hz : (P.info? ty).map (·.zero) = some (some (.agg z)))
    (h : wpList P ops Q rest (a.put o.dst (.pointer (some ⟨w.heap.size, 0, none⟩))) (w.alloc (.cells z ty))) : wpList P ops Q (o :: rest) a w := by
  refine wpList_plain hgd fun _ hK => ?_
  have hzv : (zeroValue ty).run P w = .ok (.agg z) w := by
    cases hq : P.info? ty with
    | none => simp [hq] at hz
    | some i =>
      have hs : i.zero = some (.agg z) := by simpa [hq] using hz
      simp [zeroValue, typeInfo, hq, hs]
  unfold Oper.wp execOp
  simp only [ho, Instr.alloc, Sem.run_bind, hzv, Result.andThen_ok]
  simp [newVar, newRow, Value.cells, go_sem, Result.andThen]
  exact hK _ _ h
end

/-! ### what stays -/
/-- No block has turned but those of S. -/
structure Kept (S : Nat → Prop) (w w' : World) : Prop where
  os : w'.os = w.os
  tape : w'.tape = w.tape
  output : w'.output = w.output
  size : w.heap.size ≤ w'.heap.size
  block : ∀ k, k < w.heap.size → ¬ S k → w'.heap[k]? = w.heap[k]?
section
variable {S S' : Nat → Prop} {a b c w w' : World}
theorem Kept.refl (S : Nat → Prop) (w : World) : Kept S w w := ⟨rfl, rfl, rfl, Nat.le_refl _, fun _ _ _ => rfl⟩
theorem Kept.trans (h : Kept S a b) (k : Kept S' b c) (hs : ∀ i, i < a.heap.size → S' i → S i) : Kept S a c :=
  ⟨k.os.trans h.os, k.tape.trans h.tape, k.output.trans h.output, Nat.le_trans h.size k.size, fun i hi hne => (k.block i (Nat.lt_of_lt_of_le hi h.size) (fun e => hne (hs i hi e))).trans (h.block i hi hne)⟩
theorem Kept.mono (h : Kept S a b) (hs : ∀ i, i < a.heap.size → S i → S' i) : Kept S' a b := ⟨h.os, h.tape, h.output, h.size, fun i hi hne => h.block i hi (fun e => hne (hs i hi e))⟩
theorem Kept.grown (h : Kept S a b) {row : Option Nat} (hg : b.grownBy c row) (hr : ∀ k, row = some k → k < a.heap.size → S k) : Kept S a c :=
  ⟨hg.os.trans h.os, hg.tape.trans h.tape, hg.output.trans h.output, Nat.le_trans h.size hg.size, fun i hi hne => (hg.block i (Nat.lt_of_lt_of_le hi h.size) (fun e => hne (hr i e.symm hi))).trans (h.block i hi hne)⟩
theorem Kept.below (h : Kept S a b) {B : Nat} (_hB : B ≤ b.heap.size) (hw : Below B b c) (hS : a.heap.size ≤ B ∨ ∀ k, B ≤ k → k < a.heap.size → S k) : Kept S a c :=
  ⟨hw.os.trans h.os, hw.tape.trans h.tape, hw.output.trans h.output, Nat.le_trans h.size hw.size, fun i hi hne => (hw.block i (by
    rcases hS with hS | hS
    · omega
    · rcases Nat.lt_or_ge i B with h1 | h1
      · exact h1
      · exact absurd (hS i h1 hi) hne)).trans (h.block i hi hne)⟩
theorem Kept.of_below {B : Nat} (hw : Below B a b) (hB : a.heap.size ≤ B) : Kept S a b := ⟨hw.os, hw.tape, hw.output, hw.size, fun i hi _ => hw.block i (by omega)⟩
theorem Kept.to_below (h : Kept S a b) {B : Nat} (hB : B ≤ a.heap.size) (hs : ∀ k, k < B → ¬ S k) : Below B a b := ⟨h.os, h.tape, h.output, h.size, fun i hi => h.block i (by omega) (hs i hi)⟩
theorem Kept.alloc (h : Kept S a b) (o : Obj) : Kept S a (b.alloc o) := h.grown (World.grownBy_alloc b o none) (fun _ e => by cases e)
theorem Kept.drew (h : Kept S a b) : Kept S a b.drew := ⟨h.os, h.tape, h.output, h.size, h.block⟩
theorem grown_setRow (w : World) (g : Nat) (cs : Array Value) : w.grownBy (w.setRow g cs) (some g) := ⟨rfl, rfl, rfl, by simp, fun k _ hk => setRow_other w g k _ (fun e => hk (by rw [e]))⟩
theorem grown_setCell (w : World) (g j : Nat) (u : Value) : w.grownBy (w.setCell ⟨g, j, none⟩ u) (some g) := only_set (only_refl w (some g)) u
theorem Kept.cell (h : Kept S a b) {p : Addr} (hp : p.block < a.heap.size) (hn : ¬ S p.block) : b.cell? p = a.cell? p := World.cell?_of_block (w := a) (h.block p.block hp hn)
end

end Go.Proofs.Ytaokhbodmodcgaa
end

section
/-
  Arrays of bytes of whatever length, as values: compared; loaded in a region that draws its order; a cell and a slot as results.
-/
namespace Go.Proofs.Ytaokhbodmodcgaa
set_option maxRecDepth 100000
open Go.RowKit

theorem part_byte (w : World) (xs : List Nat) (k : Nat) (h : k < xs.length) : (part 5 (vals xs).toArray (k * 1)).run Try.prog w = .ok (.int .u8 (xs.getD k 0 : Nat)) w := by
  have hv : (vals xs)[k]? = some (.int .u8 (xs.getD k 0 : Nat)) := by
    unfold vals
    rw [List.getElem?_map, List.getElem?_eq_getElem h, Option.map_some, getD_at _ _ h]
  simp [part, isAgg, run_underlying Try.underlying5, hv]
theorem eqItems_bytes (d : Nat) (xs ys : List Nat) (hy : ys.length = xs.length) : ∀ (n s : Nat) (w : World), s + n ≤ xs.length →
    (Op.eqItems (d + 1) 5 1 (vals xs).toArray (vals ys).toArray (List.range' s n)).run Try.prog w = .ok (decide ((xs.drop s).take n = (ys.drop s).take n)) w := by
  intro n
  induction n with
  | zero => intro s w _; simp [Op.eqItems]
  | succ n ih =>
    intro s w hn
    rw [List.range'_succ]
    simp only [Op.eqItems, Sem.run_bind, part_byte w xs s (by omega), part_byte w ys s (by omega), Result.andThen_ok, run_equalIn_int (P := Try.prog) w d 5 .u8 .u8 _ _ Try.underlying5]
    have ex : (xs.drop s).take (n + 1) = xs.getD s 0 :: (xs.drop (s + 1)).take n := by rw [List.drop_eq_getElem_cons (by omega), List.take_succ_cons, getD_at _ _ (by omega)]
    have ey : (ys.drop s).take (n + 1) = ys.getD s 0 :: (ys.drop (s + 1)).take n := by rw [List.drop_eq_getElem_cons (by omega), List.take_succ_cons, getD_at _ _ (by omega)]
    rw [ex, ey]
    clear ex ey
    generalize xs.getD s 0 = p
    generalize ys.getD s 0 = q
    by_cases h : p = q
    · subst h
      have h1 : ((p : Int) == (p : Int)) = true := by simp
      rw [h1]
      simp only [Bool.not_true, Bool.false_eq_true, if_false]
      rw [ih (s + 1) w (by omega)]
      simp
    · have h1 : ((p : Int) == (q : Int)) = false := by simp; omega
      rw [h1]
      simp [h]
theorem bytes_same_ (w : World) (t : TypeId) (n : Nat) (ht : Try.prog.underlying t = some (.array n 5)) (xs ys : List Nat) (hx : xs.length = n) (hy : ys.length = n) : (Op.equalIn 10000 t (.agg (vals xs).toArray) (.agg (vals ys).toArray)).run Try.prog w = .ok (decide (xs = ys)) w := by
  obtain ⟨i0, hi, _, hz1, _⟩ := info_parts Try.info5
  have hcell : Try.prog.cellsOf 5 = 1 := by kernel_rfl
  rw [run_equalIn_array w 9999 _ _ ht hi, hcell, List.range_eq_range', eqItems_bytes 9998 xs ys (by omega) n 0 w (by omega)]
  simp only [List.drop_zero, List.take_of_length_le (Nat.le_of_eq hx), List.take_of_length_le (Nat.le_of_eq hy)]
theorem bytes_eq (w : World) (t : TypeId) (n : Nat) (ht : Try.prog.underlying t = some (.array n 5)) (xs ys : List Nat) (hx : xs.length = n) (hy : ys.length = n) : (binOp .eql t (.agg (vals xs).toArray) (.agg (vals ys).toArray)).run Try.prog w = .ok (.bool (decide (xs = ys))) w := by
  rw [run_eql_struct, bytes_same_ w t n ht xs ys hx hy]
  rfl
theorem bytes_neq (w : World) (t : TypeId) (n : Nat) (ht : Try.prog.underlying t = some (.array n 5)) (xs ys : List Nat) (hx : xs.length = n) (hy : ys.length = n) : (binOp .neq t (.agg (vals xs).toArray) (.agg (vals ys).toArray)).run Try.prog w = .ok (.bool (!decide (xs = ys))) w := by
  rw [run_neq_struct, bytes_same_ w t n ht xs ys hx hy]
  rfl
section
variable {P : Program}
/-- a load of an array or a struct, in a region that draws its order -/
theorem exec_load_part {ρ : Operand → Value} {o : Oper} {w : World} (ty : TypeId) (x : Operand) (ho : o.op = .load ty x) (g off : Nat) (hx : ρ x = .pointer (some ⟨g, off, none⟩)) (xs : List Value) (d : TypeDesc)
    (hc : ∀ j u, xs[j]? = some u → w.cell? ⟨g, off + j, none⟩ = some u) (hu : P.underlying ty = some d) (hd : (match d with | .struct _ | .array _ _ => true | _ => false) = true) (hi : (P.info? ty).map (·.size) = some xs.length) :
    (execOp ρ o).run P w = .ok (.value (.agg xs.toArray)) w := by
  unfold execOp
  simp only [ho, hx, Instr.loadAt, Instr.sureAddr, Sem.run_bind, Sem.run_pure, Result.andThen_ok, run_load_part w g off ty xs d hc hu hd hi]
/-- results: a cell that holds an array or a struct, and a slot -/
theorem results_cell_tmp {fn : Func} {p u : Tmp} {t : TypeId} (h : fn.results = #[.cell p t, .tmp u]) (tmps : Array Value) (w : World) (g : Nat) (cs : Array Value) (fr : Nat × Nat) (d : TypeDesc)
    (hp : tmps.getD p undef = .pointer (some ⟨g, 0, none⟩)) (hg : w.heap[g]? = some (.cells cs t fr)) (hu : P.underlying t = some d) (hd : (match d with | .struct _ | .array _ _ => true | _ => false) = true) (hi : (P.info? t).map (·.size) = some cs.size) :
    (results fn tmps).run P w = .ok (.tuple #[.agg cs, tmps.getD u undef]) w := by
  have hp' : tmps[p]?.getD undef = .pointer (some ⟨g, 0, none⟩) := by simpa using hp
  simp [results, h, hp', asAddr, run_loadVar_row w g t t cs fr d hg hu hd hi]
end
end Go.Proofs.Ytaokhbodmodcgaa
end

section
/-
  Writes, changes and names as values: compared.
-/
namespace Go.Proofs.Ytaokhbodmodcgaa
open Go.RowKit
set_option maxRecDepth 100000

theorem bytes_same_d (d : Nat) (w : World) (t : TypeId) (n : Nat) (ht : Try.prog.underlying t = some (.array n 5)) (xs ys : List Nat) (hx : xs.length = n) (hy : ys.length = n) : (Op.equalIn (d + 1 + 1) t (.agg (vals xs).toArray) (.agg (vals ys).toArray)).run Try.prog w = .ok (decide (xs = ys)) w := by
  obtain ⟨i0, hi, _, hz1, _⟩ := info_parts Try.info5
  have hcell : Try.prog.cellsOf 5 = 1 := by kernel_rfl
  rw [run_equalIn_array w (d + 1) _ _ ht hi, hcell, List.range_eq_range', eqItems_bytes d xs ys (by omega) n 0 w (by omega)]
  simp only [List.drop_zero, List.take_of_length_le (Nat.le_of_eq hx), List.take_of_length_le (Nat.le_of_eq hy)]
theorem write_parts : (Try.prog.fieldsOf 68).toList.map (fun f => (f.name, f.type, f.offset)) = [("Block", 3, 0), ("Value", 66, 1)] := by kernel_rfl
theorem value_size : (Try.prog.info? 66).map (·.size) = some 8 := by kernel_rfl
theorem two_list {α β : Type} {f : α → β} {l : List α} {a b : β} (h : l.map f = [a, b]) : ∃ x y, l = [x, y] ∧ f x = a ∧ f y = b := by
  match l, h with
  | [x, y], h => simp only [List.map_cons, List.map_nil, List.cons.injEq, and_true] at h; exact ⟨x, y, rfl, h.1, h.2⟩
theorem part_int (w : World) (xs : List Value) (k : Nat) (v : Value) (h : xs[k]? = some v) : (part 3 xs.toArray k).run Try.prog w = .ok v w := by
  simp [part, isAgg, run_underlying Try.underlying3, h]
theorem part_value (w : World) (x : Int × List Nat) (hx : x.2.length = 8) : (part 66 (wrv x).toArray 1).run Try.prog w = .ok (.agg (vals x.2).toArray) w := by
  obtain ⟨i, hi, hs⟩ := Option.map_eq_some_iff.1 value_size
  have he : List.take 8 (wrv x).tail = vals x.2 := List.take_of_length_le (by show (vals x.2).length ≤ 8; rw [vals_length]; omega)
  simp [part, isAgg, run_underlying Try.underlying66, sizeOf, typeInfo, hi, hs, he]
theorem write_same (w : World) (x y : Int × List Nat) (hx : x.2.length = 8) (hy : y.2.length = 8) : (Op.equalIn 10000 68 (.agg (wrv x).toArray) (.agg (wrv y).toArray)).run Try.prog w = .ok (decide (x = y)) w := by
  obtain ⟨f1, f2, hf, e1, e2⟩ := two_list write_parts
  simp only [Prod.mk.injEq] at e1 e2
  obtain ⟨n1, t1, o1⟩ := e1
  obtain ⟨n2, t2, o2⟩ := e2
  rw [run_equalIn_struct w 9999 68 _ _ (by kernel_rfl) (by kernel_rfl), hf]
  simp only [Op.eqFields, n1, t1, o1, n2, t2, o2, Sem.run_bind, Sem.run_ite, Sem.run_pure]
  simp only [part_int w (wrv x) 0 (.int .i64 x.1) rfl, part_int w (wrv y) 0 (.int .i64 y.1) rfl, part_value w x hx, part_value w y hy, Result.andThen_ok,
    run_equalIn_int (P := Try.prog) w 9998 3 .i64 .i64 _ _ Try.underlying3, bytes_same_d 9997 w 66 8 Try.underlying66 x.2 y.2 hx hy]
  obtain ⟨a, b⟩ := x
  obtain ⟨c, d⟩ := y
  by_cases h1 : a = c
  · by_cases h2 : b = d
    · simp [h1, h2, show ("Value" ≠ "_") from by decide]
    · simp [h1, h2, show ("Value" ≠ "_") from by decide]
  · simp [h1]
theorem write_neq (w : World) (x y : Int × List Nat) (hx : x.2.length = 8) (hy : y.2.length = 8) : (binOp .neq 68 (.agg (wrv x).toArray) (.agg (wrv y).toArray)).run Try.prog w = .ok (.bool (!decide (x = y))) w := by
  rw [run_neq_struct, write_same w x y hx hy]
  rfl
theorem three_list {α β : Type} {f : α → β} {l : List α} {a b c : β} (h : l.map f = [a, b, c]) : ∃ x y z, l = [x, y, z] ∧ f x = a ∧ f y = b ∧ f z = c := by
  match l, h with
  | [x, y, z], h => simp only [List.map_cons, List.map_nil, List.cons.injEq, and_true] at h; exact ⟨x, y, z, rfl, h.1, h.2.1, h.2.2⟩
theorem name_parts : (Try.prog.fieldsOf 24).toList.map (fun f => (f.name, f.type, f.offset)) = [("Stamp", 3, 0), ("Inc", 3, 1), ("Try", 3, 2)] := by kernel_rfl
theorem change_parts : (Try.prog.fieldsOf 27).toList.map (fun f => (f.name, f.type, f.offset)) = [("Stripe", 3, 0), ("To", 3, 1)] := by kernel_rfl
theorem name_eql (w : World) (a b c a' b' c' : Int) : (binOp .eql 24 (.agg #[.int .i64 a, .int .i64 b, .int .i64 c]) (.agg #[.int .i64 a', .int .i64 b', .int .i64 c'])).run Try.prog w = .ok (.bool (decide (a = a' ∧ b = b' ∧ c = c'))) w := by
  obtain ⟨f1, f2, f3, hf, e1, e2, e3⟩ := three_list name_parts
  simp only [Prod.mk.injEq] at e1 e2 e3
  obtain ⟨n1, t1, o1⟩ := e1
  obtain ⟨n2, t2, o2⟩ := e2
  obtain ⟨n3, t3, o3⟩ := e3
  rw [run_eql_struct, run_equalIn_struct w 9999 24 _ _ (by kernel_rfl) (by kernel_rfl), hf]
  have p := fun (x y z : Int) => part_int w [.int .i64 x, .int .i64 y, .int .i64 z]
  have p0 := fun x y z : Int => p x y z 0 _ rfl
  have p1 := fun x y z : Int => p x y z 1 _ rfl
  have p2 := fun x y z : Int => p x y z 2 _ rfl
  simp only [Op.eqFields, n1, t1, o1, n2, t2, o2, n3, t3, o3, Sem.run_bind, Sem.run_ite, Sem.run_pure, p0, p1, p2, Result.andThen_ok, run_equalIn_int (P := Try.prog) w 9998 3 .i64 .i64 _ _ Try.underlying3]
  by_cases h1 : a = a'
  · by_cases h2 : b = b'
    · by_cases h3 : c = c' <;> simp [h1, h2, h3]
    · simp [h1, h2]
  · simp [h1]
theorem change_eql (w : World) (a b a' b' : Int) : (binOp .eql 27 (.agg #[.int .i64 a, .int .i64 b]) (.agg #[.int .i64 a', .int .i64 b'])).run Try.prog w = .ok (.bool (decide (a = a' ∧ b = b'))) w := by
  obtain ⟨f1, f2, hf, e1, e2⟩ := two_list change_parts
  simp only [Prod.mk.injEq] at e1 e2
  obtain ⟨n1, t1, o1⟩ := e1
  obtain ⟨n2, t2, o2⟩ := e2
  rw [run_eql_struct, run_equalIn_struct w 9999 27 _ _ (by kernel_rfl) (by kernel_rfl), hf]
  have p := fun (x y : Int) => part_int w [.int .i64 x, .int .i64 y]
  have p0 := fun x y : Int => p x y 0 _ rfl
  have p1 := fun x y : Int => p x y 1 _ rfl
  simp only [Op.eqFields, n1, t1, o1, n2, t2, o2, Sem.run_bind, Sem.run_ite, Sem.run_pure, p0, p1, Result.andThen_ok, run_equalIn_int (P := Try.prog) w 9998 3 .i64 .i64 _ _ Try.underlying3]
  by_cases h1 : a = a'
  · by_cases h2 : b = b' <;> simp [h1, h2]
  · simp [h1]
end Go.Proofs.Ytaokhbodmodcgaa
end

section
/-
  The document's answer of which writes are the same.
-/
namespace Go.Proofs.Ytaokhbodmodcgaa
open Go.RowKit
set_option maxRecDepth 100000

theorem write_size : (Try.prog.info? 68).map (·.size) = some 9 := by kernel_rfl
theorem same_take {l m : List (Int × List Nat)} {k : Nat} (h1 : k < l.length) (h2 : k < m.length) (h : l.take k = m.take k) : l.take (k + 1) = m.take (k + 1) ↔ l[k] = m[k] := by
  have e1 := List.take_succ_eq_append_getElem h1
  have e2 := List.take_succ_eq_append_getElem h2
  rw [e1, e2, h]
  exact ⟨fun e => by simpa only [List.cons.injEq, and_true] using List.append_cancel_left e, fun e => by rw [e]⟩
set_option maxHeartbeats 4000000 in
theorem sameWrites_any (l m : List (Int × List Nat)) (A B : Option Addr) (c d : Nat) (w : World) (P Q : Nat → Prop) (hl : Wrs w P A l) (hm : Wrs w Q B m) (hfl : WrFine l) (hfm : WrFine m) (hll : l.length ≤ 1000000) (hml : m.length ≤ 1000000) :
    Calls Try.prog 38 #[.slice A l.length c, .slice B m.length d] w fun e w' => e = .returned (.bool (decide (l = m))) ∧ Below w.heap.size w w' := by
  obtain ⟨E, hE⟩ : ∃ E, E = decide (l = m) := ⟨_, rfl⟩
  rw [← hE]
  obtain ⟨n, hn⟩ : ∃ n, n = l.length := ⟨_, rfl⟩
  obtain ⟨n2, hn2⟩ : ∃ n2, n2 = m.length := ⟨_, rfl⟩
  rw [← hn, ← hn2]
  by_cases h0 : n = n2
  · subst h0
    have HN := Lib.hid (And.intro hn hn2)
    have HE := Lib.hid hE
    have HL := Lib.hid hl
    have HM := Lib.hid hm
    have HFl := Lib.hid hfl
    have HFm := Lib.hid hfm
    have hnl : n ≤ 1000000 := by omega
    have hq : ((n : Int) != (n : Int)) = false := by simp
    clear hn hn2 hE hl hm hfl hfm hll hml
    go_enter Try.func38, Try.ntmps38
    go_wp2
    go_loopw [5] (fun i wr => ∃ k : Nat, k ≤ n ∧ i = .int .i64 (k : Int) ∧ l.take k = m.take k ∧ Below w.heap.size w wr) (fun i _ => n - (intOf i).toNat)
    case atStart => exact ⟨0, Nat.zero_le _, rfl, rfl, Below.refl _ _⟩
    case round =>
      obtain ⟨k, hk, rfl, hEk, hb⟩ := hrel
      have HBr := Lib.hid hb
      by_cases hlt : k < n
      · have hkl : k < l.length := by rw [← HN.out.1]; exact hlt
        have hkm : k < m.length := by rw [← HN.out.2]; exact hlt
        obtain ⟨b, off, rfl, ⟨_, hbl⟩, hc⟩ := HL.out (by omega)
        obtain ⟨b2, off2, rfl, ⟨_, hbl2⟩, hc2⟩ := HM.out (by omega)
        have hs := same_take hkl hkm hEk
        have hx := HFl.out l[k] (List.getElem_mem hkl)
        have hy := HFm.out m[k] (List.getElem_mem hkm)
        have HC := Lib.hid (show ∀ W, Below w.heap.size w W → (∀ j u, (wrv l[k])[j]? = some u → W.cell? ⟨b, off + k * 9 + j, none⟩ = some u) ∧ ∀ j u, (wrv m[k])[j]? = some u → W.cell? ⟨b2, off2 + k * 9 + j, none⟩ = some u from fun W hW =>
          ⟨fun j u hu => (World.cell?_of_block (w := w) (hW.block b hbl)).trans (hc k hkl j u hu), fun j u hu => (World.cell?_of_block (w := w) (hW.block b2 hbl2)).trans (hc2 k hkm j u hu)⟩)
        have hi1 : (Try.prog.info? 68).map (·.size) = some (wrv l[k]).length := by rw [write_size, wrv_length hx.2.1]
        have hi2 : (Try.prog.info? 68).map (·.size) = some (wrv m[k]).length := by rw [write_size, wrv_length hy.2.1]
        have hne := fun W => write_neq W l[k] m[k] hx.2.1 hy.2.1
        have hno : l[k] ≠ m[k] → E = false := fun h => by
          rw [HE.out]
          refine decide_eq_false fun e => h ?_
          subst e
          rfl
        clear hc hc2 hEk hb hx hy
        generalize l[k] = x at *
        generalize m[k] = y at *
        have HS := Lib.hid hs
        have HNo := Lib.hid hno
        have HI1 := Lib.hid hi1
        have HI2 := Lib.hid hi2
        have hki : (k : Int) < (n : Int) := by omega
        have hw : IntKind.i64.wrap ((k : Int) + 1) = (k : Int) + 1 := by rw [IntKind.wrap_i64]; omega
        clear hs hno hi1 hi2
        by_cases hxy : x = y
        · have hd : decide (x = y) = true := decide_eq_true hxy
          have HY := Lib.hid (HS.out.2 hxy)
          rw [hd] at hne
          clear hxy hd
          go_wp2_with fail
          refine wp_region_held_drew (S := fun W => Below w.heap.size w W) (by kernel_rfl) HBr.out.drew (fun hHeld => ?_)
          refine wpAnyH_take (i := 0) (v := ?_) rfl (by kernel_rfl) (by kernel_rfl) (by kernel_rfl) (fun _ _ _ h => h) (Or.inl ⟨by rfl, ?_⟩) (by assumption) ?_
          rotate_left
          · simp only [List.getElem_toArray, List.getElem_cons_zero, List.getElem_cons_succ]; intro W hSw; (try dsimp only at hSw); go_simp; all_goals with_reducible rfl
          simp only [Act.put, List.getElem_toArray, List.getElem_cons_zero, List.getElem_cons_succ, List.setIfInBounds_toArray, List.set_cons_zero, List.set_cons_succ]
          refine wpAnyH_take (i := 1) (v := ?_) rfl (by kernel_rfl) (by kernel_rfl) (by kernel_rfl) (fun _ _ _ h => h) (Or.inl ⟨by rfl, ?_⟩) (by assumption) ?_
          rotate_left
          · simp only [List.getElem_toArray, List.getElem_cons_zero, List.getElem_cons_succ]; intro W hSw; (try dsimp only at hSw); go_simp; all_goals with_reducible rfl
          simp only [Act.put, List.getElem_toArray, List.getElem_cons_zero, List.getElem_cons_succ, List.setIfInBounds_toArray, List.set_cons_zero, List.set_cons_succ]
          refine wpAnyH_take (i := 2) (v := ?_) rfl (by kernel_rfl) (by kernel_rfl) (by kernel_rfl) (fun _ _ _ h => h) (Or.inl ⟨by rfl, ?_⟩) (by assumption) ?_
          rotate_left
          · simp only [List.getElem_toArray, List.getElem_cons_zero, List.getElem_cons_succ]; intro W hSw; (try dsimp only at hSw); go_simp; all_goals with_reducible rfl
          simp only [Act.put, List.getElem_toArray, List.getElem_cons_zero, List.getElem_cons_succ, List.setIfInBounds_toArray, List.set_cons_zero, List.set_cons_succ]
          refine wpAnyH_take (i := 3) (v := ?_) rfl (by kernel_rfl) (by kernel_rfl) (by kernel_rfl) (fun _ _ _ h => h) (Or.inl ⟨by rfl, ?_⟩) (by assumption) ?_
          rotate_left
          · simp only [List.getElem_toArray, List.getElem_cons_zero, List.getElem_cons_succ]; intro W hSw; (try dsimp only at hSw); refine exec_load_part 68 (.tmp 19) ?_ b (off + k * 9) ?_ (wrv x) _ (HC.out W hSw).1 Try.underlying68 ?_ HI1.out <;> rfl
          simp only [Act.put, List.getElem_toArray, List.getElem_cons_zero, List.getElem_cons_succ, List.setIfInBounds_toArray, List.set_cons_zero, List.set_cons_succ]
          refine wpAnyH_take (i := 4) (v := ?_) rfl (by kernel_rfl) (by kernel_rfl) (by kernel_rfl) (fun _ _ _ h => h) (Or.inl ⟨by rfl, ?_⟩) (by assumption) ?_
          rotate_left
          · simp only [List.getElem_toArray, List.getElem_cons_zero, List.getElem_cons_succ]; intro W hSw; (try dsimp only at hSw); go_simp; all_goals with_reducible rfl
          simp only [Act.put, List.getElem_toArray, List.getElem_cons_zero, List.getElem_cons_succ, List.setIfInBounds_toArray, List.set_cons_zero, List.set_cons_succ]
          refine wpAnyH_take (i := 5) (v := ?_) rfl (by kernel_rfl) (by kernel_rfl) (by kernel_rfl) (fun _ _ _ h => h) (Or.inl ⟨by rfl, ?_⟩) (by assumption) ?_
          rotate_left
          · simp only [List.getElem_toArray, List.getElem_cons_zero, List.getElem_cons_succ]; intro W hSw; (try dsimp only at hSw); go_simp; all_goals with_reducible rfl
          simp only [Act.put, List.getElem_toArray, List.getElem_cons_zero, List.getElem_cons_succ, List.setIfInBounds_toArray, List.set_cons_zero, List.set_cons_succ]
          refine wpAnyH_take (i := 6) (v := ?_) rfl (by kernel_rfl) (by kernel_rfl) (by kernel_rfl) (fun _ _ _ h => h) (Or.inl ⟨by rfl, ?_⟩) (by assumption) ?_
          rotate_left
          · simp only [List.getElem_toArray, List.getElem_cons_zero, List.getElem_cons_succ]; intro W hSw; (try dsimp only at hSw); go_simp; all_goals with_reducible rfl
          simp only [Act.put, List.getElem_toArray, List.getElem_cons_zero, List.getElem_cons_succ, List.setIfInBounds_toArray, List.set_cons_zero, List.set_cons_succ]
          refine wpAnyH_take (i := 7) (v := ?_) rfl (by kernel_rfl) (by kernel_rfl) (by kernel_rfl) (fun _ _ _ h => h) (Or.inl ⟨by rfl, ?_⟩) (by assumption) ?_
          rotate_left
          · simp only [List.getElem_toArray, List.getElem_cons_zero, List.getElem_cons_succ]; intro W hSw; (try dsimp only at hSw); refine exec_load_part 68 (.tmp 23) ?_ b2 (off2 + k * 9) ?_ (wrv y) _ (HC.out W hSw).2 Try.underlying68 ?_ HI2.out <;> rfl
          simp only [Act.put, List.getElem_toArray, List.getElem_cons_zero, List.getElem_cons_succ, List.setIfInBounds_toArray, List.set_cons_zero, List.set_cons_succ]
          refine wpAnyH_take (i := 8) (v := ?_) rfl (by kernel_rfl) (by kernel_rfl) (by kernel_rfl) (fun _ _ _ h => h) (Or.inl ⟨by rfl, ?_⟩) (by assumption) ?_
          rotate_left
          · simp only [List.getElem_toArray, List.getElem_cons_zero, List.getElem_cons_succ]; intro W hSw; (try dsimp only at hSw); go_simp; all_goals with_reducible rfl
          simp only [Act.put, List.getElem_toArray, List.getElem_cons_zero, List.getElem_cons_succ, List.setIfInBounds_toArray, List.set_cons_zero, List.set_cons_succ]
          refine wpAnyH_done (by kernel_rfl) ?_ _
          go_wp2_with fail
          go_roundw
          case rel => exact ⟨k + 1, by omega, by simp, HY.out, HBr.out.drew⟩
          case measure => simp [intOf]; omega
        · have hd : decide (x = y) = false := decide_eq_false hxy
          have HF := Lib.hid (HNo.out hxy)
          rw [hd] at hne
          clear hxy hd
          go_wp2_with fail
          refine wp_region_held_drew (S := fun W => Below w.heap.size w W) (by kernel_rfl) HBr.out.drew (fun hHeld => ?_)
          refine wpAnyH_take (i := 0) (v := ?_) rfl (by kernel_rfl) (by kernel_rfl) (by kernel_rfl) (fun _ _ _ h => h) (Or.inl ⟨by rfl, ?_⟩) (by assumption) ?_
          rotate_left
          · simp only [List.getElem_toArray, List.getElem_cons_zero, List.getElem_cons_succ]; intro W hSw; (try dsimp only at hSw); go_simp; all_goals with_reducible rfl
          simp only [Act.put, List.getElem_toArray, List.getElem_cons_zero, List.getElem_cons_succ, List.setIfInBounds_toArray, List.set_cons_zero, List.set_cons_succ]
          refine wpAnyH_take (i := 1) (v := ?_) rfl (by kernel_rfl) (by kernel_rfl) (by kernel_rfl) (fun _ _ _ h => h) (Or.inl ⟨by rfl, ?_⟩) (by assumption) ?_
          rotate_left
          · simp only [List.getElem_toArray, List.getElem_cons_zero, List.getElem_cons_succ]; intro W hSw; (try dsimp only at hSw); go_simp; all_goals with_reducible rfl
          simp only [Act.put, List.getElem_toArray, List.getElem_cons_zero, List.getElem_cons_succ, List.setIfInBounds_toArray, List.set_cons_zero, List.set_cons_succ]
          refine wpAnyH_take (i := 2) (v := ?_) rfl (by kernel_rfl) (by kernel_rfl) (by kernel_rfl) (fun _ _ _ h => h) (Or.inl ⟨by rfl, ?_⟩) (by assumption) ?_
          rotate_left
          · simp only [List.getElem_toArray, List.getElem_cons_zero, List.getElem_cons_succ]; intro W hSw; (try dsimp only at hSw); go_simp; all_goals with_reducible rfl
          simp only [Act.put, List.getElem_toArray, List.getElem_cons_zero, List.getElem_cons_succ, List.setIfInBounds_toArray, List.set_cons_zero, List.set_cons_succ]
          refine wpAnyH_take (i := 3) (v := ?_) rfl (by kernel_rfl) (by kernel_rfl) (by kernel_rfl) (fun _ _ _ h => h) (Or.inl ⟨by rfl, ?_⟩) (by assumption) ?_
          rotate_left
          · simp only [List.getElem_toArray, List.getElem_cons_zero, List.getElem_cons_succ]; intro W hSw; (try dsimp only at hSw); refine exec_load_part 68 (.tmp 19) ?_ b (off + k * 9) ?_ (wrv x) _ (HC.out W hSw).1 Try.underlying68 ?_ HI1.out <;> rfl
          simp only [Act.put, List.getElem_toArray, List.getElem_cons_zero, List.getElem_cons_succ, List.setIfInBounds_toArray, List.set_cons_zero, List.set_cons_succ]
          refine wpAnyH_take (i := 4) (v := ?_) rfl (by kernel_rfl) (by kernel_rfl) (by kernel_rfl) (fun _ _ _ h => h) (Or.inl ⟨by rfl, ?_⟩) (by assumption) ?_
          rotate_left
          · simp only [List.getElem_toArray, List.getElem_cons_zero, List.getElem_cons_succ]; intro W hSw; (try dsimp only at hSw); go_simp; all_goals with_reducible rfl
          simp only [Act.put, List.getElem_toArray, List.getElem_cons_zero, List.getElem_cons_succ, List.setIfInBounds_toArray, List.set_cons_zero, List.set_cons_succ]
          refine wpAnyH_take (i := 5) (v := ?_) rfl (by kernel_rfl) (by kernel_rfl) (by kernel_rfl) (fun _ _ _ h => h) (Or.inl ⟨by rfl, ?_⟩) (by assumption) ?_
          rotate_left
          · simp only [List.getElem_toArray, List.getElem_cons_zero, List.getElem_cons_succ]; intro W hSw; (try dsimp only at hSw); go_simp; all_goals with_reducible rfl
          simp only [Act.put, List.getElem_toArray, List.getElem_cons_zero, List.getElem_cons_succ, List.setIfInBounds_toArray, List.set_cons_zero, List.set_cons_succ]
          refine wpAnyH_take (i := 6) (v := ?_) rfl (by kernel_rfl) (by kernel_rfl) (by kernel_rfl) (fun _ _ _ h => h) (Or.inl ⟨by rfl, ?_⟩) (by assumption) ?_
          rotate_left
          · simp only [List.getElem_toArray, List.getElem_cons_zero, List.getElem_cons_succ]; intro W hSw; (try dsimp only at hSw); go_simp; all_goals with_reducible rfl
          simp only [Act.put, List.getElem_toArray, List.getElem_cons_zero, List.getElem_cons_succ, List.setIfInBounds_toArray, List.set_cons_zero, List.set_cons_succ]
          refine wpAnyH_take (i := 7) (v := ?_) rfl (by kernel_rfl) (by kernel_rfl) (by kernel_rfl) (fun _ _ _ h => h) (Or.inl ⟨by rfl, ?_⟩) (by assumption) ?_
          rotate_left
          · simp only [List.getElem_toArray, List.getElem_cons_zero, List.getElem_cons_succ]; intro W hSw; (try dsimp only at hSw); refine exec_load_part 68 (.tmp 23) ?_ b2 (off2 + k * 9) ?_ (wrv y) _ (HC.out W hSw).2 Try.underlying68 ?_ HI2.out <;> rfl
          simp only [Act.put, List.getElem_toArray, List.getElem_cons_zero, List.getElem_cons_succ, List.setIfInBounds_toArray, List.set_cons_zero, List.set_cons_succ]
          refine wpAnyH_take (i := 8) (v := ?_) rfl (by kernel_rfl) (by kernel_rfl) (by kernel_rfl) (fun _ _ _ h => h) (Or.inl ⟨by rfl, ?_⟩) (by assumption) ?_
          rotate_left
          · simp only [List.getElem_toArray, List.getElem_cons_zero, List.getElem_cons_succ]; intro W hSw; (try dsimp only at hSw); go_simp; all_goals with_reducible rfl
          simp only [Act.put, List.getElem_toArray, List.getElem_cons_zero, List.getElem_cons_succ, List.setIfInBounds_toArray, List.set_cons_zero, List.set_cons_succ]
          refine wpAnyH_done (by kernel_rfl) ?_ _
          go_wp2_with fail
          go_ret
          exact ⟨by rw [HF.out]; rfl, HBr.out.drew⟩
      · obtain rfl : k = n := by omega
        have HYes := Lib.hid (show E = true by
          rw [HE.out]
          have h1 := hEk
          rw [List.take_of_length_le (Nat.le_of_eq HN.out.1.symm), List.take_of_length_le (Nat.le_of_eq HN.out.2.symm)] at h1
          exact decide_eq_true h1)
        clear hEk hb
        have hki : ¬ (k : Int) < (k : Int) := by omega
        go_wp2
        go_ret
        exact ⟨by rw [HYes.out]; rfl, HBr.out⟩
  · have HE := Lib.hid (show E = false by
      rw [hE]
      refine decide_eq_false fun e => h0 ?_
      subst e
      rw [hn, hn2])
    have hq : ((n : Int) != (n2 : Int)) = true := by rw [bne_iff_ne]; omega
    clear hE hn hn2 h0
    go_enter Try.func38, Try.ntmps38
    go_wp2
    go_ret
    exact ⟨by rw [HE.out]; rfl, Below.refl _ _⟩
end Go.Proofs.Ytaokhbodmodcgaa
end

section
/-
  The document's answer of which records are the same.
-/
namespace Go.Proofs.Ytaokhbodmodcgaa
open Go.RowKit
set_option maxRecDepth 100000

set_option maxHeartbeats 8000000 in
theorem same_any (r s : Rc) (A B : Option Addr) (cc dd : Nat) (w : World) (P Q : Nat → Prop) (hl : Wrs w P A r.writes) (hm : Wrs w Q B s.writes) (hfl : WrFine r.writes) (hfm : WrFine s.writes) (hll : r.writes.length ≤ 1000000) (hml : s.writes.length ≤ 1000000) :
    Calls Try.prog 21 #[.agg (recv A cc r).toArray, .agg (recv B dd s).toArray] w fun e w' => e = .returned (.bool (decide (r = s))) ∧ Below w.heap.size w w' := by
  obtain ⟨k, ⟨a, b, c⟩, y, l, g, t, sh, st, tt, n⟩ := r
  obtain ⟨k', ⟨a', b', c'⟩, y', l', g', t', sh', st', tt', n'⟩ := s
  simp only at hl hm hfl hfm hll hml
  unfold recv
  simp only
  obtain ⟨w1, hw1⟩ : ∃ w1, w1 = (w.alloc (.cells #[.int .i8 k, .int .i64 a, .int .i64 b, .int .i64 c, .bool y, .slice A l.length cc, .int .i64 g, .int .i64 t, .int .i64 sh, .int .i64 st, .int .i64 tt, .int .i64 n] 29)).alloc (.cells #[.int .i8 k', .int .i64 a', .int .i64 b', .int .i64 c', .bool y', .slice B l'.length dd, .int .i64 g', .int .i64 t', .int .i64 sh', .int .i64 st', .int .i64 tt', .int .i64 n'] 29) := ⟨_, rfl⟩
  have hb1 : Below w.heap.size w w1 := by rw [hw1]; exact ((Below.refl _ w).alloc (Nat.le_refl _) _).alloc (by simp) _
  have g0 : w1.heap[w.heap.size]? = some (.cells #[.int .i8 k, .int .i64 a, .int .i64 b, .int .i64 c, .bool y, .slice A l.length cc, .int .i64 g, .int .i64 t, .int .i64 sh, .int .i64 st, .int .i64 tt, .int .i64 n] 29 (0, 0)) := by rw [hw1]; exact (Below.heap_alloc _ _ _ (by simp)).trans (heap_alloc_new w _)
  have g1 : w1.heap[w.heap.size + 1]? = some (.cells #[.int .i8 k', .int .i64 a', .int .i64 b', .int .i64 c', .bool y', .slice B l'.length dd, .int .i64 g', .int .i64 t', .int .i64 sh', .int .i64 st', .int .i64 tt', .int .i64 n'] 29 (0, 0)) := by
    rw [hw1]
    have h := heap_alloc_new (w.alloc (.cells #[.int .i8 k, .int .i64 a, .int .i64 b, .int .i64 c, .bool y, .slice A l.length cc, .int .i64 g, .int .i64 t, .int .i64 sh, .int .i64 st, .int .i64 tt, .int .i64 n] 29)) (.cells #[.int .i8 k', .int .i64 a', .int .i64 b', .int .i64 c', .bool y', .slice B l'.length dd, .int .i64 g', .int .i64 t', .int .i64 sh', .int .i64 st', .int .i64 tt', .int .i64 n'] 29)
    rwa [World.size_alloc] at h
  have HS := Lib.hid (sameWrites_any l l' A B cc dd w1 P Q (hl.below hb1) (hm.below hb1) hfl hfm hll hml)
  have HB := Lib.hid hb1
  have HG := Lib.hid (show ∀ X, Below w1.heap.size w1 X → X.heap[w.heap.size]? = some (.cells #[.int .i8 k, .int .i64 a, .int .i64 b, .int .i64 c, .bool y, .slice A l.length cc, .int .i64 g, .int .i64 t, .int .i64 sh, .int .i64 st, .int .i64 tt, .int .i64 n] 29 (0, 0)) ∧ X.heap[w.heap.size + 1]? = some (.cells #[.int .i8 k', .int .i64 a', .int .i64 b', .int .i64 c', .bool y', .slice B l'.length dd, .int .i64 g', .int .i64 t', .int .i64 sh', .int .i64 st', .int .i64 tt', .int .i64 n'] 29 (0, 0)) from fun X hX => ⟨(hX.block _ (Array.getElem?_eq_some_iff.1 g0).1).trans g0, (hX.block _ (Array.getElem?_eq_some_iff.1 g1).1).trans g1⟩)
  have c0 : w1.cell? ⟨w.heap.size, 0, none⟩ = some (.int .i8 k) := by rw [cell_of_row w1 _ 0 _ _ _ g0]; rfl
  have c1 : w1.cell? ⟨w.heap.size, 1, none⟩ = some (.int .i64 a) := by rw [cell_of_row w1 _ 1 _ _ _ g0]; rfl
  have c2 : w1.cell? ⟨w.heap.size, 2, none⟩ = some (.int .i64 b) := by rw [cell_of_row w1 _ 2 _ _ _ g0]; rfl
  have c3 : w1.cell? ⟨w.heap.size, 3, none⟩ = some (.int .i64 c) := by rw [cell_of_row w1 _ 3 _ _ _ g0]; rfl
  have c4 : w1.cell? ⟨w.heap.size, 4, none⟩ = some (.bool y) := by rw [cell_of_row w1 _ 4 _ _ _ g0]; rfl
  have c5 : w1.cell? ⟨w.heap.size, 5, none⟩ = some (.slice A l.length cc) := by rw [cell_of_row w1 _ 5 _ _ _ g0]; rfl
  have c6 : w1.cell? ⟨w.heap.size, 6, none⟩ = some (.int .i64 g) := by rw [cell_of_row w1 _ 6 _ _ _ g0]; rfl
  have c7 : w1.cell? ⟨w.heap.size, 7, none⟩ = some (.int .i64 t) := by rw [cell_of_row w1 _ 7 _ _ _ g0]; rfl
  have c8 : w1.cell? ⟨w.heap.size, 8, none⟩ = some (.int .i64 sh) := by rw [cell_of_row w1 _ 8 _ _ _ g0]; rfl
  have c9 : w1.cell? ⟨w.heap.size, 9, none⟩ = some (.int .i64 st) := by rw [cell_of_row w1 _ 9 _ _ _ g0]; rfl
  have c10 : w1.cell? ⟨w.heap.size, 10, none⟩ = some (.int .i64 tt) := by rw [cell_of_row w1 _ 10 _ _ _ g0]; rfl
  have c11 : w1.cell? ⟨w.heap.size, 11, none⟩ = some (.int .i64 n) := by rw [cell_of_row w1 _ 11 _ _ _ g0]; rfl
  have d0 : w1.cell? ⟨w.heap.size + 1, 0, none⟩ = some (.int .i8 k') := by rw [cell_of_row w1 _ 0 _ _ _ g1]; rfl
  have d1 : w1.cell? ⟨w.heap.size + 1, 1, none⟩ = some (.int .i64 a') := by rw [cell_of_row w1 _ 1 _ _ _ g1]; rfl
  have d2 : w1.cell? ⟨w.heap.size + 1, 2, none⟩ = some (.int .i64 b') := by rw [cell_of_row w1 _ 2 _ _ _ g1]; rfl
  have d3 : w1.cell? ⟨w.heap.size + 1, 3, none⟩ = some (.int .i64 c') := by rw [cell_of_row w1 _ 3 _ _ _ g1]; rfl
  have d4 : w1.cell? ⟨w.heap.size + 1, 4, none⟩ = some (.bool y') := by rw [cell_of_row w1 _ 4 _ _ _ g1]; rfl
  have d5 : w1.cell? ⟨w.heap.size + 1, 5, none⟩ = some (.slice B l'.length dd) := by rw [cell_of_row w1 _ 5 _ _ _ g1]; rfl
  have d6 : w1.cell? ⟨w.heap.size + 1, 6, none⟩ = some (.int .i64 g') := by rw [cell_of_row w1 _ 6 _ _ _ g1]; rfl
  have d7 : w1.cell? ⟨w.heap.size + 1, 7, none⟩ = some (.int .i64 t') := by rw [cell_of_row w1 _ 7 _ _ _ g1]; rfl
  have d8 : w1.cell? ⟨w.heap.size + 1, 8, none⟩ = some (.int .i64 sh') := by rw [cell_of_row w1 _ 8 _ _ _ g1]; rfl
  have d9 : w1.cell? ⟨w.heap.size + 1, 9, none⟩ = some (.int .i64 st') := by rw [cell_of_row w1 _ 9 _ _ _ g1]; rfl
  have d10 : w1.cell? ⟨w.heap.size + 1, 10, none⟩ = some (.int .i64 tt') := by rw [cell_of_row w1 _ 10 _ _ _ g1]; rfl
  have d11 : w1.cell? ⟨w.heap.size + 1, 11, none⟩ = some (.int .i64 n') := by rw [cell_of_row w1 _ 11 _ _ _ g1]; rfl
  have HW1 := Lib.hid hw1
  clear hb1 g0 g1 hw1 hl hm hfl hfm hll hml
  obtain ⟨E, hE⟩ : ∃ E, E = decide ((⟨k, ⟨a, b, c⟩, y, l, g, t, sh, st, tt, n⟩ : Rc) = ⟨k', ⟨a', b', c'⟩, y', l', g', t', sh', st', tt', n'⟩) := ⟨_, rfl⟩
  rw [← hE]
  simp only [Rc.mk.injEq, Nm.mk.injEq] at hE
  by_cases p0 : k = k'
  · skip
    have q0 : (k == k') = true := by simp [p0]
    by_cases p1 : a = a' ∧ b = b' ∧ c = c'
    · skip
      have q1 : ∀ W : World, (binOp .eql 24 (.agg #[.int .i64 a, .int .i64 b, .int .i64 c]) (.agg #[.int .i64 a', .int .i64 b', .int .i64 c'])).run Try.prog W = .ok (.bool true) W := fun W => by rw [name_eql, decide_eq_true p1]
      by_cases p2 : y = y'
      · skip
        have q2 : (y == y') = true := by simp [p2]
        by_cases p3 : l = l'
        · skip
          have HS2 := HS
          rw [decide_eq_true p3] at HS2
          by_cases p4 : g = g'
          · skip
            have q4 : (g == g') = true := by simp [p4]
            by_cases p5 : t = t'
            · skip
              have q5 : (t == t') = true := by simp [p5]
              by_cases p6 : sh = sh'
              · skip
                have q6 : (sh == sh') = true := by simp [p6]
                by_cases p7 : st = st' ∧ tt = tt'
                · skip
                  have q7 : ∀ W : World, (binOp .eql 27 (.agg #[.int .i64 st, .int .i64 tt]) (.agg #[.int .i64 st', .int .i64 tt'])).run Try.prog W = .ok (.bool true) W := fun W => by rw [change_eql, decide_eq_true p7]
                  by_cases p8 : n = n'
                  · skip
                    have q8 : (n == n') = true := by simp [p8]
                    have HE := Lib.hid (show E = true by rw [hE]; exact decide_eq_true ⟨p0, p1, p2, p3, p4, p5, p6, p7.1, p7.2, p8⟩)
                    clear hE p0 p1 p2 p3 p4 p5 p6 p7 p8
                    go_enter Try.func21, Try.ntmps21
                    go_wp2_with (rw [← HW1.out])
                    refine HS2.out.mono ?_
                    rintro e w2 ⟨rfl, hb2⟩
                    obtain ⟨g0, g1⟩ := HG.out w2 hb2
                    have c0 : w2.cell? ⟨w.heap.size, 0, none⟩ = some (.int .i8 k) := by rw [cell_of_row w2 _ 0 _ _ _ g0]; rfl
                    have c1 : w2.cell? ⟨w.heap.size, 1, none⟩ = some (.int .i64 a) := by rw [cell_of_row w2 _ 1 _ _ _ g0]; rfl
                    have c2 : w2.cell? ⟨w.heap.size, 2, none⟩ = some (.int .i64 b) := by rw [cell_of_row w2 _ 2 _ _ _ g0]; rfl
                    have c3 : w2.cell? ⟨w.heap.size, 3, none⟩ = some (.int .i64 c) := by rw [cell_of_row w2 _ 3 _ _ _ g0]; rfl
                    have c4 : w2.cell? ⟨w.heap.size, 4, none⟩ = some (.bool y) := by rw [cell_of_row w2 _ 4 _ _ _ g0]; rfl
                    have c5 : w2.cell? ⟨w.heap.size, 5, none⟩ = some (.slice A l.length cc) := by rw [cell_of_row w2 _ 5 _ _ _ g0]; rfl
                    have c6 : w2.cell? ⟨w.heap.size, 6, none⟩ = some (.int .i64 g) := by rw [cell_of_row w2 _ 6 _ _ _ g0]; rfl
                    have c7 : w2.cell? ⟨w.heap.size, 7, none⟩ = some (.int .i64 t) := by rw [cell_of_row w2 _ 7 _ _ _ g0]; rfl
                    have c8 : w2.cell? ⟨w.heap.size, 8, none⟩ = some (.int .i64 sh) := by rw [cell_of_row w2 _ 8 _ _ _ g0]; rfl
                    have c9 : w2.cell? ⟨w.heap.size, 9, none⟩ = some (.int .i64 st) := by rw [cell_of_row w2 _ 9 _ _ _ g0]; rfl
                    have c10 : w2.cell? ⟨w.heap.size, 10, none⟩ = some (.int .i64 tt) := by rw [cell_of_row w2 _ 10 _ _ _ g0]; rfl
                    have c11 : w2.cell? ⟨w.heap.size, 11, none⟩ = some (.int .i64 n) := by rw [cell_of_row w2 _ 11 _ _ _ g0]; rfl
                    have d0 : w2.cell? ⟨w.heap.size + 1, 0, none⟩ = some (.int .i8 k') := by rw [cell_of_row w2 _ 0 _ _ _ g1]; rfl
                    have d1 : w2.cell? ⟨w.heap.size + 1, 1, none⟩ = some (.int .i64 a') := by rw [cell_of_row w2 _ 1 _ _ _ g1]; rfl
                    have d2 : w2.cell? ⟨w.heap.size + 1, 2, none⟩ = some (.int .i64 b') := by rw [cell_of_row w2 _ 2 _ _ _ g1]; rfl
                    have d3 : w2.cell? ⟨w.heap.size + 1, 3, none⟩ = some (.int .i64 c') := by rw [cell_of_row w2 _ 3 _ _ _ g1]; rfl
                    have d4 : w2.cell? ⟨w.heap.size + 1, 4, none⟩ = some (.bool y') := by rw [cell_of_row w2 _ 4 _ _ _ g1]; rfl
                    have d5 : w2.cell? ⟨w.heap.size + 1, 5, none⟩ = some (.slice B l'.length dd) := by rw [cell_of_row w2 _ 5 _ _ _ g1]; rfl
                    have d6 : w2.cell? ⟨w.heap.size + 1, 6, none⟩ = some (.int .i64 g') := by rw [cell_of_row w2 _ 6 _ _ _ g1]; rfl
                    have d7 : w2.cell? ⟨w.heap.size + 1, 7, none⟩ = some (.int .i64 t') := by rw [cell_of_row w2 _ 7 _ _ _ g1]; rfl
                    have d8 : w2.cell? ⟨w.heap.size + 1, 8, none⟩ = some (.int .i64 sh') := by rw [cell_of_row w2 _ 8 _ _ _ g1]; rfl
                    have d9 : w2.cell? ⟨w.heap.size + 1, 9, none⟩ = some (.int .i64 st') := by rw [cell_of_row w2 _ 9 _ _ _ g1]; rfl
                    have d10 : w2.cell? ⟨w.heap.size + 1, 10, none⟩ = some (.int .i64 tt') := by rw [cell_of_row w2 _ 10 _ _ _ g1]; rfl
                    have d11 : w2.cell? ⟨w.heap.size + 1, 11, none⟩ = some (.int .i64 n') := by rw [cell_of_row w2 _ 11 _ _ _ g1]; rfl
                    have HB2 := Lib.hid (HB.out.trans (hb2.mono HB.out.size))
                    clear hb2 g0 g1
                    go_wp2
                    go_ret
                    exact ⟨by rw [HE.out]; rfl, HB2.out⟩
                  · skip
                    have q8 : (n == n') = false := by simp [p8]
                    have HE := Lib.hid (show E = false by rw [hE]; exact decide_eq_false fun e => p8 e.2.2.2.2.2.2.2.2.2)
                    clear hE p0 p1 p2 p3 p4 p5 p6 p7 p8
                    go_enter Try.func21, Try.ntmps21
                    go_wp2_with (rw [← HW1.out])
                    refine HS2.out.mono ?_
                    rintro e w2 ⟨rfl, hb2⟩
                    obtain ⟨g0, g1⟩ := HG.out w2 hb2
                    have c0 : w2.cell? ⟨w.heap.size, 0, none⟩ = some (.int .i8 k) := by rw [cell_of_row w2 _ 0 _ _ _ g0]; rfl
                    have c1 : w2.cell? ⟨w.heap.size, 1, none⟩ = some (.int .i64 a) := by rw [cell_of_row w2 _ 1 _ _ _ g0]; rfl
                    have c2 : w2.cell? ⟨w.heap.size, 2, none⟩ = some (.int .i64 b) := by rw [cell_of_row w2 _ 2 _ _ _ g0]; rfl
                    have c3 : w2.cell? ⟨w.heap.size, 3, none⟩ = some (.int .i64 c) := by rw [cell_of_row w2 _ 3 _ _ _ g0]; rfl
                    have c4 : w2.cell? ⟨w.heap.size, 4, none⟩ = some (.bool y) := by rw [cell_of_row w2 _ 4 _ _ _ g0]; rfl
                    have c5 : w2.cell? ⟨w.heap.size, 5, none⟩ = some (.slice A l.length cc) := by rw [cell_of_row w2 _ 5 _ _ _ g0]; rfl
                    have c6 : w2.cell? ⟨w.heap.size, 6, none⟩ = some (.int .i64 g) := by rw [cell_of_row w2 _ 6 _ _ _ g0]; rfl
                    have c7 : w2.cell? ⟨w.heap.size, 7, none⟩ = some (.int .i64 t) := by rw [cell_of_row w2 _ 7 _ _ _ g0]; rfl
                    have c8 : w2.cell? ⟨w.heap.size, 8, none⟩ = some (.int .i64 sh) := by rw [cell_of_row w2 _ 8 _ _ _ g0]; rfl
                    have c9 : w2.cell? ⟨w.heap.size, 9, none⟩ = some (.int .i64 st) := by rw [cell_of_row w2 _ 9 _ _ _ g0]; rfl
                    have c10 : w2.cell? ⟨w.heap.size, 10, none⟩ = some (.int .i64 tt) := by rw [cell_of_row w2 _ 10 _ _ _ g0]; rfl
                    have c11 : w2.cell? ⟨w.heap.size, 11, none⟩ = some (.int .i64 n) := by rw [cell_of_row w2 _ 11 _ _ _ g0]; rfl
                    have d0 : w2.cell? ⟨w.heap.size + 1, 0, none⟩ = some (.int .i8 k') := by rw [cell_of_row w2 _ 0 _ _ _ g1]; rfl
                    have d1 : w2.cell? ⟨w.heap.size + 1, 1, none⟩ = some (.int .i64 a') := by rw [cell_of_row w2 _ 1 _ _ _ g1]; rfl
                    have d2 : w2.cell? ⟨w.heap.size + 1, 2, none⟩ = some (.int .i64 b') := by rw [cell_of_row w2 _ 2 _ _ _ g1]; rfl
                    have d3 : w2.cell? ⟨w.heap.size + 1, 3, none⟩ = some (.int .i64 c') := by rw [cell_of_row w2 _ 3 _ _ _ g1]; rfl
                    have d4 : w2.cell? ⟨w.heap.size + 1, 4, none⟩ = some (.bool y') := by rw [cell_of_row w2 _ 4 _ _ _ g1]; rfl
                    have d5 : w2.cell? ⟨w.heap.size + 1, 5, none⟩ = some (.slice B l'.length dd) := by rw [cell_of_row w2 _ 5 _ _ _ g1]; rfl
                    have d6 : w2.cell? ⟨w.heap.size + 1, 6, none⟩ = some (.int .i64 g') := by rw [cell_of_row w2 _ 6 _ _ _ g1]; rfl
                    have d7 : w2.cell? ⟨w.heap.size + 1, 7, none⟩ = some (.int .i64 t') := by rw [cell_of_row w2 _ 7 _ _ _ g1]; rfl
                    have d8 : w2.cell? ⟨w.heap.size + 1, 8, none⟩ = some (.int .i64 sh') := by rw [cell_of_row w2 _ 8 _ _ _ g1]; rfl
                    have d9 : w2.cell? ⟨w.heap.size + 1, 9, none⟩ = some (.int .i64 st') := by rw [cell_of_row w2 _ 9 _ _ _ g1]; rfl
                    have d10 : w2.cell? ⟨w.heap.size + 1, 10, none⟩ = some (.int .i64 tt') := by rw [cell_of_row w2 _ 10 _ _ _ g1]; rfl
                    have d11 : w2.cell? ⟨w.heap.size + 1, 11, none⟩ = some (.int .i64 n') := by rw [cell_of_row w2 _ 11 _ _ _ g1]; rfl
                    have HB2 := Lib.hid (HB.out.trans (hb2.mono HB.out.size))
                    clear hb2 g0 g1
                    go_wp2
                    go_ret
                    exact ⟨by rw [HE.out]; rfl, HB2.out⟩
                · skip
                  have q7 : ∀ W : World, (binOp .eql 27 (.agg #[.int .i64 st, .int .i64 tt]) (.agg #[.int .i64 st', .int .i64 tt'])).run Try.prog W = .ok (.bool false) W := fun W => by rw [change_eql, decide_eq_false p7]
                  have HE := Lib.hid (show E = false by rw [hE]; exact decide_eq_false fun e => p7 ⟨e.2.2.2.2.2.2.2.1, e.2.2.2.2.2.2.2.2.1⟩)
                  clear hE p0 p1 p2 p3 p4 p5 p6 p7
                  go_enter Try.func21, Try.ntmps21
                  go_wp2_with (rw [← HW1.out])
                  refine HS2.out.mono ?_
                  rintro e w2 ⟨rfl, hb2⟩
                  obtain ⟨g0, g1⟩ := HG.out w2 hb2
                  have c0 : w2.cell? ⟨w.heap.size, 0, none⟩ = some (.int .i8 k) := by rw [cell_of_row w2 _ 0 _ _ _ g0]; rfl
                  have c1 : w2.cell? ⟨w.heap.size, 1, none⟩ = some (.int .i64 a) := by rw [cell_of_row w2 _ 1 _ _ _ g0]; rfl
                  have c2 : w2.cell? ⟨w.heap.size, 2, none⟩ = some (.int .i64 b) := by rw [cell_of_row w2 _ 2 _ _ _ g0]; rfl
                  have c3 : w2.cell? ⟨w.heap.size, 3, none⟩ = some (.int .i64 c) := by rw [cell_of_row w2 _ 3 _ _ _ g0]; rfl
                  have c4 : w2.cell? ⟨w.heap.size, 4, none⟩ = some (.bool y) := by rw [cell_of_row w2 _ 4 _ _ _ g0]; rfl
                  have c5 : w2.cell? ⟨w.heap.size, 5, none⟩ = some (.slice A l.length cc) := by rw [cell_of_row w2 _ 5 _ _ _ g0]; rfl
                  have c6 : w2.cell? ⟨w.heap.size, 6, none⟩ = some (.int .i64 g) := by rw [cell_of_row w2 _ 6 _ _ _ g0]; rfl
                  have c7 : w2.cell? ⟨w.heap.size, 7, none⟩ = some (.int .i64 t) := by rw [cell_of_row w2 _ 7 _ _ _ g0]; rfl
                  have c8 : w2.cell? ⟨w.heap.size, 8, none⟩ = some (.int .i64 sh) := by rw [cell_of_row w2 _ 8 _ _ _ g0]; rfl
                  have c9 : w2.cell? ⟨w.heap.size, 9, none⟩ = some (.int .i64 st) := by rw [cell_of_row w2 _ 9 _ _ _ g0]; rfl
                  have c10 : w2.cell? ⟨w.heap.size, 10, none⟩ = some (.int .i64 tt) := by rw [cell_of_row w2 _ 10 _ _ _ g0]; rfl
                  have c11 : w2.cell? ⟨w.heap.size, 11, none⟩ = some (.int .i64 n) := by rw [cell_of_row w2 _ 11 _ _ _ g0]; rfl
                  have d0 : w2.cell? ⟨w.heap.size + 1, 0, none⟩ = some (.int .i8 k') := by rw [cell_of_row w2 _ 0 _ _ _ g1]; rfl
                  have d1 : w2.cell? ⟨w.heap.size + 1, 1, none⟩ = some (.int .i64 a') := by rw [cell_of_row w2 _ 1 _ _ _ g1]; rfl
                  have d2 : w2.cell? ⟨w.heap.size + 1, 2, none⟩ = some (.int .i64 b') := by rw [cell_of_row w2 _ 2 _ _ _ g1]; rfl
                  have d3 : w2.cell? ⟨w.heap.size + 1, 3, none⟩ = some (.int .i64 c') := by rw [cell_of_row w2 _ 3 _ _ _ g1]; rfl
                  have d4 : w2.cell? ⟨w.heap.size + 1, 4, none⟩ = some (.bool y') := by rw [cell_of_row w2 _ 4 _ _ _ g1]; rfl
                  have d5 : w2.cell? ⟨w.heap.size + 1, 5, none⟩ = some (.slice B l'.length dd) := by rw [cell_of_row w2 _ 5 _ _ _ g1]; rfl
                  have d6 : w2.cell? ⟨w.heap.size + 1, 6, none⟩ = some (.int .i64 g') := by rw [cell_of_row w2 _ 6 _ _ _ g1]; rfl
                  have d7 : w2.cell? ⟨w.heap.size + 1, 7, none⟩ = some (.int .i64 t') := by rw [cell_of_row w2 _ 7 _ _ _ g1]; rfl
                  have d8 : w2.cell? ⟨w.heap.size + 1, 8, none⟩ = some (.int .i64 sh') := by rw [cell_of_row w2 _ 8 _ _ _ g1]; rfl
                  have d9 : w2.cell? ⟨w.heap.size + 1, 9, none⟩ = some (.int .i64 st') := by rw [cell_of_row w2 _ 9 _ _ _ g1]; rfl
                  have d10 : w2.cell? ⟨w.heap.size + 1, 10, none⟩ = some (.int .i64 tt') := by rw [cell_of_row w2 _ 10 _ _ _ g1]; rfl
                  have d11 : w2.cell? ⟨w.heap.size + 1, 11, none⟩ = some (.int .i64 n') := by rw [cell_of_row w2 _ 11 _ _ _ g1]; rfl
                  have HB2 := Lib.hid (HB.out.trans (hb2.mono HB.out.size))
                  clear hb2 g0 g1
                  go_wp2
                  go_ret
                  exact ⟨by rw [HE.out]; rfl, HB2.out⟩
              · skip
                have q6 : (sh == sh') = false := by simp [p6]
                have HE := Lib.hid (show E = false by rw [hE]; exact decide_eq_false fun e => p6 e.2.2.2.2.2.2.1)
                clear hE p0 p1 p2 p3 p4 p5 p6
                go_enter Try.func21, Try.ntmps21
                go_wp2_with (rw [← HW1.out])
                refine HS2.out.mono ?_
                rintro e w2 ⟨rfl, hb2⟩
                obtain ⟨g0, g1⟩ := HG.out w2 hb2
                have c0 : w2.cell? ⟨w.heap.size, 0, none⟩ = some (.int .i8 k) := by rw [cell_of_row w2 _ 0 _ _ _ g0]; rfl
                have c1 : w2.cell? ⟨w.heap.size, 1, none⟩ = some (.int .i64 a) := by rw [cell_of_row w2 _ 1 _ _ _ g0]; rfl
                have c2 : w2.cell? ⟨w.heap.size, 2, none⟩ = some (.int .i64 b) := by rw [cell_of_row w2 _ 2 _ _ _ g0]; rfl
                have c3 : w2.cell? ⟨w.heap.size, 3, none⟩ = some (.int .i64 c) := by rw [cell_of_row w2 _ 3 _ _ _ g0]; rfl
                have c4 : w2.cell? ⟨w.heap.size, 4, none⟩ = some (.bool y) := by rw [cell_of_row w2 _ 4 _ _ _ g0]; rfl
                have c5 : w2.cell? ⟨w.heap.size, 5, none⟩ = some (.slice A l.length cc) := by rw [cell_of_row w2 _ 5 _ _ _ g0]; rfl
                have c6 : w2.cell? ⟨w.heap.size, 6, none⟩ = some (.int .i64 g) := by rw [cell_of_row w2 _ 6 _ _ _ g0]; rfl
                have c7 : w2.cell? ⟨w.heap.size, 7, none⟩ = some (.int .i64 t) := by rw [cell_of_row w2 _ 7 _ _ _ g0]; rfl
                have c8 : w2.cell? ⟨w.heap.size, 8, none⟩ = some (.int .i64 sh) := by rw [cell_of_row w2 _ 8 _ _ _ g0]; rfl
                have c9 : w2.cell? ⟨w.heap.size, 9, none⟩ = some (.int .i64 st) := by rw [cell_of_row w2 _ 9 _ _ _ g0]; rfl
                have c10 : w2.cell? ⟨w.heap.size, 10, none⟩ = some (.int .i64 tt) := by rw [cell_of_row w2 _ 10 _ _ _ g0]; rfl
                have c11 : w2.cell? ⟨w.heap.size, 11, none⟩ = some (.int .i64 n) := by rw [cell_of_row w2 _ 11 _ _ _ g0]; rfl
                have d0 : w2.cell? ⟨w.heap.size + 1, 0, none⟩ = some (.int .i8 k') := by rw [cell_of_row w2 _ 0 _ _ _ g1]; rfl
                have d1 : w2.cell? ⟨w.heap.size + 1, 1, none⟩ = some (.int .i64 a') := by rw [cell_of_row w2 _ 1 _ _ _ g1]; rfl
                have d2 : w2.cell? ⟨w.heap.size + 1, 2, none⟩ = some (.int .i64 b') := by rw [cell_of_row w2 _ 2 _ _ _ g1]; rfl
                have d3 : w2.cell? ⟨w.heap.size + 1, 3, none⟩ = some (.int .i64 c') := by rw [cell_of_row w2 _ 3 _ _ _ g1]; rfl
                have d4 : w2.cell? ⟨w.heap.size + 1, 4, none⟩ = some (.bool y') := by rw [cell_of_row w2 _ 4 _ _ _ g1]; rfl
                have d5 : w2.cell? ⟨w.heap.size + 1, 5, none⟩ = some (.slice B l'.length dd) := by rw [cell_of_row w2 _ 5 _ _ _ g1]; rfl
                have d6 : w2.cell? ⟨w.heap.size + 1, 6, none⟩ = some (.int .i64 g') := by rw [cell_of_row w2 _ 6 _ _ _ g1]; rfl
                have d7 : w2.cell? ⟨w.heap.size + 1, 7, none⟩ = some (.int .i64 t') := by rw [cell_of_row w2 _ 7 _ _ _ g1]; rfl
                have d8 : w2.cell? ⟨w.heap.size + 1, 8, none⟩ = some (.int .i64 sh') := by rw [cell_of_row w2 _ 8 _ _ _ g1]; rfl
                have d9 : w2.cell? ⟨w.heap.size + 1, 9, none⟩ = some (.int .i64 st') := by rw [cell_of_row w2 _ 9 _ _ _ g1]; rfl
                have d10 : w2.cell? ⟨w.heap.size + 1, 10, none⟩ = some (.int .i64 tt') := by rw [cell_of_row w2 _ 10 _ _ _ g1]; rfl
                have d11 : w2.cell? ⟨w.heap.size + 1, 11, none⟩ = some (.int .i64 n') := by rw [cell_of_row w2 _ 11 _ _ _ g1]; rfl
                have HB2 := Lib.hid (HB.out.trans (hb2.mono HB.out.size))
                clear hb2 g0 g1
                go_wp2
                go_ret
                exact ⟨by rw [HE.out]; rfl, HB2.out⟩
            · skip
              have q5 : (t == t') = false := by simp [p5]
              have HE := Lib.hid (show E = false by rw [hE]; exact decide_eq_false fun e => p5 e.2.2.2.2.2.1)
              clear hE p0 p1 p2 p3 p4 p5
              go_enter Try.func21, Try.ntmps21
              go_wp2_with (rw [← HW1.out])
              refine HS2.out.mono ?_
              rintro e w2 ⟨rfl, hb2⟩
              obtain ⟨g0, g1⟩ := HG.out w2 hb2
              have c0 : w2.cell? ⟨w.heap.size, 0, none⟩ = some (.int .i8 k) := by rw [cell_of_row w2 _ 0 _ _ _ g0]; rfl
              have c1 : w2.cell? ⟨w.heap.size, 1, none⟩ = some (.int .i64 a) := by rw [cell_of_row w2 _ 1 _ _ _ g0]; rfl
              have c2 : w2.cell? ⟨w.heap.size, 2, none⟩ = some (.int .i64 b) := by rw [cell_of_row w2 _ 2 _ _ _ g0]; rfl
              have c3 : w2.cell? ⟨w.heap.size, 3, none⟩ = some (.int .i64 c) := by rw [cell_of_row w2 _ 3 _ _ _ g0]; rfl
              have c4 : w2.cell? ⟨w.heap.size, 4, none⟩ = some (.bool y) := by rw [cell_of_row w2 _ 4 _ _ _ g0]; rfl
              have c5 : w2.cell? ⟨w.heap.size, 5, none⟩ = some (.slice A l.length cc) := by rw [cell_of_row w2 _ 5 _ _ _ g0]; rfl
              have c6 : w2.cell? ⟨w.heap.size, 6, none⟩ = some (.int .i64 g) := by rw [cell_of_row w2 _ 6 _ _ _ g0]; rfl
              have c7 : w2.cell? ⟨w.heap.size, 7, none⟩ = some (.int .i64 t) := by rw [cell_of_row w2 _ 7 _ _ _ g0]; rfl
              have c8 : w2.cell? ⟨w.heap.size, 8, none⟩ = some (.int .i64 sh) := by rw [cell_of_row w2 _ 8 _ _ _ g0]; rfl
              have c9 : w2.cell? ⟨w.heap.size, 9, none⟩ = some (.int .i64 st) := by rw [cell_of_row w2 _ 9 _ _ _ g0]; rfl
              have c10 : w2.cell? ⟨w.heap.size, 10, none⟩ = some (.int .i64 tt) := by rw [cell_of_row w2 _ 10 _ _ _ g0]; rfl
              have c11 : w2.cell? ⟨w.heap.size, 11, none⟩ = some (.int .i64 n) := by rw [cell_of_row w2 _ 11 _ _ _ g0]; rfl
              have d0 : w2.cell? ⟨w.heap.size + 1, 0, none⟩ = some (.int .i8 k') := by rw [cell_of_row w2 _ 0 _ _ _ g1]; rfl
              have d1 : w2.cell? ⟨w.heap.size + 1, 1, none⟩ = some (.int .i64 a') := by rw [cell_of_row w2 _ 1 _ _ _ g1]; rfl
              have d2 : w2.cell? ⟨w.heap.size + 1, 2, none⟩ = some (.int .i64 b') := by rw [cell_of_row w2 _ 2 _ _ _ g1]; rfl
              have d3 : w2.cell? ⟨w.heap.size + 1, 3, none⟩ = some (.int .i64 c') := by rw [cell_of_row w2 _ 3 _ _ _ g1]; rfl
              have d4 : w2.cell? ⟨w.heap.size + 1, 4, none⟩ = some (.bool y') := by rw [cell_of_row w2 _ 4 _ _ _ g1]; rfl
              have d5 : w2.cell? ⟨w.heap.size + 1, 5, none⟩ = some (.slice B l'.length dd) := by rw [cell_of_row w2 _ 5 _ _ _ g1]; rfl
              have d6 : w2.cell? ⟨w.heap.size + 1, 6, none⟩ = some (.int .i64 g') := by rw [cell_of_row w2 _ 6 _ _ _ g1]; rfl
              have d7 : w2.cell? ⟨w.heap.size + 1, 7, none⟩ = some (.int .i64 t') := by rw [cell_of_row w2 _ 7 _ _ _ g1]; rfl
              have d8 : w2.cell? ⟨w.heap.size + 1, 8, none⟩ = some (.int .i64 sh') := by rw [cell_of_row w2 _ 8 _ _ _ g1]; rfl
              have d9 : w2.cell? ⟨w.heap.size + 1, 9, none⟩ = some (.int .i64 st') := by rw [cell_of_row w2 _ 9 _ _ _ g1]; rfl
              have d10 : w2.cell? ⟨w.heap.size + 1, 10, none⟩ = some (.int .i64 tt') := by rw [cell_of_row w2 _ 10 _ _ _ g1]; rfl
              have d11 : w2.cell? ⟨w.heap.size + 1, 11, none⟩ = some (.int .i64 n') := by rw [cell_of_row w2 _ 11 _ _ _ g1]; rfl
              have HB2 := Lib.hid (HB.out.trans (hb2.mono HB.out.size))
              clear hb2 g0 g1
              go_wp2
              go_ret
              exact ⟨by rw [HE.out]; rfl, HB2.out⟩
          · skip
            have q4 : (g == g') = false := by simp [p4]
            have HE := Lib.hid (show E = false by rw [hE]; exact decide_eq_false fun e => p4 e.2.2.2.2.1)
            clear hE p0 p1 p2 p3 p4
            go_enter Try.func21, Try.ntmps21
            go_wp2_with (rw [← HW1.out])
            refine HS2.out.mono ?_
            rintro e w2 ⟨rfl, hb2⟩
            obtain ⟨g0, g1⟩ := HG.out w2 hb2
            have c0 : w2.cell? ⟨w.heap.size, 0, none⟩ = some (.int .i8 k) := by rw [cell_of_row w2 _ 0 _ _ _ g0]; rfl
            have c1 : w2.cell? ⟨w.heap.size, 1, none⟩ = some (.int .i64 a) := by rw [cell_of_row w2 _ 1 _ _ _ g0]; rfl
            have c2 : w2.cell? ⟨w.heap.size, 2, none⟩ = some (.int .i64 b) := by rw [cell_of_row w2 _ 2 _ _ _ g0]; rfl
            have c3 : w2.cell? ⟨w.heap.size, 3, none⟩ = some (.int .i64 c) := by rw [cell_of_row w2 _ 3 _ _ _ g0]; rfl
            have c4 : w2.cell? ⟨w.heap.size, 4, none⟩ = some (.bool y) := by rw [cell_of_row w2 _ 4 _ _ _ g0]; rfl
            have c5 : w2.cell? ⟨w.heap.size, 5, none⟩ = some (.slice A l.length cc) := by rw [cell_of_row w2 _ 5 _ _ _ g0]; rfl
            have c6 : w2.cell? ⟨w.heap.size, 6, none⟩ = some (.int .i64 g) := by rw [cell_of_row w2 _ 6 _ _ _ g0]; rfl
            have c7 : w2.cell? ⟨w.heap.size, 7, none⟩ = some (.int .i64 t) := by rw [cell_of_row w2 _ 7 _ _ _ g0]; rfl
            have c8 : w2.cell? ⟨w.heap.size, 8, none⟩ = some (.int .i64 sh) := by rw [cell_of_row w2 _ 8 _ _ _ g0]; rfl
            have c9 : w2.cell? ⟨w.heap.size, 9, none⟩ = some (.int .i64 st) := by rw [cell_of_row w2 _ 9 _ _ _ g0]; rfl
            have c10 : w2.cell? ⟨w.heap.size, 10, none⟩ = some (.int .i64 tt) := by rw [cell_of_row w2 _ 10 _ _ _ g0]; rfl
            have c11 : w2.cell? ⟨w.heap.size, 11, none⟩ = some (.int .i64 n) := by rw [cell_of_row w2 _ 11 _ _ _ g0]; rfl
            have d0 : w2.cell? ⟨w.heap.size + 1, 0, none⟩ = some (.int .i8 k') := by rw [cell_of_row w2 _ 0 _ _ _ g1]; rfl
            have d1 : w2.cell? ⟨w.heap.size + 1, 1, none⟩ = some (.int .i64 a') := by rw [cell_of_row w2 _ 1 _ _ _ g1]; rfl
            have d2 : w2.cell? ⟨w.heap.size + 1, 2, none⟩ = some (.int .i64 b') := by rw [cell_of_row w2 _ 2 _ _ _ g1]; rfl
            have d3 : w2.cell? ⟨w.heap.size + 1, 3, none⟩ = some (.int .i64 c') := by rw [cell_of_row w2 _ 3 _ _ _ g1]; rfl
            have d4 : w2.cell? ⟨w.heap.size + 1, 4, none⟩ = some (.bool y') := by rw [cell_of_row w2 _ 4 _ _ _ g1]; rfl
            have d5 : w2.cell? ⟨w.heap.size + 1, 5, none⟩ = some (.slice B l'.length dd) := by rw [cell_of_row w2 _ 5 _ _ _ g1]; rfl
            have d6 : w2.cell? ⟨w.heap.size + 1, 6, none⟩ = some (.int .i64 g') := by rw [cell_of_row w2 _ 6 _ _ _ g1]; rfl
            have d7 : w2.cell? ⟨w.heap.size + 1, 7, none⟩ = some (.int .i64 t') := by rw [cell_of_row w2 _ 7 _ _ _ g1]; rfl
            have d8 : w2.cell? ⟨w.heap.size + 1, 8, none⟩ = some (.int .i64 sh') := by rw [cell_of_row w2 _ 8 _ _ _ g1]; rfl
            have d9 : w2.cell? ⟨w.heap.size + 1, 9, none⟩ = some (.int .i64 st') := by rw [cell_of_row w2 _ 9 _ _ _ g1]; rfl
            have d10 : w2.cell? ⟨w.heap.size + 1, 10, none⟩ = some (.int .i64 tt') := by rw [cell_of_row w2 _ 10 _ _ _ g1]; rfl
            have d11 : w2.cell? ⟨w.heap.size + 1, 11, none⟩ = some (.int .i64 n') := by rw [cell_of_row w2 _ 11 _ _ _ g1]; rfl
            have HB2 := Lib.hid (HB.out.trans (hb2.mono HB.out.size))
            clear hb2 g0 g1
            go_wp2
            go_ret
            exact ⟨by rw [HE.out]; rfl, HB2.out⟩
        · skip
          have HS2 := HS
          rw [decide_eq_false p3] at HS2
          have HE := Lib.hid (show E = false by rw [hE]; exact decide_eq_false fun e => p3 e.2.2.2.1)
          clear hE p0 p1 p2 p3
          go_enter Try.func21, Try.ntmps21
          go_wp2_with (rw [← HW1.out])
          refine HS2.out.mono ?_
          rintro e w2 ⟨rfl, hb2⟩
          obtain ⟨g0, g1⟩ := HG.out w2 hb2
          have c0 : w2.cell? ⟨w.heap.size, 0, none⟩ = some (.int .i8 k) := by rw [cell_of_row w2 _ 0 _ _ _ g0]; rfl
          have c1 : w2.cell? ⟨w.heap.size, 1, none⟩ = some (.int .i64 a) := by rw [cell_of_row w2 _ 1 _ _ _ g0]; rfl
          have c2 : w2.cell? ⟨w.heap.size, 2, none⟩ = some (.int .i64 b) := by rw [cell_of_row w2 _ 2 _ _ _ g0]; rfl
          have c3 : w2.cell? ⟨w.heap.size, 3, none⟩ = some (.int .i64 c) := by rw [cell_of_row w2 _ 3 _ _ _ g0]; rfl
          have c4 : w2.cell? ⟨w.heap.size, 4, none⟩ = some (.bool y) := by rw [cell_of_row w2 _ 4 _ _ _ g0]; rfl
          have c5 : w2.cell? ⟨w.heap.size, 5, none⟩ = some (.slice A l.length cc) := by rw [cell_of_row w2 _ 5 _ _ _ g0]; rfl
          have c6 : w2.cell? ⟨w.heap.size, 6, none⟩ = some (.int .i64 g) := by rw [cell_of_row w2 _ 6 _ _ _ g0]; rfl
          have c7 : w2.cell? ⟨w.heap.size, 7, none⟩ = some (.int .i64 t) := by rw [cell_of_row w2 _ 7 _ _ _ g0]; rfl
          have c8 : w2.cell? ⟨w.heap.size, 8, none⟩ = some (.int .i64 sh) := by rw [cell_of_row w2 _ 8 _ _ _ g0]; rfl
          have c9 : w2.cell? ⟨w.heap.size, 9, none⟩ = some (.int .i64 st) := by rw [cell_of_row w2 _ 9 _ _ _ g0]; rfl
          have c10 : w2.cell? ⟨w.heap.size, 10, none⟩ = some (.int .i64 tt) := by rw [cell_of_row w2 _ 10 _ _ _ g0]; rfl
          have c11 : w2.cell? ⟨w.heap.size, 11, none⟩ = some (.int .i64 n) := by rw [cell_of_row w2 _ 11 _ _ _ g0]; rfl
          have d0 : w2.cell? ⟨w.heap.size + 1, 0, none⟩ = some (.int .i8 k') := by rw [cell_of_row w2 _ 0 _ _ _ g1]; rfl
          have d1 : w2.cell? ⟨w.heap.size + 1, 1, none⟩ = some (.int .i64 a') := by rw [cell_of_row w2 _ 1 _ _ _ g1]; rfl
          have d2 : w2.cell? ⟨w.heap.size + 1, 2, none⟩ = some (.int .i64 b') := by rw [cell_of_row w2 _ 2 _ _ _ g1]; rfl
          have d3 : w2.cell? ⟨w.heap.size + 1, 3, none⟩ = some (.int .i64 c') := by rw [cell_of_row w2 _ 3 _ _ _ g1]; rfl
          have d4 : w2.cell? ⟨w.heap.size + 1, 4, none⟩ = some (.bool y') := by rw [cell_of_row w2 _ 4 _ _ _ g1]; rfl
          have d5 : w2.cell? ⟨w.heap.size + 1, 5, none⟩ = some (.slice B l'.length dd) := by rw [cell_of_row w2 _ 5 _ _ _ g1]; rfl
          have d6 : w2.cell? ⟨w.heap.size + 1, 6, none⟩ = some (.int .i64 g') := by rw [cell_of_row w2 _ 6 _ _ _ g1]; rfl
          have d7 : w2.cell? ⟨w.heap.size + 1, 7, none⟩ = some (.int .i64 t') := by rw [cell_of_row w2 _ 7 _ _ _ g1]; rfl
          have d8 : w2.cell? ⟨w.heap.size + 1, 8, none⟩ = some (.int .i64 sh') := by rw [cell_of_row w2 _ 8 _ _ _ g1]; rfl
          have d9 : w2.cell? ⟨w.heap.size + 1, 9, none⟩ = some (.int .i64 st') := by rw [cell_of_row w2 _ 9 _ _ _ g1]; rfl
          have d10 : w2.cell? ⟨w.heap.size + 1, 10, none⟩ = some (.int .i64 tt') := by rw [cell_of_row w2 _ 10 _ _ _ g1]; rfl
          have d11 : w2.cell? ⟨w.heap.size + 1, 11, none⟩ = some (.int .i64 n') := by rw [cell_of_row w2 _ 11 _ _ _ g1]; rfl
          have HB2 := Lib.hid (HB.out.trans (hb2.mono HB.out.size))
          clear hb2 g0 g1
          go_wp2
          go_ret
          exact ⟨by rw [HE.out]; rfl, HB2.out⟩
      · skip
        have q2 : (y == y') = false := by simp [p2]
        have HE := Lib.hid (show E = false by rw [hE]; exact decide_eq_false fun e => p2 e.2.2.1)
        clear hE p0 p1 p2
        go_enter Try.func21, Try.ntmps21
        go_wp2_with (rw [← HW1.out])
        go_ret
        exact ⟨by rw [HE.out]; rfl, HB.out⟩
    · skip
      have q1 : ∀ W : World, (binOp .eql 24 (.agg #[.int .i64 a, .int .i64 b, .int .i64 c]) (.agg #[.int .i64 a', .int .i64 b', .int .i64 c'])).run Try.prog W = .ok (.bool false) W := fun W => by rw [name_eql, decide_eq_false p1]
      have HE := Lib.hid (show E = false by rw [hE]; exact decide_eq_false fun e => p1 e.2.1)
      clear hE p0 p1
      go_enter Try.func21, Try.ntmps21
      go_wp2_with (rw [← HW1.out])
      go_ret
      exact ⟨by rw [HE.out]; rfl, HB.out⟩
  · skip
    have q0 : (k == k') = false := by simp [p0]
    have HE := Lib.hid (show E = false by rw [hE]; exact decide_eq_false fun e => p0 e.1)
    clear hE p0
    go_enter Try.func21, Try.ntmps21
    go_wp2_with (rw [← HW1.out])
    go_ret
    exact ⟨by rw [HE.out]; rfl, HB.out⟩
end Go.Proofs.Ytaokhbodmodcgaa
end
