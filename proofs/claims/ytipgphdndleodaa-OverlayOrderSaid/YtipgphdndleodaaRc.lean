/-
  Records as plain data: which may be, their bytes, what bytes read as; there and back.
-/
import Derived.RowKit
namespace Go.Proofs.Ytipgphdndleodaa

structure Nm where
  stamp : Int
  inc : Int
  att : Int
deriving DecidableEq
structure Rc where
  kind : Int
  name : Nm
  yes : Bool
  writes : List (Int × List Nat)
  give : Int
  take : Int
  shards : Int
  stripe : Int
  dest : Int
  n : Int
deriving DecidableEq
def zNm : Nm := ⟨0, 0, 0⟩
def zRc : Rc := ⟨0, zNm, false, [], 0, 0, 0, 0, 0, 0⟩

/-- P7's Words: which name, which writes may be -/
def namedB (n : Nm) : Bool := decide (1 ≤ n.stamp ∧ n.stamp ≤ 1048576 ∧ 1 ≤ n.inc ∧ n.inc ≤ 1048576 ∧ 1 ≤ n.att ∧ n.att ≤ 1048576)
def risingB (lo : Int) : List (Int × List Nat) → Bool
  | [] => true
  | x :: r => decide (lo < x.1 ∧ x.1 ≤ 31) && risingB x.1 r
def writtenB (l : List (Int × List Nat)) : Bool := decide (l.length ≤ 8) && risingB (-1) l
def givenB (g t : Int) : Bool := decide (0 ≤ g ∧ g ≤ 255 ∧ 0 ≤ t ∧ t ≤ 255 ∧ g.toNat &&& t.toNat = 0)
def shardsB (n : Int) : Bool := decide (0 < n ∧ n % 2 = 0 ∧ n < 32)
def changedB (s t : Int) : Bool := if s = -1 then decide (t = 0) else decide (0 ≤ s ∧ s ≤ 7 ∧ 1 ≤ t ∧ t ≤ 4)
/-- the record with the fields alone that its kind names -/
def fieldsR (r : Rc) : Rc :=
  if r.kind = 1 then { zRc with kind := r.kind, name := r.name, writes := r.writes }
  else if r.kind = 2 then { zRc with kind := r.kind, name := r.name, writes := r.writes, give := r.give, take := r.take }
  else if r.kind = 3 then { zRc with kind := r.kind, name := r.name, yes := r.yes }
  else if r.kind = 4 then { zRc with kind := r.kind, name := r.name, shards := r.shards, stripe := r.stripe, dest := r.dest }
  else if r.kind = 5 then { zRc with kind := r.kind, name := r.name }
  else if r.kind = 6 ∨ r.kind = 7 then { zRc with kind := r.kind, n := r.n }
  else { zRc with kind := r.kind }
/-- P7.1 -/
def mayR (r : Rc) : Bool :=
  decide (1 ≤ r.kind ∧ r.kind ≤ 7) && (decide (r = fieldsR r) &&
    (if r.kind = 6 then decide (1 ≤ r.n ∧ r.n ≤ 1048577)
    else if r.kind = 7 then decide (1 ≤ r.n ∧ r.n ≤ 1048576)
    else namedB r.name && (writtenB r.writes && (givenB r.give r.take && (if r.kind = 4 then shardsB r.shards && changedB r.stripe r.dest else true)))))
def lessB (a b : Nm) : Bool :=
  if a.stamp ≠ b.stamp then decide (a.stamp < b.stamp) else if a.inc ≠ b.inc then decide (a.inc < b.inc) else decide (a.att < b.att)

/-! ### bytes -/
def byteN (n : Int) : Nat := (n % 256).toNat
def three (n : Int) : List Nat := [byteN n, byteN (n / 256), byteN (n / 65536)]
def nameL (n : Nm) : List Nat := three n.stamp ++ (three n.inc ++ three n.att)
def writesL (l : List (Int × List Nat)) : List Nat := l.flatMap fun x => byteN x.1 :: x.2
/-- P7's Words: a record's bytes behind the kind -/
def restL (r : Rc) : List Nat :=
  if r.kind = 1 then nameL r.name ++ (r.writes.length % 256 :: writesL r.writes)
  else if r.kind = 2 then nameL r.name ++ (r.writes.length % 256 :: (writesL r.writes ++ [byteN r.give, byteN r.take]))
  else if r.kind = 3 then nameL r.name ++ [if r.yes then 1 else 0]
  else if r.kind = 4 then nameL r.name ++ [byteN r.shards, byteN (r.stripe + 1), byteN r.dest]
  else if r.kind = 5 then nameL r.name
  else three r.n
def bytesR (r : Rc) : List Nat := byteN r.kind :: restL r
/-- P7.2: Bytes -/
def bytesE (r : Rc) : Int := if mayR r = true then 0 else 2
def bytesL (r : Rc) : List Nat := if mayR r = true then bytesR r else []
def sectorsR (r : Rc) : Int := if mayR r = true then ((((bytesR r).length + 44) / 45 : Nat) : Int) else 0

/-! ### reading -/
def rdThree : List Nat → Option (Int × List Nat)
  | a :: b :: c :: q => some ((a : Int) + 256 * (b : Int) + 65536 * (c : Int), q)
  | _ => none
def rdName (b : List Nat) : Option (Nm × List Nat) :=
  match rdThree b with
  | none => none
  | some (x, b1) => match rdThree b1 with
    | none => none
    | some (y, b2) => match rdThree b2 with
      | none => none
      | some (z, b3) => some (⟨x, y, z⟩, b3)
def rdMany : Nat → List Nat → Option (List (Int × List Nat) × List Nat)
  | 0, q => some ([], q)
  | _ + 1, [] => none
  | n + 1, k :: q => if q.length < 8 then none else match rdMany n (q.drop 8) with
    | none => none
    | some (l, q') => some (((k : Int), q.take 8) :: l, q')
def rdWrites : List Nat → Option (List (Int × List Nat) × List Nat)
  | [] => none
  | n :: q => rdMany n q
/-- what stands behind a kind and a name -/
def rdTail (k : Nat) (nm : Nm) (q : List Nat) : Option (Rc × List Nat) :=
  if k = 1 then match rdWrites q with
    | none => none
    | some (l, q') => some ({ zRc with kind := (k : Int), name := nm, writes := l }, q')
  else if k = 2 then match rdWrites q with
    | some (l, g :: t :: q') => some ({ zRc with kind := (k : Int), name := nm, writes := l, give := (g : Int), take := (t : Int) }, q')
    | _ => none
  else if k = 3 then match q with
    | y :: q' => if y ≤ 1 then some ({ zRc with kind := (k : Int), name := nm, yes := decide (y = 1) }, q') else none
    | _ => none
  else if k = 4 then match q with
    | s :: c :: t :: q' => some ({ zRc with kind := (k : Int), name := nm, shards := (s : Int), stripe := (c : Int) - 1, dest := (t : Int) }, q')
    | _ => none
  else if k = 5 then some ({ zRc with kind := (k : Int), name := nm }, q)
  else none
def rdRest : List Nat → Option (Rc × List Nat)
  | [] => none
  | k :: q => if k = 6 ∨ k = 7 then match rdThree q with
      | none => none
      | some (n, q') => some ({ zRc with kind := (k : Int), n := n }, q')
    else match rdName q with
      | none => none
      | some (nm, q') => rdTail k nm q'
/-- P7.2: Read -/
def readR (b : List Nat) : Option Rc := match rdRest b with
  | some (r, []) => if mayR r = true then some r else none
  | _ => none

/-! ### there and back -/
theorem byteN_lt (n : Int) : byteN n < 256 := by unfold byteN; omega
theorem byteN_nat {n : Int} (h0 : 0 ≤ n) (h1 : n < 256) : ((byteN n : Nat) : Int) = n := by unfold byteN; omega
theorem byteN_of {k : Nat} (h : k < 256) : byteN (k : Int) = k := by unfold byteN; omega
theorem three_lt (n : Int) : ∀ x ∈ three n, x < 256 := by
  intro x hx
  unfold three at hx
  simp only [List.mem_cons, List.not_mem_nil, or_false] at hx
  rcases hx with rfl | rfl | rfl <;> exact byteN_lt _
theorem rdThree_three {n : Int} (h0 : 0 ≤ n) (h1 : n < 16777216) (q : List Nat) : rdThree (three n ++ q) = some (n, q) := by
  unfold three rdThree byteN
  simp only [List.cons_append, List.nil_append, Option.some.injEq, Prod.mk.injEq, and_true]
  omega
theorem three_rd {b q : List Nat} {n : Int} (h : rdThree b = some (n, q)) (hb : ∀ x ∈ b, x < 256) : b = three n ++ q ∧ 0 ≤ n ∧ n < 16777216 := by
  match b, h with
  | a :: b1 :: c :: q', h =>
    unfold rdThree at h
    simp only [Option.some.injEq, Prod.mk.injEq] at h
    obtain ⟨rfl, rfl⟩ := h
    have ha := hb a (by simp)
    have hb1 := hb b1 (by simp)
    have hc := hb c (by simp)
    refine ⟨?_, by omega, by omega⟩
    unfold three byteN
    simp only [List.cons_append, List.nil_append, List.cons.injEq, and_true]
    omega
theorem rdThree_more {b q : List Nat} {n : Int} (h : rdThree b = some (n, q)) (c : List Nat) : rdThree (b ++ c) = some (n, q ++ c) := by
  match b, h with
  | a :: b1 :: c1 :: q', h =>
    unfold rdThree at h ⊢
    simp only [Option.some.injEq, Prod.mk.injEq, List.cons_append] at h ⊢
    obtain ⟨rfl, rfl⟩ := h
    exact ⟨rfl, rfl⟩
theorem named_lt {n : Nm} (h : namedB n = true) : (0 ≤ n.stamp ∧ n.stamp < 16777216) ∧ (0 ≤ n.inc ∧ n.inc < 16777216) ∧ 0 ≤ n.att ∧ n.att < 16777216 := by
  unfold namedB at h
  rw [decide_eq_true_eq] at h
  omega
theorem rdName_name {n : Nm} (h : namedB n = true) (q : List Nat) : rdName (nameL n ++ q) = some (n, q) := by
  obtain ⟨h1, h2, h3⟩ := named_lt h
  unfold rdName nameL
  simp only [List.append_assoc, rdThree_three h1.1 h1.2, rdThree_three h2.1 h2.2, rdThree_three h3.1 h3.2]
theorem name_rd {b q : List Nat} {n : Nm} (h : rdName b = some (n, q)) (hb : ∀ x ∈ b, x < 256) : b = nameL n ++ q := by
  unfold rdName at h
  split at h
  · cases h
  rename_i x b1 e1
  split at h
  · cases h
  rename_i y b2 e2
  split at h
  · cases h
  rename_i z b3 e3
  simp only [Option.some.injEq, Prod.mk.injEq] at h
  obtain ⟨rfl, rfl⟩ := h
  obtain ⟨h1, _⟩ := three_rd e1 hb
  obtain ⟨h2, _⟩ := three_rd e2 (fun x hx => hb x (by rw [h1]; exact List.mem_append_right _ hx))
  obtain ⟨h3, _⟩ := three_rd e3 (fun x hx => hb x (by rw [h1, h2]; exact List.mem_append_right _ (List.mem_append_right _ hx)))
  unfold nameL
  rw [h1, h2, h3]
  simp only [List.append_assoc]
theorem rdName_more {b q : List Nat} {n : Nm} (h : rdName b = some (n, q)) (c : List Nat) : rdName (b ++ c) = some (n, q ++ c) := by
  unfold rdName at h ⊢
  split at h
  · cases h
  rename_i x b1 e1
  split at h
  · cases h
  rename_i y b2 e2
  split at h
  · cases h
  rename_i z b3 e3
  simp only [Option.some.injEq, Prod.mk.injEq] at h
  obtain ⟨rfl, rfl⟩ := h
  simp only [rdThree_more e1, rdThree_more e2, rdThree_more e3]
/-- writes whose blocks are bytes, whose values are blocks -/
def WrOk (l : List (Int × List Nat)) : Prop := ∀ x ∈ l, (0 ≤ x.1 ∧ x.1 < 256) ∧ x.2.length = 8
theorem rdMany_writes {l : List (Int × List Nat)} (h : WrOk l) (q : List Nat) : rdMany l.length (writesL l ++ q) = some (l, q) := by
  induction l with
  | nil => rfl
  | cons x r ih =>
    obtain ⟨hx, hv⟩ := h x List.mem_cons_self
    have ih' := ih (fun y hy => h y (List.mem_cons_of_mem _ hy))
    have e : writesL (x :: r) ++ q = byteN x.1 :: (x.2 ++ (writesL r ++ q)) := by unfold writesL; simp [List.append_assoc]
    rw [e, List.length_cons, rdMany, if_neg (by simp [hv]), List.drop_left' hv, ih', List.take_left' hv]
    simp only [Option.some.injEq, Prod.mk.injEq, List.cons.injEq, and_true]
    exact Prod.ext (byteN_nat hx.1 hx.2) rfl
theorem many_rd {n : Nat} {b q : List Nat} {l : List (Int × List Nat)} (h : rdMany n b = some (l, q)) (hb : ∀ x ∈ b, x < 256) : b = writesL l ++ q ∧ l.length = n ∧ WrOk l := by
  induction n generalizing b l with
  | zero =>
    rw [rdMany] at h
    simp only [Option.some.injEq, Prod.mk.injEq] at h
    obtain ⟨rfl, rfl⟩ := h
    exact ⟨rfl, rfl, fun _ hx => absurd hx (by simp)⟩
  | succ n ih =>
    cases b with
    | nil => rw [rdMany] at h; cases h
    | cons k b =>
      rw [rdMany] at h
      split at h
      · cases h
      rename_i hlen
      split at h
      · cases h
      rename_i l' q' e
      simp only [Option.some.injEq, Prod.mk.injEq] at h
      obtain ⟨rfl, rfl⟩ := h
      obtain ⟨h1, h2, h3⟩ := ih e (fun x hx => hb x (List.mem_cons_of_mem _ (List.mem_of_mem_drop hx)))
      have hk := hb k List.mem_cons_self
      refine ⟨?_, by simp [h2], fun x hx => ?_⟩
      · have e2 : writesL (((k : Int), b.take 8) :: l') ++ q' = byteN (k : Int) :: (b.take 8 ++ (writesL l' ++ q')) := by unfold writesL; simp [List.append_assoc]
        rw [e2, byteN_of hk, ← h1, List.take_append_drop]
      · rcases List.mem_cons.1 hx with rfl | hx
        · exact ⟨⟨Int.natCast_nonneg _, by show (k : Int) < 256; omega⟩, by show (b.take 8).length = 8; rw [List.length_take]; omega⟩
        · exact h3 x hx
theorem rdMany_more {n : Nat} {b q : List Nat} {l : List (Int × List Nat)} (h : rdMany n b = some (l, q)) (c : List Nat) : rdMany n (b ++ c) = some (l, q ++ c) := by
  induction n generalizing b l with
  | zero =>
    rw [rdMany] at h ⊢
    simp only [Option.some.injEq, Prod.mk.injEq] at h ⊢
    obtain ⟨rfl, rfl⟩ := h
    exact ⟨rfl, rfl⟩
  | succ n ih =>
    cases b with
    | nil => rw [rdMany] at h; cases h
    | cons k b =>
      rw [rdMany] at h
      split at h
      · cases h
      rename_i hlen
      split at h
      · cases h
      rename_i l' q' e
      simp only [Option.some.injEq, Prod.mk.injEq] at h
      obtain ⟨rfl, rfl⟩ := h
      rw [List.cons_append, rdMany, if_neg (by simp; omega), List.drop_append_of_le_length (by omega), ih e, List.take_append_of_le_length (by omega)]
theorem rising_block {l : List (Int × List Nat)} : ∀ {lo : Int}, -1 ≤ lo → risingB lo l = true → ∀ x ∈ l, 0 ≤ x.1 ∧ x.1 ≤ 31 := by
  induction l with
  | nil => intro lo _ _ x hx; simp at hx
  | cons y r ih =>
    intro lo hlo h x hx
    unfold risingB at h
    simp only [Bool.and_eq_true, decide_eq_true_eq] at h
    rcases List.mem_cons.1 hx with rfl | hx
    · exact ⟨by omega, h.1.2⟩
    · exact ih (by omega) h.2 x hx
/-- the values are blocks' bytes -/
def ValOk (l : List (Int × List Nat)) : Prop := ∀ x ∈ l, x.2.length = 8 ∧ ∀ y ∈ x.2, y < 256
theorem written_ok {l : List (Int × List Nat)} (h : writtenB l = true) (hv : ValOk l) : WrOk l ∧ l.length ≤ 8 := by
  unfold writtenB at h
  simp only [Bool.and_eq_true, decide_eq_true_eq] at h
  exact ⟨fun x hx => ⟨by have := rising_block (by omega) h.2 x hx; omega, (hv x hx).1⟩, h.1⟩
theorem may_parts {r : Rc} (h : mayR r = true) : (1 ≤ r.kind ∧ r.kind ≤ 7) ∧ r = fieldsR r := by
  unfold mayR at h
  simp only [Bool.and_eq_true, decide_eq_true_eq] at h
  exact ⟨h.1, h.2.1⟩
theorem may_n {r : Rc} (h : mayR r = true) (hk : r.kind = 6 ∨ r.kind = 7) : 1 ≤ r.n ∧ r.n ≤ 1048577 := by
  unfold mayR at h
  simp only [Bool.and_eq_true, decide_eq_true_eq] at h
  have h3 := h.2.2
  rcases hk with hk | hk
  · rw [if_pos hk] at h3
    exact of_decide_eq_true h3
  · rw [if_neg (by omega), if_pos hk] at h3
    have := of_decide_eq_true h3
    omega
theorem may_named {r : Rc} (h : mayR r = true) (hk : ¬ (r.kind = 6 ∨ r.kind = 7)) : namedB r.name = true ∧ writtenB r.writes = true ∧ givenB r.give r.take = true ∧ (r.kind = 4 → shardsB r.shards = true ∧ changedB r.stripe r.dest = true) := by
  unfold mayR at h
  simp only [Bool.and_eq_true, decide_eq_true_eq] at h
  have h3 := h.2.2
  rw [if_neg (fun e => hk (Or.inl e)), if_neg (fun e => hk (Or.inr e))] at h3
  simp only [Bool.and_eq_true] at h3
  refine ⟨h3.1, h3.2.1, h3.2.2.1, fun h4 => ?_⟩
  have h5 := h3.2.2.2
  rw [if_pos h4] at h5
  simpa using h5
theorem given_lt {g t : Int} (h : givenB g t = true) : (0 ≤ g ∧ g < 256) ∧ 0 ≤ t ∧ t < 256 := by
  unfold givenB at h
  rw [decide_eq_true_eq] at h
  omega
theorem shards_lt {n : Int} (h : shardsB n = true) : 0 ≤ n ∧ n < 256 := by
  unfold shardsB at h
  rw [decide_eq_true_eq] at h
  omega
theorem changed_lt {s t : Int} (h : changedB s t = true) : (0 ≤ s + 1 ∧ s + 1 < 256) ∧ 0 ≤ t ∧ t < 256 := by
  unfold changedB at h
  split at h
  · have := of_decide_eq_true h; omega
  · have := of_decide_eq_true h; omega
theorem kinds {k : Int} (h : 1 ≤ k ∧ k ≤ 7) : k = 1 ∨ k = 2 ∨ k = 3 ∨ k = 4 ∨ k = 5 ∨ k = 6 ∨ k = 7 := by omega

theorem byte_kinds : (((byteN 1 = 1 ∧ byteN 2 = 2) ∧ byteN 3 = 3 ∧ byteN 4 = 4) ∧ byteN 5 = 5 ∧ byteN 6 = 6 ∧ byteN 7 = 7) := by decide
/-- P7.3: the bytes of a record that may be read as it -/
theorem rd_bytes {r : Rc} (h : mayR r = true) (hv : ValOk r.writes) (q : List Nat) : rdRest (bytesR r ++ q) = some (r, q) := by
  obtain ⟨hk, hf⟩ := may_parts h
  obtain ⟨⟨⟨b1, b2⟩, b3, b4⟩, b5, b6, b7⟩ := byte_kinds
  obtain ⟨kind, name, yes, writes, give, take, shards, stripe, tt7, n⟩ := r
  rcases kinds hk with e | e | e | e | e | e | e
  all_goals (simp only at e; subst e; simp only [fieldsR, zRc, Rc.mk.injEq, Int.reduceEq, if_true, if_false, or_self, or_true, true_or, true_and, and_true] at hf)
  · obtain ⟨rfl, rfl, rfl, rfl, rfl, rfl, rfl⟩ := hf
    obtain ⟨h1, h2, _, _⟩ := may_named h (by simp)
    obtain ⟨w1, w2⟩ := written_ok h2 hv
    have e2 : writes.length % 256 = writes.length := Nat.mod_eq_of_lt (by simp only at w2; omega)
    simp [bytesR, restL, rdRest, rdTail, rdWrites, zRc, b1, e2, rdName_name h1, rdMany_writes w1]
  · obtain ⟨rfl, rfl, rfl, rfl, rfl⟩ := hf
    obtain ⟨h1, h2, h3, _⟩ := may_named h (by simp)
    obtain ⟨w1, w2⟩ := written_ok h2 hv
    obtain ⟨g1, g2⟩ := given_lt h3
    have e2 : writes.length % 256 = writes.length := Nat.mod_eq_of_lt (by simp only at w2; omega)
    simp [bytesR, restL, rdRest, rdTail, rdWrites, zRc, b2, e2, rdName_name h1, rdMany_writes w1, byteN_nat g1.1 g1.2, byteN_nat g2.1 g2.2]
  · obtain ⟨rfl, rfl, rfl, rfl, rfl, rfl, rfl⟩ := hf
    obtain ⟨h1, _, _, _⟩ := may_named h (by simp)
    cases yes <;> simp [bytesR, restL, rdRest, rdTail, zRc, b3, rdName_name h1]
  · obtain ⟨rfl, rfl, rfl, rfl, rfl⟩ := hf
    obtain ⟨h1, _, _, h4⟩ := may_named h (by simp)
    obtain ⟨h5, h6⟩ := h4 rfl
    have s1 := shards_lt h5
    obtain ⟨c1, c2⟩ := changed_lt h6
    simp [bytesR, restL, rdRest, rdTail, zRc, b4, rdName_name h1, byteN_nat s1.1 s1.2, byteN_nat c1.1 c1.2, byteN_nat c2.1 c2.2]
  · obtain ⟨rfl, rfl, rfl, rfl, rfl, rfl, rfl, rfl⟩ := hf
    obtain ⟨h1, _, _, _⟩ := may_named h (by simp)
    simp [bytesR, restL, rdRest, rdTail, zRc, b5, rdName_name h1]
  · obtain ⟨rfl, rfl, rfl, rfl, rfl, rfl, rfl, rfl⟩ := hf
    have hn := may_n h (Or.inl rfl)
    simp only at hn
    simp [bytesR, restL, rdRest, zRc, b6, rdThree_three (n := n) (by omega) (by omega)]
  · obtain ⟨rfl, rfl, rfl, rfl, rfl, rfl, rfl, rfl⟩ := hf
    have hn := may_n h (Or.inr rfl)
    simp only at hn
    simp [bytesR, restL, rdRest, zRc, b7, rdThree_three (n := n) (by omega) (by omega)]
/-- .. and bytes that read as a record that may be are its bytes -/
theorem bytes_rd {b q : List Nat} {r : Rc} (h : rdRest b = some (r, q)) (hm : mayR r = true) (hb : ∀ x ∈ b, x < 256) : b = bytesR r ++ q := by
  obtain ⟨⟨⟨b1, b2⟩, b3, b4⟩, b5, b6, b7⟩ := byte_kinds
  cases b with
  | nil => rw [rdRest] at h; cases h
  | cons k b =>
    have hb' : ∀ x ∈ b, x < 256 := fun x hx => hb x (List.mem_cons_of_mem _ hx)
    have hk := hb k List.mem_cons_self
    rw [rdRest] at h
    split at h
    · rename_i h67
      split at h
      · cases h
      rename_i n q' e
      simp only [Option.some.injEq, Prod.mk.injEq] at h
      obtain ⟨rfl, rfl⟩ := h
      obtain ⟨h1, _⟩ := three_rd e hb'
      rcases h67 with rfl | rfl
      · simp [bytesR, restL, b6, h1]
      · simp [bytesR, restL, b7, h1]
    · rename_i h67
      split at h
      · cases h
      rename_i nm q' e
      have h1 := name_rd e hb'
      have hq' : ∀ x ∈ q', x < 256 := fun x hx => hb' x (by rw [h1]; exact List.mem_append_right _ hx)
      unfold rdTail at h
      split at h
      · rename_i hk1
        subst hk1
        split at h
        · cases h
        rename_i l q2 e2
        simp only [Option.some.injEq, Prod.mk.injEq] at h
        obtain ⟨rfl, rfl⟩ := h
        cases q' with
        | nil => rw [rdWrites] at e2; cases e2
        | cons m q3 =>
          rw [rdWrites] at e2
          obtain ⟨h2, h3, _⟩ := many_rd e2 (fun x hx => hq' x (List.mem_cons_of_mem _ hx))
          have hm8 := hq' m List.mem_cons_self
          simp [bytesR, restL, b1, h1, h2, h3, Nat.mod_eq_of_lt hm8]
      split at h
      · rename_i hk1
        subst hk1
        split at h
        · rename_i l g t q2 e2
          simp only [Option.some.injEq, Prod.mk.injEq] at h
          obtain ⟨rfl, rfl⟩ := h
          cases q' with
          | nil => rw [rdWrites] at e2; cases e2
          | cons m q3 =>
            rw [rdWrites] at e2
            obtain ⟨h2, h3, _⟩ := many_rd e2 (fun x hx => hq' x (List.mem_cons_of_mem _ hx))
            have hm8 := hq' m List.mem_cons_self
            have hg := hq' g (List.mem_cons_of_mem _ (by rw [h2]; simp))
            have ht := hq' t (List.mem_cons_of_mem _ (by rw [h2]; simp))
            simp [bytesR, restL, b2, h1, h2, h3, Nat.mod_eq_of_lt hm8, byteN_of hg, byteN_of ht]
        · cases h
      split at h
      · rename_i hk1
        subst hk1
        split at h
        · rename_i y q2
          split at h
          · rename_i hy
            simp only [Option.some.injEq, Prod.mk.injEq] at h
            obtain ⟨rfl, rfl⟩ := h
            have : y = 0 ∨ y = 1 := by omega
            rcases this with rfl | rfl <;> simp [bytesR, restL, b3, h1]
          · cases h
        · cases h
      split at h
      · rename_i hk1
        subst hk1
        split at h
        · rename_i s c t q2
          simp only [Option.some.injEq, Prod.mk.injEq] at h
          obtain ⟨rfl, rfl⟩ := h
          have hs := hq' s (by simp)
          have hc := hq' c (by simp)
          have ht := hq' t (by simp)
          simp [bytesR, restL, b4, h1, byteN_of hs, byteN_of ht, Int.sub_add_cancel, byteN_of hc]
        · cases h
      split at h
      · rename_i hk1
        subst hk1
        simp only [Option.some.injEq, Prod.mk.injEq] at h
        obtain ⟨rfl, rfl⟩ := h
        simp [bytesR, restL, b5, h1]
      · cases h
theorem rdWrites_more {b q : List Nat} {l : List (Int × List Nat)} (h : rdWrites b = some (l, q)) (c : List Nat) : rdWrites (b ++ c) = some (l, q ++ c) := by
  cases b with
  | nil => rw [rdWrites] at h; cases h
  | cons n b => rw [rdWrites] at h; rw [List.cons_append, rdWrites]; exact rdMany_more h c
theorem rdTail_more {k : Nat} {nm : Nm} {b q : List Nat} {r : Rc} (h : rdTail k nm b = some (r, q)) (c : List Nat) : rdTail k nm (b ++ c) = some (r, q ++ c) := by
  unfold rdTail at h ⊢
  split at h
  · rename_i hk
    rw [if_pos hk]
    split at h
    · cases h
    rename_i l q2 e2
    simp only [Option.some.injEq, Prod.mk.injEq] at h
    obtain ⟨rfl, rfl⟩ := h
    rw [rdWrites_more e2]
  rename_i k1
  rw [if_neg k1]
  split at h
  · rename_i hk
    rw [if_pos hk]
    split at h
    · rename_i l g t q2 e2
      simp only [Option.some.injEq, Prod.mk.injEq] at h
      obtain ⟨rfl, rfl⟩ := h
      rw [rdWrites_more e2]
      rfl
    · cases h
  rename_i k2
  rw [if_neg k2]
  split at h
  · rename_i hk
    rw [if_pos hk]
    split at h
    · rename_i y q2
      split at h
      · rename_i hy
        simp only [Option.some.injEq, Prod.mk.injEq] at h
        obtain ⟨rfl, rfl⟩ := h
        simp [hy]
      · cases h
    · cases h
  rename_i k3
  rw [if_neg k3]
  split at h
  · rename_i hk
    rw [if_pos hk]
    split at h
    · rename_i s x t q2
      simp only [Option.some.injEq, Prod.mk.injEq] at h
      obtain ⟨rfl, rfl⟩ := h
      rfl
    · cases h
  rename_i k4
  rw [if_neg k4]
  split at h
  · rename_i hk
    rw [if_pos hk]
    simp only [Option.some.injEq, Prod.mk.injEq] at h
    obtain ⟨rfl, rfl⟩ := h
    rfl
  · cases h
/-- what is read stays so when more stands behind -/
theorem rd_more {b q : List Nat} {r : Rc} (h : rdRest b = some (r, q)) (c : List Nat) : rdRest (b ++ c) = some (r, q ++ c) := by
  cases b with
  | nil => rw [rdRest] at h; cases h
  | cons k b =>
    rw [rdRest] at h
    rw [List.cons_append, rdRest]
    split at h
    · rename_i h67
      rw [if_pos h67]
      split at h
      · cases h
      rename_i n q' e
      simp only [Option.some.injEq, Prod.mk.injEq] at h
      obtain ⟨rfl, rfl⟩ := h
      rw [rdThree_more e]
    · rename_i h67
      rw [if_neg h67]
      split at h
      · cases h
      rename_i nm q' e
      rw [rdName_more e]
      exact rdTail_more h c
theorem read_bytes {r : Rc} (h : mayR r = true) (hv : ValOk r.writes) : readR (bytesR r) = some r := by
  have h1 := rd_bytes h hv []
  rw [List.append_nil] at h1
  unfold readR
  rw [h1]
  simp only []
  rw [if_pos h]
theorem read_some {b : List Nat} {r : Rc} (h : readR b = some r) : rdRest b = some (r, []) ∧ mayR r = true := by
  unfold readR at h
  split at h
  · rename_i r' e
    split at h
    · rename_i hm
      cases h
      exact ⟨e, hm⟩
    · cases h
  · cases h
theorem bytes_read {b : List Nat} {r : Rc} (h : readR b = some r) (hb : ∀ x ∈ b, x < 256) : bytesR r = b ∧ mayR r = true := by
  obtain ⟨h1, h2⟩ := read_some h
  have h3 := bytes_rd h1 h2 hb
  rw [List.append_nil] at h3
  exact ⟨h3.symm, h2⟩
/-- P7.2: no beginning of a record's bytes is a record's, nothing that goes on behind them -/
theorem read_short {r : Rc} (h : mayR r = true) (hv : ValOk r.writes) {n : Nat} (hn : n < (bytesR r).length) : readR ((bytesR r).take n) = none := by
  cases e : readR ((bytesR r).take n) with
  | none => rfl
  | some o =>
    obtain ⟨h1, h2⟩ := read_some e
    have h3 := rd_more h1 ((bytesR r).drop n)
    rw [List.take_append_drop, List.nil_append] at h3
    have h4 := rd_bytes h hv []
    rw [List.append_nil, h3] at h4
    simp only [Option.some.injEq, Prod.mk.injEq] at h4
    have h5 := congrArg List.length h4.2
    simp at h5
    omega
theorem read_behind {r : Rc} (h : mayR r = true) (hv : ValOk r.writes) {c : List Nat} (hc : c ≠ []) : readR (bytesR r ++ c) = none := by
  unfold readR
  rw [rd_bytes h hv c]
  cases c with
  | nil => exact absurd rfl hc
  | cons x c => rfl
/-! ### how long -/
theorem name_len (n : Nm) : (nameL n).length = 9 := rfl
theorem writes_len {l : List (Int × List Nat)} (h : WrOk l) : (writesL l).length = 9 * l.length := by
  induction l with
  | nil => rfl
  | cons x r ih =>
    have h1 := (h x List.mem_cons_self).2
    have h2 := ih (fun y hy => h y (List.mem_cons_of_mem _ hy))
    unfold writesL at h2 ⊢
    simp [h1, h2]
    omega
theorem bytes_len {r : Rc} (h : mayR r = true) (hv : ValOk r.writes) : 4 ≤ (bytesR r).length ∧ (bytesR r).length ≤ 85 := by
  obtain ⟨hk, _⟩ := may_parts h
  rcases kinds hk with e | e | e | e | e | e | e
  all_goals simp only [bytesR, restL, e, Int.reduceEq, if_true, if_false]
  · obtain ⟨_, h2, _, _⟩ := may_named h (by omega)
    obtain ⟨w1, w2⟩ := written_ok h2 hv
    simp [name_len, writes_len w1]; omega
  · obtain ⟨_, h2, _, _⟩ := may_named h (by omega)
    obtain ⟨w1, w2⟩ := written_ok h2 hv
    simp [name_len, writes_len w1]; omega
  all_goals simp [name_len, three]
end Go.Proofs.Ytipgphdndleodaa
