/-
  Overlays as plain data: a write put, got; overlays over one another; blocks with writes.
-/
import Derived.Test.YtipgphdndleodaaRecv
namespace Go.Proofs.Ytipgphdndleodaa
set_option maxRecDepth 100000

abbrev Wt := Int × List Nat
/-- a write in its place -/
def insW (w : Wt) : List Wt → List Wt
  | [] => [w]
  | x :: l => if x.1 < w.1 then x :: insW w l else if x.1 = w.1 then w :: l else w :: x :: l
def getW (l : List Wt) (k : Int) : Option (List Nat) := (l.find? (fun x => x.1 == k)).map (·.2)
def blockB (k : Int) : Bool := decide (0 ≤ k ∧ k ≤ 31)
/-- P8.1: Put's error, what Put answers -/
def putE (l : List Wt) (w : Wt) : Int := if (writtenB l && blockB w.1) = true then (if (insW w l).length ≤ 8 then 0 else 50) else 2
def putW (l : List Wt) (w : Wt) : List Wt := if putE l w = 0 then insW w l else []
/-- P8.2: Over's error, what Over answers -/
def foldE : List Wt → List Wt → Int × List Wt
  | a, [] => (0, a)
  | a, w :: b => if putE a w = 0 then foldE (insW w a) b else (putE a w, [])
def overE (a b : List Wt) : Int := if (writtenB a && writtenB b) = true then (foldE a b).1 else 2
def overW (a b : List Wt) : List Wt := if (writtenB a && writtenB b) = true then (foldE a b).2 else []
/-- the block k of home with the writes -/
def onW (home : Int → List Nat) (l : List Wt) : Int → List Nat := l.foldl (fun h x => fun k => if k = x.1 then x.2 else h k) home

theorem ins_rises {w : Wt} : ∀ {l : List Wt} {lo : Int}, risingB lo l = true → lo < w.1 → w.1 ≤ 31 → risingB lo (insW w l) = true := by
  intro l
  induction l with
  | nil => intro lo _ h1 h2; simp [insW, risingB]; omega
  | cons x l ih =>
    intro lo h h1 h2
    rw [risingB, Bool.and_eq_true, decide_eq_true_eq] at h
    unfold insW
    split
    · rename_i hx
      rw [risingB, Bool.and_eq_true, decide_eq_true_eq]
      exact ⟨h.1, ih h.2 hx h2⟩
    · split
      · rename_i h3
        rw [risingB, Bool.and_eq_true, decide_eq_true_eq]
        exact ⟨by omega, by rw [← h3]; exact h.2⟩
      · rw [risingB, Bool.and_eq_true, decide_eq_true_eq, risingB, Bool.and_eq_true, decide_eq_true_eq]
        exact ⟨by omega, by omega, h.2⟩
theorem ins_written {l : List Wt} {w : Wt} (h : writtenB l = true) (hb : blockB w.1 = true) (hl : (insW w l).length ≤ 8) : writtenB (insW w l) = true := by
  unfold writtenB at h ⊢
  rw [Bool.and_eq_true, decide_eq_true_eq] at h ⊢
  unfold blockB at hb
  rw [decide_eq_true_eq] at hb
  exact ⟨hl, ins_rises h.2 (by omega) hb.2⟩
theorem get_cons (x : Wt) (l : List Wt) (k : Int) : getW (x :: l) k = if x.1 = k then some x.2 else getW l k := by
  unfold getW
  rw [List.find?_cons]
  by_cases h : x.1 = k
  · simp [h]
  · have hq : (x.1 == k) = false := by simp [h]
    rw [hq, if_neg h]
theorem get_ins (w : Wt) : ∀ (l : List Wt) (k : Int), getW (insW w l) k = if k = w.1 then some w.2 else getW l k := by
  intro l
  induction l with
  | nil =>
    intro k
    rw [insW, get_cons]
    by_cases h : w.1 = k
    · rw [if_pos h, if_pos h.symm]
    · rw [if_neg h, if_neg (fun e => h e.symm)]
  | cons x l ih =>
    intro k
    unfold insW
    split
    · rename_i hx
      rw [get_cons, get_cons, ih]
      by_cases h : x.1 = k
      · rw [if_pos h, if_pos h, if_neg (by omega)]
      · rw [if_neg h, if_neg h]
    · split
      · rename_i h1 h2
        rw [get_cons, get_cons]
        by_cases h : w.1 = k
        · rw [if_pos h, if_pos h.symm]
        · rw [if_neg h, if_neg (fun e => h e.symm), if_neg (by omega)]
      · rw [get_cons]
        by_cases h : w.1 = k
        · rw [if_pos h, if_pos h.symm]
        · rw [if_neg h, if_neg (fun e => h e.symm)]
theorem ins_len (w : Wt) : ∀ (l : List Wt), (insW w l).length ≤ l.length + 1 ∧ l.length ≤ (insW w l).length := by
  intro l
  induction l with
  | nil => simp [insW]
  | cons x l ih =>
    by_cases h1 : x.1 < w.1
    · simp only [insW, if_pos h1, List.length_cons]; omega
    · by_cases h2 : x.1 = w.1
      · simp only [insW, if_neg h1, if_pos h2, List.length_cons]; omega
      · simp only [insW, if_neg h1, if_neg h2, List.length_cons]; omega
/-- a rising row has its block at most once -/
theorem get_none {l : List Wt} : ∀ {lo k : Int}, risingB lo l = true → k ≤ lo → getW l k = none := by
  induction l with
  | nil => intro lo k _ _; rfl
  | cons x l ih =>
    intro lo k h hk
    rw [risingB, Bool.and_eq_true, decide_eq_true_eq] at h
    rw [get_cons, if_neg (by omega)]
    exact ih h.2 (by omega)
theorem ins_there {l : List Wt} {w : Wt} : ∀ {lo : Int}, risingB lo l = true → (insW w l).length = if (getW l w.1).isSome = true then l.length else l.length + 1 := by
  induction l with
  | nil => intro lo _; rfl
  | cons x l ih =>
    intro lo h
    rw [risingB, Bool.and_eq_true, decide_eq_true_eq] at h
    rw [get_cons]
    by_cases h1 : x.1 < w.1
    · have h2 : ¬ x.1 = w.1 := by omega
      simp only [insW, if_pos h1, if_neg h2, List.length_cons]
      rw [ih h.2]
      split <;> rfl
    · by_cases h2 : x.1 = w.1
      · simp only [insW, if_neg h1, if_pos h2, List.length_cons]; rfl
      · simp only [insW, if_neg h1, if_neg h2, List.length_cons]
        rw [get_none h.2 (by omega)]
        rfl
/-- one that is there again -/
theorem ins_same {w v : Wt} (h : w.1 = v.1) : ∀ (l : List Wt), insW v (insW w l) = insW v l := by
  intro l
  induction l with
  | nil => simp [insW, h]
  | cons x l ih =>
    show insW v (if x.1 < w.1 then x :: insW w l else if x.1 = w.1 then w :: l else w :: x :: l) = _
    by_cases h1 : x.1 < w.1
    · rw [if_pos h1, insW, insW, if_pos (by omega), if_pos (by omega), ih]
    · by_cases h2 : x.1 = w.1
      · rw [if_neg h1, if_pos h2, insW, insW, if_neg (by omega), if_pos h, if_neg (by omega), if_pos (by omega)]
      · rw [if_neg h1, if_neg h2, insW, insW, if_neg (by omega), if_pos h, if_neg (by omega), if_neg (by omega)]
theorem ins_swap {w v : Wt} (h : w.1 ≠ v.1) : ∀ (l : List Wt), insW v (insW w l) = insW w (insW v l) := by
  intro l
  induction l with
  | nil =>
    simp only [insW]
    by_cases h1 : w.1 < v.1
    · rw [if_pos h1, if_neg (by omega), if_neg (by omega)]
    · rw [if_neg h1, if_neg h, if_pos (by omega)]
  | cons x l ih =>
    rcases Int.lt_trichotomy x.1 w.1 with h1 | h1 | h1
    · rcases Int.lt_trichotomy x.1 v.1 with h2 | h2 | h2
      · simp only [insW, if_pos h1, if_pos h2]; rw [ih]
      · have a1 : ¬ x.1 < v.1 := by omega
        have a2 : v.1 < w.1 := by omega
        simp only [insW, if_pos h1, if_neg a1, if_pos h2, if_pos a2]
      · have a1 : ¬ x.1 < v.1 := by omega
        have a3 : ¬ x.1 = v.1 := by omega
        have a2 : v.1 < w.1 := by omega
        simp only [insW, if_pos h1, if_neg a1, if_neg a3, if_pos a2]
    · rcases Int.lt_trichotomy x.1 v.1 with h2 | h2 | h2
      · have a1 : ¬ x.1 < w.1 := by omega
        have a2 : w.1 < v.1 := by omega
        simp only [insW, if_neg a1, if_pos h1, if_pos h2, if_pos a2]
      · omega
      · have a1 : ¬ x.1 < w.1 := by omega
        have a2 : ¬ w.1 < v.1 := by omega
        have a3 : ¬ x.1 < v.1 := by omega
        have a4 : ¬ x.1 = v.1 := by omega
        have a5 : ¬ w.1 = v.1 := by omega
        have a6 : v.1 < w.1 := by omega
        simp only [insW, if_neg a1, if_pos h1, if_neg a2, if_neg a5, if_neg a3, if_neg a4, if_pos a6]
    · have a1 : ¬ x.1 < w.1 := by omega
      have b1 : ¬ x.1 = w.1 := by omega
      rcases Int.lt_trichotomy x.1 v.1 with h2 | h2 | h2
      · have a2 : w.1 < v.1 := by omega
        simp only [insW, if_neg a1, if_neg b1, if_pos h2, if_pos a2]
      · have a2 : w.1 < v.1 := by omega
        have a3 : ¬ x.1 < v.1 := by omega
        have a4 : ¬ v.1 < w.1 := by omega
        have a5 : ¬ v.1 = w.1 := by omega
        simp only [insW, if_neg a1, if_neg b1, if_pos a2, if_neg a3, if_pos h2, if_neg a4, if_neg a5]
      · have a3 : ¬ x.1 < v.1 := by omega
        have a4 : ¬ x.1 = v.1 := by omega
        rcases Int.lt_trichotomy w.1 v.1 with h3 | h3 | h3
        · have c1 : ¬ v.1 < w.1 := by omega
          have c2 : ¬ v.1 = w.1 := by omega
          simp only [insW, if_neg a1, if_neg b1, if_pos h3, if_neg a3, if_neg a4, if_neg c1, if_neg c2]
        · omega
        · have c1 : ¬ w.1 < v.1 := by omega
          have c2 : ¬ w.1 = v.1 := by omega
          simp only [insW, if_neg a1, if_neg b1, if_neg c1, if_neg c2, if_neg a3, if_neg a4, if_pos h3]

/-! ### blocks with writes -/
theorem on_cons (h : Int → List Nat) (x : Wt) (l : List Wt) : onW h (x :: l) = onW (fun k => if k = x.1 then x.2 else h k) l := rfl
/-- of a rising row: what is got, else what was there -/
theorem on_get {l : List Wt} : ∀ {lo : Int} (h : Int → List Nat), risingB lo l = true → ∀ k, onW h l k = (getW l k).getD (h k) := by
  induction l with
  | nil => intro lo h _ k; rfl
  | cons x l ih =>
    intro lo h hr k
    rw [risingB, Bool.and_eq_true, decide_eq_true_eq] at hr
    rw [on_cons, ih _ hr.2, get_cons]
    by_cases hk : x.1 = k
    · subst hk
      rw [if_pos rfl, get_none hr.2 (Int.le_refl _)]
      simp
    · rw [if_neg hk, if_neg (fun e => hk e.symm)]
theorem put_ok {l : List Wt} {w : Wt} (h : putE l w = 0) : (writtenB l = true ∧ blockB w.1 = true) ∧ (insW w l).length ≤ 8 := by
  unfold putE at h
  split at h
  · rename_i h1
    rw [Bool.and_eq_true] at h1
    split at h
    · rename_i h2; exact ⟨h1, h2⟩
    · cases h
  · cases h
theorem put_written {l : List Wt} {w : Wt} (h : putE l w = 0) : writtenB (insW w l) = true := ins_written (put_ok h).1.1 (put_ok h).1.2 (put_ok h).2
theorem written_rises {l : List Wt} (h : writtenB l = true) : risingB (-1) l = true := by
  unfold writtenB at h
  rw [Bool.and_eq_true] at h
  exact h.2
theorem fold_on {b : List Wt} : ∀ {a : List Wt} {lo : Int} (h : Int → List Nat), writtenB a = true → risingB lo b = true → (foldE a b).1 = 0 → writtenB (foldE a b).2 = true ∧ ∀ k, onW h (foldE a b).2 k = onW (onW h a) b k := by
  induction b with
  | nil => intro a lo h ha _ _; exact ⟨ha, fun _ => rfl⟩
  | cons w b ih =>
    intro a lo h ha hb he
    rw [risingB, Bool.and_eq_true, decide_eq_true_eq] at hb
    unfold foldE at he ⊢
    by_cases hp : putE a w = 0
    · rw [if_pos hp] at he ⊢
      have hw := put_written hp
      obtain ⟨h1, h2⟩ := ih h hw hb.2 he
      refine ⟨h1, fun k => ?_⟩
      rw [h2, on_cons]
      have e : onW h (insW w a) = fun k => if k = w.1 then w.2 else onW h a k := by
        funext k
        rw [on_get h (written_rises hw), on_get h (written_rises ha), get_ins]
        by_cases hk : k = w.1
        · rw [if_pos hk, if_pos hk]; rfl
        · rw [if_neg hk, if_neg hk]
      rw [e]
    · rw [if_neg hp] at he
      exact absurd he hp
/-- where Over of overlays has an error, it is that of a full one -/
theorem fold_full {b : List Wt} : ∀ {a : List Wt} {lo : Int}, writtenB a = true → -1 ≤ lo → risingB lo b = true → (foldE a b).1 ≠ 0 → (foldE a b).1 = 50 := by
  induction b with
  | nil => intro a lo _ _ _ h; exact absurd rfl h
  | cons w b ih =>
    intro a lo ha hlo hb he
    have hb' := hb
    rw [risingB, Bool.and_eq_true, decide_eq_true_eq] at hb'
    unfold foldE at he ⊢
    by_cases hp : putE a w = 0
    · rw [if_pos hp] at he ⊢
      exact ih (put_written hp) (by omega) hb'.2 he
    · rw [if_neg hp]
      show putE a w = 50
      unfold putE at hp ⊢
      have hbk : blockB w.1 = true := by unfold blockB; rw [decide_eq_true_eq]; omega
      rw [ha, hbk] at hp ⊢
      simp only [Bool.and_true, if_true] at hp ⊢
      split at hp
      · exact absurd rfl hp
      · rename_i h3; rw [if_neg h3]
theorem put_yes {l : List Wt} {w : Wt} (h : putE l w = 0) : putW l w = insW w l := if_pos h
theorem put_again {l : List Wt} {a b : Wt} (ha : putE l a = 0) (hb : putE l b = 0) (h : a.1 = b.1) : putE (insW a l) b = 0 ∧ insW b (insW a l) = insW b l := by
  have e := ins_same h l
  refine ⟨?_, e⟩
  unfold putE
  rw [put_written ha, (put_ok hb).1.2, e, if_pos (by rfl), if_pos (put_ok hb).2]
theorem put_swap {l : List Wt} {a b : Wt} (ha : putE l a = 0) (hb : putE l b = 0) (h : a.1 ≠ b.1) : putE (insW a l) b = putE (insW b l) a ∧ insW b (insW a l) = insW a (insW b l) := by
  have e := ins_swap h l
  refine ⟨?_, e⟩
  unfold putE
  rw [put_written ha, put_written hb, (put_ok ha).1.2, (put_ok hb).1.2, e]
theorem put_errs (l : List Wt) (w : Wt) : putE l w = 0 ∨ putE l w = 50 ∨ putE l w = 2 := by
  unfold putE
  split
  · split
    · exact Or.inl rfl
    · exact Or.inr (Or.inl rfl)
  · exact Or.inr (Or.inr rfl)
end Go.Proofs.Ytipgphdndleodaa
