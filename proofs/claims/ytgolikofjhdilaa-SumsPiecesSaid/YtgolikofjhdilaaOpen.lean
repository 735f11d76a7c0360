/-
  Open, by contract: the bytes, in a slice of its own, and true; none and false.
-/
import Derived.Test.YtgolikofjhdilaaSeal
import Derived.Deep.RegionHeld3
import Derived.Deep.DeepCutAuto
namespace Go.Proofs.Ytgolikofjhdilaa
open Go.RowKit

theorem run_neq_four (w : World) (d0 d1 d2 d3 t0 t1 t2 t3 : Int) :
    (binOp .neq 35 (.agg #[.int .u8 d0, .int .u8 d1, .int .u8 d2, .int .u8 d3]) (.agg #[.int .u8 t0, .int .u8 t1, .int .u8 t2, .int .u8 t3])).run Try.prog w = .ok (.bool (!(d0 == t0 && d1 == t1 && d2 == t2 && d3 == t3))) w := by
  obtain ⟨i0, hi, _, hz1, _⟩ := info_parts Try.info5
  have hcell : Try.prog.cellsOf 5 = 1 := by kernel_rfl
  rw [run_neq_struct, run_equalIn_array w 9999 _ _ Try.underlying35 hi, hcell]
  have hp : ∀ (w : World) (xs : Array Value) (k : Nat) (v : Int), xs[k]? = some (.int .u8 v) → (part 5 xs k).run Try.prog w = .ok (.int .u8 v) w := fun w xs k v h => by
    simp [part, isAgg, run_underlying Try.underlying5, h]
  have a0 := fun w => hp w #[.int .u8 d0, .int .u8 d1, .int .u8 d2, .int .u8 d3] (0 * 1) d0 rfl
  have a1 := fun w => hp w #[.int .u8 d0, .int .u8 d1, .int .u8 d2, .int .u8 d3] (1 * 1) d1 rfl
  have a2 := fun w => hp w #[.int .u8 d0, .int .u8 d1, .int .u8 d2, .int .u8 d3] (2 * 1) d2 rfl
  have a3 := fun w => hp w #[.int .u8 d0, .int .u8 d1, .int .u8 d2, .int .u8 d3] (3 * 1) d3 rfl
  have b0 := fun w => hp w #[.int .u8 t0, .int .u8 t1, .int .u8 t2, .int .u8 t3] (0 * 1) t0 rfl
  have b1 := fun w => hp w #[.int .u8 t0, .int .u8 t1, .int .u8 t2, .int .u8 t3] (1 * 1) t1 rfl
  have b2 := fun w => hp w #[.int .u8 t0, .int .u8 t1, .int .u8 t2, .int .u8 t3] (2 * 1) t2 rfl
  have b3 := fun w => hp w #[.int .u8 t0, .int .u8 t1, .int .u8 t2, .int .u8 t3] (3 * 1) t3 rfl
  have he := fun (w : World) (a b : Int) => run_equalIn_int (P := Try.prog) w 9998 5 .u8 .u8 a b Try.underlying5
  simp only [List.range, List.range.loop, Op.eqItems, Sem.run_bind, a0, b0, Result.andThen_ok, he]
  cases d0 == t0
  · simp
  simp only [Bool.not_true, Bool.false_eq_true, if_false, Sem.run_bind, a1, b1, Result.andThen_ok, he]
  cases d1 == t1
  · simp
  simp only [Bool.not_true, Bool.false_eq_true, if_false, Sem.run_bind, a2, b2, Result.andThen_ok, he]
  cases d2 == t2
  · simp
  simp only [Bool.not_true, Bool.false_eq_true, if_false, Sem.run_bind, a3, b3, Result.andThen_ok, he]
  cases d3 == t3 <;> simp

/-- The last four bytes, and what is ahead of them. -/
structure Front (w : World) (B b off : Nat) (front : List Nat) (d0 d1 d2 d3 : Nat) : Prop where
  by_ : By w B (some ⟨b, off, none⟩) (front ++ [d0, d1, d2, d3])
  lt : b < B
theorem Front.cells {w : World} {B b off : Nat} {front : List Nat} {d0 d1 d2 d3 : Nat} (h : Front w B b off front d0 d1 d2 d3) :
    w.cell? ⟨b, off + front.length, none⟩ = some (.int .u8 (d0 : Int)) ∧ w.cell? ⟨b, off + front.length + 1, none⟩ = some (.int .u8 (d1 : Int)) ∧
    w.cell? ⟨b, off + front.length + 2, none⟩ = some (.int .u8 (d2 : Int)) ∧ w.cell? ⟨b, off + front.length + 3, none⟩ = some (.int .u8 (d3 : Int)) := by
  have hl : (front ++ [d0, d1, d2, d3]).length = front.length + 4 := by simp
  obtain ⟨b', off', e, _, hc⟩ := h.by_.at_ (by omega)
  obtain ⟨rfl, rfl⟩ : b = b' ∧ off = off' := by simpa using e
  refine ⟨?_, ?_, ?_, ?_⟩
  · rw [hc _ (by omega)]; simp [List.getD]
  · rw [Nat.add_assoc, hc _ (by omega)]; simp [List.getD]
  · rw [Nat.add_assoc, hc _ (by omega)]; simp [List.getD]
  · rw [Nat.add_assoc, hc _ (by omega)]; simp [List.getD]

theorem own_empty (w : World) : (w.alloc (.cells #[] 5)).ownsRow w.heap.size 5 1 (.slice (some ⟨w.heap.size, 0, none⟩) 0 0) 0 [] :=
  ⟨rfl, Or.inr ⟨w.heap.size, 0, #[], rfl, Nat.le_refl _, heap_alloc_new w _, Nat.le_refl _, by unfold maxLen; omega, rfl, rfl⟩⟩
/-- What holds all through the test of Open. -/
def HS (w0 : World) (b off : Nat) (front : List Nat) (d0 d1 d2 d3 : Nat) (W : World) : Prop :=
  W.cell? ⟨b, off + front.length, none⟩ = some (.int .u8 (d0 : Int)) ∧ W.cell? ⟨b, off + front.length + 1, none⟩ = some (.int .u8 (d1 : Int)) ∧
  W.cell? ⟨b, off + front.length + 2, none⟩ = some (.int .u8 (d2 : Int)) ∧ W.cell? ⟨b, off + front.length + 3, none⟩ = some (.int .u8 (d3 : Int)) ∧
  By W w0.heap.size (some ⟨b, off, none⟩) front ∧ Below w0.heap.size w0 W ∧ b < w0.heap.size
theorem HS.below {w0 W W' : World} {b off : Nat} {front : List Nat} {d0 d1 d2 d3 : Nat} (hb : Below W.heap.size W W') (h : HS w0 b off front d0 d1 d2 d3 W) : HS w0 b off front d0 d1 d2 d3 W' := by
  obtain ⟨h0, h1, h2, h3, h4, h5, h6⟩ := h
  have hz := h5.size
  exact ⟨(hb.cell (by simp; omega)).trans h0, (hb.cell (by simp; omega)).trans h1, (hb.cell (by simp; omega)).trans h2, (hb.cell (by simp; omega)).trans h3, h4.below hb hz, h5.trans (hb.mono hz), h6⟩
theorem HS.by_ {w0 W : World} {b off : Nat} {front : List Nat} {d0 d1 d2 d3 : Nat} (h : HS w0 b off front d0 d1 d2 d3 W) : By W W.heap.size (some ⟨b, off, none⟩) front := h.2.2.2.2.1.mono h.2.2.2.2.2.1.size
theorem HS.drew {w0 W : World} {b off : Nat} {front : List Nat} {d0 d1 d2 d3 : Nat} (h : HS w0 b off front d0 d1 d2 d3 W) : HS w0 b off front d0 d1 d2 d3 W.drew := ⟨h.1, h.2.1, h.2.2.1, h.2.2.2.1, h.2.2.2.2.1, h.2.2.2.2.2.1.drew, h.2.2.2.2.2.2⟩
theorem Front.hs {w : World} {b off : Nat} {front : List Nat} {d0 d1 d2 d3 : Nat} (h : Front w w.heap.size b off front d0 d1 d2 d3) : HS w b off front d0 d1 d2 d3 w :=
  ⟨h.cells.1, h.cells.2.1, h.cells.2.2.1, h.cells.2.2.2, by simpa using h.by_.take front.length, Below.refl _ _, h.lt⟩

set_option maxHeartbeats 400000 in
theorem open_no (front : List Nat) (d0 d1 d2 d3 b off c : Nat) (w : World) (hf : Front w w.heap.size b off front d0 d1 d2 d3) (hc : front.length + 4 ≤ c) (hl : front.length ≤ 1000000000)
    (hne : ∀ w, (binOp .neq 35 (.agg #[.int .u8 (d0 : Int), .int .u8 (d1 : Int), .int .u8 (d2 : Int), .int .u8 (d3 : Int)]) (.agg (four (Crc.sum front)))).run Try.prog w = .ok (.bool true) w) :
    Calls Try.prog 8 #[.slice (some ⟨b, off, none⟩) (front.length + 4) c] w fun e w' => e = .returned (.tuple #[.slice none 0 0, .bool false]) ∧ Below w.heap.size w w' := by
  have hs := Crc.sum_lt (bs := front) (fun x hx => hf.by_.1 x (List.mem_append_left _ hx))
  have hh := hf.hs
  clear hf
  have hcn : ¬ c = front.length := by omega
  have g0 : (0 : Int) ≤ (front.length : Int) := by omega
  have g1 : (front.length : Int) ≤ (front.length : Int) + 4 := by omega
  have g2 : front.length ≤ c := by omega
  have hlm : front.length ≤ maxLen := by unfold maxLen; omega
  have hat := fun (W : World) (a : Option Addr) (len cap : Nat) (hn : 4 ≤ len) => run_arrayAt (P := Try.prog) W 35 5 4 a len cap Try.underlying35 hn
  go_enter Try.func8, Try.ntmps8
  go_wp2_with fail
  go_region_held3 (fun W => W.cell? ⟨b, off + front.length, none⟩ = some (.int .u8 (d0 : Int)) ∧ W.cell? ⟨b, off + front.length + 1, none⟩ = some (.int .u8 (d1 : Int)) ∧
  W.cell? ⟨b, off + front.length + 2, none⟩ = some (.int .u8 (d2 : Int)) ∧ W.cell? ⟨b, off + front.length + 3, none⟩ = some (.int .u8 (d3 : Int)) ∧
  By W w.heap.size (some ⟨b, off, none⟩) front ∧ Below w.heap.size w W ∧ b < w.heap.size)
    (first | assumption | exact HS.drew hh | exact HS.below (by assumption) (by assumption))
    (first | (go_at_call 10; refine (sum_any front (some ⟨b, off, none⟩) c _ ?_ hlm).mono ?_; (exact HS.by_ (by assumption)); rintro e w' ⟨rfl, hw'⟩) | (go_at_call 16; refine (lowest_any _ hs _).mono ?_; rintro e w' ⟨rfl, hw'⟩))
  all_goals
    rename_i hH
    have hB := hH.2.2.2.2.2.1
    clear hH
    go_wp2
    go_ret2
    exact ⟨rfl, hB⟩

set_option maxHeartbeats 400000 in
theorem open_yes (front : List Nat) (d0 d1 d2 d3 b off c : Nat) (w : World) (hf : Front w w.heap.size b off front d0 d1 d2 d3) (hc : front.length + 4 ≤ c) (hl : front.length ≤ 1000000000)
    (hne : ∀ w, (binOp .neq 35 (.agg #[.int .u8 (d0 : Int), .int .u8 (d1 : Int), .int .u8 (d2 : Int), .int .u8 (d3 : Int)]) (.agg (four (Crc.sum front)))).run Try.prog w = .ok (.bool false) w) :
    Calls Try.prog 8 #[.slice (some ⟨b, off, none⟩) (front.length + 4) c] w fun e w' => ∃ v, e = .returned (.tuple #[v, .bool true]) ∧ New w w' front v := by
  have hs := Crc.sum_lt (bs := front) (fun x hx => hf.by_.1 x (List.mem_append_left _ hx))
  have hh := hf.hs
  clear hf
  have hcn : ¬ c = front.length := by omega
  have g0 : (0 : Int) ≤ (front.length : Int) := by omega
  have g1 : (front.length : Int) ≤ (front.length : Int) + 4 := by omega
  have g2 : front.length ≤ c := by omega
  have hlm : front.length ≤ maxLen := by unfold maxLen; omega
  have hat := fun (W : World) (a : Option Addr) (len cap : Nat) (hn : 4 ≤ len) => run_arrayAt (P := Try.prog) W 35 5 4 a len cap Try.underlying35 hn
  go_enter Try.func8, Try.ntmps8
  go_wp2_with fail
  go_region_held3 (fun W => W.cell? ⟨b, off + front.length, none⟩ = some (.int .u8 (d0 : Int)) ∧ W.cell? ⟨b, off + front.length + 1, none⟩ = some (.int .u8 (d1 : Int)) ∧
  W.cell? ⟨b, off + front.length + 2, none⟩ = some (.int .u8 (d2 : Int)) ∧ W.cell? ⟨b, off + front.length + 3, none⟩ = some (.int .u8 (d3 : Int)) ∧
  By W w.heap.size (some ⟨b, off, none⟩) front ∧ Below w.heap.size w W ∧ b < w.heap.size)
    (first | assumption | exact HS.drew hh | exact HS.below (by assumption) (by assumption))
    (first | (go_at_call 10; refine (sum_any front (some ⟨b, off, none⟩) c _ ?_ hlm).mono ?_; (exact HS.by_ (by assumption)); rintro e w' ⟨rfl, hw'⟩) | (go_at_call 16; refine (lowest_any _ hs _).mono ?_; rintro e w' ⟨rfl, hw'⟩))
  all_goals
    rename_i hH
    have hB := hH.2.2.2.2.2.1
    have hY := hH.2.2.2.2.1
    clear hH hh
    obtain ⟨i0, hi, hz0, hz1, hz2⟩ := info_parts Try.info5
    have s1 := Lib.hid (own_empty w')
    have s2 := Lib.hid (show (vals front).length = front.length * 1 by rw [vals_length, Nat.mul_one])
    have s3 := Lib.hid ((hY.below (Below.refl w'.heap.size w' |>.alloc (Nat.le_refl _) (.cells #[] 5)) hB.size).vals _ rfl)
    have s4 := Lib.hid (vals_one (bs := front))
    have s5 : Hid (0 + front.length ≤ maxLen) := by show 0 + front.length ≤ maxLen; omega
    have s6 : Hid ((0 + front.length) * 1 ≤ 140737488355328) := by show (0 + front.length) * 1 ≤ 140737488355328; omega
    have s7 : Hid (w'.heap.size ≤ (w'.alloc (.cells #[] 5)).heap.size) := by show w'.heap.size ≤ (w'.alloc _).heap.size; simp
    go_wp2_with ((at_builtin; refine wpList_append_own _ rfl (.tmp 21) (.tmp 24) 22 rfl w'.heap.size 5 i0 (.int .u8 0) 1 1 Try.underlying22 hi hz0 hz1 hz2 rfl (by decide) _ 0 [] rfl s1.out ⟨b, off, none⟩ front.length c (vals front) rfl s2.out s3.out s4.out s5.out s6.out s7.out ?_; intro v' w7 hown hgrow _))
    go_ret2
    simp only [Nat.zero_add, List.nil_append] at hown
    exact ⟨v', rfl, own_mono hown hB.size, ((hB.alloc hB.size (.cells #[] 5))).grown hgrow (by simp; have := hB.size; omega) (fun k e => by cases (show some w'.heap.size = some k from e); exact hB.size)⟩

set_option maxHeartbeats 400000 in
theorem open_short (A : Option Addr) (n c : Nat) (w : World) (hn : n < 4) :
    Calls Try.prog 8 #[.slice A n c] w fun e w' => e = .returned (.tuple #[.slice none 0 0, .bool false]) ∧ Below w.heap.size w w' := by
  have h : (n : Int) < 4 := by omega
  go_enter Try.func8, Try.ntmps8
  go_wp2
  go_ret2
  exact ⟨rfl, Below.refl _ _⟩

theorem last_four (bs : List Nat) (h : 4 ≤ bs.length) : ∃ d0 d1 d2 d3, bs = bs.take (bs.length - 4) ++ [d0, d1, d2, d3] := by
  have hl : (bs.drop (bs.length - 4)).length = 4 := by rw [List.length_drop]; omega
  obtain ⟨d0, d1, d2, d3, e⟩ : ∃ d0 d1 d2 d3, bs.drop (bs.length - 4) = [d0, d1, d2, d3] := by
    generalize bs.drop (bs.length - 4) = l at hl
    match l, hl with
    | [a, b, c, d], _ => exact ⟨a, b, c, d, rfl⟩
  exact ⟨d0, d1, d2, d3, by rw [← e, List.take_append_drop]⟩
theorem isSealed_of (front : List Nat) (d0 d1 d2 d3 : Nat) : Crc.isSealed (front ++ [d0, d1, d2, d3]) = decide ([d0, d1, d2, d3] = Crc.tail (Crc.sum front)) := by
  unfold Crc.isSealed
  have hl : (front ++ [d0, d1, d2, d3]).length = front.length + 4 := by simp
  rw [hl, Nat.add_sub_cancel]
  simp
theorem neq_four (front : List Nat) (d0 d1 d2 d3 : Nat) (w : World) :
    (binOp .neq 35 (.agg #[.int .u8 (d0 : Int), .int .u8 (d1 : Int), .int .u8 (d2 : Int), .int .u8 (d3 : Int)]) (.agg (four (Crc.sum front)))).run Try.prog w = .ok (.bool (!Crc.isSealed (front ++ [d0, d1, d2, d3]))) w := by
  rw [isSealed_of]
  generalize Crc.sum front = s
  have h := run_neq_four w d0 d1 d2 d3 (s % 256 : Nat) (s / 256 % 256 : Nat) (s / 65536 % 256 : Nat) (s / 16777216 % 256 : Nat)
  have e : four s = #[.int .u8 ((s % 256 : Nat) : Int), .int .u8 ((s / 256 % 256 : Nat) : Int), .int .u8 ((s / 65536 % 256 : Nat) : Int), .int .u8 ((s / 16777216 % 256 : Nat) : Int)] := rfl
  rw [e, h]
  congr 3
  rw [Bool.eq_iff_iff]
  unfold Crc.tail
  simp only [Bool.and_eq_true, beq_iff_eq, decide_eq_true_eq, List.cons.injEq, and_true]
  omega
theorem Front.mk' {w : World} {A : Option Addr} {front : List Nat} {d0 d1 d2 d3 : Nat} (h : By w w.heap.size A (front ++ [d0, d1, d2, d3])) : ∃ b off, A = some ⟨b, off, none⟩ ∧ Front w w.heap.size b off front d0 d1 d2 d3 := by
  obtain ⟨b, off, rfl, hb, _⟩ := h.at_ (by simp)
  exact ⟨b, off, rfl, ⟨h, hb⟩⟩

/-- P1.2: Open of what is sealed. -/
theorem open_sealed (bs : List Nat) (A : Option Addr) (c : Nat) (w : World) (hby : By w w.heap.size A bs) (hc : bs.length ≤ c) (hl : bs.length ≤ 1000000000) (hs : Crc.isSealed bs = true) :
    Calls Try.prog 8 #[.slice A bs.length c] w fun e w' => ∃ v, e = .returned (.tuple #[v, .bool true]) ∧ New w w' (bs.take (bs.length - 4)) v := by
  have h4 : 4 ≤ bs.length := by
    unfold Crc.isSealed at hs
    simp only [Bool.and_eq_true, decide_eq_true_eq] at hs
    exact hs.1
  obtain ⟨d0, d1, d2, d3, e⟩ := last_four bs h4
  generalize bs.take (bs.length - 4) = front at e ⊢
  subst e
  obtain ⟨b, off, rfl, hf⟩ := Front.mk' hby
  have hlen : (front ++ [d0, d1, d2, d3]).length = front.length + 4 := by simp
  rw [hlen] at hc hl ⊢
  exact open_yes front d0 d1 d2 d3 b off c w hf hc (by omega) (fun w => by rw [neq_four, hs]; rfl)
/-- P1.2: Open of what is not. -/
theorem open_other (bs : List Nat) (A : Option Addr) (c : Nat) (w : World) (hby : By w w.heap.size A bs) (hc : bs.length ≤ c) (hl : bs.length ≤ 1000000000) (hs : Crc.isSealed bs = false) :
    Calls Try.prog 8 #[.slice A bs.length c] w fun e w' => e = .returned (.tuple #[.slice none 0 0, .bool false]) ∧ Below w.heap.size w w' := by
  rcases Nat.lt_or_ge bs.length 4 with h4 | h4
  · exact open_short A bs.length c w h4
  obtain ⟨d0, d1, d2, d3, e⟩ := last_four bs h4
  generalize bs.take (bs.length - 4) = front at e ⊢
  subst e
  obtain ⟨b, off, rfl, hf⟩ := Front.mk' hby
  have hlen : (front ++ [d0, d1, d2, d3]).length = front.length + 4 := by simp
  rw [hlen] at hc hl ⊢
  exact open_no front d0 d1 d2 d3 b off c w hf hc (by omega) (fun w => by rw [neq_four, hs]; rfl)
end Go.Proofs.Ytgolikofjhdilaa
