/-
  Cut, by contract.
-/
import Derived.Test.YtehkohnpfbdngaaDoorAllMay
import Derived.Test.YtehkohnpfbdngaaDoorLoad
import Derived.Test.YtehkohnpfbdngaaDoorSum
namespace Go.Proofs.YtehkohnpfbdngaaDoor
open Go.RowKit

theorem holds_true (n least most : Int) (h1 : least ≤ n) (h2 : n ≤ most) (w : World) :
    Calls Tryd.prog 27 #[.agg #[.int .i64 n, .int .i64 least, .int .i64 most]] w fun e w' => e = .returned (.bool true) ∧ Below w.heap.size w w' := by
  have h := holds_any n least most w
  rwa [show (decide (least ≤ n) && decide (n ≤ most)) = true by simp [h1, h2]] at h
theorem holds_false (n least most : Int) (h : ¬ (least ≤ n ∧ n ≤ most)) (w : World) :
    Calls Tryd.prog 27 #[.agg #[.int .i64 n, .int .i64 least, .int .i64 most]] w fun e w' => e = .returned (.bool false) ∧ Below w.heap.size w w' := by
  have h' := holds_any n least most w
  rwa [show (decide (least ≤ n) && decide (n ≤ most)) = false by rw [Bool.and_eq_false_iff, decide_eq_false_iff_not, decide_eq_false_iff_not]; omega] at h'

/-- what Cut answers: frames in memory of their own, and an error -/
def CutOut (w : World) (bs : List Nat) (seq inc : Int) (e : Ending) (w' : World) : Prop :=
  ∃ A' c', e = .returned (.tuple #[.slice A' (cutL bs seq inc).length c', .int .i64 (cutE bs.length seq inc)]) ∧ Frs w' w'.heap.size A' (cutL bs seq inc) ∧ (cutL bs seq inc).length ≤ c' ∧ c' ≤ 2 ∧ (A' = none → c' = 0) ∧ Below w.heap.size w w'
theorem CutOut.no {w w' : World} {bs : List Nat} {seq inc E : Int} (hE : cutE bs.length seq inc = E) (h0 : E ≠ 0) (hb : Below w.heap.size w w') : CutOut w bs seq inc (.returned (.tuple #[.slice none 0 0, .int .i64 E])) w' := by
  have hL : cutL bs seq inc = [] := by unfold cutL; rw [hE, if_neg h0]
  exact ⟨none, 0, by rw [hL, hE]; rfl, by rw [hL]; exact Frs.nil_, by rw [hL]; exact Nat.le_refl _, by omega, fun _ => rfl, hb⟩

set_option maxHeartbeats 1000000 in
theorem cut_no (bs : List Nat) (seq inc : Int) (A : Option Addr) (c : Nat) (w : World) (hl : bs.length ≤ 1000000000) (h1 : -9223372036854775808 ≤ seq) (h2 : seq ≤ 9223372036854775807) (hE : cutE bs.length seq inc ≠ 0) :
    Calls Tryd.prog 15 #[.slice A bs.length c, .int .i64 seq, .int .i64 inc] w (CutOut w bs seq inc) := by
  by_cases h0 : bs.length = 0
  · have HE := Lib.hid (show cutE bs.length seq inc = 2 by unfold cutE; rw [if_pos (Or.inl h0)])
    have hq : ((bs.length : Int) == 0) = true := by simp [h0]
    have H := Lib.hid h0
    clear hE h0
    go_enter Tryd.func15, Tryd.ntmps15
    go_wp2
    go_ret2
    exact CutOut.no HE.out (by omega) (Below.refl _ _)
  have hq : ((bs.length : Int) == 0) = false := beq_eq_false_iff_ne.2 (by omega)
  by_cases hs : 1 ≤ seq ∧ seq ≤ 1099511627776
  rotate_left
  · have HE := Lib.hid (show cutE bs.length seq inc = 2 by unfold cutE; rw [if_pos (Or.inr (Or.inl hs))])
    have HS := Lib.hid hs
    clear hE h0 hs
    go_enter Tryd.func15, Tryd.ntmps15
    go_wp2_with fail
    refine (seqBound_any _ _).mono ?_
    rintro e w1 ⟨rfl, hb1⟩
    have B1 := Lib.hid hb1
    clear hb1
    go_wp2_with fail
    refine (holds_false _ _ _ HS.out _).mono ?_
    rintro e w2 ⟨rfl, hb2⟩
    have B2 := Lib.hid (B1.out.trans (hb2.mono B1.out.size))
    clear hb2
    go_wp2
    go_ret2
    exact CutOut.no HE.out (by omega) B2.out
  by_cases hi : 0 ≤ inc ∧ inc ≤ 1048576
  rotate_left
  · have HE := Lib.hid (show cutE bs.length seq inc = 2 by unfold cutE; rw [if_pos (Or.inr (Or.inr hi))])
    have HS := Lib.hid hs
    have HI := Lib.hid hi
    clear hE h0 hs hi
    go_enter Tryd.func15, Tryd.ntmps15
    go_wp2_with fail
    refine (seqBound_any _ _).mono ?_
    rintro e w1 ⟨rfl, hb1⟩
    have B1 := Lib.hid hb1
    clear hb1
    go_wp2_with fail
    refine (holds_true _ _ _ HS.out.1 HS.out.2 _).mono ?_
    rintro e w2 ⟨rfl, hb2⟩
    have B2 := Lib.hid (B1.out.trans (hb2.mono B1.out.size))
    clear hb2
    go_wp2_with fail
    refine (incBound_any _ _).mono ?_
    rintro e w3 ⟨rfl, hb3⟩
    have B3 := Lib.hid (B2.out.trans (hb3.mono B2.out.size))
    clear hb3
    go_wp2_with fail
    refine (holds_false _ _ _ HI.out _).mono ?_
    rintro e w4 ⟨rfl, hb4⟩
    have B4 := Lib.hid (B3.out.trans (hb4.mono B3.out.size))
    clear hb4
    go_wp2
    go_ret2
    exact CutOut.no HE.out (by omega) B4.out
  obtain ⟨q, hqd⟩ : ∃ q : Nat, (bs.length - 1) / 45 = q := ⟨_, rfl⟩
  have hdiv : ((bs.length : Int) - 1).tdiv 45 = (q : Int) := by
    rw [Int.tdiv_eq_ediv_of_nonneg (by omega), ← hqd]; omega
  have hqb : q ≤ 100000000 := by omega
  by_cases h90 : 90 < bs.length
  · have HE := Lib.hid (show cutE bs.length seq inc = 3 by unfold cutE; rw [if_neg (by omega), if_pos h90])
    have HS := Lib.hid hs
    have HI := Lib.hid hi
    clear hE h0 hs hi
    have h91 : (2 : Int) < (q : Int) + 1 := by omega
    clear hqd
    go_enter Tryd.func15, Tryd.ntmps15
    go_wp2_with fail
    refine (seqBound_any _ _).mono ?_
    rintro e w1 ⟨rfl, hb1⟩
    have B1 := Lib.hid hb1
    clear hb1
    go_wp2_with fail
    refine (holds_true _ _ _ HS.out.1 HS.out.2 _).mono ?_
    rintro e w2 ⟨rfl, hb2⟩
    have B2 := Lib.hid (B1.out.trans (hb2.mono B1.out.size))
    clear hb2
    go_wp2_with fail
    refine (incBound_any _ _).mono ?_
    rintro e w3 ⟨rfl, hb3⟩
    have B3 := Lib.hid (B2.out.trans (hb3.mono B2.out.size))
    clear hb3
    go_wp2_with fail
    refine (holds_true _ _ _ HI.out.1 HI.out.2 _).mono ?_
    rintro e w4 ⟨rfl, hb4⟩
    have B4 := Lib.hid (B3.out.trans (hb4.mono B3.out.size))
    clear hb4
    go_wp2
    go_ret2
    exact CutOut.no HE.out (by omega) B4.out
  · have hE2 : 1099511627776 < seq + cutN bs.length - 1 := by
      unfold cutE at hE
      rw [if_neg (by omega), if_neg h90] at hE
      by_cases h : 1099511627776 < seq + cutN bs.length - 1
      · exact h
      · rw [if_neg h] at hE; exact absurd rfl hE
    have HE := Lib.hid (show cutE bs.length seq inc = 2 by unfold cutE; rw [if_neg (by omega), if_neg h90, if_pos hE2])
    unfold cutN at hE2
    have HS := Lib.hid hs
    have HI := Lib.hid hi
    have h91 : (q : Int) + 1 ≤ 2 := by omega
    rw [hqd] at hE2
    have hs1 : 1 ≤ seq := hs.1
    have hs2 : seq ≤ 1099511627776 := hs.2
    have HK := Lib.hid (show ¬ (1 ≤ seq + ((q : Int) + 1) - 1 ∧ seq + ((q : Int) + 1) - 1 ≤ 1099511627776) by omega)
    clear hE h0 hs hi hE2 hqd
    go_enter Tryd.func15, Tryd.ntmps15
    go_wp2_with fail
    refine (seqBound_any _ _).mono ?_
    rintro e w1 ⟨rfl, hb1⟩
    have B1 := Lib.hid hb1
    clear hb1
    go_wp2_with fail
    refine (holds_true _ _ _ HS.out.1 HS.out.2 _).mono ?_
    rintro e w2 ⟨rfl, hb2⟩
    have B2 := Lib.hid (B1.out.trans (hb2.mono B1.out.size))
    clear hb2
    go_wp2_with fail
    refine (incBound_any _ _).mono ?_
    rintro e w3 ⟨rfl, hb3⟩
    have B3 := Lib.hid (B2.out.trans (hb3.mono B2.out.size))
    clear hb3
    go_wp2_with fail
    refine (holds_true _ _ _ HI.out.1 HI.out.2 _).mono ?_
    rintro e w4 ⟨rfl, hb4⟩
    have B4 := Lib.hid (B3.out.trans (hb4.mono B3.out.size))
    clear hb4
    go_wp2_with fail
    refine (seqBound_any _ _).mono ?_
    rintro e w5 ⟨rfl, hb5⟩
    have B5 := Lib.hid (B4.out.trans (hb5.mono B4.out.size))
    clear hb5
    go_wp2_with fail
    refine (holds_false _ _ _ HK.out _).mono ?_
    rintro e w6 ⟨rfl, hb6⟩
    have B6 := Lib.hid (B5.out.trans (hb6.mono B5.out.size))
    clear hb6
    go_wp2
    go_ret2
    exact CutOut.no HE.out (by omega) B6.out

theorem Tryd.zero25 : (Tryd.prog.info? 25).map (fun i => (i.zero, i.size, i.bytes)) = some (some (.agg #[.int .i64 0, .int .i64 0, .int .i64 0, .int .i64 0, .int .u32 0, .slice none 0 0]), 6, 64) := by kernel_rfl
theorem Tryd.size25 : (Tryd.prog.info? 25).map (·.size) = some 6 := by kernel_rfl
/-- A row of n frames in block g of which the first k are laid. -/
structure Rowed (w0 wr : World) (g n k : Nat) (F : Nat → Fr) (cs : List Value) : Prop where
  len : cs.length = n * 6
  row : wr.heap[g]? = some (.cells cs.toArray 25 (0, 0))
  done : ∀ i, i < k → ∃ A' c', (∀ j u, (frv A' c' (F i))[j]? = some u → cs[i * 6 + j]? = some u) ∧ By wr wr.heap.size A' (F i).load ∧ (F i).load.length ≤ c' ∧ c' ≤ maxLen ∧ (A' = none → c' = 0) ∧ ∀ b, A' = some b → b.block ≠ g
  keeps : Below w0.heap.size w0 wr
  ge : w0.heap.size ≤ g
  lt : g < wr.heap.size
theorem frv_get {A : Option Addr} {c : Nat} {f : Fr} {j : Nat} {u : Value} (h : (frv A c f)[j]? = some u) : j < 6 := (List.getElem?_eq_some_iff.1 h).1
theorem Rowed.next {w0 wr w2 : World} {g n k c' : Nat} {F : Nat → Fr} {cs : List Value} {A' : Option Addr} (h : Rowed w0 wr g n k F cs) (hk : k < n) (hb : Below wr.heap.size wr w2)
    (hy : By w2 w2.heap.size A' (F k).load) (h1 : (F k).load.length ≤ c') (h2 : c' ≤ maxLen) (h3 : A' = none → c' = 0) (hne : ∀ b, A' = some b → wr.heap.size ≤ b.block) :
    Rowed w0 (w2.setRow g (cs.take (k * 6) ++ frv A' c' (F k) ++ cs.drop (k * 6 + 6)).toArray) g n (k + 1) F (cs.take (k * 6) ++ frv A' c' (F k) ++ cs.drop (k * 6 + 6)) := by
  have hl := h.len
  have hg2 : w2.heap[g]? = some (.cells cs.toArray 25 (0, 0)) := (hb.block g h.lt).trans h.row
  have hgr := grown_setRow w2 g (cs.take (k * 6) ++ frv A' c' (F k) ++ cs.drop (k * 6 + 6)).toArray
  have hsz : (w2.setRow g (cs.take (k * 6) ++ frv A' c' (F k) ++ cs.drop (k * 6 + 6)).toArray).heap.size = w2.heap.size := by simp
  have ht : (cs.take (k * 6)).length = k * 6 := by rw [List.length_take]; omega
  have hlt2 : g < w2.heap.size := Nat.lt_of_lt_of_le h.lt hb.size
  refine ⟨?_, setRow_heap _ _ _ _ _ _ hg2, fun i hi => ?_, ?_, h.ge, by rw [hsz]; exact hlt2⟩
  · simp only [List.length_append, ht, frv_length, List.length_drop]; omega
  · by_cases hik : i = k
    · subst hik
      refine ⟨A', c', fun j u hu => ?_, ?_, h1, h2, h3, fun b e => ?_⟩
      · have := frv_get hu
        rw [List.append_assoc, List.getElem?_append_right (by omega), ht, Nat.add_sub_cancel_left, List.getElem?_append_left (by rw [frv_length]; omega)]
        exact hu
      · rw [hsz]
        exact hy.only (Nat.le_refl _) hgr (fun b e => by have := hne b e; have := h.lt; omega)
      · have := hne b e; have := h.lt; omega
    · obtain ⟨A1, c1, q1, q2, q3, q4, q5, q6⟩ := h.done i (by omega)
      refine ⟨A1, c1, fun j u hu => ?_, ?_, q3, q4, q5, q6⟩
      · have := frv_get hu
        rw [List.append_assoc, List.getElem?_append_left (by omega), List.getElem?_take, if_pos (by omega)]
        exact q1 j u hu
      · rw [hsz]
        exact ((q2.below hb (Nat.le_refl _)).mono hb.size).only (Nat.le_refl _) hgr q6
  · exact (h.keeps.trans (hb.mono h.keeps.size)).grown hgr (Nat.le_trans h.keeps.size hb.size) (fun j e => by cases e; exact h.ge)
theorem Rowed.frs {w0 wr : World} {g n : Nat} {F : Nat → Fr} {cs : List Value} (h : Rowed w0 wr g n n F cs) (hf : ∀ i, i < n → (F i).Fine) : Frs wr wr.heap.size (some ⟨g, 0, none⟩) ((List.range n).map F) :=
  Frs.of_row h.row h.lt fun i hi => by
    have hin : i < n := by simpa using hi
    obtain ⟨A1, c1, q1, q2, q3, q4, q5, _⟩ := h.done i hin
    rw [List.getElem_map, List.getElem_range]
    exact ⟨frv A1 c1 (F i), ⟨A1, c1, rfl, q2, q3, q4, q5, hf i hin⟩, fun j u hu => by rw [Nat.zero_add]; exact q1 j u hu⟩

theorem cut_fine {bs : List Nat} {seq inc : Int} (hb : ∀ x ∈ bs, x < 256) (hE : cutE bs.length seq inc = 0) (i : Nat) (hi : i < cutN bs.length) : (cutOne bs seq inc i).Fine := by
  obtain ⟨h1, h2, h3, h4, h5, h6, h7, h8⟩ := cutE_yes hE
  have hs := Crc.sum_lt hb
  exact ⟨by simp only [cutOne]; omega, by simp only [cutOne]; omega, by simp only [cutOne]; omega, by simp only [cutOne]; omega, hs, fun x hx => hb x (List.mem_of_mem_drop (List.mem_of_mem_take hx))⟩
theorem made_frames {w : World} {base g n : Nat} {xs : List Value} (h : w.ownsRow base 25 6 (.slice (some ⟨g, 0, none⟩) n n) n xs) : ∃ Z : List Value, w.heap[g]? = some (.cells Z.toArray 25 (0, 0)) ∧ Z.length = n * 6 := by
  rcases h.2 with ⟨e, _⟩ | ⟨g', cap, cur, e, _, hh, _, _, hs, _⟩
  · cases e
  · cases e
    exact ⟨cur.toList, by simpa using hh, by simpa using hs⟩

set_option maxRecDepth 100000 in
set_option maxHeartbeats 2000000 in
theorem cut_yes (bs : List Nat) (seq inc : Int) (A : Option Addr) (c : Nat) (w : World) (hA : By w w.heap.size A bs) (hc : bs.length ≤ c) (hcm : c ≤ maxLen) (hE : cutE bs.length seq inc = 0) :
    Calls Tryd.prog 15 #[.slice A bs.length c, .int .i64 seq, .int .i64 inc] w (CutOut w bs seq inc) := by
  obtain ⟨e1, e2, e3, e4, e5, e6, e7, e8⟩ := cutE_yes hE
  obtain ⟨n, hn⟩ : ∃ n, n = cutN bs.length := ⟨_, rfl⟩
  rw [← hn] at e4 e7 e8
  have hN := Lib.hid hn
  have hq : ((bs.length : Int) == 0) = false := beq_eq_false_iff_ne.2 (by omega)
  obtain ⟨q, hqd⟩ : ∃ q : Nat, (bs.length - 1) / 45 = q := ⟨_, rfl⟩
  have hnq : n = q + 1 := by rw [hn, ← hqd]; rfl
  have hlo : q * 45 < bs.length := by omega
  have hhi : bs.length ≤ q * 45 + 45 := by omega
  have hdiv : ((bs.length : Int) - 1).tdiv 45 = (q : Int) := by
    rw [Int.tdiv_eq_ediv_of_nonneg (by omega), ← hqd]; omega
  have HFine := Lib.hid (fun i hi => cut_fine (bs := bs) (seq := seq) (inc := inc) hA.1 hE i hi)
  have HE := Lib.hid hE
  have HA := Lib.hid hA
  have h91 : (q : Int) + 1 ≤ 2 := by omega
  have hs2 : seq ≤ 1099511627776 := by omega
  have hs3 : seq + ((q : Int) + 1) - 1 ≤ 1099511627776 := by omega
  obtain ⟨i0, hi, hz⟩ := Option.map_eq_some_iff.1 Tryd.zero25
  simp only [Prod.mk.injEq] at hz
  obtain ⟨hz0, hz1, hz2⟩ := hz
  have HB0 : Hid (i0.bytes * n ≤ 281474976710656) := by show _ ≤ _; rw [hz2]; omega
  have HNQ := Lib.hid hnq
  have HSum := Lib.hid (show ∀ W, Below w.heap.size w W → Calls Tryd.prog 29 #[.slice A bs.length c] W fun e w' => e = .returned (.int .u32 (Crc.sum bs : Nat)) ∧ Below W.heap.size W w' from fun W hW => sum_any bs A c W ((HA.out.below hW (Nat.le_refl _)).mono hW.size) (by unfold maxLen; omega))
  have HOne := Lib.hid (show ∀ i, cutOne bs seq inc i = ⟨seq + i, inc, i, (q : Int) + 1, Crc.sum bs, (bs.drop (i * 45)).take 45⟩ from fun i => by unfold cutOne; rw [← hn, hnq]; rfl)
  clear hA hE hn hqd hnq
  generalize Crc.sum bs = mark at *
  go_enter Tryd.func15, Tryd.ntmps15
  go_wp2_with fail
  refine (seqBound_any _ _).mono ?_
  rintro e w1 ⟨rfl, hb1⟩
  have B1 := Lib.hid hb1
  clear hb1
  go_wp2_with fail
  refine (holds_true _ _ _ e3 hs2 _).mono ?_
  rintro e w2 ⟨rfl, hb2⟩
  have B2 := Lib.hid (B1.out.trans (hb2.mono B1.out.size))
  clear hb2
  go_wp2_with fail
  refine (incBound_any _ _).mono ?_
  rintro e w3 ⟨rfl, hb3⟩
  have B3 := Lib.hid (B2.out.trans (hb3.mono B2.out.size))
  clear hb3
  go_wp2_with fail
  refine (holds_true _ _ _ e5 e6 _).mono ?_
  rintro e w4 ⟨rfl, hb4⟩
  have B4 := Lib.hid (B3.out.trans (hb4.mono B3.out.size))
  clear hb4
  go_wp2_with fail
  refine (seqBound_any _ _).mono ?_
  rintro e w5 ⟨rfl, hb5⟩
  have B5 := Lib.hid (B4.out.trans (hb5.mono B4.out.size))
  clear hb5
  go_wp2_with fail
  refine (holds_true _ _ _ (by omega) hs3 _).mono ?_
  rintro e w6 ⟨rfl, hb6⟩
  have B6 := Lib.hid (B5.out.trans (hb6.mono B5.out.size))
  clear hb6
  go_wp2_with (first
    | (refine wpList_make_full w6 rfl (.tmp 43) (.tmp 43) 35 rfl w6.heap.size 25 i0 _ 6 Tryd.underlying35 hi hz0 hz1 .i64 .i64 _ _ n rfl rfl (by rw [HNQ.out]; omega) (by rw [HNQ.out]; omega) HB0.out (by unfold maxLen; omega) (Nat.le_refl _) ?_; intro w7 hown hgrow; obtain ⟨Z, h0, hZ⟩ := made_frames hown; have hB := grown_below (Below.refl w6.heap.size w6) hgrow; clear hown hgrow))
  have hB7 := B6.out.trans (hB.mono B6.out.size)
  refine (HSum.out w7 hB7).mono ?_
  rintro e w8 ⟨rfl, hb8⟩
  have hg8 : w6.heap.size < w7.heap.size := by
    rcases Nat.lt_or_ge w6.heap.size w7.heap.size with h | h
    · exact h
    · rw [Array.getElem?_eq_none h] at h0; cases h0
  have R0 := Lib.hid (show Rowed w w8 w6.heap.size n 0 (cutOne bs seq inc) Z from ⟨hZ, (hb8.block _ hg8).trans h0, fun i hi => absurd hi (by omega), hB7.trans (hb8.mono hB7.size), B6.out.size, Nat.lt_of_lt_of_le hg8 hb8.size⟩)
  clear h0 hZ hB hb8 hg8 hB7 HSum
  generalize w6.heap.size = g at *
  go_wp2
  go_loopw [49] (fun i wr => ∃ k : Nat, k ≤ n ∧ i = .int .i64 k ∧ ∃ cs, Rowed w wr g n k (cutOne bs seq inc) cs) (fun i _ => n - (intOf i).toNat)
  case atStart => exact ⟨0, by omega, rfl, Z, R0.out⟩
  case round =>
    obtain ⟨k, hk, rfl, cs, hR⟩ := hrel
    have R := Lib.hid hR
    clear hR
    by_cases hlt : k < n
    · have hkq : k ≤ q := by have := HNQ.out; omega
      obtain ⟨b, off, rfl, hbw, _⟩ := HA.out.at_ (by omega)
      have hk45 : k * 45 < bs.length := by omega
      have hy := ((HA.out.below R.out.keeps (Nat.le_refl _)).mono R.out.keeps.size)
      have hyk := (hy.drop (c := c) (k * 45) hc).take 45
      rw [if_neg (by omega), Option.map_some, add_flat] at hyk
      have HY := Lib.hid hyk
      have HL := Lib.hid (show ((bs.drop (k * 45)).take 45).length ≤ 45 by rw [List.length_take]; omega)
      have HLoad := Lib.hid (load_any ((bs.drop (k * 45)).take 45) (some ⟨b, off + k * 45, none⟩) (((bs.drop (k * 45)).take 45).length) wr hyk (by rw [List.length_take]; omega))
      have hll : ((bs.drop (k * 45)).take 45).length = min 45 (bs.length - k * 45) := by rw [List.length_take, List.length_drop]
      have hOk := HOne.out k
      have hL2 : (cutOne bs seq inc k).load = (bs.drop (k * 45)).take 45 := by rw [hOk]
      have hO2 := hOk
      generalize (bs.drop (k * 45)).take 45 = ld at *
      have HO := Lib.hid hO2
      have HL2 := Lib.hid hL2
      clear hy hyk hOk hL2 hO2
      by_cases hm : (k : Int) * 45 + 45 ≤ (bs.length : Int)
      · have hr : ((k : Int) * 45 + 45).toNat - k * 45 = 45 := by omega
        have hr2 : ¬ ((k : Int) * 45 + 45).toNat = k * 45 := by omega
        have hld : ld.length = 45 := by omega
        rw [hld] at HLoad
        have HLD := Lib.hid hld
        clear hll hld
        go_wp2_with fail
        refine HLoad.out.mono ?_
        rintro e w9 ⟨rfl, hy9, hs9, hb9⟩
        have hX : frv (some ⟨wr.heap.size, 0, none⟩) 45 (cutOne bs seq inc k) = [.int .i64 (seq + (k : Int)), .int .i64 inc, .int .i64 (k : Int), .int .i64 ((q : Int) + 1), .int .u32 (mark : Nat), .slice (some ⟨wr.heap.size, 0, none⟩) 45 45] := by
          rw [HO.out]; unfold frv; dsimp only; rw [HLD.out]
        have R9 := Lib.hid (R.out.next hlt hb9 (A' := some ⟨wr.heap.size, 0, none⟩) (c' := 45) (by rw [HL2.out]; exact hy9.mono hs9) (by rw [HL2.out, HLD.out]; exact Nat.le_refl _) (by unfold maxLen; omega) (fun e => by cases e) (fun b e => by cases e; exact Nat.le_refl _))
        rw [hX] at R9
        have G9 := Lib.hid (show w9.heap[g]? = some (.cells (cs.take (k * 6) ++ (cs.drop (k * 6)).take 6 ++ cs.drop (k * 6 + 6)).toArray 25 (0, 0)) by
          rw [List.append_assoc, ← List.drop_drop, List.take_append_drop, List.take_append_drop]
          exact (hb9.block g R.out.lt).trans R.out.row)
        have L1 := Lib.hid (show (cs.take (k * 6)).length = k * 6 by have := R.out.len; rw [List.length_take]; omega)
        have L2 := Lib.hid (show ((cs.drop (k * 6)).take 6).length = 6 by have := R.out.len; rw [List.length_take, List.length_drop]; omega)
        clear hX hy9 hs9 hb9 HLoad
        generalize (cs.drop (k * 6)).take 6 = old at *
        generalize cs.drop (k * 6 + 6) = post at *
        generalize cs.take (k * 6) = ahead at *
        go_wp2_with (first
          | (refine wpList_store_part rfl 25 (.tmp 75) (.tmp 74) rfl g (k * 6) rfl [.int .i64 (seq + (k : Int)), .int .i64 inc, .int .i64 (k : Int), .int .i64 ((q : Int) + 1), .int .u32 (mark : Nat), .slice (some ⟨wr.heap.size, 0, none⟩) 45 45] rfl 25 ahead old post G9.out L1.out (by rw [L2.out]; rfl) Tryd.size25 (by simp [Value.oneCell']) ?_))
        go_roundw
        case rel =>
          have h9 := R9.out
          simp only [List.append_assoc, List.cons_append, List.nil_append] at h9
          exact ⟨k + 1, by omega, by go_num, _, h9⟩
        case measure => simp [intOf]; omega
      · have hr2 : ¬ bs.length = k * 45 := by omega
        have hld : ld.length = bs.length - k * 45 := by omega
        rw [hld] at HLoad
        have HLD := Lib.hid hld
        clear hll hld
        go_wp2_with fail
        refine HLoad.out.mono ?_
        rintro e w9 ⟨rfl, hy9, hs9, hb9⟩
        have hX : frv (some ⟨wr.heap.size, 0, none⟩) (bs.length - k * 45) (cutOne bs seq inc k) = [.int .i64 (seq + (k : Int)), .int .i64 inc, .int .i64 (k : Int), .int .i64 ((q : Int) + 1), .int .u32 (mark : Nat), .slice (some ⟨wr.heap.size, 0, none⟩) (bs.length - k * 45) (bs.length - k * 45)] := by
          rw [HO.out]; unfold frv; dsimp only; rw [HLD.out]
        have R9 := Lib.hid (R.out.next hlt hb9 (A' := some ⟨wr.heap.size, 0, none⟩) (c' := (bs.length - k * 45)) (by rw [HL2.out]; exact hy9.mono hs9) (by rw [HL2.out, HLD.out]; exact Nat.le_refl _) (by unfold maxLen; omega) (fun e => by cases e) (fun b e => by cases e; exact Nat.le_refl _))
        rw [hX] at R9
        have G9 := Lib.hid (show w9.heap[g]? = some (.cells (cs.take (k * 6) ++ (cs.drop (k * 6)).take 6 ++ cs.drop (k * 6 + 6)).toArray 25 (0, 0)) by
          rw [List.append_assoc, ← List.drop_drop, List.take_append_drop, List.take_append_drop]
          exact (hb9.block g R.out.lt).trans R.out.row)
        have L1 := Lib.hid (show (cs.take (k * 6)).length = k * 6 by have := R.out.len; rw [List.length_take]; omega)
        have L2 := Lib.hid (show ((cs.drop (k * 6)).take 6).length = 6 by have := R.out.len; rw [List.length_take, List.length_drop]; omega)
        clear hX hy9 hs9 hb9 HLoad
        generalize (cs.drop (k * 6)).take 6 = old at *
        generalize cs.drop (k * 6 + 6) = post at *
        generalize cs.take (k * 6) = ahead at *
        go_wp2_with (first
          | (refine wpList_store_part rfl 25 (.tmp 75) (.tmp 74) rfl g (k * 6) rfl [.int .i64 (seq + (k : Int)), .int .i64 inc, .int .i64 (k : Int), .int .i64 ((q : Int) + 1), .int .u32 (mark : Nat), .slice (some ⟨wr.heap.size, 0, none⟩) (bs.length - k * 45) (bs.length - k * 45)] rfl 25 ahead old post G9.out L1.out (by rw [L2.out]; rfl) Tryd.size25 (by simp [Value.oneCell']) ?_))
        go_roundw
        case rel =>
          have h9 := R9.out
          simp only [List.append_assoc, List.cons_append, List.nil_append] at h9
          exact ⟨k + 1, by omega, by go_num, _, h9⟩
        case measure => simp [intOf]; omega
    · obtain rfl : k = n := by omega
      have hF := R.out.frs (fun i hi => HFine.out i (by rw [← hN.out]; exact hi))
      have hL : cutL bs seq inc = (List.range k).map (cutOne bs seq inc) := by unfold cutL; rw [if_pos HE.out, cutAll, ← hN.out]
      have hLl : (cutL bs seq inc).length = k := by rw [hL]; simp
      rw [← hL] at hF
      have HF := Lib.hid hF
      have HLl := Lib.hid hLl
      have HK := Lib.hid R.out.keeps
      clear hF hL hLl
      go_wp2
      go_ret2
      exact ⟨some ⟨g, 0, none⟩, k, by rw [HLl.out, HE.out]; rfl, HF.out, by rw [HLl.out]; exact Nat.le_refl _, e7, (fun e => by cases e), HK.out⟩
/-- P4.2: Cut -/
theorem cut_any (bs : List Nat) (seq inc : Int) (A : Option Addr) (c : Nat) (w : World) (hA : By w w.heap.size A bs) (hc : bs.length ≤ c) (hcm : c ≤ maxLen) (hl : bs.length ≤ 1000000000) (h1 : -9223372036854775808 ≤ seq) (h2 : seq ≤ 9223372036854775807) :
    Calls Tryd.prog 15 #[.slice A bs.length c, .int .i64 seq, .int .i64 inc] w (CutOut w bs seq inc) := by
  by_cases hE : cutE bs.length seq inc = 0
  · exact cut_yes bs seq inc A c w hA hc hcm hE
  · exact cut_no bs seq inc A c w hl h1 h2 hE
end Go.Proofs.YtehkohnpfbdngaaDoor
