/-
  The developers' answers: Put.
-/
import Derived.Test.YtipgphdndleodaaODput
namespace Go.Proofs.Ytipgphdndleodaa
set_option maxRecDepth 100000
open Go.RowKit
set_option maxRecDepth 100000

theorem Wout.on {w w4 w5 : World} {m : List Wt} {v : Value} (h : Wout w w4 m v) (hb : Below w4.heap.size w4 w5) : Wout w w5 m v := by
  rcases h with ⟨A, e, h0, hc⟩ | h
  · exact Or.inl ⟨A, e, h0, fun ad ha j u hu => (hb.cell (World.block_lt_of_cell? _ _ (hc ad ha j u hu))).trans (hc ad ha j u hu)⟩
  · exact Or.inr (h.keep hb)
theorem append_wout {w0 w5 wB : World} {ops : Array Oper} {rest : List Oper} {o : Oper} {a : Act} {Q : Exit → Act → World → Prop} (hgd : o.guard = none) (s x : Operand)
    (ho : o.op = .call { callee := .builtin .append, args := #[s, x], argTypes := #[25, 25] }) (m : List Wt) (y : Wt) (v : Value) (hs : a.eval s = v) (hO : Wout w0 w5 m v) (hf : WrFine m) (hm : m.length ≤ 100)
    (base : Nat) (hb0 : base ≤ w0.heap.size) (hb5 : base ≤ w5.heap.size) (hB : Below base wB w5)
    (ad : Addr) (c : Nat) (hx : a.eval x = .slice (some ad) 1 c) (hy : y.2.length = 8) (hD : ∀ j u, (wrv y)[j]? = some u → w5.cell? (ad.add j) = some u)
    (h : ∀ v' w', Own8 w' base (m ++ [y]) v' → base ≤ w'.heap.size → Below base wB w' → wpList Try.prog ops Q rest (a.put o.dst v') w') : wpList Try.prog ops Q (o :: rest) a w5 := by
  obtain ⟨i0, hi, hz0, hz1, hz2⟩ := info_parts write_info3
  have hyl : (wrv y).length = 1 * 9 := by rw [wrv_length hy]
  have hml : (m.flatMap wrv).length = m.length * 9 := flat_length hf
  have hmy : (m ++ [y]).flatMap wrv = m.flatMap wrv ++ wrv y := by rw [List.flatMap_append]; simp
  have hlen : (m ++ [y]).length = m.length + 1 := by simp
  rcases hO with ⟨A, rfl, h0, hc⟩ | hown
  · refine wpList_append_grows w5 hgd s x 25 ho 27 i0 _ 9 16 Try.underlying25 hi hz0 hz1 hz2 rfl (by decide) A m.length m.length (m.flatMap wrv) hs (fun e => by rw [h0 e]; exact ⟨rfl, rfl⟩) hml hc ad 1 c (wrv y) hx hyl hD (wrv_cell y) (by omega) (by unfold maxLen; omega) (by omega) ?_
    intro v' w' r1 r2
    refine h v' w' ?_ (Nat.le_trans hb5 r2.size) (hB.grown r2 hb5 (fun k hk => by cases hk))
    unfold Own8
    rw [hmy, hlen]
    exact owns_base r1 hb5
  · refine wpList_append_own w5 hgd s x 25 ho base 27 i0 _ 9 16 Try.underlying25 hi hz0 hz1 hz2 rfl (by decide) v m.length (m.flatMap wrv) hs (owns_base hown hb0) ad 1 c (wrv y) hx hyl hD (wrv_cell y) (by unfold maxLen; omega) (by omega) hb5 ?_
    intro v' w' r1 r2 _
    refine h v' w' ?_ (Nat.le_trans hb5 r2.size) (hB.grown r2 hb5 (fun k hk => (World.ownsRow.lt (owns_base hown hb0) k hk).1))
    unfold Own8
    rw [hmy, hlen]
    exact r1
theorem Wout.slice {w w' : World} {m : List Wt} {v : Value} (h : Wout w w' m v) : ∃ A c, v = .slice A m.length c := by
  rcases h with ⟨A, e, _⟩ | h
  · exact ⟨A, _, e⟩
  · rcases h.2 with ⟨e, h0⟩ | ⟨g, cap, cur, e, _⟩
    · exact ⟨none, 0, by rw [e, h0]⟩
    · exact ⟨_, _, e⟩
set_option maxHeartbeats 2000000 in
theorem put_dev (l : List Wt) (y : Wt) (A : Option Addr) (c : Nat) (w : World) (h : WsAt w A c l) (hy : WtFine y) :
    Calls Try.prog 7 #[.slice A l.length c, .agg (wrv y).toArray] w fun e w' => ∃ A' c', e = .returned (.tuple #[.slice A' (putW l y).length c', .int .i64 (putE l y)]) ∧ WrsV w' (fun b => w.heap.size ≤ b) A' c' (putW l y) ∧ Below w.heap.size w w' := by
  obtain ⟨w1, hw1⟩ : ∃ w1, w1 = w.alloc (.cells (wrv y).toArray 27) := ⟨_, rfl⟩
  have hb1 : Below w.heap.size w w1 := by rw [hw1]; exact (Below.refl _ w).alloc (Nat.le_refl _) _
  have hs1 : w1.heap.size = w.heap.size + 1 := by rw [hw1]; simp
  have hg1 : w1.heap[w.heap.size]? = some (.cells (wrv y).toArray 27 (0, 0)) := by rw [hw1]; exact heap_alloc_new w _
  have HB1 := Lib.hid hb1
  have HS1 := Lib.hid hs1
  have HG1 := Lib.hid hg1
  have HW1 := Lib.hid hw1
  have HWr := Lib.hid (show ∀ W, Below w.heap.size w W → Calls Try.prog 13 #[.slice A l.length c] W fun e w' => e = .returned (.bool (writtenB l)) ∧ Below W.heap.size W w' from fun W hW => written_dev l A c W _ (h.below hW).at_.at_ h.fine)
  have HIs := Lib.hid (fun W => isBlock_dev y.1 W)
  have HY := Lib.hid (show ∀ W, Below w1.heap.size w1 W → W.cell? ⟨w.heap.size, 0, none⟩ = some (.int .i64 y.1) ∧ ∀ j u, (wrv y)[j]? = some u → W.cell? ⟨w.heap.size, 0 + j, none⟩ = some u from fun W hW => by
    have k0 := (hW.block w.heap.size (by omega)).trans hg1
    exact ⟨by rw [cell_of_row W _ 0 _ _ _ k0]; rfl, row_cells0 k0⟩)
  have HWo := Lib.hid (show ∀ W, Below w.heap.size w W → Calls Try.prog 15 #[.slice A l.length c, .int .i64 y.1] W fun e w' => ∃ v, e = .returned v ∧ Wout W w' (woL l y.1) v ∧ Below W.heap.size W w' from fun W hW => without_dev l y.1 A c W (h.below hW))
  clear hw1 hb1 hs1 hg1
  cases hq : writtenB l with
  | false =>
    have hE : putE l y = 2 := by unfold putE; rw [hq]; rfl
    have hW : putW l y = [] := by unfold putW; rw [hE]; rfl
    rw [hE, hW]
    rw [hq] at HWr
    generalize l.length = n at *
    go_enter Try.func7, Try.ntmps7
    go_wp2_with (first
      | (rw [← HW1.out])
      | (go_at_call 13; refine (HWr.out _ HB1.out).mono ?_; rintro e w2 ⟨rfl, hb2⟩))
    go_ret2
    exact ⟨none, 0, rfl, WrsV.nil_, HB1.out.trans (hb2.mono HB1.out.size)⟩
  | true =>
    rw [hq] at HWr
    cases hq2 : blockB y.1 with
    | false =>
      have hE : putE l y = 2 := by unfold putE; rw [hq, hq2]; rfl
      have hW : putW l y = [] := by unfold putW; rw [hE]; rfl
      rw [hE, hW]
      rw [hq2] at HIs
      generalize l.length = n at *
      clear hE hW hq hq2 h hy
      go_enter Try.func7, Try.ntmps7
      go_wp2_with (first
        | (rw [← HW1.out])
        | (go_at_call 13; refine (HWr.out _ HB1.out).mono ?_; rintro e w2 ⟨rfl, hb2⟩; have c0 := (HY.out _ hb2).1; have HB2 := Lib.hid hb2; clear hb2)
        | (go_at_call 14; refine (HIs.out _).mono ?_; rintro e w3 ⟨rfl, rfl⟩))
      go_ret2
      exact ⟨none, 0, rfl, WrsV.nil_, HB1.out.trans (HB2.out.mono HB1.out.size)⟩
    | true =>
      rw [hq2] at HIs
      have hr : l.Pairwise (fun a b => a.1 < b.1) := (rising_pair (l := l) (lo := -1) (by unfold writtenB at hq; rw [Bool.and_eq_true] at hq; exact hq.2)).2
      have h8 : l.length ≤ 8 := by unfold writtenB at hq; rw [Bool.and_eq_true, decide_eq_true_eq] at hq; omega
      have hmp : (woL l y.1).Pairwise (fun a b => a.1 < b.1) := wo_pair hr
      have hmn := wo_not (k := y.1) hr
      have hins : insW y l = insW y (woL l y.1) := ins_wo hr
      have hil : (insW y (woL l y.1)).length = (woL l y.1).length + 1 := ins_len_no hmn
      have hm8 : (woL l y.1).length ≤ 8 := by
        unfold woL
        rw [List.length_append, List.length_take, List.length_drop]
        omega
      have hmf : WrFine (woL l y.1) := by
        unfold woL
        intro x hx
        rcases List.mem_append.1 hx with hx | hx
        · exact h.fine x (List.mem_of_mem_take hx)
        · exact h.fine x (List.mem_of_mem_drop hx)
      have hEq : putE l y = if (woL l y.1).length + 1 ≤ 8 then 0 else 50 := by
        unfold putE
        rw [hq, hq2, hins, hil]
        rfl
      have hWq : putW l y = if putE l y = 0 then insW y (woL l y.1) else [] := by unfold putW; rw [hins]
      have HF := Lib.hid hmf
      have HP := Lib.hid hmp
      have HNo := Lib.hid hmn
      clear hr h8 hmp hmn hins hil hmf hq hq2 h
      generalize woL l y.1 = m at *
      by_cases h8 : m.length = 8
      · rw [if_neg (by omega)] at hEq
        rw [if_neg (by omega)] at hWq
        rw [hEq, hWq]
        have hle : ((m.length : Nat) : Int) = 8 := by omega
        clear hEq hWq
        generalize l.length = n at *
        go_enter Try.func7, Try.ntmps7
        go_wp2_with (first
          | (rw [← HW1.out])
          | (go_at_call 13; refine (HWr.out _ HB1.out).mono ?_; rintro e w2 ⟨rfl, hb2⟩; have c0 := (HY.out _ hb2).1; have HB2 := Lib.hid hb2; clear hb2)
          | (go_at_call 14; refine (HIs.out _).mono ?_; rintro e w3 ⟨rfl, rfl⟩))
        refine (HWo.out _ (HB1.out.trans (HB2.out.mono HB1.out.size))).mono ?_
        rintro e w4 ⟨v, rfl, hwo, hb4⟩
        obtain ⟨A2, c2, rfl⟩ := hwo.slice
        have HB4 := Lib.hid (HB2.out.trans (hb4.mono HB2.out.size))
        have HO := Lib.hid hwo
        clear hwo hb4 c0
        rw [h8]
        go_wp2
        go_ret2
        exact ⟨none, 0, rfl, WrsV.nil_, HB1.out.trans (HB4.out.mono HB1.out.size)⟩
      · have h7 : m.length + 1 ≤ 8 := by omega
        rw [if_pos h7] at hEq
        rw [if_pos hEq] at hWq
        rw [hEq, hWq]
        obtain ⟨q, v⟩ := y
        obtain ⟨y0, y1, y2, y3, y4, y5, y6, y7, rfl⟩ := eightD hy.2.1
        have hle : (((m.length : Nat) : Int) == 8) = false := by rw [beq_eq_false_iff_ne]; omega
        clear hEq hWq
        generalize l.length = n at *
        go_enter Try.func7, Try.ntmps7
        go_wp2_with (first
          | (rw [← HW1.out])
          | (go_at_call 13; refine (HWr.out _ HB1.out).mono ?_; rintro e w2 ⟨rfl, hb2⟩; have c0 := (HY.out _ hb2).1; have HB2 := Lib.hid hb2; clear hb2)
          | (go_at_call 14; refine (HIs.out _).mono ?_; rintro e w3 ⟨rfl, rfl⟩))
        refine (HWo.out _ (HB1.out.trans (HB2.out.mono HB1.out.size))).mono ?_
        rintro e w4 ⟨v, rfl, hwo, hb4⟩
        obtain ⟨A2, c2, rfl⟩ := hwo.slice
        have HB4 := Lib.hid (HB2.out.trans (hb4.mono HB2.out.size))
        have HO := Lib.hid hwo
        clear hwo hb4 c0
        obtain ⟨w5, hw5⟩ : ∃ w5, w5 = w4.alloc (.cells #[.int .i64 q, .int .u8 (y0 : Int), .int .u8 (y1 : Int), .int .u8 (y2 : Int), .int .u8 (y3 : Int), .int .u8 (y4 : Int), .int .u8 (y5 : Int), .int .u8 (y6 : Int), .int .u8 (y7 : Int)] 27) := ⟨_, rfl⟩
        have hb5 : Below w4.heap.size w4 w5 := by rw [hw5]; exact (Below.refl _ w4).alloc (Nat.le_refl _) _
        have hg5 : w5.heap[w4.heap.size]? = some (.cells (wrv (q, [y0, y1, y2, y3, y4, y5, y6, y7])).toArray 27 (0, 0)) := by rw [hw5]; exact heap_alloc_new w4 _
        have HO5 := Lib.hid (HO.out.on hb5)
        have HD5 := Lib.hid (show ∀ j u, (wrv (q, [y0, y1, y2, y3, y4, y5, y6, y7]))[j]? = some u → w5.cell? ((⟨w4.heap.size, 0, none⟩ : Addr).add j) = some u from fun j u hu => by rw [Addr.add_lit]; exact row_cells0 hg5 j u hu)
        have HB14 := Lib.hid (HB1.out.trans (HB4.out.mono HB1.out.size))
        have HB5 := Lib.hid (HB14.out.trans (hb5.mono HB14.out.size))
        have HW5 := Lib.hid hw5
        have HL4 := Lib.hid (show w.heap.size ≤ w3.heap.size from (HB1.out.trans (HB2.out.mono HB1.out.size)).size)
        have HI := Lib.hid (show (Try.prog.info? 27).map (·.size) = some (wrv (q, [y0, y1, y2, y3, y4, y5, y6, y7])).length from write_infos hy.2.1)
        have HSo := Lib.hid (show ∀ v W, Own8 W w.heap.size (m ++ [(q, [y0, y1, y2, y3, y4, y5, y6, y7])]) v → w.heap.size ≤ W.heap.size → Calls Try.prog 16 #[v, .func (.func 17) #[] #[]] W fun e w' => e = .returned v ∧ Own8 w' w.heap.size (insW (q, [y0, y1, y2, y3, y4, y5, y6, y7]) m) v ∧ Below w.heap.size W w' from fun v W hv hs => sorted_dev w.heap.size m (q, [y0, y1, y2, y3, y4, y5, y6, y7]) v W hv HP.out HNo.out (fun x hx => by
          rcases List.mem_append.1 hx with hx | hx
          · exact HF.out x hx
          · rw [List.mem_singleton.1 hx]; exact hy) h7 hs)
        have HFi := Lib.hid (show WrFine (insW (q, [y0, y1, y2, y3, y4, y5, y6, y7]) m) from ins_fine hy HF.out)
        have HYl := Lib.hid hy.2.1
        have HM100 := Lib.hid (show m.length ≤ 100 by omega)
        clear hw5 hb5 hg5 hy
        have eS : ∀ args w, (callFunc 16 args).run Try.prog w = .ok (.enter 16 args) w := enters_of Try.func16 (by kernel_rfl) rfl
        go_wp2_with (first
          | (refine wpList_load_part rfl 27 _ rfl w.heap.size 0 rfl [.int .i64 q, .int .u8 (y0 : Int), .int .u8 (y1 : Int), .int .u8 (y2 : Int), .int .u8 (y3 : Int), .int .u8 (y4 : Int), .int .u8 (y5 : Int), .int .u8 (y6 : Int), .int .u8 (y7 : Int)] _ (HY.out _ HB4.out).2 Try.underlying27 rfl HI.out ?_)
          | (at_builtin; rw [← HW5.out]; refine append_wout rfl (.tmp 23) (.tmp 25) rfl m (q, [y0, y1, y2, y3, y4, y5, y6, y7]) _ rfl HO5.out HF.out HM100.out w.heap.size HL4.out HB5.out.size HB5.out _ 1 rfl HYl.out HD5.out ?_; intro v6 w6 hv6 hs6 hb6)
          | (go_at_fn 16; refine (HSo.out _ _ hv6 hs6).mono ?_; rintro e w7 ⟨rfl, hv7, hb7⟩))
        obtain ⟨A7, c7, e7, hw7⟩ := hv7.wrsv HFi.out
        subst e7
        go_ret2
        exact ⟨A7, c7, rfl, hw7, hb6.trans hb7⟩
end Go.Proofs.Ytipgphdndleodaa
