/-
  slices.insertionSortCmpFunc over writes.
-/
import Derived.Test.YtipgphdndleodaaODclos
namespace Go.Proofs.Ytipgphdndleodaa
set_option maxRecDepth 100000
open Go.RowKit
set_option maxRecDepth 100000

theorem wrv_cell (x : Int × List Nat) : ∀ u ∈ wrv x, u.oneCell' = true := by
  intro u hu
  rcases List.mem_cons.1 hu with rfl | hu
  · rfl
  · exact vals_one u hu
abbrev atL (L : List Wt) (j : Nat) : Wt := L.getD j (0, [])
def swL (L : List Wt) (j : Nat) : List Wt := L.take j ++ atL L (j + 1) :: atL L j :: L.drop (j + 2)
def insIn : Nat → List Wt → List Wt
  | 0, L => L
  | j + 1, L => if cmpI (atL L (j + 1)).1 (atL L j).1 < 0 then insIn j (swL L j) else L
def insOut : Nat → List Wt → List Wt
  | 0, L => L
  | k + 1, L => insOut k (insIn (L.length - (k + 1)) L)
theorem sw_length {L : List Wt} {j : Nat} (h : j + 1 < L.length) : (swL L j).length = L.length := by
  unfold swL
  simp only [List.length_append, List.length_cons, List.length_take, List.length_drop]
  omega
theorem atL_eq {L : List Wt} {j : Nat} (h : j < L.length) : atL L j = L[j] := by simp [atL, List.getD, h]
theorem atL_mem {L : List Wt} {j : Nat} (h : j < L.length) : atL L j ∈ L := by rw [atL_eq h]; exact List.getElem_mem h
theorem sw_fine {L : List Wt} {j : Nat} (h : j + 1 < L.length) (hf : WrFine L) : WrFine (swL L j) := by
  intro x hx
  unfold swL at hx
  rcases List.mem_append.1 hx with hx | hx
  · exact hf x (List.mem_of_mem_take hx)
  · rcases List.mem_cons.1 hx with rfl | hx
    · exact hf _ (atL_mem h)
    · rcases List.mem_cons.1 hx with rfl | hx
      · exact hf _ (atL_mem (by omega))
      · exact hf x (List.mem_of_mem_drop hx)
theorem two_split {L : List Wt} {j : Nat} (h : j + 1 < L.length) : L = L.take j ++ atL L j :: atL L (j + 1) :: L.drop (j + 2) := by
  rw [atL_eq h, atL_eq (by omega)]
  conv => lhs; rw [← List.take_append_drop j L, List.drop_eq_getElem_cons (by omega), List.drop_eq_getElem_cons (by omega)]
theorem flat_length {L : List Wt} (h : WrFine L) : (L.flatMap wrv).length = L.length * 9 := by
  induction L with
  | nil => rfl
  | cons x L ih =>
    rw [List.flatMap_cons, List.length_append, wrv_length (h x List.mem_cons_self).2.1, ih fun y hy => h y (List.mem_cons_of_mem _ hy), List.length_cons]
    omega
theorem flat_two {L : List Wt} {j : Nat} (h : j + 1 < L.length) (sp : List Value) : L.flatMap wrv ++ sp = (L.take j).flatMap wrv ++ (wrv (atL L j) ++ (wrv (atL L (j + 1)) ++ ((L.drop (j + 2)).flatMap wrv ++ sp))) := by
  conv => lhs; rw [two_split h]
  simp only [List.flatMap_append, List.flatMap_cons, List.append_assoc]
theorem flat_sw {L : List Wt} {j : Nat} (sp : List Value) : (swL L j).flatMap wrv ++ sp = (L.take j).flatMap wrv ++ (wrv (atL L (j + 1)) ++ (wrv (atL L j) ++ ((L.drop (j + 2)).flatMap wrv ++ sp))) := by
  unfold swL
  simp only [List.flatMap_append, List.flatMap_cons, List.append_assoc]
/-- the sort's row, and the box of its key -/
structure Srt (base : Nat) (w W : World) (g B : Nat) (sp : List Value) (L : List Wt) : Prop where
  row : W.heap[g]? = some (.cells (L.flatMap wrv ++ sp).toArray 27 (0, 0))
  key : KeyBox W B
  below : Below base w W
  le : base ≤ g
  ne : B ≠ g
/-- what stays of it while the row is written to -/
structure SrtG (base : Nat) (w W : World) (g B : Nat) : Prop where
  lt : g < W.heap.size
  key : KeyBox W B
  below : Below base w W
  le : base ≤ g
  ne : B ≠ g
theorem SrtG.grown {base g B : Nat} {w W W' : World} (h : SrtG base w W g B) (hg : W.grownBy W' (some g)) : SrtG base w W' g B :=
  ⟨Nat.lt_of_lt_of_le h.lt hg.size, h.key.keep hg.size (hg.block B h.key.1 (by have := h.ne; simpa using this)), h.below.grown hg (by have := h.le; have := h.lt; omega) (fun k hk => by cases hk; exact h.le), h.le, h.ne⟩
theorem Srt.g {base g B : Nat} {w W : World} {sp : List Value} {L : List Wt} (h : Srt base w W g B sp L) : SrtG base w W g B := ⟨(Array.getElem?_eq_some_iff.1 h.row).1, h.key, h.below, h.le, h.ne⟩
theorem Srt.on {base g B : Nat} {w W W' : World} {sp : List Value} {L : List Wt} (h : Srt base w W g B sp L) (hb : Below W.heap.size W W') : Srt base w W' g B sp L :=
  have hg : g < W.heap.size := (Array.getElem?_eq_some_iff.1 h.row).1
  ⟨(hb.block g hg).trans h.row, h.key.keep hb.size (hb.block B h.key.1), h.below.trans (hb.mono (by have := h.le; omega)), h.le, h.ne⟩
theorem Srt.turn {base g B : Nat} {w W W' : World} {sp : List Value} {L' : List Wt} (h : SrtG base w W g B) (hg : W.grownBy W' (some g)) (hr : W'.heap[g]? = some (.cells (L'.flatMap wrv ++ sp).toArray 27 (0, 0))) : Srt base w W' g B sp L' :=
  ⟨hr, (h.grown hg).key, (h.grown hg).below, h.le, h.ne⟩
theorem Srt.cells {base g B : Nat} {w W : World} {sp : List Value} {L : List Wt} (h : Srt base w W g B sp L) (hf : WrFine L) {p : Nat} (hp : p + 1 < L.length) :
    (∀ j u, (wrv (atL L (p + 1)))[j]? = some u → W.cell? ⟨g, (p + 1) * 9 + j, none⟩ = some u) ∧ ∀ j u, (wrv (atL L p))[j]? = some u → W.cell? ⟨g, p * 9 + j, none⟩ = some u := by
  have e := h.row
  rw [flat_two hp sp] at e
  have hl : ((L.take p).flatMap wrv).length = p * 9 := by rw [flat_length fun x hx => hf x (List.mem_of_mem_take hx), List.length_take]; congr 1; omega
  have hl2 : (wrv (atL L p)).length = 9 := wrv_length (hf _ (atL_mem (by omega))).2.1
  constructor
  · intro j u hu
    have hj := (List.getElem?_eq_some_iff.1 hu).1
    rw [cell_of_row W g _ _ _ _ e, List.getElem?_toArray, List.getElem?_append_right (by omega), List.getElem?_append_right (by omega), List.getElem?_append_left (by omega), ← hu]
    congr 1; omega
  · intro j u hu
    have hj := (List.getElem?_eq_some_iff.1 hu).1
    rw [cell_of_row W g _ _ _ _ e, List.getElem?_toArray, List.getElem?_append_right (by omega), List.getElem?_append_left (by omega), ← hu]
    congr 1; omega
set_option maxHeartbeats 4000000 in
theorem insertion_dev (base n cap g B : Nat) (sp : List Value) (L0 : List Wt) (w : World) (h : Srt base w w g B sp L0) (hn : L0.length = n) (h1 : 1 ≤ n) (h8 : n ≤ 1000) (hf : WrFine L0) :
    Calls Try.prog 31 #[.slice (some ⟨g, 0, none⟩) n cap, .int .i64 0, .int .i64 n, .func (.func 24) #[] #[.pointer (some ⟨B, 0, none⟩)]] w fun e w' => e = .returned (.tuple #[]) ∧ Srt base w w' g B sp (insOut (n - 1) L0) := by
  have eg : ∀ args w, (callFunc 24 args).run Try.prog w = .ok (.enter 24 args) w := enters_of Try.func24 (by kernel_rfl) rfl
  have HS0 := Lib.hid h
  have HF0 := Lib.hid hf
  have HN := Lib.hid hn
  clear h hf hn
  go_enter Try.func31, Try.ntmps31
  go_wp2
  go_loopw [8] (fun i wr => ∃ (k : Nat) (L : List Wt), 1 ≤ k ∧ k ≤ n ∧ i = .int .i64 (k : Int) ∧ L.length = n ∧ WrFine L ∧ Srt base w wr g B sp L ∧ insOut (n - k) L = insOut (n - 1) L0) (fun i _ => n - (intOf i).toNat)
  case atStart => exact ⟨1, L0, Nat.le_refl _, h1, rfl, HN.out, HF0.out, HS0.out, rfl⟩
  case round =>
    obtain ⟨k, L, hk1, hkn, rfl, hL, hfL, hs, hout⟩ := hrel
    by_cases hlt : k < n
    · have hki : (k : Int) < (n : Int) := by omega
      have HOut := Lib.hid hout
      have HS := Lib.hid hs
      have HFL := Lib.hid hfL
      have HL := Lib.hid hL
      have HNext := Lib.hid (show ∀ M, M = insIn k L → insOut (n - (k + 1)) M = insOut (n - 1) L0 from fun M hM => by
        rw [← hout, hM, show n - k = (n - (k + 1)) + 1 by omega, insOut, hL]
        congr 2; omega)
      clear hout hs hfL hL
      go_wp2
      go_loopw [9] (fun j wr2 => ∃ (q : Nat) (M : List Wt), q ≤ k ∧ j = .int .i64 (q : Int) ∧ M.length = n ∧ WrFine M ∧ Srt base w wr2 g B sp M ∧ insIn q M = insIn k L) (fun j _ => (intOf j).toNat)
      case atStart => exact ⟨k, L, Nat.le_refl _, rfl, HL.out, HFL.out, HS.out, rfl⟩
      case round =>
        obtain ⟨q, M, hqk, rfl, hM, hfM, hs2, hin⟩ := hrel
        by_cases hq : 0 < q
        · obtain ⟨p, rfl⟩ : ∃ p, q = p + 1 := ⟨q - 1, by omega⟩
          have hpn : p + 1 < M.length := by omega
          have hx := (hfM _ (atL_mem hpn)).2.1
          have hy := (hfM _ (atL_mem (show p < M.length by omega))).2.1
          have HC := Lib.hid (show ∀ W, Below wr.heap.size wr W → (∀ j u, (wrv (atL M (p + 1)))[j]? = some u → W.cell? ⟨g, (p + 1) * 9 + j, none⟩ = some u) ∧ ∀ j u, (wrv (atL M p))[j]? = some u → W.cell? ⟨g, p * 9 + j, none⟩ = some u from fun W hW => (hs2.on hW).cells hfM hpn)
          have HCall := Lib.hid (show ∀ W, Below wr.heap.size wr W → Calls Try.prog 24 #[.agg (wrv (atL M (p + 1))).toArray, .agg (wrv (atL M p)).toArray, .pointer (some ⟨B, 0, none⟩)] W fun e w' => e = .returned (.int .i64 (cmpI (atL M (p + 1)).1 (atL M p).1)) ∧ Below W.heap.size W w' from fun W hW => sorted1_dev _ _ hx hy B W (hs2.on hW).key)
          have HI1 := Lib.hid (write_infos hx)
          have HI2 := Lib.hid (write_infos hy)
          have HS2 := Lib.hid hs2
          have HIn := Lib.hid hin
          have HFM := Lib.hid hfM
          have HM := Lib.hid hM
          have HStep := Lib.hid (show insIn (p + 1) M = if cmpI (atL M (p + 1)).1 (atL M p).1 < 0 then insIn p (swL M p) else M from rfl)
          have HTwo := Lib.hid (flat_two hpn sp)
          have HSw := Lib.hid (flat_sw (L := M) (j := p) sp)
          have HPl := Lib.hid (show ((M.take p).flatMap wrv).length = p * 9 by rw [flat_length fun x hx => hfM x (List.mem_of_mem_take hx), List.length_take]; congr 1; omega)
          have HXl := Lib.hid (wrv_length hx)
          have HYl := Lib.hid (wrv_length hy)
          have HSf := Lib.hid (sw_fine hpn hfM)
          have HSl := Lib.hid ((sw_length hpn).trans hM)
          clear hx hy hs2 hin hfM hM hpn
          have hXY : ∀ W, Srt base w W g B sp M → (∀ j u, (wrv (atL M (p + 1)))[j]? = some u → W.cell? ⟨g, (p + 1) * 9 + j, none⟩ = some u) ∧ ∀ j u, (wrv (atL M p))[j]? = some u → W.cell? ⟨g, p * 9 + j, none⟩ = some u := fun W hW => hW.cells HFM.out (by rw [HM.out]; omega)
          have HXY := Lib.hid hXY
          clear hXY
          generalize atL M (p + 1) = x at *
          generalize atL M p = y at *
          rw [show ((p + 1 : Nat) : Int) = (p : Int) + 1 from by omega]
          have hq0 : (0 : Int) < (p : Int) + 1 := by omega
          have hq00 : (0 : Int) ≤ (p : Int) + 1 := by omega
          have hq01 : (0 : Int) ≤ (p : Int) := by omega
          have hqn : (p : Int) + 1 < (n : Int) := by omega
          have hpn : (p : Int) < (n : Int) := by omega
          have hw1 : IntKind.i64.wrap ((p : Int) + 1 - 1) = (p : Int) := by rw [IntKind.wrap_i64]; omega
          have hw2 : IntKind.i64.wrap (p : Int) = (p : Int) := by rw [IntKind.wrap_i64]; omega
          generalize cmpI x.1 y.1 = r at *
          go_wp2_with fail
          refine wp_region_held_drew (S := fun W => (∀ j u, (wrv x)[j]? = some u → W.cell? ⟨g, (p + 1) * 9 + j, none⟩ = some u) ∧ ∀ j u, (wrv y)[j]? = some u → W.cell? ⟨g, p * 9 + j, none⟩ = some u) (by kernel_rfl) (HC.out _ (Below.refl _ _).drew) (fun hHeld => ?_)
          refine wpAnyH_take (i := 0) (v := ?_) rfl (by kernel_rfl) (by kernel_rfl) (by kernel_rfl) (fun _ _ _ h => h) (Or.inl ⟨by rfl, ?_⟩) (by assumption) ?_
          rotate_left
          · simp only [List.getElem_toArray, List.getElem_cons_zero, List.getElem_cons_succ]; intro W hSw; (try dsimp only at hSw); go_simp; all_goals with_reducible rfl
          simp only [Act.put, List.getElem_toArray, List.getElem_cons_zero, List.getElem_cons_succ, List.setIfInBounds_toArray, List.set_cons_zero, List.set_cons_succ]
          refine wpAnyH_take (i := 1) (v := ?_) rfl (by kernel_rfl) (by kernel_rfl) (by kernel_rfl) (fun _ _ _ h => h) (Or.inl ⟨by rfl, ?_⟩) (by assumption) ?_
          rotate_left
          · simp only [List.getElem_toArray, List.getElem_cons_zero, List.getElem_cons_succ]; intro W hSw; (try dsimp only at hSw); go_simp; all_goals with_reducible rfl
          simp only [Act.put, List.getElem_toArray, List.getElem_cons_zero, List.getElem_cons_succ, List.setIfInBounds_toArray, List.set_cons_zero, List.set_cons_succ]
          refine wpAnyH_take (i := 2) (v := ?_) rfl (by kernel_rfl) (by kernel_rfl) (by kernel_rfl) (fun _ _ _ h => h) (Or.inl ⟨by rfl, ?_⟩) (by assumption) ?_
          rotate_left
          · simp only [List.getElem_toArray, List.getElem_cons_zero, List.getElem_cons_succ]; intro W hSw; (try dsimp only at hSw); go_simp; all_goals with_reducible rfl
          simp only [Act.put, List.getElem_toArray, List.getElem_cons_zero, List.getElem_cons_succ, List.setIfInBounds_toArray, List.set_cons_zero, List.set_cons_succ]
          refine wpAnyH_take (i := 3) (v := ?_) rfl (by kernel_rfl) (by kernel_rfl) (by kernel_rfl) (fun _ _ _ h => h) (Or.inl ⟨by rfl, ?_⟩) (by assumption) ?_
          rotate_left
          · simp only [List.getElem_toArray, List.getElem_cons_zero, List.getElem_cons_succ]; intro W hSw; (try dsimp only at hSw); go_simp; all_goals with_reducible rfl
          simp only [Act.put, List.getElem_toArray, List.getElem_cons_zero, List.getElem_cons_succ, List.setIfInBounds_toArray, List.set_cons_zero, List.set_cons_succ]
          refine wpAnyH_take (i := 4) (v := ?_) rfl (by kernel_rfl) (by kernel_rfl) (by kernel_rfl) (fun _ _ _ h => h) (Or.inl ⟨by rfl, ?_⟩) (by assumption) ?_
          rotate_left
          · simp only [List.getElem_toArray, List.getElem_cons_zero, List.getElem_cons_succ]; intro W hSw; (try dsimp only at hSw); go_simp; all_goals with_reducible rfl
          simp only [Act.put, List.getElem_toArray, List.getElem_cons_zero, List.getElem_cons_succ, List.setIfInBounds_toArray, List.set_cons_zero, List.set_cons_succ]
          refine wpAnyH_take (i := 5) (v := ?_) rfl (by kernel_rfl) (by kernel_rfl) (by kernel_rfl) (fun _ _ _ h => h) (Or.inl ⟨by rfl, ?_⟩) (by assumption) ?_
          rotate_left
          · simp only [List.getElem_toArray, List.getElem_cons_zero, List.getElem_cons_succ]; intro W hSw; (try dsimp only at hSw); go_simp; all_goals with_reducible rfl
          simp only [Act.put, List.getElem_toArray, List.getElem_cons_zero, List.getElem_cons_succ, List.setIfInBounds_toArray, List.set_cons_zero, List.set_cons_succ]
          refine wpAnyH_take (i := 6) (v := ?_) rfl (by kernel_rfl) (by kernel_rfl) (by kernel_rfl) (fun _ _ _ h => h) (Or.inl ⟨by rfl, ?_⟩) (by assumption) ?_
          rotate_left
          · simp only [List.getElem_toArray, List.getElem_cons_zero, List.getElem_cons_succ]; intro W hSw; (try dsimp only at hSw); go_simp; all_goals with_reducible rfl
          simp only [Act.put, List.getElem_toArray, List.getElem_cons_zero, List.getElem_cons_succ, List.setIfInBounds_toArray, List.set_cons_zero, List.set_cons_succ]
          refine wpAnyH_take (i := 7) (v := ?_) rfl (by kernel_rfl) (by kernel_rfl) (by kernel_rfl) (fun _ _ _ h => h) (Or.inl ⟨by rfl, ?_⟩) (by assumption) ?_
          rotate_left
          · simp only [List.getElem_toArray, List.getElem_cons_zero, List.getElem_cons_succ]; intro W hSw; (try dsimp only at hSw); go_simp; all_goals with_reducible rfl
          simp only [Act.put, List.getElem_toArray, List.getElem_cons_zero, List.getElem_cons_succ, List.setIfInBounds_toArray, List.set_cons_zero, List.set_cons_succ]
          refine wpAnyH_take (i := 8) (v := ?_) rfl (by kernel_rfl) (by kernel_rfl) (by kernel_rfl) (fun _ _ _ h => h) (Or.inl ⟨by rfl, ?_⟩) (by assumption) ?_
          rotate_left
          · simp only [List.getElem_toArray, List.getElem_cons_zero, List.getElem_cons_succ]; intro W hSw; (try dsimp only at hSw); refine exec_load_part 27 (.tmp 25) ?_ g ((p + 1) * 9) ?_ (wrv x) _ hSw.1 Try.underlying27 ?_ HI1.out <;> rfl
          simp only [Act.put, List.getElem_toArray, List.getElem_cons_zero, List.getElem_cons_succ, List.setIfInBounds_toArray, List.set_cons_zero, List.set_cons_succ]
          refine wpAnyH_take (i := 9) (v := ?_) rfl (by kernel_rfl) (by kernel_rfl) (by kernel_rfl) (fun _ _ _ h => h) (Or.inl ⟨by rfl, ?_⟩) (by assumption) ?_
          rotate_left
          · simp only [List.getElem_toArray, List.getElem_cons_zero, List.getElem_cons_succ]; intro W hSw; (try dsimp only at hSw); go_simp; all_goals with_reducible rfl
          simp only [Act.put, List.getElem_toArray, List.getElem_cons_zero, List.getElem_cons_succ, List.setIfInBounds_toArray, List.set_cons_zero, List.set_cons_succ]
          refine wpAnyH_take (i := 10) (v := ?_) rfl (by kernel_rfl) (by kernel_rfl) (by kernel_rfl) (fun _ _ _ h => h) (Or.inl ⟨by rfl, ?_⟩) (by assumption) ?_
          rotate_left
          · simp only [List.getElem_toArray, List.getElem_cons_zero, List.getElem_cons_succ]; intro W hSw; (try dsimp only at hSw); go_simp; all_goals with_reducible rfl
          simp only [Act.put, List.getElem_toArray, List.getElem_cons_zero, List.getElem_cons_succ, List.setIfInBounds_toArray, List.set_cons_zero, List.set_cons_succ]
          refine wpAnyH_take (i := 11) (v := ?_) rfl (by kernel_rfl) (by kernel_rfl) (by kernel_rfl) (fun _ _ _ h => h) (Or.inl ⟨by rfl, ?_⟩) (by assumption) ?_
          rotate_left
          · simp only [List.getElem_toArray, List.getElem_cons_zero, List.getElem_cons_succ]; intro W hSw; (try dsimp only at hSw); go_simp; all_goals with_reducible rfl
          simp only [Act.put, List.getElem_toArray, List.getElem_cons_zero, List.getElem_cons_succ, List.setIfInBounds_toArray, List.set_cons_zero, List.set_cons_succ]
          refine wpAnyH_take (i := 12) (v := ?_) rfl (by kernel_rfl) (by kernel_rfl) (by kernel_rfl) (fun _ _ _ h => h) (Or.inl ⟨by rfl, ?_⟩) (by assumption) ?_
          rotate_left
          · simp only [List.getElem_toArray, List.getElem_cons_zero, List.getElem_cons_succ]; intro W hSw; (try dsimp only at hSw); go_simp; all_goals with_reducible rfl
          simp only [Act.put, List.getElem_toArray, List.getElem_cons_zero, List.getElem_cons_succ, List.setIfInBounds_toArray, List.set_cons_zero, List.set_cons_succ]
          refine wpAnyH_take (i := 13) (v := ?_) rfl (by kernel_rfl) (by kernel_rfl) (by kernel_rfl) (fun _ _ _ h => h) (Or.inl ⟨by rfl, ?_⟩) (by assumption) ?_
          rotate_left
          · simp only [List.getElem_toArray, List.getElem_cons_zero, List.getElem_cons_succ]; intro W hSw; (try dsimp only at hSw); refine exec_load_part 27 (.tmp 30) ?_ g (p * 9) ?_ (wrv y) _ hSw.2 Try.underlying27 ?_ HI2.out <;> rfl
          simp only [Act.put, List.getElem_toArray, List.getElem_cons_zero, List.getElem_cons_succ, List.setIfInBounds_toArray, List.set_cons_zero, List.set_cons_succ]
          refine wpAnyH_ready (rs := [14]) (by kernel_rfl) (by simp) ?_
          refine AllReadyH.cons rfl (fun K hK => ?_) AllReadyH.nil
          simp only [List.getElem_toArray, List.getElem_cons_zero, List.getElem_cons_succ]
          go_simp
          refine (HCall.out _ (Below.refl _ _).drew).mono ?_
          rintro e w2 ⟨rfl, hb2⟩
          have hb2' : Below wr.heap.size wr w2 := (Below.refl _ wr).drew.trans hb2
          go_wp2_with fail
          refine hK.out _ _ (HC.out _ hb2') (fun hHeldN => ?_)
          clear hK K hHeld
          have hHeld := hHeldN
          clear hHeldN
          (try simp only [Act.put, List.getElem_toArray, List.getElem_cons_zero, List.getElem_cons_succ, List.setIfInBounds_toArray, List.set_cons_zero, List.set_cons_succ])
          by_cases hr : r < 0
          · refine wpAnyH_take (i := 15) (v := ?_) rfl (by kernel_rfl) (by kernel_rfl) (by kernel_rfl) (fun _ _ _ h => h) (Or.inl ⟨by rfl, ?_⟩) (by assumption) ?_
            rotate_left
            · simp only [List.getElem_toArray, List.getElem_cons_zero, List.getElem_cons_succ]; intro W hSw; (try dsimp only at hSw); go_simp; all_goals with_reducible rfl
            simp only [Act.put, List.getElem_toArray, List.getElem_cons_zero, List.getElem_cons_succ, List.setIfInBounds_toArray, List.set_cons_zero, List.set_cons_succ]
            refine wpAnyH_take (i := 16) (v := ?_) rfl (by kernel_rfl) (by kernel_rfl) (by kernel_rfl) (fun _ _ _ h => h) (Or.inl ⟨by rfl, ?_⟩) (by assumption) ?_
            rotate_left
            · simp only [List.getElem_toArray, List.getElem_cons_zero, List.getElem_cons_succ]; intro W hSw; (try dsimp only at hSw); go_simp; all_goals with_reducible rfl
            simp only [Act.put, List.getElem_toArray, List.getElem_cons_zero, List.getElem_cons_succ, List.setIfInBounds_toArray, List.set_cons_zero, List.set_cons_succ]
            refine wpAnyH_done (by kernel_rfl) ?_ _
            go_wp2_with fail
            have hs3 := (HS2.out.on hb2').on (Below.refl w2.heap.size w2).drew
            refine wp_region_held_drew (S := fun _ => True) (by kernel_rfl) trivial (fun hHeld => ?_)
            generalize w2.drew = w3 at *
            have HC3 := Lib.hid (HXY.out _ hs3)
            have hr3 := hs3.row
            rw [HTwo.out] at hr3
            have HS3 := Lib.hid hs3
            have HPl := Lib.hid HPl.out
            have HSw := Lib.hid HSw.out
            obtain ⟨PRE, hPRE⟩ : ∃ PRE, PRE = (M.take p).flatMap wrv := ⟨_, rfl⟩
            obtain ⟨POST, hPOST⟩ : ∃ POST, POST = (M.drop (p + 2)).flatMap wrv ++ sp := ⟨_, rfl⟩
            rw [← hPRE, ← hPOST] at hr3 HSw
            rw [← hPRE] at HPl
            rw [← List.append_assoc, ← List.append_assoc] at hr3
            have HR4 := Lib.hid hr3
            clear hs3 hr3 hPRE hPOST
            refine wpAnyH_take (i := 0) (v := ?_) rfl (by kernel_rfl) (by kernel_rfl) (by kernel_rfl) (fun _ _ _ h => h) (Or.inl ⟨by rfl, ?_⟩) (by assumption) ?_
            rotate_left
            · simp only [List.getElem_toArray, List.getElem_cons_zero, List.getElem_cons_succ]; intro W hSw; (try dsimp only at hSw); go_simp; all_goals with_reducible rfl
            simp only [Act.put, List.getElem_toArray, List.getElem_cons_zero, List.getElem_cons_succ, List.setIfInBounds_toArray, List.set_cons_zero, List.set_cons_succ]
            refine wpAnyH_take (i := 1) (v := ?_) rfl (by kernel_rfl) (by kernel_rfl) (by kernel_rfl) (fun _ _ _ h => h) (Or.inl ⟨by rfl, ?_⟩) (by assumption) ?_
            rotate_left
            · simp only [List.getElem_toArray, List.getElem_cons_zero, List.getElem_cons_succ]; intro W hSw; (try dsimp only at hSw); go_simp; all_goals with_reducible rfl
            simp only [Act.put, List.getElem_toArray, List.getElem_cons_zero, List.getElem_cons_succ, List.setIfInBounds_toArray, List.set_cons_zero, List.set_cons_succ]
            refine wpAnyH_take (i := 2) (v := ?_) rfl (by kernel_rfl) (by kernel_rfl) (by kernel_rfl) (fun _ _ _ h => h) (Or.inl ⟨by rfl, ?_⟩) (by assumption) ?_
            rotate_left
            · simp only [List.getElem_toArray, List.getElem_cons_zero, List.getElem_cons_succ]; intro W hSw; (try dsimp only at hSw); go_simp; all_goals with_reducible rfl
            simp only [Act.put, List.getElem_toArray, List.getElem_cons_zero, List.getElem_cons_succ, List.setIfInBounds_toArray, List.set_cons_zero, List.set_cons_succ]
            refine wpAnyH_take (i := 3) (v := ?_) rfl (by kernel_rfl) (by kernel_rfl) (by kernel_rfl) (fun _ _ _ h => h) (Or.inl ⟨by rfl, ?_⟩) (by assumption) ?_
            rotate_left
            · simp only [List.getElem_toArray, List.getElem_cons_zero, List.getElem_cons_succ]; intro W hSw; (try dsimp only at hSw); go_simp; all_goals with_reducible rfl
            simp only [Act.put, List.getElem_toArray, List.getElem_cons_zero, List.getElem_cons_succ, List.setIfInBounds_toArray, List.set_cons_zero, List.set_cons_succ]
            refine wpAnyH_take (i := 4) (v := ?_) rfl (by kernel_rfl) (by kernel_rfl) (by kernel_rfl) (fun _ _ _ h => h) (Or.inl ⟨by rfl, ?_⟩) (by assumption) ?_
            rotate_left
            · simp only [List.getElem_toArray, List.getElem_cons_zero, List.getElem_cons_succ]; intro W hSw; (try dsimp only at hSw); go_simp; all_goals with_reducible rfl
            simp only [Act.put, List.getElem_toArray, List.getElem_cons_zero, List.getElem_cons_succ, List.setIfInBounds_toArray, List.set_cons_zero, List.set_cons_succ]
            refine wpAnyH_take (i := 5) (v := ?_) rfl (by kernel_rfl) (by kernel_rfl) (by kernel_rfl) (fun _ _ _ h => h) (Or.inl ⟨by rfl, ?_⟩) (by assumption) ?_
            rotate_left
            · simp only [List.getElem_toArray, List.getElem_cons_zero, List.getElem_cons_succ]; intro W hSw; (try dsimp only at hSw); go_simp; all_goals with_reducible rfl
            simp only [Act.put, List.getElem_toArray, List.getElem_cons_zero, List.getElem_cons_succ, List.setIfInBounds_toArray, List.set_cons_zero, List.set_cons_succ]
            refine wpAnyH_take (i := 6) (v := ?_) rfl (by kernel_rfl) (by kernel_rfl) (by kernel_rfl) (fun _ _ _ h => h) (Or.inl ⟨by rfl, ?_⟩) (by assumption) ?_
            rotate_left
            · simp only [List.getElem_toArray, List.getElem_cons_zero, List.getElem_cons_succ]; intro W hSw; (try dsimp only at hSw); go_simp; all_goals with_reducible rfl
            simp only [Act.put, List.getElem_toArray, List.getElem_cons_zero, List.getElem_cons_succ, List.setIfInBounds_toArray, List.set_cons_zero, List.set_cons_succ]
            refine wpAnyH_take (i := 7) (v := ?_) rfl (by kernel_rfl) (by kernel_rfl) (by kernel_rfl) (fun _ _ _ h => h) (Or.inl ⟨by rfl, ?_⟩) (by assumption) ?_
            rotate_left
            · simp only [List.getElem_toArray, List.getElem_cons_zero, List.getElem_cons_succ]; intro W hSw; (try dsimp only at hSw); go_simp; all_goals with_reducible rfl
            simp only [Act.put, List.getElem_toArray, List.getElem_cons_zero, List.getElem_cons_succ, List.setIfInBounds_toArray, List.set_cons_zero, List.set_cons_succ]
            refine wpAnyH_take (i := 8) (v := ?_) rfl (by kernel_rfl) (by kernel_rfl) (by kernel_rfl) (fun _ _ _ h => h) (Or.inl ⟨by rfl, ?_⟩) (by assumption) ?_
            rotate_left
            · simp only [List.getElem_toArray, List.getElem_cons_zero, List.getElem_cons_succ]; intro W hSw; (try dsimp only at hSw); go_simp; all_goals with_reducible rfl
            simp only [Act.put, List.getElem_toArray, List.getElem_cons_zero, List.getElem_cons_succ, List.setIfInBounds_toArray, List.set_cons_zero, List.set_cons_succ]
            refine wpAnyH_take (i := 10) (v := ?_) rfl (by kernel_rfl) (by kernel_rfl) (by kernel_rfl) (fun _ _ _ h => h) (Or.inl ⟨by rfl, ?_⟩) (by assumption) ?_
            rotate_left
            · simp only [List.getElem_toArray, List.getElem_cons_zero, List.getElem_cons_succ]; intro W hSw; (try dsimp only at hSw); go_simp; all_goals with_reducible rfl
            simp only [Act.put, List.getElem_toArray, List.getElem_cons_zero, List.getElem_cons_succ, List.setIfInBounds_toArray, List.set_cons_zero, List.set_cons_succ]
            refine wpAnyH_take (i := 11) (v := ?_) rfl (by kernel_rfl) (by kernel_rfl) (by kernel_rfl) (fun _ _ _ h => h) (Or.inl ⟨by rfl, ?_⟩) (by assumption) ?_
            rotate_left
            · simp only [List.getElem_toArray, List.getElem_cons_zero, List.getElem_cons_succ]; intro W hSw; (try dsimp only at hSw); go_simp; all_goals with_reducible rfl
            simp only [Act.put, List.getElem_toArray, List.getElem_cons_zero, List.getElem_cons_succ, List.setIfInBounds_toArray, List.set_cons_zero, List.set_cons_succ]
            refine wpAnyH_take (i := 12) (v := ?_) rfl (by kernel_rfl) (by kernel_rfl) (by kernel_rfl) (fun _ _ _ h => h) (Or.inl ⟨by rfl, ?_⟩) (by assumption) ?_
            rotate_left
            · simp only [List.getElem_toArray, List.getElem_cons_zero, List.getElem_cons_succ]; intro W hSw; (try dsimp only at hSw); go_simp; all_goals with_reducible rfl
            simp only [Act.put, List.getElem_toArray, List.getElem_cons_zero, List.getElem_cons_succ, List.setIfInBounds_toArray, List.set_cons_zero, List.set_cons_succ]
            refine wpAnyH_ready (rs := [9, 13]) (by kernel_rfl) (by simp) ?_
            refine AllReadyH.cons rfl (fun K hK => ?_) (AllReadyH.cons rfl (fun K hK => ?_) AllReadyH.nil)
            · simp only [List.getElem_toArray, List.getElem_cons_zero, List.getElem_cons_succ]
              refine wp_load_part 27 (.tmp 45) rfl g (p * 9) rfl (wrv y) _ HC3.out.2 Try.underlying27 rfl HI2.out ?_
              refine hK.out _ _ (trivial) (fun hHeldN => ?_)
              clear hK K hHeld
              have hHeld := hHeldN
              clear hHeldN
              (try simp only [Act.put, List.getElem_toArray, List.getElem_cons_zero, List.getElem_cons_succ, List.setIfInBounds_toArray, List.set_cons_zero, List.set_cons_succ])
              refine wpAnyH_ready (rs := [13]) (by kernel_rfl) (by simp) ?_
              refine AllReadyH.cons rfl (fun K hK => ?_) AllReadyH.nil
              simp only [List.getElem_toArray, List.getElem_cons_zero, List.getElem_cons_succ]
              refine wp_load_part 27 (.tmp 49) rfl g ((p + 1) * 9) rfl (wrv x) _ HC3.out.1 Try.underlying27 rfl HI1.out ?_
              refine hK.out _ _ (trivial) (fun hHeldN => ?_)
              clear hK K hHeld
              have hHeld := hHeldN
              clear hHeldN
              (try simp only [Act.put, List.getElem_toArray, List.getElem_cons_zero, List.getElem_cons_succ, List.setIfInBounds_toArray, List.set_cons_zero, List.set_cons_succ])
              refine wpAnyH_take (i := 14) (v := ?_) rfl (by kernel_rfl) (by kernel_rfl) (by kernel_rfl) (fun _ _ _ h => h) (Or.inl ⟨by rfl, ?_⟩) (by assumption) ?_
              rotate_left
              · simp only [List.getElem_toArray, List.getElem_cons_zero, List.getElem_cons_succ]; intro W hSw; (try dsimp only at hSw); go_simp; all_goals with_reducible rfl
              simp only [Act.put, List.getElem_toArray, List.getElem_cons_zero, List.getElem_cons_succ, List.setIfInBounds_toArray, List.set_cons_zero, List.set_cons_succ]
              refine wpAnyH_ready (rs := [15]) (by kernel_rfl) (by simp) ?_
              refine AllReadyH.cons rfl (fun K hK => ?_) AllReadyH.nil
              simp only [List.getElem_toArray, List.getElem_cons_zero, List.getElem_cons_succ]
              rw [if_pos]
              rotate_left
              · simp [Region.wanted]
              refine wp_store_part 27 (.tmp 51) (.tmp 46) rfl g ((p + 1) * 9) rfl (wrv y) rfl 27 (PRE ++ wrv y) (wrv x) POST HR4.out (by rw [List.length_append, HPl.out, HYl.out]; omega) (HXl.out.trans HYl.out.symm) HI2.out (wrv_cell y) ?_
              have hr5 := setRow_heap w3 g _ ((PRE ++ wrv y) ++ wrv y ++ POST).toArray _ _ HR4.out
              have HK5 := Lib.hid (grown_setRow w3 g ((PRE ++ wrv y) ++ wrv y ++ POST).toArray)
              refine hK.out _ _ (trivial) (fun hHeldN => ?_)
              clear hK K hHeld
              have hHeld := hHeldN
              clear hHeldN
              (try simp only [Act.put, List.getElem_toArray, List.getElem_cons_zero, List.getElem_cons_succ, List.setIfInBounds_toArray, List.set_cons_zero, List.set_cons_succ])
              generalize w3.setRow g ((PRE ++ wrv y) ++ wrv y ++ POST).toArray = w5 at *
              refine wpAnyH_take (i := 16) (v := ?_) rfl (by kernel_rfl) (by kernel_rfl) (by kernel_rfl) (fun _ _ _ h => h) (Or.inl ⟨by rfl, ?_⟩) (by assumption) ?_
              rotate_left
              · simp only [List.getElem_toArray, List.getElem_cons_zero, List.getElem_cons_succ]; intro W hSw; (try dsimp only at hSw); go_simp; all_goals with_reducible rfl
              simp only [Act.put, List.getElem_toArray, List.getElem_cons_zero, List.getElem_cons_succ, List.setIfInBounds_toArray, List.set_cons_zero, List.set_cons_succ]
              refine wpAnyH_ready (rs := [17]) (by kernel_rfl) (by simp) ?_
              refine AllReadyH.cons rfl (fun K hK => ?_) AllReadyH.nil
              simp only [List.getElem_toArray, List.getElem_cons_zero, List.getElem_cons_succ]
              rw [if_pos]
              rotate_left
              · simp [Region.wanted]
              rw [List.append_assoc PRE, List.append_assoc PRE] at hr5
              rw [List.append_assoc (wrv y)] at hr5
              rw [← List.append_assoc PRE] at hr5
              refine wp_store_part 27 (.tmp 52) (.tmp 50) rfl g (p * 9) rfl (wrv x) rfl 27 PRE (wrv y) (wrv y ++ POST) hr5 HPl.out (HYl.out.trans HXl.out.symm) HI1.out (wrv_cell x) ?_
              have hr6 := setRow_heap w5 g _ (PRE ++ wrv x ++ (wrv y ++ POST)).toArray _ _ hr5
              have HK6 := Lib.hid (grown_setRow w5 g (PRE ++ wrv x ++ (wrv y ++ POST)).toArray)
              refine hK.out _ _ (trivial) (fun hHeldN => ?_)
              clear hK K hHeld
              have hHeld := hHeldN
              clear hHeldN
              (try simp only [Act.put, List.getElem_toArray, List.getElem_cons_zero, List.getElem_cons_succ, List.setIfInBounds_toArray, List.set_cons_zero, List.set_cons_succ])
              generalize w5.setRow g (PRE ++ wrv x ++ (wrv y ++ POST)).toArray = w6 at *
              refine wpAnyH_done (by kernel_rfl) ?_ _
              go_wp2_with fail
              have hs6 : Srt base w w6 g B sp (swL M p) := Srt.turn (HS3.out.g.grown HK5.out) HK6.out (by rw [hr6, HSw.out, List.append_assoc])
              go_roundw
              case rel => exact ⟨p, swL M p, by omega, rfl, HSl.out, HSf.out, hs6, by rw [← HIn.out, HStep.out, if_pos hr]⟩
              case measure => simp [intOf]
            · simp only [List.getElem_toArray, List.getElem_cons_zero, List.getElem_cons_succ]
              refine wp_load_part 27 (.tmp 49) rfl g ((p + 1) * 9) rfl (wrv x) _ HC3.out.1 Try.underlying27 rfl HI1.out ?_
              refine hK.out _ _ (trivial) (fun hHeldN => ?_)
              clear hK K hHeld
              have hHeld := hHeldN
              clear hHeldN
              (try simp only [Act.put, List.getElem_toArray, List.getElem_cons_zero, List.getElem_cons_succ, List.setIfInBounds_toArray, List.set_cons_zero, List.set_cons_succ])
              refine wpAnyH_ready (rs := [9]) (by kernel_rfl) (by simp) ?_
              refine AllReadyH.cons rfl (fun K hK => ?_) AllReadyH.nil
              simp only [List.getElem_toArray, List.getElem_cons_zero, List.getElem_cons_succ]
              refine wp_load_part 27 (.tmp 45) rfl g (p * 9) rfl (wrv y) _ HC3.out.2 Try.underlying27 rfl HI2.out ?_
              refine hK.out _ _ (trivial) (fun hHeldN => ?_)
              clear hK K hHeld
              have hHeld := hHeldN
              clear hHeldN
              (try simp only [Act.put, List.getElem_toArray, List.getElem_cons_zero, List.getElem_cons_succ, List.setIfInBounds_toArray, List.set_cons_zero, List.set_cons_succ])
              refine wpAnyH_take (i := 14) (v := ?_) rfl (by kernel_rfl) (by kernel_rfl) (by kernel_rfl) (fun _ _ _ h => h) (Or.inl ⟨by rfl, ?_⟩) (by assumption) ?_
              rotate_left
              · simp only [List.getElem_toArray, List.getElem_cons_zero, List.getElem_cons_succ]; intro W hSw; (try dsimp only at hSw); go_simp; all_goals with_reducible rfl
              simp only [Act.put, List.getElem_toArray, List.getElem_cons_zero, List.getElem_cons_succ, List.setIfInBounds_toArray, List.set_cons_zero, List.set_cons_succ]
              refine wpAnyH_ready (rs := [15]) (by kernel_rfl) (by simp) ?_
              refine AllReadyH.cons rfl (fun K hK => ?_) AllReadyH.nil
              simp only [List.getElem_toArray, List.getElem_cons_zero, List.getElem_cons_succ]
              rw [if_pos]
              rotate_left
              · simp [Region.wanted]
              refine wp_store_part 27 (.tmp 51) (.tmp 46) rfl g ((p + 1) * 9) rfl (wrv y) rfl 27 (PRE ++ wrv y) (wrv x) POST HR4.out (by rw [List.length_append, HPl.out, HYl.out]; omega) (HXl.out.trans HYl.out.symm) HI2.out (wrv_cell y) ?_
              have hr5 := setRow_heap w3 g _ ((PRE ++ wrv y) ++ wrv y ++ POST).toArray _ _ HR4.out
              have HK5 := Lib.hid (grown_setRow w3 g ((PRE ++ wrv y) ++ wrv y ++ POST).toArray)
              refine hK.out _ _ (trivial) (fun hHeldN => ?_)
              clear hK K hHeld
              have hHeld := hHeldN
              clear hHeldN
              (try simp only [Act.put, List.getElem_toArray, List.getElem_cons_zero, List.getElem_cons_succ, List.setIfInBounds_toArray, List.set_cons_zero, List.set_cons_succ])
              generalize w3.setRow g ((PRE ++ wrv y) ++ wrv y ++ POST).toArray = w5 at *
              refine wpAnyH_take (i := 16) (v := ?_) rfl (by kernel_rfl) (by kernel_rfl) (by kernel_rfl) (fun _ _ _ h => h) (Or.inl ⟨by rfl, ?_⟩) (by assumption) ?_
              rotate_left
              · simp only [List.getElem_toArray, List.getElem_cons_zero, List.getElem_cons_succ]; intro W hSw; (try dsimp only at hSw); go_simp; all_goals with_reducible rfl
              simp only [Act.put, List.getElem_toArray, List.getElem_cons_zero, List.getElem_cons_succ, List.setIfInBounds_toArray, List.set_cons_zero, List.set_cons_succ]
              refine wpAnyH_ready (rs := [17]) (by kernel_rfl) (by simp) ?_
              refine AllReadyH.cons rfl (fun K hK => ?_) AllReadyH.nil
              simp only [List.getElem_toArray, List.getElem_cons_zero, List.getElem_cons_succ]
              rw [if_pos]
              rotate_left
              · simp [Region.wanted]
              rw [List.append_assoc PRE, List.append_assoc PRE] at hr5
              rw [List.append_assoc (wrv y)] at hr5
              rw [← List.append_assoc PRE] at hr5
              refine wp_store_part 27 (.tmp 52) (.tmp 50) rfl g (p * 9) rfl (wrv x) rfl 27 PRE (wrv y) (wrv y ++ POST) hr5 HPl.out (HYl.out.trans HXl.out.symm) HI1.out (wrv_cell x) ?_
              have hr6 := setRow_heap w5 g _ (PRE ++ wrv x ++ (wrv y ++ POST)).toArray _ _ hr5
              have HK6 := Lib.hid (grown_setRow w5 g (PRE ++ wrv x ++ (wrv y ++ POST)).toArray)
              refine hK.out _ _ (trivial) (fun hHeldN => ?_)
              clear hK K hHeld
              have hHeld := hHeldN
              clear hHeldN
              (try simp only [Act.put, List.getElem_toArray, List.getElem_cons_zero, List.getElem_cons_succ, List.setIfInBounds_toArray, List.set_cons_zero, List.set_cons_succ])
              generalize w5.setRow g (PRE ++ wrv x ++ (wrv y ++ POST)).toArray = w6 at *
              refine wpAnyH_done (by kernel_rfl) ?_ _
              go_wp2_with fail
              have hs6 : Srt base w w6 g B sp (swL M p) := Srt.turn (HS3.out.g.grown HK5.out) HK6.out (by rw [hr6, HSw.out, List.append_assoc])
              go_roundw
              case rel => exact ⟨p, swL M p, by omega, rfl, HSl.out, HSf.out, hs6, by rw [← HIn.out, HStep.out, if_pos hr]⟩
              case measure => simp [intOf]
          · refine wpAnyH_take (i := 15) (v := ?_) rfl (by kernel_rfl) (by kernel_rfl) (by kernel_rfl) (fun _ _ _ h => h) (Or.inl ⟨by rfl, ?_⟩) (by assumption) ?_
            rotate_left
            · simp only [List.getElem_toArray, List.getElem_cons_zero, List.getElem_cons_succ]; intro W hSw; (try dsimp only at hSw); go_simp; all_goals with_reducible rfl
            simp only [Act.put, List.getElem_toArray, List.getElem_cons_zero, List.getElem_cons_succ, List.setIfInBounds_toArray, List.set_cons_zero, List.set_cons_succ]
            refine wpAnyH_take (i := 16) (v := ?_) rfl (by kernel_rfl) (by kernel_rfl) (by kernel_rfl) (fun _ _ _ h => h) (Or.inl ⟨by rfl, ?_⟩) (by assumption) ?_
            rotate_left
            · simp only [List.getElem_toArray, List.getElem_cons_zero, List.getElem_cons_succ]; intro W hSw; (try dsimp only at hSw); go_simp; all_goals with_reducible rfl
            simp only [Act.put, List.getElem_toArray, List.getElem_cons_zero, List.getElem_cons_succ, List.setIfInBounds_toArray, List.set_cons_zero, List.set_cons_succ]
            refine wpAnyH_done (by kernel_rfl) ?_ _
            have hs3 := HS2.out.on hb2'
            go_wp2_with fail
            go_roundw
            case rel => exact ⟨k + 1, M, by omega, by omega, by simp, HM.out, HFM.out, hs3, HNext.out M (by rw [← HIn.out, HStep.out, if_neg hr])⟩
            case measure => simp [intOf]; omega
        · obtain rfl : q = 0 := by omega
          have hq0 : ¬ (0 : Int) < 0 := by omega
          have HM0 := Lib.hid (show M = insIn k L from hin)
          have HS2 := Lib.hid hs2
          have HFM := Lib.hid hfM
          have HM := Lib.hid hM
          clear hin hs2 hfM hM
          go_wp2_with fail
          refine wp_region_held_drew (S := fun _ => True) (by kernel_rfl) trivial (fun hHeld => ?_)
          refine wpAnyH_take (i := 0) (v := ?_) rfl (by kernel_rfl) (by kernel_rfl) (by kernel_rfl) (fun _ _ _ h => h) (Or.inl ⟨by rfl, ?_⟩) (by assumption) ?_
          rotate_left
          · simp only [List.getElem_toArray, List.getElem_cons_zero, List.getElem_cons_succ]; intro W hSw; (try dsimp only at hSw); go_simp; all_goals with_reducible rfl
          simp only [Act.put, List.getElem_toArray, List.getElem_cons_zero, List.getElem_cons_succ, List.setIfInBounds_toArray, List.set_cons_zero, List.set_cons_succ]
          refine wpAnyH_take (i := 1) (v := ?_) rfl (by kernel_rfl) (by kernel_rfl) (by kernel_rfl) (fun _ _ _ h => h) (Or.inl ⟨by rfl, ?_⟩) (by assumption) ?_
          rotate_left
          · simp only [List.getElem_toArray, List.getElem_cons_zero, List.getElem_cons_succ]; intro W hSw; (try dsimp only at hSw); go_simp; all_goals with_reducible rfl
          simp only [Act.put, List.getElem_toArray, List.getElem_cons_zero, List.getElem_cons_succ, List.setIfInBounds_toArray, List.set_cons_zero, List.set_cons_succ]
          refine wpAnyH_take (i := 2) (v := ?_) rfl (by kernel_rfl) (by kernel_rfl) (by kernel_rfl) (fun _ _ _ h => h) (Or.inl ⟨by rfl, ?_⟩) (by assumption) ?_
          rotate_left
          · simp only [List.getElem_toArray, List.getElem_cons_zero, List.getElem_cons_succ]; intro W hSw; (try dsimp only at hSw); go_simp; all_goals with_reducible rfl
          simp only [Act.put, List.getElem_toArray, List.getElem_cons_zero, List.getElem_cons_succ, List.setIfInBounds_toArray, List.set_cons_zero, List.set_cons_succ]
          refine wpAnyH_take (i := 3) (v := ?_) rfl (by kernel_rfl) (by kernel_rfl) (by kernel_rfl) (fun _ _ _ h => h) (Or.inl ⟨by rfl, ?_⟩) (by assumption) ?_
          rotate_left
          · simp only [List.getElem_toArray, List.getElem_cons_zero, List.getElem_cons_succ]; intro W hSw; (try dsimp only at hSw); go_simp; all_goals with_reducible rfl
          simp only [Act.put, List.getElem_toArray, List.getElem_cons_zero, List.getElem_cons_succ, List.setIfInBounds_toArray, List.set_cons_zero, List.set_cons_succ]
          refine wpAnyH_take (i := 4) (v := undef) rfl (by kernel_rfl) (by kernel_rfl) (by kernel_rfl) (fun _ _ _ h => h) (Or.inr ⟨by rfl, rfl⟩) (by assumption) ?_
          (try simp only [Act.put, List.getElem_toArray, List.getElem_cons_zero, List.getElem_cons_succ, List.setIfInBounds_toArray, List.set_cons_zero, List.set_cons_succ])
          refine wpAnyH_take (i := 5) (v := undef) rfl (by kernel_rfl) (by kernel_rfl) (by kernel_rfl) (fun _ _ _ h => h) (Or.inr ⟨by rfl, rfl⟩) (by assumption) ?_
          (try simp only [Act.put, List.getElem_toArray, List.getElem_cons_zero, List.getElem_cons_succ, List.setIfInBounds_toArray, List.set_cons_zero, List.set_cons_succ])
          refine wpAnyH_take (i := 6) (v := undef) rfl (by kernel_rfl) (by kernel_rfl) (by kernel_rfl) (fun _ _ _ h => h) (Or.inr ⟨by rfl, rfl⟩) (by assumption) ?_
          (try simp only [Act.put, List.getElem_toArray, List.getElem_cons_zero, List.getElem_cons_succ, List.setIfInBounds_toArray, List.set_cons_zero, List.set_cons_succ])
          refine wpAnyH_take (i := 7) (v := undef) rfl (by kernel_rfl) (by kernel_rfl) (by kernel_rfl) (fun _ _ _ h => h) (Or.inr ⟨by rfl, rfl⟩) (by assumption) ?_
          (try simp only [Act.put, List.getElem_toArray, List.getElem_cons_zero, List.getElem_cons_succ, List.setIfInBounds_toArray, List.set_cons_zero, List.set_cons_succ])
          refine wpAnyH_take (i := 8) (v := undef) rfl (by kernel_rfl) (by kernel_rfl) (by kernel_rfl) (fun _ _ _ h => h) (Or.inr ⟨by rfl, rfl⟩) (by assumption) ?_
          (try simp only [Act.put, List.getElem_toArray, List.getElem_cons_zero, List.getElem_cons_succ, List.setIfInBounds_toArray, List.set_cons_zero, List.set_cons_succ])
          refine wpAnyH_take (i := 9) (v := undef) rfl (by kernel_rfl) (by kernel_rfl) (by kernel_rfl) (fun _ _ _ h => h) (Or.inr ⟨by rfl, rfl⟩) (by assumption) ?_
          (try simp only [Act.put, List.getElem_toArray, List.getElem_cons_zero, List.getElem_cons_succ, List.setIfInBounds_toArray, List.set_cons_zero, List.set_cons_succ])
          refine wpAnyH_take (i := 10) (v := undef) rfl (by kernel_rfl) (by kernel_rfl) (by kernel_rfl) (fun _ _ _ h => h) (Or.inr ⟨by rfl, rfl⟩) (by assumption) ?_
          (try simp only [Act.put, List.getElem_toArray, List.getElem_cons_zero, List.getElem_cons_succ, List.setIfInBounds_toArray, List.set_cons_zero, List.set_cons_succ])
          refine wpAnyH_take (i := 11) (v := undef) rfl (by kernel_rfl) (by kernel_rfl) (by kernel_rfl) (fun _ _ _ h => h) (Or.inr ⟨by rfl, rfl⟩) (by assumption) ?_
          (try simp only [Act.put, List.getElem_toArray, List.getElem_cons_zero, List.getElem_cons_succ, List.setIfInBounds_toArray, List.set_cons_zero, List.set_cons_succ])
          refine wpAnyH_take (i := 12) (v := undef) rfl (by kernel_rfl) (by kernel_rfl) (by kernel_rfl) (fun _ _ _ h => h) (Or.inr ⟨by rfl, rfl⟩) (by assumption) ?_
          (try simp only [Act.put, List.getElem_toArray, List.getElem_cons_zero, List.getElem_cons_succ, List.setIfInBounds_toArray, List.set_cons_zero, List.set_cons_succ])
          refine wpAnyH_take (i := 13) (v := undef) rfl (by kernel_rfl) (by kernel_rfl) (by kernel_rfl) (fun _ _ _ h => h) (Or.inr ⟨by rfl, rfl⟩) (by assumption) ?_
          (try simp only [Act.put, List.getElem_toArray, List.getElem_cons_zero, List.getElem_cons_succ, List.setIfInBounds_toArray, List.set_cons_zero, List.set_cons_succ])
          refine wpAnyH_take (i := 14) (v := undef) rfl (by kernel_rfl) (by kernel_rfl) (by kernel_rfl) (fun _ _ _ h => h) (Or.inr ⟨by rfl, rfl⟩) (by assumption) ?_
          (try simp only [Act.put, List.getElem_toArray, List.getElem_cons_zero, List.getElem_cons_succ, List.setIfInBounds_toArray, List.set_cons_zero, List.set_cons_succ])
          refine wpAnyH_take (i := 15) (v := undef) rfl (by kernel_rfl) (by kernel_rfl) (by kernel_rfl) (fun _ _ _ h => h) (Or.inr ⟨by rfl, rfl⟩) (by assumption) ?_
          (try simp only [Act.put, List.getElem_toArray, List.getElem_cons_zero, List.getElem_cons_succ, List.setIfInBounds_toArray, List.set_cons_zero, List.set_cons_succ])
          refine wpAnyH_take (i := 16) (v := ?_) rfl (by kernel_rfl) (by kernel_rfl) (by kernel_rfl) (fun _ _ _ h => h) (Or.inl ⟨by rfl, ?_⟩) (by assumption) ?_
          rotate_left
          · simp only [List.getElem_toArray, List.getElem_cons_zero, List.getElem_cons_succ]; intro W hSw; (try dsimp only at hSw); go_simp; all_goals with_reducible rfl
          simp only [Act.put, List.getElem_toArray, List.getElem_cons_zero, List.getElem_cons_succ, List.setIfInBounds_toArray, List.set_cons_zero, List.set_cons_succ]
          refine wpAnyH_done (by kernel_rfl) ?_ _
          have hs3 := HS2.out.on (Below.refl wr.heap.size wr).drew
          go_wp2_with fail
          go_roundw
          case rel => exact ⟨k + 1, M, by omega, by omega, by simp, HM.out, HFM.out, hs3, HNext.out M HM0.out⟩
          case measure => simp [intOf]; omega
    · obtain rfl : k = n := by omega
      have hki : ¬ (k : Int) < (k : Int) := by omega
      rw [Nat.sub_self] at hout
      have HR := Lib.hid (show Srt base w wr g B sp (insOut (k - 1) L0) by rw [← hout]; exact hs)
      clear hout hs
      go_wp2_with fail
      go_end0
      exact ⟨rfl, HR.out⟩
end Go.Proofs.Ytipgphdndleodaa
