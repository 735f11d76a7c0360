/-
  The law of there and back of overlays, over contracts.
-/
import Derived.Test.YtipgphdndleodaaOOrder
import Derived.Test.YtipgphdndleodaaOHome
import Derived.Deep.RegionHeld3
import Derived.Deep.DeepCutAuto
namespace Go.Proofs.Ytipgphdndleodaa
set_option maxRecDepth 100000
open Go.RowKit
set_option maxRecDepth 100000

theorem written_wide (l : List Wt) (A : Option Addr) (c : Nat) (w : World) (h : WrsV w (fun _ => True) A c l) :
    Calls Try.prog 5 #[.slice A l.length c] w fun e w' => e = .returned (.bool (writtenB l)) ∧ Below w.heap.size w w' := by
  by_cases hl : l.length ≤ 1000000
  · exact written_any l A c w _ h.at_ hl
  · have h8 : (l.length : Int) > 8 := by omega
    have HE := Lib.hid (show writtenB l = false by unfold writtenB; rw [decide_eq_false (by omega), Bool.false_and])
    clear h hl
    go_enter Try.func5, Try.ntmps5
    go_wp2
    go_ret
    exact ⟨by rw [HE.out]; rfl, Below.refl _ _⟩
theorem written_len {l : List Wt} (h : writtenB l = true) : l.length ≤ 8 := by
  unfold writtenB at h
  rw [Bool.and_eq_true, decide_eq_true_eq] at h
  exact h.1
theorem eight8 {vs : List Nat} (h : vs.length = 8) : ∃ a b c d e f g i, vs = [a, b, c, d, e, f, g, i] := by
  match vs, h with
  | [a, b, c, d, e, f, g, i], _ => exact ⟨a, b, c, d, e, f, g, i, rfl⟩
theorem get_at {l : List Wt} : ∀ {lo : Int}, risingB lo l = true → ∀ i (h : i < l.length), getW l l[i].1 = some l[i].2 ∧ lo < l[i].1 := by
  induction l with
  | nil => intro lo _ i h; simp at h
  | cons x l ih =>
    intro lo hr i hi
    rw [risingB, Bool.and_eq_true, decide_eq_true_eq] at hr
    cases i with
    | zero => exact ⟨by rw [get_cons]; exact if_pos rfl, hr.1.1⟩
    | succ i =>
      have h := ih hr.2 i (by simpa using hi)
      refine ⟨?_, by have := h.2; simp only [List.getElem_cons_succ]; omega⟩
      rw [get_cons]
      simp only [List.getElem_cons_succ]
      rw [if_neg (by have := h.2; omega)]
      exact h.1
theorem home_size {h : Int → List Nat} (hh : HFine h) : (Try.prog.info? 24).map (·.size) = some (hv h).length := by rw [hv_length hh]; kernel_rfl
set_option maxHeartbeats 16000000 in
theorem back8_law (hC : Calls8) (hW : WakesSays8) (h : Int → List Nat) (a b : List Wt) (A B : Option Addr) (c d : Nat) (y : Wt) (w : World) (hh : HFine h) (ha : WrsV w (fun _ => True) A c a) (hfa : WrFine a) (hb : WrsV w (fun _ => True) B d b) (hfb : WrFine b) (hy : WtFine y) :
    Calls Try.prog 3 #[.agg (hv h).toArray, .slice A a.length c, .slice B b.length d, .agg (wrv y).toArray] w fun e w' => e = .returned (.bool true) ∧ Below w.heap.size w w' := by
  obtain ⟨k, v⟩ := y
  obtain ⟨hk, hv8, hvb⟩ := hy
  simp only at hk hv8 hvb
  obtain ⟨y0, y1, y2, y3, y4, y5, y6, y7, rfl⟩ := eight8 hv8
  obtain ⟨w1, hw1⟩ : ∃ w1, w1 = (w.alloc (.cells (hv h).toArray 24)).alloc (.cells #[.int .i64 k, .int .u8 (y0 : Int), .int .u8 (y1 : Int), .int .u8 (y2 : Int), .int .u8 (y3 : Int), .int .u8 (y4 : Int), .int .u8 (y5 : Int), .int .u8 (y6 : Int), .int .u8 (y7 : Int)] 27) := ⟨_, rfl⟩
  have hb1 : Below w.heap.size w w1 := by rw [hw1]; exact ((Below.refl w.heap.size w).alloc (Nat.le_refl _) _).alloc (by simp) _
  have hz1 : w1.heap.size = w.heap.size + 2 := by rw [hw1]; simp
  have g0 : w1.heap[w.heap.size]? = some (.cells (hv h).toArray 24 (0, 0)) := by rw [hw1]; exact (Below.heap_alloc _ _ _ (by simp)).trans (heap_alloc_new w _)
  have g1 : w1.heap[w.heap.size + 1]? = some (.cells #[.int .i64 k, .int .u8 (y0 : Int), .int .u8 (y1 : Int), .int .u8 (y2 : Int), .int .u8 (y3 : Int), .int .u8 (y4 : Int), .int .u8 (y5 : Int), .int .u8 (y6 : Int), .int .u8 (y7 : Int)] 27 (0, 0)) := by
    rw [hw1]
    have h2 := heap_alloc_new (w.alloc (.cells (hv h).toArray 24)) (.cells #[.int .i64 k, .int .u8 (y0 : Int), .int .u8 (y1 : Int), .int .u8 (y2 : Int), .int .u8 (y3 : Int), .int .u8 (y4 : Int), .int .u8 (y5 : Int), .int .u8 (y6 : Int), .int .u8 (y7 : Int)] 27)
    rwa [World.size_alloc] at h2
  have HRow := Lib.hid (show ∀ W, Below w1.heap.size w1 W → W.heap[w.heap.size]? = some (.cells (hv h).toArray 24 (0, 0)) ∧ W.heap[w.heap.size + 1]? = some (.cells #[.int .i64 k, .int .u8 (y0 : Int), .int .u8 (y1 : Int), .int .u8 (y2 : Int), .int .u8 (y3 : Int), .int .u8 (y4 : Int), .int .u8 (y5 : Int), .int .u8 (y6 : Int), .int .u8 (y7 : Int)] 27 (0, 0)) from fun W hW => ⟨(hW.block _ (by omega)).trans g0, (hW.block _ (by omega)).trans g1⟩)
  have HIy := Lib.hid (show (Try.prog.info? 27).map (·.size) = some (#[.int .i64 k, .int .u8 (y0 : Int), .int .u8 (y1 : Int), .int .u8 (y2 : Int), .int .u8 (y3 : Int), .int .u8 (y4 : Int), .int .u8 (y5 : Int), .int .u8 (y6 : Int), .int .u8 (y7 : Int)] : Array Value).size by kernel_rfl)
  have HWk := Lib.hid hW
  have HW1 := Lib.hid hw1
  have HB1 := Lib.hid hb1
  have HH := Lib.hid hh
  have HWa1 := Lib.hid (fun W (hW : Below w1.heap.size w1 W) => written_wide a A c W ((ha.below hb1).below hW))
  have HWb1 := Lib.hid (fun W (hW : Below w1.heap.size w1 W) => written_wide b B d W ((hb.below hb1).below hW))
  obtain ⟨n, hn⟩ : ∃ n, n = a.length := ⟨_, rfl⟩
  obtain ⟨n2, hn2⟩ : ∃ n2, n2 = b.length := ⟨_, rfl⟩
  rw [← hn] at HWa1
  rw [← hn2] at HWb1
  have HNn := Lib.hid (And.intro hn hn2)
  rw [← hn, ← hn2]
  show Calls _ _ #[.agg (hv h).toArray, .slice A n c, .slice B n2 d, .agg #[.int .i64 k, .int .u8 (y0 : Int), .int .u8 (y1 : Int), .int .u8 (y2 : Int), .int .u8 (y3 : Int), .int .u8 (y4 : Int), .int .u8 (y5 : Int), .int .u8 (y6 : Int), .int .u8 (y7 : Int)]] _ _
  cases hwa : writtenB a with
  | false =>
    rw [hwa] at HWa1
    clear hC hW ha hfa hb hfb hk hv8 hvb hw1 hb1 hz1 g0 g1 hh hn hn2 hwa
    generalize (hv h).toArray = hz at *
    go_enter Try.func3, Try.ntmps3
    go_wp2_with (rw [← HW1.out])
    refine (HWa1.out _ (Below.refl _ _)).mono ?_
    rintro e w2 ⟨rfl, hb2⟩
    have HB2 := Lib.hid (HB1.out.trans (hb2.mono HB1.out.size))
    clear hb2
    go_wp2_with fail
    refine (HWk.out _).mono ?_
    rintro e wk ⟨rfl, hbk⟩
    have HBk := Lib.hid (HB2.out.trans (hbk.mono HB2.out.size))
    clear hbk
    go_wp2
    go_ret
    exact ⟨rfl, HBk.out⟩
  | true =>
  rw [hwa] at HWa1
  cases hwb : writtenB b with
  | false =>
    rw [hwb] at HWb1
    clear hC hW ha hfa hb hfb hk hv8 hvb hw1 hb1 hz1 g0 g1 hh hn hn2 hwa hwb
    generalize (hv h).toArray = hz at *
    go_enter Try.func3, Try.ntmps3
    go_wp2_with (rw [← HW1.out])
    refine (HWa1.out _ (Below.refl _ _)).mono ?_
    rintro e w2 ⟨rfl, hb2⟩
    have HB2 := Lib.hid (HB1.out.trans (hb2.mono HB1.out.size))
    have HL2 := Lib.hid hb2
    clear hb2
    go_wp2_with fail
    refine (HWb1.out _ HL2.out).mono ?_
    rintro e w3 ⟨rfl, hb3⟩
    have HB3 := Lib.hid (HB2.out.trans (hb3.mono HB2.out.size))
    clear hb3
    go_wp2_with fail
    refine (HWk.out _).mono ?_
    rintro e wk ⟨rfl, hbk⟩
    have HBk := Lib.hid (HB3.out.trans (hbk.mono HB3.out.size))
    clear hbk
    go_wp2
    go_ret
    exact ⟨rfl, HBk.out⟩
  | true =>
  rw [hwb] at HWb1
  have HWr := Lib.hid (And.intro hwa hwb)
  have hsa : WsAt w1 A c a := ⟨ha.below hb1, hfa, by have := written_len hwa; omega⟩
  have hsb : WsAt w1 B d b := ⟨hb.below hb1, hfb, by have := written_len hwb; omega⟩
  have HWa := Lib.hid hsa
  have HWb := Lib.hid hsb
  have hyf : WtFine (k, [y0, y1, y2, y3, y4, y5, y6, y7]) := ⟨hk, rfl, hvb⟩
  have HYf := Lib.hid hyf
  have hpu := fun W (h : WsAt W A c a) => hC.put a (k, [y0, y1, y2, y3, y4, y5, y6, y7]) A c W h hyf
  have hov := fun W (h : WsAt W A c a) (h2 : WsAt W B d b) => hC.over a b A B c d W h h2
  rw [← hn] at hpu hov
  rw [← hn2] at hov
  have HPut := Lib.hid hpu
  have HOver := Lib.hid hov
  have HGet := Lib.hid hC.get
  have HOn := Lib.hid hC.on
  have hn8 : n ≤ 8 := by rw [hn]; exact written_len hwa
  clear hC hW ha hfa hb hfb hv8 hvb hw1 hb1 hz1 g0 g1 hh hn hn2 hwa hwb hsa hsb hyf hpu hov
  obtain ⟨hz, hhz⟩ : ∃ hz, hz = (hv h).toArray := ⟨_, rfl⟩
  rw [← hhz] at HW1 ⊢
  clear hhz
  go_enter Try.func3, Try.ntmps3
  go_wp2_with (rw [← HW1.out])
  refine (HWa1.out _ (Below.refl _ _)).mono ?_
  rintro e w2 ⟨rfl, hb2⟩
  have HB2 := Lib.hid (HB1.out.trans (hb2.mono HB1.out.size))
  have HL2 := Lib.hid hb2
  clear hb2
  go_wp2_with fail
  refine (HWb1.out _ HL2.out).mono ?_
  rintro e w3 ⟨rfl, hb3⟩
  have HB3 := Lib.hid (HB2.out.trans (hb3.mono HB2.out.size))
  have HL3 := Lib.hid (HL2.out.trans (hb3.mono HL2.out.size))
  have HR3 := Lib.hid (HRow.out _ HL3.out).2
  clear hb3
  go_wp2_with (refine wpList_load_row rfl 27 _ rfl (w.heap.size + 1) rfl 27 #[.int .i64 k, .int .u8 (y0 : Int), .int .u8 (y1 : Int), .int .u8 (y2 : Int), .int .u8 (y3 : Int), .int .u8 (y4 : Int), .int .u8 (y5 : Int), .int .u8 (y6 : Int), .int .u8 (y7 : Int)] (0, 0) _ HR3.out Try.underlying27 rfl HIy.out ?_)
  refine (HPut.out w3 (HWa.out.below HL3.out)).mono ?_
  rintro e w4 ⟨A4, c4, rfl, hx4, hb4⟩
  have HB4 := Lib.hid (HB3.out.trans (hb4.mono HB3.out.size))
  have HL4 := Lib.hid (HL3.out.trans (hb4.mono HL3.out.size))
  have HX4 := Lib.hid (hx4.mono (P' := fun _ => True) fun _ _ _ => trivial)
  clear hx4 hb4
  by_cases he : putE a (k, [y0, y1, y2, y3, y4, y5, y6, y7]) = 0
  rotate_left
  · have hq : (putE a (k, [y0, y1, y2, y3, y4, y5, y6, y7]) == 0) = false := by simp [he]
    clear he
    have HOvW := Lib.hid (HOver.out w4 ((HWa.out.below HL4.out)) (HWb.out.below HL4.out))
    go_wp2_with fail
    refine HOvW.out.mono ?_
    rintro e w20 ⟨A20, c20, rfl, hm20, hb20⟩
    have HB20 := Lib.hid (HB4.out.trans (hb20.mono HB4.out.size))
    have HL20 := Lib.hid (HL4.out.trans (hb20.mono HL4.out.size))
    have HM20 := Lib.hid (hm20.mono (P' := fun _ => True) fun _ _ _ => trivial)
    clear hm20 hb20
    by_cases hov : overE a b = 0
    · have hfo : (foldE a b).1 = 0 := by
        have h := hov
        unfold overE at h
        rw [HWr.out.1, HWr.out.2] at h
        simpa using h
      have hmw : overW a b = (foldE a b).2 := by unfold overW; rw [HWr.out.1, HWr.out.2]; rfl
      obtain ⟨q1, q2⟩ := fold_on h (written_rises HWr.out.1 |> fun _ => HWr.out.1) (written_rises HWr.out.2) hfo
      rw [← hmw] at q1 q2
      have hmf : WrFine (overW a b) := over_fine HWa.out.fine HWb.out.fine
      obtain ⟨m, hm⟩ : ∃ m, m = overW a b := ⟨_, rfl⟩
      rw [← hm] at q1 q2 hmf HM20 ⊢
      rw [hov]
      have HWm := Lib.hid (show ∀ W, Below w20.heap.size w20 W → WsAt W A20 c20 m from fun W hW => ⟨HM20.out.below hW, hmf, by have := written_len q1; omega⟩)
      have HMw := Lib.hid (fun W (hW : Below w20.heap.size w20 W) => written_wide m A20 c20 W (HM20.out.below hW))
      rw [q1] at HMw
      have HOn1 := Lib.hid (fun W (hW : Below w20.heap.size w20 W) => HOn.out h m A20 c20 W (HWm.out W hW) HH.out)
      have HOn2 := Lib.hid (fun W (hW : Below w20.heap.size w20 W) => HOn.out h a A c W (HWa.out.below (HL20.out.trans (hW.mono HL20.out.size))) HH.out)
      have HOn3 := Lib.hid (fun W (hW : Below w20.heap.size w20 W) => HOn.out (onW h a) b B d W (HWb.out.below (HL20.out.trans (hW.mono HL20.out.size))) (on_fine HH.out HWa.out.fine))
      have eqv : hv (onW h m) = hv (onW (onW h a) b) := hv_congr q2
      rw [eqv] at HOn1
      have hEq := fun W => home_eq W (on_fine (on_fine HH.out HWa.out.fine) HWb.out.fine)
      have HHome := Lib.hid (show ∀ W, Below w20.heap.size w20 W → ∀ j u, (hv h)[j]? = some u → W.cell? ⟨w.heap.size, 0 + j, none⟩ = some u from fun W hW j u hu => by
        rw [Nat.zero_add, cell_of_row W _ j _ _ _ (HRow.out W (HL20.out.trans (hW.mono HL20.out.size))).1]
        simpa using hu)
      have HHs := Lib.hid (home_size HH.out)
      have HNa := Lib.hid (show _ = a.length from HNn.out.1)
      rw [← HNn.out.1] at HOn2
      rw [← HNn.out.2] at HOn3
      obtain ⟨r1, hr1⟩ : ∃ r1, r1 = (hv (onW (onW h a) b)).toArray := ⟨_, rfl⟩
      obtain ⟨r2, hr2⟩ : ∃ r2, r2 = (hv (onW h a)).toArray := ⟨_, rfl⟩
      rw [← hr1] at HOn1 HOn3 hEq
      rw [← hr2] at HOn2 HOn3
      obtain ⟨mn, hmn⟩ : ∃ mn, mn = m.length := ⟨_, rfl⟩
      rw [← hmn] at HOn1 HMw ⊢
      clear hfo hmw q1 q2 hmf hm hov eqv hr1 hr2 hmn
      go_wp2_with fail
      refine wp_region_held_drew (S := fun W => Below w20.heap.size w20 W) (by kernel_rfl) (Below.refl _ _).drew (fun hHeld => ?_)
      refine wpAnyH_take (i := 0) (v := ?_) rfl (by kernel_rfl) (by kernel_rfl) (by kernel_rfl) (fun _ _ _ h => h) (Or.inl ⟨by rfl, ?_⟩) (by assumption) ?_
      rotate_left
      · simp only [List.getElem_toArray, List.getElem_cons_zero, List.getElem_cons_succ]; intro W hSw; (try dsimp only at hSw); go_simp; all_goals with_reducible rfl
      simp only [Act.put, List.getElem_toArray, List.getElem_cons_zero, List.getElem_cons_succ, List.setIfInBounds_toArray, List.set_cons_zero, List.set_cons_succ]
      refine wpAnyH_ready (rs := [1]) (by kernel_rfl) (by simp) ?_
      refine AllReadyH.cons rfl (fun K hK => ?_) AllReadyH.nil
      simp only [List.getElem_toArray, List.getElem_cons_zero, List.getElem_cons_succ]
      go_simp
      refine (HMw.out _ (Below.refl _ _).drew).mono ?_
      rintro e w21 ⟨rfl, hb21⟩
      have HB21 := Lib.hid ((Below.refl w20.heap.size w20).drew.trans (hb21.mono (Nat.le_refl _)))
      clear hb21
      go_wp2_with fail
      refine hK.out _ _ (HB21.out) (fun hHeldN => ?_)
      clear hK K hHeld
      have hHeld := hHeldN
      clear hHeldN
      (try simp only [Act.put, List.getElem_toArray, List.getElem_cons_zero, List.getElem_cons_succ, List.setIfInBounds_toArray, List.set_cons_zero, List.set_cons_succ])
      refine wpAnyH_take (i := 2) (v := ?_) rfl (by kernel_rfl) (by kernel_rfl) (by kernel_rfl) (fun _ _ _ h => h) (Or.inl ⟨by rfl, ?_⟩) (by assumption) ?_
      rotate_left
      · simp only [List.getElem_toArray, List.getElem_cons_zero, List.getElem_cons_succ]; intro W hSw; (try dsimp only at hSw); go_simp; all_goals with_reducible rfl
      simp only [Act.put, List.getElem_toArray, List.getElem_cons_zero, List.getElem_cons_succ, List.setIfInBounds_toArray, List.set_cons_zero, List.set_cons_succ]
      refine wpAnyH_take (i := 3) (v := ?_) rfl (by kernel_rfl) (by kernel_rfl) (by kernel_rfl) (fun _ _ _ h => h) (Or.inl ⟨by rfl, ?_⟩) (by assumption) ?_
      rotate_left
      · simp only [List.getElem_toArray, List.getElem_cons_zero, List.getElem_cons_succ]; intro W hSw; (try dsimp only at hSw); refine exec_load_part 24 (.tmp 4) ?_ w.heap.size 0 ?_ (hv h) _ (HHome.out W hSw) Try.underlying24 ?_ HHs.out <;> rfl
      simp only [Act.put, List.getElem_toArray, List.getElem_cons_zero, List.getElem_cons_succ, List.setIfInBounds_toArray, List.set_cons_zero, List.set_cons_succ]
      refine wpAnyH_take (i := 4) (v := ?_) rfl (by kernel_rfl) (by kernel_rfl) (by kernel_rfl) (fun _ _ _ h => h) (Or.inl ⟨by rfl, ?_⟩) (by assumption) ?_
      rotate_left
      · simp only [List.getElem_toArray, List.getElem_cons_zero, List.getElem_cons_succ]; intro W hSw; (try dsimp only at hSw); go_simp; all_goals with_reducible rfl
      simp only [Act.put, List.getElem_toArray, List.getElem_cons_zero, List.getElem_cons_succ, List.setIfInBounds_toArray, List.set_cons_zero, List.set_cons_succ]
      refine wpAnyH_take (i := 6) (v := ?_) rfl (by kernel_rfl) (by kernel_rfl) (by kernel_rfl) (fun _ _ _ h => h) (Or.inl ⟨by rfl, ?_⟩) (by assumption) ?_
      rotate_left
      · simp only [List.getElem_toArray, List.getElem_cons_zero, List.getElem_cons_succ]; intro W hSw; (try dsimp only at hSw); refine exec_load_part 24 (.tmp 4) ?_ w.heap.size 0 ?_ (hv h) _ (HHome.out W hSw) Try.underlying24 ?_ HHs.out <;> rfl
      simp only [Act.put, List.getElem_toArray, List.getElem_cons_zero, List.getElem_cons_succ, List.setIfInBounds_toArray, List.set_cons_zero, List.set_cons_succ]
      refine wpAnyH_take (i := 7) (v := ?_) rfl (by kernel_rfl) (by kernel_rfl) (by kernel_rfl) (fun _ _ _ h => h) (Or.inl ⟨by rfl, ?_⟩) (by assumption) ?_
      rotate_left
      · simp only [List.getElem_toArray, List.getElem_cons_zero, List.getElem_cons_succ]; intro W hSw; (try dsimp only at hSw); go_simp; all_goals with_reducible rfl
      simp only [Act.put, List.getElem_toArray, List.getElem_cons_zero, List.getElem_cons_succ, List.setIfInBounds_toArray, List.set_cons_zero, List.set_cons_succ]
      refine wpAnyH_take (i := 9) (v := ?_) rfl (by kernel_rfl) (by kernel_rfl) (by kernel_rfl) (fun _ _ _ h => h) (Or.inl ⟨by rfl, ?_⟩) (by assumption) ?_
      rotate_left
      · simp only [List.getElem_toArray, List.getElem_cons_zero, List.getElem_cons_succ]; intro W hSw; (try dsimp only at hSw); go_simp; all_goals with_reducible rfl
      simp only [Act.put, List.getElem_toArray, List.getElem_cons_zero, List.getElem_cons_succ, List.setIfInBounds_toArray, List.set_cons_zero, List.set_cons_succ]
      refine wpAnyH_ready (rs := [5]) (by kernel_rfl) (by simp) ?_
      refine AllReadyH.cons rfl (fun K hK => ?_) AllReadyH.nil
      simp only [List.getElem_toArray, List.getElem_cons_zero, List.getElem_cons_succ]
      go_simp
      refine (HOn1.out _ HB21.out).mono ?_
      rintro e w22 ⟨rfl, hb22⟩
      have HB22 := Lib.hid (HB21.out.trans (hb22.mono HB21.out.size))
      clear hb22
      go_wp2_with fail
      refine hK.out _ _ (HB22.out) (fun hHeldN => ?_)
      clear hK K hHeld
      have hHeld := hHeldN
      clear hHeldN
      (try simp only [Act.put, List.getElem_toArray, List.getElem_cons_zero, List.getElem_cons_succ, List.setIfInBounds_toArray, List.set_cons_zero, List.set_cons_succ])
      refine wpAnyH_ready (rs := [8]) (by kernel_rfl) (by simp) ?_
      refine AllReadyH.cons rfl (fun K hK => ?_) AllReadyH.nil
      simp only [List.getElem_toArray, List.getElem_cons_zero, List.getElem_cons_succ]
      go_simp
      refine (HOn2.out _ HB22.out).mono ?_
      rintro e w23 ⟨rfl, hb23⟩
      have HB23 := Lib.hid (HB22.out.trans (hb23.mono HB22.out.size))
      clear hb23
      go_wp2_with fail
      refine hK.out _ _ (HB23.out) (fun hHeldN => ?_)
      clear hK K hHeld
      have hHeld := hHeldN
      clear hHeldN
      (try simp only [Act.put, List.getElem_toArray, List.getElem_cons_zero, List.getElem_cons_succ, List.setIfInBounds_toArray, List.set_cons_zero, List.set_cons_succ])
      refine wpAnyH_ready (rs := [10]) (by kernel_rfl) (by simp) ?_
      refine AllReadyH.cons rfl (fun K hK => ?_) AllReadyH.nil
      simp only [List.getElem_toArray, List.getElem_cons_zero, List.getElem_cons_succ]
      go_simp
      refine (HOn3.out _ HB23.out).mono ?_
      rintro e w24 ⟨rfl, hb24⟩
      have HB24 := Lib.hid (HB23.out.trans (hb24.mono HB23.out.size))
      clear hb24
      go_wp2_with fail
      refine hK.out _ _ (HB24.out) (fun hHeldN => ?_)
      clear hK K hHeld
      have hHeld := hHeldN
      clear hHeldN
      (try simp only [Act.put, List.getElem_toArray, List.getElem_cons_zero, List.getElem_cons_succ, List.setIfInBounds_toArray, List.set_cons_zero, List.set_cons_succ])
      refine wpAnyH_take (i := 11) (v := ?_) rfl (by kernel_rfl) (by kernel_rfl) (by kernel_rfl) (fun _ _ _ h => h) (Or.inl ⟨by rfl, ?_⟩) (by assumption) ?_
      rotate_left
      · simp only [List.getElem_toArray, List.getElem_cons_zero, List.getElem_cons_succ]; intro W hSw; (try dsimp only at hSw); go_simp; all_goals with_reducible rfl
      simp only [Act.put, List.getElem_toArray, List.getElem_cons_zero, List.getElem_cons_succ, List.setIfInBounds_toArray, List.set_cons_zero, List.set_cons_succ]
      refine wpAnyH_take (i := 12) (v := ?_) rfl (by kernel_rfl) (by kernel_rfl) (by kernel_rfl) (fun _ _ _ h => h) (Or.inl ⟨by rfl, ?_⟩) (by assumption) ?_
      rotate_left
      · simp only [List.getElem_toArray, List.getElem_cons_zero, List.getElem_cons_succ]; intro W hSw; (try dsimp only at hSw); go_simp; all_goals with_reducible rfl
      simp only [Act.put, List.getElem_toArray, List.getElem_cons_zero, List.getElem_cons_succ, List.setIfInBounds_toArray, List.set_cons_zero, List.set_cons_succ]
      refine wpAnyH_take (i := 13) (v := ?_) rfl (by kernel_rfl) (by kernel_rfl) (by kernel_rfl) (fun _ _ _ h => h) (Or.inl ⟨by rfl, ?_⟩) (by assumption) ?_
      rotate_left
      · simp only [List.getElem_toArray, List.getElem_cons_zero, List.getElem_cons_succ]; intro W hSw; (try dsimp only at hSw); go_simp; all_goals with_reducible rfl
      simp only [Act.put, List.getElem_toArray, List.getElem_cons_zero, List.getElem_cons_succ, List.setIfInBounds_toArray, List.set_cons_zero, List.set_cons_succ]
      refine wpAnyH_ready (rs := [14]) (by kernel_rfl) (by simp) ?_
      refine AllReadyH.cons rfl (fun K hK => ?_) AllReadyH.nil
      simp only [List.getElem_toArray, List.getElem_cons_zero, List.getElem_cons_succ]
      go_simp
      refine (HWk.out _).mono ?_
      rintro e w25 ⟨rfl, hb25⟩
      have HB25 := Lib.hid (HB24.out.trans (hb25.mono HB24.out.size))
      clear hb25
      go_wp2_with fail
      refine hK.out _ _ (HB25.out) (fun hHeldN => ?_)
      clear hK K hHeld
      have hHeld := hHeldN
      clear hHeldN
      (try simp only [Act.put, List.getElem_toArray, List.getElem_cons_zero, List.getElem_cons_succ, List.setIfInBounds_toArray, List.set_cons_zero, List.set_cons_succ])
      refine wpAnyH_take (i := 15) (v := ?_) rfl (by kernel_rfl) (by kernel_rfl) (by kernel_rfl) (fun _ _ _ h => h) (Or.inl ⟨by rfl, ?_⟩) (by assumption) ?_
      rotate_left
      · simp only [List.getElem_toArray, List.getElem_cons_zero, List.getElem_cons_succ]; intro W hSw; (try dsimp only at hSw); go_simp; all_goals with_reducible rfl
      simp only [Act.put, List.getElem_toArray, List.getElem_cons_zero, List.getElem_cons_succ, List.setIfInBounds_toArray, List.set_cons_zero, List.set_cons_succ]
      refine wpAnyH_take (i := 16) (v := ?_) rfl (by kernel_rfl) (by kernel_rfl) (by kernel_rfl) (fun _ _ _ h => h) (Or.inl ⟨by rfl, ?_⟩) (by assumption) ?_
      rotate_left
      · simp only [List.getElem_toArray, List.getElem_cons_zero, List.getElem_cons_succ]; intro W hSw; (try dsimp only at hSw); go_simp; all_goals with_reducible rfl
      simp only [Act.put, List.getElem_toArray, List.getElem_cons_zero, List.getElem_cons_succ, List.setIfInBounds_toArray, List.set_cons_zero, List.set_cons_succ]
      refine wpAnyH_done (by kernel_rfl) ?_ _
      go_wp2_with fail
      go_ret
      exact ⟨rfl, HB20.out.trans (HB25.out.mono HB20.out.size)⟩
    · have hfu : overE a b = 50 := by
        have h := hov
        unfold overE at h ⊢
        rw [HWr.out.1, HWr.out.2] at h ⊢
        exact fold_full HWr.out.1 (by omega) (written_rises HWr.out.2) (by simpa using h)
      rw [hfu]
      clear hov hfu
      go_wp2_with fail
      refine (HWk.out _).mono ?_
      rintro e wk ⟨rfl, hbk⟩
      have HBk := Lib.hid (HB20.out.trans (hbk.mono HB20.out.size))
      clear hbk
      go_wp2
      go_ret
      exact ⟨rfl, HBk.out⟩
  have hxe := put_yes he
  have hxw := put_written he
  have hxl := ins_len (k, [y0, y1, y2, y3, y4, y5, y6, y7]) a
  have hgi := get_ins (k, [y0, y1, y2, y3, y4, y5, y6, y7]) a
  rw [hxe] at HX4 ⊢
  rw [he]
  obtain ⟨x, hx⟩ : ∃ x, x = insW (k, [y0, y1, y2, y3, y4, y5, y6, y7]) a := ⟨_, rfl⟩
  have hxf : WrFine x := by rw [hx]; exact ins_fine HYf.out HWa.out.fine
  rw [← hx] at hxw hxl hgi HX4 ⊢
  obtain ⟨p, hp⟩ : ∃ p, p = x.length := ⟨_, rfl⟩
  rw [← hp, ← HNn.out.1] at hxl
  have hp9 : p ≤ n + 1 := hxl.1
  have HWx := Lib.hid (show ∀ W, Below w4.heap.size w4 W → WsAt W A4 c4 x from fun W hW => ⟨HX4.out.below hW, hxf, by have := written_len hxw; omega⟩)
  have HMx := Lib.hid (fun W (hW : Below w4.heap.size w4 W) => written_wide x A4 c4 W (HX4.out.below hW))
  rw [hxw, ← hp] at HMx
  have hgk := hgi k
  rw [if_pos rfl] at hgk
  have hg0 := HGet.out x k A4 c4 w4 (HWx.out _ (Below.refl _ _)) HYf.out.1
  have hgx := fun z W (hW : Below w4.heap.size w4 W) (hz : I64 z) => HGet.out x z A4 c4 W (HWx.out W hW) hz
  rw [← hp] at hg0 hgx ⊢
  have HG0 := Lib.hid hg0
  have HGx := Lib.hid hgx
  have HGk := Lib.hid hgk
  have HGi := Lib.hid hgi
  have HXl := Lib.hid hxl
  have hck : w4.cell? ⟨w.heap.size + 1, 0, none⟩ = some (.int .i64 k) := by rw [cell_of_row w4 _ 0 _ _ _ (HRow.out _ HL4.out).2]; rfl
  clear he hxe hxw hxl hgi hx hxf hp hgk hg0 hgx
  go_wp2_with fail
  refine HG0.out.mono ?_
  rintro e w5 ⟨v, rfl, _, hvu, hb5⟩
  obtain rfl : v = [y0, y1, y2, y3, y4, y5, y6, y7] := hvu _ HGk.out
  rw [HGk.out]
  obtain ⟨hb6, hg6, hz6⟩ := box_filled w5 #[.int .u8 0, .int .u8 0, .int .u8 0, .int .u8 0, .int .u8 0, .int .u8 0, .int .u8 0, .int .u8 0] #[.int .u8 (y0 : Int), .int .u8 (y1 : Int), .int .u8 (y2 : Int), .int .u8 (y3 : Int), .int .u8 (y4 : Int), .int .u8 (y5 : Int), .int .u8 (y6 : Int), .int .u8 (y7 : Int)] 23
  have HZ6 := Lib.hid (heap_alloc_new w5 (.cells #[.int .u8 0, .int .u8 0, .int .u8 0, .int .u8 0, .int .u8 0, .int .u8 0, .int .u8 0, .int .u8 0] 23))
  obtain ⟨w6, hw6⟩ : ∃ w6, w6 = (w5.alloc (.cells #[.int .u8 0, .int .u8 0, .int .u8 0, .int .u8 0, .int .u8 0, .int .u8 0, .int .u8 0, .int .u8 0] 23)).setRow w5.heap.size #[.int .u8 (y0 : Int), .int .u8 (y1 : Int), .int .u8 (y2 : Int), .int .u8 (y3 : Int), .int .u8 (y4 : Int), .int .u8 (y5 : Int), .int .u8 (y6 : Int), .int .u8 (y7 : Int)] := ⟨_, rfl⟩
  rw [← hw6] at hb6 hg6 hz6
  have HW6 := Lib.hid hw6
  have HI6 := Lib.hid (show (Try.prog.info? 23).map (·.size) = some (#[.int .u8 (y0 : Int), .int .u8 (y1 : Int), .int .u8 (y2 : Int), .int .u8 (y3 : Int), .int .u8 (y4 : Int), .int .u8 (y5 : Int), .int .u8 (y6 : Int), .int .u8 (y7 : Int)] : Array Value).size by kernel_rfl)
  have HS6 := Lib.hid (show (#[.int .u8 0, .int .u8 0, .int .u8 0, .int .u8 0, .int .u8 0, .int .u8 0, .int .u8 0, .int .u8 0] : Array Value).size = (#[.int .u8 (y0 : Int), .int .u8 (y1 : Int), .int .u8 (y2 : Int), .int .u8 (y3 : Int), .int .u8 (y4 : Int), .int .u8 (y5 : Int), .int .u8 (y6 : Int), .int .u8 (y7 : Int)] : Array Value).size from rfl)
  have HO6 := Lib.hid (show (#[.int .u8 (y0 : Int), .int .u8 (y1 : Int), .int .u8 (y2 : Int), .int .u8 (y3 : Int), .int .u8 (y4 : Int), .int .u8 (y5 : Int), .int .u8 (y6 : Int), .int .u8 (y7 : Int)] : Array Value).all (·.oneCell') = true by simp [Value.oneCell'])
  have hb46 := hb5.trans (hb6.mono hb5.size)
  have HB6 := Lib.hid (HB4.out.trans (hb46.mono HB4.out.size))
  have HL6 := Lib.hid (HL4.out.trans (hb46.mono HL4.out.size))
  have HX6 := Lib.hid hb46
  have hr6 := (HRow.out _ HL6.out).2
  have p0 : w6.cell? ⟨w5.heap.size, 0, none⟩ = some (.int .u8 (y0 : Int)) := by rw [cell_of_row w6 _ 0 _ _ _ hg6]; rfl
  have p1 : w6.cell? ⟨w5.heap.size, 1, none⟩ = some (.int .u8 (y1 : Int)) := by rw [cell_of_row w6 _ 1 _ _ _ hg6]; rfl
  have p2 : w6.cell? ⟨w5.heap.size, 2, none⟩ = some (.int .u8 (y2 : Int)) := by rw [cell_of_row w6 _ 2 _ _ _ hg6]; rfl
  have p3 : w6.cell? ⟨w5.heap.size, 3, none⟩ = some (.int .u8 (y3 : Int)) := by rw [cell_of_row w6 _ 3 _ _ _ hg6]; rfl
  have p4 : w6.cell? ⟨w5.heap.size, 4, none⟩ = some (.int .u8 (y4 : Int)) := by rw [cell_of_row w6 _ 4 _ _ _ hg6]; rfl
  have p5 : w6.cell? ⟨w5.heap.size, 5, none⟩ = some (.int .u8 (y5 : Int)) := by rw [cell_of_row w6 _ 5 _ _ _ hg6]; rfl
  have p6 : w6.cell? ⟨w5.heap.size, 6, none⟩ = some (.int .u8 (y6 : Int)) := by rw [cell_of_row w6 _ 6 _ _ _ hg6]; rfl
  have p7 : w6.cell? ⟨w5.heap.size, 7, none⟩ = some (.int .u8 (y7 : Int)) := by rw [cell_of_row w6 _ 7 _ _ _ hg6]; rfl
  have q0 : w6.cell? ⟨w.heap.size + 1, 1, none⟩ = some (.int .u8 (y0 : Int)) := by rw [cell_of_row w6 _ 1 _ _ _ hr6]; rfl
  have q1 : w6.cell? ⟨w.heap.size + 1, 2, none⟩ = some (.int .u8 (y1 : Int)) := by rw [cell_of_row w6 _ 2 _ _ _ hr6]; rfl
  have q2 : w6.cell? ⟨w.heap.size + 1, 3, none⟩ = some (.int .u8 (y2 : Int)) := by rw [cell_of_row w6 _ 3 _ _ _ hr6]; rfl
  have q3 : w6.cell? ⟨w.heap.size + 1, 4, none⟩ = some (.int .u8 (y3 : Int)) := by rw [cell_of_row w6 _ 4 _ _ _ hr6]; rfl
  have q4 : w6.cell? ⟨w.heap.size + 1, 5, none⟩ = some (.int .u8 (y4 : Int)) := by rw [cell_of_row w6 _ 5 _ _ _ hr6]; rfl
  have q5 : w6.cell? ⟨w.heap.size + 1, 6, none⟩ = some (.int .u8 (y5 : Int)) := by rw [cell_of_row w6 _ 6 _ _ _ hr6]; rfl
  have q6 : w6.cell? ⟨w.heap.size + 1, 7, none⟩ = some (.int .u8 (y6 : Int)) := by rw [cell_of_row w6 _ 7 _ _ _ hr6]; rfl
  have q7 : w6.cell? ⟨w.heap.size + 1, 8, none⟩ = some (.int .u8 (y7 : Int)) := by rw [cell_of_row w6 _ 8 _ _ _ hr6]; rfl
  have hne : ∀ W, (binOp .neq 23 (.agg #[.int .u8 (y0 : Int), .int .u8 (y1 : Int), .int .u8 (y2 : Int), .int .u8 (y3 : Int), .int .u8 (y4 : Int), .int .u8 (y5 : Int), .int .u8 (y6 : Int), .int .u8 (y7 : Int)]) (.agg #[.int .u8 (y0 : Int), .int .u8 (y1 : Int), .int .u8 (y2 : Int), .int .u8 (y3 : Int), .int .u8 (y4 : Int), .int .u8 (y5 : Int), .int .u8 (y6 : Int), .int .u8 (y7 : Int)])).run Try.prog W = .ok (.bool false) W := fun W => by
    have h2 := bytes_neq W 23 8 Try.underlying23 [y0, y1, y2, y3, y4, y5, y6, y7] [y0, y1, y2, y3, y4, y5, y6, y7] rfl rfl
    rw [decide_eq_true rfl] at h2
    exact h2
  have HM6 := Lib.hid (HMx.out _ HX6.out)
  clear hck hvu hb5 hb6 hg6 hz6 hw6 hb46 hr6
  go_wp2_with (refine wpList_store_row rfl 23 _ _ rfl w5.heap.size #[.int .u8 (y0 : Int), .int .u8 (y1 : Int), .int .u8 (y2 : Int), .int .u8 (y3 : Int), .int .u8 (y4 : Int), .int .u8 (y5 : Int), .int .u8 (y6 : Int), .int .u8 (y7 : Int)] rfl rfl 23 #[.int .u8 0, .int .u8 0, .int .u8 0, .int .u8 0, .int .u8 0, .int .u8 0, .int .u8 0, .int .u8 0] HZ6.out HI6.out HS6.out HO6.out ?_; rw [← HW6.out])
  refine HM6.out.mono ?_
  rintro e w7 ⟨rfl, hb7⟩
  have HB7 := Lib.hid (HB6.out.trans (hb7.mono HB6.out.size))
  have HL7 := Lib.hid (HL6.out.trans (hb7.mono HL6.out.size))
  have HX7 := Lib.hid (HX6.out.trans (hb7.mono HX6.out.size))
  clear hb7 p0 p1 p2 p3 p4 p5 p6 p7 q0 q1 q2 q3 q4 q5 q6 q7 hne
  go_wp2_with fail
  go_loopw [13] (fun i wr => ∃ j : Nat, j ≤ n ∧ i = .int .i64 (j : Int) ∧ Below w7.heap.size w7 wr) (fun i _ => n - (intOf i).toNat)
  case atStart => exact ⟨0, Nat.zero_le _, rfl, Below.refl _ _⟩
  case round =>
    obtain ⟨j, hj, rfl, hbr⟩ := hrel
    have HBr := Lib.hid hbr
    have HLr := Lib.hid (HL7.out.trans (hbr.mono HL7.out.size))
    have HXr := Lib.hid (HX7.out.trans (hbr.mono HX7.out.size))
    clear hbr
    by_cases hlt : j < n
    · have hjl : j < a.length := by rw [← HNn.out.1]; exact hlt
      have hji : (j : Int) < (n : Int) := by omega
      have hw1 : IntKind.i64.wrap ((j : Int) + 1) = (j : Int) + 1 := by rw [IntKind.wrap_i64]; omega
      have hsr := HWa.out.below HLr.out
      obtain ⟨b', off, hA, ⟨_, hblt⟩, hc⟩ := hsr.at_.at_ (by omega)
      have hfj := HWa.out.fine a[j] (List.getElem_mem hjl)
      have hgj := (get_at (written_rises HWr.out.1) j hjl).1
      have HAc := Lib.hid (show ∀ i u, (wrv a[j])[i]? = some u → wr.cell? ⟨b', off + j * 9 + i, none⟩ = some u from fun i u hu => hc j hjl i u hu)
      have HBlt := Lib.hid hblt
      have HFj := Lib.hid hfj
      have hgz := HGi.out a[j].1
      rw [hgj] at hgz
      have hcall := HGx.out a[j].1 wr HXr.out hfj.1
      obtain ⟨z, hz⟩ : ∃ z, z = a[j].1 := ⟨_, rfl⟩
      obtain ⟨u, hu⟩ : ∃ u, u = a[j].2 := ⟨_, rfl⟩
      have hc0 : wr.cell? ⟨b', off + j * 9, none⟩ = some (.int .i64 z) := by rw [hz]; exact hc j hjl 0 _ rfl
      have hu8 : u.length = 8 := by rw [hu]; exact hfj.2.1
      rw [← hz, ← hu] at hgz
      rw [← hz] at hcall
      obtain ⟨V, hV⟩ : ∃ V, V = if z = k then [y0, y1, y2, y3, y4, y5, y6, y7] else u := ⟨_, rfl⟩
      have hgV : getW x z = some V := by
        rw [hgz, hV]
        by_cases e : z = k
        · rw [if_pos e, if_pos e]
        · rw [if_neg e, if_neg e]
      have hV8 : V.length = 8 := by
        rw [hV]
        split
        · rfl
        · exact hu8
      have hVu : z ≠ k → a[j].2 = V := fun e => by rw [hV, if_neg e, hu]
      obtain ⟨v0, v1, v2, v3, v4, v5, v6, v7, rfl⟩ := eight8 hV8
      rw [hgV] at hcall
      have HCall := Lib.hid hcall
      have HVu := Lib.hid hVu
      have HAA := Lib.hid hA
      clear hsr hc hfj hgj hgz hcall hz hu hu8 hV hgV hV8 hVu hblt
      subst hA
      go_wp2_with fail
      refine HCall.out.mono ?_
      rintro e w8 ⟨v, rfl, _, hvu, hb8⟩
      obtain rfl : v = [v0, v1, v2, v3, v4, v5, v6, v7] := hvu _ rfl
      obtain ⟨hb9, hg9, hz9⟩ := box_filled w8 #[.int .u8 0, .int .u8 0, .int .u8 0, .int .u8 0, .int .u8 0, .int .u8 0, .int .u8 0, .int .u8 0] #[.int .u8 (v0 : Int), .int .u8 (v1 : Int), .int .u8 (v2 : Int), .int .u8 (v3 : Int), .int .u8 (v4 : Int), .int .u8 (v5 : Int), .int .u8 (v6 : Int), .int .u8 (v7 : Int)] 23
      have HZ9 := Lib.hid (heap_alloc_new w8 (.cells #[.int .u8 0, .int .u8 0, .int .u8 0, .int .u8 0, .int .u8 0, .int .u8 0, .int .u8 0, .int .u8 0] 23))
      obtain ⟨w9, hw9⟩ : ∃ w9, w9 = (w8.alloc (.cells #[.int .u8 0, .int .u8 0, .int .u8 0, .int .u8 0, .int .u8 0, .int .u8 0, .int .u8 0, .int .u8 0] 23)).setRow w8.heap.size #[.int .u8 (v0 : Int), .int .u8 (v1 : Int), .int .u8 (v2 : Int), .int .u8 (v3 : Int), .int .u8 (v4 : Int), .int .u8 (v5 : Int), .int .u8 (v6 : Int), .int .u8 (v7 : Int)] := ⟨_, rfl⟩
      rw [← hw9] at hb9 hg9 hz9
      have HW9 := Lib.hid hw9
      have HI9 := Lib.hid (show (Try.prog.info? 23).map (·.size) = some (#[.int .u8 (v0 : Int), .int .u8 (v1 : Int), .int .u8 (v2 : Int), .int .u8 (v3 : Int), .int .u8 (v4 : Int), .int .u8 (v5 : Int), .int .u8 (v6 : Int), .int .u8 (v7 : Int)] : Array Value).size by kernel_rfl)
      have HS9 := Lib.hid (show (#[.int .u8 0, .int .u8 0, .int .u8 0, .int .u8 0, .int .u8 0, .int .u8 0, .int .u8 0, .int .u8 0] : Array Value).size = (#[.int .u8 (v0 : Int), .int .u8 (v1 : Int), .int .u8 (v2 : Int), .int .u8 (v3 : Int), .int .u8 (v4 : Int), .int .u8 (v5 : Int), .int .u8 (v6 : Int), .int .u8 (v7 : Int)] : Array Value).size from rfl)
      have HO9 := Lib.hid (show (#[.int .u8 (v0 : Int), .int .u8 (v1 : Int), .int .u8 (v2 : Int), .int .u8 (v3 : Int), .int .u8 (v4 : Int), .int .u8 (v5 : Int), .int .u8 (v6 : Int), .int .u8 (v7 : Int)] : Array Value).all (·.oneCell') = true by simp [Value.oneCell'])
      have hb19 := hb8.trans (hb9.mono hb8.size)
      have HB9 := Lib.hid (HBr.out.trans (hb19.mono HBr.out.size))
      have HL9 := Lib.hid (HLr.out.trans (hb19.mono HLr.out.size))
      have hs1 : w9.cell? ⟨b', off + j * 9, none⟩ = some (.int .i64 z) := (hb19.cell HBlt.out).trans hc0
      have hs2 : w9.cell? ⟨w.heap.size + 1, 0, none⟩ = some (.int .i64 k) := by rw [cell_of_row w9 _ 0 _ _ _ (HRow.out _ HL9.out).2]; rfl
      have HAc9 := Lib.hid (show ∀ W, Below w9.heap.size w9 W → ∀ i u, (wrv a[j])[i]? = some u → W.cell? ⟨b', off + j * 9 + i, none⟩ = some u from fun W hW i u hu =>
        (hW.cell (p := ⟨b', _, none⟩) (by have := HBlt.out; have := hb19.size; simp only; omega)).trans ((hb19.cell (p := ⟨b', _, none⟩) HBlt.out).trans (HAc.out i u hu)))
      have HBx9 := Lib.hid (show ∀ W, Below w9.heap.size w9 W → ∀ i u, (vals [v0, v1, v2, v3, v4, v5, v6, v7])[i]? = some u → W.cell? ⟨w8.heap.size, 0 + i, none⟩ = some u from fun W hW i u hu => by
        rw [Nat.zero_add, cell_of_row W _ i _ _ _ ((hW.block _ (by omega)).trans hg9)]
        simpa [vals] using hu)
      have HSS := Lib.hid (And.intro hs1 hs2)
      have HIv := Lib.hid (show (Try.prog.info? 23).map (·.size) = some (vals [v0, v1, v2, v3, v4, v5, v6, v7]).length by kernel_rfl)
      clear hvu hb8 hb9 hg9 hz9 hw9 hb19 hs1 hs2
      go_wp2_with (refine wpList_store_row rfl 23 _ _ rfl w8.heap.size #[.int .u8 (v0 : Int), .int .u8 (v1 : Int), .int .u8 (v2 : Int), .int .u8 (v3 : Int), .int .u8 (v4 : Int), .int .u8 (v5 : Int), .int .u8 (v6 : Int), .int .u8 (v7 : Int)] rfl rfl 23 #[.int .u8 0, .int .u8 0, .int .u8 0, .int .u8 0, .int .u8 0, .int .u8 0, .int .u8 0, .int .u8 0] HZ9.out HI9.out HS9.out HO9.out ?_; rw [← HW9.out])
      by_cases hzk : z = k
      · have hzq : (z != k) = false := by simp [hzk]
        clear hzk
        refine wp_region_held_drew (S := fun W => (Below w9.heap.size w9 W ∧ W.cell? ⟨b', off + j * 9, none⟩ = some (.int .i64 z)) ∧ W.cell? ⟨w.heap.size + 1, 0, none⟩ = some (.int .i64 k)) (by kernel_rfl) ⟨⟨(Below.refl _ _).drew, HSS.out.1⟩, HSS.out.2⟩ (fun hHeld => ?_)
        refine wpAnyH_take (i := 0) (v := ?_) rfl (by kernel_rfl) (by kernel_rfl) (by kernel_rfl) (fun _ _ _ h => h) (Or.inl ⟨by rfl, ?_⟩) (by assumption) ?_
        rotate_left
        · simp only [List.getElem_toArray, List.getElem_cons_zero, List.getElem_cons_succ]; intro W hSw; (try dsimp only at hSw); go_simp; all_goals with_reducible rfl
        simp only [Act.put, List.getElem_toArray, List.getElem_cons_zero, List.getElem_cons_succ, List.setIfInBounds_toArray, List.set_cons_zero, List.set_cons_succ]
        refine wpAnyH_take (i := 1) (v := ?_) rfl (by kernel_rfl) (by kernel_rfl) (by kernel_rfl) (fun _ _ _ h => h) (Or.inl ⟨by rfl, ?_⟩) (by assumption) ?_
        rotate_left
        · simp only [List.getElem_toArray, List.getElem_cons_zero, List.getElem_cons_succ]; intro W hSw; (try dsimp only at hSw); go_simp; all_goals with_reducible rfl
        simp only [Act.put, List.getElem_toArray, List.getElem_cons_zero, List.getElem_cons_succ, List.setIfInBounds_toArray, List.set_cons_zero, List.set_cons_succ]
        refine wpAnyH_take (i := 2) (v := ?_) rfl (by kernel_rfl) (by kernel_rfl) (by kernel_rfl) (fun _ _ _ h => h) (Or.inl ⟨by rfl, ?_⟩) (by assumption) ?_
        rotate_left
        · simp only [List.getElem_toArray, List.getElem_cons_zero, List.getElem_cons_succ]; intro W hSw; (try dsimp only at hSw); go_simp; all_goals with_reducible rfl
        simp only [Act.put, List.getElem_toArray, List.getElem_cons_zero, List.getElem_cons_succ, List.setIfInBounds_toArray, List.set_cons_zero, List.set_cons_succ]
        refine wpAnyH_take (i := 3) (v := ?_) rfl (by kernel_rfl) (by kernel_rfl) (by kernel_rfl) (fun _ _ _ h => h) (Or.inl ⟨by rfl, ?_⟩) (by assumption) ?_
        rotate_left
        · simp only [List.getElem_toArray, List.getElem_cons_zero, List.getElem_cons_succ]; intro W hSw; (try dsimp only at hSw); go_simp; all_goals with_reducible rfl
        simp only [Act.put, List.getElem_toArray, List.getElem_cons_zero, List.getElem_cons_succ, List.setIfInBounds_toArray, List.set_cons_zero, List.set_cons_succ]
        refine wpAnyH_take (i := 4) (v := ?_) rfl (by kernel_rfl) (by kernel_rfl) (by kernel_rfl) (fun _ _ _ h => h) (Or.inl ⟨by rfl, ?_⟩) (by assumption) ?_
        rotate_left
        · simp only [List.getElem_toArray, List.getElem_cons_zero, List.getElem_cons_succ]; intro W hSw; (try dsimp only at hSw); go_simp; all_goals with_reducible rfl
        simp only [Act.put, List.getElem_toArray, List.getElem_cons_zero, List.getElem_cons_succ, List.setIfInBounds_toArray, List.set_cons_zero, List.set_cons_succ]
        refine wpAnyH_take (i := 5) (v := ?_) rfl (by kernel_rfl) (by kernel_rfl) (by kernel_rfl) (fun _ _ _ h => h) (Or.inl ⟨by rfl, ?_⟩) (by assumption) ?_
        rotate_left
        · simp only [List.getElem_toArray, List.getElem_cons_zero, List.getElem_cons_succ]; intro W hSw; (try dsimp only at hSw); go_simp; all_goals with_reducible rfl
        simp only [Act.put, List.getElem_toArray, List.getElem_cons_zero, List.getElem_cons_succ, List.setIfInBounds_toArray, List.set_cons_zero, List.set_cons_succ]
        refine wpAnyH_take (i := 6) (v := ?_) rfl (by kernel_rfl) (by kernel_rfl) (by kernel_rfl) (fun _ _ _ h => h) (Or.inl ⟨by rfl, ?_⟩) (by assumption) ?_
        rotate_left
        · simp only [List.getElem_toArray, List.getElem_cons_zero, List.getElem_cons_succ]; intro W hSw; (try dsimp only at hSw); go_simp; all_goals with_reducible rfl
        simp only [Act.put, List.getElem_toArray, List.getElem_cons_zero, List.getElem_cons_succ, List.setIfInBounds_toArray, List.set_cons_zero, List.set_cons_succ]
        refine wpAnyH_take (i := 7) (v := ?_) rfl (by kernel_rfl) (by kernel_rfl) (by kernel_rfl) (fun _ _ _ h => h) (Or.inl ⟨by rfl, ?_⟩) (by assumption) ?_
        rotate_left
        · simp only [List.getElem_toArray, List.getElem_cons_zero, List.getElem_cons_succ]; intro W hSw; (try dsimp only at hSw); go_simp; all_goals with_reducible rfl
        simp only [Act.put, List.getElem_toArray, List.getElem_cons_zero, List.getElem_cons_succ, List.setIfInBounds_toArray, List.set_cons_zero, List.set_cons_succ]
        refine wpAnyH_take (i := 8) (v := ?_) rfl (by kernel_rfl) (by kernel_rfl) (by kernel_rfl) (fun _ _ _ h => h) (Or.inl ⟨by rfl, ?_⟩) (by assumption) ?_
        rotate_left
        · simp only [List.getElem_toArray, List.getElem_cons_zero, List.getElem_cons_succ]; intro W hSw; (try dsimp only at hSw); go_simp; all_goals with_reducible rfl
        simp only [Act.put, List.getElem_toArray, List.getElem_cons_zero, List.getElem_cons_succ, List.setIfInBounds_toArray, List.set_cons_zero, List.set_cons_succ]
        refine wpAnyH_take (i := 9) (v := ?_) rfl (by kernel_rfl) (by kernel_rfl) (by kernel_rfl) (fun _ _ _ h => h) (Or.inl ⟨by rfl, ?_⟩) (by assumption) ?_
        rotate_left
        · simp only [List.getElem_toArray, List.getElem_cons_zero, List.getElem_cons_succ]; intro W hSw; (try dsimp only at hSw); go_simp; all_goals with_reducible rfl
        simp only [Act.put, List.getElem_toArray, List.getElem_cons_zero, List.getElem_cons_succ, List.setIfInBounds_toArray, List.set_cons_zero, List.set_cons_succ]
        refine wpAnyH_take (i := 10) (v := ?_) rfl (by kernel_rfl) (by kernel_rfl) (by kernel_rfl) (fun _ _ _ h => h) (Or.inl ⟨by rfl, ?_⟩) (by assumption) ?_
        rotate_left
        · simp only [List.getElem_toArray, List.getElem_cons_zero, List.getElem_cons_succ]; intro W hSw; (try dsimp only at hSw); go_simp; all_goals with_reducible rfl
        simp only [Act.put, List.getElem_toArray, List.getElem_cons_zero, List.getElem_cons_succ, List.setIfInBounds_toArray, List.set_cons_zero, List.set_cons_succ]
        refine wpAnyH_take (i := 11) (v := ?_) rfl (by kernel_rfl) (by kernel_rfl) (by kernel_rfl) (fun _ _ _ h => h) (Or.inl ⟨by rfl, ?_⟩) (by assumption) ?_
        rotate_left
        · simp only [List.getElem_toArray, List.getElem_cons_zero, List.getElem_cons_succ]; intro W hSw; (try dsimp only at hSw); go_simp; all_goals with_reducible rfl
        simp only [Act.put, List.getElem_toArray, List.getElem_cons_zero, List.getElem_cons_succ, List.setIfInBounds_toArray, List.set_cons_zero, List.set_cons_succ]
        refine wpAnyH_take (i := 12) (v := undef) rfl (by kernel_rfl) (by kernel_rfl) (by kernel_rfl) (fun _ _ _ h => h) (Or.inr ⟨by rfl, rfl⟩) (by assumption) ?_
        (try simp only [Act.put, List.getElem_toArray, List.getElem_cons_zero, List.getElem_cons_succ, List.setIfInBounds_toArray, List.set_cons_zero, List.set_cons_succ])
        refine wpAnyH_take (i := 13) (v := undef) rfl (by kernel_rfl) (by kernel_rfl) (by kernel_rfl) (fun _ _ _ h => h) (Or.inr ⟨by rfl, rfl⟩) (by assumption) ?_
        (try simp only [Act.put, List.getElem_toArray, List.getElem_cons_zero, List.getElem_cons_succ, List.setIfInBounds_toArray, List.set_cons_zero, List.set_cons_succ])
        refine wpAnyH_take (i := 14) (v := undef) rfl (by kernel_rfl) (by kernel_rfl) (by kernel_rfl) (fun _ _ _ h => h) (Or.inr ⟨by rfl, rfl⟩) (by assumption) ?_
        (try simp only [Act.put, List.getElem_toArray, List.getElem_cons_zero, List.getElem_cons_succ, List.setIfInBounds_toArray, List.set_cons_zero, List.set_cons_succ])
        refine wpAnyH_take (i := 15) (v := undef) rfl (by kernel_rfl) (by kernel_rfl) (by kernel_rfl) (fun _ _ _ h => h) (Or.inr ⟨by rfl, rfl⟩) (by assumption) ?_
        (try simp only [Act.put, List.getElem_toArray, List.getElem_cons_zero, List.getElem_cons_succ, List.setIfInBounds_toArray, List.set_cons_zero, List.set_cons_succ])
        refine wpAnyH_take (i := 16) (v := undef) rfl (by kernel_rfl) (by kernel_rfl) (by kernel_rfl) (fun _ _ _ h => h) (Or.inr ⟨by rfl, rfl⟩) (by assumption) ?_
        (try simp only [Act.put, List.getElem_toArray, List.getElem_cons_zero, List.getElem_cons_succ, List.setIfInBounds_toArray, List.set_cons_zero, List.set_cons_succ])
        refine wpAnyH_take (i := 17) (v := undef) rfl (by kernel_rfl) (by kernel_rfl) (by kernel_rfl) (fun _ _ _ h => h) (Or.inr ⟨by rfl, rfl⟩) (by assumption) ?_
        (try simp only [Act.put, List.getElem_toArray, List.getElem_cons_zero, List.getElem_cons_succ, List.setIfInBounds_toArray, List.set_cons_zero, List.set_cons_succ])
        refine wpAnyH_take (i := 18) (v := undef) rfl (by kernel_rfl) (by kernel_rfl) (by kernel_rfl) (fun _ _ _ h => h) (Or.inr ⟨by rfl, rfl⟩) (by assumption) ?_
        (try simp only [Act.put, List.getElem_toArray, List.getElem_cons_zero, List.getElem_cons_succ, List.setIfInBounds_toArray, List.set_cons_zero, List.set_cons_succ])
        refine wpAnyH_take (i := 19) (v := ?_) rfl (by kernel_rfl) (by kernel_rfl) (by kernel_rfl) (fun _ _ _ h => h) (Or.inl ⟨by rfl, ?_⟩) (by assumption) ?_
        rotate_left
        · simp only [List.getElem_toArray, List.getElem_cons_zero, List.getElem_cons_succ]; intro W hSw; (try dsimp only at hSw); go_simp; all_goals with_reducible rfl
        simp only [Act.put, List.getElem_toArray, List.getElem_cons_zero, List.getElem_cons_succ, List.setIfInBounds_toArray, List.set_cons_zero, List.set_cons_succ]
        refine wpAnyH_take (i := 20) (v := ?_) rfl (by kernel_rfl) (by kernel_rfl) (by kernel_rfl) (fun _ _ _ h => h) (Or.inl ⟨by rfl, ?_⟩) (by assumption) ?_
        rotate_left
        · simp only [List.getElem_toArray, List.getElem_cons_zero, List.getElem_cons_succ]; intro W hSw; (try dsimp only at hSw); go_simp; all_goals with_reducible rfl
        simp only [Act.put, List.getElem_toArray, List.getElem_cons_zero, List.getElem_cons_succ, List.setIfInBounds_toArray, List.set_cons_zero, List.set_cons_succ]
        refine wpAnyH_done (by kernel_rfl) ?_ _
        go_wp2_with fail
        go_roundw
        case rel => exact ⟨j + 1, by omega, by simp, HB9.out.drew⟩
        case measure => simp [intOf]; omega
      · have hzq : (z != k) = true := by simp [hzk]
        have hne : ∀ W, (binOp .neq 23 (.agg (vals [v0, v1, v2, v3, v4, v5, v6, v7]).toArray) (.agg (vals [v0, v1, v2, v3, v4, v5, v6, v7]).toArray)).run Try.prog W = .ok (.bool false) W := fun W => by
          have h2 := bytes_neq W 23 8 Try.underlying23 [v0, v1, v2, v3, v4, v5, v6, v7] [v0, v1, v2, v3, v4, v5, v6, v7] rfl rfl
          rw [decide_eq_true rfl] at h2
          exact h2
        have HAc10 := Lib.hid (show ∀ W, Below w9.heap.size w9 W → ∀ i u, (vals [v0, v1, v2, v3, v4, v5, v6, v7])[i]? = some u → W.cell? ⟨b', off + j * 9 + 1 + i, none⟩ = some u from fun W hW i u hu => by
          have h2 := HAc9.out W hW (1 + i) u (by
            unfold wrv
            rw [Nat.add_comm 1 i, List.getElem?_cons_succ, HVu.out hzk]
            exact hu)
          rw [Nat.add_assoc]
          exact h2)
        clear hzk
        refine wp_region_held_drew (S := fun W => (Below w9.heap.size w9 W ∧ W.cell? ⟨b', off + j * 9, none⟩ = some (.int .i64 z)) ∧ W.cell? ⟨w.heap.size + 1, 0, none⟩ = some (.int .i64 k)) (by kernel_rfl) ⟨⟨(Below.refl _ _).drew, HSS.out.1⟩, HSS.out.2⟩ (fun hHeld => ?_)
        refine wpAnyH_take (i := 0) (v := ?_) rfl (by kernel_rfl) (by kernel_rfl) (by kernel_rfl) (fun _ _ _ h => h) (Or.inl ⟨by rfl, ?_⟩) (by assumption) ?_
        rotate_left
        · simp only [List.getElem_toArray, List.getElem_cons_zero, List.getElem_cons_succ]; intro W hSw; (try dsimp only at hSw); go_simp; all_goals with_reducible rfl
        simp only [Act.put, List.getElem_toArray, List.getElem_cons_zero, List.getElem_cons_succ, List.setIfInBounds_toArray, List.set_cons_zero, List.set_cons_succ]
        refine wpAnyH_take (i := 1) (v := ?_) rfl (by kernel_rfl) (by kernel_rfl) (by kernel_rfl) (fun _ _ _ h => h) (Or.inl ⟨by rfl, ?_⟩) (by assumption) ?_
        rotate_left
        · simp only [List.getElem_toArray, List.getElem_cons_zero, List.getElem_cons_succ]; intro W hSw; (try dsimp only at hSw); go_simp; all_goals with_reducible rfl
        simp only [Act.put, List.getElem_toArray, List.getElem_cons_zero, List.getElem_cons_succ, List.setIfInBounds_toArray, List.set_cons_zero, List.set_cons_succ]
        refine wpAnyH_take (i := 2) (v := ?_) rfl (by kernel_rfl) (by kernel_rfl) (by kernel_rfl) (fun _ _ _ h => h) (Or.inl ⟨by rfl, ?_⟩) (by assumption) ?_
        rotate_left
        · simp only [List.getElem_toArray, List.getElem_cons_zero, List.getElem_cons_succ]; intro W hSw; (try dsimp only at hSw); go_simp; all_goals with_reducible rfl
        simp only [Act.put, List.getElem_toArray, List.getElem_cons_zero, List.getElem_cons_succ, List.setIfInBounds_toArray, List.set_cons_zero, List.set_cons_succ]
        refine wpAnyH_take (i := 3) (v := ?_) rfl (by kernel_rfl) (by kernel_rfl) (by kernel_rfl) (fun _ _ _ h => h) (Or.inl ⟨by rfl, ?_⟩) (by assumption) ?_
        rotate_left
        · simp only [List.getElem_toArray, List.getElem_cons_zero, List.getElem_cons_succ]; intro W hSw; (try dsimp only at hSw); go_simp; all_goals with_reducible rfl
        simp only [Act.put, List.getElem_toArray, List.getElem_cons_zero, List.getElem_cons_succ, List.setIfInBounds_toArray, List.set_cons_zero, List.set_cons_succ]
        refine wpAnyH_take (i := 4) (v := ?_) rfl (by kernel_rfl) (by kernel_rfl) (by kernel_rfl) (fun _ _ _ h => h) (Or.inl ⟨by rfl, ?_⟩) (by assumption) ?_
        rotate_left
        · simp only [List.getElem_toArray, List.getElem_cons_zero, List.getElem_cons_succ]; intro W hSw; (try dsimp only at hSw); go_simp; all_goals with_reducible rfl
        simp only [Act.put, List.getElem_toArray, List.getElem_cons_zero, List.getElem_cons_succ, List.setIfInBounds_toArray, List.set_cons_zero, List.set_cons_succ]
        refine wpAnyH_take (i := 5) (v := ?_) rfl (by kernel_rfl) (by kernel_rfl) (by kernel_rfl) (fun _ _ _ h => h) (Or.inl ⟨by rfl, ?_⟩) (by assumption) ?_
        rotate_left
        · simp only [List.getElem_toArray, List.getElem_cons_zero, List.getElem_cons_succ]; intro W hSw; (try dsimp only at hSw); go_simp; all_goals with_reducible rfl
        simp only [Act.put, List.getElem_toArray, List.getElem_cons_zero, List.getElem_cons_succ, List.setIfInBounds_toArray, List.set_cons_zero, List.set_cons_succ]
        refine wpAnyH_take (i := 6) (v := ?_) rfl (by kernel_rfl) (by kernel_rfl) (by kernel_rfl) (fun _ _ _ h => h) (Or.inl ⟨by rfl, ?_⟩) (by assumption) ?_
        rotate_left
        · simp only [List.getElem_toArray, List.getElem_cons_zero, List.getElem_cons_succ]; intro W hSw; (try dsimp only at hSw); go_simp; all_goals with_reducible rfl
        simp only [Act.put, List.getElem_toArray, List.getElem_cons_zero, List.getElem_cons_succ, List.setIfInBounds_toArray, List.set_cons_zero, List.set_cons_succ]
        refine wpAnyH_take (i := 7) (v := ?_) rfl (by kernel_rfl) (by kernel_rfl) (by kernel_rfl) (fun _ _ _ h => h) (Or.inl ⟨by rfl, ?_⟩) (by assumption) ?_
        rotate_left
        · simp only [List.getElem_toArray, List.getElem_cons_zero, List.getElem_cons_succ]; intro W hSw; (try dsimp only at hSw); go_simp; all_goals with_reducible rfl
        simp only [Act.put, List.getElem_toArray, List.getElem_cons_zero, List.getElem_cons_succ, List.setIfInBounds_toArray, List.set_cons_zero, List.set_cons_succ]
        refine wpAnyH_take (i := 8) (v := ?_) rfl (by kernel_rfl) (by kernel_rfl) (by kernel_rfl) (fun _ _ _ h => h) (Or.inl ⟨by rfl, ?_⟩) (by assumption) ?_
        rotate_left
        · simp only [List.getElem_toArray, List.getElem_cons_zero, List.getElem_cons_succ]; intro W hSw; (try dsimp only at hSw); go_simp; all_goals with_reducible rfl
        simp only [Act.put, List.getElem_toArray, List.getElem_cons_zero, List.getElem_cons_succ, List.setIfInBounds_toArray, List.set_cons_zero, List.set_cons_succ]
        refine wpAnyH_take (i := 9) (v := ?_) rfl (by kernel_rfl) (by kernel_rfl) (by kernel_rfl) (fun _ _ _ h => h) (Or.inl ⟨by rfl, ?_⟩) (by assumption) ?_
        rotate_left
        · simp only [List.getElem_toArray, List.getElem_cons_zero, List.getElem_cons_succ]; intro W hSw; (try dsimp only at hSw); go_simp; all_goals with_reducible rfl
        simp only [Act.put, List.getElem_toArray, List.getElem_cons_zero, List.getElem_cons_succ, List.setIfInBounds_toArray, List.set_cons_zero, List.set_cons_succ]
        refine wpAnyH_take (i := 10) (v := ?_) rfl (by kernel_rfl) (by kernel_rfl) (by kernel_rfl) (fun _ _ _ h => h) (Or.inl ⟨by rfl, ?_⟩) (by assumption) ?_
        rotate_left
        · simp only [List.getElem_toArray, List.getElem_cons_zero, List.getElem_cons_succ]; intro W hSw; (try dsimp only at hSw); go_simp; all_goals with_reducible rfl
        simp only [Act.put, List.getElem_toArray, List.getElem_cons_zero, List.getElem_cons_succ, List.setIfInBounds_toArray, List.set_cons_zero, List.set_cons_succ]
        refine wpAnyH_take (i := 11) (v := ?_) rfl (by kernel_rfl) (by kernel_rfl) (by kernel_rfl) (fun _ _ _ h => h) (Or.inl ⟨by rfl, ?_⟩) (by assumption) ?_
        rotate_left
        · simp only [List.getElem_toArray, List.getElem_cons_zero, List.getElem_cons_succ]; intro W hSw; (try dsimp only at hSw); go_simp; all_goals with_reducible rfl
        simp only [Act.put, List.getElem_toArray, List.getElem_cons_zero, List.getElem_cons_succ, List.setIfInBounds_toArray, List.set_cons_zero, List.set_cons_succ]
        refine wpAnyH_take (i := 12) (v := ?_) rfl (by kernel_rfl) (by kernel_rfl) (by kernel_rfl) (fun _ _ _ h => h) (Or.inl ⟨by rfl, ?_⟩) (by assumption) ?_
        rotate_left
        · simp only [List.getElem_toArray, List.getElem_cons_zero, List.getElem_cons_succ]; intro W hSw; (try dsimp only at hSw); refine exec_load_part 23 (.tmp 14) ?_ w8.heap.size 0 ?_ (vals [v0, v1, v2, v3, v4, v5, v6, v7]) _ (HBx9.out W hSw.1.1) Try.underlying23 ?_ HIv.out <;> rfl
        simp only [Act.put, List.getElem_toArray, List.getElem_cons_zero, List.getElem_cons_succ, List.setIfInBounds_toArray, List.set_cons_zero, List.set_cons_succ]
        refine wpAnyH_take (i := 13) (v := ?_) rfl (by kernel_rfl) (by kernel_rfl) (by kernel_rfl) (fun _ _ _ h => h) (Or.inl ⟨by rfl, ?_⟩) (by assumption) ?_
        rotate_left
        · simp only [List.getElem_toArray, List.getElem_cons_zero, List.getElem_cons_succ]; intro W hSw; (try dsimp only at hSw); go_simp; all_goals with_reducible rfl
        simp only [Act.put, List.getElem_toArray, List.getElem_cons_zero, List.getElem_cons_succ, List.setIfInBounds_toArray, List.set_cons_zero, List.set_cons_succ]
        refine wpAnyH_take (i := 14) (v := ?_) rfl (by kernel_rfl) (by kernel_rfl) (by kernel_rfl) (fun _ _ _ h => h) (Or.inl ⟨by rfl, ?_⟩) (by assumption) ?_
        rotate_left
        · simp only [List.getElem_toArray, List.getElem_cons_zero, List.getElem_cons_succ]; intro W hSw; (try dsimp only at hSw); go_simp; all_goals with_reducible rfl
        simp only [Act.put, List.getElem_toArray, List.getElem_cons_zero, List.getElem_cons_succ, List.setIfInBounds_toArray, List.set_cons_zero, List.set_cons_succ]
        refine wpAnyH_take (i := 15) (v := ?_) rfl (by kernel_rfl) (by kernel_rfl) (by kernel_rfl) (fun _ _ _ h => h) (Or.inl ⟨by rfl, ?_⟩) (by assumption) ?_
        rotate_left
        · simp only [List.getElem_toArray, List.getElem_cons_zero, List.getElem_cons_succ]; intro W hSw; (try dsimp only at hSw); go_simp; all_goals with_reducible rfl
        simp only [Act.put, List.getElem_toArray, List.getElem_cons_zero, List.getElem_cons_succ, List.setIfInBounds_toArray, List.set_cons_zero, List.set_cons_succ]
        refine wpAnyH_take (i := 16) (v := ?_) rfl (by kernel_rfl) (by kernel_rfl) (by kernel_rfl) (fun _ _ _ h => h) (Or.inl ⟨by rfl, ?_⟩) (by assumption) ?_
        rotate_left
        · simp only [List.getElem_toArray, List.getElem_cons_zero, List.getElem_cons_succ]; intro W hSw; (try dsimp only at hSw); go_simp; all_goals with_reducible rfl
        simp only [Act.put, List.getElem_toArray, List.getElem_cons_zero, List.getElem_cons_succ, List.setIfInBounds_toArray, List.set_cons_zero, List.set_cons_succ]
        refine wpAnyH_take (i := 17) (v := ?_) rfl (by kernel_rfl) (by kernel_rfl) (by kernel_rfl) (fun _ _ _ h => h) (Or.inl ⟨by rfl, ?_⟩) (by assumption) ?_
        rotate_left
        · simp only [List.getElem_toArray, List.getElem_cons_zero, List.getElem_cons_succ]; intro W hSw; (try dsimp only at hSw); refine exec_load_part 23 (.tmp 87) ?_ b' (off + j * 9 + 1) ?_ (vals [v0, v1, v2, v3, v4, v5, v6, v7]) _ (HAc10.out W hSw.1.1) Try.underlying23 ?_ HIv.out <;> rfl
        simp only [Act.put, List.getElem_toArray, List.getElem_cons_zero, List.getElem_cons_succ, List.setIfInBounds_toArray, List.set_cons_zero, List.set_cons_succ]
        refine wpAnyH_take (i := 18) (v := ?_) rfl (by kernel_rfl) (by kernel_rfl) (by kernel_rfl) (fun _ _ _ h => h) (Or.inl ⟨by rfl, ?_⟩) (by assumption) ?_
        rotate_left
        · simp only [List.getElem_toArray, List.getElem_cons_zero, List.getElem_cons_succ]; intro W hSw; (try dsimp only at hSw); go_simp; all_goals with_reducible rfl
        simp only [Act.put, List.getElem_toArray, List.getElem_cons_zero, List.getElem_cons_succ, List.setIfInBounds_toArray, List.set_cons_zero, List.set_cons_succ]
        refine wpAnyH_take (i := 19) (v := ?_) rfl (by kernel_rfl) (by kernel_rfl) (by kernel_rfl) (fun _ _ _ h => h) (Or.inl ⟨by rfl, ?_⟩) (by assumption) ?_
        rotate_left
        · simp only [List.getElem_toArray, List.getElem_cons_zero, List.getElem_cons_succ]; intro W hSw; (try dsimp only at hSw); go_simp; all_goals with_reducible rfl
        simp only [Act.put, List.getElem_toArray, List.getElem_cons_zero, List.getElem_cons_succ, List.setIfInBounds_toArray, List.set_cons_zero, List.set_cons_succ]
        refine wpAnyH_take (i := 20) (v := ?_) rfl (by kernel_rfl) (by kernel_rfl) (by kernel_rfl) (fun _ _ _ h => h) (Or.inl ⟨by rfl, ?_⟩) (by assumption) ?_
        rotate_left
        · simp only [List.getElem_toArray, List.getElem_cons_zero, List.getElem_cons_succ]; intro W hSw; (try dsimp only at hSw); go_simp; all_goals with_reducible rfl
        simp only [Act.put, List.getElem_toArray, List.getElem_cons_zero, List.getElem_cons_succ, List.setIfInBounds_toArray, List.set_cons_zero, List.set_cons_succ]
        refine wpAnyH_done (by kernel_rfl) ?_ _
        go_wp2_with fail
        go_roundw
        case rel => exact ⟨j + 1, by omega, by simp, HB9.out.drew⟩
        case measure => simp [intOf]; omega
    · obtain rfl : j = n := by omega
      have hji : ¬ (j : Int) < (j : Int) := by omega
      have hw1 : IntKind.i64.wrap ((j : Int) + 1) = (j : Int) + 1 := by rw [IntKind.wrap_i64]; omega
      have hpn : ¬ (j : Int) + 1 < (p : Int) := by omega
      have HBt := Lib.hid (HB7.out.trans (HBr.out.mono HB7.out.size))
      have HOvW := Lib.hid (HOver.out wr ((HWa.out.below HLr.out)) (HWb.out.below HLr.out))
      go_wp2_with fail
      refine HOvW.out.mono ?_
      rintro e w20 ⟨A20, c20, rfl, hm20, hb20⟩
      have HB20 := Lib.hid (HBt.out.trans (hb20.mono HBt.out.size))
      have HL20 := Lib.hid (HLr.out.trans (hb20.mono HLr.out.size))
      have HM20 := Lib.hid (hm20.mono (P' := fun _ => True) fun _ _ _ => trivial)
      clear hm20 hb20
      by_cases hov : overE a b = 0
      · have hfo : (foldE a b).1 = 0 := by
          have h := hov
          unfold overE at h
          rw [HWr.out.1, HWr.out.2] at h
          simpa using h
        have hmw : overW a b = (foldE a b).2 := by unfold overW; rw [HWr.out.1, HWr.out.2]; rfl
        obtain ⟨q1, q2⟩ := fold_on h (written_rises HWr.out.1 |> fun _ => HWr.out.1) (written_rises HWr.out.2) hfo
        rw [← hmw] at q1 q2
        have hmf : WrFine (overW a b) := over_fine HWa.out.fine HWb.out.fine
        obtain ⟨m, hm⟩ : ∃ m, m = overW a b := ⟨_, rfl⟩
        rw [← hm] at q1 q2 hmf HM20 ⊢
        rw [hov]
        have HWm := Lib.hid (show ∀ W, Below w20.heap.size w20 W → WsAt W A20 c20 m from fun W hW => ⟨HM20.out.below hW, hmf, by have := written_len q1; omega⟩)
        have HMw := Lib.hid (fun W (hW : Below w20.heap.size w20 W) => written_wide m A20 c20 W (HM20.out.below hW))
        rw [q1] at HMw
        have HOn1 := Lib.hid (fun W (hW : Below w20.heap.size w20 W) => HOn.out h m A20 c20 W (HWm.out W hW) HH.out)
        have HOn2 := Lib.hid (fun W (hW : Below w20.heap.size w20 W) => HOn.out h a A c W (HWa.out.below (HL20.out.trans (hW.mono HL20.out.size))) HH.out)
        have HOn3 := Lib.hid (fun W (hW : Below w20.heap.size w20 W) => HOn.out (onW h a) b B d W (HWb.out.below (HL20.out.trans (hW.mono HL20.out.size))) (on_fine HH.out HWa.out.fine))
        have eqv : hv (onW h m) = hv (onW (onW h a) b) := hv_congr q2
        rw [eqv] at HOn1
        have hEq := fun W => home_eq W (on_fine (on_fine HH.out HWa.out.fine) HWb.out.fine)
        have HHome := Lib.hid (show ∀ W, Below w20.heap.size w20 W → ∀ j u, (hv h)[j]? = some u → W.cell? ⟨w.heap.size, 0 + j, none⟩ = some u from fun W hW j u hu => by
          rw [Nat.zero_add, cell_of_row W _ j _ _ _ (HRow.out W (HL20.out.trans (hW.mono HL20.out.size))).1]
          simpa using hu)
        have HHs := Lib.hid (home_size HH.out)
        have HNa := Lib.hid (show _ = a.length from HNn.out.1)
        rw [← HNn.out.1] at HOn2
        rw [← HNn.out.2] at HOn3
        obtain ⟨r1, hr1⟩ : ∃ r1, r1 = (hv (onW (onW h a) b)).toArray := ⟨_, rfl⟩
        obtain ⟨r2, hr2⟩ : ∃ r2, r2 = (hv (onW h a)).toArray := ⟨_, rfl⟩
        rw [← hr1] at HOn1 HOn3 hEq
        rw [← hr2] at HOn2 HOn3
        obtain ⟨mn, hmn⟩ : ∃ mn, mn = m.length := ⟨_, rfl⟩
        rw [← hmn] at HOn1 HMw ⊢
        clear hfo hmw q1 q2 hmf hm hov eqv hr1 hr2 hmn
        go_wp2_with fail
        refine wp_region_held_drew (S := fun W => Below w20.heap.size w20 W) (by kernel_rfl) (Below.refl _ _).drew (fun hHeld => ?_)
        refine wpAnyH_take (i := 0) (v := ?_) rfl (by kernel_rfl) (by kernel_rfl) (by kernel_rfl) (fun _ _ _ h => h) (Or.inl ⟨by rfl, ?_⟩) (by assumption) ?_
        rotate_left
        · simp only [List.getElem_toArray, List.getElem_cons_zero, List.getElem_cons_succ]; intro W hSw; (try dsimp only at hSw); go_simp; all_goals with_reducible rfl
        simp only [Act.put, List.getElem_toArray, List.getElem_cons_zero, List.getElem_cons_succ, List.setIfInBounds_toArray, List.set_cons_zero, List.set_cons_succ]
        refine wpAnyH_ready (rs := [1]) (by kernel_rfl) (by simp) ?_
        refine AllReadyH.cons rfl (fun K hK => ?_) AllReadyH.nil
        simp only [List.getElem_toArray, List.getElem_cons_zero, List.getElem_cons_succ]
        go_simp
        refine (HMw.out _ (Below.refl _ _).drew).mono ?_
        rintro e w21 ⟨rfl, hb21⟩
        have HB21 := Lib.hid ((Below.refl w20.heap.size w20).drew.trans (hb21.mono (Nat.le_refl _)))
        clear hb21
        go_wp2_with fail
        refine hK.out _ _ (HB21.out) (fun hHeldN => ?_)
        clear hK K hHeld
        have hHeld := hHeldN
        clear hHeldN
        (try simp only [Act.put, List.getElem_toArray, List.getElem_cons_zero, List.getElem_cons_succ, List.setIfInBounds_toArray, List.set_cons_zero, List.set_cons_succ])
        refine wpAnyH_take (i := 2) (v := ?_) rfl (by kernel_rfl) (by kernel_rfl) (by kernel_rfl) (fun _ _ _ h => h) (Or.inl ⟨by rfl, ?_⟩) (by assumption) ?_
        rotate_left
        · simp only [List.getElem_toArray, List.getElem_cons_zero, List.getElem_cons_succ]; intro W hSw; (try dsimp only at hSw); go_simp; all_goals with_reducible rfl
        simp only [Act.put, List.getElem_toArray, List.getElem_cons_zero, List.getElem_cons_succ, List.setIfInBounds_toArray, List.set_cons_zero, List.set_cons_succ]
        refine wpAnyH_take (i := 3) (v := ?_) rfl (by kernel_rfl) (by kernel_rfl) (by kernel_rfl) (fun _ _ _ h => h) (Or.inl ⟨by rfl, ?_⟩) (by assumption) ?_
        rotate_left
        · simp only [List.getElem_toArray, List.getElem_cons_zero, List.getElem_cons_succ]; intro W hSw; (try dsimp only at hSw); refine exec_load_part 24 (.tmp 4) ?_ w.heap.size 0 ?_ (hv h) _ (HHome.out W hSw) Try.underlying24 ?_ HHs.out <;> rfl
        simp only [Act.put, List.getElem_toArray, List.getElem_cons_zero, List.getElem_cons_succ, List.setIfInBounds_toArray, List.set_cons_zero, List.set_cons_succ]
        refine wpAnyH_take (i := 4) (v := ?_) rfl (by kernel_rfl) (by kernel_rfl) (by kernel_rfl) (fun _ _ _ h => h) (Or.inl ⟨by rfl, ?_⟩) (by assumption) ?_
        rotate_left
        · simp only [List.getElem_toArray, List.getElem_cons_zero, List.getElem_cons_succ]; intro W hSw; (try dsimp only at hSw); go_simp; all_goals with_reducible rfl
        simp only [Act.put, List.getElem_toArray, List.getElem_cons_zero, List.getElem_cons_succ, List.setIfInBounds_toArray, List.set_cons_zero, List.set_cons_succ]
        refine wpAnyH_take (i := 6) (v := ?_) rfl (by kernel_rfl) (by kernel_rfl) (by kernel_rfl) (fun _ _ _ h => h) (Or.inl ⟨by rfl, ?_⟩) (by assumption) ?_
        rotate_left
        · simp only [List.getElem_toArray, List.getElem_cons_zero, List.getElem_cons_succ]; intro W hSw; (try dsimp only at hSw); refine exec_load_part 24 (.tmp 4) ?_ w.heap.size 0 ?_ (hv h) _ (HHome.out W hSw) Try.underlying24 ?_ HHs.out <;> rfl
        simp only [Act.put, List.getElem_toArray, List.getElem_cons_zero, List.getElem_cons_succ, List.setIfInBounds_toArray, List.set_cons_zero, List.set_cons_succ]
        refine wpAnyH_take (i := 7) (v := ?_) rfl (by kernel_rfl) (by kernel_rfl) (by kernel_rfl) (fun _ _ _ h => h) (Or.inl ⟨by rfl, ?_⟩) (by assumption) ?_
        rotate_left
        · simp only [List.getElem_toArray, List.getElem_cons_zero, List.getElem_cons_succ]; intro W hSw; (try dsimp only at hSw); go_simp; all_goals with_reducible rfl
        simp only [Act.put, List.getElem_toArray, List.getElem_cons_zero, List.getElem_cons_succ, List.setIfInBounds_toArray, List.set_cons_zero, List.set_cons_succ]
        refine wpAnyH_take (i := 9) (v := ?_) rfl (by kernel_rfl) (by kernel_rfl) (by kernel_rfl) (fun _ _ _ h => h) (Or.inl ⟨by rfl, ?_⟩) (by assumption) ?_
        rotate_left
        · simp only [List.getElem_toArray, List.getElem_cons_zero, List.getElem_cons_succ]; intro W hSw; (try dsimp only at hSw); go_simp; all_goals with_reducible rfl
        simp only [Act.put, List.getElem_toArray, List.getElem_cons_zero, List.getElem_cons_succ, List.setIfInBounds_toArray, List.set_cons_zero, List.set_cons_succ]
        refine wpAnyH_ready (rs := [5]) (by kernel_rfl) (by simp) ?_
        refine AllReadyH.cons rfl (fun K hK => ?_) AllReadyH.nil
        simp only [List.getElem_toArray, List.getElem_cons_zero, List.getElem_cons_succ]
        go_simp
        refine (HOn1.out _ HB21.out).mono ?_
        rintro e w22 ⟨rfl, hb22⟩
        have HB22 := Lib.hid (HB21.out.trans (hb22.mono HB21.out.size))
        clear hb22
        go_wp2_with fail
        refine hK.out _ _ (HB22.out) (fun hHeldN => ?_)
        clear hK K hHeld
        have hHeld := hHeldN
        clear hHeldN
        (try simp only [Act.put, List.getElem_toArray, List.getElem_cons_zero, List.getElem_cons_succ, List.setIfInBounds_toArray, List.set_cons_zero, List.set_cons_succ])
        refine wpAnyH_ready (rs := [8]) (by kernel_rfl) (by simp) ?_
        refine AllReadyH.cons rfl (fun K hK => ?_) AllReadyH.nil
        simp only [List.getElem_toArray, List.getElem_cons_zero, List.getElem_cons_succ]
        go_simp
        refine (HOn2.out _ HB22.out).mono ?_
        rintro e w23 ⟨rfl, hb23⟩
        have HB23 := Lib.hid (HB22.out.trans (hb23.mono HB22.out.size))
        clear hb23
        go_wp2_with fail
        refine hK.out _ _ (HB23.out) (fun hHeldN => ?_)
        clear hK K hHeld
        have hHeld := hHeldN
        clear hHeldN
        (try simp only [Act.put, List.getElem_toArray, List.getElem_cons_zero, List.getElem_cons_succ, List.setIfInBounds_toArray, List.set_cons_zero, List.set_cons_succ])
        refine wpAnyH_ready (rs := [10]) (by kernel_rfl) (by simp) ?_
        refine AllReadyH.cons rfl (fun K hK => ?_) AllReadyH.nil
        simp only [List.getElem_toArray, List.getElem_cons_zero, List.getElem_cons_succ]
        go_simp
        refine (HOn3.out _ HB23.out).mono ?_
        rintro e w24 ⟨rfl, hb24⟩
        have HB24 := Lib.hid (HB23.out.trans (hb24.mono HB23.out.size))
        clear hb24
        go_wp2_with fail
        refine hK.out _ _ (HB24.out) (fun hHeldN => ?_)
        clear hK K hHeld
        have hHeld := hHeldN
        clear hHeldN
        (try simp only [Act.put, List.getElem_toArray, List.getElem_cons_zero, List.getElem_cons_succ, List.setIfInBounds_toArray, List.set_cons_zero, List.set_cons_succ])
        refine wpAnyH_take (i := 11) (v := ?_) rfl (by kernel_rfl) (by kernel_rfl) (by kernel_rfl) (fun _ _ _ h => h) (Or.inl ⟨by rfl, ?_⟩) (by assumption) ?_
        rotate_left
        · simp only [List.getElem_toArray, List.getElem_cons_zero, List.getElem_cons_succ]; intro W hSw; (try dsimp only at hSw); go_simp; all_goals with_reducible rfl
        simp only [Act.put, List.getElem_toArray, List.getElem_cons_zero, List.getElem_cons_succ, List.setIfInBounds_toArray, List.set_cons_zero, List.set_cons_succ]
        refine wpAnyH_take (i := 12) (v := ?_) rfl (by kernel_rfl) (by kernel_rfl) (by kernel_rfl) (fun _ _ _ h => h) (Or.inl ⟨by rfl, ?_⟩) (by assumption) ?_
        rotate_left
        · simp only [List.getElem_toArray, List.getElem_cons_zero, List.getElem_cons_succ]; intro W hSw; (try dsimp only at hSw); go_simp; all_goals with_reducible rfl
        simp only [Act.put, List.getElem_toArray, List.getElem_cons_zero, List.getElem_cons_succ, List.setIfInBounds_toArray, List.set_cons_zero, List.set_cons_succ]
        refine wpAnyH_take (i := 13) (v := ?_) rfl (by kernel_rfl) (by kernel_rfl) (by kernel_rfl) (fun _ _ _ h => h) (Or.inl ⟨by rfl, ?_⟩) (by assumption) ?_
        rotate_left
        · simp only [List.getElem_toArray, List.getElem_cons_zero, List.getElem_cons_succ]; intro W hSw; (try dsimp only at hSw); go_simp; all_goals with_reducible rfl
        simp only [Act.put, List.getElem_toArray, List.getElem_cons_zero, List.getElem_cons_succ, List.setIfInBounds_toArray, List.set_cons_zero, List.set_cons_succ]
        refine wpAnyH_ready (rs := [14]) (by kernel_rfl) (by simp) ?_
        refine AllReadyH.cons rfl (fun K hK => ?_) AllReadyH.nil
        simp only [List.getElem_toArray, List.getElem_cons_zero, List.getElem_cons_succ]
        go_simp
        refine (HWk.out _).mono ?_
        rintro e w25 ⟨rfl, hb25⟩
        have HB25 := Lib.hid (HB24.out.trans (hb25.mono HB24.out.size))
        clear hb25
        go_wp2_with fail
        refine hK.out _ _ (HB25.out) (fun hHeldN => ?_)
        clear hK K hHeld
        have hHeld := hHeldN
        clear hHeldN
        (try simp only [Act.put, List.getElem_toArray, List.getElem_cons_zero, List.getElem_cons_succ, List.setIfInBounds_toArray, List.set_cons_zero, List.set_cons_succ])
        refine wpAnyH_take (i := 15) (v := ?_) rfl (by kernel_rfl) (by kernel_rfl) (by kernel_rfl) (fun _ _ _ h => h) (Or.inl ⟨by rfl, ?_⟩) (by assumption) ?_
        rotate_left
        · simp only [List.getElem_toArray, List.getElem_cons_zero, List.getElem_cons_succ]; intro W hSw; (try dsimp only at hSw); go_simp; all_goals with_reducible rfl
        simp only [Act.put, List.getElem_toArray, List.getElem_cons_zero, List.getElem_cons_succ, List.setIfInBounds_toArray, List.set_cons_zero, List.set_cons_succ]
        refine wpAnyH_take (i := 16) (v := ?_) rfl (by kernel_rfl) (by kernel_rfl) (by kernel_rfl) (fun _ _ _ h => h) (Or.inl ⟨by rfl, ?_⟩) (by assumption) ?_
        rotate_left
        · simp only [List.getElem_toArray, List.getElem_cons_zero, List.getElem_cons_succ]; intro W hSw; (try dsimp only at hSw); go_simp; all_goals with_reducible rfl
        simp only [Act.put, List.getElem_toArray, List.getElem_cons_zero, List.getElem_cons_succ, List.setIfInBounds_toArray, List.set_cons_zero, List.set_cons_succ]
        refine wpAnyH_done (by kernel_rfl) ?_ _
        go_wp2_with fail
        go_ret
        exact ⟨rfl, HB20.out.trans (HB25.out.mono HB20.out.size)⟩
      · have hfu : overE a b = 50 := by
          have h := hov
          unfold overE at h ⊢
          rw [HWr.out.1, HWr.out.2] at h ⊢
          exact fold_full HWr.out.1 (by omega) (written_rises HWr.out.2) (by simpa using h)
        rw [hfu]
        clear hov hfu
        go_wp2_with fail
        refine (HWk.out _).mono ?_
        rintro e wk ⟨rfl, hbk⟩
        have HBk := Lib.hid (HB20.out.trans (hbk.mono HB20.out.size))
        clear hbk
        go_wp2
        go_ret
        exact ⟨rfl, HBk.out⟩
end Go.Proofs.Ytipgphdndleodaa
