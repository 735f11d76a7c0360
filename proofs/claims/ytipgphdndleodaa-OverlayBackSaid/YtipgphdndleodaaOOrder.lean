/-
  The law of order, over contracts.
-/
import Derived.Test.YtipgphdndleodaaOWaked
import Derived.Test.YtipgphdndleodaaParts
namespace Go.Proofs.Ytipgphdndleodaa
set_option maxRecDepth 100000
open Go.RowKit
set_option maxRecDepth 100000

theorem great8_any (A : Option Addr) (n c : Nat) (w : World) : Calls Try.prog 11 #[.slice A n c] w fun e w' => e = .returned (.bool (decide ((n : Int) > 100))) ∧ w' = w := by
  go_enter Try.func11, Try.ntmps11
  go_wp2
  go_ret
  exact ⟨rfl, rfl⟩
theorem wrv_size {y : Wt} (h : WtFine y) : (Try.prog.info? 27).map (·.size) = some (wrv y).toArray.size := by
  rw [show (wrv y).toArray.size = 9 by simp [wrv_length h.2.1]]
  kernel_rfl
theorem val_size {v : List Nat} (h : v.length = 8) : (Try.prog.info? 23).map (·.size) = some (vals v).toArray.size := by
  rw [show (vals v).toArray.size = 8 by simp [vals_length, h]]
  kernel_rfl
theorem val_one (v : List Nat) : (vals v).toArray.all (·.oneCell') = true := Array.all_eq_true_iff_forall_mem.2 fun u hu => vals_one u (by simpa using hu)
theorem box_filled (w : World) (Z xs : Array Value) (T : TypeId) : Below w.heap.size w ((w.alloc (.cells Z T)).setRow w.heap.size xs) ∧ ((w.alloc (.cells Z T)).setRow w.heap.size xs).heap[w.heap.size]? = some (.cells xs T (0, 0)) ∧ ((w.alloc (.cells Z T)).setRow w.heap.size xs).heap.size = w.heap.size + 1 := by
  have hb : Below w.heap.size w (w.alloc (.cells Z T)) := (Below.refl _ w).alloc (Nat.le_refl _) _
  refine ⟨below_setRow hb (Nat.le_refl _) xs, setRow_heap _ _ _ _ _ _ (heap_alloc_new w _), ?_⟩
  simp [World.setRow]
theorem eight_of {v : List Nat} (h : v.length = 8) : (#[.int .u8 0, .int .u8 0, .int .u8 0, .int .u8 0, .int .u8 0, .int .u8 0, .int .u8 0, .int .u8 0] : Array Value).size = (vals v).toArray.size := by simp [vals_length, h]
set_option maxHeartbeats 8000000 in
theorem order_law (hC : Calls8) (hW : WakesSays8) (l : List Wt) (A : Option Addr) (c : Nat) (a b : Wt) (w : World) (hl : WrsV w (fun _ => True) A c l) (hf : WrFine l) (ha : WtFine a) (hb : WtFine b) :
    Calls Try.prog 4 #[.slice A l.length c, .agg (wrv a).toArray, .agg (wrv b).toArray] w fun e w' => e = .returned (.bool true) ∧ Below w.heap.size w w' := by
  obtain ⟨w1, hw1⟩ : ∃ w1, w1 = (w.alloc (.cells (wrv a).toArray 27)).alloc (.cells (wrv b).toArray 27) := ⟨_, rfl⟩
  have hb1 : Below w.heap.size w w1 := by rw [hw1]; exact ((Below.refl w.heap.size w).alloc (Nat.le_refl _) _).alloc (by simp) _
  have hz1 : w1.heap.size = w.heap.size + 2 := by rw [hw1]; simp
  have ga : w1.heap[w.heap.size]? = some (.cells (wrv a).toArray 27 (0, 0)) := by rw [hw1]; exact heap_alloc2_old w _ _
  have gb : w1.heap[w.heap.size + 1]? = some (.cells (wrv b).toArray 27 (0, 0)) := by rw [hw1]; exact heap_alloc2_new w _ _
  have HRow := Lib.hid (show ∀ W, Below w1.heap.size w1 W → W.heap[w.heap.size]? = some (.cells (wrv a).toArray 27 (0, 0)) ∧ W.heap[w.heap.size + 1]? = some (.cells (wrv b).toArray 27 (0, 0)) from fun W hW => ⟨(hW.block _ (by omega)).trans ga, (hW.block _ (by omega)).trans gb⟩)
  have HCell := Lib.hid (show ∀ W, Below w1.heap.size w1 W → W.cell? ⟨w.heap.size, 0, none⟩ = some (.int .i64 a.1) ∧ W.cell? ⟨w.heap.size + 1, 0, none⟩ = some (.int .i64 b.1) from fun W hW => by
    obtain ⟨r1, r2⟩ := HRow.out W hW
    exact ⟨by rw [cell_of_row W _ 0 _ _ _ r1]; simp [wrv], by rw [cell_of_row W _ 0 _ _ _ r2]; simp [wrv]⟩)
  have HIa := Lib.hid (wrv_size ha)
  have HIb := Lib.hid (wrv_size hb)
  have HWk := Lib.hid hW
  have HW1 := Lib.hid hw1
  have HB1 := Lib.hid hb1
  obtain ⟨n, hn⟩ : ∃ n, n = l.length := ⟨_, rfl⟩
  have HGr := Lib.hid (fun W => great8_any A n c W)
  by_cases hbig : (n : Int) > 100
  · rw [decide_eq_true hbig] at HGr
    rw [← hn]
    clear hC hW hl hf ha hb hw1 hb1 hz1 ga gb hbig hn
    go_enter Try.func4, Try.ntmps4
    go_wp2_with (rw [← HW1.out])
    refine (HGr.out _).mono ?_
    rintro e w2 ⟨rfl, rfl⟩
    go_wp2_with fail
    refine (HWk.out _).mono ?_
    rintro e wk ⟨rfl, hbk⟩
    have HBk := Lib.hid (HB1.out.trans (hbk.mono HB1.out.size))
    clear hbk
    go_wp2
    go_ret
    exact ⟨rfl, HBk.out⟩
  rw [decide_eq_false hbig] at HGr
  have hws : WsAt w1 A c l := ⟨hl.below hb1, hf, by omega⟩
  have HWs := Lib.hid hws
  have HF := Lib.hid (And.intro hf (And.intro ha hb))
  have HPut := Lib.hid hC.put
  have HGet := Lib.hid hC.get
  have HSame := Lib.hid hC.same
  have HPa := Lib.hid (hC.put l a A c w1 hws ha)
  rw [← hn] at HPa ⊢
  have HR1 := Lib.hid (HRow.out _ (Below.refl _ _))
  have HNn := Lib.hid hn
  clear hC hW hl hf ha hb hw1 hb1 hz1 ga gb hbig hn hws
  go_enter Try.func4, Try.ntmps4
  go_wp2_with (rw [← HW1.out])
  refine (HGr.out _).mono ?_
  rintro e w2 ⟨rfl, rfl⟩
  go_wp2_with (
    (refine wpList_load_row rfl 27 _ rfl w.heap.size rfl 27 (wrv a).toArray (0, 0) _ HR1.out.1 Try.underlying27 rfl HIa.out ?_)
    )
  refine HPa.out.mono ?_
  rintro e w3 ⟨A1, c1, rfl, hx3, hb3⟩
  have HX3 := Lib.hid (hx3.mono (P' := fun _ => True) fun _ _ _ => trivial)
  have HB3 := Lib.hid (HB1.out.trans (hb3.mono HB1.out.size))
  have HL3 := Lib.hid hb3
  have HR3 := Lib.hid (HRow.out _ hb3)
  have hpb := HPut.out l b A c w3 (HWs.out.below hb3) HF.out.2.2
  rw [← HNn.out] at hpb
  have HPb := Lib.hid hpb
  clear hx3 hb3 hpb
  go_wp2_with (
    (refine wpList_load_row rfl 27 _ rfl (w.heap.size + 1) rfl 27 (wrv b).toArray (0, 0) _ HR3.out.2 Try.underlying27 rfl HIb.out ?_)
    )
  refine HPb.out.mono ?_
  rintro e w4 ⟨A2, c2, rfl, hy4, hb4⟩
  have HY4 := Lib.hid (hy4.mono (P' := fun _ => True) fun _ _ _ => trivial)
  have HX4 := Lib.hid (HX3.out.below hb4)
  have HB4 := Lib.hid (HB3.out.trans (hb4.mono HB3.out.size))
  have HL4 := Lib.hid (HL3.out.trans (hb4.mono HL3.out.size))
  have hws4 := (HWs.out.below HL3.out).below hb4
  have HWs4 := Lib.hid hws4
  have hgt := HGet.out l a.1 A c w4 hws4 HF.out.2.1.1
  rw [← HNn.out] at hgt
  have HGt := Lib.hid hgt
  clear hy4 hb4 hws4 hgt
  by_cases he1 : putE l a = 0
  rotate_left
  · have hq : (putE l a != 0) = true := by simp [he1]
    clear he1
    go_wp2_with fail
    refine (HWk.out _).mono ?_
    rintro e wk ⟨rfl, hbk⟩
    have HBk := Lib.hid (HB4.out.trans (hbk.mono HB4.out.size))
    clear hbk
    go_wp2
    go_ret
    exact ⟨rfl, HBk.out⟩
  by_cases he2 : putE l b = 0
  rotate_left
  · have hq : (putE l b != 0) = true := by simp [he2]
    rw [he1]
    clear he1 he2
    go_wp2_with fail
    refine (HWk.out _).mono ?_
    rintro e wk ⟨rfl, hbk⟩
    have HBk := Lib.hid (HB4.out.trans (hbk.mono HB4.out.size))
    clear hbk
    go_wp2
    go_ret
    exact ⟨rfl, HBk.out⟩
  have HE := Lib.hid (And.intro he1 he2)
  rw [he1, he2]
  rw [put_yes he1] at HX4 ⊢
  rw [put_yes he2] at HY4 ⊢
  obtain ⟨x, hx⟩ : ∃ x, x = insW a l := ⟨_, rfl⟩
  obtain ⟨y, hy⟩ : ∃ y, y = insW b l := ⟨_, rfl⟩
  have HXe := Lib.hid hx
  have HYe := Lib.hid hy
  have hfx : WsAt w4 A1 c1 x := ⟨by rw [hx]; exact HX4.out, by rw [hx]; exact ins_fine HF.out.2.1 HF.out.1, by rw [hx]; have := (put_ok he1).2; omega⟩
  have hfy : WsAt w4 A2 c2 y := ⟨by rw [hy]; exact HY4.out, by rw [hy]; exact ins_fine HF.out.2.2 HF.out.1, by rw [hy]; have := (put_ok he2).2; omega⟩
  have hlen := ins_there (w := a) (written_rises (put_ok he1).1.1)
  rw [← HNn.out, ← hx] at hlen
  rw [← hx, ← hy]
  have HFx := Lib.hid hfx
  have HFy := Lib.hid hfy
  obtain ⟨ca, cb⟩ := HCell.out _ HL4.out
  obtain ⟨p, hp⟩ : ∃ p, p = x.length := ⟨_, rfl⟩
  rw [← hp] at hlen ⊢
  obtain ⟨Th, hTh⟩ : ∃ Th, Th = (getW l a.1).isSome := ⟨_, rfl⟩
  rw [← hTh] at HGt hlen
  have HLen := Lib.hid hlen
  have HP := Lib.hid hp
  obtain ⟨q, hqq⟩ : ∃ q, q = y.length := ⟨_, rfl⟩
  rw [← hqq]
  have HQ := Lib.hid hqq
  clear he1 he2 hx hy hfx hfy hp hqq hlen hTh
  go_wp2_with fail
  refine HGt.out.mono ?_
  rintro e w5 ⟨v, rfl, ⟨hv8, _⟩, _, hb5⟩
  obtain ⟨hb6, hg6, hz6⟩ := box_filled w5 #[.int .u8 0, .int .u8 0, .int .u8 0, .int .u8 0, .int .u8 0, .int .u8 0, .int .u8 0, .int .u8 0] (vals v).toArray 23
  have HZ6 := Lib.hid (heap_alloc_new w5 (.cells #[.int .u8 0, .int .u8 0, .int .u8 0, .int .u8 0, .int .u8 0, .int .u8 0, .int .u8 0, .int .u8 0] 23))
  obtain ⟨w6, hw6⟩ : ∃ w6, w6 = (w5.alloc (.cells #[.int .u8 0, .int .u8 0, .int .u8 0, .int .u8 0, .int .u8 0, .int .u8 0, .int .u8 0, .int .u8 0] 23)).setRow w5.heap.size (vals v).toArray := ⟨_, rfl⟩
  rw [← hw6] at hb6 hg6 hz6
  have HW6 := Lib.hid hw6
  have HI6 := Lib.hid (val_size hv8)
  have HS6 := Lib.hid (eight_of hv8)
  have HO6 := Lib.hid (val_one v)
  have hb46 := hb5.trans (hb6.mono hb5.size)
  have HB6 := Lib.hid (HB4.out.trans (hb46.mono HB4.out.size))
  have HL6 := Lib.hid (HL4.out.trans (hb46.mono HL4.out.size))
  have HFx6 := Lib.hid (HFx.out.below hb46)
  have HFy6 := Lib.hid (HFy.out.below hb46)
  have HR6 := Lib.hid (HRow.out _ HL6.out)
  obtain ⟨da, db⟩ := HCell.out _ HL6.out
  clear ca cb hv8 hb5 hb6 hg6 hz6 hw6 hb46
  have HEq := Lib.hid (fun (h : a.1 = b.1) => put_again HE.out.1 HE.out.2 h)
  have HNe := Lib.hid (fun (h : a.1 ≠ b.1) => put_swap HE.out.1 HE.out.2 h)
  rw [← HXe.out, ← HYe.out] at HNe
  rw [← HXe.out, ← HYe.out] at HEq
  have hpx := HPut.out x b A1 c1 w6 HFx6.out HF.out.2.2
  rw [← HP.out] at hpx
  have HPx := Lib.hid hpx
  have HN1 := Lib.hid (show IntKind.i64.wrap ((n : Int) + 1) = (n : Int) + 1 by have := HWs.out.few; have := HNn.out; rw [IntKind.wrap_i64]; omega)
  clear hpx
  by_cases hab : a.1 = b.1
  · obtain ⟨e1, e2⟩ := HEq.out hab
    have hpw : putW x b = y := by rw [put_yes e1, e2]
    rw [e1, hpw] at HPx
    rw [← HQ.out] at HPx
    have hq : (a.1 == b.1) = true := by simp [hab]
    have HSy := Lib.hid (fun (W : World) (A3 : Option Addr) (c3 : Nat) (h : WsAt W A3 c3 y) (h2 : WsAt W A2 c2 y) => HSame.out y y A3 A2 c3 c2 W h h2)
    rw [← HQ.out] at HSy
    clear e1 e2 hpw hab
    cases Th with
    | true =>
      obtain rfl : p = n := HLen.out
      have hpp : ((p : Int) != (p : Int)) = false := by simp
      go_wp2_with (first
        | (refine wpList_store_row rfl 23 _ _ rfl w5.heap.size (vals v).toArray rfl rfl 23 #[.int .u8 0, .int .u8 0, .int .u8 0, .int .u8 0, .int .u8 0, .int .u8 0, .int .u8 0, .int .u8 0] HZ6.out HI6.out HS6.out HO6.out ?_; rw [← HW6.out])
        | (refine wpList_load_row rfl 27 _ rfl (w.heap.size + 1) rfl 27 (wrv b).toArray (0, 0) _ HR6.out.2 Try.underlying27 rfl HIb.out ?_))
      refine HPx.out.mono ?_
      rintro e w7 ⟨A3, c3, rfl, hx7, hb7⟩
      have HB7 := Lib.hid (HB6.out.trans (hb7.mono HB6.out.size))
      have HS7 := Lib.hid (HSy.out w7 A3 c3 ⟨hx7.mono fun _ _ _ => trivial, HFy6.out.fine, HFy6.out.few⟩ (HFy6.out.below hb7))
      simp only [decide_true] at HS7
      clear hx7 hb7
      go_wp2_with fail
      refine HS7.out.mono ?_
      rintro e w8 ⟨rfl, hb8⟩
      have HB8 := Lib.hid (HB7.out.trans (hb8.mono HB7.out.size))
      clear hb8
      go_wp2_with fail
      refine (HWk.out _).mono ?_
      rintro e wk ⟨rfl, hbk⟩
      have HBk := Lib.hid (HB8.out.trans (hbk.mono HB8.out.size))
      clear hbk
      go_wp2
      go_ret
      exact ⟨rfl, HBk.out⟩
    | false =>
      obtain rfl : p = n + 1 := HLen.out
      have hpp : ((n : Int) + 1 != (n : Int) + 1) = false := by simp
      have hw1 := HN1.out
      go_wp2_with (first
        | (refine wpList_store_row rfl 23 _ _ rfl w5.heap.size (vals v).toArray rfl rfl 23 #[.int .u8 0, .int .u8 0, .int .u8 0, .int .u8 0, .int .u8 0, .int .u8 0, .int .u8 0, .int .u8 0] HZ6.out HI6.out HS6.out HO6.out ?_; rw [← HW6.out])
        | (refine wpList_load_row rfl 27 _ rfl (w.heap.size + 1) rfl 27 (wrv b).toArray (0, 0) _ HR6.out.2 Try.underlying27 rfl HIb.out ?_))
      refine HPx.out.mono ?_
      rintro e w7 ⟨A3, c3, rfl, hx7, hb7⟩
      have HB7 := Lib.hid (HB6.out.trans (hb7.mono HB6.out.size))
      have HS7 := Lib.hid (HSy.out w7 A3 c3 ⟨hx7.mono fun _ _ _ => trivial, HFy6.out.fine, HFy6.out.few⟩ (HFy6.out.below hb7))
      simp only [decide_true] at HS7
      clear hx7 hb7
      go_wp2_with fail
      refine HS7.out.mono ?_
      rintro e w8 ⟨rfl, hb8⟩
      have HB8 := Lib.hid (HB7.out.trans (hb8.mono HB7.out.size))
      clear hb8
      go_wp2_with fail
      refine (HWk.out _).mono ?_
      rintro e wk ⟨rfl, hbk⟩
      have HBk := Lib.hid (HB8.out.trans (hbk.mono HB8.out.size))
      clear hbk
      go_wp2
      go_ret
      exact ⟨rfl, HBk.out⟩
  · obtain ⟨e1, e2⟩ := HNe.out hab
    have hq : (a.1 == b.1) = false := by simp [hab]
    have HPy := Lib.hid (fun W (h : WsAt W A2 c2 y) => HPut.out y a A2 c2 W h HF.out.2.1)
    rw [← HQ.out] at HPy
    by_cases hE0 : putE x b = 0
    · have hE1 : putE y a = 0 := by rw [← e1]; exact hE0
      obtain ⟨z, hz⟩ : ∃ z, z = insW b x := ⟨_, rfl⟩
      have hm : putW x b = z := by rw [put_yes hE0, hz]
      have hm2 : putW y a = z := by rw [put_yes hE1, ← e2, hz]
      have hzf : WrFine z := by rw [hz]; exact ins_fine HF.out.2.2 HFx6.out.fine
      have hz8 : z.length ≤ 100 := by rw [hz]; have := (put_ok hE0).2; omega
      rw [hE0, hm] at HPx
      rw [hE1, hm2] at HPy
      have HZf := Lib.hid (And.intro hzf hz8)
      have HSz := Lib.hid (fun (W : World) (A3 A4 : Option Addr) (c3 c4 : Nat) (h : WsAt W A3 c3 z) (h2 : WsAt W A4 c4 z) => HSame.out z z A3 A4 c3 c4 W h h2)
      clear e1 e2 hE0 hE1 hz hm hm2 hzf hz8 hab
      cases Th with
      | true =>
        obtain rfl : p = n := HLen.out
        have hpp : ((p : Int) != (p : Int)) = false := by simp
        go_wp2_with (first
          | (refine wpList_store_row rfl 23 _ _ rfl w5.heap.size (vals v).toArray rfl rfl 23 #[.int .u8 0, .int .u8 0, .int .u8 0, .int .u8 0, .int .u8 0, .int .u8 0, .int .u8 0, .int .u8 0] HZ6.out HI6.out HS6.out HO6.out ?_; rw [← HW6.out])
          | (refine wpList_load_row rfl 27 _ rfl (w.heap.size + 1) rfl 27 (wrv b).toArray (0, 0) _ HR6.out.2 Try.underlying27 rfl HIb.out ?_))
        refine HPx.out.mono ?_
        rintro e w7 ⟨A3, c3, rfl, hx7, hb7⟩
        have HX7 := Lib.hid (hx7.mono (P' := fun _ => True) fun _ _ _ => trivial)
        have HB7 := Lib.hid (HB6.out.trans (hb7.mono HB6.out.size))
        have HL7 := Lib.hid (HL6.out.trans (hb7.mono HL6.out.size))
        have HR7 := Lib.hid (HRow.out _ HL7.out)
        have HPy7 := Lib.hid (HPy.out w7 (HFy6.out.below hb7))
        clear hx7 hb7
        go_wp2_with (refine wpList_load_row rfl 27 _ rfl w.heap.size rfl 27 (wrv a).toArray (0, 0) _ HR7.out.1 Try.underlying27 rfl HIa.out ?_)
        refine HPy7.out.mono ?_
        rintro e w8 ⟨A4, c4, rfl, hy8, hb8⟩
        have HX8 := Lib.hid (HX7.out.below hb8)
        have HY8 := Lib.hid (hy8.mono (P' := fun _ => True) fun _ _ _ => trivial)
        have HB8 := Lib.hid (HB7.out.trans (hb8.mono HB7.out.size))
        clear hy8 hb8
        have HS8 := Lib.hid (HSz.out w8 A3 A4 c3 c4 ⟨HX8.out, HZf.out.1, HZf.out.2⟩ ⟨HY8.out, HZf.out.1, HZf.out.2⟩)
        simp only [decide_true] at HS8
        go_wp2_with fail
        refine HS8.out.mono ?_
        rintro e w9 ⟨rfl, hb9⟩
        have HB9 := Lib.hid (HB8.out.trans (hb9.mono HB8.out.size))
        clear hb9
        go_wp2_with fail
        refine (HWk.out _).mono ?_
        rintro e wk ⟨rfl, hbk⟩
        have HBk := Lib.hid (HB9.out.trans (hbk.mono HB9.out.size))
        clear hbk
        go_wp2
        go_ret
        exact ⟨rfl, HBk.out⟩
      | false =>
        obtain rfl : p = n + 1 := HLen.out
        have hpp : ((n : Int) + 1 != (n : Int) + 1) = false := by simp
        have hw1 := HN1.out
        go_wp2_with (first
          | (refine wpList_store_row rfl 23 _ _ rfl w5.heap.size (vals v).toArray rfl rfl 23 #[.int .u8 0, .int .u8 0, .int .u8 0, .int .u8 0, .int .u8 0, .int .u8 0, .int .u8 0, .int .u8 0] HZ6.out HI6.out HS6.out HO6.out ?_; rw [← HW6.out])
          | (refine wpList_load_row rfl 27 _ rfl (w.heap.size + 1) rfl 27 (wrv b).toArray (0, 0) _ HR6.out.2 Try.underlying27 rfl HIb.out ?_))
        refine HPx.out.mono ?_
        rintro e w7 ⟨A3, c3, rfl, hx7, hb7⟩
        have HX7 := Lib.hid (hx7.mono (P' := fun _ => True) fun _ _ _ => trivial)
        have HB7 := Lib.hid (HB6.out.trans (hb7.mono HB6.out.size))
        have HL7 := Lib.hid (HL6.out.trans (hb7.mono HL6.out.size))
        have HR7 := Lib.hid (HRow.out _ HL7.out)
        have HPy7 := Lib.hid (HPy.out w7 (HFy6.out.below hb7))
        clear hx7 hb7
        go_wp2_with (refine wpList_load_row rfl 27 _ rfl w.heap.size rfl 27 (wrv a).toArray (0, 0) _ HR7.out.1 Try.underlying27 rfl HIa.out ?_)
        refine HPy7.out.mono ?_
        rintro e w8 ⟨A4, c4, rfl, hy8, hb8⟩
        have HX8 := Lib.hid (HX7.out.below hb8)
        have HY8 := Lib.hid (hy8.mono (P' := fun _ => True) fun _ _ _ => trivial)
        have HB8 := Lib.hid (HB7.out.trans (hb8.mono HB7.out.size))
        clear hy8 hb8
        have HS8 := Lib.hid (HSz.out w8 A3 A4 c3 c4 ⟨HX8.out, HZf.out.1, HZf.out.2⟩ ⟨HY8.out, HZf.out.1, HZf.out.2⟩)
        simp only [decide_true] at HS8
        go_wp2_with fail
        refine HS8.out.mono ?_
        rintro e w9 ⟨rfl, hb9⟩
        have HB9 := Lib.hid (HB8.out.trans (hb9.mono HB8.out.size))
        clear hb9
        go_wp2_with fail
        refine (HWk.out _).mono ?_
        rintro e wk ⟨rfl, hbk⟩
        have HBk := Lib.hid (HB9.out.trans (hbk.mono HB9.out.size))
        clear hbk
        go_wp2
        go_ret
        exact ⟨rfl, HBk.out⟩
    · obtain ⟨E, hE⟩ : ∃ E, E = putE x b := ⟨_, rfl⟩
      rw [← hE] at HPx e1 hE0
      rw [← e1] at HPy
      have hee : (E == E) = true := beq_self_eq_true E
      have hen : (E != 0) = true := by simp [hE0]
      clear e1 e2 hE hE0 hab
      cases Th with
      | true =>
        obtain rfl : p = n := HLen.out
        have hpp : ((p : Int) != (p : Int)) = false := by simp
        go_wp2_with (first
          | (refine wpList_store_row rfl 23 _ _ rfl w5.heap.size (vals v).toArray rfl rfl 23 #[.int .u8 0, .int .u8 0, .int .u8 0, .int .u8 0, .int .u8 0, .int .u8 0, .int .u8 0, .int .u8 0] HZ6.out HI6.out HS6.out HO6.out ?_; rw [← HW6.out])
          | (refine wpList_load_row rfl 27 _ rfl (w.heap.size + 1) rfl 27 (wrv b).toArray (0, 0) _ HR6.out.2 Try.underlying27 rfl HIb.out ?_))
        refine HPx.out.mono ?_
        rintro e w7 ⟨A3, c3, rfl, hx7, hb7⟩
        have HX7 := Lib.hid (hx7.mono (P' := fun _ => True) fun _ _ _ => trivial)
        have HB7 := Lib.hid (HB6.out.trans (hb7.mono HB6.out.size))
        have HL7 := Lib.hid (HL6.out.trans (hb7.mono HL6.out.size))
        have HR7 := Lib.hid (HRow.out _ HL7.out)
        have HPy7 := Lib.hid (HPy.out w7 (HFy6.out.below hb7))
        clear hx7 hb7
        go_wp2_with (refine wpList_load_row rfl 27 _ rfl w.heap.size rfl 27 (wrv a).toArray (0, 0) _ HR7.out.1 Try.underlying27 rfl HIa.out ?_)
        refine HPy7.out.mono ?_
        rintro e w8 ⟨A4, c4, rfl, hy8, hb8⟩
        have HX8 := Lib.hid (HX7.out.below hb8)
        have HY8 := Lib.hid (hy8.mono (P' := fun _ => True) fun _ _ _ => trivial)
        have HB8 := Lib.hid (HB7.out.trans (hb8.mono HB7.out.size))
        clear hy8 hb8
        go_wp2_with fail
        refine (HWk.out _).mono ?_
        rintro e wk ⟨rfl, hbk⟩
        have HBk := Lib.hid (HB8.out.trans (hbk.mono HB8.out.size))
        clear hbk
        go_wp2
        go_ret
        exact ⟨rfl, HBk.out⟩
      | false =>
        obtain rfl : p = n + 1 := HLen.out
        have hpp : ((n : Int) + 1 != (n : Int) + 1) = false := by simp
        have hw1 := HN1.out
        go_wp2_with (first
          | (refine wpList_store_row rfl 23 _ _ rfl w5.heap.size (vals v).toArray rfl rfl 23 #[.int .u8 0, .int .u8 0, .int .u8 0, .int .u8 0, .int .u8 0, .int .u8 0, .int .u8 0, .int .u8 0] HZ6.out HI6.out HS6.out HO6.out ?_; rw [← HW6.out])
          | (refine wpList_load_row rfl 27 _ rfl (w.heap.size + 1) rfl 27 (wrv b).toArray (0, 0) _ HR6.out.2 Try.underlying27 rfl HIb.out ?_))
        refine HPx.out.mono ?_
        rintro e w7 ⟨A3, c3, rfl, hx7, hb7⟩
        have HX7 := Lib.hid (hx7.mono (P' := fun _ => True) fun _ _ _ => trivial)
        have HB7 := Lib.hid (HB6.out.trans (hb7.mono HB6.out.size))
        have HL7 := Lib.hid (HL6.out.trans (hb7.mono HL6.out.size))
        have HR7 := Lib.hid (HRow.out _ HL7.out)
        have HPy7 := Lib.hid (HPy.out w7 (HFy6.out.below hb7))
        clear hx7 hb7
        go_wp2_with (refine wpList_load_row rfl 27 _ rfl w.heap.size rfl 27 (wrv a).toArray (0, 0) _ HR7.out.1 Try.underlying27 rfl HIa.out ?_)
        refine HPy7.out.mono ?_
        rintro e w8 ⟨A4, c4, rfl, hy8, hb8⟩
        have HX8 := Lib.hid (HX7.out.below hb8)
        have HY8 := Lib.hid (hy8.mono (P' := fun _ => True) fun _ _ _ => trivial)
        have HB8 := Lib.hid (HB7.out.trans (hb8.mono HB7.out.size))
        clear hy8 hb8
        go_wp2_with fail
        refine (HWk.out _).mono ?_
        rintro e wk ⟨rfl, hbk⟩
        have HBk := Lib.hid (HB8.out.trans (hbk.mono HB8.out.size))
        clear hbk
        go_wp2
        go_ret
        exact ⟨rfl, HBk.out⟩
end Go.Proofs.Ytipgphdndleodaa
