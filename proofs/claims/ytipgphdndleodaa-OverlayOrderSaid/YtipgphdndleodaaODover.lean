/-
  The developers' answers: overlays over one another (Over, slices.Clone).
-/
import Derived.Test.YtipgphdndleodaaODputs
import Derived.Lib.SliceRun
namespace Go.Proofs.Ytipgphdndleodaa
set_option maxRecDepth 100000
open Go.RowKit
set_option maxRecDepth 100000

set_option maxHeartbeats 2000000 in
theorem clone_dev (l : List Wt) (A : Option Addr) (c : Nat) (w : World) (h : WsAt w A c l) :
    Calls Try.prog 19 #[.slice A l.length c] w fun e w' => ∃ A' c', e = .returned (.slice A' l.length c') ∧ WrsV w' (fun b => w.heap.size ≤ b) A' c' l ∧ Below w.heap.size w w' := by
  have hnil := h.at_.nil
  have hn := h.few
  cases A with
  | none =>
    have hl : l = [] := by
      have := h.at_.le
      rw [hnil rfl] at this
      exact List.eq_nil_of_length_eq_zero (by omega)
    subst hl
    have hc := hnil rfl
    subst hc
    have heq : ∀ W, (binOp .eql 25 (.slice none 0 0) (.slice none 0 0)).run Try.prog W = .ok (.bool true) W := fun W => Lib.run_eql_slice_nil W 25 _ none 0 0 0 0 Try.underlying25
    show Calls _ _ #[.slice none 0 0] _ _
    go_enter Try.func19, Try.ntmps19
    go_wp2
    go_ret
    exact ⟨none, 0, rfl, WrsV.nil_, Below.refl _ _⟩
  | some ad =>
    have heq : ∀ W, (binOp .eql 25 (.slice (some ad) l.length c) (.slice none 0 0)).run Try.prog W = .ok (.bool false) W := fun W => Lib.run_eql_slice_nil W 25 _ (some ad) l.length c 0 0 Try.underlying25
    obtain ⟨w1, hw1⟩ : ∃ w1, w1 = w.alloc (.cells #[] 27) := ⟨_, rfl⟩
    have hb1 : Below w.heap.size w w1 := by rw [hw1]; exact (Below.refl _ w).alloc (Nat.le_refl _) _
    have HCs := Lib.hid (show ∀ j u, (l.flatMap wrv)[j]? = some u → w1.cell? (ad.add j) = some u from fun j u hu => by
      have hpos : 0 < l.length := by
        rcases Nat.eq_zero_or_pos l.length with h1 | h1
        · rw [List.eq_nil_of_length_eq_zero h1] at hu; simp at hu
        · exact h1
      obtain ⟨b, off, e2, ⟨_, hbl⟩, hcs⟩ := h.at_.at_ hpos
      obtain rfl := Option.some.inj e2
      rw [Addr.add_lit]
      exact (World.cell?_of_block (w := w) (hb1.block b hbl)).trans (flat_cells h.fine hcs j u hu))
    have HLn := Lib.hid (flat_length h.fine)
    have HB1 := Lib.hid hb1
    have HW1 := Lib.hid hw1
    have HFi := Lib.hid h.fine
    have HN := Lib.hid hn
    have HZ := Lib.hid (show l.length = 0 → l = [] from List.eq_nil_of_length_eq_zero)
    clear hw1 hb1 hnil h
    obtain ⟨n, hq⟩ : ∃ n, n = l.length := ⟨_, rfl⟩
    rw [← hq] at heq hn HLn HZ ⊢
    have HQ := Lib.hid hq
    clear hq
    obtain ⟨i0, hi, hz0, hz1, hz2⟩ := info_parts write_info3
    go_enter Try.func19, Try.ntmps19
    go_wp2_with (first
      | (at_builtin; rw [← HW1.out]; refine wpList_append_arg w1 rfl (.tmp 5) (.tmp 6) 25 rfl 27 i0 _ 9 16 Try.underlying25 hi hz0 hz1 hz2 rfl (by decide) w.heap.size 0 0 0 [] rfl rfl (fun j u hu => by simp at hu) ad n c (l.flatMap wrv) rfl HLn.out HCs.out flat_fine (fun h0 j hj => by rw [HLn.out] at hj; omega) (by unfold maxLen; omega) (by omega) ?_ ?_))
    · intro h0
      have hl : l = [] := HZ.out (by omega)
      have hn0 : n = 0 := by omega
      subst hl
      subst hn0
      have e : w1.setCells w.heap.size 0 (List.flatMap wrv []) = w1 := rfl
      (try simp only [Nat.zero_mul, Nat.add_zero, Nat.zero_add])
      rw [e]
      go_wp2
      go_ret
      exact ⟨_, _, rfl, ⟨fun h => absurd h (by simp), Nat.le_refl _, Nat.zero_le _, (fun e => nomatch e)⟩, HB1.out⟩
    · intro h0 v' w2 r1 r2
      have r1 : w2.ownsRow w1.heap.size 27 9 v' n (l.flatMap wrv) := by simpa using r1
      have hown : Own8 w2 w.heap.size l v' := by
        unfold Own8
        rw [← HQ.out]
        exact owns_base r1 HB1.out.size
      obtain ⟨A7, c7, e7, hw7⟩ := hown.wrsv HFi.out
      subst e7
      have HB2 := Lib.hid (HB1.out.grown r2 HB1.out.size (fun k hk => by cases hk))
      clear r1 r2 hown
      go_wp2
      go_ret
      exact ⟨A7, c7, by rw [HQ.out]; rfl, hw7, HB2.out⟩
set_option maxHeartbeats 4000000 in
theorem over_dev (a b : List Wt) (A B : Option Addr) (c d : Nat) (w : World) (ha : WsAt w A c a) (hb : WsAt w B d b) :
    Calls Try.prog 9 #[.slice A a.length c, .slice B b.length d] w fun e w' => ∃ A' c', e = .returned (.tuple #[.slice A' (overW a b).length c', .int .i64 (overE a b)]) ∧ WrsV w' (fun b => w.heap.size ≤ b) A' c' (overW a b) ∧ Below w.heap.size w w' := by
  have HWa := Lib.hid (written_dev a A c w _ ha.at_.at_ ha.fine)
  have HWb := Lib.hid (fun W (hW : Below w.heap.size w W) => written_dev b B d W _ (hb.below hW).at_.at_ hb.fine)
  obtain ⟨n, hn⟩ : ∃ n, n = a.length := ⟨_, rfl⟩
  obtain ⟨m, hm⟩ : ∃ m, m = b.length := ⟨_, rfl⟩
  have HCl := Lib.hid (fun W (hW : Below w.heap.size w W) => clone_dev a A c W (ha.below hW))
  rw [← hn] at HWa HCl ⊢
  rw [← hm] at HWb ⊢
  have HN := Lib.hid hn
  have HM := Lib.hid hm
  clear hn hm
  cases h1 : writtenB a with
  | false =>
    have hE : overE a b = 2 := by unfold overE; rw [h1]; rfl
    have hW : overW a b = [] := by unfold overW; rw [h1]; rfl
    rw [hE, hW]
    rw [h1] at HWa
    go_enter Try.func9, Try.ntmps9
    go_wp2_with (go_at_call 13; refine HWa.out.mono ?_; rintro e w2 ⟨rfl, hb2⟩)
    go_ret2
    exact ⟨none, 0, rfl, WrsV.nil_, hb2⟩
  | true =>
    rw [h1] at HWa
    cases h2 : writtenB b with
    | false =>
      have hE : overE a b = 2 := by unfold overE; rw [h1, h2]; rfl
      have hW : overW a b = [] := by unfold overW; rw [h1, h2]; rfl
      rw [hE, hW]
      rw [h2] at HWb
      go_enter Try.func9, Try.ntmps9
      go_wp2_with fail
      refine HWa.out.mono ?_
      rintro e w2 ⟨rfl, hb2⟩
      go_wp2_with fail
      refine (HWb.out _ hb2).mono ?_
      rintro e w3 ⟨rfl, hb3⟩
      go_wp2_with fail
      go_ret2
      exact ⟨none, 0, rfl, WrsV.nil_, hb2.trans (hb3.mono hb2.size)⟩
    | true =>
      rw [h2] at HWb
      have hE : overE a b = (foldE a b).1 := by unfold overE; rw [h1, h2]; rfl
      have hW : overW a b = (foldE a b).2 := by unfold overW; rw [h1, h2]; rfl
      rw [hE, hW]
      obtain ⟨F, hF⟩ : ∃ F, F = foldE a b := ⟨_, rfl⟩
      rw [← hF]
      have HF := Lib.hid hF
      clear hF
      go_enter Try.func9, Try.ntmps9
      go_wp2_with fail
      refine HWa.out.mono ?_
      rintro e w2 ⟨rfl, hb2⟩
      go_wp2_with fail
      refine (HWb.out _ hb2).mono ?_
      rintro e w3 ⟨rfl, hb3⟩
      go_wp2_with fail
      refine (HCl.out _ (hb2.trans (hb3.mono hb2.size))).mono ?_
      rintro e w4 ⟨A4, c4, rfl, hw4, hb4⟩
      go_wp2_with fail
      have hB4 : Below w.heap.size w w4 := by
        have h23 := hb2.trans (hb3.mono hb2.size)
        exact h23.trans (hb4.mono h23.size)
      have HW4 := Lib.hid (show WrsV w4 (fun b => w.heap.size ≤ b) A4 c4 a from hw4.mono fun b hb _ => Nat.le_trans (hb2.trans (hb3.mono hb2.size)).size hb)
      have HB4 := Lib.hid hB4
      have HFa := Lib.hid ha.fine
      have HFb := Lib.hid hb.fine
      have HBb := Lib.hid hb.at_.at_
      have HNa := Lib.hid (show a.length ≤ 100 from ha.few)
      have hmf : m ≤ 100 := by rw [HM.out]; exact hb.few
      clear hw4 hb4 hb3 hb2 hB4 hE hW h1 h2 ha hb
      go_loopw [6, 22] (fun v i wr => ∃ (k : Nat) (L : List Wt) (A5 : Option Addr) (c5 : Nat), k ≤ m ∧ i = .int .i64 (k : Int) ∧ v = .slice A5 L.length c5 ∧ WrsV wr (fun b => w.heap.size ≤ b) A5 c5 L ∧ (WrFine L ∧ L.length ≤ 100) ∧ F = foldE L (b.drop k) ∧ Below w.heap.size w wr) (fun _ i _ => m - (intOf i).toNat)
      case atStart => exact ⟨0, a, A4, c4, Nat.zero_le _, rfl, by rw [HN.out], HW4.out, ⟨HFa.out, HNa.out⟩, HF.out, HB4.out⟩
      case round =>
        obtain ⟨k, L, A5, c5, hk, rfl, rfl, hw5, ⟨hfL, hlL⟩, hEk, hbr⟩ := hrel
        have HBr := Lib.hid hbr
        have HW5 := Lib.hid hw5
        have HFL := Lib.hid hfL
        have HlL := Lib.hid hlL
        by_cases hlt : k < m
        · have hkl : k < b.length := by rw [← HM.out]; exact hlt
          obtain ⟨bb, off, rfl, ⟨_, hbl⟩, hcs⟩ := HBb.out (by omega)
          have hx := HFb.out b[k] (List.getElem_mem hkl)
          have HC := Lib.hid (show ∀ j u, (wrv b[k])[j]? = some u → wr.cell? ⟨bb, off + k * 9 + j, none⟩ = some u from fun j u hu => (World.cell?_of_block (w := w) (hbr.block bb hbl)).trans (hcs k hkl j u hu))
          rw [List.drop_eq_getElem_cons hkl, foldE] at hEk
          have HEk := Lib.hid hEk
          clear hcs hEk hbr hw5 hfL hlL
          generalize b[k] = x at *
          have HI := Lib.hid (write_infos hx.2.1)
          have HIa := Lib.hid (show (Try.prog.info? 27).map (·.size) = some (wrv x).toArray.size by rw [HI.out]; simp)
          have HZx := Lib.hid (show (#[.int .i64 0, .int .u8 0, .int .u8 0, .int .u8 0, .int .u8 0, .int .u8 0, .int .u8 0, .int .u8 0, .int .u8 0] : Array Value).size = (wrv x).toArray.size by simp [wrv_length hx.2.1])
          have HO := Lib.hid (show (wrv x).toArray.all (·.oneCell') = true by
            have h : (wrv x).all (·.oneCell') = true := List.all_eq_true.2 fun u hu => wrv_cell x u hu
            simpa using h)
          obtain ⟨hb6, hg6, hz6⟩ := box_made wr #[.int .i64 0, .int .u8 0, .int .u8 0, .int .u8 0, .int .u8 0, .int .u8 0, .int .u8 0, .int .u8 0, .int .u8 0] (wrv x).toArray 27
          have HA1 := Lib.hid (heap_alloc_new wr (.cells #[.int .i64 0, .int .u8 0, .int .u8 0, .int .u8 0, .int .u8 0, .int .u8 0, .int .u8 0, .int .u8 0, .int .u8 0] 27))
          obtain ⟨w6, hw6⟩ : ∃ w6, w6 = (wr.alloc (.cells #[.int .i64 0, .int .u8 0, .int .u8 0, .int .u8 0, .int .u8 0, .int .u8 0, .int .u8 0, .int .u8 0, .int .u8 0] 27)).setRow wr.heap.size (wrv x).toArray := ⟨_, rfl⟩
          rw [← hw6] at hb6 hg6 hz6
          have HW6 := Lib.hid hw6
          have HG6 := Lib.hid hg6
          have HB6 := Lib.hid (HBr.out.trans (hb6.mono HBr.out.size))
          have HPut := Lib.hid (put_dev L x A5 c5 w6 ⟨(HW5.out.below hb6).mono (fun _ _ _ => trivial), HFL.out, HlL.out⟩ hx)
          have hki : (k : Int) < (m : Int) := by omega
          have hw : IntKind.i64.wrap ((k : Int) + 1) = (k : Int) + 1 := by rw [IntKind.wrap_i64]; omega
          have HNew := Lib.hid (show putE L x = 0 → WrFine (putW L x) ∧ F = foldE (putW L x) (b.drop (k + 1)) from fun h0 => ⟨put_fine HFL.out hx, by
            rw [HEk.out, if_pos h0]
            unfold putW
            rw [if_pos h0]⟩)
          have HBad := Lib.hid (show putE L x ≠ 0 → F = (putE L x, []) from fun h0 => by rw [HEk.out, if_neg h0])
          have HFew := Lib.hid (put_few (l := L) (y := x))
          clear hw6 hb6 hg6 hz6
          generalize putW L x = Y at *
          generalize putE L x = E at *
          generalize L.length = n5 at *
          by_cases h0 : E = 0
          · have HR := Lib.hid (HNew.out h0)
            subst h0
            go_wp2_with (first
              | (refine wpList_load_part rfl 27 _ rfl bb (off + k * 9) rfl (wrv x) _ HC.out Try.underlying27 rfl HI.out ?_)
              | (refine wpList_store_row rfl 27 _ _ rfl wr.heap.size (wrv x).toArray rfl rfl 27 #[.int .i64 0, .int .u8 0, .int .u8 0, .int .u8 0, .int .u8 0, .int .u8 0, .int .u8 0, .int .u8 0, .int .u8 0] HA1.out HIa.out HZx.out HO.out ?_; rw [← HW6.out])
              | (refine wpList_load_row rfl 27 _ rfl wr.heap.size rfl 27 (wrv x).toArray (0, 0) _ HG6.out Try.underlying27 rfl HIa.out ?_)
              | (go_at_call 7; refine HPut.out.mono ?_; rintro e w7 ⟨A7, c7, rfl, hw7, hb7⟩))
            go_roundw
            case rel => exact ⟨k + 1, Y, A7, c7, by omega, by simp, rfl, hw7.mono (fun b hb _ => Nat.le_trans HB6.out.size hb), ⟨HR.out.1, by have := HFew.out; omega⟩, HR.out.2, HB6.out.trans (hb7.mono HB6.out.size)⟩
            case measure => simp [intOf]; omega
          · have HR := Lib.hid (HBad.out h0)
            have hq : (E != 0) = true := by simp [h0]
            clear h0
            go_wp2_with (first
              | (refine wpList_load_part rfl 27 _ rfl bb (off + k * 9) rfl (wrv x) _ HC.out Try.underlying27 rfl HI.out ?_)
              | (refine wpList_store_row rfl 27 _ _ rfl wr.heap.size (wrv x).toArray rfl rfl 27 #[.int .i64 0, .int .u8 0, .int .u8 0, .int .u8 0, .int .u8 0, .int .u8 0, .int .u8 0, .int .u8 0, .int .u8 0] HA1.out HIa.out HZx.out HO.out ?_; rw [← HW6.out])
              | (refine wpList_load_row rfl 27 _ rfl wr.heap.size rfl 27 (wrv x).toArray (0, 0) _ HG6.out Try.underlying27 rfl HIa.out ?_)
              | (go_at_call 7; refine HPut.out.mono ?_; rintro e w7 ⟨A7, c7, rfl, hw7, hb7⟩))
            go_ret2
            refine ⟨none, 0, ?_, ?_, HB6.out.trans (hb7.mono HB6.out.size)⟩
            · rw [HR.out]; rfl
            · rw [HR.out]; exact WrsV.nil_
        · obtain rfl : k = m := by omega
          have HR := Lib.hid (show F = (0, L) by rw [hEk, List.drop_eq_nil_of_le (by rw [← HM.out]; exact Nat.le_refl _)]; cases L <;> rfl)
          have hki : ¬ (k : Int) < (k : Int) := by omega
          clear hEk hbr hw5 hfL hlL
          generalize hL5 : L.length = n5 at *
          have HL5 := Lib.hid hL5
          clear hL5
          go_wp2
          go_ret2
          exact ⟨A5, c5, by rw [HR.out, HL5.out]; rfl, by rw [HR.out]; exact HW5.out, HBr.out⟩
end Go.Proofs.Ytipgphdndleodaa
