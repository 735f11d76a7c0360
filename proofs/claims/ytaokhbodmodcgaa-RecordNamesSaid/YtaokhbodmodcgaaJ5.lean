/-
  Texts RefReadC, RefReadD, RefRead, Says7, MayFine, Waked7, ReadsLaw, NamesLaw, Dchk, Dwrt, RefWr, Dput, joined.
-/
import Derived.Lib.SlBytesConst
import Derived.BigQuiet
import Derived.Deep.RegionHeld3
import Derived.WalkSmall
import Derived.Test.YtaokhbodmodcgaaJ4
set_option linter.all false
section
/-
  The document's Read. (mkread.py writes this text.)
-/
namespace Go.Proofs.Ytaokhbodmodcgaa
open Go.RowKit
set_option maxRecDepth 100000

set_option maxHeartbeats 8000000 in
theorem read_1 (t bs : List Nat) (hbs : bs = 1 :: t) (A : Option Addr) (c : Nat) (w : World) (hA : By w w.heap.size A bs) (hl : bs.length ≤ 1000000) :
    Calls Try.prog 25 #[.slice A bs.length c] w (ReadTell w bs) := by
  have HB := Lib.hid (fun W B p a d (h : Rd W B p A bs c a d) => byte_any W B p A bs c a d h hl)
  have HT := Lib.hid (fun W B p a d (h : Rd W B p A bs c a d) => rthree_any W B p A bs c a d h hl)
  have HNm := Lib.hid (fun W B p a d (h : Rd W B p A bs c a d) => rname_any W B p A bs c a d h hl)
  have HWr := Lib.hid (fun W B p a d (h : Rd W B p A bs c a d) => rwrites_any W B p A bs c a d h hl)
  have HFl := Lib.hid (fun W B p a d (h : Rd W B p A bs c a d) => rflag_any W B p A bs c a d h hl)
  obtain ⟨w1, hw1⟩ : ∃ w1, w1 = (w.alloc (.cells #[.int .i8 0, .int .i64 0, .int .i64 0, .int .i64 0, .bool false, .slice none 0 0, .int .i64 0, .int .i64 0, .int .i64 0, .int .i64 0, .int .i64 0, .int .i64 0] 29)).alloc (.cells #[.slice A bs.length c, .int .i64 0, .bool false] 76) := ⟨_, rfl⟩
  have hb1 : Below w.heap.size w w1 := by rw [hw1]; exact ((Below.refl w.heap.size w).alloc (Nat.le_refl _) _).alloc (by simp) _
  have hz1 : w1.heap.size = w.heap.size + 2 := by rw [hw1]; simp
  have g0 : w1.heap[w.heap.size]? = some (.cells #[.int .i8 0, .int .i64 0, .int .i64 0, .int .i64 0, .bool false, .slice none 0 0, .int .i64 0, .int .i64 0, .int .i64 0, .int .i64 0, .int .i64 0, .int .i64 0] 29 (0, 0)) := by rw [hw1]; exact heap_alloc2_old w _ _
  have g1 : w1.heap[w.heap.size + 1]? = some (.cells #[.slice A bs.length c, .int .i64 0, .bool false] 76 (0, 0)) := by rw [hw1]; exact heap_alloc2_new w _ _
  have HR1 := Lib.hid (show Rd w1 w.heap.size (w.heap.size + 1) A bs c 0 false from ⟨g1, hA.below hb1 (Nat.le_refl _), by omega, Nat.zero_le _⟩)
  obtain ⟨b, off, rfl, hbw, hcl⟩ := hA.at_ (by rw [hbs]; simp)
  have HC := Lib.hid (show ∀ X, Below w.heap.size w X → X.cell? ⟨b, off, none⟩ = some (.int .u8 1) from fun X hX => by
    have h := (hX.cell (p := ⟨b, off + 0, none⟩) hbw).trans (hcl 0 (by rw [hbs]; simp))
    rw [hbs] at h
    exact h)
  have hl0 : (0 : Int) < (bs.length : Int) := by rw [hbs]; simp
  have hl0' : 0 < bs.length := by rw [hbs]; simp
  have HG0 := Lib.hid g0
  have HB1 := Lib.hid hb1
  have HZ1 := Lib.hid hz1
  have HW1 := Lib.hid hw1
  have HBs := Lib.hid hbs
  clear hw1 hb1 hz1 g0 g1 hA hcl hbw hl hbs
  go_enter Try.func25, Try.ntmps25
  go_wp2_with (rw [← HW1.out])
  refine (HB.out _ _ _ _ _ HR1.out).mono ?_
  rintro e w2 ⟨x, a1, d1, rfl, hx, hr2, hk2, hl2⟩
  obtain ⟨rfl, rfl, HT1⟩ : x = 1 ∧ d1 = false ∧ Hid (bs.drop a1 = t) := by
    rcases hl2.2 rfl with ⟨q, h1, h2, h3⟩ | ⟨h1, _⟩
    · rw [List.drop_zero, HBs.out] at h1
      simp only [rdOne, Option.some.injEq, Prod.mk.injEq] at h1
      exact ⟨h1.1.symm, h2, Lib.hid (by rw [← h3, ← h1.2])⟩
    · rw [List.drop_zero, HBs.out] at h1
      cases h1
  have hb2 : Below w.heap.size w w2 := HB1.out.trans (hk2.to_below (by have := HZ1.out; omega) (fun k h e => by omega))
  obtain ⟨w3, hw3⟩ : ∃ w3, w3 = w2.alloc (.cells #[.int .i8 1, .int .i64 0, .int .i64 0, .int .i64 0, .bool false, .slice none 0 0, .int .i64 0, .int .i64 0, .int .i64 0, .int .i64 0, .int .i64 0, .int .i64 0] 29) := ⟨_, rfl⟩
  have hb3 : Below w2.heap.size w2 w3 := by rw [hw3]; exact (Below.refl _ w2).alloc (Nat.le_refl _) _
  have hx3 : w3.heap[w2.heap.size]? = some (.cells #[.int .i8 1, .int .i64 0, .int .i64 0, .int .i64 0, .bool false, .slice none 0 0, .int .i64 0, .int .i64 0, .int .i64 0, .int .i64 0, .int .i64 0, .int .i64 0] 29 (0, 0)) := by rw [hw3]; exact heap_alloc_new w2 _
  have HX2 := Lib.hid (show w.heap.size + 2 ≤ w2.heap.size by have := hk2.size; have := HZ1.out; omega)
  have hb3' : Below w.heap.size w w3 := hb2.trans (hb3.mono hb2.size)
  have S3 := Lib.hid (show St7 w w2.heap.size (some ⟨b, off, none⟩) bs c w3 #[.int .i8 1, .int .i64 0, .int .i64 0, .int .i64 0, .bool false, .slice none 0 0, .int .i64 0, .int .i64 0, .int .i64 0, .int .i64 0, .int .i64 0, .int .i64 0] a1 false from ⟨hr2.below hb3 (by have := HX2.out; omega), hx3, (hb3.block _ (by have := HX2.out; omega)).trans ((hk2.block _ (by have := HZ1.out; omega) (by omega)).trans HG0.out), hb3'⟩)
  have hc3 := HC.out w3 hb3'
  have x0 : w3.cell? ⟨w2.heap.size, 0, none⟩ = some (.int .i8 1) := by rw [cell_of_row w3 _ 0 _ _ _ hx3]; rfl
  have HW3 := Lib.hid hw3
  clear hr2 hk2 hl2 hx hb2 hw3 hb3 hx3 hb3'
  have hand : bits .and .i64 1 127 = 1 := by kernel_rfl
  have hwK : IntKind.i8.wrap 1 = 1 := by kernel_rfl
  go_wp2_with (first
    | (rw [← HW3.out]))
  refine (HNm.out _ _ _ _ _ S3.out.1).mono ?_
  rintro e w4 ⟨nm, b4, e4, rfl, hn, hr, hk, hlk⟩
  have S4 := Lib.hid (S3.out.call hr hk HX2.out)
  have L4 := Lib.hid hlk
  obtain ⟨z1, z2, z3⟩ := nm
  simp only [nmv]
  clear hn
  clear hr hk hlk
  obtain ⟨w5, hw5⟩ : ∃ w5, w5 = w4.setRow w2.heap.size #[.int .i8 1, .int .i64 z1, .int .i64 z2, .int .i64 z3, .bool false, .slice none 0 0, .int .i64 0, .int .i64 0, .int .i64 0, .int .i64 0, .int .i64 0, .int .i64 0] := ⟨_, rfl⟩
  have S5 := Lib.hid (show St7 w w2.heap.size (some ⟨b, off, none⟩) bs c w5 #[.int .i8 1, .int .i64 z1, .int .i64 z2, .int .i64 z3, .bool false, .slice none 0 0, .int .i64 0, .int .i64 0, .int .i64 0, .int .i64 0, .int .i64 0, .int .i64 0] _ _ from by rw [hw5]; exact S4.out.set HX2.out _)
  have HW5 := Lib.hid hw5
  clear hw5
  have y0 : w5.cell? ⟨w2.heap.size, 0, none⟩ = some (.int .i8 1) := by rw [cell_of_row w5 _ 0 _ _ _ S5.out.2.1]; rfl
  have hcn := HC.out w5 S5.out.2.2.2
  go_wp2_with (first
    | (refine wpList_store_part rfl 24 _ _ rfl w2.heap.size 1 rfl [.int .i64 z1, .int .i64 z2, .int .i64 z3] rfl 29 [.int .i8 1] [.int .i64 0, .int .i64 0, .int .i64 0] [.bool false, .slice none 0 0, .int .i64 0, .int .i64 0, .int .i64 0, .int .i64 0, .int .i64 0, .int .i64 0] S4.out.2.1 rfl rfl Try.sizeN (by simp [Value.oneCell']) ?_; change wpList _ _ _ _ _ (w4.setRow w2.heap.size #[.int .i8 1, .int .i64 z1, .int .i64 z2, .int .i64 z3, .bool false, .slice none 0 0, .int .i64 0, .int .i64 0, .int .i64 0, .int .i64 0, .int .i64 0, .int .i64 0]); rw [← HW5.out]))
  refine (HWr.out _ _ _ _ _ S5.out.1).mono ?_
  rintro e w6 ⟨l, b6, e6, vv, rfl, hfw, hlw, how, hr, hk, hlk⟩
  have S6 := Lib.hid (S5.out.call hr hk HX2.out)
  have L6 := Lib.hid hlk
  obtain ⟨AT, CT, rfl, hws⟩ := how.wrsv hfw hlw
  have V6 := Lib.hid (hws.mono (P' := fun b => w2.heap.size < b) (fun b h1 h2 => by have := (Array.getElem?_eq_some_iff.1 S5.out.2.1).1; omega))
  have HFw := Lib.hid hfw
  clear how hws hfw
  clear hr hk hlk
  obtain ⟨w7, hw7⟩ : ∃ w7, w7 = w6.setRow w2.heap.size #[.int .i8 1, .int .i64 z1, .int .i64 z2, .int .i64 z3, .bool false, .slice AT l.length CT, .int .i64 0, .int .i64 0, .int .i64 0, .int .i64 0, .int .i64 0, .int .i64 0] := ⟨_, rfl⟩
  have S7 := Lib.hid (show St7 w w2.heap.size (some ⟨b, off, none⟩) bs c w7 #[.int .i8 1, .int .i64 z1, .int .i64 z2, .int .i64 z3, .bool false, .slice AT l.length CT, .int .i64 0, .int .i64 0, .int .i64 0, .int .i64 0, .int .i64 0, .int .i64 0] _ _ from by rw [hw7]; exact S6.out.set HX2.out _)
  have HW7 := Lib.hid hw7
  clear hw7
  have V7 := Lib.hid (V6.out.keep (w' := w7) (fun b hb => by rw [HW7.out]; exact setRow_other _ _ _ _ (by have := hb.1; omega)) (by rw [HW7.out]; simp [World.setRow]))
  have HRL := Lib.hid (show readR bs = if e6 = false ∧ b6 = bs.length ∧ mayR ({ zRc with kind := 1, name := ⟨z1, z2, z3⟩, writes := l } : Rc) = true then some ({ zRc with kind := 1, name := ⟨z1, z2, z3⟩, writes := l } : Rc) else none from by
    refine read_link ?_ S7.out.1.at_
    rw [show rdRest bs = _ from by rw [HBs.out, rdRest_1]]
    have h := L4.out.bind (g := fun nm q => bind7 (rdWrites q) fun l q1 => some (({ zRc with kind := 1, name := nm, writes := l } : Rc), q1)) (L6.out.bind (Lnk.pure _))
    rw [HT1.out] at h
    exact h)
  have HFs := Lib.hid (show WrFine l from HFw.out.fine)
  have HLn := Lib.hid (show l.length ≤ 1000000 from by omega)
  have HSh := Lib.hid (show I64 0 from by unfold I64; omega)
  cases e6 with
  | true =>
    have HNo := Lib.hid (show readR bs = none from by rw [HRL.out, if_neg (by simp)])
    obtain ⟨p0, p1, p2, pf⟩ := S7.out.1.cells
    clear pf
    go_wp2_with (first
      | (refine wpList_store_one rfl 25 _ _ rfl w2.heap.size 5 rfl (.slice AT l.length CT) rfl 29 [.int .i8 1, .int .i64 z1, .int .i64 z2, .int .i64 z3, .bool false] (.slice none 0 0) [.int .i64 0, .int .i64 0, .int .i64 0, .int .i64 0, .int .i64 0, .int .i64 0] S6.out.2.1 rfl Try.size1s rfl rfl ?_; change wpList _ _ _ _ _ (w6.setRow w2.heap.size #[.int .i8 1, .int .i64 z1, .int .i64 z2, .int .i64 z3, .bool false, .slice AT l.length CT, .int .i64 0, .int .i64 0, .int .i64 0, .int .i64 0, .int .i64 0, .int .i64 0]); rw [← HW7.out])
      | (refine wpList_store_row rfl 29 (.tmp 2) _ rfl w.heap.size #[.int .i8 0, .int .i64 0, .int .i64 0, .int .i64 0, .bool false, .slice none 0 0, .int .i64 0, .int .i64 0, .int .i64 0, .int .i64 0, .int .i64 0, .int .i64 0] rfl rfl 29 #[.int .i8 0, .int .i64 0, .int .i64 0, .int .i64 0, .bool false, .slice none 0 0, .int .i64 0, .int .i64 0, .int .i64 0, .int .i64 0, .int .i64 0, .int .i64 0] S7.out.2.2.1 (Try.info12 _ _ _ _ _ _ _ _ _ _ _ _ _ _) (size12 _ _ _ _ _ _ _ _ _ _ _ _ _ _ _ _ _ _ _ _ _ _ _ _ _ _ _ _) (one12 _ _ _ _ _ _ _ _ _ _ _ _ _ _) ?_))
    exact bodyPost_ret (results_cell_tmp (t := 29) (p := 2) (u := 3) rfl _ _ w.heap.size #[.int .i8 0, .int .i64 0, .int .i64 0, .int .i64 0, .bool false, .slice none 0 0, .int .i64 0, .int .i64 0, .int .i64 0, .int .i64 0, .int .i64 0, .int .i64 0] (0, 0) _ rfl (setRow_heap _ _ _ _ _ _ S7.out.2.2.1) Try.underlying29 rfl (Try.info12 _ _ _ _ _ _ _ _ _ _ _ _ _ _)) rfl (ReadTell.no HNo.out (below_setRow S7.out.2.2.2 (Nat.le_refl _) _))
  | false =>
    by_cases hat : b6 = bs.length
    · have HMay := Lib.hid (may_any ({ zRc with kind := 1, name := ⟨z1, z2, z3⟩, writes := l } : Rc) AT CT w7 (fun b => w2.heap.size < b) V7.out.at_ HFs.out HLn.out HSh.out)
      have HRL2 := HRL.out
      obtain ⟨mb, hmb⟩ : ∃ mb, mb = mayR ({ zRc with kind := 1, name := ⟨z1, z2, z3⟩, writes := l } : Rc) := ⟨_, rfl⟩
      rw [← hmb] at HMay HRL2
      have HRM := Lib.hid HRL2
      have hati : (b6 : Int) = (bs.length : Int) := by omega
      have qq := row_lit (cs := (#[.int .i8 1, .int .i64 z1, .int .i64 z2, .int .i64 z3, .bool false, .slice AT l.length CT, .int .i64 0, .int .i64 0, .int .i64 0, .int .i64 0, .int .i64 0, .int .i64 0] : Array Value).toList) S7.out.2.1
      have q0 := qq 0 _ rfl
      have q1 := qq 1 _ rfl
      have q2 := qq 2 _ rfl
      have q3 := qq 3 _ rfl
      have q4 := qq 4 _ rfl
      have q5 := qq 5 _ rfl
      have q6 := qq 6 _ rfl
      have q7 := qq 7 _ rfl
      have q8 := qq 8 _ rfl
      have q9 := qq 9 _ rfl
      have q10 := qq 10 _ rfl
      have q11 := qq 11 _ rfl
      clear qq hmb HRL2
      obtain ⟨p0, p1, p2, pf⟩ := S7.out.1.cells
      clear pf
      go_wp2_with (first
        | (refine wpList_store_one rfl 25 _ _ rfl w2.heap.size 5 rfl (.slice AT l.length CT) rfl 29 [.int .i8 1, .int .i64 z1, .int .i64 z2, .int .i64 z3, .bool false] (.slice none 0 0) [.int .i64 0, .int .i64 0, .int .i64 0, .int .i64 0, .int .i64 0, .int .i64 0] S6.out.2.1 rfl Try.size1s rfl rfl ?_; change wpList _ _ _ _ _ (w6.setRow w2.heap.size #[.int .i8 1, .int .i64 z1, .int .i64 z2, .int .i64 z3, .bool false, .slice AT l.length CT, .int .i64 0, .int .i64 0, .int .i64 0, .int .i64 0, .int .i64 0, .int .i64 0]); rw [← HW7.out]))
      refine HMay.out.mono ?_
      rintro e wm ⟨rfl, hb6⟩
      have SM := Lib.hid (S7.out.below hb6)
      have HWm := Lib.hid (V7.out.below hb6)
      have HXm := Lib.hid (S7.out.2.1)
      clear q0 q1 q2 q3 q4 q5 q6 q7 q8 q9 q10 q11
      clear p0 p1 p2 hb6
      cases mb with
      | false =>
        have HNo := Lib.hid (show readR bs = none from by rw [HRM.out, if_neg (by simp)])
        go_wp2_with (first
          | fail
          | (refine wpList_store_row rfl 29 (.tmp 2) _ rfl w.heap.size #[.int .i8 0, .int .i64 0, .int .i64 0, .int .i64 0, .bool false, .slice none 0 0, .int .i64 0, .int .i64 0, .int .i64 0, .int .i64 0, .int .i64 0, .int .i64 0] rfl rfl 29 #[.int .i8 0, .int .i64 0, .int .i64 0, .int .i64 0, .bool false, .slice none 0 0, .int .i64 0, .int .i64 0, .int .i64 0, .int .i64 0, .int .i64 0, .int .i64 0] SM.out.2.2.1 (Try.info12 _ _ _ _ _ _ _ _ _ _ _ _ _ _) (size12 _ _ _ _ _ _ _ _ _ _ _ _ _ _ _ _ _ _ _ _ _ _ _ _ _ _ _ _) (one12 _ _ _ _ _ _ _ _ _ _ _ _ _ _) ?_))
        exact bodyPost_ret (results_cell_tmp (t := 29) (p := 2) (u := 3) rfl _ _ w.heap.size #[.int .i8 0, .int .i64 0, .int .i64 0, .int .i64 0, .bool false, .slice none 0 0, .int .i64 0, .int .i64 0, .int .i64 0, .int .i64 0, .int .i64 0, .int .i64 0] (0, 0) _ rfl (setRow_heap _ _ _ _ _ _ SM.out.2.2.1) Try.underlying29 rfl (Try.info12 _ _ _ _ _ _ _ _ _ _ _ _ _ _)) rfl (ReadTell.no HNo.out (below_setRow SM.out.2.2.2 (Nat.le_refl _) _))
      | true =>
        have HYes := Lib.hid (show readR bs = some ({ zRc with kind := 1, name := ⟨z1, z2, z3⟩, writes := l } : Rc) from by rw [HRM.out, if_pos (by simp [hat])])
        go_wp2_with (first
          | (refine wpList_load_part rfl 29 _ rfl w2.heap.size 0 rfl (#[.int .i8 1, .int .i64 z1, .int .i64 z2, .int .i64 z3, .bool false, .slice AT l.length CT, .int .i64 0, .int .i64 0, .int .i64 0, .int .i64 0, .int .i64 0, .int .i64 0] : Array Value).toList _ (row_lit SM.out.2.1) Try.underlying29 rfl Try.sizeR ?_)
          | (refine wpList_store_row rfl 29 (.tmp 2) _ rfl w.heap.size #[.int .i8 1, .int .i64 z1, .int .i64 z2, .int .i64 z3, .bool false, .slice AT l.length CT, .int .i64 0, .int .i64 0, .int .i64 0, .int .i64 0, .int .i64 0, .int .i64 0] rfl rfl 29 #[.int .i8 0, .int .i64 0, .int .i64 0, .int .i64 0, .bool false, .slice none 0 0, .int .i64 0, .int .i64 0, .int .i64 0, .int .i64 0, .int .i64 0, .int .i64 0] SM.out.2.2.1 (Try.info12 _ _ _ _ _ _ _ _ _ _ _ _ _ _) (size12 _ _ _ _ _ _ _ _ _ _ _ _ _ _ _ _ _ _ _ _ _ _ _ _ _ _ _ _) (one12 _ _ _ _ _ _ _ _ _ _ _ _ _ _) ?_))
        exact bodyPost_ret (results_cell_tmp (t := 29) (p := 2) (u := 3) rfl _ _ w.heap.size #[.int .i8 1, .int .i64 z1, .int .i64 z2, .int .i64 z3, .bool false, .slice AT l.length CT, .int .i64 0, .int .i64 0, .int .i64 0, .int .i64 0, .int .i64 0, .int .i64 0] (0, 0) _ rfl (setRow_heap _ _ _ _ _ _ SM.out.2.2.1) Try.underlying29 rfl (Try.info12 _ _ _ _ _ _ _ _ _ _ _ _ _ _)) rfl (ReadTell.yes (r := ({ zRc with kind := 1, name := ⟨z1, z2, z3⟩, writes := l } : Rc)) HYes.out (HWm.out.out (fun b hb => setRow_other _ _ _ _ (by have := HX2.out; omega)) (by simp) (by have := HX2.out; omega)) HFs.out (below_setRow SM.out.2.2.2 (Nat.le_refl _) _))
    · have hati : ¬ (b6 : Int) = (bs.length : Int) := by omega
      have HNo := Lib.hid (show readR bs = none from by rw [HRL.out, if_neg (fun h => hat h.2.1)])
      obtain ⟨p0, p1, p2, pf⟩ := S7.out.1.cells
      clear pf
      go_wp2_with (first
        | (refine wpList_store_one rfl 25 _ _ rfl w2.heap.size 5 rfl (.slice AT l.length CT) rfl 29 [.int .i8 1, .int .i64 z1, .int .i64 z2, .int .i64 z3, .bool false] (.slice none 0 0) [.int .i64 0, .int .i64 0, .int .i64 0, .int .i64 0, .int .i64 0, .int .i64 0] S6.out.2.1 rfl Try.size1s rfl rfl ?_; change wpList _ _ _ _ _ (w6.setRow w2.heap.size #[.int .i8 1, .int .i64 z1, .int .i64 z2, .int .i64 z3, .bool false, .slice AT l.length CT, .int .i64 0, .int .i64 0, .int .i64 0, .int .i64 0, .int .i64 0, .int .i64 0]); rw [← HW7.out])
        | (refine wpList_store_row rfl 29 (.tmp 2) _ rfl w.heap.size #[.int .i8 0, .int .i64 0, .int .i64 0, .int .i64 0, .bool false, .slice none 0 0, .int .i64 0, .int .i64 0, .int .i64 0, .int .i64 0, .int .i64 0, .int .i64 0] rfl rfl 29 #[.int .i8 0, .int .i64 0, .int .i64 0, .int .i64 0, .bool false, .slice none 0 0, .int .i64 0, .int .i64 0, .int .i64 0, .int .i64 0, .int .i64 0, .int .i64 0] S7.out.2.2.1 (Try.info12 _ _ _ _ _ _ _ _ _ _ _ _ _ _) (size12 _ _ _ _ _ _ _ _ _ _ _ _ _ _ _ _ _ _ _ _ _ _ _ _ _ _ _ _) (one12 _ _ _ _ _ _ _ _ _ _ _ _ _ _) ?_))
      exact bodyPost_ret (results_cell_tmp (t := 29) (p := 2) (u := 3) rfl _ _ w.heap.size #[.int .i8 0, .int .i64 0, .int .i64 0, .int .i64 0, .bool false, .slice none 0 0, .int .i64 0, .int .i64 0, .int .i64 0, .int .i64 0, .int .i64 0, .int .i64 0] (0, 0) _ rfl (setRow_heap _ _ _ _ _ _ S7.out.2.2.1) Try.underlying29 rfl (Try.info12 _ _ _ _ _ _ _ _ _ _ _ _ _ _)) rfl (ReadTell.no HNo.out (below_setRow S7.out.2.2.2 (Nat.le_refl _) _))
set_option maxHeartbeats 8000000 in
theorem read_4 (t bs : List Nat) (hbs : bs = 4 :: t) (A : Option Addr) (c : Nat) (w : World) (hA : By w w.heap.size A bs) (hl : bs.length ≤ 1000000) :
    Calls Try.prog 25 #[.slice A bs.length c] w (ReadTell w bs) := by
  have HB := Lib.hid (fun W B p a d (h : Rd W B p A bs c a d) => byte_any W B p A bs c a d h hl)
  have HT := Lib.hid (fun W B p a d (h : Rd W B p A bs c a d) => rthree_any W B p A bs c a d h hl)
  have HNm := Lib.hid (fun W B p a d (h : Rd W B p A bs c a d) => rname_any W B p A bs c a d h hl)
  have HWr := Lib.hid (fun W B p a d (h : Rd W B p A bs c a d) => rwrites_any W B p A bs c a d h hl)
  have HFl := Lib.hid (fun W B p a d (h : Rd W B p A bs c a d) => rflag_any W B p A bs c a d h hl)
  obtain ⟨w1, hw1⟩ : ∃ w1, w1 = (w.alloc (.cells #[.int .i8 0, .int .i64 0, .int .i64 0, .int .i64 0, .bool false, .slice none 0 0, .int .i64 0, .int .i64 0, .int .i64 0, .int .i64 0, .int .i64 0, .int .i64 0] 29)).alloc (.cells #[.slice A bs.length c, .int .i64 0, .bool false] 76) := ⟨_, rfl⟩
  have hb1 : Below w.heap.size w w1 := by rw [hw1]; exact ((Below.refl w.heap.size w).alloc (Nat.le_refl _) _).alloc (by simp) _
  have hz1 : w1.heap.size = w.heap.size + 2 := by rw [hw1]; simp
  have g0 : w1.heap[w.heap.size]? = some (.cells #[.int .i8 0, .int .i64 0, .int .i64 0, .int .i64 0, .bool false, .slice none 0 0, .int .i64 0, .int .i64 0, .int .i64 0, .int .i64 0, .int .i64 0, .int .i64 0] 29 (0, 0)) := by rw [hw1]; exact heap_alloc2_old w _ _
  have g1 : w1.heap[w.heap.size + 1]? = some (.cells #[.slice A bs.length c, .int .i64 0, .bool false] 76 (0, 0)) := by rw [hw1]; exact heap_alloc2_new w _ _
  have HR1 := Lib.hid (show Rd w1 w.heap.size (w.heap.size + 1) A bs c 0 false from ⟨g1, hA.below hb1 (Nat.le_refl _), by omega, Nat.zero_le _⟩)
  obtain ⟨b, off, rfl, hbw, hcl⟩ := hA.at_ (by rw [hbs]; simp)
  have HC := Lib.hid (show ∀ X, Below w.heap.size w X → X.cell? ⟨b, off, none⟩ = some (.int .u8 4) from fun X hX => by
    have h := (hX.cell (p := ⟨b, off + 0, none⟩) hbw).trans (hcl 0 (by rw [hbs]; simp))
    rw [hbs] at h
    exact h)
  have hl0 : (0 : Int) < (bs.length : Int) := by rw [hbs]; simp
  have hl0' : 0 < bs.length := by rw [hbs]; simp
  have HG0 := Lib.hid g0
  have HB1 := Lib.hid hb1
  have HZ1 := Lib.hid hz1
  have HW1 := Lib.hid hw1
  have HBs := Lib.hid hbs
  clear hw1 hb1 hz1 g0 g1 hA hcl hbw hl hbs
  go_enter Try.func25, Try.ntmps25
  go_wp2_with (rw [← HW1.out])
  refine (HB.out _ _ _ _ _ HR1.out).mono ?_
  rintro e w2 ⟨x, a1, d1, rfl, hx, hr2, hk2, hl2⟩
  obtain ⟨rfl, rfl, HT1⟩ : x = 4 ∧ d1 = false ∧ Hid (bs.drop a1 = t) := by
    rcases hl2.2 rfl with ⟨q, h1, h2, h3⟩ | ⟨h1, _⟩
    · rw [List.drop_zero, HBs.out] at h1
      simp only [rdOne, Option.some.injEq, Prod.mk.injEq] at h1
      exact ⟨h1.1.symm, h2, Lib.hid (by rw [← h3, ← h1.2])⟩
    · rw [List.drop_zero, HBs.out] at h1
      cases h1
  have hb2 : Below w.heap.size w w2 := HB1.out.trans (hk2.to_below (by have := HZ1.out; omega) (fun k h e => by omega))
  obtain ⟨w3, hw3⟩ : ∃ w3, w3 = w2.alloc (.cells #[.int .i8 4, .int .i64 0, .int .i64 0, .int .i64 0, .bool false, .slice none 0 0, .int .i64 0, .int .i64 0, .int .i64 0, .int .i64 0, .int .i64 0, .int .i64 0] 29) := ⟨_, rfl⟩
  have hb3 : Below w2.heap.size w2 w3 := by rw [hw3]; exact (Below.refl _ w2).alloc (Nat.le_refl _) _
  have hx3 : w3.heap[w2.heap.size]? = some (.cells #[.int .i8 4, .int .i64 0, .int .i64 0, .int .i64 0, .bool false, .slice none 0 0, .int .i64 0, .int .i64 0, .int .i64 0, .int .i64 0, .int .i64 0, .int .i64 0] 29 (0, 0)) := by rw [hw3]; exact heap_alloc_new w2 _
  have HX2 := Lib.hid (show w.heap.size + 2 ≤ w2.heap.size by have := hk2.size; have := HZ1.out; omega)
  have hb3' : Below w.heap.size w w3 := hb2.trans (hb3.mono hb2.size)
  have S3 := Lib.hid (show St7 w w2.heap.size (some ⟨b, off, none⟩) bs c w3 #[.int .i8 4, .int .i64 0, .int .i64 0, .int .i64 0, .bool false, .slice none 0 0, .int .i64 0, .int .i64 0, .int .i64 0, .int .i64 0, .int .i64 0, .int .i64 0] a1 false from ⟨hr2.below hb3 (by have := HX2.out; omega), hx3, (hb3.block _ (by have := HX2.out; omega)).trans ((hk2.block _ (by have := HZ1.out; omega) (by omega)).trans HG0.out), hb3'⟩)
  have hc3 := HC.out w3 hb3'
  have x0 : w3.cell? ⟨w2.heap.size, 0, none⟩ = some (.int .i8 4) := by rw [cell_of_row w3 _ 0 _ _ _ hx3]; rfl
  have HW3 := Lib.hid hw3
  clear hr2 hk2 hl2 hx hb2 hw3 hb3 hx3 hb3'
  have hand : bits .and .i64 4 127 = 4 := by kernel_rfl
  have hwK : IntKind.i8.wrap 4 = 4 := by kernel_rfl
  go_wp2_with (first
    | (rw [← HW3.out]))
  refine (HNm.out _ _ _ _ _ S3.out.1).mono ?_
  rintro e w4 ⟨nm, b4, e4, rfl, hn, hr, hk, hlk⟩
  have S4 := Lib.hid (S3.out.call hr hk HX2.out)
  have L4 := Lib.hid hlk
  obtain ⟨z1, z2, z3⟩ := nm
  simp only [nmv]
  clear hn
  clear hr hk hlk
  obtain ⟨w5, hw5⟩ : ∃ w5, w5 = w4.setRow w2.heap.size #[.int .i8 4, .int .i64 z1, .int .i64 z2, .int .i64 z3, .bool false, .slice none 0 0, .int .i64 0, .int .i64 0, .int .i64 0, .int .i64 0, .int .i64 0, .int .i64 0] := ⟨_, rfl⟩
  have S5 := Lib.hid (show St7 w w2.heap.size (some ⟨b, off, none⟩) bs c w5 #[.int .i8 4, .int .i64 z1, .int .i64 z2, .int .i64 z3, .bool false, .slice none 0 0, .int .i64 0, .int .i64 0, .int .i64 0, .int .i64 0, .int .i64 0, .int .i64 0] _ _ from by rw [hw5]; exact S4.out.set HX2.out _)
  have HW5 := Lib.hid hw5
  clear hw5
  have y0 : w5.cell? ⟨w2.heap.size, 0, none⟩ = some (.int .i8 4) := by rw [cell_of_row w5 _ 0 _ _ _ S5.out.2.1]; rfl
  have hcn := HC.out w5 S5.out.2.2.2
  go_wp2_with (first
    | (refine wpList_store_part rfl 24 _ _ rfl w2.heap.size 1 rfl [.int .i64 z1, .int .i64 z2, .int .i64 z3] rfl 29 [.int .i8 4] [.int .i64 0, .int .i64 0, .int .i64 0] [.bool false, .slice none 0 0, .int .i64 0, .int .i64 0, .int .i64 0, .int .i64 0, .int .i64 0, .int .i64 0] S4.out.2.1 rfl rfl Try.sizeN (by simp [Value.oneCell']) ?_; change wpList _ _ _ _ _ (w4.setRow w2.heap.size #[.int .i8 4, .int .i64 z1, .int .i64 z2, .int .i64 z3, .bool false, .slice none 0 0, .int .i64 0, .int .i64 0, .int .i64 0, .int .i64 0, .int .i64 0, .int .i64 0]); rw [← HW5.out]))
  refine (HB.out _ _ _ _ _ S5.out.1).mono ?_
  rintro e w6 ⟨g, b6, e6, rfl, hxg, hr, hk, hlk⟩
  have S6 := Lib.hid (S5.out.call hr hk HX2.out)
  have L6 := Lib.hid hlk
  clear hr hk hlk
  obtain ⟨w7, hw7⟩ : ∃ w7, w7 = w6.setRow w2.heap.size #[.int .i8 4, .int .i64 z1, .int .i64 z2, .int .i64 z3, .bool false, .slice none 0 0, .int .i64 0, .int .i64 0, .int .i64 g, .int .i64 0, .int .i64 0, .int .i64 0] := ⟨_, rfl⟩
  have S7 := Lib.hid (show St7 w w2.heap.size (some ⟨b, off, none⟩) bs c w7 #[.int .i8 4, .int .i64 z1, .int .i64 z2, .int .i64 z3, .bool false, .slice none 0 0, .int .i64 0, .int .i64 0, .int .i64 g, .int .i64 0, .int .i64 0, .int .i64 0] _ _ from by rw [hw7]; exact S6.out.set HX2.out _)
  have HW7 := Lib.hid hw7
  clear hw7
  go_wp2_with (first
    | (refine wpList_store_one rfl 3 _ _ rfl w2.heap.size 8 rfl (.int .i64 g) rfl 29 [.int .i8 4, .int .i64 z1, .int .i64 z2, .int .i64 z3, .bool false, .slice none 0 0, .int .i64 0, .int .i64 0] (.int .i64 0) [.int .i64 0, .int .i64 0, .int .i64 0] S6.out.2.1 rfl Try.size1 rfl rfl ?_; change wpList _ _ _ _ _ (w6.setRow w2.heap.size #[.int .i8 4, .int .i64 z1, .int .i64 z2, .int .i64 z3, .bool false, .slice none 0 0, .int .i64 0, .int .i64 0, .int .i64 g, .int .i64 0, .int .i64 0, .int .i64 0]); rw [← HW7.out]))
  refine (HB.out _ _ _ _ _ S7.out.1).mono ?_
  rintro e w8 ⟨k, b8, e8, rfl, hxk, hr, hk, hlk⟩
  have S8 := Lib.hid (S7.out.call hr hk HX2.out)
  have L8 := Lib.hid hlk
  have hwk : IntKind.i64.wrap (k - 1) = k - 1 := by rw [IntKind.wrap_i64]; omega
  clear hr hk hlk
  obtain ⟨w9, hw9⟩ : ∃ w9, w9 = w8.setRow w2.heap.size #[.int .i8 4, .int .i64 z1, .int .i64 z2, .int .i64 z3, .bool false, .slice none 0 0, .int .i64 0, .int .i64 0, .int .i64 g, .int .i64 (k - 1), .int .i64 0, .int .i64 0] := ⟨_, rfl⟩
  have S9 := Lib.hid (show St7 w w2.heap.size (some ⟨b, off, none⟩) bs c w9 #[.int .i8 4, .int .i64 z1, .int .i64 z2, .int .i64 z3, .bool false, .slice none 0 0, .int .i64 0, .int .i64 0, .int .i64 g, .int .i64 (k - 1), .int .i64 0, .int .i64 0] _ _ from by rw [hw9]; exact S8.out.set HX2.out _)
  have HW9 := Lib.hid hw9
  clear hw9
  go_wp2_with (first
    | (refine wpList_store_one rfl 3 _ _ rfl w2.heap.size 9 rfl (.int .i64 (k - 1)) rfl 29 [.int .i8 4, .int .i64 z1, .int .i64 z2, .int .i64 z3, .bool false, .slice none 0 0, .int .i64 0, .int .i64 0, .int .i64 g] (.int .i64 0) [.int .i64 0, .int .i64 0] S8.out.2.1 rfl Try.size1 rfl rfl ?_; change wpList _ _ _ _ _ (w8.setRow w2.heap.size #[.int .i8 4, .int .i64 z1, .int .i64 z2, .int .i64 z3, .bool false, .slice none 0 0, .int .i64 0, .int .i64 0, .int .i64 g, .int .i64 (k - 1), .int .i64 0, .int .i64 0]); rw [← HW9.out]))
  refine (HB.out _ _ _ _ _ S9.out.1).mono ?_
  rintro e w10 ⟨m, b10, e10, rfl, hxm, hr, hk, hlk⟩
  have S10 := Lib.hid (S9.out.call hr hk HX2.out)
  have L10 := Lib.hid hlk
  clear hr hk hlk
  obtain ⟨w11, hw11⟩ : ∃ w11, w11 = w10.setRow w2.heap.size #[.int .i8 4, .int .i64 z1, .int .i64 z2, .int .i64 z3, .bool false, .slice none 0 0, .int .i64 0, .int .i64 0, .int .i64 g, .int .i64 (k - 1), .int .i64 m, .int .i64 0] := ⟨_, rfl⟩
  have S11 := Lib.hid (show St7 w w2.heap.size (some ⟨b, off, none⟩) bs c w11 #[.int .i8 4, .int .i64 z1, .int .i64 z2, .int .i64 z3, .bool false, .slice none 0 0, .int .i64 0, .int .i64 0, .int .i64 g, .int .i64 (k - 1), .int .i64 m, .int .i64 0] _ _ from by rw [hw11]; exact S10.out.set HX2.out _)
  have HW11 := Lib.hid hw11
  clear hw11
  have VT := Lib.hid (show WrsV w11 (fun b => w2.heap.size < b) none 0 ([] : List (Int × List Nat)) from WrsV.nil_)
  have HRL := Lib.hid (show readR bs = if e10 = false ∧ b10 = bs.length ∧ mayR ({ zRc with kind := 4, name := ⟨z1, z2, z3⟩, shards := g, stripe := k - 1, dest := m } : Rc) = true then some ({ zRc with kind := 4, name := ⟨z1, z2, z3⟩, shards := g, stripe := k - 1, dest := m } : Rc) else none from by
    refine read_link ?_ S11.out.1.at_
    rw [show rdRest bs = _ from by rw [HBs.out, rdRest_4]]
    have h := L4.out.bind (g := fun nm q => bind7 (rdOne q) fun g q1 => bind7 (rdOne q1) fun k q2 => bind7 (rdOne q2) fun m q3 => some (({ zRc with kind := 4, name := nm, shards := g, stripe := k - 1, dest := m } : Rc), q3)) (L6.out.bind (L8.out.bind (L10.out.bind (Lnk.pure _))))
    rw [HT1.out] at h
    exact h)
  have HFs := Lib.hid (show WrFine ([] : List (Int × List Nat)) from fun _ h => absurd h (by simp))
  have HLn := Lib.hid (show ([] : List (Int × List Nat)).length ≤ 1000000 from by simp)
  have HSh := Lib.hid (show I64 g from by unfold I64; omega)
  cases e10 with
  | true =>
    have HNo := Lib.hid (show readR bs = none from by rw [HRL.out, if_neg (by simp)])
    obtain ⟨p0, p1, p2, pf⟩ := S11.out.1.cells
    clear pf
    go_wp2_with (first
      | (refine wpList_store_one rfl 3 _ _ rfl w2.heap.size 10 rfl (.int .i64 m) rfl 29 [.int .i8 4, .int .i64 z1, .int .i64 z2, .int .i64 z3, .bool false, .slice none 0 0, .int .i64 0, .int .i64 0, .int .i64 g, .int .i64 (k - 1)] (.int .i64 0) [.int .i64 0] S10.out.2.1 rfl Try.size1 rfl rfl ?_; change wpList _ _ _ _ _ (w10.setRow w2.heap.size #[.int .i8 4, .int .i64 z1, .int .i64 z2, .int .i64 z3, .bool false, .slice none 0 0, .int .i64 0, .int .i64 0, .int .i64 g, .int .i64 (k - 1), .int .i64 m, .int .i64 0]); rw [← HW11.out])
      | (refine wpList_store_row rfl 29 (.tmp 2) _ rfl w.heap.size #[.int .i8 0, .int .i64 0, .int .i64 0, .int .i64 0, .bool false, .slice none 0 0, .int .i64 0, .int .i64 0, .int .i64 0, .int .i64 0, .int .i64 0, .int .i64 0] rfl rfl 29 #[.int .i8 0, .int .i64 0, .int .i64 0, .int .i64 0, .bool false, .slice none 0 0, .int .i64 0, .int .i64 0, .int .i64 0, .int .i64 0, .int .i64 0, .int .i64 0] S11.out.2.2.1 (Try.info12 _ _ _ _ _ _ _ _ _ _ _ _ _ _) (size12 _ _ _ _ _ _ _ _ _ _ _ _ _ _ _ _ _ _ _ _ _ _ _ _ _ _ _ _) (one12 _ _ _ _ _ _ _ _ _ _ _ _ _ _) ?_))
    exact bodyPost_ret (results_cell_tmp (t := 29) (p := 2) (u := 3) rfl _ _ w.heap.size #[.int .i8 0, .int .i64 0, .int .i64 0, .int .i64 0, .bool false, .slice none 0 0, .int .i64 0, .int .i64 0, .int .i64 0, .int .i64 0, .int .i64 0, .int .i64 0] (0, 0) _ rfl (setRow_heap _ _ _ _ _ _ S11.out.2.2.1) Try.underlying29 rfl (Try.info12 _ _ _ _ _ _ _ _ _ _ _ _ _ _)) rfl (ReadTell.no HNo.out (below_setRow S11.out.2.2.2 (Nat.le_refl _) _))
  | false =>
    by_cases hat : b10 = bs.length
    · have HMay := Lib.hid (may_any ({ zRc with kind := 4, name := ⟨z1, z2, z3⟩, shards := g, stripe := k - 1, dest := m } : Rc) none 0 w11 (fun b => w2.heap.size < b) VT.out.at_ HFs.out HLn.out HSh.out)
      have HRL2 := HRL.out
      obtain ⟨mb, hmb⟩ : ∃ mb, mb = mayR ({ zRc with kind := 4, name := ⟨z1, z2, z3⟩, shards := g, stripe := k - 1, dest := m } : Rc) := ⟨_, rfl⟩
      rw [← hmb] at HMay HRL2
      have HRM := Lib.hid HRL2
      have hati : (b10 : Int) = (bs.length : Int) := by omega
      have qq := row_lit (cs := (#[.int .i8 4, .int .i64 z1, .int .i64 z2, .int .i64 z3, .bool false, .slice none 0 0, .int .i64 0, .int .i64 0, .int .i64 g, .int .i64 (k - 1), .int .i64 m, .int .i64 0] : Array Value).toList) S11.out.2.1
      have q0 := qq 0 _ rfl
      have q1 := qq 1 _ rfl
      have q2 := qq 2 _ rfl
      have q3 := qq 3 _ rfl
      have q4 := qq 4 _ rfl
      have q5 := qq 5 _ rfl
      have q6 := qq 6 _ rfl
      have q7 := qq 7 _ rfl
      have q8 := qq 8 _ rfl
      have q9 := qq 9 _ rfl
      have q10 := qq 10 _ rfl
      have q11 := qq 11 _ rfl
      clear qq hmb HRL2
      obtain ⟨p0, p1, p2, pf⟩ := S11.out.1.cells
      clear pf
      go_wp2_with (first
        | (refine wpList_store_one rfl 3 _ _ rfl w2.heap.size 10 rfl (.int .i64 m) rfl 29 [.int .i8 4, .int .i64 z1, .int .i64 z2, .int .i64 z3, .bool false, .slice none 0 0, .int .i64 0, .int .i64 0, .int .i64 g, .int .i64 (k - 1)] (.int .i64 0) [.int .i64 0] S10.out.2.1 rfl Try.size1 rfl rfl ?_; change wpList _ _ _ _ _ (w10.setRow w2.heap.size #[.int .i8 4, .int .i64 z1, .int .i64 z2, .int .i64 z3, .bool false, .slice none 0 0, .int .i64 0, .int .i64 0, .int .i64 g, .int .i64 (k - 1), .int .i64 m, .int .i64 0]); rw [← HW11.out]))
      refine HMay.out.mono ?_
      rintro e wm ⟨rfl, hb6⟩
      have SM := Lib.hid (S11.out.below hb6)
      have HWm := Lib.hid (VT.out.below hb6)
      have HXm := Lib.hid (S11.out.2.1)
      clear q0 q1 q2 q3 q4 q5 q6 q7 q8 q9 q10 q11
      clear p0 p1 p2 hb6
      cases mb with
      | false =>
        have HNo := Lib.hid (show readR bs = none from by rw [HRM.out, if_neg (by simp)])
        go_wp2_with (first
          | fail
          | (refine wpList_store_row rfl 29 (.tmp 2) _ rfl w.heap.size #[.int .i8 0, .int .i64 0, .int .i64 0, .int .i64 0, .bool false, .slice none 0 0, .int .i64 0, .int .i64 0, .int .i64 0, .int .i64 0, .int .i64 0, .int .i64 0] rfl rfl 29 #[.int .i8 0, .int .i64 0, .int .i64 0, .int .i64 0, .bool false, .slice none 0 0, .int .i64 0, .int .i64 0, .int .i64 0, .int .i64 0, .int .i64 0, .int .i64 0] SM.out.2.2.1 (Try.info12 _ _ _ _ _ _ _ _ _ _ _ _ _ _) (size12 _ _ _ _ _ _ _ _ _ _ _ _ _ _ _ _ _ _ _ _ _ _ _ _ _ _ _ _) (one12 _ _ _ _ _ _ _ _ _ _ _ _ _ _) ?_))
        exact bodyPost_ret (results_cell_tmp (t := 29) (p := 2) (u := 3) rfl _ _ w.heap.size #[.int .i8 0, .int .i64 0, .int .i64 0, .int .i64 0, .bool false, .slice none 0 0, .int .i64 0, .int .i64 0, .int .i64 0, .int .i64 0, .int .i64 0, .int .i64 0] (0, 0) _ rfl (setRow_heap _ _ _ _ _ _ SM.out.2.2.1) Try.underlying29 rfl (Try.info12 _ _ _ _ _ _ _ _ _ _ _ _ _ _)) rfl (ReadTell.no HNo.out (below_setRow SM.out.2.2.2 (Nat.le_refl _) _))
      | true =>
        have HYes := Lib.hid (show readR bs = some ({ zRc with kind := 4, name := ⟨z1, z2, z3⟩, shards := g, stripe := k - 1, dest := m } : Rc) from by rw [HRM.out, if_pos (by simp [hat])])
        go_wp2_with (first
          | (refine wpList_load_part rfl 29 _ rfl w2.heap.size 0 rfl (#[.int .i8 4, .int .i64 z1, .int .i64 z2, .int .i64 z3, .bool false, .slice none 0 0, .int .i64 0, .int .i64 0, .int .i64 g, .int .i64 (k - 1), .int .i64 m, .int .i64 0] : Array Value).toList _ (row_lit SM.out.2.1) Try.underlying29 rfl Try.sizeR ?_)
          | (refine wpList_store_row rfl 29 (.tmp 2) _ rfl w.heap.size #[.int .i8 4, .int .i64 z1, .int .i64 z2, .int .i64 z3, .bool false, .slice none 0 0, .int .i64 0, .int .i64 0, .int .i64 g, .int .i64 (k - 1), .int .i64 m, .int .i64 0] rfl rfl 29 #[.int .i8 0, .int .i64 0, .int .i64 0, .int .i64 0, .bool false, .slice none 0 0, .int .i64 0, .int .i64 0, .int .i64 0, .int .i64 0, .int .i64 0, .int .i64 0] SM.out.2.2.1 (Try.info12 _ _ _ _ _ _ _ _ _ _ _ _ _ _) (size12 _ _ _ _ _ _ _ _ _ _ _ _ _ _ _ _ _ _ _ _ _ _ _ _ _ _ _ _) (one12 _ _ _ _ _ _ _ _ _ _ _ _ _ _) ?_))
        exact bodyPost_ret (results_cell_tmp (t := 29) (p := 2) (u := 3) rfl _ _ w.heap.size #[.int .i8 4, .int .i64 z1, .int .i64 z2, .int .i64 z3, .bool false, .slice none 0 0, .int .i64 0, .int .i64 0, .int .i64 g, .int .i64 (k - 1), .int .i64 m, .int .i64 0] (0, 0) _ rfl (setRow_heap _ _ _ _ _ _ SM.out.2.2.1) Try.underlying29 rfl (Try.info12 _ _ _ _ _ _ _ _ _ _ _ _ _ _)) rfl (ReadTell.yes (r := ({ zRc with kind := 4, name := ⟨z1, z2, z3⟩, shards := g, stripe := k - 1, dest := m } : Rc)) HYes.out (HWm.out.out (fun b hb => setRow_other _ _ _ _ (by have := HX2.out; omega)) (by simp) (by have := HX2.out; omega)) HFs.out (below_setRow SM.out.2.2.2 (Nat.le_refl _) _))
    · have hati : ¬ (b10 : Int) = (bs.length : Int) := by omega
      have HNo := Lib.hid (show readR bs = none from by rw [HRL.out, if_neg (fun h => hat h.2.1)])
      obtain ⟨p0, p1, p2, pf⟩ := S11.out.1.cells
      clear pf
      go_wp2_with (first
        | (refine wpList_store_one rfl 3 _ _ rfl w2.heap.size 10 rfl (.int .i64 m) rfl 29 [.int .i8 4, .int .i64 z1, .int .i64 z2, .int .i64 z3, .bool false, .slice none 0 0, .int .i64 0, .int .i64 0, .int .i64 g, .int .i64 (k - 1)] (.int .i64 0) [.int .i64 0] S10.out.2.1 rfl Try.size1 rfl rfl ?_; change wpList _ _ _ _ _ (w10.setRow w2.heap.size #[.int .i8 4, .int .i64 z1, .int .i64 z2, .int .i64 z3, .bool false, .slice none 0 0, .int .i64 0, .int .i64 0, .int .i64 g, .int .i64 (k - 1), .int .i64 m, .int .i64 0]); rw [← HW11.out])
        | (refine wpList_store_row rfl 29 (.tmp 2) _ rfl w.heap.size #[.int .i8 0, .int .i64 0, .int .i64 0, .int .i64 0, .bool false, .slice none 0 0, .int .i64 0, .int .i64 0, .int .i64 0, .int .i64 0, .int .i64 0, .int .i64 0] rfl rfl 29 #[.int .i8 0, .int .i64 0, .int .i64 0, .int .i64 0, .bool false, .slice none 0 0, .int .i64 0, .int .i64 0, .int .i64 0, .int .i64 0, .int .i64 0, .int .i64 0] S11.out.2.2.1 (Try.info12 _ _ _ _ _ _ _ _ _ _ _ _ _ _) (size12 _ _ _ _ _ _ _ _ _ _ _ _ _ _ _ _ _ _ _ _ _ _ _ _ _ _ _ _) (one12 _ _ _ _ _ _ _ _ _ _ _ _ _ _) ?_))
      exact bodyPost_ret (results_cell_tmp (t := 29) (p := 2) (u := 3) rfl _ _ w.heap.size #[.int .i8 0, .int .i64 0, .int .i64 0, .int .i64 0, .bool false, .slice none 0 0, .int .i64 0, .int .i64 0, .int .i64 0, .int .i64 0, .int .i64 0, .int .i64 0] (0, 0) _ rfl (setRow_heap _ _ _ _ _ _ S11.out.2.2.1) Try.underlying29 rfl (Try.info12 _ _ _ _ _ _ _ _ _ _ _ _ _ _)) rfl (ReadTell.no HNo.out (below_setRow S11.out.2.2.2 (Nat.le_refl _) _))
end Go.Proofs.Ytaokhbodmodcgaa
end

section
/-
  The document's Read. (mkread.py writes this text.)
-/
namespace Go.Proofs.Ytaokhbodmodcgaa
open Go.RowKit
set_option maxRecDepth 100000

set_option maxHeartbeats 8000000 in
theorem read_2 (t bs : List Nat) (hbs : bs = 2 :: t) (A : Option Addr) (c : Nat) (w : World) (hA : By w w.heap.size A bs) (hl : bs.length ≤ 1000000) :
    Calls Try.prog 25 #[.slice A bs.length c] w (ReadTell w bs) := by
  have HB := Lib.hid (fun W B p a d (h : Rd W B p A bs c a d) => byte_any W B p A bs c a d h hl)
  have HT := Lib.hid (fun W B p a d (h : Rd W B p A bs c a d) => rthree_any W B p A bs c a d h hl)
  have HNm := Lib.hid (fun W B p a d (h : Rd W B p A bs c a d) => rname_any W B p A bs c a d h hl)
  have HWr := Lib.hid (fun W B p a d (h : Rd W B p A bs c a d) => rwrites_any W B p A bs c a d h hl)
  have HFl := Lib.hid (fun W B p a d (h : Rd W B p A bs c a d) => rflag_any W B p A bs c a d h hl)
  obtain ⟨w1, hw1⟩ : ∃ w1, w1 = (w.alloc (.cells #[.int .i8 0, .int .i64 0, .int .i64 0, .int .i64 0, .bool false, .slice none 0 0, .int .i64 0, .int .i64 0, .int .i64 0, .int .i64 0, .int .i64 0, .int .i64 0] 29)).alloc (.cells #[.slice A bs.length c, .int .i64 0, .bool false] 76) := ⟨_, rfl⟩
  have hb1 : Below w.heap.size w w1 := by rw [hw1]; exact ((Below.refl w.heap.size w).alloc (Nat.le_refl _) _).alloc (by simp) _
  have hz1 : w1.heap.size = w.heap.size + 2 := by rw [hw1]; simp
  have g0 : w1.heap[w.heap.size]? = some (.cells #[.int .i8 0, .int .i64 0, .int .i64 0, .int .i64 0, .bool false, .slice none 0 0, .int .i64 0, .int .i64 0, .int .i64 0, .int .i64 0, .int .i64 0, .int .i64 0] 29 (0, 0)) := by rw [hw1]; exact heap_alloc2_old w _ _
  have g1 : w1.heap[w.heap.size + 1]? = some (.cells #[.slice A bs.length c, .int .i64 0, .bool false] 76 (0, 0)) := by rw [hw1]; exact heap_alloc2_new w _ _
  have HR1 := Lib.hid (show Rd w1 w.heap.size (w.heap.size + 1) A bs c 0 false from ⟨g1, hA.below hb1 (Nat.le_refl _), by omega, Nat.zero_le _⟩)
  obtain ⟨b, off, rfl, hbw, hcl⟩ := hA.at_ (by rw [hbs]; simp)
  have HC := Lib.hid (show ∀ X, Below w.heap.size w X → X.cell? ⟨b, off, none⟩ = some (.int .u8 2) from fun X hX => by
    have h := (hX.cell (p := ⟨b, off + 0, none⟩) hbw).trans (hcl 0 (by rw [hbs]; simp))
    rw [hbs] at h
    exact h)
  have hl0 : (0 : Int) < (bs.length : Int) := by rw [hbs]; simp
  have hl0' : 0 < bs.length := by rw [hbs]; simp
  have HG0 := Lib.hid g0
  have HB1 := Lib.hid hb1
  have HZ1 := Lib.hid hz1
  have HW1 := Lib.hid hw1
  have HBs := Lib.hid hbs
  clear hw1 hb1 hz1 g0 g1 hA hcl hbw hl hbs
  go_enter Try.func25, Try.ntmps25
  go_wp2_with (rw [← HW1.out])
  refine (HB.out _ _ _ _ _ HR1.out).mono ?_
  rintro e w2 ⟨x, a1, d1, rfl, hx, hr2, hk2, hl2⟩
  obtain ⟨rfl, rfl, HT1⟩ : x = 2 ∧ d1 = false ∧ Hid (bs.drop a1 = t) := by
    rcases hl2.2 rfl with ⟨q, h1, h2, h3⟩ | ⟨h1, _⟩
    · rw [List.drop_zero, HBs.out] at h1
      simp only [rdOne, Option.some.injEq, Prod.mk.injEq] at h1
      exact ⟨h1.1.symm, h2, Lib.hid (by rw [← h3, ← h1.2])⟩
    · rw [List.drop_zero, HBs.out] at h1
      cases h1
  have hb2 : Below w.heap.size w w2 := HB1.out.trans (hk2.to_below (by have := HZ1.out; omega) (fun k h e => by omega))
  obtain ⟨w3, hw3⟩ : ∃ w3, w3 = w2.alloc (.cells #[.int .i8 2, .int .i64 0, .int .i64 0, .int .i64 0, .bool false, .slice none 0 0, .int .i64 0, .int .i64 0, .int .i64 0, .int .i64 0, .int .i64 0, .int .i64 0] 29) := ⟨_, rfl⟩
  have hb3 : Below w2.heap.size w2 w3 := by rw [hw3]; exact (Below.refl _ w2).alloc (Nat.le_refl _) _
  have hx3 : w3.heap[w2.heap.size]? = some (.cells #[.int .i8 2, .int .i64 0, .int .i64 0, .int .i64 0, .bool false, .slice none 0 0, .int .i64 0, .int .i64 0, .int .i64 0, .int .i64 0, .int .i64 0, .int .i64 0] 29 (0, 0)) := by rw [hw3]; exact heap_alloc_new w2 _
  have HX2 := Lib.hid (show w.heap.size + 2 ≤ w2.heap.size by have := hk2.size; have := HZ1.out; omega)
  have hb3' : Below w.heap.size w w3 := hb2.trans (hb3.mono hb2.size)
  have S3 := Lib.hid (show St7 w w2.heap.size (some ⟨b, off, none⟩) bs c w3 #[.int .i8 2, .int .i64 0, .int .i64 0, .int .i64 0, .bool false, .slice none 0 0, .int .i64 0, .int .i64 0, .int .i64 0, .int .i64 0, .int .i64 0, .int .i64 0] a1 false from ⟨hr2.below hb3 (by have := HX2.out; omega), hx3, (hb3.block _ (by have := HX2.out; omega)).trans ((hk2.block _ (by have := HZ1.out; omega) (by omega)).trans HG0.out), hb3'⟩)
  have hc3 := HC.out w3 hb3'
  have x0 : w3.cell? ⟨w2.heap.size, 0, none⟩ = some (.int .i8 2) := by rw [cell_of_row w3 _ 0 _ _ _ hx3]; rfl
  have HW3 := Lib.hid hw3
  clear hr2 hk2 hl2 hx hb2 hw3 hb3 hx3 hb3'
  have hand : bits .and .i64 2 127 = 2 := by kernel_rfl
  have hwK : IntKind.i8.wrap 2 = 2 := by kernel_rfl
  go_wp2_with (first
    | (rw [← HW3.out]))
  refine (HNm.out _ _ _ _ _ S3.out.1).mono ?_
  rintro e w4 ⟨nm, b4, e4, rfl, hn, hr, hk, hlk⟩
  have S4 := Lib.hid (S3.out.call hr hk HX2.out)
  have L4 := Lib.hid hlk
  obtain ⟨z1, z2, z3⟩ := nm
  simp only [nmv]
  clear hn
  clear hr hk hlk
  obtain ⟨w5, hw5⟩ : ∃ w5, w5 = w4.setRow w2.heap.size #[.int .i8 2, .int .i64 z1, .int .i64 z2, .int .i64 z3, .bool false, .slice none 0 0, .int .i64 0, .int .i64 0, .int .i64 0, .int .i64 0, .int .i64 0, .int .i64 0] := ⟨_, rfl⟩
  have S5 := Lib.hid (show St7 w w2.heap.size (some ⟨b, off, none⟩) bs c w5 #[.int .i8 2, .int .i64 z1, .int .i64 z2, .int .i64 z3, .bool false, .slice none 0 0, .int .i64 0, .int .i64 0, .int .i64 0, .int .i64 0, .int .i64 0, .int .i64 0] _ _ from by rw [hw5]; exact S4.out.set HX2.out _)
  have HW5 := Lib.hid hw5
  clear hw5
  have y0 : w5.cell? ⟨w2.heap.size, 0, none⟩ = some (.int .i8 2) := by rw [cell_of_row w5 _ 0 _ _ _ S5.out.2.1]; rfl
  have hcn := HC.out w5 S5.out.2.2.2
  go_wp2_with (first
    | (refine wpList_store_part rfl 24 _ _ rfl w2.heap.size 1 rfl [.int .i64 z1, .int .i64 z2, .int .i64 z3] rfl 29 [.int .i8 2] [.int .i64 0, .int .i64 0, .int .i64 0] [.bool false, .slice none 0 0, .int .i64 0, .int .i64 0, .int .i64 0, .int .i64 0, .int .i64 0, .int .i64 0] S4.out.2.1 rfl rfl Try.sizeN (by simp [Value.oneCell']) ?_; change wpList _ _ _ _ _ (w4.setRow w2.heap.size #[.int .i8 2, .int .i64 z1, .int .i64 z2, .int .i64 z3, .bool false, .slice none 0 0, .int .i64 0, .int .i64 0, .int .i64 0, .int .i64 0, .int .i64 0, .int .i64 0]); rw [← HW5.out]))
  refine (HWr.out _ _ _ _ _ S5.out.1).mono ?_
  rintro e w6 ⟨l, b6, e6, vv, rfl, hfw, hlw, how, hr, hk, hlk⟩
  have S6 := Lib.hid (S5.out.call hr hk HX2.out)
  have L6 := Lib.hid hlk
  obtain ⟨AT, CT, rfl, hws⟩ := how.wrsv hfw hlw
  have V6 := Lib.hid (hws.mono (P' := fun b => w2.heap.size < b) (fun b h1 h2 => by have := (Array.getElem?_eq_some_iff.1 S5.out.2.1).1; omega))
  have HFw := Lib.hid hfw
  clear how hws hfw
  clear hr hk hlk
  obtain ⟨w7, hw7⟩ : ∃ w7, w7 = w6.setRow w2.heap.size #[.int .i8 2, .int .i64 z1, .int .i64 z2, .int .i64 z3, .bool false, .slice AT l.length CT, .int .i64 0, .int .i64 0, .int .i64 0, .int .i64 0, .int .i64 0, .int .i64 0] := ⟨_, rfl⟩
  have S7 := Lib.hid (show St7 w w2.heap.size (some ⟨b, off, none⟩) bs c w7 #[.int .i8 2, .int .i64 z1, .int .i64 z2, .int .i64 z3, .bool false, .slice AT l.length CT, .int .i64 0, .int .i64 0, .int .i64 0, .int .i64 0, .int .i64 0, .int .i64 0] _ _ from by rw [hw7]; exact S6.out.set HX2.out _)
  have HW7 := Lib.hid hw7
  clear hw7
  have V7 := Lib.hid (V6.out.keep (w' := w7) (fun b hb => by rw [HW7.out]; exact setRow_other _ _ _ _ (by have := hb.1; omega)) (by rw [HW7.out]; simp [World.setRow]))
  go_wp2_with (first
    | (refine wpList_store_one rfl 25 _ _ rfl w2.heap.size 5 rfl (.slice AT l.length CT) rfl 29 [.int .i8 2, .int .i64 z1, .int .i64 z2, .int .i64 z3, .bool false] (.slice none 0 0) [.int .i64 0, .int .i64 0, .int .i64 0, .int .i64 0, .int .i64 0, .int .i64 0] S6.out.2.1 rfl Try.size1s rfl rfl ?_; change wpList _ _ _ _ _ (w6.setRow w2.heap.size #[.int .i8 2, .int .i64 z1, .int .i64 z2, .int .i64 z3, .bool false, .slice AT l.length CT, .int .i64 0, .int .i64 0, .int .i64 0, .int .i64 0, .int .i64 0, .int .i64 0]); rw [← HW7.out]))
  refine (HB.out _ _ _ _ _ S7.out.1).mono ?_
  rintro e w8 ⟨g, b8, e8, rfl, hxg, hr, hk, hlk⟩
  have S8 := Lib.hid (S7.out.call hr hk HX2.out)
  have L8 := Lib.hid hlk
  have V8 := Lib.hid (V7.out.keep (w' := w8) (fun b hb => hk.block b hb.2 (by have := HX2.out; omega)) hk.size)
  clear hr hk hlk
  obtain ⟨w9, hw9⟩ : ∃ w9, w9 = w8.setRow w2.heap.size #[.int .i8 2, .int .i64 z1, .int .i64 z2, .int .i64 z3, .bool false, .slice AT l.length CT, .int .i64 g, .int .i64 0, .int .i64 0, .int .i64 0, .int .i64 0, .int .i64 0] := ⟨_, rfl⟩
  have S9 := Lib.hid (show St7 w w2.heap.size (some ⟨b, off, none⟩) bs c w9 #[.int .i8 2, .int .i64 z1, .int .i64 z2, .int .i64 z3, .bool false, .slice AT l.length CT, .int .i64 g, .int .i64 0, .int .i64 0, .int .i64 0, .int .i64 0, .int .i64 0] _ _ from by rw [hw9]; exact S8.out.set HX2.out _)
  have HW9 := Lib.hid hw9
  clear hw9
  have V9 := Lib.hid (V8.out.keep (w' := w9) (fun b hb => by rw [HW9.out]; exact setRow_other _ _ _ _ (by have := hb.1; omega)) (by rw [HW9.out]; simp [World.setRow]))
  go_wp2_with (first
    | (refine wpList_store_one rfl 3 _ _ rfl w2.heap.size 6 rfl (.int .i64 g) rfl 29 [.int .i8 2, .int .i64 z1, .int .i64 z2, .int .i64 z3, .bool false, .slice AT l.length CT] (.int .i64 0) [.int .i64 0, .int .i64 0, .int .i64 0, .int .i64 0, .int .i64 0] S8.out.2.1 rfl Try.size1 rfl rfl ?_; change wpList _ _ _ _ _ (w8.setRow w2.heap.size #[.int .i8 2, .int .i64 z1, .int .i64 z2, .int .i64 z3, .bool false, .slice AT l.length CT, .int .i64 g, .int .i64 0, .int .i64 0, .int .i64 0, .int .i64 0, .int .i64 0]); rw [← HW9.out]))
  refine (HB.out _ _ _ _ _ S9.out.1).mono ?_
  rintro e w10 ⟨k, b10, e10, rfl, hxk, hr, hk, hlk⟩
  have S10 := Lib.hid (S9.out.call hr hk HX2.out)
  have L10 := Lib.hid hlk
  have V10 := Lib.hid (V9.out.keep (w' := w10) (fun b hb => hk.block b hb.2 (by have := HX2.out; omega)) hk.size)
  clear hr hk hlk
  obtain ⟨w11, hw11⟩ : ∃ w11, w11 = w10.setRow w2.heap.size #[.int .i8 2, .int .i64 z1, .int .i64 z2, .int .i64 z3, .bool false, .slice AT l.length CT, .int .i64 g, .int .i64 k, .int .i64 0, .int .i64 0, .int .i64 0, .int .i64 0] := ⟨_, rfl⟩
  have S11 := Lib.hid (show St7 w w2.heap.size (some ⟨b, off, none⟩) bs c w11 #[.int .i8 2, .int .i64 z1, .int .i64 z2, .int .i64 z3, .bool false, .slice AT l.length CT, .int .i64 g, .int .i64 k, .int .i64 0, .int .i64 0, .int .i64 0, .int .i64 0] _ _ from by rw [hw11]; exact S10.out.set HX2.out _)
  have HW11 := Lib.hid hw11
  clear hw11
  have V11 := Lib.hid (V10.out.keep (w' := w11) (fun b hb => by rw [HW11.out]; exact setRow_other _ _ _ _ (by have := hb.1; omega)) (by rw [HW11.out]; simp [World.setRow]))
  have HRL := Lib.hid (show readR bs = if e10 = false ∧ b10 = bs.length ∧ mayR ({ zRc with kind := 2, name := ⟨z1, z2, z3⟩, writes := l, give := g, take := k } : Rc) = true then some ({ zRc with kind := 2, name := ⟨z1, z2, z3⟩, writes := l, give := g, take := k } : Rc) else none from by
    refine read_link ?_ S11.out.1.at_
    rw [show rdRest bs = _ from by rw [HBs.out, rdRest_2]]
    have h := L4.out.bind (g := fun nm q => bind7 (rdWrites q) fun l q1 => bind7 (rdOne q1) fun g q2 => bind7 (rdOne q2) fun k q3 => some (({ zRc with kind := 2, name := nm, writes := l, give := g, take := k } : Rc), q3)) (L6.out.bind (L8.out.bind (L10.out.bind (Lnk.pure _))))
    rw [HT1.out] at h
    exact h)
  have HFs := Lib.hid (show WrFine l from HFw.out.fine)
  have HLn := Lib.hid (show l.length ≤ 1000000 from by omega)
  have HSh := Lib.hid (show I64 0 from by unfold I64; omega)
  cases e10 with
  | true =>
    have HNo := Lib.hid (show readR bs = none from by rw [HRL.out, if_neg (by simp)])
    obtain ⟨p0, p1, p2, pf⟩ := S11.out.1.cells
    clear pf
    go_wp2_with (first
      | (refine wpList_store_one rfl 3 _ _ rfl w2.heap.size 7 rfl (.int .i64 k) rfl 29 [.int .i8 2, .int .i64 z1, .int .i64 z2, .int .i64 z3, .bool false, .slice AT l.length CT, .int .i64 g] (.int .i64 0) [.int .i64 0, .int .i64 0, .int .i64 0, .int .i64 0] S10.out.2.1 rfl Try.size1 rfl rfl ?_; change wpList _ _ _ _ _ (w10.setRow w2.heap.size #[.int .i8 2, .int .i64 z1, .int .i64 z2, .int .i64 z3, .bool false, .slice AT l.length CT, .int .i64 g, .int .i64 k, .int .i64 0, .int .i64 0, .int .i64 0, .int .i64 0]); rw [← HW11.out])
      | (refine wpList_store_row rfl 29 (.tmp 2) _ rfl w.heap.size #[.int .i8 0, .int .i64 0, .int .i64 0, .int .i64 0, .bool false, .slice none 0 0, .int .i64 0, .int .i64 0, .int .i64 0, .int .i64 0, .int .i64 0, .int .i64 0] rfl rfl 29 #[.int .i8 0, .int .i64 0, .int .i64 0, .int .i64 0, .bool false, .slice none 0 0, .int .i64 0, .int .i64 0, .int .i64 0, .int .i64 0, .int .i64 0, .int .i64 0] S11.out.2.2.1 (Try.info12 _ _ _ _ _ _ _ _ _ _ _ _ _ _) (size12 _ _ _ _ _ _ _ _ _ _ _ _ _ _ _ _ _ _ _ _ _ _ _ _ _ _ _ _) (one12 _ _ _ _ _ _ _ _ _ _ _ _ _ _) ?_))
    exact bodyPost_ret (results_cell_tmp (t := 29) (p := 2) (u := 3) rfl _ _ w.heap.size #[.int .i8 0, .int .i64 0, .int .i64 0, .int .i64 0, .bool false, .slice none 0 0, .int .i64 0, .int .i64 0, .int .i64 0, .int .i64 0, .int .i64 0, .int .i64 0] (0, 0) _ rfl (setRow_heap _ _ _ _ _ _ S11.out.2.2.1) Try.underlying29 rfl (Try.info12 _ _ _ _ _ _ _ _ _ _ _ _ _ _)) rfl (ReadTell.no HNo.out (below_setRow S11.out.2.2.2 (Nat.le_refl _) _))
  | false =>
    by_cases hat : b10 = bs.length
    · have HMay := Lib.hid (may_any ({ zRc with kind := 2, name := ⟨z1, z2, z3⟩, writes := l, give := g, take := k } : Rc) AT CT w11 (fun b => w2.heap.size < b) V11.out.at_ HFs.out HLn.out HSh.out)
      have HRL2 := HRL.out
      obtain ⟨mb, hmb⟩ : ∃ mb, mb = mayR ({ zRc with kind := 2, name := ⟨z1, z2, z3⟩, writes := l, give := g, take := k } : Rc) := ⟨_, rfl⟩
      rw [← hmb] at HMay HRL2
      have HRM := Lib.hid HRL2
      have hati : (b10 : Int) = (bs.length : Int) := by omega
      have qq := row_lit (cs := (#[.int .i8 2, .int .i64 z1, .int .i64 z2, .int .i64 z3, .bool false, .slice AT l.length CT, .int .i64 g, .int .i64 k, .int .i64 0, .int .i64 0, .int .i64 0, .int .i64 0] : Array Value).toList) S11.out.2.1
      have q0 := qq 0 _ rfl
      have q1 := qq 1 _ rfl
      have q2 := qq 2 _ rfl
      have q3 := qq 3 _ rfl
      have q4 := qq 4 _ rfl
      have q5 := qq 5 _ rfl
      have q6 := qq 6 _ rfl
      have q7 := qq 7 _ rfl
      have q8 := qq 8 _ rfl
      have q9 := qq 9 _ rfl
      have q10 := qq 10 _ rfl
      have q11 := qq 11 _ rfl
      clear qq hmb HRL2
      obtain ⟨p0, p1, p2, pf⟩ := S11.out.1.cells
      clear pf
      go_wp2_with (first
        | (refine wpList_store_one rfl 3 _ _ rfl w2.heap.size 7 rfl (.int .i64 k) rfl 29 [.int .i8 2, .int .i64 z1, .int .i64 z2, .int .i64 z3, .bool false, .slice AT l.length CT, .int .i64 g] (.int .i64 0) [.int .i64 0, .int .i64 0, .int .i64 0, .int .i64 0] S10.out.2.1 rfl Try.size1 rfl rfl ?_; change wpList _ _ _ _ _ (w10.setRow w2.heap.size #[.int .i8 2, .int .i64 z1, .int .i64 z2, .int .i64 z3, .bool false, .slice AT l.length CT, .int .i64 g, .int .i64 k, .int .i64 0, .int .i64 0, .int .i64 0, .int .i64 0]); rw [← HW11.out]))
      refine HMay.out.mono ?_
      rintro e wm ⟨rfl, hb6⟩
      have SM := Lib.hid (S11.out.below hb6)
      have HWm := Lib.hid (V11.out.below hb6)
      have HXm := Lib.hid (S11.out.2.1)
      clear q0 q1 q2 q3 q4 q5 q6 q7 q8 q9 q10 q11
      clear p0 p1 p2 hb6
      cases mb with
      | false =>
        have HNo := Lib.hid (show readR bs = none from by rw [HRM.out, if_neg (by simp)])
        go_wp2_with (first
          | fail
          | (refine wpList_store_row rfl 29 (.tmp 2) _ rfl w.heap.size #[.int .i8 0, .int .i64 0, .int .i64 0, .int .i64 0, .bool false, .slice none 0 0, .int .i64 0, .int .i64 0, .int .i64 0, .int .i64 0, .int .i64 0, .int .i64 0] rfl rfl 29 #[.int .i8 0, .int .i64 0, .int .i64 0, .int .i64 0, .bool false, .slice none 0 0, .int .i64 0, .int .i64 0, .int .i64 0, .int .i64 0, .int .i64 0, .int .i64 0] SM.out.2.2.1 (Try.info12 _ _ _ _ _ _ _ _ _ _ _ _ _ _) (size12 _ _ _ _ _ _ _ _ _ _ _ _ _ _ _ _ _ _ _ _ _ _ _ _ _ _ _ _) (one12 _ _ _ _ _ _ _ _ _ _ _ _ _ _) ?_))
        exact bodyPost_ret (results_cell_tmp (t := 29) (p := 2) (u := 3) rfl _ _ w.heap.size #[.int .i8 0, .int .i64 0, .int .i64 0, .int .i64 0, .bool false, .slice none 0 0, .int .i64 0, .int .i64 0, .int .i64 0, .int .i64 0, .int .i64 0, .int .i64 0] (0, 0) _ rfl (setRow_heap _ _ _ _ _ _ SM.out.2.2.1) Try.underlying29 rfl (Try.info12 _ _ _ _ _ _ _ _ _ _ _ _ _ _)) rfl (ReadTell.no HNo.out (below_setRow SM.out.2.2.2 (Nat.le_refl _) _))
      | true =>
        have HYes := Lib.hid (show readR bs = some ({ zRc with kind := 2, name := ⟨z1, z2, z3⟩, writes := l, give := g, take := k } : Rc) from by rw [HRM.out, if_pos (by simp [hat])])
        go_wp2_with (first
          | (refine wpList_load_part rfl 29 _ rfl w2.heap.size 0 rfl (#[.int .i8 2, .int .i64 z1, .int .i64 z2, .int .i64 z3, .bool false, .slice AT l.length CT, .int .i64 g, .int .i64 k, .int .i64 0, .int .i64 0, .int .i64 0, .int .i64 0] : Array Value).toList _ (row_lit SM.out.2.1) Try.underlying29 rfl Try.sizeR ?_)
          | (refine wpList_store_row rfl 29 (.tmp 2) _ rfl w.heap.size #[.int .i8 2, .int .i64 z1, .int .i64 z2, .int .i64 z3, .bool false, .slice AT l.length CT, .int .i64 g, .int .i64 k, .int .i64 0, .int .i64 0, .int .i64 0, .int .i64 0] rfl rfl 29 #[.int .i8 0, .int .i64 0, .int .i64 0, .int .i64 0, .bool false, .slice none 0 0, .int .i64 0, .int .i64 0, .int .i64 0, .int .i64 0, .int .i64 0, .int .i64 0] SM.out.2.2.1 (Try.info12 _ _ _ _ _ _ _ _ _ _ _ _ _ _) (size12 _ _ _ _ _ _ _ _ _ _ _ _ _ _ _ _ _ _ _ _ _ _ _ _ _ _ _ _) (one12 _ _ _ _ _ _ _ _ _ _ _ _ _ _) ?_))
        exact bodyPost_ret (results_cell_tmp (t := 29) (p := 2) (u := 3) rfl _ _ w.heap.size #[.int .i8 2, .int .i64 z1, .int .i64 z2, .int .i64 z3, .bool false, .slice AT l.length CT, .int .i64 g, .int .i64 k, .int .i64 0, .int .i64 0, .int .i64 0, .int .i64 0] (0, 0) _ rfl (setRow_heap _ _ _ _ _ _ SM.out.2.2.1) Try.underlying29 rfl (Try.info12 _ _ _ _ _ _ _ _ _ _ _ _ _ _)) rfl (ReadTell.yes (r := ({ zRc with kind := 2, name := ⟨z1, z2, z3⟩, writes := l, give := g, take := k } : Rc)) HYes.out (HWm.out.out (fun b hb => setRow_other _ _ _ _ (by have := HX2.out; omega)) (by simp) (by have := HX2.out; omega)) HFs.out (below_setRow SM.out.2.2.2 (Nat.le_refl _) _))
    · have hati : ¬ (b10 : Int) = (bs.length : Int) := by omega
      have HNo := Lib.hid (show readR bs = none from by rw [HRL.out, if_neg (fun h => hat h.2.1)])
      obtain ⟨p0, p1, p2, pf⟩ := S11.out.1.cells
      clear pf
      go_wp2_with (first
        | (refine wpList_store_one rfl 3 _ _ rfl w2.heap.size 7 rfl (.int .i64 k) rfl 29 [.int .i8 2, .int .i64 z1, .int .i64 z2, .int .i64 z3, .bool false, .slice AT l.length CT, .int .i64 g] (.int .i64 0) [.int .i64 0, .int .i64 0, .int .i64 0, .int .i64 0] S10.out.2.1 rfl Try.size1 rfl rfl ?_; change wpList _ _ _ _ _ (w10.setRow w2.heap.size #[.int .i8 2, .int .i64 z1, .int .i64 z2, .int .i64 z3, .bool false, .slice AT l.length CT, .int .i64 g, .int .i64 k, .int .i64 0, .int .i64 0, .int .i64 0, .int .i64 0]); rw [← HW11.out])
        | (refine wpList_store_row rfl 29 (.tmp 2) _ rfl w.heap.size #[.int .i8 0, .int .i64 0, .int .i64 0, .int .i64 0, .bool false, .slice none 0 0, .int .i64 0, .int .i64 0, .int .i64 0, .int .i64 0, .int .i64 0, .int .i64 0] rfl rfl 29 #[.int .i8 0, .int .i64 0, .int .i64 0, .int .i64 0, .bool false, .slice none 0 0, .int .i64 0, .int .i64 0, .int .i64 0, .int .i64 0, .int .i64 0, .int .i64 0] S11.out.2.2.1 (Try.info12 _ _ _ _ _ _ _ _ _ _ _ _ _ _) (size12 _ _ _ _ _ _ _ _ _ _ _ _ _ _ _ _ _ _ _ _ _ _ _ _ _ _ _ _) (one12 _ _ _ _ _ _ _ _ _ _ _ _ _ _) ?_))
      exact bodyPost_ret (results_cell_tmp (t := 29) (p := 2) (u := 3) rfl _ _ w.heap.size #[.int .i8 0, .int .i64 0, .int .i64 0, .int .i64 0, .bool false, .slice none 0 0, .int .i64 0, .int .i64 0, .int .i64 0, .int .i64 0, .int .i64 0, .int .i64 0] (0, 0) _ rfl (setRow_heap _ _ _ _ _ _ S11.out.2.2.1) Try.underlying29 rfl (Try.info12 _ _ _ _ _ _ _ _ _ _ _ _ _ _)) rfl (ReadTell.no HNo.out (below_setRow S11.out.2.2.2 (Nat.le_refl _) _))
end Go.Proofs.Ytaokhbodmodcgaa
end

section
/-
  The document's Read, of any bytes.
-/
namespace Go.Proofs.Ytaokhbodmodcgaa
open Go.RowKit

theorem refRead_any (bs : List Nat) (A : Option Addr) (c : Nat) (w : World) (hA : By w w.heap.size A bs) (hl : bs.length ≤ 1000000) :
    Calls Try.prog 25 #[.slice A bs.length c] w (ReadTell w bs) := by
  cases bs with
  | nil => exact read_0 A c w hA hl
  | cons k t =>
    have hk : k < 256 := hA.1 k List.mem_cons_self
    by_cases h7 : 127 < k
    · exact read_9 k t _ rfl ⟨h7, hk⟩ A c w hA hl
    by_cases h8 : k = 0 ∨ 8 ≤ k
    · exact read_8 k t _ rfl (by omega) h8 A c w hA hl
    have h : k = 1 ∨ k = 2 ∨ k = 3 ∨ k = 4 ∨ k = 5 ∨ k = 6 ∨ k = 7 := by omega
    rcases h with rfl | rfl | rfl | rfl | rfl | rfl | rfl
    · exact read_1 t _ rfl A c w hA hl
    · exact read_2 t _ rfl A c w hA hl
    · exact read_3 t _ rfl A c w hA hl
    · exact read_4 t _ rfl A c w hA hl
    · exact read_5 t _ rfl A c w hA hl
    · exact read_6 t _ rfl A c w hA hl
    · exact read_7 t _ rfl A c w hA hl
end Go.Proofs.Ytaokhbodmodcgaa
end

section
/-
  What the calls of record answer (contracts, over which the laws are proved).
-/
namespace Go.Proofs.Ytaokhbodmodcgaa
open Go.RowKit

/-- a record of few writes lies at A -/
structure RcAt (w : World) (A : Option Addr) (c : Nat) (r : Rc) : Prop where
  wrs : WrsV w (fun _ => True) A c r.writes
  fine : r.Fine
  few : r.writes.length ≤ 40
theorem RcAt.below {w w' : World} {A : Option Addr} {c : Nat} {r : Rc} (h : RcAt w A c r) (hb : Below w.heap.size w w') : RcAt w' A c r := ⟨h.wrs.below hb, h.fine, h.few⟩
def MaySays : Prop := ∀ (r : Rc) (A : Option Addr) (c : Nat) (w : World), RcAt w A c r →
  Calls Try.prog 14 #[.agg (recv A c r).toArray] w fun e w' => e = .returned (.bool (mayR r)) ∧ Below w.heap.size w w'
def NamedSays : Prop := ∀ (n : Nm) (w : World), n.Fine →
  Calls Try.prog 16 #[.agg (nmv n).toArray] w fun e w' => e = .returned (.bool (namedB n)) ∧ Below w.heap.size w w'
def WrittenSays : Prop := ∀ (l : List (Int × List Nat)) (A : Option Addr) (c : Nat) (w : World), WrsV w (fun _ => True) A c l → WrFine l → l.length ≤ 40 →
  Calls Try.prog 18 #[.slice A l.length c] w fun e w' => e = .returned (.bool (writtenB l)) ∧ Below w.heap.size w w'
def SameSays : Prop := ∀ (r s : Rc) (A B : Option Addr) (c d : Nat) (w : World), RcAt w A c r → RcAt w B d s →
  Calls Try.prog 20 #[.agg (recv A c r).toArray, .agg (recv B d s).toArray] w fun e w' => e = .returned (.bool (decide (r = s))) ∧ Below w.heap.size w w'
def LessSays : Prop := ∀ (m n : Nm) (w : World), m.Fine → n.Fine →
  Calls Try.prog 22 #[.agg (nmv m).toArray, .agg (nmv n).toArray] w fun e w' => e = .returned (.bool (lessB m n)) ∧ Below w.heap.size w w'
def BytesSays : Prop := ∀ (r : Rc) (A : Option Addr) (c : Nat) (w : World), RcAt w A c r →
  Calls Try.prog 10 #[.agg (recv A c r).toArray] w fun e w' => ∃ v, e = .returned (.tuple #[v, .int .i64 (bytesE r)]) ∧ New w w' (bytesL r) v
def SectorsSays : Prop := ∀ (r : Rc) (A : Option Addr) (c : Nat) (w : World), RcAt w A c r →
  Calls Try.prog 12 #[.agg (recv A c r).toArray] w fun e w' => e = .returned (.tuple #[.int .i64 (sectorsR r), .int .i64 (bytesE r)]) ∧ Below w.heap.size w w'
def ReadSays : Prop := ∀ (bs : List Nat) (A : Option Addr) (c : Nat) (w : World), By w w.heap.size A bs → bs.length ≤ 300 → bs.length ≤ c → c ≤ maxLen → (A = none → c = 0) →
  Calls Try.prog 24 #[.slice A bs.length c] w (ReadTell w bs)
end Go.Proofs.Ytaokhbodmodcgaa
end

section
/-
  A record that may be: its numbers are small, it holds few writes; what any bytes read as.
-/
namespace Go.Proofs.Ytaokhbodmodcgaa
open Go.RowKit

theorem may_fine {r : Rc} (h : mayR r = true) (hw : WrFine r.writes) : r.Fine ∧ r.writes.length ≤ 8 := by
  obtain ⟨hk, hf⟩ := may_parts h
  have i0 : I64 0 := by unfold I64; omega
  obtain ⟨kind, name, yes, writes, give, take, shards, stripe, tt, n⟩ := r
  by_cases h67 : kind = 6 ∨ kind = 7
  · have hn := may_n h h67
    rcases h67 with e | e
    all_goals
      subst e
      simp only [fieldsR, zRc, Rc.mk.injEq, Int.reduceEq, if_true, if_false, or_self, or_true, true_or, true_and, and_true] at hf
      obtain ⟨rfl, rfl, rfl, rfl, rfl, rfl, rfl, rfl⟩ := hf
      simp only at hn
      exact ⟨⟨by show -128 ≤ _ ∧ _ ≤ _; omega, ⟨i0, i0, i0⟩, hw, i0, i0, i0, i0, i0, by unfold I64; simp only; omega⟩, by simp⟩
  · obtain ⟨h1, h2, h3, h4⟩ := may_named h h67
    have hnm := named_lt h1
    have hgi := given_lt h3
    have hw8 : writes.length ≤ 8 := by
      unfold writtenB at h2
      simp only [Bool.and_eq_true, decide_eq_true_eq] at h2
      exact h2.1
    simp only at hnm hgi hk
    have hn0 : n = 0 := by
      have e := congrArg Rc.n hf
      rcases kinds hk with k | k | k | k | k | k | k
      case inr.inr.inr.inr.inr.inl => exact absurd (Or.inl k) h67
      case inr.inr.inr.inr.inr.inr => exact absurd (Or.inr k) h67
      all_goals
        subst k
        simpa [fieldsR, zRc] using e
    have h45 : (I64 shards ∧ I64 stripe ∧ I64 tt) := by
      by_cases hk4 : kind = 4
      · obtain ⟨a, b⟩ := h4 hk4
        have := shards_lt a
        have := changed_lt b
        simp only at *
        unfold I64
        omega
      · have e1 := congrArg Rc.shards hf
        have e2 := congrArg Rc.stripe hf
        have e3 := congrArg Rc.dest hf
        simp only [fieldsR] at e1 e2 e3
        rw [if_neg hk4] at e1 e2 e3
        have z1 : shards = 0 := by
          repeat' split at e1
          all_goals exact e1
        have z2 : stripe = 0 := by
          repeat' split at e2
          all_goals exact e2
        have z3 : tt = 0 := by
          repeat' split at e3
          all_goals exact e3
        rw [z1, z2, z3]
        exact ⟨i0, i0, i0⟩
    refine ⟨⟨by simp only; omega, ⟨?_, ?_, ?_⟩, hw, ?_, ?_, h45.1, h45.2.1, h45.2.2, by rw [hn0]; exact i0⟩, hw8⟩
    all_goals (unfold I64; simp only; omega)
theorem zRc_fine : zRc.Fine := by
  have i0 : I64 0 := by unfold I64; omega
  exact ⟨by decide, ⟨i0, i0, i0⟩, fun _ h => absurd h (by simp [zRc]), i0, i0, i0, i0, i0, i0⟩
/-- what bytes read as is a record of few writes -/
theorem recOf_fine {bs : List Nat} (hw : WrFine (recOf bs).writes) : (recOf bs).Fine ∧ (recOf bs).writes.length ≤ 8 := by
  unfold recOf at hw ⊢
  cases h : readR bs with
  | none => exact ⟨zRc_fine, by simp [zRc]⟩
  | some r =>
    rw [h] at hw
    exact may_fine (read_some h).2 hw
theorem ReadTell.at_ {w w' : World} {bs : List Nat} {e : Ending} (h : ReadTell w bs e w') : ∃ A' c', e = .returned (.tuple #[.agg (recv A' c' (recOf bs)).toArray, .int .i64 (readErr bs)]) ∧ RcAt w' A' c' (recOf bs) ∧ WrsV w' (fun b => w.heap.size ≤ b) A' c' (recOf bs).writes ∧ Below w.heap.size w w' := by
  obtain ⟨A', c', rfl, h1, h2, h3⟩ := h
  obtain ⟨f1, f2⟩ := recOf_fine h2
  exact ⟨A', c', rfl, ⟨h1.mono fun _ _ _ => trivial, f1, by omega⟩, h1, h3⟩
end Go.Proofs.Ytaokhbodmodcgaa
end

section
/-
  wakes, by contract, over what record's calls are to answer: the document's own example.
-/
namespace Go.Proofs.Ytaokhbodmodcgaa
open Go.RowKit
set_option maxRecDepth 100000

def R0 : Rc := { zRc with kind := 3, name := ⟨1, 1, 1⟩, yes := true }
def B0 : List Nat := [3, 1, 0, 0, 1, 0, 0, 1, 0, 0, 1]
theorem r0_may : mayR R0 = true := by decide
theorem r0_bytes : bytesL R0 = B0 := by decide
theorem r0_err : bytesE R0 = 0 := by decide
theorem r0_read : readR (B0 ++ [0]) = none := by decide
theorem str0 : str B0 = ⟨#[3, 1, 0, 0, 1, 0, 0, 1, 0, 0, 1]⟩ := rfl
theorem i64_0 : I64 0 := by unfold I64; omega
theorem i64_1 : I64 1 := by unfold I64; omega
theorem r0_at (w : World) : RcAt w none 0 R0 := ⟨WrsV.nil_, ⟨by decide, ⟨i64_1, i64_1, i64_1⟩, fun _ h => absurd h (by simp [R0, zRc]), i64_0, i64_0, i64_0, i64_0, i64_0, i64_0⟩, by decide⟩
def WakesSays7 : Prop := ∀ w, Calls Try.prog 9 #[] w fun e w' => e = .returned (.bool true) ∧ Below w.heap.size w w'
set_option maxHeartbeats 4000000 in
theorem wakes7_of (hB : BytesSays) (hR : ReadSays) : WakesSays7 := by
  intro w
  go_enter Try.func9, Try.ntmps9
  obtain ⟨w1, hw1⟩ : ∃ w1, w1 = w.alloc (.cells #[.int .i64 1, .int .i64 1, .int .i64 1] 24) := ⟨_, rfl⟩
  have HB1 := Lib.hid (show Below w.heap.size w w1 by rw [hw1]; exact (Below.refl _ w).alloc (Nat.le_refl _) _)
  have g1 : w1.heap[w.heap.size]? = some (.cells #[.int .i64 1, .int .i64 1, .int .i64 1] 24 (0, 0)) := by rw [hw1]; exact heap_alloc_new w _
  have c0 : w1.cell? ⟨w.heap.size, 0, none⟩ = some (.int .i64 1) := by rw [cell_of_row w1 _ 0 _ _ _ g1]; rfl
  have c1 : w1.cell? ⟨w.heap.size, 1, none⟩ = some (.int .i64 1) := by rw [cell_of_row w1 _ 1 _ _ _ g1]; rfl
  have c2 : w1.cell? ⟨w.heap.size, 2, none⟩ = some (.int .i64 1) := by rw [cell_of_row w1 _ 2 _ _ _ g1]; rfl
  have HW1 := Lib.hid hw1
  have hBy := hB R0 none 0 w1 (r0_at w1)
  rw [r0_bytes, r0_err] at hBy
  have HBy := Lib.hid hBy
  have HRd := Lib.hid hR
  clear hw1 hBy hB hR g1
  go_wp2_with (rw [← HW1.out])
  refine HBy.out.mono ?_
  rintro e w2 ⟨v, rfl, hnew⟩
  obtain ⟨A2, cc2, rfl, hy2, hl2, hm2, hn2, hg2⟩ := hnew.slice (by decide)
  have HB2 := Lib.hid (HB1.out.trans (hnew.2.mono HB1.out.size))
  have HY2 := Lib.hid hy2
  have HN2 := Lib.hid hn2
  clear hnew hy2 hn2 hg2 c0 c1 c2
  have hsz2 : w.heap.size ≤ w2.heap.size := HB2.out.size
  have HOw := Lib.hid (show Own (w2.alloc (.cells #[] 5)) w2.heap.size [] (.slice (some ⟨w2.heap.size, 0, none⟩) 0 0) from ⟨rfl, Or.inr ⟨w2.heap.size, 0, #[], rfl, Nat.le_refl _, heap_alloc_new w2 _, Nat.le_refl _, Nat.zero_le _, rfl, rfl⟩⟩)
  have HB3 := Lib.hid ((Below.refl w2.heap.size w2).alloc (Nat.le_refl _) (.cells #[] 5))
  have HY3 := Lib.hid (HY2.out.below ((Below.refl w2.heap.size w2).alloc (Nat.le_refl _) (.cells #[] 5)) (Nat.le_refl _))
  have HSz := Lib.hid (show w2.heap.size ≤ (w2.alloc (.cells #[] 5)).heap.size by simp)
  have HSt := Lib.hid (HY2.out.strAt (c := cc2))
  go_wp2_with (first
    | (at_builtin; refine append_by rfl (.tmp 14) (.tmp 15) rfl w2.heap.size [] B0 _ rfl HOw.out A2 _ cc2 rfl rfl _ HY3.out HN2.out (by decide) w2 HB3.out HSz.out ?_; intro v3 w3 hv3 hb3)
    | (at_builtin; refine append_by rfl (.tmp 16) (.tmp 17) rfl w2.heap.size ([] ++ B0) [0] _ rfl (hv3.alloc _) (some ⟨_, 0, none⟩) 1 1 rfl rfl _ (by_made _ #[.int .u8 0] [0] rfl (by decide)) (fun e => by cases e) (by decide) w2 (hb3.alloc hb3.size _) (Nat.le_trans hb3.size (by simp)) ?_; intro v4 w4 hv4 hb4))
  obtain ⟨A4, c4, rfl, hy4, hl4, hm4, hn4, _⟩ := (show New w2 w4 ([] ++ B0 ++ [0]) v4 from ⟨hv4, hb4⟩).slice (by decide)
  have hr4 := HRd.out ([] ++ B0 ++ [0]) A4 c4 w4 hy4 (by decide) hl4 hm4 hn4
  have HB24 := Lib.hid hb4
  have HB4 := Lib.hid (HB2.out.trans (hb4.mono HB2.out.size))
  clear hv3 hb3 hv4 hb4 hy4 hl4 hm4 hn4 hl2 hm2
  refine hr4.mono ?_
  rintro e w5 ⟨A5, c5, rfl, _, _, hb5⟩
  rw [show readErr ([] ++ B0 ++ [0]) = 40 from by unfold readErr; rw [List.nil_append, r0_read]; rfl]
  rw [show recv A5 c5 (recOf ([] ++ B0 ++ [0])) = [.int .i8 0, .int .i64 0, .int .i64 0, .int .i64 0, .bool false, .slice A5 0 c5, .int .i64 0, .int .i64 0, .int .i64 0, .int .i64 0, .int .i64 0, .int .i64 0] from by unfold recOf; rw [List.nil_append, r0_read]; rfl]
  have hst := (HSt.out.later (HB24.out.trans (hb5.mono HB24.out.size))).later ((Below.refl _ w5).alloc (Nat.le_refl _) (.cells #[.int .i8 0, .int .i64 0, .int .i64 0, .int .i64 0, .bool false, .slice A5 0 c5, .int .i64 0, .int .i64 0, .int .i64 0, .int .i64 0, .int .i64 0, .int .i64 0] 29))
  have hst := hst.here
  rw [str0] at hst
  have HB5 := Lib.hid (HB4.out.trans (hb5.mono HB4.out.size))
  have hs5 := HB5.out.size
  clear hb5 hr4
  go_wp2
  go_ret
  exact ⟨rfl, HB5.out.alloc HB5.out.size _⟩
end Go.Proofs.Ytaokhbodmodcgaa
end

section
/-
  The law of what bytes read as, over what record's calls answer.
-/
namespace Go.Proofs.Ytaokhbodmodcgaa
open Go.RowKit
set_option maxRecDepth 100000

set_option maxHeartbeats 4000000 in
theorem reads_law (hR : ReadSays) (hSm : SameSays) (hW : WakesSays7) (bs : List Nat) (A : Option Addr) (c : Nat) (w : World) (hA : By w w.heap.size A bs) (hc : bs.length ≤ c) (hm : c ≤ maxLen) (hn : A = none → c = 0) :
    Calls Try.prog 4 #[.slice A bs.length c] w fun e w' => e = .returned (.bool true) ∧ Below w.heap.size w w' := by
  have HWk := Lib.hid hW
  have HSm := Lib.hid hSm
  by_cases hl : bs.length ≤ 300
  · have hli : ¬ (300 : Int) < (bs.length : Int) := by omega
    have H1 := Lib.hid (hR bs A c w hA hl hc hm hn)
    have H2 := Lib.hid (fun W (hb : Below w.heap.size w W) => refRead_any bs A c W ((hA.below hb (Nat.le_refl _)).mono hb.size) (by omega))
    clear hR hSm hW hA hc hm hn hl
    go_enter Try.func4, Try.ntmps4
    go_wp2_with fail
    refine H1.out.mono ?_
    intro e w2 h2
    obtain ⟨A2, cc2, rfl, hr2, _, hb2⟩ := h2.at_
    have HR2 := Lib.hid hr2
    have HB2 := Lib.hid hb2
    obtain ⟨R, hRR⟩ : ∃ R, R = recOf bs := ⟨_, rfl⟩
    obtain ⟨E, hE⟩ : ∃ E, E = readErr bs := ⟨_, rfl⟩
    rw [← hRR] at HR2 ⊢
    rw [← hE]
    obtain ⟨k, ⟨a0, a1, a2⟩, y, l, g, t, sh, st, tt, n⟩ := R
    have HRR := Lib.hid hRR
    have HE := Lib.hid hE
    obtain ⟨w3, hw3⟩ : ∃ w3, w3 = w2.alloc (.cells #[.int .i8 k, .int .i64 a0, .int .i64 a1, .int .i64 a2, .bool y, .slice A2 l.length cc2, .int .i64 g, .int .i64 t, .int .i64 sh, .int .i64 st, .int .i64 tt, .int .i64 n] 29) := ⟨_, rfl⟩
    have hb3 : Below w2.heap.size w2 w3 := by rw [hw3]; exact (Below.refl _ w2).alloc (Nat.le_refl _) _
    have g3 : w3.heap[w2.heap.size]? = some (.cells #[.int .i8 k, .int .i64 a0, .int .i64 a1, .int .i64 a2, .bool y, .slice A2 l.length cc2, .int .i64 g, .int .i64 t, .int .i64 sh, .int .i64 st, .int .i64 tt, .int .i64 n] 29 (0, 0)) := by rw [hw3]; exact heap_alloc_new w2 _
    have HW3 := Lib.hid hw3
    have HR3 := Lib.hid (HR2.out.below hb3)
    have HB3 := Lib.hid (HB2.out.trans (hb3.mono HB2.out.size))
    have HG3 := Lib.hid g3
    clear h2 hr2 hb2 hRR hE hw3 hb3 g3
    unfold recv
    go_wp2_with (rw [← HW3.out])
    refine (H2.out w3 HB3.out).mono ?_
    intro e w4 h4
    obtain ⟨A4, cc4, rfl, hr4, _, hb4⟩ := h4.at_
    have HR4 := Lib.hid hr4
    rw [← HRR.out] at HR4 ⊢
    rw [← HE.out]
    have HR24 := Lib.hid (HR3.out.below hb4)
    have HB4 := Lib.hid (HB3.out.trans (hb4.mono HB3.out.size))
    have HG4 := Lib.hid ((hb4.block _ (Array.getElem?_eq_some_iff.1 HG3.out).1).trans HG3.out)
    obtain ⟨w5, hw5⟩ : ∃ w5, w5 = w4.alloc (.cells #[.int .i8 k, .int .i64 a0, .int .i64 a1, .int .i64 a2, .bool y, .slice A4 l.length cc4, .int .i64 g, .int .i64 t, .int .i64 sh, .int .i64 st, .int .i64 tt, .int .i64 n] 29) := ⟨_, rfl⟩
    have hb5 : Below w4.heap.size w4 w5 := by rw [hw5]; exact (Below.refl _ w4).alloc (Nat.le_refl _) _
    have g5 : w5.heap[w4.heap.size]? = some (.cells #[.int .i8 k, .int .i64 a0, .int .i64 a1, .int .i64 a2, .bool y, .slice A4 l.length cc4, .int .i64 g, .int .i64 t, .int .i64 sh, .int .i64 st, .int .i64 tt, .int .i64 n] 29 (0, 0)) := by rw [hw5]; exact heap_alloc_new w4 _
    have HW5 := Lib.hid hw5
    have g25 := (hb5.block _ (Array.getElem?_eq_some_iff.1 HG4.out).1).trans HG4.out
    have HB5 := Lib.hid (HB4.out.trans (hb5.mono HB4.out.size))
    have HSa := Lib.hid (HSm.out _ _ A2 A4 cc2 cc4 w5 (HR24.out.below hb5) (HR4.out.below hb5))
    have hee : (E == E) = true := beq_self_eq_true E
    clear h4 hr4 hb4 hw5 hb5
    unfold recv
    go_wp2_with (first
      | (rw [← HW5.out])
      | (refine wpList_load_part rfl 29 _ rfl w2.heap.size 0 rfl (#[.int .i8 k, .int .i64 a0, .int .i64 a1, .int .i64 a2, .bool y, .slice A2 l.length cc2, .int .i64 g, .int .i64 t, .int .i64 sh, .int .i64 st, .int .i64 tt, .int .i64 n] : Array Value).toList _ (row_lit g25) Try.underlying29 rfl Try.sizeR ?_)
      | (refine wpList_load_part rfl 29 _ rfl w4.heap.size 0 rfl (#[.int .i8 k, .int .i64 a0, .int .i64 a1, .int .i64 a2, .bool y, .slice A4 l.length cc4, .int .i64 g, .int .i64 t, .int .i64 sh, .int .i64 st, .int .i64 tt, .int .i64 n] : Array Value).toList _ (row_lit g5) Try.underlying29 rfl Try.sizeR ?_))
    refine HSa.out.mono ?_
    rintro e w6 ⟨rfl, hb6⟩
    simp only [decide_true]
    have HB6 := Lib.hid (HB5.out.trans (hb6.mono HB5.out.size))
    clear hb6 g5 g25
    go_wp2_with fail
    refine (HWk.out _).mono ?_
    rintro e w7 ⟨rfl, hb7⟩
    have HB7 := Lib.hid (HB6.out.trans (hb7.mono HB6.out.size))
    clear hb7
    go_wp2
    go_ret
    exact ⟨rfl, HB7.out⟩
  · have hli : (300 : Int) < (bs.length : Int) := by omega
    clear hR hSm hA hc hm hn hl
    go_enter Try.func4, Try.ntmps4
    go_wp2_with fail
    refine (HWk.out _).mono ?_
    rintro e w2 ⟨rfl, hb⟩
    have HB := Lib.hid hb
    clear hb
    go_wp2
    go_ret
    exact ⟨rfl, HB.out⟩
end Go.Proofs.Ytaokhbodmodcgaa
end

section
/-
  The law of names, over what Less answers.
-/
namespace Go.Proofs.Ytaokhbodmodcgaa
open Go.RowKit
set_option maxRecDepth 100000

theorem less_not (a b : Nm) : (lessB a b && lessB b a) = false := by
  unfold lessB
  cases h : (lessB a b && lessB b a) with
  | false => unfold lessB at h; exact h
  | true =>
    exfalso
    unfold lessB at h
    simp only [Bool.and_eq_true] at h
    obtain ⟨h1, h2⟩ := h
    repeat' split at h1
    all_goals (repeat' split at h2)
    all_goals (simp only [decide_eq_true_eq, ne_eq, Decidable.not_not] at *; omega)
theorem less_tri (a b : Nm) : (lessB a b || lessB b a || decide (a = b)) = true := by
  obtain ⟨x, y, z⟩ := a
  obtain ⟨p, q, r⟩ := b
  unfold lessB
  simp only [Nm.mk.injEq]
  repeat' split
  all_goals (simp only [Bool.or_eq_true, decide_eq_true_eq, ne_eq, Decidable.not_not] at *; omega)
theorem less_tra (a b c : Nm) : (!lessB a b || !lessB b c || lessB a c) = true := by
  cases h1 : lessB a b with
  | false => rfl
  | true =>
    cases h2 : lessB b c with
    | false => rfl
    | true =>
      show lessB a c = true
      unfold lessB at h1 h2 ⊢
      repeat' split at h1
      all_goals (repeat' split at h2)
      all_goals (repeat' split)
      all_goals (simp only [decide_eq_true_eq, ne_eq, Decidable.not_not] at *; omega)
theorem less_irr (a : Nm) : lessB a a = false := by
  unfold lessB
  simp
def NS (w : World) (a0 a1 a2 b0 b1 b2 c0 c1 c2 : Int) (W : World) : Prop :=
  W.cell? ⟨w.heap.size, 0, none⟩ = some (.int .i64 a0) ∧ W.cell? ⟨w.heap.size, 1, none⟩ = some (.int .i64 a1) ∧ W.cell? ⟨w.heap.size, 2, none⟩ = some (.int .i64 a2) ∧ W.cell? ⟨w.heap.size + 1, 0, none⟩ = some (.int .i64 b0) ∧ W.cell? ⟨w.heap.size + 1, 1, none⟩ = some (.int .i64 b1) ∧ W.cell? ⟨w.heap.size + 1, 2, none⟩ = some (.int .i64 b2) ∧ W.cell? ⟨w.heap.size + 1 + 1, 0, none⟩ = some (.int .i64 c0) ∧ W.cell? ⟨w.heap.size + 1 + 1, 1, none⟩ = some (.int .i64 c1) ∧ W.cell? ⟨w.heap.size + 1 + 1, 2, none⟩ = some (.int .i64 c2) ∧ Below w.heap.size w W ∧ w.heap.size + 3 ≤ W.heap.size
theorem NS.drew {w W : World} {a0 a1 a2 b0 b1 b2 c0 c1 c2 : Int} (h : NS w a0 a1 a2 b0 b1 b2 c0 c1 c2 W) : NS w a0 a1 a2 b0 b1 b2 c0 c1 c2 W.drew := by
  obtain ⟨h0, h1, h2, h3, h4, h5, h6, h7, h8, h9, hs⟩ := h
  exact ⟨h0, h1, h2, h3, h4, h5, h6, h7, h8, h9.drew, hs⟩
theorem NS.below {w W W' : World} {a0 a1 a2 b0 b1 b2 c0 c1 c2 : Int} (h : NS w a0 a1 a2 b0 b1 b2 c0 c1 c2 W) (hb : Below W.heap.size W W') : NS w a0 a1 a2 b0 b1 b2 c0 c1 c2 W' := by
  obtain ⟨h0, h1, h2, h3, h4, h5, h6, h7, h8, h9, hs⟩ := h
  have hc : ∀ k j, k < w.heap.size + 3 → W'.cell? ⟨k, j, none⟩ = W.cell? ⟨k, j, none⟩ := fun k j hk => hb.cell (p := ⟨k, j, none⟩) (by show k < W.heap.size; omega)
  refine ⟨?_, ?_, ?_, ?_, ?_, ?_, ?_, ?_, ?_, h9.trans (hb.mono h9.size), Nat.le_trans hs hb.size⟩
  all_goals (rw [hc _ _ (by omega)]; assumption)
set_option maxHeartbeats 4000000 in
theorem names_law (hL : ∀ (m n : Nm) (w : World), Calls Try.prog 22 #[.agg (nmv m).toArray, .agg (nmv n).toArray] w fun e w' => e = .returned (.bool (lessB m n)) ∧ Below w.heap.size w w') (hW : WakesSays7) (a b c : Nm) (w : World) :
    Calls Try.prog 6 #[.agg (nmv a).toArray, .agg (nmv b).toArray, .agg (nmv c).toArray] w fun e w' => e = .returned (.bool true) ∧ Below w.heap.size w w' := by
  obtain ⟨a0, a1, a2⟩ := a
  obtain ⟨b0, b1, b2⟩ := b
  obtain ⟨c0, c1, c2⟩ := c
  have L := Lib.hid (show ∀ (x0 x1 x2 y0 y1 y2 : Int) (W : World), Calls Try.prog 22 #[.agg #[.int .i64 x0, .int .i64 x1, .int .i64 x2], .agg #[.int .i64 y0, .int .i64 y1, .int .i64 y2]] W fun e w' => e = .returned (.bool (lessB ⟨x0, x1, x2⟩ ⟨y0, y1, y2⟩)) ∧ Below W.heap.size W w' from fun x0 x1 x2 y0 y1 y2 W => hL ⟨x0, x1, x2⟩ ⟨y0, y1, y2⟩ W)
  have L5 := Lib.hid (show ∀ W, Calls Try.prog 22 #[.agg #[.int .i64 a0, .int .i64 a1, .int .i64 a2], .agg #[.int .i64 a0, .int .i64 a1, .int .i64 a2]] W fun e w' => e = .returned (.bool false) ∧ Below W.heap.size W w' from fun W => by
    have h := hL ⟨a0, a1, a2⟩ ⟨a0, a1, a2⟩ W
    rw [less_irr] at h
    exact h)
  have HN := Lib.hid (less_not ⟨a0, a1, a2⟩ ⟨b0, b1, b2⟩)
  have HT := Lib.hid (less_tri ⟨a0, a1, a2⟩ ⟨b0, b1, b2⟩)
  have HR := Lib.hid (less_tra ⟨a0, a1, a2⟩ ⟨b0, b1, b2⟩ ⟨c0, c1, c2⟩)
  have HWk := Lib.hid hW
  have hS0 : NS w a0 a1 a2 b0 b1 b2 c0 c1 c2 (((w.alloc (.cells #[.int .i64 a0, .int .i64 a1, .int .i64 a2] 24)).alloc (.cells #[.int .i64 b0, .int .i64 b1, .int .i64 b2] 24)).alloc (.cells #[.int .i64 c0, .int .i64 c1, .int .i64 c2] 24)) := by
    have hb : Below w.heap.size w (((w.alloc (.cells #[.int .i64 a0, .int .i64 a1, .int .i64 a2] 24)).alloc (.cells #[.int .i64 b0, .int .i64 b1, .int .i64 b2] 24)).alloc (.cells #[.int .i64 c0, .int .i64 c1, .int .i64 c2] 24)) := (((Below.refl w.heap.size w).alloc (Nat.le_refl _) _).alloc (by simp) _).alloc (by simp; omega) _
    have g0 : (((w.alloc (.cells #[.int .i64 a0, .int .i64 a1, .int .i64 a2] 24)).alloc (.cells #[.int .i64 b0, .int .i64 b1, .int .i64 b2] 24)).alloc (.cells #[.int .i64 c0, .int .i64 c1, .int .i64 c2] 24)).heap[w.heap.size]? = some (.cells #[.int .i64 a0, .int .i64 a1, .int .i64 a2] 24 (0, 0)) := by
      exact (((Below.refl _ _).alloc (Nat.le_refl _) _).block _ (by simp; omega)).trans (heap_alloc2_old w _ _)
    have g1 : (((w.alloc (.cells #[.int .i64 a0, .int .i64 a1, .int .i64 a2] 24)).alloc (.cells #[.int .i64 b0, .int .i64 b1, .int .i64 b2] 24)).alloc (.cells #[.int .i64 c0, .int .i64 c1, .int .i64 c2] 24)).heap[w.heap.size + 1]? = some (.cells #[.int .i64 b0, .int .i64 b1, .int .i64 b2] 24 (0, 0)) := by
      exact (((Below.refl _ _).alloc (Nat.le_refl _) _).block _ (by simp)).trans (heap_alloc2_new w _ _)
    have g2 : (((w.alloc (.cells #[.int .i64 a0, .int .i64 a1, .int .i64 a2] 24)).alloc (.cells #[.int .i64 b0, .int .i64 b1, .int .i64 b2] 24)).alloc (.cells #[.int .i64 c0, .int .i64 c1, .int .i64 c2] 24)).heap[w.heap.size + 1 + 1]? = some (.cells #[.int .i64 c0, .int .i64 c1, .int .i64 c2] 24 (0, 0)) := by
      have h := heap_alloc_new ((w.alloc (.cells #[.int .i64 a0, .int .i64 a1, .int .i64 a2] 24)).alloc (.cells #[.int .i64 b0, .int .i64 b1, .int .i64 b2] 24)) (.cells #[.int .i64 c0, .int .i64 c1, .int .i64 c2] 24)
      rw [show ((w.alloc (.cells #[.int .i64 a0, .int .i64 a1, .int .i64 a2] 24)).alloc (.cells #[.int .i64 b0, .int .i64 b1, .int .i64 b2] 24)).heap.size = w.heap.size + 1 + 1 by simp] at h
      exact h
    refine ⟨?_, ?_, ?_, ?_, ?_, ?_, ?_, ?_, ?_, hb, by simp⟩
    all_goals first
      | (rw [cell_of_row _ w.heap.size _ _ _ _ g0]; rfl)
      | (rw [cell_of_row _ (w.heap.size + 1) _ _ _ _ g1]; rfl)
      | (rw [cell_of_row _ (w.heap.size + 1 + 1) _ _ _ _ g2]; rfl)
  clear hL hW
  unfold nmv
  go_enter Try.func6, Try.ntmps6
  go_wp2_with fail
  go_region_held3 (fun W => W.cell? ⟨w.heap.size, 0, none⟩ = some (.int .i64 a0) ∧ W.cell? ⟨w.heap.size, 1, none⟩ = some (.int .i64 a1) ∧ W.cell? ⟨w.heap.size, 2, none⟩ = some (.int .i64 a2) ∧ W.cell? ⟨w.heap.size + 1, 0, none⟩ = some (.int .i64 b0) ∧ W.cell? ⟨w.heap.size + 1, 1, none⟩ = some (.int .i64 b1) ∧ W.cell? ⟨w.heap.size + 1, 2, none⟩ = some (.int .i64 b2) ∧ W.cell? ⟨w.heap.size + 1 + 1, 0, none⟩ = some (.int .i64 c0) ∧ W.cell? ⟨w.heap.size + 1 + 1, 1, none⟩ = some (.int .i64 c1) ∧ W.cell? ⟨w.heap.size + 1 + 1, 2, none⟩ = some (.int .i64 c2) ∧ Below w.heap.size w W ∧ w.heap.size + 3 ≤ W.heap.size)
    (first | assumption | exact NS.drew hS0 | exact NS.below (by assumption) (by assumption))
    (first | (go_at_call 22; refine (L.out _ _ _ _ _ _ _).mono ?_; rintro e w' ⟨rfl, hw'⟩))
  rename_i hH
  obtain ⟨q0, q1, q2, q3, q4, q5, _, _, _, hB, _⟩ := hH
  have HB := Lib.hid hB
  clear hB hS0 L hw'
  generalize lessB ⟨a0, a1, a2⟩ ⟨b0, b1, b2⟩ = X1 at *
  generalize lessB ⟨b0, b1, b2⟩ ⟨a0, a1, a2⟩ = X2 at *
  generalize lessB ⟨b0, b1, b2⟩ ⟨c0, c1, c2⟩ = X3 at *
  generalize lessB ⟨a0, a1, a2⟩ ⟨c0, c1, c2⟩ = X4 at *
  generalize w' = w9 at *
  cases X1 with
  | true =>
    cases X2 with
    | true => exact absurd HN.out (by decide)
    | false =>
      cases X3 with
      | true =>
        cases X4 with
        | true =>
          go_wp2_with fail
          refine (L5.out _).mono ?_
          rintro e v1 ⟨rfl, hv1⟩
          have HV1 := Lib.hid (HB.out.trans (hv1.mono HB.out.size))
          clear hv1
          go_wp2_with fail
          refine (HWk.out _).mono ?_
          rintro e v2 ⟨rfl, hv2⟩
          have HV2 := Lib.hid (HV1.out.trans (hv2.mono HV1.out.size))
          clear hv2
          go_wp2
          go_ret
          exact ⟨rfl, HV2.out⟩
        | false => exact absurd HR.out (by decide)
      | false =>
        cases X4 with
        | true =>
          go_wp2_with fail
          refine (L5.out _).mono ?_
          rintro e v1 ⟨rfl, hv1⟩
          have HV1 := Lib.hid (HB.out.trans (hv1.mono HB.out.size))
          clear hv1
          go_wp2_with fail
          refine (HWk.out _).mono ?_
          rintro e v2 ⟨rfl, hv2⟩
          have HV2 := Lib.hid (HV1.out.trans (hv2.mono HV1.out.size))
          clear hv2
          go_wp2
          go_ret
          exact ⟨rfl, HV2.out⟩
        | false =>
          go_wp2_with fail
          refine (L5.out _).mono ?_
          rintro e v1 ⟨rfl, hv1⟩
          have HV1 := Lib.hid (HB.out.trans (hv1.mono HB.out.size))
          clear hv1
          go_wp2_with fail
          refine (HWk.out _).mono ?_
          rintro e v2 ⟨rfl, hv2⟩
          have HV2 := Lib.hid (HV1.out.trans (hv2.mono HV1.out.size))
          clear hv2
          go_wp2
          go_ret
          exact ⟨rfl, HV2.out⟩
  | false =>
    cases X2 with
    | true =>
      cases X3 with
      | true =>
        cases X4 with
        | true =>
          go_wp2_with fail
          refine (L5.out _).mono ?_
          rintro e v1 ⟨rfl, hv1⟩
          have HV1 := Lib.hid (HB.out.trans (hv1.mono HB.out.size))
          clear hv1
          go_wp2_with fail
          refine (HWk.out _).mono ?_
          rintro e v2 ⟨rfl, hv2⟩
          have HV2 := Lib.hid (HV1.out.trans (hv2.mono HV1.out.size))
          clear hv2
          go_wp2
          go_ret
          exact ⟨rfl, HV2.out⟩
        | false =>
          go_wp2_with fail
          refine (L5.out _).mono ?_
          rintro e v1 ⟨rfl, hv1⟩
          have HV1 := Lib.hid (HB.out.trans (hv1.mono HB.out.size))
          clear hv1
          go_wp2_with fail
          refine (HWk.out _).mono ?_
          rintro e v2 ⟨rfl, hv2⟩
          have HV2 := Lib.hid (HV1.out.trans (hv2.mono HV1.out.size))
          clear hv2
          go_wp2
          go_ret
          exact ⟨rfl, HV2.out⟩
      | false =>
        cases X4 with
        | true =>
          go_wp2_with fail
          refine (L5.out _).mono ?_
          rintro e v1 ⟨rfl, hv1⟩
          have HV1 := Lib.hid (HB.out.trans (hv1.mono HB.out.size))
          clear hv1
          go_wp2_with fail
          refine (HWk.out _).mono ?_
          rintro e v2 ⟨rfl, hv2⟩
          have HV2 := Lib.hid (HV1.out.trans (hv2.mono HV1.out.size))
          clear hv2
          go_wp2
          go_ret
          exact ⟨rfl, HV2.out⟩
        | false =>
          go_wp2_with fail
          refine (L5.out _).mono ?_
          rintro e v1 ⟨rfl, hv1⟩
          have HV1 := Lib.hid (HB.out.trans (hv1.mono HB.out.size))
          clear hv1
          go_wp2_with fail
          refine (HWk.out _).mono ?_
          rintro e v2 ⟨rfl, hv2⟩
          have HV2 := Lib.hid (HV1.out.trans (hv2.mono HV1.out.size))
          clear hv2
          go_wp2
          go_ret
          exact ⟨rfl, HV2.out⟩
    | false =>
      have hab : (⟨a0, a1, a2⟩ : Nm) = ⟨b0, b1, b2⟩ := of_decide_eq_true HT.out
      injection hab with z0 z1 z2
      subst z0 z1 z2
      cases X3 with
      | true =>
        cases X4 with
        | true =>
          go_wp2_with fail
          refine (L5.out _).mono ?_
          rintro e v1 ⟨rfl, hv1⟩
          have HV1 := Lib.hid (HB.out.trans (hv1.mono HB.out.size))
          clear hv1
          go_wp2_with fail
          refine (HWk.out _).mono ?_
          rintro e v2 ⟨rfl, hv2⟩
          have HV2 := Lib.hid (HV1.out.trans (hv2.mono HV1.out.size))
          clear hv2
          go_wp2
          go_ret
          exact ⟨rfl, HV2.out⟩
        | false =>
          go_wp2_with fail
          refine (L5.out _).mono ?_
          rintro e v1 ⟨rfl, hv1⟩
          have HV1 := Lib.hid (HB.out.trans (hv1.mono HB.out.size))
          clear hv1
          go_wp2_with fail
          refine (HWk.out _).mono ?_
          rintro e v2 ⟨rfl, hv2⟩
          have HV2 := Lib.hid (HV1.out.trans (hv2.mono HV1.out.size))
          clear hv2
          go_wp2
          go_ret
          exact ⟨rfl, HV2.out⟩
      | false =>
        cases X4 with
        | true =>
          go_wp2_with fail
          refine (L5.out _).mono ?_
          rintro e v1 ⟨rfl, hv1⟩
          have HV1 := Lib.hid (HB.out.trans (hv1.mono HB.out.size))
          clear hv1
          go_wp2_with fail
          refine (HWk.out _).mono ?_
          rintro e v2 ⟨rfl, hv2⟩
          have HV2 := Lib.hid (HV1.out.trans (hv2.mono HV1.out.size))
          clear hv2
          go_wp2
          go_ret
          exact ⟨rfl, HV2.out⟩
        | false =>
          go_wp2_with fail
          refine (L5.out _).mono ?_
          rintro e v1 ⟨rfl, hv1⟩
          have HV1 := Lib.hid (HB.out.trans (hv1.mono HB.out.size))
          clear hv1
          go_wp2_with fail
          refine (HWk.out _).mono ?_
          rintro e v2 ⟨rfl, hv2⟩
          have HV2 := Lib.hid (HV1.out.trans (hv2.mono HV1.out.size))
          clear hv2
          go_wp2
          go_ret
          exact ⟨rfl, HV2.out⟩
end Go.Proofs.Ytaokhbodmodcgaa
end

section
/-
  The developers' answers: numbers within bounds, names, stripes, shards, changes.
-/
namespace Go.Proofs.Ytaokhbodmodcgaa
open Go.RowKit
set_option maxRecDepth 100000

def inB (a lo hi : Int) : Bool := decide (lo ≤ a ∧ a ≤ hi)
theorem within_any (a lo hi : Int) (w : World) : Calls Try.prog 36 #[.int .i64 a, .int .i64 lo, .int .i64 hi] w fun e w' => e = .returned (.bool (inB a lo hi)) ∧ w' = w := by
  obtain ⟨E, hE⟩ : ∃ E, E = inB a lo hi := ⟨_, rfl⟩
  rw [← hE]
  unfold inB at hE
  by_cases h0 : lo ≤ a
  · by_cases h1 : a ≤ hi
    · have HE := Lib.hid (show E = true by rw [hE]; exact decide_eq_true ⟨h0, h1⟩)
      clear hE
      go_enter Try.func36, Try.ntmps36
      go_wp2
      go_ret
      exact ⟨by rw [HE.out]; rfl, rfl⟩
    · have HE := Lib.hid (show E = false by rw [hE]; exact decide_eq_false fun h => h1 h.2)
      clear hE
      go_enter Try.func36, Try.ntmps36
      go_wp2
      go_ret
      exact ⟨by rw [HE.out]; rfl, rfl⟩
  · have HE := Lib.hid (show E = false by rw [hE]; exact decide_eq_false fun h => h0 h.1)
    clear hE
    go_enter Try.func36, Try.ntmps36
    go_wp2
    go_ret
    exact ⟨by rw [HE.out]; rfl, rfl⟩
theorem within8_any (a lo hi : Int) (w : World) : Calls Try.prog 48 #[.int .i8 a, .int .i8 lo, .int .i8 hi] w fun e w' => e = .returned (.bool (inB a lo hi)) ∧ w' = w := by
  obtain ⟨E, hE⟩ : ∃ E, E = inB a lo hi := ⟨_, rfl⟩
  rw [← hE]
  unfold inB at hE
  by_cases h0 : lo ≤ a
  · by_cases h1 : a ≤ hi
    · have HE := Lib.hid (show E = true by rw [hE]; exact decide_eq_true ⟨h0, h1⟩)
      clear hE
      go_enter Try.func48, Try.ntmps48
      go_wp2
      go_ret
      exact ⟨by rw [HE.out]; rfl, rfl⟩
    · have HE := Lib.hid (show E = false by rw [hE]; exact decide_eq_false fun h => h1 h.2)
      clear hE
      go_enter Try.func48, Try.ntmps48
      go_wp2
      go_ret
      exact ⟨by rw [HE.out]; rfl, rfl⟩
  · have HE := Lib.hid (show E = false by rw [hE]; exact decide_eq_false fun h => h0 h.1)
    clear hE
    go_enter Try.func48, Try.ntmps48
    go_wp2
    go_ret
    exact ⟨by rw [HE.out]; rfl, rfl⟩

theorem named_dev (n : Nm) (w : World) : Calls Try.prog 16 #[.agg (nmv n).toArray] w fun e w' => e = .returned (.bool (namedB n)) ∧ Below w.heap.size w w' := by
  obtain ⟨a, b, c⟩ := n
  unfold nmv
  obtain ⟨w1, hw1⟩ : ∃ w1, w1 = w.alloc (.cells #[.int .i64 a, .int .i64 b, .int .i64 c] 24) := ⟨_, rfl⟩
  have HB := Lib.hid (show Below w.heap.size w w1 by rw [hw1]; exact (Below.refl _ w).alloc (Nat.le_refl _) _)
  have hg : w1.heap[w.heap.size]? = some (.cells #[.int .i64 a, .int .i64 b, .int .i64 c] 24 (0, 0)) := by rw [hw1]; exact heap_alloc_new w _
  have c0 : w1.cell? ⟨w.heap.size, 0, none⟩ = some (.int .i64 a) := by rw [cell_of_row w1 _ 0 _ _ _ hg]; rfl
  have c1 : w1.cell? ⟨w.heap.size, 1, none⟩ = some (.int .i64 b) := by rw [cell_of_row w1 _ 1 _ _ _ hg]; rfl
  have c2 : w1.cell? ⟨w.heap.size, 2, none⟩ = some (.int .i64 c) := by rw [cell_of_row w1 _ 2 _ _ _ hg]; rfl
  have HW1 := Lib.hid hw1
  obtain ⟨E, hE⟩ : ∃ E, E = namedB ⟨a, b, c⟩ := ⟨_, rfl⟩
  rw [← hE]
  have hE2 : E = (inB a 1 1048576 && (inB b 1 1048576 && inB c 1 1048576)) := by
    rw [hE]
    unfold namedB inB
    rw [← Bool.decide_and, ← Bool.decide_and, decide_eq_decide]
    simp only
    omega
  have HA := Lib.hid (fun W => within_any a 1 1048576 W)
  have HBb := Lib.hid (fun W => within_any b 1 1048576 W)
  have HC := Lib.hid (fun W => within_any c 1 1048576 W)
  clear hg hw1 hE
  generalize inB a 1 1048576 = p at *
  generalize inB b 1 1048576 = q at *
  generalize inB c 1 1048576 = r at *
  have HE := Lib.hid hE2
  clear hE2
  cases p with
  | false =>
    go_enter Try.func16, Try.ntmps16
    go_wp2_with (rw [← HW1.out])
    refine (HA.out _).mono ?_
    rintro e w2 ⟨rfl, rfl⟩
    go_wp2
    go_ret
    exact ⟨by rw [HE.out]; rfl, HB.out⟩
  | true =>
    cases q with
    | false =>
      go_enter Try.func16, Try.ntmps16
      go_wp2_with (rw [← HW1.out])
      refine (HA.out _).mono ?_
      rintro e w2 ⟨rfl, rfl⟩
      go_wp2_with fail
      refine (HBb.out _).mono ?_
      rintro e w2 ⟨rfl, rfl⟩
      go_wp2
      go_ret
      exact ⟨by rw [HE.out]; rfl, HB.out⟩
    | true =>
      go_enter Try.func16, Try.ntmps16
      go_wp2_with (rw [← HW1.out])
      refine (HA.out _).mono ?_
      rintro e w2 ⟨rfl, rfl⟩
      go_wp2_with fail
      refine (HBb.out _).mono ?_
      rintro e w2 ⟨rfl, rfl⟩
      go_wp2_with fail
      refine (HC.out _).mono ?_
      rintro e w2 ⟨rfl, rfl⟩
      go_wp2
      go_ret
      exact ⟨by rw [HE.out]; rfl, HB.out⟩
theorem stripes_dev (a : Int) (w : World) : Calls Try.prog 76 #[.int .i64 a] w fun e w' => e = .returned (.bool (inB a 0 255)) ∧ w' = w := by
  have HA := Lib.hid (fun W => within_any a 0 255 W)
  generalize inB a 0 255 = p at *
  go_enter Try.func76, Try.ntmps76
  go_wp2_with fail
  refine (HA.out _).mono ?_
  rintro e w2 ⟨rfl, rfl⟩
  go_wp2
  go_ret
  exact ⟨rfl, rfl⟩
theorem yes_dev (y : Bool) (w : World) : Calls Try.prog 80 #[.bool y] w fun e w' => e = .returned (.bool true) ∧ w' = w := by
  go_enter Try.func80, Try.ntmps80
  go_wp2
  go_ret
  exact ⟨rfl, rfl⟩
/-- the captured variable's cell holds the greatest -/
theorem number_dev (a m : Int) (b : Nat) (w : World) (hc : w.cell? ⟨b, 0, none⟩ = some (.int .i64 m)) : Calls Try.prog 89 #[.int .i64 a, .pointer (some ⟨b, 0, none⟩)] w fun e w' => e = .returned (.bool (inB a 1 m)) ∧ w' = w := by
  have HA := Lib.hid (fun W => within_any a 1 m W)
  generalize inB a 1 m = p at *
  go_enter Try.func89, Try.ntmps89
  go_wp2_with fail
  refine (HA.out _).mono ?_
  rintro e w2 ⟨rfl, rfl⟩
  go_wp2
  go_ret
  exact ⟨rfl, rfl⟩
theorem bv30 (x : BitVec 64) : x &&& ~~~30#64 = 0#64 ↔ x.toNat % 2 = 0 ∧ x.toNat < 32 := by
  constructor
  · intro h
    have e : x &&& 30#64 = x := by
      apply BitVec.eq_of_getElem_eq
      intro i hi
      have h1 := congrArg (fun z : BitVec 64 => z[i]) h
      simp only [BitVec.getElem_and, BitVec.getElem_not, BitVec.getElem_zero] at h1 ⊢
      cases h2 : x[i] <;> cases h3 : (30#64)[i] <;> simp_all
    have e2 : x.toNat &&& 30 = x.toNat := by
      have := congrArg BitVec.toNat e
      rwa [BitVec.toNat_and] at this
    have hle : x.toNat ≤ 30 := by rw [← e2]; exact Nat.and_le_right
    have hd : ∀ n, n < 31 → n &&& 30 = n → n % 2 = 0 := by decide
    exact ⟨hd _ (by omega) e2, by omega⟩
  · rintro ⟨h1, h2⟩
    have hd : ∀ n, n < 32 → n % 2 = 0 → BitVec.ofNat 64 n &&& ~~~30#64 = 0#64 := by decide
    have := hd x.toNat h2 h1
    rwa [BitVec.ofNat_toNat, BitVec.setWidth_eq] at this
theorem andNot30 (a : Int) (h : I64 a) : bits .andNot .i64 a 30 = 0 ↔ (0 ≤ a ∧ a % 2 = 0 ∧ a < 32) := by
  unfold I64 at h
  have hb := bv30 (BitVec.ofInt 64 a)
  show IntKind.i64.wrap ((BitVec.ofInt 64 a &&& ~~~(30#64)).toNat : Nat) = 0 ↔ _
  generalize BitVec.ofInt 64 a &&& ~~~(30#64) = y at *
  have hy : y = 0#64 ↔ y.toNat = 0 := by rw [← BitVec.toNat_inj]; rfl
  rw [hy, BitVec.toNat_ofInt] at hb
  have hlt := y.isLt
  have hw : IntKind.i64.wrap (y.toNat : Int) = 0 ↔ y.toNat = 0 := by rw [IntKind.wrap_i64]; omega
  rw [hw, hb]
  omega
theorem shards_dev (a : Int) (w : World) (hi : I64 a) : Calls Try.prog 84 #[.int .i64 a] w fun e w' => e = .returned (.bool (shardsB a)) ∧ w' = w := by
  obtain ⟨E, hE⟩ : ∃ E, E = shardsB a := ⟨_, rfl⟩
  rw [← hE]
  unfold shardsB at hE
  by_cases h0 : a = 0
  · have HE := Lib.hid (show E = false by rw [hE]; exact decide_eq_false (by omega))
    have hq : (a != 0) = false := by simp [h0]
    clear hE h0 hi
    go_enter Try.func84, Try.ntmps84
    go_wp2
    go_ret
    exact ⟨by rw [HE.out]; rfl, rfl⟩
  · have hq : (a != 0) = true := by simp [h0]
    have h1 := andNot30 a hi
    obtain ⟨z, hz⟩ : ∃ z, z = bits .andNot .i64 a 30 := ⟨_, rfl⟩
    have hz' := hz.symm
    rw [← hz] at h1
    by_cases h2 : z = 0
    · have HE := Lib.hid (show E = true by rw [hE]; have := h1.1 h2; exact decide_eq_true (by omega))
      have hq2 : (z == 0) = true := by simp [h2]
      clear hE h0 hi h1 h2 hz
      go_enter Try.func84, Try.ntmps84
      go_wp2
      go_ret
      exact ⟨by rw [HE.out]; rfl, rfl⟩
    · have HE := Lib.hid (show E = false by rw [hE]; exact decide_eq_false (fun h => h2 (h1.2 (by omega))))
      have hq2 : (z == 0) = false := by simp [h2]
      clear hE h0 hi h1 h2 hz
      go_enter Try.func84, Try.ntmps84
      go_wp2
      go_ret
      exact ⟨by rw [HE.out]; rfl, rfl⟩
end Go.Proofs.Ytaokhbodmodcgaa
end

section
/-
  The developers' answers: which writes may be; changes.
-/
namespace Go.Proofs.Ytaokhbodmodcgaa
open Go.RowKit
set_option maxRecDepth 100000

theorem box_made (w : World) (Z xs : Array Value) (T : TypeId) : Below w.heap.size w ((w.alloc (.cells Z T)).setRow w.heap.size xs) ∧ ((w.alloc (.cells Z T)).setRow w.heap.size xs).heap[w.heap.size]? = some (.cells xs T (0, 0)) ∧ ((w.alloc (.cells Z T)).setRow w.heap.size xs).heap.size = w.heap.size + 1 := by
  have hb : Below w.heap.size w (w.alloc (.cells Z T)) := (Below.refl _ w).alloc (Nat.le_refl _) _
  refine ⟨below_setRow hb (Nat.le_refl _) xs, setRow_heap _ _ _ _ _ _ (heap_alloc_new w _), ?_⟩
  simp [World.setRow]
theorem write_infos {x : Int × List Nat} (h : x.2.length = 8) : (Try.prog.info? 68).map (·.size) = some (wrv x).length := by rw [wrv_length h]; kernel_rfl
theorem change_dev (a b : Int) (w : World) : Calls Try.prog 86 #[.agg #[.int .i64 a, .int .i64 b]] w fun e w' => e = .returned (.bool (changedB a b)) ∧ Below w.heap.size w w' := by
  obtain ⟨w1, hw1⟩ : ∃ w1, w1 = w.alloc (.cells #[.int .i64 a, .int .i64 b] 27) := ⟨_, rfl⟩
  have HB := Lib.hid (show Below w.heap.size w w1 by rw [hw1]; exact (Below.refl _ w).alloc (Nat.le_refl _) _)
  have hg : w1.heap[w.heap.size]? = some (.cells #[.int .i64 a, .int .i64 b] 27 (0, 0)) := by rw [hw1]; exact heap_alloc_new w _
  have c0 : w1.cell? ⟨w.heap.size, 0, none⟩ = some (.int .i64 a) := by rw [cell_of_row w1 _ 0 _ _ _ hg]; rfl
  have c1 : w1.cell? ⟨w.heap.size, 1, none⟩ = some (.int .i64 b) := by rw [cell_of_row w1 _ 1 _ _ _ hg]; rfl
  have HW1 := Lib.hid hw1
  obtain ⟨E, hE⟩ : ∃ E, E = changedB a b := ⟨_, rfl⟩
  rw [← hE]
  unfold changedB at hE
  have HA := Lib.hid (fun W => within_any a 0 7 W)
  have HBb := Lib.hid (fun W => within_any b 1 4 W)
  clear hg hw1
  by_cases h0 : a = -1
  · rw [if_pos h0] at hE
    subst h0
    by_cases h1 : b = 0
    · have HE := Lib.hid (show E = true by rw [hE]; exact decide_eq_true h1)
      clear hE
      subst h1
      go_enter Try.func86, Try.ntmps86
      go_wp2_with (rw [← HW1.out])
      go_ret
      exact ⟨by rw [HE.out]; rfl, HB.out⟩
    · have HE := Lib.hid (show E = false by rw [hE]; exact decide_eq_false h1)
      have hq : (b == 0) = false := by simp [h1]
      clear hE h1
      go_enter Try.func86, Try.ntmps86
      go_wp2_with (rw [← HW1.out])
      go_ret
      exact ⟨by rw [HE.out]; rfl, HB.out⟩
  · rw [if_neg h0] at hE
    have hq : (a == -1) = false := by simp [h0]
    have hE2 : E = (inB a 0 7 && inB b 1 4) := by
      rw [hE]
      unfold inB
      rw [← Bool.decide_and, decide_eq_decide]
      omega
    generalize inB a 0 7 = p at *
    generalize inB b 1 4 = q at *
    have HE := Lib.hid hE2
    clear hE hE2 h0
    cases p with
    | false =>
      go_enter Try.func86, Try.ntmps86
      go_wp2_with (rw [← HW1.out])
      refine (HA.out _).mono ?_
      rintro e w2 ⟨rfl, rfl⟩
      go_wp2
      go_ret
      exact ⟨by rw [HE.out]; rfl, HB.out⟩
    | true =>
      go_enter Try.func86, Try.ntmps86
      go_wp2_with (rw [← HW1.out])
      refine (HA.out _).mono ?_
      rintro e w2 ⟨rfl, rfl⟩
      go_wp2_with fail
      refine (HBb.out _).mono ?_
      rintro e w2 ⟨rfl, rfl⟩
      go_wp2
      go_ret
      exact ⟨by rw [HE.out]; rfl, HB.out⟩
set_option maxHeartbeats 4000000 in
theorem written_dev (l : List (Int × List Nat)) (A : Option Addr) (c : Nat) (w : World) (P : Nat → Prop) (h : Wrs w P A l) (hf : WrFine l) :
    Calls Try.prog 18 #[.slice A l.length c] w fun e w' => e = .returned (.bool (writtenB l)) ∧ Below w.heap.size w w' := by
  obtain ⟨E, hE⟩ : ∃ E, E = writtenB l := ⟨_, rfl⟩
  rw [← hE]
  unfold writtenB at hE
  by_cases h8 : (l.length : Int) > 8
  · have HE := Lib.hid (show E = false by rw [hE, decide_eq_false (by omega), Bool.false_and])
    clear hE
    go_enter Try.func18, Try.ntmps18
    go_wp2
    go_ret
    exact ⟨by rw [HE.out]; rfl, Below.refl _ _⟩
  have HE := Lib.hid (show E = risingB (-1) l by rw [hE, decide_eq_true (by omega), Bool.true_and])
  clear hE
  obtain ⟨n, hn⟩ : ∃ n, n = l.length := ⟨_, rfl⟩
  rw [← hn] at h8 ⊢
  have HN := Lib.hid hn
  have HW := Lib.hid h
  have HF := Lib.hid hf
  clear hn h hf
  go_enter Try.func18, Try.ntmps18
  go_wp2
  go_loopw [3, 11] (fun lo i wr => ∃ k : Nat, k ≤ n ∧ i = .int .i64 (k : Int) ∧ lo = .int .i64 (loW l k + 1) ∧ (-1 ≤ loW l k ∧ loW l k ≤ 31) ∧ E = risingB (loW l k) (l.drop k) ∧ Below w.heap.size w wr) (fun _ i _ => n - (intOf i).toNat)
  case atStart => exact ⟨0, Nat.zero_le _, rfl, rfl, by show (-1 : Int) ≤ -1 ∧ (-1 : Int) ≤ 31; omega, HE.out, Below.refl _ _⟩
  case round =>
    obtain ⟨k, hk, rfl, rfl, hlo, hEk, hb⟩ := hrel
    have HBr := Lib.hid hb
    by_cases hlt : k < n
    · have hkl : k < l.length := by rw [← HN.out]; exact hlt
      obtain ⟨b, off, rfl, ⟨_, hbl⟩, hc⟩ := HW.out (by omega)
      have hx8 := HF.out l[k] (List.getElem_mem hkl)
      have HX := Lib.hid (show loW l (k + 1) = l[k].1 by rw [loW_succ hkl])
      rw [rising_step hkl] at hEk
      have HC := Lib.hid (show ∀ j u, (wrv l[k])[j]? = some u → wr.cell? ⟨b, off + k * 9 + j, none⟩ = some u from fun j u hu => (World.cell?_of_block (w := w) (hb.block b hbl)).trans (hc k hkl j u hu))
      have HI := Lib.hid (write_infos hx8.2.1)
      have HL9 := Lib.hid (wrv_length hx8.2.1)
      have HO := Lib.hid (show (wrv l[k]).all (·.oneCell') = true from List.all_eq_true.2 fun u hu => by
        rcases List.mem_cons.1 hu with rfl | hu
        · rfl
        · exact vals_one u hu)
      have HI64 := Lib.hid hx8.1
      have H0 := Lib.hid (show (wrv l[k])[0]? = some (.int .i64 l[k].1) from rfl)
      generalize loW l k = lo at *
      clear hb hc hx8
      generalize l[k] = x at *
      obtain ⟨y, hy⟩ : ∃ y, y = x.1 := ⟨_, rfl⟩
      rw [← hy] at hEk HX H0 HI64
      have HA := Lib.hid (fun W => within_any y (lo + 1) 31 W)
      have HEk := Lib.hid (show E = (inB y (lo + 1) 31 && risingB y (l.drop (k + 1))) by
        rw [hEk, HX.out]
        congr 1)
      have HP := Lib.hid (show inB y (lo + 1) 31 = true → lo + 1 ≤ y ∧ y ≤ 31 from fun h => by
        unfold inB at h
        exact of_decide_eq_true h)
      generalize inB y (lo + 1) 31 = p at *
      have HLo := Lib.hid hlo
      have hki : (k : Int) < (n : Int) := by omega
      have hw : IntKind.i64.wrap ((k : Int) + 1) = (k : Int) + 1 := by rw [IntKind.wrap_i64]; omega
      obtain ⟨lo1, hlo1⟩ : ∃ z, z = lo + 1 := ⟨_, rfl⟩
      rw [← hlo1] at HA ⊢
      clear hy hlo hEk hlo1
      obtain ⟨hb2, hg2, hz2⟩ := box_made wr #[.int .i64 0, .int .u8 0, .int .u8 0, .int .u8 0, .int .u8 0, .int .u8 0, .int .u8 0, .int .u8 0, .int .u8 0] (wrv x).toArray 68
      have HZ := Lib.hid (heap_alloc_new wr (.cells #[.int .i64 0, .int .u8 0, .int .u8 0, .int .u8 0, .int .u8 0, .int .u8 0, .int .u8 0, .int .u8 0, .int .u8 0] 68))
      obtain ⟨w2, hw2⟩ : ∃ w2, w2 = (wr.alloc (.cells #[.int .i64 0, .int .u8 0, .int .u8 0, .int .u8 0, .int .u8 0, .int .u8 0, .int .u8 0, .int .u8 0, .int .u8 0] 68)).setRow wr.heap.size (wrv x).toArray := ⟨_, rfl⟩
      rw [← hw2] at hb2 hg2
      have HW2 := Lib.hid hw2
      have hc0 : w2.cell? ⟨wr.heap.size, 0, none⟩ = some (.int .i64 y) := by rw [cell_of_row w2 _ 0 _ _ _ hg2, ← H0.out]; simp
      have HB2 := Lib.hid (HBr.out.trans (hb2.mono HBr.out.size))
      have HIs := Lib.hid (show (Try.prog.info? 68).map (·.size) = some (wrv x).toArray.size by rw [HI.out]; simp)
      have HSz := Lib.hid (show (#[.int .i64 0, .int .u8 0, .int .u8 0, .int .u8 0, .int .u8 0, .int .u8 0, .int .u8 0, .int .u8 0, .int .u8 0] : Array Value).size = (wrv x).toArray.size by simp [HL9.out])
      have HOa := Lib.hid (show (wrv x).toArray.all (·.oneCell') = true by simpa using HO.out)
      clear hw2 hb2 hg2 hz2
      cases p with
      | false =>
        go_wp2_with (first
          | (refine wpList_load_part rfl 68 _ rfl b (off + k * 9) rfl (wrv x) _ HC.out Try.underlying68 rfl HI.out ?_)
          | (refine wpList_store_row rfl 68 _ _ rfl wr.heap.size (wrv x).toArray rfl rfl 68 #[.int .i64 0, .int .u8 0, .int .u8 0, .int .u8 0, .int .u8 0, .int .u8 0, .int .u8 0, .int .u8 0, .int .u8 0] HZ.out HIs.out HSz.out HOa.out ?_; rw [← HW2.out]))
        refine (HA.out _).mono ?_
        rintro e w3 ⟨rfl, rfl⟩
        go_wp2
        go_ret
        exact ⟨by rw [HEk.out]; rfl, HB2.out⟩
      | true =>
        have HP2 := Lib.hid (HP.out rfl)
        have hw1 : IntKind.i64.wrap (y + 1) = y + 1 := by have := HP2.out; have := HLo.out; rw [IntKind.wrap_i64]; omega
        go_wp2_with (first
          | (refine wpList_load_part rfl 68 _ rfl b (off + k * 9) rfl (wrv x) _ HC.out Try.underlying68 rfl HI.out ?_)
          | (refine wpList_store_row rfl 68 _ _ rfl wr.heap.size (wrv x).toArray rfl rfl 68 #[.int .i64 0, .int .u8 0, .int .u8 0, .int .u8 0, .int .u8 0, .int .u8 0, .int .u8 0, .int .u8 0, .int .u8 0] HZ.out HIs.out HSz.out HOa.out ?_; rw [← HW2.out]))
        refine (HA.out _).mono ?_
        rintro e w3 ⟨rfl, rfl⟩
        go_wp2
        go_roundw
        case rel => exact ⟨k + 1, by omega, by simp, by rw [HX.out], by rw [HX.out]; have := HP2.out; have := HLo.out; omega, by rw [HX.out, HEk.out, Bool.true_and], HB2.out⟩
        case measure => simp [intOf]; omega
    · obtain rfl : k = n := by omega
      rw [List.drop_eq_nil_of_le (Nat.le_of_eq HN.out.symm)] at hEk
      have HEk := Lib.hid hEk
      have hki : ¬ (k : Int) < (k : Int) := by omega
      clear hEk hb hlo
      go_wp2
      go_ret
      exact ⟨by rw [HEk.out]; rfl, HBr.out⟩
end Go.Proofs.Ytaokhbodmodcgaa
end

section
/-
  The document's answer of writes as bytes.
-/
namespace Go.Proofs.Ytaokhbodmodcgaa
open Go.RowKit
set_option maxRecDepth 100000

theorem flag_any (y : Bool) (w : World) : Calls Try.prog 31 #[.bool y] w fun e w' => e = .returned (.int .u8 ((if y = true then 1 else 0 : Nat) : Int)) ∧ w' = w := by
  cases y
  all_goals
    go_enter Try.func31, Try.ntmps31
    go_wp2
    go_ret
    exact ⟨rfl, rfl⟩
theorem writesL_take {l : List (Int × List Nat)} {k : Nat} (hk : k < l.length) : writesL (l.take (k + 1)) = writesL (l.take k) ++ (byteN l[k].1 :: l[k].2) := by
  have e := List.take_succ_eq_append_getElem hk
  unfold writesL
  rw [e, List.flatMap_append]
  simp only [List.flatMap_cons, List.flatMap_nil, List.append_nil]
theorem writesL_le {l : List (Int × List Nat)} (h : WrOk l) (k : Nat) : (writesL (l.take k)).length ≤ 9 * l.length := by
  rw [writes_len (fun x hx => h x (List.mem_of_mem_take hx)), List.length_take]
  omega
def LowW (l : List (Int × List Nat)) : Prop := l.length ≤ 8 ∧ ∀ x ∈ l, (0 ≤ x.1 ∧ x.1 ≤ 31) ∧ x.2.length = 8 ∧ ∀ y ∈ x.2, y < 256
set_option maxHeartbeats 4000000 in
theorem writes_any (l : List (Int × List Nat)) (A : Option Addr) (c : Nat) (bs : List Nat) (v : Value) (base : Nat) (w : World) (P : Nat → Prop) (hw : Wrs w P A l) (hP : ∀ k, P k → v.ownBlock ≠ some k) (hl : LowW l) (ho : Own w base bs v) (hb : base ≤ w.heap.size) (hbl : bs.length ≤ 1000) :
    Calls Try.prog 30 #[v, .slice A l.length c] w fun e w' => ∃ v', e = .returned v' ∧ Own w' base (bs ++ (l.length % 256 :: writesL l)) v' ∧ Grew w w' v v' := by
  have hok : WrOk l := fun x hx => ⟨by have := (hl.2 x hx).1; omega, (hl.2 x hx).2.1⟩
  obtain ⟨n, hn⟩ : ∃ n, n = l.length := ⟨_, rfl⟩
  have hn8 : n ≤ 8 := by have := hl.1; omega
  rw [← hn, Nat.mod_eq_of_lt (show n < 256 by omega)]
  have HN := Lib.hid hn
  have HL := Lib.hid hl
  have HOk := Lib.hid hok
  have HO := Lib.hid ho
  have HBs := Lib.hid (And.intro hb hbl)
  have HC := Lib.hid (show ∀ X u, Grew w X v u → 0 < l.length → ∃ b off, A = some ⟨b, off, none⟩ ∧ ∀ i (h : i < l.length) j u, (wrv l[i])[j]? = some u → X.cell? ⟨b, off + i * 9 + j, none⟩ = some u from fun X u hX h0 => by
    obtain ⟨b, off, e, ⟨hp, hlt⟩, hc⟩ := hw h0
    exact ⟨b, off, e, fun i hi j u hu => (World.cell?_of_block (w := w) (hX.block b hlt (hP b hp))).trans (hc i hi j u hu)⟩)
  have HX := Lib.hid (show ∀ x ∈ [n], x < 256 from fun x hx => by rw [List.mem_singleton.1 hx]; omega)
  have hwn : IntKind.u8.wrap (n : Int) = (n : Int) := by rw [IntKind.wrap_u8]; omega
  clear hn hl hok ho hw hP hb hbl
  go_enter Try.func30, Try.ntmps30
  go_wp2_with (at_builtin; refine append_grew rfl (.tmp 7) (.tmp 11) rfl base bs [n] _ rfl (HO.out.alloc _) ⟨w.heap.size, 0, none⟩ 1 1 rfl rfl (by simp) _ (by_made w #[.int .u8 (n : Int)] [n] rfl HX.out) (by have := HBs.out.2; simp; omega) (Nat.le_trans HBs.out.1 (by simp)) ?_; intro v3 w3 hv3 hb3)
  have HV3 := Lib.hid hv3
  have HG3 := Lib.hid ((Grew.alloc w _ v).trans hb3)
  clear hv3 hb3
  go_loopw [0, 5, 6] (fun b i _ wr => ∃ k : Nat, k ≤ n ∧ i = .int .i64 (k : Int) ∧ Own wr base (bs ++ (n :: writesL (l.take k))) b ∧ Grew w wr v b) (fun _ i _ _ => n - (intOf i).toNat)
  case atStart => exact ⟨0, Nat.zero_le _, rfl, HV3.out, HG3.out⟩
  case round =>
    obtain ⟨k, hk, rfl, hv, hg⟩ := hrel
    by_cases hlt : k < n
    · have hkl : k < l.length := by rw [← HN.out]; exact hlt
      obtain ⟨b, off, rfl, hc⟩ := HC.out wr _ hg (by omega)
      have hx := HL.out.2 l[k] (List.getElem_mem hkl)
      obtain ⟨q, hq⟩ : ∃ q : Nat, l[k].1 = (q : Int) := ⟨l[k].1.toNat, by omega⟩
      have hc0 : wr.cell? ⟨b, off + k * 9, none⟩ = some (.int .i64 (q : Int)) := by rw [← hq]; exact hc k hkl 0 _ rfl
      have hq31 : q ≤ 31 := by omega
      have hwq : IntKind.u8.wrap (q : Int) = (q : Int) := by rw [IntKind.wrap_u8]; omega
      have HXq := Lib.hid (show ∀ x ∈ [q], x < 256 from fun x hx => by rw [List.mem_singleton.1 hx]; omega)
      have HT := Lib.hid (show bs ++ (n :: writesL (l.take k)) ++ [q] ++ l[k].2 = bs ++ (n :: writesL (l.take (k + 1))) by
        rw [writesL_take hkl, hq, byteN_of (by omega)]
        simp only [List.append_assoc, List.cons_append, List.nil_append])
      obtain ⟨D, hD⟩ : ∃ D, D = l[k].2 := ⟨_, rfl⟩
      have hDl : D.length = 8 := by rw [hD]; exact hx.2.1
      have hDb : ∀ y ∈ D, y < 256 := by rw [hD]; exact hx.2.2
      rw [← hD] at HT
      obtain ⟨T, hT⟩ : ∃ T, T = bs ++ (n :: writesL (l.take k)) := ⟨_, rfl⟩
      have hTl : T.length ≤ 2000 := by
        rw [hT]
        have h1 := writesL_le HOk.out k
        have h2 := HBs.out.2
        simp only [List.length_append, List.length_cons]
        have h3 := HN.out
        omega
      rw [← hT] at hv HT
      have HCv := Lib.hid (show ∀ X u, Grew w X v u → ∀ m, m < 8 → X.cell? ⟨b, off + k * 9 + 1 + m, none⟩ = some (.int .u8 ((D.getD m 0 : Nat) : Int)) from fun X u hX m hm => by
        obtain ⟨b', off', e', hc'⟩ := HC.out X u hX (by omega)
        have e2 : b = b' ∧ off = off' := by simpa using e'
        obtain ⟨rfl, rfl⟩ := e2
        have h := hc' k hkl (1 + m) (.int .u8 ((D.getD m 0 : Nat) : Int)) (by
          unfold wrv
          rw [Nat.add_comm 1 m, List.getElem?_cons_succ, ← hD]
          unfold vals
          rw [List.getElem?_map, List.getElem?_eq_getElem (by omega), Option.map_some, getD_at _ _ (by omega)])
        rw [Nat.add_assoc]
        exact h)
      have HV := Lib.hid hv
      have HG := Lib.hid hg
      have HD := Lib.hid (And.intro hDl (And.intro hDb hTl))
      have hki : (k : Int) < (n : Int) := by omega
      have hw1 : IntKind.i64.wrap ((k : Int) + 1) = (k : Int) + 1 := by rw [IntKind.wrap_i64]; omega
      clear hc hx hq hD hDl hDb hT hTl hv hg
      go_wp2_with (at_builtin; refine append_grew rfl (.tmp 19) (.tmp 26) rfl base T [q] _ rfl (HV.out.alloc _) ⟨wr.heap.size, 0, none⟩ 1 1 rfl rfl (by simp) _ (by_made wr #[.int .u8 (q : Int)] [q] rfl HXq.out) (by have := HD.out.2.2; simp; omega) (by have := HG.out.size; have := HBs.out.1; simp; omega) ?_; intro v4 w4 hv4 hb4)
      have HV4 := Lib.hid hv4
      have HG4 := Lib.hid (HG.out.trans ((Grew.alloc wr _ _).trans hb4))
      clear hv4 hb4 hc0
      go_loopw [0, 6] (fun b2 j wr2 => ∃ m : Nat, m ≤ 8 ∧ j = .int .i64 (m : Int) ∧ Own wr2 base (T ++ [q] ++ D.take m) b2 ∧ Grew w wr2 v b2) (fun _ j _ => 8 - (intOf j).toNat)
      case atStart => exact ⟨0, Nat.zero_le _, rfl, by rw [List.take_zero, List.append_nil]; exact HV4.out, HG4.out⟩
      case round =>
        obtain ⟨m, hm, rfl, hv, hg⟩ := hrel
        by_cases hmt : m < 8
        · have hcm := HCv.out _ _ hg m hmt
          have hml : m < D.length := by rw [HD.out.1]; exact hmt
          have HDn := Lib.hid (show T ++ [q] ++ D.take m ++ [D.getD m 0] = T ++ [q] ++ D.take (m + 1) by
            have e := List.take_succ_eq_append_getElem hml
            rw [e, getD_at _ _ hml, List.append_assoc (T ++ [q])])
          have hr : D.getD m 0 < 256 := by rw [getD_at _ _ hml]; exact HD.out.2.1 _ (List.getElem_mem hml)
          generalize D.getD m 0 = z at *
          have HXz := Lib.hid (show ∀ x ∈ [z], x < 256 from fun x hx => by rw [List.mem_singleton.1 hx]; omega)
          have HV5 := Lib.hid hv
          have HG5 := Lib.hid hg
          have hmi : (m : Int) < 8 := by omega
          have hw2 : IntKind.i64.wrap ((m : Int) + 1) = (m : Int) + 1 := by rw [IntKind.wrap_i64]; omega
          have HSz := Lib.hid (show (T ++ [q] ++ D.take m).length ≤ 3000 by simp only [List.length_append, List.length_take, List.length_cons, List.length_nil]; have := HD.out.2.2; omega)
          generalize T ++ [q] ++ D.take m = U at *
          clear hv hg hr
          go_wp2_with (at_builtin; refine append_grew rfl (.tmp 32) (.tmp 40) rfl base U [z] _ rfl (HV5.out.alloc _) ⟨_, 0, none⟩ 1 1 rfl rfl (by simp) _ (by_made _ #[.int .u8 (z : Int)] [z] rfl HXz.out) (by have := HSz.out; simp; omega) (by have := HG5.out.size; have := HBs.out.1; simp; omega) ?_; intro v6 w6 hv6 hb6)
          go_roundw
          case rel => exact ⟨m + 1, by omega, by simp, by rw [← HDn.out]; exact hv6, HG5.out.trans ((Grew.alloc _ _ _).trans hb6)⟩
          case measure => simp [intOf]; omega
        · obtain rfl : m = 8 := by omega
          have HV5 := Lib.hid (show Own _ base (bs ++ (n :: writesL (l.take (k + 1)))) _ by
            rw [← HT.out, ← List.take_of_length_le (Nat.le_of_eq HD.out.1)]; exact hv)
          have HG5 := Lib.hid hg
          clear hv hg
          go_wp2
          go_roundw
          case rel => exact ⟨k + 1, by omega, by simp, HV5.out, HG5.out⟩
          case measure => simp [intOf]; omega
    · obtain rfl : k = n := by omega
      have HV5 := Lib.hid (show Own _ base (bs ++ (k :: writesL l)) _ by
        rw [List.take_of_length_le (Nat.le_of_eq HN.out.symm)] at hv; exact hv)
      have HG5 := Lib.hid hg
      have hki : ¬ (k : Int) < (k : Int) := by omega
      clear hv hg
      go_wp2
      go_ret
      exact ⟨_, rfl, HV5.out, HG5.out⟩
end Go.Proofs.Ytaokhbodmodcgaa
end

section
/-
  The developers' answers: numbers, names, writes, changes as bytes.
-/
namespace Go.Proofs.Ytaokhbodmodcgaa
open Go.RowKit
set_option maxRecDepth 100000

/-- the k lowest bytes of a number -/
def lows : Nat → Nat → List Nat
  | _, 0 => []
  | m, k + 1 => lows m k ++ [m / 256 ^ k % 256]
theorem lows_one (m : Nat) : lows m 1 = [m % 256] := by simp [lows]
theorem lows_three (m : Nat) : lows m 3 = three (m : Int) := by rw [three_cast]; simp [lows]
theorem lows_length (m k : Nat) : (lows m k).length = k := by
  induction k with
  | zero => rfl
  | succ k ih => simp [lows, ih]
theorem shr_nat (m : Nat) (k : Nat) : (m : Int) / 2 ^ (8 * k) = ((m / 256 ^ k : Nat) : Int) := by
  rw [Int.natCast_ediv, Int.natCast_pow, Int.pow_mul]
  rfl
set_option maxHeartbeats 4000000 in
theorem put_dev (m n : Nat) (bs : List Nat) (v : Value) (base : Nat) (w : World) (hm : m < 16777216) (hn : n ≤ 3) (ho : Own w base bs v) (hb : base ≤ w.heap.size) (hl : bs.length ≤ 1000000) :
    Calls Try.prog 26 #[v, .int .i64 (m : Int), .int .i64 (n : Int)] w fun e w' => ∃ v', e = .returned v' ∧ Own w' base (bs ++ lows m n) v' ∧ Grew w w' v v' := by
  have HO := Lib.hid ho
  have HB := Lib.hid (And.intro hb hl)
  clear ho hb hl
  go_enter Try.func26, Try.ntmps26
  go_wp2
  go_loopw [0, 9] (fun b i wr => ∃ k : Nat, k ≤ n ∧ i = .int .i64 (k : Int) ∧ Own wr base (bs ++ lows m k) b ∧ Grew w wr v b) (fun _ i _ => n - (intOf i).toNat)
  case atStart => exact ⟨0, Nat.zero_le _, rfl, by rw [show lows m 0 = [] from rfl, List.append_nil]; exact HO.out, Grew.refl _ _⟩
  case round =>
    obtain ⟨k, hk, rfl, hv, hg⟩ := hrel
    have HV := Lib.hid hv
    have HG := Lib.hid hg
    clear hv hg
    by_cases hlt : k < n
    · have hki : (k : Int) < (n : Int) := by omega
      have hw1 : IntKind.i64.wrap ((k : Int) + 1) = (k : Int) + 1 := by rw [IntKind.wrap_i64]; omega
      obtain ⟨q, hq⟩ : ∃ q, q = m / 256 ^ k := ⟨_, rfl⟩
      have hs := shr_nat m k
      rw [← hq] at hs
      have HN := Lib.hid (show bs ++ lows m k ++ [q % 256] = bs ++ lows m (k + 1) by rw [lows, hq, List.append_assoc])
      have HX := Lib.hid (show ∀ x ∈ [q % 256], x < 256 from fun x hx => by rw [List.mem_singleton.1 hx]; omega)
      have HL := Lib.hid (show (bs ++ lows m k).length ≤ 1000003 by rw [List.length_append, lows_length]; have := HB.out.2; omega)
      clear hq
      go_wp2_with (at_builtin; refine append_grew rfl (.tmp 12) (.tmp 18) rfl base _ [q % 256] _ rfl (HV.out.alloc _) ⟨wr.heap.size, 0, none⟩ 1 1 rfl rfl (by simp) _ (by_made wr #[.int .u8 ((q : Int) % 256)] [q % 256] rfl HX.out) (by have := HL.out; simp only [List.length_cons, List.length_nil]; omega) (by have := HG.out.size; have := HB.out.1; simp; omega) ?_; intro v4 w4 hv4 hb4)
      go_roundw
      case rel => exact ⟨k + 1, by omega, by simp, by rw [← HN.out]; exact hv4, HG.out.trans ((Grew.alloc wr _ _).trans hb4)⟩
      case measure => simp [intOf]; omega
    · obtain rfl : k = n := by omega
      have hki : ¬ (k : Int) < (k : Int) := by omega
      go_wp2
      go_ret
      exact ⟨_, rfl, HV.out, HG.out⟩
theorem putByte_dev (m : Nat) (bs : List Nat) (v : Value) (base : Nat) (w : World) (hm : m < 16777216) (ho : Own w base bs v) (hb : base ≤ w.heap.size) (hl : bs.length ≤ 1000000) :
    Calls Try.prog 77 #[v, .int .i64 (m : Int)] w fun e w' => ∃ v', e = .returned v' ∧ Own w' base (bs ++ [m % 256]) v' ∧ Grew w w' v v' := by
  have HP := Lib.hid (put_dev m 1 bs v base w hm (by omega) ho hb hl)
  rw [lows_one] at HP
  clear ho hb hl
  go_enter Try.func77, Try.ntmps77
  go_wp2_with fail
  refine (HP.out).mono ?_
  rintro e w1 ⟨v1, rfl, ho1, hg1⟩
  have HO1 := Lib.hid ho1
  have HG1 := Lib.hid hg1
  clear ho1 hg1
  go_wp2
  go_ret
  exact ⟨v1, rfl, HO1.out, HG1.out⟩
theorem putWide_dev (m : Nat) (bs : List Nat) (v : Value) (base : Nat) (w : World) (hm : m < 16777216) (ho : Own w base bs v) (hb : base ≤ w.heap.size) (hl : bs.length ≤ 1000000) :
    Calls Try.prog 90 #[v, .int .i64 (m : Int)] w fun e w' => ∃ v', e = .returned v' ∧ Own w' base (bs ++ three (m : Int)) v' ∧ Grew w w' v v' := by
  have HP := Lib.hid (put_dev m 3 bs v base w hm (by omega) ho hb hl)
  rw [lows_three] at HP
  clear ho hb hl
  go_enter Try.func90, Try.ntmps90
  go_wp2_with fail
  refine (HP.out).mono ?_
  rintro e w1 ⟨v1, rfl, ho1, hg1⟩
  have HO1 := Lib.hid ho1
  have HG1 := Lib.hid hg1
  clear ho1 hg1
  go_wp2
  go_ret
  exact ⟨v1, rfl, HO1.out, HG1.out⟩
theorem putFlag_dev (y : Bool) (bs : List Nat) (v : Value) (base : Nat) (w : World) (ho : Own w base bs v) (hb : base ≤ w.heap.size) (hl : bs.length ≤ 1000000) :
    Calls Try.prog 82 #[v, .bool y] w fun e w' => ∃ v', e = .returned v' ∧ Own w' base (bs ++ [if y then 1 else 0]) v' ∧ Grew w w' v v' := by
  cases y with
  | true =>
    have HP := Lib.hid (putByte_dev 1 bs v base w (by omega) ho hb hl)
    clear ho hb hl
    go_enter Try.func82, Try.ntmps82
    go_wp2_with fail
    refine (HP.out).mono ?_
    rintro e w1 ⟨v1, rfl, ho1, hg1⟩
    have HO1 := Lib.hid ho1
    have HG1 := Lib.hid hg1
    clear ho1 hg1
    go_wp2
    go_ret
    exact ⟨v1, rfl, HO1.out, HG1.out⟩
  | false =>
    have HP := Lib.hid (putByte_dev 0 bs v base w (by omega) ho hb hl)
    clear ho hb hl
    go_enter Try.func82, Try.ntmps82
    go_wp2_with fail
    refine (HP.out).mono ?_
    rintro e w1 ⟨v1, rfl, ho1, hg1⟩
    have HO1 := Lib.hid ho1
    have HG1 := Lib.hid hg1
    clear ho1 hg1
    go_wp2
    go_ret
    exact ⟨v1, rfl, HO1.out, HG1.out⟩
end Go.Proofs.Ytaokhbodmodcgaa
end
