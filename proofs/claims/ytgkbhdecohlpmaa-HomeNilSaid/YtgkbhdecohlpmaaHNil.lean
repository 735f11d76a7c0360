/-
  HomeNil, by contract.
-/
import Derived.Test.YtgkbhdecohlpmaaHWaked
import Derived.Test.YtgkbhdecohlpmaaHEq
namespace Go.Proofs.Ytgkbhdecohlpmaa
set_option maxRecDepth 100000
open Go.RowKit Dk
set_option maxRecDepth 100000

set_option maxHeartbeats 4000000 in
theorem hnil_any (C : Calls9) (z : Int) (n c : Nat) (A : Option Addr) (s : Sup) (w : World) (hn : n ≤ maxLen) (hs : s.Fine) :
    Calls Try.prog 5 #[.int .i64 z, .slice A n c, .agg s.cells] w fun e w' => e = .returned (.bool true) ∧ Below w.heap.size w w' := by
  obtain ⟨y0, y1, y2, y3, y4, y5, y6, y7, hx⟩ := sup_map hs
  obtain ⟨g1, t1, o1, i1, b1, m1⟩ := s
  simp only at hx
  subst hx
  have HC := Lib.hid C
  have HN := Lib.hid hn
  have HS := Lib.hid hs
  have HP := Lib.hid (C.putsNil _ · hs)
  clear C hn hs
  rw [sup_cells] at HP ⊢
  have B0 := Lib.hid (show Below w.heap.size w (w.alloc (.cells #[.int .i64 g1, .int .i64 t1, .int .i64 o1, .int .i64 i1, .int .i64 b1, .int .i64 y0, .int .i64 y1, .int .i64 y2, .int .i64 y3, .int .i64 y4, .int .i64 y5, .int .i64 y6, .int .i64 y7] 25 (0, 0))) by exact (Below.refl _ w).alloc (Nat.le_refl _) _)
  have E0 := heap_alloc_new' w (.cells #[.int .i64 g1, .int .i64 t1, .int .i64 o1, .int .i64 i1, .int .i64 b1, .int .i64 y0, .int .i64 y1, .int .i64 y2, .int .i64 y3, .int .i64 y4, .int .i64 y5, .int .i64 y6, .int .i64 y7] 25 (0, 0))
  go_enter Try.func5, Try.ntmps5
  go_wp2_with fail
  refine (HC.out.getNil z _).mono ?_
  rintro e w1 ⟨A1, c1, rfl, hb1⟩
  have B1 := Lib.hid (B0.out.trans (hb1.mono B0.out.size))
  have E1 := (hb1.block _ (lt_of_obj E0)).trans E0
  clear hb1 B0 E0
  go_wp2_with fail
  refine (HC.out.getsNil _).mono ?_
  rintro e w2 ⟨rfl, hb2⟩
  have B2 := Lib.hid ((B1.out.trans (hb2.mono B1.out.size)).alloc (Nat.le_trans B1.out.size hb2.size) (.cells #[.int .i64 0, .int .i64 0, .int .i64 0, .int .i64 0, .int .i64 0, .int .i64 0, .int .i64 0, .int .i64 0, .int .i64 0, .int .i64 0, .int .i64 0, .int .i64 0, .int .i64 0] 25 (0, 0)))
  have E2 := (hb2.block _ (lt_of_obj E1)).trans E1
  have E3 := (heap_alloc_old' w2 (.cells #[.int .i64 0, .int .i64 0, .int .i64 0, .int .i64 0, .int .i64 0, .int .i64 0, .int .i64 0, .int .i64 0, .int .i64 0, .int .i64 0, .int .i64 0, .int .i64 0, .int .i64 0] 25 (0, 0)) _ (lt_of_obj E2)).trans E2
  have F3 := heap_alloc_new' w2 (.cells #[.int .i64 0, .int .i64 0, .int .i64 0, .int .i64 0, .int .i64 0, .int .i64 0, .int .i64 0, .int .i64 0, .int .i64 0, .int .i64 0, .int .i64 0, .int .i64 0, .int .i64 0] 25 (0, 0))
  clear hb2 B1 E1 E2
  rw [zero_cells]
  generalize hq : w2.heap.size = q at F3 ⊢
  go_wp2_with fail
  refine (HC.out.putNil z n A c _ HN.out).mono ?_
  rintro e w3 ⟨rfl, hb3⟩
  have B3 := Lib.hid (B2.out.trans (hb3.mono B2.out.size))
  have E4 := (hb3.block _ (lt_of_obj E3)).trans E3
  have F4 := (hb3.block _ (lt_of_obj F3)).trans F3
  clear hb3 B2 E3 F3 hq
  obtain ⟨ce0, ce1, ce2, ce3, ce4, ce5, ce6, ce7, ce8, ce9, ce10, ce11, ce12⟩ := cells13 E4
  go_wp2_with fail
  refine (HP.out _).mono ?_
  rintro e w4 ⟨rfl, hb4⟩
  have B4 := Lib.hid (B3.out.trans (hb4.mono B3.out.size))
  have F5 := (hb4.block _ (lt_of_obj F4)).trans F4
  have e8 := ints8_refl w4 0 0 0 0 0 0 0 0
  clear hb4 B3 F4 E4 ce0 ce1 ce2 ce3 ce4 ce5 ce6 ce7 ce8 ce9 ce10 ce11 ce12
  obtain ⟨cf0, cf1, cf2, cf3, cf4, cf5, cf6, cf7, cf8, cf9, cf10, cf11, cf12⟩ := cells13 F5
  go_wp2_with fail
  refine (wakes9_of HC.out _).mono ?_
  rintro e w5 ⟨rfl, hb5⟩
  have B5 := Lib.hid (B4.out.trans (hb5.mono B4.out.size))
  clear hb5 B4 F5 e8
  go_wp2
  go_ret
  exact ⟨rfl, B5.out⟩
end Go.Proofs.Ytgkbhdecohlpmaa
