/-
  math/bits.Len at numbers of at most 8: an int; nothing is turned.
-/
import Derived.Test.YtipgphdndleodaaODchk
import Derived.Shelf.Abstract
namespace Go.Proofs.Ytipgphdndleodaa
set_option maxRecDepth 100000
open Go.RowKit
set_option maxRecDepth 100000

theorem len64_dev (n : Nat) (h : n ≤ 8) (w : World) : Calls Try.prog 40 #[.int .u64 (n : Int)] w fun e w' => (∃ l : Int, e = .returned (.int .i64 l)) ∧ w' = w := by
  rcases (show n = 0 ∨ n = 1 ∨ n = 2 ∨ n = 3 ∨ n = 4 ∨ n = 5 ∨ n = 6 ∨ n = 7 ∨ n = 8 by omega) with rfl | rfl | rfl | rfl | rfl | rfl | rfl | rfl | rfl
  · show Calls _ _ #[.int .u64 0] _ _
    go_enter Try.func40, Try.ntmps40
    go_wp2
    go_ret
    exact ⟨⟨_, rfl⟩, rfl⟩
  · show Calls _ _ #[.int .u64 1] _ _
    go_enter Try.func40, Try.ntmps40
    go_wp2
    go_ret
    exact ⟨⟨_, rfl⟩, rfl⟩
  · show Calls _ _ #[.int .u64 2] _ _
    go_enter Try.func40, Try.ntmps40
    go_wp2
    go_ret
    exact ⟨⟨_, rfl⟩, rfl⟩
  · show Calls _ _ #[.int .u64 3] _ _
    go_enter Try.func40, Try.ntmps40
    go_wp2
    go_ret
    exact ⟨⟨_, rfl⟩, rfl⟩
  · show Calls _ _ #[.int .u64 4] _ _
    go_enter Try.func40, Try.ntmps40
    go_wp2
    go_ret
    exact ⟨⟨_, rfl⟩, rfl⟩
  · show Calls _ _ #[.int .u64 5] _ _
    go_enter Try.func40, Try.ntmps40
    go_wp2
    go_ret
    exact ⟨⟨_, rfl⟩, rfl⟩
  · show Calls _ _ #[.int .u64 6] _ _
    go_enter Try.func40, Try.ntmps40
    go_wp2
    go_ret
    exact ⟨⟨_, rfl⟩, rfl⟩
  · show Calls _ _ #[.int .u64 7] _ _
    go_enter Try.func40, Try.ntmps40
    go_wp2
    go_ret
    exact ⟨⟨_, rfl⟩, rfl⟩
  · show Calls _ _ #[.int .u64 8] _ _
    go_enter Try.func40, Try.ntmps40
    go_wp2
    go_ret
    exact ⟨⟨_, rfl⟩, rfl⟩
theorem len_dev (n : Nat) (h : n ≤ 8) (w : World) : Calls Try.prog 29 #[.int .u64 (n : Int)] w fun e w' => (∃ l : Int, e = .returned (.int .i64 l)) ∧ w' = w := by
  rcases (show n = 0 ∨ n = 1 ∨ n = 2 ∨ n = 3 ∨ n = 4 ∨ n = 5 ∨ n = 6 ∨ n = 7 ∨ n = 8 by omega) with rfl | rfl | rfl | rfl | rfl | rfl | rfl | rfl | rfl
  · have HC := Lib.hid (show Calls Try.prog 40 #[.int .u64 0] w fun e w' => (∃ l : Int, e = .returned (.int .i64 l)) ∧ w' = w from len64_dev 0 (by omega) w)
    show Calls _ _ #[.int .u64 0] _ _
    go_enter Try.func29, Try.ntmps29
    go_wp2_with (go_at_call 40; refine HC.out.mono ?_; rintro e w2 ⟨⟨l, rfl⟩, rfl⟩)
    go_ret
    exact ⟨⟨_, rfl⟩, rfl⟩
  · have HC := Lib.hid (show Calls Try.prog 40 #[.int .u64 1] w fun e w' => (∃ l : Int, e = .returned (.int .i64 l)) ∧ w' = w from len64_dev 1 (by omega) w)
    show Calls _ _ #[.int .u64 1] _ _
    go_enter Try.func29, Try.ntmps29
    go_wp2_with (go_at_call 40; refine HC.out.mono ?_; rintro e w2 ⟨⟨l, rfl⟩, rfl⟩)
    go_ret
    exact ⟨⟨_, rfl⟩, rfl⟩
  · have HC := Lib.hid (show Calls Try.prog 40 #[.int .u64 2] w fun e w' => (∃ l : Int, e = .returned (.int .i64 l)) ∧ w' = w from len64_dev 2 (by omega) w)
    show Calls _ _ #[.int .u64 2] _ _
    go_enter Try.func29, Try.ntmps29
    go_wp2_with (go_at_call 40; refine HC.out.mono ?_; rintro e w2 ⟨⟨l, rfl⟩, rfl⟩)
    go_ret
    exact ⟨⟨_, rfl⟩, rfl⟩
  · have HC := Lib.hid (show Calls Try.prog 40 #[.int .u64 3] w fun e w' => (∃ l : Int, e = .returned (.int .i64 l)) ∧ w' = w from len64_dev 3 (by omega) w)
    show Calls _ _ #[.int .u64 3] _ _
    go_enter Try.func29, Try.ntmps29
    go_wp2_with (go_at_call 40; refine HC.out.mono ?_; rintro e w2 ⟨⟨l, rfl⟩, rfl⟩)
    go_ret
    exact ⟨⟨_, rfl⟩, rfl⟩
  · have HC := Lib.hid (show Calls Try.prog 40 #[.int .u64 4] w fun e w' => (∃ l : Int, e = .returned (.int .i64 l)) ∧ w' = w from len64_dev 4 (by omega) w)
    show Calls _ _ #[.int .u64 4] _ _
    go_enter Try.func29, Try.ntmps29
    go_wp2_with (go_at_call 40; refine HC.out.mono ?_; rintro e w2 ⟨⟨l, rfl⟩, rfl⟩)
    go_ret
    exact ⟨⟨_, rfl⟩, rfl⟩
  · have HC := Lib.hid (show Calls Try.prog 40 #[.int .u64 5] w fun e w' => (∃ l : Int, e = .returned (.int .i64 l)) ∧ w' = w from len64_dev 5 (by omega) w)
    show Calls _ _ #[.int .u64 5] _ _
    go_enter Try.func29, Try.ntmps29
    go_wp2_with (go_at_call 40; refine HC.out.mono ?_; rintro e w2 ⟨⟨l, rfl⟩, rfl⟩)
    go_ret
    exact ⟨⟨_, rfl⟩, rfl⟩
  · have HC := Lib.hid (show Calls Try.prog 40 #[.int .u64 6] w fun e w' => (∃ l : Int, e = .returned (.int .i64 l)) ∧ w' = w from len64_dev 6 (by omega) w)
    show Calls _ _ #[.int .u64 6] _ _
    go_enter Try.func29, Try.ntmps29
    go_wp2_with (go_at_call 40; refine HC.out.mono ?_; rintro e w2 ⟨⟨l, rfl⟩, rfl⟩)
    go_ret
    exact ⟨⟨_, rfl⟩, rfl⟩
  · have HC := Lib.hid (show Calls Try.prog 40 #[.int .u64 7] w fun e w' => (∃ l : Int, e = .returned (.int .i64 l)) ∧ w' = w from len64_dev 7 (by omega) w)
    show Calls _ _ #[.int .u64 7] _ _
    go_enter Try.func29, Try.ntmps29
    go_wp2_with (go_at_call 40; refine HC.out.mono ?_; rintro e w2 ⟨⟨l, rfl⟩, rfl⟩)
    go_ret
    exact ⟨⟨_, rfl⟩, rfl⟩
  · have HC := Lib.hid (show Calls Try.prog 40 #[.int .u64 8] w fun e w' => (∃ l : Int, e = .returned (.int .i64 l)) ∧ w' = w from len64_dev 8 (by omega) w)
    show Calls _ _ #[.int .u64 8] _ _
    go_enter Try.func29, Try.ntmps29
    go_wp2_with (go_at_call 40; refine HC.out.mono ?_; rintro e w2 ⟨⟨l, rfl⟩, rfl⟩)
    go_ret
    exact ⟨⟨_, rfl⟩, rfl⟩
end Go.Proofs.Ytipgphdndleodaa
