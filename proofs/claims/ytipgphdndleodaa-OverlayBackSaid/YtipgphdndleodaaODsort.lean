/-
  slices.SortFunc over at most 8 writes; overlay.sorted.
-/
import Derived.Test.YtipgphdndleodaaODpure
namespace Go.Proofs.Ytipgphdndleodaa
set_option maxRecDepth 100000
open Go.RowKit
set_option maxRecDepth 100000

set_option maxHeartbeats 1000000 in
theorem pdq_dev (base n cap g B : Nat) (lim : Int) (sp : List Value) (L0 : List Wt) (w : World) (h : Srt base w w g B sp L0) (hn : L0.length = n) (h1 : 1 ≤ n) (h8 : n ≤ 8) (hf : WrFine L0) :
    Calls Try.prog 28 #[.slice (some ⟨g, 0, none⟩) n cap, .int .i64 0, .int .i64 n, .int .i64 lim, .func (.func 24) #[] #[.pointer (some ⟨B, 0, none⟩)]] w fun e w' => e = .returned (.tuple #[]) ∧ Srt base w w' g B sp (insOut (n - 1) L0) := by
  have HI := Lib.hid (insertion_dev base n cap g B sp L0 w h hn h1 (by omega) hf)
  have e31 : ∀ args w, (callFunc 31 args).run Try.prog w = .ok (.enter 31 args) w := enters_of Try.func31 (by kernel_rfl) rfl
  have hw0 : IntKind.i64.wrap (n : Int) = (n : Int) := by rw [IntKind.wrap_i64]; omega
  have h12 : (n : Int) ≤ 12 := by omega
  clear h hf hn
  go_enter Try.func28, Try.ntmps28
  go_wp2
  refine wp_loop_rounds 1 ?_
  rw [rounds_succ]
  go_wp2_with (go_at_fn 31; refine HI.out.mono ?_; rintro e w' ⟨rfl, hs⟩)
  (try simp only [Exit.inBlock, Exit.then]); refine bodyPost_ret (results_none rfl _ _ _) rfl ?_
  exact ⟨rfl, hs⟩
set_option maxHeartbeats 1000000 in
theorem sortF_dev (base n cap g B : Nat) (sp : List Value) (L0 : List Wt) (w : World) (h : Srt base w w g B sp L0) (hn : L0.length = n) (h1 : 1 ≤ n) (h8 : n ≤ 8) (hf : WrFine L0) :
    Calls Try.prog 23 #[.slice (some ⟨g, 0, none⟩) n cap, .func (.func 24) #[] #[.pointer (some ⟨B, 0, none⟩)]] w fun e w' => e = .returned (.tuple #[]) ∧ Srt base w w' g B sp (insOut (n - 1) L0) := by
  have HP := Lib.hid (fun lim => pdq_dev base n cap g B lim sp L0 w h hn h1 h8 hf)
  have HL := Lib.hid (fun W => len_dev n h8 W)
  have e28 : ∀ args w, (callFunc 28 args).run Try.prog w = .ok (.enter 28 args) w := enters_of Try.func28 (by kernel_rfl) rfl
  have e29 : ∀ args w, (callFunc 29 args).run Try.prog w = .ok (.enter 29 args) w := enters_of Try.func29 (by kernel_rfl) rfl
  have hw0 : IntKind.u64.wrap (n : Int) = (n : Int) := by rw [IntKind.wrap_u64]; omega
  clear h hf hn
  go_enter Try.func23, Try.ntmps23
  go_wp2_with (first
    | (go_at_fn 29; refine (HL.out _).mono ?_; rintro e w' ⟨⟨l, rfl⟩, rfl⟩)
    | (go_at_fn 28; refine (HP.out _).mono ?_; rintro e w' ⟨rfl, hs⟩))
  go_end0
  exact ⟨rfl, hs⟩
end Go.Proofs.Ytipgphdndleodaa
