/-
  The calls that read: who refuses, which sectors there are, up and down, the newest write.
-/
import Derived.Test.YtgkbhdecohlpmaaDkDisk
namespace Go.Proofs.Ytgkbhdecohlpmaa.Dk
set_option maxRecDepth 100000
open Go.RowKit Go.Maps

theorem sector_any (z : Int) (w : World) : Calls Try.prog 40 #[.int .i64 z] w fun e w' => e = .returned (.bool (decide (0 ≤ z ∧ z < 34))) ∧ w' = w := by
  by_cases h0 : z ≥ 0
  · by_cases h1 : z < 34
    · have hd : decide (0 ≤ z ∧ z < 34) = true := by simp; omega
      rw [hd]
      go_enter Try.func40, Try.ntmps40
      go_wp2
      go_ret
      exact ⟨rfl, rfl⟩
    · have hd : decide (0 ≤ z ∧ z < 34) = false := by simp; omega
      rw [hd]
      go_enter Try.func40, Try.ntmps40
      go_wp2
      go_ret
      exact ⟨rfl, rfl⟩
  · have hd : decide (0 ≤ z ∧ z < 34) = false := by simp; omega
    rw [hd]
    go_enter Try.func40, Try.ntmps40
    go_wp2
    go_ret
    exact ⟨rfl, rfl⟩

theorem refuses_nil (w : World) : Calls Try.prog 33 #[.pointer none] w fun e w' => e = .returned (.int .i64 1) ∧ w' = w := by
  go_enter Try.func33, Try.ntmps33
  go_wp2
  go_ret
  exact ⟨rfl, rfl⟩
theorem refuses_any {w : World} {S : Nat → Prop} {a : Nat} {d : Dk} (h : Disk w S a d) : Calls Try.prog 33 #[.pointer (some ⟨a, 0, none⟩)] w fun e w' => e = .returned (.int .i64 (if d.down then 30 else 0)) ∧ w' = w := by
  obtain ⟨m, _, _, hc, _, _⟩ := h.cells
  clear h
  cases hd : d.down with
  | true =>
    rw [hd] at hc
    go_enter Try.func33, Try.ntmps33
    go_wp2
    go_ret
    exact ⟨rfl, rfl⟩
  | false =>
    rw [hd] at hc
    go_enter Try.func33, Try.ntmps33
    go_wp2
    go_ret
    exact ⟨rfl, rfl⟩

theorem up_nil (w : World) : Calls Try.prog 17 #[.pointer none] w fun e w' => e = .returned (.int .i64 1) ∧ w' = w := by
  go_enter Try.func17, Try.ntmps17
  go_wp2
  go_ret
  exact ⟨rfl, rfl⟩
/-- Behind a call of a method: the disk is d', nothing has turned but its own blocks; what it has beside those is new. -/
def Goes (w w' : World) (S : Nat → Prop) (a : Nat) (d' : Dk) : Prop := ∃ S', Disk w' S' a d' ∧ Kept S w w' ∧ ∀ k, S' k → S k ∨ w.heap.size ≤ k
theorem Goes.same {w w' : World} {S : Nat → Prop} {a : Nat} {d : Dk} (h : Disk w S a d) (hb : Below w.heap.size w w') : Goes w w' S a d :=
  ⟨S, h.below hb (Nat.le_refl _), Kept.of_below hb (Nat.le_refl _), fun _ hk => Or.inl hk⟩

theorem up_any {w : World} {S : Nat → Prop} {a : Nat} {d : Dk} (h : Disk w S a d) : Calls Try.prog 17 #[.pointer (some ⟨a, 0, none⟩)] w fun e w' =>
    e = .returned (.int .i64 (if d.down then 0 else 2)) ∧ Goes w w' S a { d with down := false } := by
  obtain ⟨m, hb, _, hc, hf, hm⟩ := h.cells
  have hf1 := hf 2177
  cases hd : d.down with
  | false =>
    have H := Lib.hid (show Goes w w S a { d with down := false } by have := Goes.same h (Below.refl _ w); rwa [show { d with down := false } = d by rw [← hd]])
    clear h hm hb
    rw [hd] at hc
    go_enter Try.func17, Try.ntmps17
    go_wp2
    go_ret
    exact ⟨rfl, H.out⟩
  | true =>
    have H := Lib.hid (show Goes w (w.setCell ⟨a, 2177, none⟩ (.bool false)) S a { d with down := false } by
      have hg := grown_setCell w a 2177 (.bool false)
      refine ⟨S, ⟨h.mine, fun k hk => Nat.lt_of_lt_of_le (h.old k hk) hg.size, h.secs, h.puts, m, ?_, cache_keep hb h.old hm hg⟩, (Kept.refl S w).grown hg (fun k e _ => by cases e; exact h.mine), fun _ hk => Or.inl hk⟩
      rw [heap_setCell_same w a 2177 _ _ _ hb, rowD_setDown h.secs])
    clear h hm hb
    rw [hd] at hc
    go_enter Try.func17, Try.ntmps17
    go_wp2
    go_ret
    exact ⟨rfl, H.out⟩
end Go.Proofs.Ytgkbhdecohlpmaa.Dk
