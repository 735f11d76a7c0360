/-
  wakes, by contract: the document's own examples.
-/
import Derived.Test.YtpbbgfebchicbaaTake
namespace Go.Proofs.Ytpbbgfebchicbaa
open Go.RowKit Go.Shelf

theorem own_cell2 {W : World} {base g cap : Nat} {e : TypeId} {xs : List Value} (h : W.ownsRow base e 1 (.slice (some ⟨g, 0, none⟩) 3 cap) 3 xs) : W.cell? ⟨g, 2, none⟩ = xs[2]? := by
  rcases h.2 with ⟨e, _⟩ | ⟨g', cap', cur, e, _, hh, hn, hc, hsz, ht⟩
  · cases e
  · cases e
    rw [cell_of_row W g 2 cur _ _ hh, ← ht]
    simp
theorem own_lt {W : World} {base g cap k n : Nat} {e : TypeId} {xs : List Value} (h : W.ownsRow base e 1 (.slice (some ⟨g, 0, none⟩) k cap) n xs) : g < W.heap.size := by
  rcases h.2 with ⟨e, _⟩ | ⟨g', cap', cur, e, _, hh, _⟩
  · cases e
  · cases e
    exact (Array.getElem?_eq_some_iff.1 hh).1
set_option maxHeartbeats 2000000 in
theorem wakes_any (w : World) :
    Calls Try.prog 7 #[] w fun e w' => e = .returned (.bool true) ∧ Below w.heap.size w w' := by
  have HT1 := Lib.hid (take_ok 1 1 3 w (by decide) (by decide) (by decide) (by decide))
  have HT2 := Lib.hid (fun W => take_full 5 28 3 W (by decide) (by decide) (by decide))
  go_enter Try.func7, Try.ntmps7
  go_wp2_with fail
  refine HT1.out.mono ?_
  rintro e w1 ⟨v, rfl, hown, hb1⟩
  obtain ⟨g, cap, rfl⟩ := ownsRow_succ hown
  have hg := own_cell2 hown
  have hgl : g < w1.heap.size := own_lt hown
  have HB1 := Lib.hid hb1
  have HG := Lib.hid hg
  clear hown hb1 hg
  go_wp2_with fail
  refine (HT2.out _).mono ?_
  rintro e w2 ⟨rfl, hb2⟩
  have hb3 : Below w1.heap.size w1 w2 := ((Below.refl _ w1).alloc (Nat.le_refl _) (.cells #[.int .i64 1, .int .i64 4] 23)).trans (hb2.mono (by simp))
  have hsz : (w1.alloc (.cells #[.int .i64 1, .int .i64 4] 23)).heap.size = w1.heap.size + 1 := by simp
  have hr : w2.heap[w1.heap.size]? = some (.cells #[.int .i64 1, .int .i64 4] 23 (0, 0)) := (hb2.block _ (by omega)).trans (heap_alloc_new w1 _)
  have HB2 := Lib.hid (HB1.out.trans ((hb3.alloc hb3.size (.cells #[.int .i64 0, .int .i64 0] 23)).mono HB1.out.size))
  have hc2 : (w2.alloc (.cells #[.int .i64 0, .int .i64 0] 23)).cell? ⟨g, 2, none⟩ = some (.int .i64 3) := ((hb3.alloc hb3.size (.cells #[.int .i64 0, .int .i64 0] 23)).cell (p := ⟨g, 2, none⟩) hgl).trans HG.out
  have hr' : (w2.alloc (.cells #[.int .i64 0, .int .i64 0] 23)).heap[w1.heap.size]? = some (.cells #[.int .i64 1, .int .i64 4] 23 (0, 0)) := (Below.heap_alloc _ _ _ (Array.getElem?_eq_some_iff.1 hr).1).trans hr
  have hc0 := cell_of_row (w2.alloc (.cells #[.int .i64 0, .int .i64 0] 23)) w1.heap.size 0 _ _ _ hr'
  have hc1 := cell_of_row (w2.alloc (.cells #[.int .i64 0, .int .i64 0] 23)) w1.heap.size 1 _ _ _ hr'
  simp only [List.getElem?_toArray, List.getElem?_cons_zero, List.getElem?_cons_succ] at hc0 hc1
  clear hr hr' hb3 hb2 hsz
  go_wp2
  go_ret
  exact ⟨rfl, HB2.out⟩
end Go.Proofs.Ytpbbgfebchicbaa
