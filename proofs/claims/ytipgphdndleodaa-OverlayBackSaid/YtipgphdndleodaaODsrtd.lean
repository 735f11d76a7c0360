/-
  overlay.sorted over an overlay of the call's own with a write behind it.
-/
import Derived.Test.YtipgphdndleodaaODsort
namespace Go.Proofs.Ytipgphdndleodaa
set_option maxRecDepth 100000
open Go.RowKit
set_option maxRecDepth 100000

/-- a row of writes of the call's own -/
def Own8 (w : World) (base : Nat) (l : List Wt) (v : Value) : Prop := w.ownsRow base 27 9 v l.length (l.flatMap wrv)
theorem Own8.keep {w w' : World} {base : Nat} {l : List Wt} {v : Value} (h : Own8 w base l v) (hb : Below w.heap.size w w') : Own8 w' base l v := by
  obtain ⟨h1, h2⟩ := h
  refine ⟨h1, ?_⟩
  rcases h2 with h2 | ⟨g, cap, cur, hv, hg, hh, r⟩
  · exact Or.inl h2
  · exact Or.inr ⟨g, cap, cur, hv, hg, (hb.block g (Array.getElem?_eq_some_iff.1 hh).1).trans hh, r⟩
set_option maxHeartbeats 1000000 in
theorem sorted_dev (base : Nat) (m : List Wt) (y : Wt) (v : Value) (w : World) (h : Own8 w base (m ++ [y]) v) (hp : m.Pairwise (fun a b => a.1 < b.1)) (hy : ∀ x ∈ m, x.1 ≠ y.1) (hf : WrFine (m ++ [y])) (h8 : m.length + 1 ≤ 8) (hbase : base ≤ w.heap.size) :
    Calls Try.prog 16 #[v, .func (.func 17) #[] #[]] w fun e w' => e = .returned v ∧ Own8 w' base (insW y m) v ∧ Below base w w' := by
  have hlen : (m ++ [y]).length = m.length + 1 := by simp
  rcases h.2 with ⟨_, h0⟩ | ⟨g, cap, cur, rfl, hg, hh, hcap, hmax, hsz, htk⟩
  · rw [hlen] at h0; omega
  obtain ⟨sp, hsp⟩ : ∃ sp, sp = cur.toList.drop ((m ++ [y]).length * 9) := ⟨_, rfl⟩
  have hcur : cur = ((m ++ [y]).flatMap wrv ++ sp).toArray := by
    rw [← htk, hsp, List.take_append_drop]
  obtain ⟨w1, hw1⟩ : ∃ w1, w1 = w.alloc (.cells #[.func (.func 17) #[] #[]] 43) := ⟨_, rfl⟩
  have hb1 : Below w.heap.size w w1 := by rw [hw1]; exact (Below.refl _ w).alloc (Nat.le_refl _) _
  have hs1 : w1.heap.size = w.heap.size + 1 := by rw [hw1]; simp
  have hgl : g < w.heap.size := (Array.getElem?_eq_some_iff.1 hh).1
  have hk : KeyBox w1 w.heap.size := ⟨by omega, by
    have hgk : w1.heap[w.heap.size]? = some (.cells #[.func (.func 17) #[] #[]] 43 (0, 0)) := by rw [hw1]; exact heap_alloc_new w _
    rw [cell_of_row w1 _ 0 _ _ _ hgk]; rfl⟩
  have hs : Srt base w1 w1 g w.heap.size sp (m ++ [y]) := ⟨by rw [← hcur]; exact (hb1.block g hgl).trans hh, hk, Below.refl _ _, hg, by omega⟩
  have HSt := Lib.hid (show ∀ w', Srt base w1 w' g w.heap.size sp (insOut ((m ++ [y]).length - 1) (m ++ [y])) → Own8 w' base (insW y m) (.slice (some ⟨g, 0, none⟩) (m ++ [y]).length cap) ∧ Below base w w' from fun w' hs' => by
    have e : insOut ((m ++ [y]).length - 1) (m ++ [y]) = insW y m := by rw [hlen]; exact insOut_ins hp hy
    rw [e] at hs'
    have hl2 : (insW y m).length = (m ++ [y]).length := by rw [ins_len_no hy, hlen]
    have hfi : WrFine (insW y m) := ins_fine (hf y (by simp)) fun x hx => hf x (by simp [hx])
    have hfl : ((insW y m).flatMap wrv).length = (insW y m).length * 9 := flat_length hfi
    have hsl : sp.length = cur.size - (m ++ [y]).length * 9 := by rw [hsp, List.length_drop]; simp
    refine ⟨⟨hfl, Or.inr ⟨g, cap, _, by rw [hl2], hg, hs'.row, by rw [hl2]; exact hcap, hmax, ?_, ?_⟩⟩, (hb1.mono hbase).trans hs'.below⟩
    · have h3 : (m ++ [y]).length * 9 ≤ cap * 9 := Nat.mul_le_mul_right _ hcap
      simp only [List.size_toArray, List.length_append] at hsl ⊢
      rw [hfl, hl2, hsl, hsz]
      simp only [List.length_append] at h3 ⊢
      omega
    · rw [← hfl, List.take_left])
  have HC := Lib.hid (sortF_dev base (m ++ [y]).length cap g w.heap.size sp (m ++ [y]) w1 hs rfl (by omega) (by omega) hf)
  have eF : ∀ args w, (callFunc 23 args).run Try.prog w = .ok (.enter 23 args) w := enters_of Try.func23 (by kernel_rfl) rfl
  have HW1 := Lib.hid hw1
  clear hw1 hb1 hs1 hk hs hcur hsp hh hsz htk hf hp hy h hlen
  generalize insOut ((m ++ [y]).length - 1) (m ++ [y]) = R at *
  generalize (m ++ [y]).length = n at *
  go_enter Try.func16, Try.ntmps16
  go_wp2_with (first
    | (rw [← HW1.out])
    | (go_at_fn 23; refine HC.out.mono ?_; rintro e w' ⟨rfl, hs⟩))
  go_ret
  exact ⟨rfl, HSt.out _ hs⟩
end Go.Proofs.Ytipgphdndleodaa
