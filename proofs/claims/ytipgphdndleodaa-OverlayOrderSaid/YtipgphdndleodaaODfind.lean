/-
  The developers' answers: the place of a block's first write (slices.IndexFunc).
-/
import Derived.Test.YtipgphdndleodaaODchk
import Derived.Shelf.Abstract
namespace Go.Proofs.Ytipgphdndleodaa
set_option maxRecDepth 100000
open Go.RowKit
set_option maxRecDepth 100000

theorem eightD {vs : List Nat} (h : vs.length = 8) : ∃ a b c d e f g i, vs = [a, b, c, d, e, f, g, i] := by
  match vs, h with
  | [a, b, c, d, e, f, g, i], _ => exact ⟨a, b, c, d, e, f, g, i, rfl⟩
theorem isBlock_dev (k : Int) (w : World) : Calls Try.prog 14 #[.int .i64 k] w fun e w' => e = .returned (.bool (blockB k)) ∧ w' = w := by
  obtain ⟨E, hE⟩ : ∃ E, E = blockB k := ⟨_, rfl⟩
  rw [← hE]
  unfold blockB at hE
  by_cases h0 : 0 ≤ k
  · by_cases h1 : k < 32
    · have HE := Lib.hid (show E = true by rw [hE]; exact decide_eq_true ⟨h0, by omega⟩)
      clear hE
      go_enter Try.func14, Try.ntmps14
      go_wp2
      go_ret
      exact ⟨by rw [HE.out]; rfl, rfl⟩
    · have HE := Lib.hid (show E = false by rw [hE]; exact decide_eq_false (by omega))
      clear hE
      go_enter Try.func14, Try.ntmps14
      go_wp2
      go_ret
      exact ⟨by rw [HE.out]; rfl, rfl⟩
  · have HE := Lib.hid (show E = false by rw [hE]; exact decide_eq_false (by omega))
    clear hE
    go_enter Try.func14, Try.ntmps14
    go_wp2
    go_ret
    exact ⟨by rw [HE.out]; rfl, rfl⟩
theorem blockOf_dev (x : Wt) (hx : x.2.length = 8) (w : World) : Calls Try.prog 17 #[.agg (wrv x).toArray] w fun e w' => e = .returned (.int .i64 x.1) ∧ Below w.heap.size w w' := by
  obtain ⟨q, v⟩ := x
  obtain ⟨y0, y1, y2, y3, y4, y5, y6, y7, rfl⟩ := eightD hx
  obtain ⟨w1, hw1⟩ : ∃ w1, w1 = w.alloc (.cells #[.int .i64 q, .int .u8 (y0 : Int), .int .u8 (y1 : Int), .int .u8 (y2 : Int), .int .u8 (y3 : Int), .int .u8 (y4 : Int), .int .u8 (y5 : Int), .int .u8 (y6 : Int), .int .u8 (y7 : Int)] 27) := ⟨_, rfl⟩
  have HB := Lib.hid (show Below w.heap.size w w1 by rw [hw1]; exact (Below.refl _ w).alloc (Nat.le_refl _) _)
  have hg : w1.heap[w.heap.size]? = some (.cells #[.int .i64 q, .int .u8 (y0 : Int), .int .u8 (y1 : Int), .int .u8 (y2 : Int), .int .u8 (y3 : Int), .int .u8 (y4 : Int), .int .u8 (y5 : Int), .int .u8 (y6 : Int), .int .u8 (y7 : Int)] 27 (0, 0)) := by rw [hw1]; exact heap_alloc_new w _
  have c0 : w1.cell? ⟨w.heap.size, 0, none⟩ = some (.int .i64 q) := by rw [cell_of_row w1 _ 0 _ _ _ hg]; rfl
  have HW1 := Lib.hid hw1
  clear hw1 hg
  show Calls _ _ #[.agg #[.int .i64 q, .int .u8 (y0 : Int), .int .u8 (y1 : Int), .int .u8 (y2 : Int), .int .u8 (y3 : Int), .int .u8 (y4 : Int), .int .u8 (y5 : Int), .int .u8 (y6 : Int), .int .u8 (y7 : Int)]] _ _
  go_enter Try.func17, Try.ntmps17
  go_wp2_with (rw [← HW1.out])
  go_ret
  exact ⟨rfl, HB.out⟩
/-- find's test -/
theorem find1_dev (x : Wt) (hx : x.2.length = 8) (k : Int) (B : Nat) (w : World) (hB : B < w.heap.size) (hc : w.cell? ⟨B, 0, none⟩ = some (.int .i64 k)) : Calls Try.prog 27 #[.agg (wrv x).toArray, .pointer (some ⟨B, 0, none⟩)] w fun e w' => e = .returned (.bool (x.1 == k)) ∧ Below w.heap.size w w' := by
  obtain ⟨q, v⟩ := x
  obtain ⟨y0, y1, y2, y3, y4, y5, y6, y7, rfl⟩ := eightD hx
  obtain ⟨w1, hw1⟩ : ∃ w1, w1 = w.alloc (.cells #[.int .i64 q, .int .u8 (y0 : Int), .int .u8 (y1 : Int), .int .u8 (y2 : Int), .int .u8 (y3 : Int), .int .u8 (y4 : Int), .int .u8 (y5 : Int), .int .u8 (y6 : Int), .int .u8 (y7 : Int)] 27) := ⟨_, rfl⟩
  have hb1 : Below w.heap.size w w1 := by rw [hw1]; exact (Below.refl _ w).alloc (Nat.le_refl _) _
  have HB := Lib.hid hb1
  have hg : w1.heap[w.heap.size]? = some (.cells #[.int .i64 q, .int .u8 (y0 : Int), .int .u8 (y1 : Int), .int .u8 (y2 : Int), .int .u8 (y3 : Int), .int .u8 (y4 : Int), .int .u8 (y5 : Int), .int .u8 (y6 : Int), .int .u8 (y7 : Int)] 27 (0, 0)) := by rw [hw1]; exact heap_alloc_new w _
  have c0 : w1.cell? ⟨w.heap.size, 0, none⟩ = some (.int .i64 q) := by rw [cell_of_row w1 _ 0 _ _ _ hg]; rfl
  have c1 : w1.cell? ⟨B, 0, none⟩ = some (.int .i64 k) := (hb1.cell hB).trans hc
  have HW1 := Lib.hid hw1
  obtain ⟨E, hE⟩ : ∃ E, E = (q == k) := ⟨_, rfl⟩
  show Calls _ _ #[.agg #[.int .i64 q, .int .u8 (y0 : Int), .int .u8 (y1 : Int), .int .u8 (y2 : Int), .int .u8 (y3 : Int), .int .u8 (y4 : Int), .int .u8 (y5 : Int), .int .u8 (y6 : Int), .int .u8 (y7 : Int)], _] _ fun e w' => e = .returned (.bool (q == k)) ∧ _
  rw [← hE]
  clear hw1 hg hc hb1
  by_cases h0 : q = k
  · subst h0
    have HE := Lib.hid (show E = true by rw [hE]; simp)
    have hq : (q == q) = true := by simp
    clear hE
    go_enter Try.func27, Try.ntmps27
    go_wp2_with (rw [← HW1.out])
    go_ret
    exact ⟨by rw [HE.out]; rfl, HB.out⟩
  · have HE := Lib.hid (show E = false by rw [hE]; simp [h0])
    have hq : (q == k) = false := by simp [h0]
    clear hE
    go_enter Try.func27, Try.ntmps27
    go_wp2_with (rw [← HW1.out])
    go_ret
    exact ⟨by rw [HE.out]; rfl, HB.out⟩
/-- the place of the first write of k (the row's length, if there is none) -/
def plc (l : List Wt) (k : Int) : Nat := l.findIdx (fun x => x.1 == k)
def plcI (l : List Wt) (k : Int) : Int := if plc l k < l.length then (plc l k : Int) else -1
theorem plc_hit {l : List Wt} {k : Int} {i : Nat} (hi : i < l.length) (h : l[i].1 = k) (hn : ∀ j (hj : j < i), (l[j]'(by omega)).1 ≠ k) : plcI l k = (i : Int) := by
  have e : plc l k = i := by
    unfold plc
    rw [List.findIdx_eq hi]
    exact ⟨by simp [h], fun j hj => by simpa using hn j hj⟩
  unfold plcI
  rw [e, if_pos hi]
theorem plc_miss {l : List Wt} {k : Int} (hn : ∀ j (hj : j < l.length), l[j].1 ≠ k) : plcI l k = -1 := by
  unfold plcI
  rw [if_neg]
  unfold plc
  rw [List.findIdx_lt_length]
  rintro ⟨x, hx, he⟩
  obtain ⟨j, hj, rfl⟩ := List.mem_iff_getElem.1 hx
  exact hn j hj (by simpa using he)
set_option maxHeartbeats 2000000 in
theorem index_dev (l : List Wt) (k : Int) (A : Option Addr) (c B : Nat) (w : World) (h : WsAt w A c l) (hB : B < w.heap.size) (hc : w.cell? ⟨B, 0, none⟩ = some (.int .i64 k)) :
    Calls Try.prog 26 #[.slice A l.length c, .func (.func 27) #[] #[.pointer (some ⟨B, 0, none⟩)]] w fun e w' => e = .returned (.int .i64 (plcI l k)) ∧ Below w.heap.size w w' := by
  obtain ⟨n, hn⟩ : ∃ n, n = l.length := ⟨_, rfl⟩
  have hl := h.few
  rw [← hn] at hl ⊢
  have HN := Lib.hid hn
  have HW := Lib.hid h.at_.at_
  have HF := Lib.hid h.fine
  have HC := Lib.hid (show ∀ W, Below w.heap.size w W → ∀ x : Wt, x.2.length = 8 → Calls Try.prog 27 #[.agg (wrv x).toArray, .pointer (some ⟨B, 0, none⟩)] W fun e w' => e = .returned (.bool (x.1 == k)) ∧ Below W.heap.size W w' from fun W hW x hx => find1_dev x hx k B W (by have := hW.size; omega) ((hW.cell hB).trans hc))
  have eg : ∀ args w, (callFunc 27 args).run Try.prog w = .ok (.enter 27 args) w := enters_of Try.func27 (by kernel_rfl) rfl
  clear hn h hc
  go_enter Try.func26, Try.ntmps26
  go_wp2
  go_loopw [5, 8] (fun _ i wr => ∃ j : Nat, j ≤ n ∧ i = .int .i64 (j : Int) ∧ (∀ t (ht : t < j) (hl : t < l.length), l[t].1 ≠ k) ∧ Below w.heap.size w wr) (fun _ i _ => n - (intOf i).toNat)
  case atStart => exact ⟨0, Nat.zero_le _, rfl, fun t ht => absurd ht (Nat.not_lt_zero _), Below.refl _ _⟩
  case round =>
    obtain ⟨j, hj, rfl, hno, hb⟩ := hrel
    have HBr := Lib.hid hb
    have HNo := Lib.hid hno
    clear hno
    by_cases hlt : j < n
    · have hjl : j < l.length := by rw [← HN.out]; exact hlt
      obtain ⟨b, off, rfl, ⟨_, hbl⟩, hcs⟩ := HW.out (by omega)
      have hx8 := (HF.out l[j] (List.getElem_mem hjl)).2.1
      have HI := Lib.hid (write_infos hx8)
      have HCs := Lib.hid (show ∀ j' u, (wrv l[j])[j']? = some u → wr.cell? ⟨b, off + j * 9 + j', none⟩ = some u from fun j' u hu => (World.cell?_of_block (w := w) (hb.block b hbl)).trans (hcs j hjl j' u hu))
      have HCall := Lib.hid (HC.out wr hb l[j] hx8)
      have HX := Lib.hid (show l[j].1 = k → plcI l k = (j : Int) from fun e => plc_hit hjl e fun t ht => HNo.out t ht (by omega))
      have HY := Lib.hid (show l[j].1 ≠ k → ∀ t (ht : t < j + 1) (hl : t < l.length), l[t].1 ≠ k from fun e t ht hl => by
        rcases Nat.lt_or_ge t j with h1 | h1
        · exact HNo.out t h1 hl
        · obtain rfl : t = j := by omega
          exact e)
      have hki : (j : Int) < (n : Int) := by omega
      have hw : IntKind.i64.wrap ((j : Int) + 1) = (j : Int) + 1 := by rw [IntKind.wrap_i64]; omega
      clear hb hcs hx8
      generalize l[j] = x at *
      by_cases hxk : x.1 = k
      · have hcall := HCall.out
        rw [show (x.1 == k) = true by simp [hxk]] at hcall
        have HCall := Lib.hid hcall
        have HR := Lib.hid (HX.out hxk)
        clear hxk hcall
        go_wp2_with (first
          | (refine wpList_load_part rfl 27 _ rfl b (off + j * 9) rfl (wrv x) _ HCs.out Try.underlying27 rfl HI.out ?_)
          | (go_at_fn 27; refine HCall.out.mono ?_; rintro e w2 ⟨rfl, hb2⟩))
        go_ret
        exact ⟨by rw [HR.out]; rfl, HBr.out.trans (hb2.mono HBr.out.size)⟩
      · have hcall := HCall.out
        rw [show (x.1 == k) = false by simp [hxk]] at hcall
        have HCall := Lib.hid hcall
        have HR := Lib.hid (HY.out hxk)
        clear hxk hcall
        go_wp2_with (first
          | (refine wpList_load_part rfl 27 _ rfl b (off + j * 9) rfl (wrv x) _ HCs.out Try.underlying27 rfl HI.out ?_)
          | (go_at_fn 27; refine HCall.out.mono ?_; rintro e w2 ⟨rfl, hb2⟩))
        go_roundw
        case rel => exact ⟨j + 1, by omega, by simp, HR.out, HBr.out.trans (hb2.mono HBr.out.size)⟩
        case measure => simp [intOf]; omega
    · obtain rfl : j = n := by omega
      have HR := Lib.hid (show plcI l k = -1 from plc_miss fun t ht => HNo.out t (by rw [HN.out]; exact ht) ht)
      have hki : ¬ (j : Int) < (j : Int) := by omega
      clear hb
      go_wp2
      go_ret
      exact ⟨by rw [HR.out]; rfl, HBr.out⟩
end Go.Proofs.Ytipgphdndleodaa
