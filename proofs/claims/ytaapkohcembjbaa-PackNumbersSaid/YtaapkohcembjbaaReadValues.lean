/-
  ReadValues, by contract.
-/
import Derived.Test.YtaapkohcembjbaaValues
namespace Go.Proofs.Ytaapkohcembjbaa
open Go.RowKit

/-- What the call made: a row of n blocks of its own that holds the bytes bs; nothing below has turned. -/
def NewV (w w' : World) (n : Nat) (bs : List Nat) (v : Value) : Prop := w'.ownsRow w.heap.size 36 8 v n (vals bs) ∧ Below w.heap.size w w'

set_option maxHeartbeats 400000 in
theorem read_no (m : Nat) (h : ¬ m % 8 = 0) (A : Option Addr) (c : Nat) (w : World) (hm : m ≤ 1000000000) :
    Calls Try.prog 14 #[.slice A m c] w fun e w' => e = .returned (.tuple #[.slice none 0 0, .int .i64 40]) ∧ w = w' := by
  go_enter Try.func14, Try.ntmps14
  go_wp2_with fail
  go_ret2
  exact ⟨rfl, rfl⟩
theorem made_row {w : World} {base g n : Nat} {xs : List Value} (h : w.ownsRow base 36 8 (.slice (some ⟨g, 0, none⟩) n n) n xs) : ∃ Z : List Value, w.heap[g]? = some (.cells Z.toArray 36 (0, 0)) ∧ Z.length = n * 8 := by
  rcases h.2 with ⟨e, _⟩ | ⟨g', cap, cur, e, _, hh, _, _, hs, _⟩
  · cases e
  · cases e
    exact ⟨cur.toList, by simpa using hh, by simpa using hs⟩
theorem NewV.of_row {w w' : World} {bs : List Nat} {g n : Nat} (hn : bs.length = 8 * n) (hg : w'.heap[g]? = some (.cells (vals bs).toArray 36 (0, 0))) (hge : w.heap.size ≤ g) (hb : Below w.heap.size w w') (hl : n ≤ maxLen) :
    NewV w w' n bs (.slice (some ⟨g, 0, none⟩) n n) :=
  ⟨⟨by rw [vals_length]; omega, Or.inr ⟨g, n, _, rfl, hge, hg, Nat.le_refl _, hl, by simp [vals_length]; omega, by rw [List.take_of_length_le (by simp [vals_length]; omega)]⟩⟩, hb⟩

set_option maxHeartbeats 1000000 in
theorem read_yes (bs : List Nat) (n : Nat) (hn : bs.length = 8 * n) (A : Option Addr) (c : Nat) (w : World) (hA : By w w.heap.size A bs) (hc : bs.length ≤ c) (hl : n ≤ 1000000) :
    Calls Try.prog 14 #[.slice A bs.length c] w fun e w' => ∃ v, e = .returned (.tuple #[v, .int .i64 0]) ∧ NewV w w' n bs v := by
  have HA := Lib.hid hA
  have HN := Lib.hid hn
  rw [hn] at hc ⊢
  obtain ⟨i0, hi, hz0, hz1, hz2⟩ := info_parts Try.info36
  have HB0 : Hid (i0.bytes * n ≤ 281474976710656) := by show _ ≤ _; rw [hz2]; omega
  clear hA
  go_enter Try.func14, Try.ntmps14
  go_wp2_with (first
    | (refine wpList_make_full w rfl (.tmp 12) (.tmp 12) 32 rfl w.heap.size 36 i0 _ 8 Try.underlying32 hi hz0 hz1 .i64 .i64 n n n rfl rfl rfl rfl HB0.out (by unfold maxLen; omega) (Nat.le_refl _) ?_; intro w1 hown hgrow; obtain ⟨Z, h0, hZ⟩ := made_row hown; have hB := grown_below (Below.refl w.heap.size w) hgrow; clear hown hgrow))
  go_loopw [5, 16] (fun _ i wr => ∃ k : Nat, k ≤ n ∧ i = .int .i64 k ∧ wr.heap[w.heap.size]? = some (.cells ((vals bs).take (k * 8) ++ Z.drop (k * 8)).toArray 36 (0, 0)) ∧ Below w.heap.size w wr) (fun _ i _ => n - (intOf i).toNat)
  case atStart => exact ⟨0, by omega, rfl, by simpa using h0, hB⟩
  case round =>
    obtain ⟨k, hk, rfl, h0, hb⟩ := hrel
    by_cases hlt : k < n
    · obtain ⟨b, off, rfl, hbw, hcells⟩ := HA.out.at_ (by omega)
      have n1 := Lib.hid (show (((vals bs).drop (k * 8)).take 8).length = 8 by rw [List.length_take, List.length_drop, vals_length]; omega)
      have n2 := Lib.hid (show ((vals bs).take (k * 8) ++ Z.drop (k * 8)).length = 8 * n by rw [List.length_append, List.length_take, List.length_drop, vals_length]; omega)
      have HS := Lib.hid (splice_next (vals bs) Z k (by rw [vals_length]; omega))
      have H1 := Lib.hid (show ∀ v ∈ ((vals bs).drop (k * 8)).take 8, v.oneCell' = true from fun v hv => vals_one v (List.mem_of_mem_drop (List.mem_of_mem_take hv)))
      have HE := Lib.hid (show ∀ j v, (((vals bs).drop (k * 8)).take 8)[j]? = some v → wr.cell? ((⟨b, off + k * 8, none⟩ : Addr).add j) = some v from fun j v hv => by
        have hj : j < 8 := by
          have := (List.getElem?_eq_some_iff.1 hv).1
          rw [n1.out] at this; exact this
        rw [List.getElem?_take, if_pos hj, List.getElem?_drop] at hv
        obtain ⟨h1, rfl⟩ := vals_get hv
        rw [add_flat, Nat.add_assoc]
        exact (hb.cell hbw).trans (hcells _ h1))
      have HX := Lib.hid h0
      have HB := Lib.hid hb
      have hne : ¬ c = k * 8 := by omega
      have g1 : (k : Int) * 8 ≤ 8 * (n : Int) := by omega
      have g0 : (0 : Int) ≤ (k : Int) * 8 := by omega
      have g3 : IntKind.i64.wrap ((k : Int) * 8) = (k : Int) * 8 := by rw [IntKind.wrap_i64]; omega
      have g4 : ((k : Int) * 8).toNat = k * 8 := by omega
      have g2 : (k : Int) < (n : Int) := by omega
      generalize ((vals bs).drop (k * 8)).take 8 = Y at *
      generalize (vals bs).take (k * 8) ++ Z.drop (k * 8) = X at *
      clear h0 hb hcells
      go_wp2_with fail
      go_region_law (refine step_copy_splice rfl (.tmp 22) (.tmp 26) 22 22 rfl 5 Try.underlying22 Try.size5 (some ⟨w.heap.size, k * 8, none⟩) (some ⟨b, off + k * 8, none⟩) 8 8 (8 * n - k * 8) (c - k * 8) (by simp [Act.eval, Act.put]) (by simp [Act.eval, Act.put]) w.heap.size (k * 8) X 36 HX.out Y (by rw [n1.out]; exact (Nat.min_eq_right (by omega)).symm) (fun _ => ⟨rfl, _, rfl, HE.out⟩) (by rw [n1.out, n2.out]; omega) H1.out w.heap.size w HB.out.drew (Nat.le_refl _) ?_; intro w4 hg4 hb4; rw [HS.out] at hg4)
      go_wp2
      go_roundw
      case rel => exact ⟨k + 1, by omega, by go_num, hg4.out, hb4⟩
      case measure => simp [intOf]; omega
    · obtain rfl : k = n := by omega
      have e : (vals bs).take (k * 8) ++ Z.drop (k * 8) = vals bs := by
        rw [List.take_of_length_le (by rw [vals_length]; omega), List.drop_of_length_le (by omega), List.append_nil]
      rw [e] at h0
      have hr := NewV.of_row hn h0 (Nat.le_refl _) hb (by unfold maxLen; omega)
      clear h0 hb
      go_wp2
      go_ret2
      exact ⟨_, rfl, hr⟩
end Go.Proofs.Ytaapkohcembjbaa
