/-
  The developers' answers: a superblock's numbers, in the order of its bytes.
-/
import Derived.Test.YtgkbhdecohlpmaaHDnum
import Derived.BigRegion
import Derived.OwnWalk
import Derived.Laws.AppendOwn
namespace Go.Proofs.Ytgkbhdecohlpmaa
set_option maxRecDepth 100000
open Go.RowKit
set_option maxRecDepth 100000

def wdN (i : Nat) : Nat := if i < 2 then 6 else if i = 2 then 1 else if i < 5 then 3 else 1
def loN (i : Nat) : Int := if i = 1 ∨ i = 4 then 1 else 0
def hiN (i : Nat) : Int := if i < 2 then 1099511627776 else if i = 2 then 255 else if i = 3 then 1048576 else if i = 4 then 1048577 else 4
/-- number i of the superblock in block g -/
def numI (g i : Nat) : List Value := [.pointer (some ⟨g, i, none⟩), .int .i64 (wdN i : Nat), .int .i64 (loN i), .int .i64 (hiN i)]
def numsI (g k : Nat) : List Value := (List.range k).flatMap (numI g)
theorem numsI_succ (g k : Nat) : numsI g (k + 1) = numsI g k ++ numI g k := by
  unfold numsI
  rw [List.range_succ, List.flatMap_append, List.flatMap_singleton]
theorem numsI_len (g k : Nat) : (numsI g k).length = k * 4 := by
  induction k with
  | zero => rfl
  | succ k ih => rw [numsI_succ, List.length_append, ih]; show _ + 4 = _; omega
theorem numsI_get (g k : Nat) : ∀ n, k < n → ∀ j u, (numI g k)[j]? = some u → (numsI g n)[k * 4 + j]? = some u := by
  intro n
  induction n with
  | zero => intro h; omega
  | succ n ih =>
    intro h j u hu
    have hj : j < 4 := (List.getElem?_eq_some_iff.1 hu).1
    rw [numsI_succ]
    by_cases e : k = n
    · subst e
      rw [List.getElem?_append_right (by rw [numsI_len]; omega), numsI_len, show k * 4 + j - k * 4 = j by omega]
      exact hu
    · rw [List.getElem?_append_left (by rw [numsI_len]; omega)]
      exact ih (by omega) j u hu
theorem numI_map (g k : Nat) : numI g (5 + k) = [.pointer (some ⟨g, 5 + k, none⟩), .int .i64 1, .int .i64 0, .int .i64 4] := by
  unfold numI wdN loN hiN
  rw [if_neg (by omega), if_neg (by omega), if_neg (by omega), if_neg (by omega), if_neg (by omega), if_neg (by omega), if_neg (by omega), if_neg (by omega)]
  rfl
theorem num_info : (Try.prog.info? 76).map (fun i => (i.zero, i.size, i.bytes)) = some (some (.agg #[.pointer none, .int .i64 0, .int .i64 0, .int .i64 0]), 4, 32) := by kernel_rfl
theorem num_one {g i : Nat} {a b c : Int} : ∀ u ∈ [Value.pointer (some ⟨g, i, none⟩), .int .i64 a, .int .i64 b, .int .i64 c], u.oneCell' = true := by
  intro u hu
  simp only [List.mem_cons, List.not_mem_nil, or_false] at hu
  rcases hu with rfl | rfl | rfl | rfl <;> rfl
set_option maxHeartbeats 2000000 in
theorem numbers_dev (g : Nat) (w : World) (hg : g < w.heap.size) :
    Calls Try.prog 28 #[.pointer (some ⟨g, 0, none⟩)] w fun e w' => ∃ v, e = .returned v ∧ w'.ownsRow w.heap.size 76 4 v 13 (numsI g 13) ∧ Below w.heap.size w w' := by
  go_enter Try.func28, Try.ntmps28
  go_wp2
  go_region
  all_goals
    go_wp2
    go_loopw [3, 26] (fun v i wr => ∃ k : Nat, k ≤ 8 ∧ i = .int .i64 (k : Int) ∧ wr.ownsRow w.heap.size 76 4 v (5 + k) (numsI g (5 + k)) ∧ Below w.heap.size w wr) (fun _ i _ => 8 - (intOf i).toNat)
    case atStart =>
      refine ⟨0, by omega, rfl, ?_, ((Below.refl _ _).alloc (Nat.le_refl _) _).drew⟩
      refine ⟨by rw [numsI_len], Or.inr ⟨w.heap.size, 5, _, rfl, Nat.le_refl _, heap_alloc_new w _, by omega, by unfold maxLen; omega, rfl, rfl⟩⟩
    case round =>
      obtain ⟨k, hk, rfl, hown, hb⟩ := hrel
      have HO := Lib.hid hown
      have HB := Lib.hid hb
      clear hown hb
      by_cases hlt : k < 8
      · have HN := Lib.hid (show numsI g (5 + (k + 1)) = numsI g (5 + k) ++ [.pointer (some ⟨g, 5 + k, none⟩), .int .i64 1, .int .i64 0, .int .i64 4] by rw [← numI_map, ← numsI_succ]; rfl)
        have hki : (k : Int) < 8 := by omega
        obtain ⟨i0, hi, hz0, hz1, hz2⟩ := info_parts num_info
        have HI := Lib.hid hi
        have HZ := Lib.hid hz0
        have HZ1 := Lib.hid hz1
        have HZ2 := Lib.hid hz2
        clear hi hz0 hz1 hz2
        have hw : IntKind.i64.wrap ((k : Int) + 1) = (k : Int) + 1 := by rw [IntKind.wrap_i64]; omega
        have HO2 := Lib.hid (HO.out.alloc (.cells #[.pointer (some ⟨g, 5 + k, none⟩), .int .i64 1, .int .i64 0, .int .i64 4] 76))
        go_wp2_with ((refine wpList_append_own _ rfl (.tmp 29) (.tmp 36) 71 rfl w.heap.size 76 i0 _ 4 32 Try.underlying71 HI.out HZ.out HZ1.out HZ2.out rfl (by decide) _ (5 + k) (numsI g (5 + k)) rfl HO2.out ⟨wr.heap.size, 0, none⟩ 1 1 [.pointer (some ⟨g, 5 + k, none⟩), .int .i64 1, .int .i64 0, .int .i64 4] rfl rfl (new_cells rfl) num_one (by unfold maxLen; omega) (by omega) (by rw [World.size_alloc]; have := HB.out.size; omega) ?_); intro v2 w2 r1 r2 _; have HR1 := Lib.hid r1; have HR2 := Lib.hid r2; clear r1 r2)
        go_roundw
        case rel =>
          refine ⟨k + 1, by omega, by simp, ?_, (HB.out.alloc HB.out.size _).grown HR2.out (by rw [World.size_alloc]; have := HB.out.size; omega) (fun q hq => (HO2.out.lt q hq).1)⟩
          rw [HN.out]
          exact HR1.out
        case measure => simp [intOf]; omega
      · obtain rfl : k = 8 := by omega
        go_wp2
        go_ret
        exact ⟨_, rfl, HO.out, HB.out⟩
end Go.Proofs.Ytgkbhdecohlpmaa
