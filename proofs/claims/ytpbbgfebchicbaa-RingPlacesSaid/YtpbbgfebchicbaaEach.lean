/-
  The numbers of a bound, one after another: the iterator's contract.
-/
import Derived.Test.YtpbbgfebchicbaaLog
import Derived.RangeFuncNested
import Derived.RangeFuncBound
import Derived.RangeFuncCalls
import Derived.RangeFuncLeaves
import Derived.Shelf.Abstract
import Derived.OwnWalkIn
import Derived.TacticsInMore
import Derived.LoopNIn
import Derived.LoopIn
namespace Go.Proofs.Ytpbbgfebchicbaa
open Go.RowKit Go.Shelf
attribute [local go_sem] Oper.semAt_some

def upto (a : Int) (k : Nat) : List Int := (List.range k).map fun (j : Nat) => a + (j : Int)
theorem upto_succ (a : Int) (k : Nat) : upto a (k + 1) = upto a k ++ [a + (k : Int)] := by simp [upto, List.range_succ]
theorem upto_length (a : Int) (k : Nat) : (upto a k).length = k := by simp [upto]

theorem many_at (a b : Int) (w : World) (h : -1000000000000000000 ≤ a ∧ a ≤ 1000000000000000000) (h' : -1000000000000000000 ≤ b ∧ b ≤ 1000000000000000000) :
    Calls Try.prog 14 #[.agg #[.int .i64 a, .int .i64 b]] w fun e w' => e = .returned (.int .i64 (b - a + 1)) ∧ w' = w.alloc (.cells #[.int .i64 a, .int .i64 b] 33) := by
  have hw : IntKind.i64.wrap (b - a) = b - a := wr64 (by omega)
  have hw' : IntKind.i64.wrap (b - a + 1) = b - a + 1 := wr64 (by omega)
  go_enter Try.func14, Try.ntmps14
  go_wp2
  go_ret
  exact ⟨rfl, rfl⟩
theorem each_at (a b : Int) (w : World) :
    Calls Try.prog 18 #[.agg #[.int .i64 a, .int .i64 b]] w fun e w' => e = .returned (.func (.func 19) #[] #[.pointer (some ⟨w.heap.size, 0, none⟩)]) ∧ w' = w.alloc (.cells #[.int .i64 a, .int .i64 b] 33) := by
  go_enter Try.func18, Try.ntmps18
  go_wp2
  go_ret
  exact ⟨rfl, rfl⟩

/-- Block B stays as it is. -/
def Stays (B : Nat) (W W' : World) : Prop := ∀ o, W.heap[B]? = some o → W'.heap[B]? = some o
theorem Stays.trans {B : Nat} {X Y Z : World} (h : Stays B X Y) (k : Stays B Y Z) : Stays B X Z := fun o ho => k o (h o ho)
theorem stays_put {B : Nat} {w : World} (h : B < w.heap.size) (W : World) (l : Nat) (o o' : Obj) (hl : w.heap.size ≤ l) (_ : W.heap[l]? = some o) (_ : o.isCells = false) (_ : o.isWalk = false) : Stays B W (W.putObj l o') :=
  fun _ ho => (World.putObj_heap_other (by omega)).trans ho
set_option maxRecDepth 100000 in
set_option maxHeartbeats 2000000 in
theorem each1_in (n : Nat) (hn : 2 ≤ n) (l Bs : Nat) (a : Int) (m : Nat) (ha : 0 ≤ a ∧ a ≤ 1099511627776000) (hm : m ≤ 1000) (J Jx : List Int → World → Prop) (W : World) (hJ : AbidesFrom W.heap.size J)
    (hY : ∀ pre x W, J pre W → pre.length < m → YieldAt Fence.wide (n - 1) Try.prog l #[.int .i64 x] W fun e W' =>
      (e = .returned (.bool true) ∧ J (pre ++ [x]) W' ∧ Stays Bs W W') ∨ (e = .returned (.bool false) ∧ Jx (pre ++ [x]) W'))
    (hb : W.heap[Bs]? = some (.cells #[.int .i64 a, .int .i64 (a + (m : Int) - 1)] 33 (0, 0))) (h0 : J [] W) :
    CallsIn Fence.wide n Try.prog 19 #[.func (.yield l) #[] #[], .pointer (some ⟨Bs, 0, none⟩)] W fun e W' => (∃ v, e = .returned v) ∧
      ((∃ ys, ys = upto a m ∧ J ys W') ∨ (∃ pre, True ∧ Jx pre W')) := by
  have HM := Lib.hid (many_at a (a + (m : Int) - 1) W (by omega) (by omega))
  have hcell : ∀ V : World, V.heap[Bs]? = some (.cells #[.int .i64 a, .int .i64 (a + (m : Int) - 1)] 33 (0, 0)) → V.cell? ⟨Bs, 0, none⟩ = some (.int .i64 a) ∧ V.cell? ⟨Bs, 1, none⟩ = some (.int .i64 (a + (m : Int) - 1)) := fun V hV =>
    ⟨cell_of_row V Bs 0 _ _ _ hV, cell_of_row V Bs 1 _ _ _ hV⟩
  obtain ⟨c0, c1⟩ := hcell W hb
  have HC := Lib.hid hcell
  have HJ := Lib.hid (hJ [] W (W.alloc (.cells #[.int .i64 a, .int .i64 (a + (m : Int) - 1)] 33)) none h0 (World.grownBy_alloc _ _ none) (fun r e => by cases e))
  have HB0 := Lib.hid ((Below.heap_alloc W (.cells #[.int .i64 a, .int .i64 (a + (m : Int) - 1)] 33) Bs (Array.getElem?_eq_some_iff.1 hb).1).trans hb)
  clear hcell h0 hJ hb
  refine callsIn_of_wp Try.func19 rfl trivial ?_ rfl
  simp only [Try.ntmps19, List.size_toArray, List.length_cons, List.length_nil, Nat.reduceAdd, Nat.reduceSub, Array.replicate_succ, Array.replicate_zero, List.push_toArray, List.append_toArray, List.nil_append, List.cons_append]
  gi_wp2_with fail
  refine ⟨trivial, fun _ => by omega, ?_⟩
  gi_at_call 14
  refine CallsIn.mono (callsIn_wide.2 HM.out) ?_
  rintro e w' ⟨rfl, rfl⟩
  rw [show a + (m : Int) - 1 - a + 1 = (m : Int) by omega]
  gi_wp2
  gi_loopw [6] (fun i wr => ∃ k : Nat, k ≤ m ∧ i = .int .i64 k ∧ J (upto a k) wr ∧ wr.heap[Bs]? = some (.cells #[.int .i64 a, .int .i64 (a + (m : Int) - 1)] 33 (0, 0)))
    (fun i _ => m - (intOf i).toNat)
  case atStart => exact ⟨0, Nat.zero_le _, rfl, HJ.out, HB0.out⟩
  case round =>
    obtain ⟨k, hk, rfl, hJs, hnx⟩ := hrel
    by_cases hlt : k < m
    · obtain ⟨d0, d1⟩ := HC.out wr hnx
      have HNX := Lib.hid hnx
      clear hnx
      have hw : IntKind.i64.wrap (a + (k : Int)) = a + (k : Int) := wr64 (by omega)
      have hw1 : IntKind.i64.wrap ((k : Int) + 1) = (k : Int) + 1 := wr64 (by omega)
      obtain ⟨fn, tmps, assign, body, hy, hR⟩ := hY _ (a + (k : Int)) wr hJs (by rw [upto_length]; exact hlt)
      gi_wp2
      refine ⟨fun _ => by omega, hR.mono ?_⟩
      rintro e W3 (⟨rfl, hJ3, hk3⟩ | ⟨rfl, hJx3⟩)
      · gi_wp2
        go_roundw
        case rel => exact ⟨k + 1, by omega, by simp, by rw [upto_succ]; exact hJ3, hk3 _ HNX.out⟩
        case measure => simp [intOf]; omega
      · gi_wp2
        refine bodyPost_ret (results_none rfl _ _ _) rfl ?_
        exact ⟨⟨_, rfl⟩, .inr ⟨_, trivial, hJx3⟩⟩
    · obtain rfl : k = m := by omega
      gi_wp2
      go_end0
      exact ⟨⟨_, rfl⟩, .inl ⟨_, rfl, hJs⟩⟩
theorem each_stops (n : Nat) (hn : 2 ≤ n) (Bs : Nat) (a : Int) (m : Nat) (ha : 0 ≤ a ∧ a ≤ 1099511627776000) (hm : m ≤ 1000) (w : World)
    (hb : w.heap[Bs]? = some (.cells #[.int .i64 a, .int .i64 (a + (m : Int) - 1)] 33 (0, 0))) :
    SeqStopsK Fence.wide n Try.prog 19 #[.pointer (some ⟨Bs, 0, none⟩)] (fun x : Int => #[Value.int .i64 x]) (Stays Bs) (fun ys => ys = upto a m) (fun _ => True) m w := fun l J Jx W hW hJ _ hY h0 =>
  each1_in n hn l Bs a m ha hm J Jx W hJ hY ((hW.block Bs (Array.getElem?_eq_some_iff.1 hb).1).trans hb) h0
end Go.Proofs.Ytpbbgfebchicbaa
