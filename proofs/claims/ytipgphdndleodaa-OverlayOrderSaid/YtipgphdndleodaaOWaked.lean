/-
  wakes of layer 8, by contract.
-/
import Derived.Test.YtipgphdndleodaaOSays
namespace Go.Proofs.Ytipgphdndleodaa
set_option maxRecDepth 100000
open Go.RowKit
set_option maxRecDepth 100000

def Y1 : Wt := (5, [1, 0, 0, 0, 0, 0, 0, 0])
def Y2 : Wt := (3, [2, 0, 0, 0, 0, 0, 0, 0])
def Y3 : Wt := (5, [3, 0, 0, 0, 0, 0, 0, 0])
def L1 : List Wt := [Y1]
def L2 : List Wt := [Y2, Y1]
def L3 : List Wt := [Y2, Y3]
theorem wake_1 : putE [] Y1 = 0 ∧ putW [] Y1 = L1 := by decide
theorem wake_2 : putE L1 Y2 = 0 ∧ putW L1 Y2 = L2 := by decide
theorem wake_3 : putE L2 Y3 = 0 ∧ putW L2 Y3 = L3 := by decide
theorem y_fine {k : Int} {b : Nat} (h : I64 k) (hb : b < 256) : WtFine (k, [b, 0, 0, 0, 0, 0, 0, 0]) := ⟨h, rfl, by
  intro z hz
  simp only [List.mem_cons, List.not_mem_nil, or_false] at hz
  omega⟩
def WakesSays8 : Prop := ∀ w, Calls Try.prog 6 #[] w fun e w' => e = .returned (.bool true) ∧ Below w.heap.size w w'
set_option maxHeartbeats 4000000 in
theorem wakes8_of (hP : PutSays) : WakesSays8 := by
  intro w
  have f1 : WtFine Y1 := y_fine (by unfold I64; omega) (by omega)
  have f2 : WtFine Y2 := y_fine (by unfold I64; omega) (by omega)
  have f3 : WtFine Y3 := y_fine (by unfold I64; omega) (by omega)
  have F1 : WrFine L1 := by rw [← wake_1.2]; exact put_fine (fun _ h => absurd h List.not_mem_nil) f1
  have F2 : WrFine L2 := by rw [← wake_2.2]; exact put_fine F1 f2
  have HP := Lib.hid hP
  have p1 := hP [] Y1 none 0 w ⟨WrsV.nil_, fun _ h => absurd h List.not_mem_nil, by simp⟩ f1
  rw [wake_1.1, wake_1.2] at p1
  have P1 := Lib.hid (show Calls Try.prog 7 #[.slice none 0 0, .agg #[.int .i64 5, .int .u8 1, .int .u8 0, .int .u8 0, .int .u8 0, .int .u8 0, .int .u8 0, .int .u8 0, .int .u8 0]] w fun e w' => ∃ A' c', e = .returned (.tuple #[.slice A' 1 c', .int .i64 0]) ∧ WrsV w' (fun b => w.heap.size ≤ b) A' c' L1 ∧ Below w.heap.size w w' from p1)
  have P2 := Lib.hid (show ∀ A c W, WrsV W (fun _ => True) A c L1 → Calls Try.prog 7 #[.slice A 1 c, .agg #[.int .i64 3, .int .u8 2, .int .u8 0, .int .u8 0, .int .u8 0, .int .u8 0, .int .u8 0, .int .u8 0, .int .u8 0]] W fun e w' => ∃ A' c', e = .returned (.tuple #[.slice A' 2 c', .int .i64 0]) ∧ WrsV w' (fun b => W.heap.size ≤ b) A' c' L2 ∧ Below W.heap.size W w' from fun A c W h => by
    have p := hP L1 Y2 A c W ⟨h, F1, by decide⟩ f2
    rw [wake_2.1, wake_2.2] at p
    exact p)
  have P3 := Lib.hid (show ∀ A c W, WrsV W (fun _ => True) A c L2 → Calls Try.prog 7 #[.slice A 2 c, .agg #[.int .i64 5, .int .u8 3, .int .u8 0, .int .u8 0, .int .u8 0, .int .u8 0, .int .u8 0, .int .u8 0, .int .u8 0]] W fun e w' => ∃ A' c', e = .returned (.tuple #[.slice A' 2 c', .int .i64 0]) ∧ WrsV w' (fun b => W.heap.size ≤ b) A' c' L3 ∧ Below W.heap.size W w' from fun A c W h => by
    have p := hP L2 Y3 A c W ⟨h, F2, by decide⟩ f3
    rw [wake_3.1, wake_3.2] at p
    exact p)
  clear hP HP p1 f1 f2 f3 F1 F2
  go_enter Try.func6, Try.ntmps6
  go_wp2_with fail
  refine P1.out.mono ?_
  rintro e w1 ⟨A1, c1, rfl, h1, hb1⟩
  have H1 := Lib.hid (h1.mono (P' := fun _ => True) fun _ _ _ => trivial)
  have HB1 := Lib.hid hb1
  clear h1 hb1
  go_wp2_with fail
  refine (P2.out A1 c1 w1 H1.out).mono ?_
  rintro e w2 ⟨A2, c2, rfl, h2, hb2⟩
  have H2 := Lib.hid (h2.mono (P' := fun _ => True) fun _ _ _ => trivial)
  have HB2 := Lib.hid (HB1.out.trans (hb2.mono HB1.out.size))
  clear h2 hb2
  go_wp2_with fail
  refine (P3.out A2 c2 w2 H2.out).mono ?_
  rintro e w3 ⟨A3, c3, rfl, h3, hb3⟩
  have HB3 := Lib.hid (HB2.out.trans (hb3.mono HB2.out.size))
  obtain ⟨b, off, rfl, _, hc⟩ := h3.at_ (by decide)
  have k0 : w3.cell? ⟨b, off, none⟩ = some (.int .i64 3) := hc 0 (by decide) 0 _ rfl
  have k1 : w3.cell? ⟨b, off + 9 + 1, none⟩ = some (.int .u8 3) := by
    have h := hc 1 (by decide) 1 (.int .u8 3) rfl
    rw [Nat.one_mul] at h
    exact h
  clear h3 hb3 hc
  go_wp2
  go_ret
  exact ⟨rfl, HB3.out⟩
end Go.Proofs.Ytipgphdndleodaa
