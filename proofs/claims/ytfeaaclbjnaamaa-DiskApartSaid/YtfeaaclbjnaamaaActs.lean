/-
  Acts: rows of what a disk is asked.
-/
import Derived.Test.YtfeaaclbjnaamaaWakes
namespace Go.Proofs.Ytfeaaclbjnaamaa
open Go.RowKit Go.Maps Go.MapKept Go.ChangeMaps

/-- an act, as it lies: what to do, at which sector, which bytes (and a plan, of which only the length matters) -/
structure ActG where
  op : Int
  at_ : Int
  A : Option Addr
  bs : List Nat
  c : Nat
  PA : Option Addr
  pl : Nat
  pc : Nat
def ActG.bytes (x : ActG) : Value := .slice x.A x.bs.length x.c
def ActG.cells (x : ActG) : List Value := [.int .i64 x.op, .int .i64 x.at_, x.bytes, .slice x.PA x.pl x.pc]
def noAct : ActG := ⟨0, 0, none, [], 0, none, 0, 0⟩
/-- The slice at A holds the acts l, all they hold lies below B. -/
structure ActsAt (w : World) (B : Nat) (A : Option Addr) (l : List ActG) : Prop where
  row : 0 < l.length → ∃ b off, A = some ⟨b, off, none⟩ ∧ b < B ∧ ∀ j, j < l.length → w.cell? ⟨b, off + j * 4, none⟩ = some (.int .i64 (l.getD j noAct).op) ∧ w.cell? ⟨b, off + j * 4 + 1, none⟩ = some (.int .i64 (l.getD j noAct).at_) ∧
    w.cell? ⟨b, off + j * 4 + 2, none⟩ = some (l.getD j noAct).bytes ∧ w.cell? ⟨b, off + j * 4 + 3, none⟩ = some (.slice (l.getD j noAct).PA (l.getD j noAct).pl (l.getD j noAct).pc)
  each : ∀ x ∈ l, By w B x.A x.bs ∧ x.bs.length ≤ x.c ∧ x.c ≤ maxLen ∧ (x.A = none → x.c = 0) ∧ x.pl ≤ maxLen ∧ (-9223372036854775808 ≤ x.at_ ∧ x.at_ ≤ 9223372036854775807)
theorem ActsAt.below {w w' : World} {B B' : Nat} {A : Option Addr} {l : List ActG} (h : ActsAt w B A l) (hb : Below B' w w') (hB : B ≤ B') : ActsAt w' B A l :=
  ⟨fun hn => by
    obtain ⟨b, off, e, hlt, hc⟩ := h.row hn
    exact ⟨b, off, e, hlt, fun j hj => ⟨(hb.cell (by simp; omega)).trans (hc j hj).1, (hb.cell (by simp; omega)).trans (hc j hj).2.1, (hb.cell (by simp; omega)).trans (hc j hj).2.2.1, (hb.cell (by simp; omega)).trans (hc j hj).2.2.2⟩⟩,
    fun x hx => ⟨(h.each x hx).1.below hb hB, (h.each x hx).2⟩⟩
theorem getD_mem {l : List ActG} {j : Nat} (h : j < l.length) : l.getD j noAct ∈ l := by simp [List.getD, h]
/-- acts that the statements go through -/
def Small (l : List ActG) : Prop := l.length ≤ 200 ∧ ∀ x ∈ l, x.bs.length ≤ 200

/-- what great says of acts -/
def SaysGreat (l : List ActG) (e : Ending) : Prop := ∃ g : Bool, e = .returned (.bool g) ∧ (g = false → Small l)
set_option maxHeartbeats 1000000 in
theorem great_any (l : List ActG) (A : Option Addr) (cap : Nat) (w : World) (hA : ActsAt w w.heap.size A l) (hl : l.length ≤ maxLen) :
    Calls Try.prog 6 #[.slice A l.length cap] w fun e w' => SaysGreat l e ∧ w = w' := by
  unfold maxLen at hl
  have HA := Lib.hid hA
  clear hA
  go_enter Try.func6, Try.ntmps6
  go_wp2
  go_loopw [6] (fun i wr => ∃ k : Nat, k ≤ l.length ∧ i = .int .i64 (k : Int) ∧ k ≤ 200 ∧ (∀ j, j < k → (l.getD j noAct).bs.length ≤ 200) ∧ w = wr) (fun i _ => l.length - (intOf i).toNat)
  case atStart => exact ⟨0, by omega, rfl, by omega, fun j hj => by omega, rfl⟩
  case round =>
    obtain ⟨k, hk, rfl, hk2, hs, rfl⟩ := hrel
    have HS := Lib.hid hs
    clear hs
    by_cases hlt : k < l.length
    · obtain ⟨b, off, rfl, _, hc⟩ := HA.out.row (by omega)
      obtain ⟨_, _, h2, h3⟩ := hc k hlt
      have hcap := HA.out.each _ (getD_mem hlt)
      obtain ⟨x, hx⟩ : ∃ x, x = l.getD k noAct := ⟨_, rfl⟩
      rw [← hx] at h2 h3 hcap
      have HX := Lib.hid hx
      unfold ActG.bytes at h2
      obtain ⟨_, hc1, hc2, _, hc3, _⟩ := hcap
      unfold maxLen at hc2 hc3
      clear hc hx
      have hki : (k : Int) < l.length := by omega
      by_cases h200 : (k : Int) ≥ 200
      · go_wp2
        go_ret
        exact ⟨⟨true, rfl, fun e => (by cases e)⟩, rfl⟩
      by_cases hb200 : (x.bs.length : Int) > 200
      · go_wp2
        go_ret
        exact ⟨⟨true, rfl, fun e => (by cases e)⟩, rfl⟩
      by_cases hp100 : (x.pl : Int) > 100
      · go_wp2
        go_ret
        exact ⟨⟨true, rfl, fun e => (by cases e)⟩, rfl⟩
      go_wp2
      go_roundw
      case rel => exact ⟨k + 1, by omega, by simp, by omega, fun j hj => by
        by_cases e : j = k
        · subst e; rw [← HX.out]; omega
        · exact HS.out j (by omega), trivial⟩
      case measure => simp [intOf]; omega
    · obtain rfl : k = l.length := by omega
      go_wp2
      go_ret
      exact ⟨⟨false, rfl, fun _ => ⟨hk2, fun x hx => by
        obtain ⟨j, hj, e⟩ := List.getElem_of_mem hx
        have := HS.out j hj
        simpa [List.getD, hj, e] using this⟩⟩, rfl⟩
end Go.Proofs.Ytfeaaclbjnaamaa
