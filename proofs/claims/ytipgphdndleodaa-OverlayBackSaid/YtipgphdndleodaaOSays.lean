/-
  What the calls of overlay answer (contracts, over which the laws are proved).
-/
import Derived.Test.YtipgphdndleodaaOv
import Derived.Test.YtipgphdndleodaaRefLess
import Derived.Test.YtipgphdndleodaaWrEq
namespace Go.Proofs.Ytipgphdndleodaa
set_option maxRecDepth 100000
open Go.RowKit
set_option maxRecDepth 100000

/-- a list of writes lies at A -/
structure WsAt (w : World) (A : Option Addr) (c : Nat) (l : List Wt) : Prop where
  at_ : WrsV w (fun _ => True) A c l
  fine : WrFine l
  few : l.length ≤ 100
def WtFine (y : Wt) : Prop := I64 y.1 ∧ y.2.length = 8 ∧ ∀ z ∈ y.2, z < 256
section
variable {w w' : World} {A : Option Addr} {c : Nat} {l : List Wt} {y : Wt}
theorem WsAt.below (h : WsAt w A c l) (hb : Below w.heap.size w w') : WsAt w' A c l := ⟨h.at_.below hb, h.fine, h.few⟩
theorem ins_fine (hy : WtFine y) : ∀ {l : List Wt}, WrFine l → WrFine (insW y l) := by
  intro l
  induction l with
  | nil => intro _ x hx; rw [insW] at hx; rw [List.mem_singleton.1 hx]; exact hy
  | cons x l ih =>
    intro h
    have h1 := h x List.mem_cons_self
    have h2 : WrFine l := fun z hz => h z (List.mem_cons_of_mem _ hz)
    unfold insW
    by_cases a1 : x.1 < y.1
    · rw [if_pos a1]
      intro z hz
      rcases List.mem_cons.1 hz with rfl | hz
      · exact h1
      · exact ih h2 z hz
    · rw [if_neg a1]
      by_cases a2 : x.1 = y.1
      · rw [if_pos a2]
        intro z hz
        rcases List.mem_cons.1 hz with rfl | hz
        · exact hy
        · exact h2 z hz
      · rw [if_neg a2]
        intro z hz
        rcases List.mem_cons.1 hz with rfl | hz
        · exact hy
        · exact h z hz
theorem put_fine (hl : WrFine l) (hy : WtFine y) : WrFine (putW l y) := by
  unfold putW
  split
  · exact ins_fine hy hl
  · exact fun x hx => (List.not_mem_nil hx).elim
theorem put_few : (putW l y).length ≤ 8 := by
  unfold putW
  split
  · rename_i h; exact (put_ok h).2
  · simp
theorem fold_fine {b : List Wt} : ∀ {a : List Wt}, WrFine a → WrFine b → WrFine (foldE a b).2 := by
  induction b with
  | nil => intro a ha _; exact ha
  | cons x b ih =>
    intro a ha hb
    have h1 : WtFine x := hb x List.mem_cons_self
    have h2 : WrFine b := fun z hz => hb z (List.mem_cons_of_mem _ hz)
    unfold foldE
    split
    · exact ih (ins_fine h1 ha) h2
    · exact fun x hx => (List.not_mem_nil hx).elim
theorem over_fine {a b : List Wt} (ha : WrFine a) (hb : WrFine b) : WrFine (overW a b) := by
  unfold overW
  split
  · exact fold_fine ha hb
  · exact fun x hx => (List.not_mem_nil hx).elim
end
/-- blocks as cells -/
def hv (h : Int → List Nat) : List Value := (List.range 32).flatMap fun (k : Nat) => vals (h (k : Int))
def HFine (h : Int → List Nat) : Prop := ∀ k : Int, 0 ≤ k → k < 32 → (h k).length = 8 ∧ ∀ z ∈ h k, z < 256
theorem hv_congr {h g : Int → List Nat} (e : ∀ k, h k = g k) : hv h = hv g := by rw [funext e]
theorem on_fine {h : Int → List Nat} (hh : HFine h) : ∀ {l : List Wt}, WrFine l → HFine (onW h l) := by
  intro l
  induction l generalizing h with
  | nil => intro _; exact hh
  | cons x l ih =>
    intro hl
    rw [on_cons]
    refine ih (fun k h0 h1 => ?_) (fun z hz => hl z (List.mem_cons_of_mem _ hz))
    by_cases hk : k = x.1
    · simp only [if_pos hk]; exact (hl x List.mem_cons_self).2
    · simp only [if_neg hk]; exact hh k h0 h1
def PutSays : Prop := ∀ (l : List Wt) (y : Wt) (A : Option Addr) (c : Nat) (w : World), WsAt w A c l → WtFine y →
  Calls Try.prog 7 #[.slice A l.length c, .agg (wrv y).toArray] w fun e w' => ∃ A' c', e = .returned (.tuple #[.slice A' (putW l y).length c', .int .i64 (putE l y)]) ∧ WrsV w' (fun b => w.heap.size ≤ b) A' c' (putW l y) ∧ Below w.heap.size w w'
def GetSays : Prop := ∀ (l : List Wt) (k : Int) (A : Option Addr) (c : Nat) (w : World), WsAt w A c l → I64 k →
  Calls Try.prog 8 #[.slice A l.length c, .int .i64 k] w fun e w' => ∃ v : List Nat, e = .returned (.tuple #[.agg (vals v).toArray, .bool (getW l k).isSome]) ∧ (v.length = 8 ∧ ∀ z ∈ v, z < 256) ∧ (∀ u, getW l k = some u → v = u) ∧ Below w.heap.size w w'
def OnSays : Prop := ∀ (h : Int → List Nat) (l : List Wt) (A : Option Addr) (c : Nat) (w : World), WsAt w A c l → HFine h →
  Calls Try.prog 10 #[.agg (hv h).toArray, .slice A l.length c] w fun e w' => e = .returned (.agg (hv (onW h l)).toArray) ∧ Below w.heap.size w w'
def OverSays : Prop := ∀ (a b : List Wt) (A B : Option Addr) (c d : Nat) (w : World), WsAt w A c a → WsAt w B d b →
  Calls Try.prog 9 #[.slice A a.length c, .slice B b.length d] w fun e w' => ∃ A' c', e = .returned (.tuple #[.slice A' (overW a b).length c', .int .i64 (overE a b)]) ∧ WrsV w' (fun b => w.heap.size ≤ b) A' c' (overW a b) ∧ Below w.heap.size w w'
def SameSays8 : Prop := ∀ (a b : List Wt) (A B : Option Addr) (c d : Nat) (w : World), WsAt w A c a → WsAt w B d b →
  Calls Try.prog 12 #[.slice A a.length c, .slice B b.length d] w fun e w' => e = .returned (.bool (decide (a = b))) ∧ Below w.heap.size w w'
structure Calls8 : Prop where
  put : PutSays
  get : GetSays
  on : OnSays
  over : OverSays
  same : SameSays8
end Go.Proofs.Ytipgphdndleodaa
