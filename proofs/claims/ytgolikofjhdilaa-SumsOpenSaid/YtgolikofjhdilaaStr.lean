/-
  Bytes as a string: what string(b) is, now and in any later world.
-/
import Derived.Test.YtgolikofjhdilaaRefOpen
namespace Go.Proofs.Ytgolikofjhdilaa
open Go.RowKit

def strOf (s : ByteArray) (bs : List Nat) : ByteArray := bs.foldl (fun r n => r.push (UInt8.ofNat n)) s
/-- the bytes as a string -/
def str (bs : List Nat) : ByteArray := strOf ByteArray.empty bs
theorem fold_int (bs : List Nat) : ∀ s : ByteArray, (bs.map fun (n : Nat) => (n : Int)).foldl (fun r n => r.push (UInt8.ofNat n.toNat)) s = strOf s bs := by
  induction bs with
  | nil => intro s; rfl
  | cons a l ih => intro s; exact ih _

/-- string(b) for bytes in memory -/
theorem conv_str (w : World) {B : Nat} {A : Option Addr} {bs : List Nat} (h : By w B A bs) (c : Nat) :
    (convert 22 9 (.slice A bs.length c)).run Try.prog w = .ok (.string (str bs)) w := by
  rw [run_convert_bytes_string w 22 9 5 A bs.length c Try.underlying22 Try.underlying5 Try.underlying9]
  cases A with
  | none =>
    have h0 := (h.of_none rfl).1
    obtain rfl := List.eq_nil_of_length_eq_zero h0
    rfl
  | some a =>
    rw [run_bytesToString w a bs.length c (bs.map fun (n : Nat) => (n : Int))]
    · rw [fold_int]; rfl
    · have h1 := run_loadCells_list (P := Try.prog) w a (vals bs) (fun j v hv => h.vals a rfl j v hv)
      rw [vals_length] at h1
      rw [h1]
      simp [vals, List.map_map, Function.comp_def]

/-- The slice v reads as the bytes bs, here and in every world that keeps what is here. -/
def StrAt (w : World) (v : Value) (bs : List Nat) : Prop := ∀ W, Below w.heap.size w W → (convert 22 9 v).run Try.prog W = .ok (.string (str bs)) W
theorem StrAt.here {w : World} {v : Value} {bs : List Nat} (h : StrAt w v bs) : (convert 22 9 v).run Try.prog w = .ok (.string (str bs)) w := h w (Below.refl _ _)
theorem StrAt.later {w w' : World} {v : Value} {bs : List Nat} (h : StrAt w v bs) (hb : Below w.heap.size w w') : StrAt w' v bs := fun W hW => h W (hb.trans (hW.mono hb.size))
theorem By.strAt {w : World} {A : Option Addr} {bs : List Nat} {c : Nat} (h : By w w.heap.size A bs) : StrAt w (.slice A bs.length c) bs := fun W hW => conv_str W (h.below hW (Nat.le_refl _)) c

/-- What the call made, as a slice that reads as bytes. -/
theorem New.slice {w w' : World} {bs : List Nat} {v : Value} (h : New w w' bs v) (hb : ∀ x ∈ bs, x < 256) : ∃ A c, v = .slice A bs.length c ∧ By w' w'.heap.size A bs ∧ bs.length ≤ c ∧ c ≤ maxLen ∧ (A = none → c = 0) ∧ ∀ b, A = some b → w.heap.size ≤ b.block := by
  obtain ⟨⟨_, h2⟩, _⟩ := h
  rcases h2 with ⟨rfl, h0⟩ | ⟨g, cap, cur, rfl, hg, hh, hn, hc, hsz, ht⟩
  · obtain rfl := List.eq_nil_of_length_eq_zero h0
    exact ⟨none, 0, rfl, By.nil_, Nat.le_refl _, (by unfold maxLen; omega), (fun _ => rfl), (fun _ e => by cases e)⟩
  · refine ⟨some ⟨g, 0, none⟩, cap, rfl, ?_, hn, hc, (fun e => by cases e), (fun b e => by cases e; exact hg)⟩
    have hlt : g < w'.heap.size := by
      rcases Nat.lt_or_ge g w'.heap.size with h | h
      · exact h
      · rw [Array.getElem?_eq_none h] at hh; cases hh
    exact (By.of_row hh (by rw [Nat.mul_one] at ht; exact ht) hb).mono hlt
theorem New.strAt {w w' : World} {bs : List Nat} {v : Value} (h : New w w' bs v) (hb : ∀ x ∈ bs, x < 256) : StrAt w' v bs := by
  obtain ⟨A, c, rfl, hy, _⟩ := h.slice hb
  exact hy.strAt
end Go.Proofs.Ytgolikofjhdilaa
