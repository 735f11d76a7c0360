/-
  What the calls of home answer (contracts, over which the laws are proved).
-/
import Derived.Test.YtgkbhdecohlpmaaHm
namespace Go.Proofs.Ytgkbhdecohlpmaa
set_option maxRecDepth 100000
open Go.RowKit
set_option maxRecDepth 100000

def VFine (l : List (List Nat)) : Prop := ∀ v ∈ l, v.length = 8 ∧ ∀ z ∈ v, z < 256
def Few (d : Dk.Dk) : Prop := ∀ n, n < 34 → (d.cache n).length ≤ 1000
/-- P9.1: Put's error, the disk being up -/
def putHE (z : Int) (n : Nat) : Int := if 0 ≤ z ∧ z < 8 ∧ n = 4 then 0 else 2
def putD (d : Dk.Dk) (z : Int) (l : List (List Nat)) : Dk.Dk := if putHE z l.length = 0 then d.write (26 + z.toNat) (homeB l) else d
def putSD (d : Dk.Dk) (s : Sup) : Dk.Dk := if mayP s then d.write (s.gen % 2).toNat (Crc.sealed (supB s)) else d
def PutHSays : Prop := ∀ (w : World) (S : Nat → Prop) (a : Nat) (d : Dk.Dk) (z : Int) (l : List (List Nat)) (A : Option Addr) (c : Nat), Dk.Disk w S a d → d.down = false → Few d → VFine l → By w w.heap.size A l.flatten → l.length ≤ c → c ≤ maxLen → -9223372036854775808 ≤ z ∧ z ≤ 9223372036854775807 →
  Calls Try.prog 8 #[.pointer (some ⟨a, 0, none⟩), .int .i64 z, .slice A l.length c] w fun e w' => e = .returned (.int .i64 (putHE z l.length)) ∧ Dk.Goes w w' S a (putD d z l)
def PutHNil : Prop := ∀ (z : Int) (n : Nat) (A : Option Addr) (c : Nat) (w : World), n ≤ maxLen →
  Calls Try.prog 8 #[.pointer none, .int .i64 z, .slice A n c] w fun e w' => e = .returned (.int .i64 1) ∧ Below w.heap.size w w'
def GetHSays : Prop := ∀ (w : World) (S : Nat → Prop) (a : Nat) (d : Dk.Dk) (n : Nat), Dk.Disk w S a d → d.down = false → n < 8 →
  Calls Try.prog 9 #[.pointer (some ⟨a, 0, none⟩), .int .i64 (n : Int)] w fun e w' => ∃ A c,
    e = .returned (.tuple #[.slice A ((readHm (d.newest (26 + n))).getD []).length c, .int .i64 (if (readHm (d.newest (26 + n))).isSome then 0 else 40)]) ∧
    By w' w'.heap.size A ((readHm (d.newest (26 + n))).getD []).flatten ∧ ((readHm (d.newest (26 + n))).getD []).length ≤ c ∧ c ≤ maxLen ∧ Below w.heap.size w w'
def GetHNil : Prop := ∀ (z : Int) (w : World),
  Calls Try.prog 9 #[.pointer none, .int .i64 z] w fun e w' => ∃ A c, e = .returned (.tuple #[.slice A 0 c, .int .i64 1]) ∧ Below w.heap.size w w'
def PutSSays : Prop := ∀ (w : World) (S : Nat → Prop) (a : Nat) (d : Dk.Dk) (s : Sup), Dk.Disk w S a d → d.down = false → Few d → s.Fine →
  Calls Try.prog 12 #[.pointer (some ⟨a, 0, none⟩), .agg s.cells] w fun e w' => e = .returned (.int .i64 (if mayP s then 0 else 2)) ∧ Dk.Goes w w' S a (putSD d s)
def PutSNil : Prop := ∀ (s : Sup) (w : World), s.Fine →
  Calls Try.prog 12 #[.pointer none, .agg s.cells] w fun e w' => e = .returned (.int .i64 1) ∧ Below w.heap.size w w'
def supAt (d : Dk.Dk) : Option Sup := getSp (d.newest 0) (d.newest 1)
def GetSSays : Prop := ∀ (w : World) (S : Nat → Prop) (a : Nat) (d : Dk.Dk), Dk.Disk w S a d → d.down = false →
  Calls Try.prog 15 #[.pointer (some ⟨a, 0, none⟩)] w fun e w' => ∃ s : Sup,
    e = .returned (.tuple #[.agg s.cells, .int .i64 (if (supAt d).isSome then 0 else 40)]) ∧ s.Fine ∧ (∀ x, supAt d = some x → s = x) ∧ Below w.heap.size w w'
def GetSNil : Prop := ∀ (w : World),
  Calls Try.prog 15 #[.pointer none] w fun e w' => e = .returned (.tuple #[.agg zeroS.cells, .int .i64 1]) ∧ Below w.heap.size w w'
def MayHSays : Prop := ∀ (s : Sup) (w : World), s.Fine →
  Calls Try.prog 11 #[.agg s.cells] w fun e w' => e = .returned (.bool (decide (mayP s))) ∧ Below w.heap.size w w'
def FirstHSays : Prop := ∀ (w : World),
  Calls Try.prog 20 #[] w fun e w' => e = .returned (.agg firstS.cells) ∧ Below w.heap.size w w'
structure Calls9 : Prop where
  put : PutHSays
  putNil : PutHNil
  get : GetHSays
  getNil : GetHNil
  puts : PutSSays
  putsNil : PutSNil
  gets : GetSSays
  getsNil : GetSNil
  may : MayHSays
  first : FirstHSays

/-! ### a superblock's cells -/
theorem sup_map {s : Sup} (h : s.Fine) : ∃ a b c d e f g i, s.map = [a, b, c, d, e, f, g, i] := by
  obtain ⟨h, _⟩ := h
  obtain ⟨_, _, _, _, _, m⟩ := s
  simp only at h ⊢
  match m, h with
  | [a, b, c, d, e, f, g, i], _ => exact ⟨a, b, c, d, e, f, g, i, rfl⟩
theorem sup_cells (g t o i b : Int) (a0 a1 a2 a3 a4 a5 a6 a7 : Int) : (Sup.mk g t o i b [a0, a1, a2, a3, a4, a5, a6, a7]).cells = #[.int .i64 g, .int .i64 t, .int .i64 o, .int .i64 i, .int .i64 b, .int .i64 a0, .int .i64 a1, .int .i64 a2, .int .i64 a3, .int .i64 a4, .int .i64 a5, .int .i64 a6, .int .i64 a7] := rfl
theorem first_cells : firstS.cells = #[.int .i64 0, .int .i64 1, .int .i64 0, .int .i64 0, .int .i64 1, .int .i64 0, .int .i64 0, .int .i64 0, .int .i64 0, .int .i64 0, .int .i64 0, .int .i64 0, .int .i64 0] := rfl
theorem zero_cells : zeroS.cells = #[.int .i64 0, .int .i64 0, .int .i64 0, .int .i64 0, .int .i64 0, .int .i64 0, .int .i64 0, .int .i64 0, .int .i64 0, .int .i64 0, .int .i64 0, .int .i64 0, .int .i64 0] := rfl
end Go.Proofs.Ytgkbhdecohlpmaa
