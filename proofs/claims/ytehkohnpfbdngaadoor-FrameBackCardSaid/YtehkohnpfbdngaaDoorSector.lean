/-
  A frame's own sector: what it reads as.
-/
import Derived.Test.YtehkohnpfbdngaaDoorRead
namespace Go.Proofs.YtehkohnpfbdngaaDoor
open Go.RowKit

theorem drop_more (a r : List Nat) (n k : Nat) (h : a.length = n) : (a ++ r).drop (n + k) = r.drop k := by
  rw [← List.drop_drop, List.drop_left' h]
/-- the bytes of a frame's sector, one behind the other -/
theorem sector_parts (f : Fr) {s i p o : Nat} (e1 : f.seq = s) (e2 : f.inc = i) (e3 : f.part = p) (e4 : f.of = o) :
    ∃ R, Crc.sealed (secB f) = dig s 6 ++ (dig i 3 ++ (dig (16 * p + o) 1 ++ (dig f.load.length 1 ++ (dig f.mark 4 ++ (f.load ++ R))))) := by
  refine ⟨List.replicate (60 - (headB f ++ f.load).length) 0 ++ Crc.tail (Crc.sum (secB f)), ?_⟩
  show secB f ++ Crc.tail (Crc.sum (secB f)) = _
  conv => lhs; arg 1; unfold secB
  generalize List.replicate (60 - (headB f ++ f.load).length) 0 = Z
  generalize Crc.tail (Crc.sum (secB f)) = T
  unfold headB
  rw [e1, e2, e3, e4]
  simp only [Int.toNat_natCast, List.append_assoc]
theorem frame_own {f : Fr} (hm : mayB f = true) (hk : f.mark < 4294967296) : frameOf (Crc.sealed (secB f)) = f ∧ nv (Crc.sealed (secB f)) 3 = f.load.length := by
  obtain ⟨s, i, p, o, e1, e2, e3, e4, b1, b2, b3, b4, b5, b6, b7, b8⟩ := may_nat hm
  obtain ⟨R, hR⟩ := sector_parts f e1 e2 e3 e4
  generalize Crc.sealed (secB f) = X at *
  have d6 := dig_length 6 s
  have d3 := dig_length 3 i
  have d1 := dig_length 1 (16 * p + o)
  have d1' := dig_length 1 f.load.length
  have d4 := dig_length 4 f.mark
  have x6 : X.drop 6 = dig i 3 ++ (dig (16 * p + o) 1 ++ (dig f.load.length 1 ++ (dig f.mark 4 ++ (f.load ++ R)))) := by rw [hR]; exact List.drop_left' d6
  have x9 : X.drop 9 = dig (16 * p + o) 1 ++ (dig f.load.length 1 ++ (dig f.mark 4 ++ (f.load ++ R))) := by
    rw [show (9 : Nat) = 6 + 3 from rfl, ← List.drop_drop, x6]; exact List.drop_left' d3
  have x10 : X.drop 10 = dig f.load.length 1 ++ (dig f.mark 4 ++ (f.load ++ R)) := by
    rw [show (10 : Nat) = 9 + 1 from rfl, ← List.drop_drop, x9]; exact List.drop_left' d1
  have x11 : X.drop 11 = dig f.mark 4 ++ (f.load ++ R) := by
    rw [show (11 : Nat) = 10 + 1 from rfl, ← List.drop_drop, x10]; exact List.drop_left' d1'
  have x15 : X.drop 15 = f.load ++ R := by
    rw [show (15 : Nat) = 11 + 4 from rfl, ← List.drop_drop, x11]; exact List.drop_left' d4
  have n0 : nv X 0 = s := by
    show num ((X.drop 0).take 6) = s
    rw [List.drop_zero, hR, List.take_left' d6]
    exact num_dig 6 s (by omega)
  have n1 : nv X 1 = i := by
    show num ((X.drop 6).take 3) = i
    rw [x6, List.take_left' d3]
    exact num_dig 3 i (by omega)
  have n2 : nv X 2 = 16 * p + o := by
    show num ((X.drop 9).take 1) = _
    rw [x9, List.take_left' d1]
    exact num_dig 1 _ (by omega)
  have n3 : nv X 3 = f.load.length := by
    show num ((X.drop 10).take 1) = _
    rw [x10, List.take_left' d1']
    exact num_dig 1 _ (by omega)
  have n4 : nv X 4 = f.mark := by
    show num ((X.drop 11).take 4) = _
    rw [x11, List.take_left' d4]
    exact num_dig 4 _ (by omega)
  refine ⟨?_, n3⟩
  unfold frameOf
  rw [n0, n1, n2, n3, n4, x15, Nat.min_eq_left b8, List.take_left' rfl]
  rw [Fr.ext_iff']
  exact ⟨e1.symm, e2.symm, by rw [e3]; show (((16 * p + o) / 16 : Nat) : Int) = _; omega, by rw [e4]; show (((16 * p + o) % 16 : Nat) : Int) = _; omega, rfl, rfl⟩
theorem read_own {f : Fr} (hm : mayB f = true) (hk : f.mark < 4294967296) : readOK (Crc.sealed (secB f)) = true ∧ readF (Crc.sealed (secB f)) = f ∧ readE (Crc.sealed (secB f)) = 0 := by
  have h := (frame_own hm hk).1
  have hr : readOK (Crc.sealed (secB f)) = true := by
    unfold readOK
    rw [h, hm, Crc.sealed_length, secB_length (may_load hm)]
    simp
  unfold readF readE
  rw [if_pos hr, if_pos hr]
  exact ⟨hr, h, rfl⟩
theorem read_only {b : List Nat} (h : readOK b = true) : b.length = 64 ∧ mayB (frameOf b) = true ∧ Crc.sealed (secB (frameOf b)) = b := by
  unfold readOK at h
  simp only [Bool.and_eq_true, decide_eq_true_eq] at h
  exact ⟨h.1, h.2.1, h.2.2⟩
theorem read_unsealed {b : List Nat} (h : Crc.isSealed b = false) : readOK b = false := by
  cases hr : readOK b with
  | false => rfl
  | true =>
    obtain ⟨_, _, h3⟩ := read_only hr
    rw [← h3, Crc.isSealed_sealed] at h
    cases h
theorem read_great {b : List Nat} (hb : ∀ x ∈ b, x < 256) (h : 45 < nv b 3) : readOK b = false := by
  cases hr : readOK b with
  | false => rfl
  | true =>
    obtain ⟨h1, h2, h3⟩ := read_only hr
    have h4 := (frame_own h2 (frameOf_fine h1 hb).mark).2
    rw [h3] at h4
    have := may_load h2
    omega
theorem read_long {b : List Nat} (h : ¬ b.length = 64) : readOK b = false := by
  unfold readOK
  rw [decide_eq_false h]
  rfl
end Go.Proofs.YtehkohnpfbdngaaDoor
