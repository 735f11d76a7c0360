/-
  What the document says of a crash that keeps the first of two writes.
-/
import Derived.Test.YtgkbhdecohlpmaaDkCrash
import Derived.Lib.SlBytesConst
namespace Go.Proofs.Ytgkbhdecohlpmaa.Dk
set_option maxRecDepth 100000
open Go.RowKit Go.Maps Go.MapKept Go.ChangeMaps

/-- A disk of the call's own. -/
structure Mine (w W : World) (S : Nat → Prop) (a : Nat) (d : Dk) : Prop where
  disk : Disk W S a d
  new : ∀ k, S k → w.heap.size ≤ k
  keeps : Below w.heap.size w W
section
variable {w W W' : World} {S : Nat → Prop} {a : Nat} {d d' : Dk}
theorem Mine.step (h : Mine w W S a d) (hg : Goes W W' S a d') : ∃ S', Mine w W' S' a d' := by
  obtain ⟨S', hd, hk, hs⟩ := hg
  refine ⟨S', hd, fun k hk' => ?_, h.keeps.trans (hk.to_below h.keeps.size (fun k hk1 hk2 => by have := h.new k hk2; omega))⟩
  rcases hs k hk' with h1 | h1
  · exact h.new k h1
  · exact Nat.le_trans h.keeps.size h1
theorem Mine.below (h : Mine w W S a d) (hb : Below W.heap.size W W') : Mine w W' S a d := ⟨h.disk.below hb (Nat.le_refl _), h.new, h.keeps.trans (hb.mono h.keeps.size)⟩
theorem Mine.alloc (h : Mine w W S a d) (o : Obj) : Mine w (W.alloc o) S a d := h.below ((Below.refl _ W).alloc (Nat.le_refl _) o)
end
theorem fresh_mine (w W : World) (hB : Below w.heap.size w W) : Calls Try.prog 7 #[] W fun e w' => e = .returned (.pointer (some ⟨W.heap.size, 0, none⟩)) ∧ ∃ S, Mine w w' S W.heap.size Dk.fresh :=
  (new_disk W).mono fun e w' ⟨he, hd, hb, _⟩ => ⟨he, _, hd, fun k hk => by rw [hk]; exact hB.size, hB.trans (hb.mono hB.size)⟩
/-- The disk of the example. -/
def dk1 : Dk := (Dk.fresh.write 5 [97]).flush
def dk2 : Dk := (dk1.write 5 [98]).write 5 [99]
def dk3 : Dk := { dk2.crash [(5, 1)] with down := false }
theorem dk3_read : dk3.newest 5 = padded [98] := by rfl
theorem write_len (d : Dk) (n : Nat) (bs : List Nat) {k L : Nat} (h : (d.cache k).length ≤ L) : ((d.write n bs).cache k).length ≤ L + 1 := by
  show (upd d.cache n (d.cache n ++ [padded bs]) k).length ≤ L + 1
  by_cases e : k = n
  · subst e; rw [upd_same]; simpa using h
  · rw [upd_other _ _ e]; omega

theorem wstep {w W : World} {S : Nat → Prop} {a : Nat} {d : Dk} (h : Mine w W S a d) (hd : d.down = false) (hl : (d.cache 5).length ≤ 1000000000) (c : Nat) (hc : c < 256) :
    Calls Try.prog 19 #[.pointer (some ⟨a, 0, none⟩), .int .i64 5, .slice (some ⟨W.heap.size, 0, none⟩) 1 1] (W.alloc (.cells #[.int .u8 (c : Int)] 5 (1, 2))) fun e w' => e = .returned (.int .i64 0) ∧ ∃ S', Mine w w' S' a (d.write 5 [c]) := by
  have h1 := h.alloc (.cells #[.int .u8 (c : Int)] 5 (1, 2))
  have hy : By (W.alloc (.cells #[.int .u8 (c : Int)] 5 (1, 2))) (W.alloc (.cells #[.int .u8 (c : Int)] 5 (1, 2))).heap.size (some ⟨W.heap.size, 0, none⟩) [c] :=
    (By.of_row (heap_alloc_new' W _) (by rfl) (fun x hx => by rw [List.mem_singleton] at hx; omega)).mono (by simp)
  exact (write_ok h1.disk hd (n := 5) (by omega) hy (by simp) hl).mono fun e w' ⟨he, hg⟩ => ⟨he, h1.step hg⟩

end Go.Proofs.Ytgkbhdecohlpmaa.Dk
