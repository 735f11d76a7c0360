/-
  What the document says of a crash that keeps the first of two writes.
-/
import Derived.Test.YtfeaaclbjnaamaaCrash
import Derived.Lib.SlBytesConst
namespace Go.Proofs.Ytfeaaclbjnaamaa
open Go.RowKit Go.Maps Go.MapKept Go.ChangeMaps

/-- A disk of the call's own. -/
structure Mine (w W : World) (S : Nat → Prop) (a : Nat) (d : Dk) : Prop where
  disk : Disk W S a d
  new : ∀ k, S k → w.heap.size ≤ k
  keeps : Below w.heap.size w W
section
variable {w W W' : World} {S : Nat → Prop} {a : Nat} {d d' : Dk}
theorem Mine.step (h : Mine w W S a d) (hg : Goes W W' S a d') : ∃ S', Mine w W' S' a d' := by
  obtain ⟨S', hd, hk, hs⟩ := hg
  refine ⟨S', hd, fun k hk' => ?_, h.keeps.trans (hk.to_below h.keeps.size (fun k hk1 hk2 => by have := h.new k hk2; omega))⟩
  rcases hs k hk' with h1 | h1
  · exact h.new k h1
  · exact Nat.le_trans h.keeps.size h1
theorem Mine.below (h : Mine w W S a d) (hb : Below W.heap.size W W') : Mine w W' S a d := ⟨h.disk.below hb (Nat.le_refl _), h.new, h.keeps.trans (hb.mono h.keeps.size)⟩
theorem Mine.alloc (h : Mine w W S a d) (o : Obj) : Mine w (W.alloc o) S a d := h.below ((Below.refl _ W).alloc (Nat.le_refl _) o)
end
theorem fresh_mine (w W : World) (hB : Below w.heap.size w W) : Calls Try.prog 8 #[] W fun e w' => e = .returned (.pointer (some ⟨W.heap.size, 0, none⟩)) ∧ ∃ S, Mine w w' S W.heap.size Dk.fresh :=
  (new_disk W).mono fun e w' ⟨he, hd, hb, _⟩ => ⟨he, _, hd, fun k hk => by rw [hk]; exact hB.size, hB.trans (hb.mono hB.size)⟩
/-- The disk of the example. -/
def dk1 : Dk := (Dk.fresh.write 5 [97]).flush
def dk2 : Dk := (dk1.write 5 [98]).write 5 [99]
def dk3 : Dk := { dk2.crash [(5, 1)] with down := false }
theorem dk3_read : dk3.newest 5 = padded [98] := by rfl
theorem write_len (d : Dk) (n : Nat) (bs : List Nat) {k L : Nat} (h : (d.cache k).length ≤ L) : ((d.write n bs).cache k).length ≤ L + 1 := by
  show (upd d.cache n (d.cache n ++ [padded bs]) k).length ≤ L + 1
  by_cases e : k = n
  · subst e; rw [upd_same]; simpa using h
  · rw [upd_other _ _ e]; omega

theorem wstep {w W : World} {S : Nat → Prop} {a : Nat} {d : Dk} (h : Mine w W S a d) (hd : d.down = false) (hl : (d.cache 5).length ≤ 1000000000) (c : Nat) (hc : c < 256) :
    Calls Try.prog 9 #[.pointer (some ⟨a, 0, none⟩), .int .i64 5, .slice (some ⟨W.heap.size, 0, none⟩) 1 1] (W.alloc (.cells #[.int .u8 (c : Int)] 5 (1, 2))) fun e w' => e = .returned (.int .i64 0) ∧ ∃ S', Mine w w' S' a (d.write 5 [c]) := by
  have h1 := h.alloc (.cells #[.int .u8 (c : Int)] 5 (1, 2))
  have hy : By (W.alloc (.cells #[.int .u8 (c : Int)] 5 (1, 2))) (W.alloc (.cells #[.int .u8 (c : Int)] 5 (1, 2))).heap.size (some ⟨W.heap.size, 0, none⟩) [c] :=
    (By.of_row (heap_alloc_new' W _) (by rfl) (fun x hx => by rw [List.mem_singleton] at hx; omega)).mono (by simp)
  exact (write_ok h1.disk hd (n := 5) (by omega) hy (by simp) hl).mono fun e w' ⟨he, hg⟩ => ⟨he, h1.step hg⟩

set_option maxHeartbeats 4000000 in
theorem wakes_any (w : World) : Calls Try.prog 7 #[] w fun e w' => e = .returned (.bool true) ∧ Below w.heap.size w w' := by
  have kc := fun (w : World) (C : Array Value) (n c : Nat) => Lib.run_convert_bytes_const (P := Try.prog) w 29 5 C n c Try.underlying29 Try.underlying5
  obtain ⟨a, ha⟩ : ∃ a, a = w.heap.size := ⟨_, rfl⟩
  have H0 := Lib.hid (show Calls Try.prog 8 #[] w fun e w' => e = .returned (.pointer (some ⟨a, 0, none⟩)) ∧ ∃ S, Mine w w' S a Dk.fresh by rw [ha]; exact fresh_mine w w (Below.refl _ _))
  clear ha
  go_enter Try.func7, Try.ntmps7
  go_wp2_with fail
  refine H0.out.mono ?_
  rintro e w1 ⟨rfl, S1, h1⟩
  have H1 := Lib.hid (wstep h1 rfl (by simp [Dk.fresh]) 97 (by omega))
  clear h1
  go_wp2_with fail
  refine H1.out.mono ?_
  rintro e w2 ⟨rfl, S2, h2⟩
  have H2 := Lib.hid (flush_ok h2.disk rfl)
  have M2 := Lib.hid h2
  clear h2 H1
  go_wp2_with fail
  refine H2.out.mono ?_
  rintro e w3 ⟨rfl, hg3⟩
  obtain ⟨S3, h3⟩ := M2.out.step hg3
  have H3 := Lib.hid (wstep (d := dk1) h3 rfl (by simp [dk1, Dk.flush]) 98 (by omega))
  clear h3 hg3 H2 M2
  go_wp2_with fail
  refine H3.out.mono ?_
  rintro e w4 ⟨rfl, S4, h4⟩
  have H4 := Lib.hid (wstep h4 rfl (by have := write_len dk1 5 [98] (k := 5) (L := 0) (by simp [dk1, Dk.flush]); omega) 99 (by omega))
  clear h4 H3
  go_wp2_with fail
  refine H4.out.mono ?_
  rintro e w5 ⟨rfl, S5, h5⟩
  have M5 := Lib.hid h5
  clear h5 H4
  go_wp2_with fail
  have h5 := M5.out.alloc (.cells #[.int .i64 5, .int .i64 1] 42)
  have hp : PlanAt (w5.alloc (.cells #[.int .i64 5, .int .i64 1] 42)) (w5.alloc (.cells #[.int .i64 5, .int .i64 1] 42)).heap.size (some ⟨w5.heap.size, 0, none⟩) [(5, 1)] := fun _ =>
    ⟨w5.heap.size, 0, rfl, by simp, fun j hj => by
      obtain rfl : j = 0 := by simpa using hj
      exact ⟨by rw [cell_of_row _ _ _ _ _ _ (heap_alloc_new' w5 _)]; rfl, by rw [cell_of_row _ _ _ _ _ _ (heap_alloc_new' w5 _)]; rfl⟩⟩
  have hlen : ∀ n, n < 34 → (dk2.cache n).length ≤ 1000000000 := fun n _ => by
    have h1 := write_len dk1 5 [98] (k := n) (L := 0) (by simp [dk1, Dk.flush])
    have h2 := write_len (dk1.write 5 [98]) 5 [99] (k := n) (L := 1) h1
    exact Nat.le_trans h2 (by omega)
  have H5 := Lib.hid (crash_ok (d := dk2) h5.disk rfl hlen hp (by decide) (by decide) (cap := 1))
  have M6 := Lib.hid h5
  clear h5 hp hlen M5
  refine H5.out.mono ?_
  rintro e w6 ⟨rfl, hg6⟩
  obtain ⟨S6, h6⟩ := M6.out.step hg6
  have H6 := Lib.hid (up_any h6.disk)
  have M7 := Lib.hid h6
  clear h6 hg6 M6 H5
  go_wp2_with fail
  refine H6.out.mono ?_
  rintro e w7 ⟨rfl, hg7⟩
  obtain ⟨S7, h7⟩ := M7.out.step hg7
  have H7 := Lib.hid (read_ok (d := dk3) h7.disk rfl (n := 5) (by omega))
  have B7 := Lib.hid h7.keeps
  clear h7 hg7 H6 M7
  rw [dk3_read] at H7
  go_wp2_with fail
  refine H7.out.mono ?_
  rintro e w8 ⟨v, rfl, ⟨g, c, rfl, _, _, hy, hc1, hc2⟩, hb8⟩
  have HB := Lib.hid (B7.out.trans (hb8.mono B7.out.size))
  obtain ⟨g', off', e, _, hcell⟩ := hy.at_ (by decide)
  cases e
  have c0 : w8.cell? ⟨g, 0, none⟩ = some (.int .u8 98) := hcell 0 (by decide)
  have c1 : w8.cell? ⟨g, 1, none⟩ = some (.int .u8 0) := hcell 1 (by decide)
  have hl : (padded [98]).length = 64 := by rfl
  rw [hl]
  clear hcell hy hb8 H7 B7
  go_wp2
  go_ret
  exact ⟨rfl, HB.out⟩
end Go.Proofs.Ytfeaaclbjnaamaa
