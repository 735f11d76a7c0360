/-
  wakes, by contract, over what home's calls are to answer: the document's own examples.
-/
import Derived.Test.YtgkbhdecohlpmaaHSays
import Derived.Test.YtgkbhdecohlpmaaDkWakes
import Derived.Lib.SlBytesConst
namespace Go.Proofs.Ytgkbhdecohlpmaa
set_option maxRecDepth 100000
open Go.RowKit Dk
set_option maxRecDepth 100000

/-- A disk of the call's own, and blocks beside it that stay as they are. -/
structure Held (w W : World) (S : Nat → Prop) (a : Nat) (d : Dk.Dk) (L : List (Nat × Obj)) : Prop where
  mine : Mine w W S a d
  keeps : ∀ x ∈ L, ¬ S x.1 ∧ W.heap[x.1]? = some x.2
section
variable {w W W' : World} {S : Nat → Prop} {a : Nat} {d d' : Dk.Dk} {L : List (Nat × Obj)}
theorem lt_of_obj {W : World} {k : Nat} {o : Obj} (h : W.heap[k]? = some o) : k < W.heap.size := by
  rcases Nat.lt_or_ge k W.heap.size with h1 | h1
  · exact h1
  · rw [Array.getElem?_eq_none h1] at h; cases h
theorem Held.step (h : Held w W S a d L) (hg : Goes W W' S a d') : ∃ S', Held w W' S' a d' L := by
  obtain ⟨S', hd, hk, hs⟩ := hg
  refine ⟨S', ⟨hd, fun k hk' => ?_, h.mine.keeps.trans (hk.to_below h.mine.keeps.size (fun k hk1 hk2 => by have := h.mine.new k hk2; omega))⟩, fun x hx => ?_⟩
  · rcases hs k hk' with h1 | h1
    · exact h.mine.new k h1
    · exact Nat.le_trans h.mine.keeps.size h1
  · obtain ⟨h1, h2⟩ := h.keeps x hx
    have h3 := lt_of_obj h2
    refine ⟨fun h4 => ?_, (hk.block _ h3 h1).trans h2⟩
    rcases hs _ h4 with h5 | h5
    · exact h1 h5
    · omega
theorem Held.below (h : Held w W S a d L) (hb : Below W.heap.size W W') : Held w W' S a d L :=
  ⟨h.mine.below hb, fun x hx => ⟨(h.keeps x hx).1, (hb.block _ (lt_of_obj (h.keeps x hx).2)).trans (h.keeps x hx).2⟩⟩
theorem Held.alloc (h : Held w W S a d L) (o : Obj) : Held w (W.alloc o) S a d L := h.below ((Below.refl _ W).alloc (Nat.le_refl _) o)
/-- a new block that stays -/
theorem Held.push (h : Held w W S a d L) (cs : Array Value) (t : TypeId) (fr : Nat × Nat) : Held w (W.alloc (.cells cs t fr)) S a d ((W.heap.size, .cells cs t fr) :: L) := by
  refine ⟨(h.alloc _).mine, fun x hx => ?_⟩
  rcases List.mem_cons.1 hx with rfl | hx
  · exact ⟨fun h1 => by have := h.mine.disk.old _ h1; omega, heap_alloc_new' W _⟩
  · exact (h.alloc _).keeps x hx
end
theorem hstep {w W : World} {S : Nat → Prop} {a : Nat} {d : Dk.Dk} {L : List (Nat × Obj)} (h : Held w W S a d L) (hd : d.down = false) (n : Nat) (hn : n < 34) (hl : (d.cache n).length ≤ 1000000000) (c : Nat) (hc : c < 256) (m : Nat) (hm : m = W.heap.size) :
    Calls Try.prog 19 #[.pointer (some ⟨a, 0, none⟩), .int .i64 (n : Int), .slice (some ⟨m, 0, none⟩) 1 1] (W.alloc (.cells #[.int .u8 (c : Int)] 5 (1, 2))) fun e w' => e = .returned (.int .i64 0) ∧ ∃ S', Held w w' S' a (d.write n [c]) L := by
  subst hm
  have h1 := h.alloc (.cells #[.int .u8 (c : Int)] 5 (1, 2))
  have hy : By (W.alloc (.cells #[.int .u8 (c : Int)] 5 (1, 2))) (W.alloc (.cells #[.int .u8 (c : Int)] 5 (1, 2))).heap.size (some ⟨W.heap.size, 0, none⟩) [c] :=
    (By.of_row (heap_alloc_new' W _) (by rfl) (fun x hx => by rw [List.mem_singleton] at hx; omega)).mono (by simp)
  exact (write_ok h1.mine.disk hd (n := n) (by omega) hy (by simp) hl).mono fun e w' ⟨he, hg⟩ => ⟨he, h1.step hg⟩
/-- a row of 13 cells, cell by cell -/
theorem cells13 {W : World} {b : Nat} {t : TypeId} {fr : Nat × Nat} {v0 v1 v2 v3 v4 v5 v6 v7 v8 v9 v10 v11 v12 : Value} (h : W.heap[b]? = some (.cells #[v0, v1, v2, v3, v4, v5, v6, v7, v8, v9, v10, v11, v12] t fr)) :
    W.cell? ⟨b, 0, none⟩ = some v0 ∧ W.cell? ⟨b, 1, none⟩ = some v1 ∧ W.cell? ⟨b, 2, none⟩ = some v2 ∧ W.cell? ⟨b, 3, none⟩ = some v3 ∧ W.cell? ⟨b, 4, none⟩ = some v4 ∧ W.cell? ⟨b, 5, none⟩ = some v5 ∧ W.cell? ⟨b, 6, none⟩ = some v6 ∧ W.cell? ⟨b, 7, none⟩ = some v7 ∧ W.cell? ⟨b, 8, none⟩ = some v8 ∧ W.cell? ⟨b, 9, none⟩ = some v9 ∧ W.cell? ⟨b, 10, none⟩ = some v10 ∧ W.cell? ⟨b, 11, none⟩ = some v11 ∧ W.cell? ⟨b, 12, none⟩ = some v12 := by
  refine ⟨?_, ?_, ?_, ?_, ?_, ?_, ?_, ?_, ?_, ?_, ?_, ?_, ?_⟩ <;> (rw [cell_of_row _ b _ _ _ _ h]; rfl)
def hk1 : Dk.Dk := Dk.fresh.write 0 [120]
def hk2 : Dk.Dk := hk1.write 1 [120]
theorem fresh_sup : supAt Dk.fresh = some firstS := get_first
theorem hk2_sup : supAt hk2 = none := get_spoilt
set_option maxHeartbeats 4000000 in
theorem wakes9_of (C : Calls9) (w : World) : Calls Try.prog 13 #[] w fun e w' => e = .returned (.bool true) ∧ Below w.heap.size w w' := by
  have kc := fun (w : World) (C : Array Value) (n c : Nat) => Lib.run_convert_bytes_const (P := Try.prog) w 44 5 C n c Try.underlying44 Try.underlying5
  obtain ⟨a, ha⟩ : ∃ a, a = w.heap.size := ⟨_, rfl⟩
  have H0 := Lib.hid (show Calls Try.prog 7 #[] w fun e w' => e = .returned (.pointer (some ⟨a, 0, none⟩)) ∧ ∃ S, Mine w w' S a Dk.fresh by rw [ha]; exact fresh_mine w w (Below.refl _ _))
  clear ha
  have HC := Lib.hid C
  clear C
  go_enter Try.func13, Try.ntmps13
  go_wp2_with fail
  refine H0.out.mono ?_
  rintro e w1 ⟨rfl, S1, h1⟩
  have M1 := Lib.hid h1
  have H1 := Lib.hid (HC.out.gets _ _ _ _ h1.disk rfl)
  clear h1 H0
  go_wp2_with fail
  refine H1.out.mono ?_
  rintro e w2 ⟨s, rfl, _, hs, hb2⟩
  obtain rfl := hs _ fresh_sup
  have hm := (Held.mk (L := []) M1.out (fun _ hx => by cases hx)).below hb2
  have hp := hm.push #[.int .i64 0, .int .i64 1, .int .i64 0, .int .i64 0, .int .i64 1, .int .i64 0, .int .i64 0, .int .i64 0, .int .i64 0, .int .i64 0, .int .i64 0, .int .i64 0, .int .i64 0] 25 (0, 0)
  have H2 := Lib.hid (hstep hp rfl 0 (by omega) (by simp [Dk.fresh]) 120 (by omega) (w2.heap.size + 1) (by simp))
  have k2 := kc (w2.alloc (.cells #[.int .i64 0, .int .i64 1, .int .i64 0, .int .i64 0, .int .i64 1, .int .i64 0, .int .i64 0, .int .i64 0, .int .i64 0, .int .i64 0, .int .i64 0, .int .i64 0, .int .i64 0] 25 (0, 0))) #[.int .u8 120] 1 1
  rw [show (w2.alloc (.cells #[.int .i64 0, .int .i64 1, .int .i64 0, .int .i64 0, .int .i64 1, .int .i64 0, .int .i64 0, .int .i64 0, .int .i64 0, .int .i64 0, .int .i64 0, .int .i64 0, .int .i64 0] 25 (0, 0))).heap.size = w2.heap.size + 1 by simp] at k2
  clear hm hp hs hb2 M1 H1
  generalize hb : w2.heap.size = b
  rw [hb] at H2 k2
  rw [first_cells]
  go_wp2_with fail
  refine H2.out.mono ?_
  rintro e w3 ⟨rfl, S3, h3⟩
  have H3 := Lib.hid (hstep (d := hk1) h3 rfl 1 (by omega) (by simp [hk1, Dk.write, Dk.fresh, upd]) 120 (by omega) _ rfl)
  clear h3 H2 k2
  go_wp2_with fail
  refine H3.out.mono ?_
  rintro e w4 ⟨rfl, S4, h4⟩
  have M4 := Lib.hid h4
  have H4 := Lib.hid (HC.out.gets _ _ _ hk2 h4.mine.disk rfl)
  clear h4 H3
  rw [hk2_sup] at H4
  go_wp2_with fail
  refine H4.out.mono ?_
  rintro e w5 ⟨s5, rfl, hf5, _, hb5⟩
  have M5 := M4.out.below hb5
  have HB := Lib.hid M5.mine.keeps
  obtain ⟨g5, t5, o5, i5, b5, m5⟩ := s5
  obtain ⟨x0, x1, x2, x3, x4, x5, x6, x7, hx⟩ := sup_map hf5
  simp only at hx
  subst hx
  rw [sup_cells]
  have hcell := ((M5.alloc (.cells #[.int .i64 g5, .int .i64 t5, .int .i64 o5, .int .i64 i5, .int .i64 b5, .int .i64 x0, .int .i64 x1, .int .i64 x2, .int .i64 x3, .int .i64 x4, .int .i64 x5, .int .i64 x6, .int .i64 x7] 25 (0, 0))).keeps _ List.mem_cons_self).2
  have c1 := cell_of_row _ b 1 _ _ _ hcell
  have c4 := cell_of_row _ b 4 _ _ _ hcell
  have c0 := cell_of_row _ b 0 _ _ _ hcell
  simp only [List.getElem?_toArray, List.getElem?_cons_zero, List.getElem?_cons_succ] at c0 c1 c4
  clear hcell M5 hf5 hb5 M4 H4
  go_wp2
  go_ret
  exact ⟨rfl, HB.out.alloc HB.out.size _⟩
end Go.Proofs.Ytgkbhdecohlpmaa
