/-
  What a disk holds behind writes of homes and superblocks.
-/
import Derived.Test.YtgkbhdecohlpmaaHWaked
import Derived.Test.YtgkbhdecohlpmaaHEq
namespace Go.Proofs.Ytgkbhdecohlpmaa
set_option maxRecDepth 100000
open Go.RowKit Dk
set_option maxRecDepth 100000

theorem newest_write (d : Dk.Dk) (n : Nat) (bs : List Nat) (k : Nat) : (d.write n bs).newest k = if k = n then Dk.padded bs else d.newest k := by
  unfold Dk.Dk.newest Dk.Dk.write
  simp only [Dk.upd]
  by_cases h : k = n
  · subst h
    rw [if_pos rfl, if_pos rfl, List.getLast?_concat]; rfl
  · rw [if_neg h, if_neg h]
theorem newest_fresh (k : Nat) : Dk.fresh.newest k = List.replicate 64 0 := rfl
theorem put_ok0 {z : Int} {n : Nat} (h : putHE z n = 0) : 0 ≤ z ∧ z < 8 ∧ n = 4 := by
  unfold putHE at h
  split at h
  · assumption
  · omega
theorem put_code (z : Int) (n : Nat) : putHE z n = 0 ∨ putHE z n = 2 := by unfold putHE; split <;> simp
theorem supAt_put (d : Dk.Dk) (z : Int) (l : List (List Nat)) : supAt (putD d z l) = supAt d := by
  unfold putD
  split
  · unfold supAt
    rw [newest_write, newest_write, if_neg (by omega), if_neg (by omega)]
  · rfl
/-- the first superblock of a disk that has none -/
theorem supAt_first {d : Dk.Dk} {s : Sup} (h0 : d.newest 0 = List.replicate 64 0) (h1 : d.newest 1 = List.replicate 64 0) (hm : s.map.length = 8) : supAt (putSD d s) = some (if mayP s then s else firstS) := by
  unfold putSD
  by_cases h : mayP s
  · rw [if_pos h, if_pos h]
    unfold supAt
    rw [newest_write, newest_write]
    have hg := h.1
    rcases (show s.gen % 2 = 0 ∨ s.gen % 2 = 1 by omega) with e | e
    · rw [e, if_pos (by decide), if_neg (by decide), h1]
      have := read_sup h hm 0 e
      unfold supSec at this
      unfold getSp
      rw [this, read_zero]
    · rw [e, if_neg (by decide), if_pos (by decide), h0]
      have := read_sup h hm 1 e
      unfold supSec at this
      unfold getSp
      rw [this, read_zero]
  · rw [if_neg h, if_neg h]
    unfold supAt
    rw [h0, h1, get_first]
theorem home_newest (d : Dk.Dk) {z : Int} {l : List (List Nat)} (hv : VFine l) (h : putHE z l.length = 0) : readHm ((putD d z l).newest (26 + z.toNat)) = some l := by
  unfold putD
  rw [if_pos h, newest_write, if_pos rfl]
  exact home_back ⟨(put_ok0 h).2.2, hv⟩
theorem putS_home (d : Dk.Dk) (s : Sup) (n : Nat) : (putSD d s).newest (26 + n) = d.newest (26 + n) := by
  unfold putSD
  split
  · rename_i h
    have hg := h.1
    rw [newest_write, if_neg (by omega)]
  · rfl
theorem put_other (d : Dk.Dk) {z : Int} {l : List (List Nat)} {n : Nat} (h : n ≠ 26 + z.toNat) : (putD d z l).newest n = d.newest n := by
  unfold putD
  split
  · rw [newest_write, if_neg h]
  · rfl
theorem write_few {d : Dk.Dk} {L : Nat} (h : ∀ n, n < 34 → (d.cache n).length ≤ L) (n : Nat) (bs : List Nat) : ∀ k, k < 34 → ((d.write n bs).cache k).length ≤ L + 1 := fun k hk => Dk.write_len d n bs (h k hk)
theorem put_fewL {d : Dk.Dk} {L : Nat} (h : ∀ n, n < 34 → (d.cache n).length ≤ L) (z : Int) (l : List (List Nat)) : ∀ k, k < 34 → ((putD d z l).cache k).length ≤ L + 1 := fun k hk => by
  unfold putD
  split
  · exact write_few h _ _ k hk
  · have := h k hk; omega
theorem putS_few {d : Dk.Dk} {L : Nat} (h : ∀ n, n < 34 → (d.cache n).length ≤ L) (s : Sup) : ∀ k, k < 34 → ((putSD d s).cache k).length ≤ L + 1 := fun k hk => by
  unfold putSD
  split
  · exact write_few h _ _ k hk
  · have := h k hk; omega
theorem fresh_few : ∀ n, n < 34 → (Dk.fresh.cache n).length ≤ 0 := fun _ _ => by simp [Dk.fresh]
theorem put_up (d : Dk.Dk) (z : Int) (l : List (List Nat)) : (putD d z l).down = d.down := by unfold putD; split <;> rfl
theorem putS_up (d : Dk.Dk) (s : Sup) : (putSD d s).down = d.down := by unfold putSD; split <;> rfl
theorem Held.mk0 {w W : World} {S : Nat → Prop} {a : Nat} {d : Dk.Dk} (h : Mine w W S a d) : Held w W S a d [] := ⟨h, fun _ hx => by cases hx⟩
theorem Held.by_ {w W : World} {S : Nat → Prop} {a : Nat} {d : Dk.Dk} {L : List (Nat × Obj)} {A : Option Addr} {bs : List Nat} (h : Held w W S a d L) (hy : By w w.heap.size A bs) : By W W.heap.size A bs := (hy.below h.mine.keeps (Nat.le_refl _)).mono h.mine.keeps.size
theorem fresh_held (w : World) (cs : Array Value) (t : TypeId) (fr : Nat × Nat) : Calls Try.prog 7 #[] (w.alloc (.cells cs t fr)) fun e w' =>
    e = .returned (.pointer (some ⟨w.heap.size + 1, 0, none⟩)) ∧ ∃ S, Held w w' S (w.heap.size + 1) Dk.fresh [(w.heap.size, .cells cs t fr)] := by
  have hz : (w.alloc (.cells cs t fr)).heap.size = w.heap.size + 1 := by simp
  refine (fresh_mine (w.alloc (.cells cs t fr)) (w.alloc (.cells cs t fr)) (Below.refl _ _)).mono fun e w' ⟨he, S, hm⟩ => ?_
  rw [hz] at he hm
  have h0 : Below w.heap.size w (w.alloc (.cells cs t fr)) := (Below.refl _ w).alloc (Nat.le_refl _) _
  refine ⟨he, S, ⟨hm.disk, fun k hk => ?_, h0.trans (hm.keeps.mono (by omega))⟩, fun x hx => ?_⟩
  · have := hm.new k hk; omega
  · obtain rfl := List.mem_singleton.1 hx
    refine ⟨fun h1 => by have := hm.new _ h1; simp only at this; omega, ?_⟩
    exact (hm.keeps.block _ (by simp)).trans (heap_alloc_new' w _)
theorem ifI {p : Prop} [Decidable p] {x y : Int} : (if p then x else y) = x ∨ (if p then x else y) = y := by split <;> simp
theorem sup_eq_refl (w : World) (g t o i b a0 a1 a2 a3 a4 a5 a6 a7 : Int) : (binOp .eql 25 (.agg #[.int .i64 g, .int .i64 t, .int .i64 o, .int .i64 i, .int .i64 b, .int .i64 a0, .int .i64 a1, .int .i64 a2, .int .i64 a3, .int .i64 a4, .int .i64 a5, .int .i64 a6, .int .i64 a7]) (.agg #[.int .i64 g, .int .i64 t, .int .i64 o, .int .i64 i, .int .i64 b, .int .i64 a0, .int .i64 a1, .int .i64 a2, .int .i64 a3, .int .i64 a4, .int .i64 a5, .int .i64 a6, .int .i64 a7])).run Try.prog w = .ok (.bool true) w := by
  have h8 := ints8_refl w a0 a1 a2 a3 a4 a5 a6 a7
  have x0 : (g == g) = true := by simp
  have x1 : (t == t) = true := by simp
  have x2 : (o == o) = true := by simp
  have x3 : (i == i) = true := by simp
  have x4 : (b == b) = true := by simp
  go_simp
theorem first_fine : firstS.Fine := ⟨rfl, by unfold firstS Sup.ints zeros8; simp only [List.replicate, List.mem_cons, List.not_mem_nil, or_false]; intro z hz; omega⟩
/-- what a disk's first superblock is, and PutSuper's answer with it -/
theorem put_sup {d : Dk.Dk} {s : Sup} (h0 : d.newest 0 = List.replicate 64 0) (h1 : d.newest 1 = List.replicate 64 0) (hs : s.Fine) :
    ∃ (ev : Int) (g t o i b a0 a1 a2 a3 a4 a5 a6 a7 : Int), (if mayP s then (0 : Int) else 2) = ev ∧ supAt (putSD d s) = some ⟨g, t, o, i, b, [a0, a1, a2, a3, a4, a5, a6, a7]⟩ ∧
      (ev = 0 ∨ (ev = 2 ∧ g = 0 ∧ t = 1 ∧ o = 0 ∧ i = 0 ∧ b = 1 ∧ a0 = 0 ∧ a1 = 0 ∧ a2 = 0 ∧ a3 = 0 ∧ a4 = 0 ∧ a5 = 0 ∧ a6 = 0 ∧ a7 = 0)) := by
  have e := supAt_first h0 h1 hs.1
  by_cases h : mayP s
  · rw [if_pos h] at e
    obtain ⟨a0, a1, a2, a3, a4, a5, a6, a7, hx⟩ := sup_map hs
    obtain ⟨g, t, o, i, b, m⟩ := s
    simp only at hx
    subst hx
    exact ⟨0, g, t, o, i, b, a0, a1, a2, a3, a4, a5, a6, a7, by rw [if_pos h], e, Or.inl rfl⟩
  · rw [if_neg h] at e
    exact ⟨2, 0, 1, 0, 0, 1, 0, 0, 0, 0, 0, 0, 0, 0, by rw [if_neg h], e, Or.inr (by simp)⟩
end Go.Proofs.Ytgkbhdecohlpmaa
