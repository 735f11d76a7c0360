/-
  Texts Mine, Big, SaysLaw, Lift, FmLaid, RgLiftS, LiftR, Told, Steps, Short, Append, JRead, Follows, Good, Reckon, joined.
-/
import Derived.Deep.AppendLies
import Derived.ProofKit
import Derived.OpenShut
import Derived.Deep.Slices
import Derived.Carry
import Derived.Deep.Fields
import Derived.LaidMore
import Derived.Stop.Joined
import Derived.Test.YtkajcgpkldofjaaDoorJS3
set_option linter.all false
section
/-
  A row of records of the call's own, beside a disk whose blocks turn.
-/
namespace Go.Proofs.YtkajcgpkldofjaaDoor
open Go.RowKit Fm

theorem goes_keep {w w' : World} {S : Nat → Prop} {a : Nat} {d' : Dk.Dk} (h : Dk.Goes w w' S a d') : ∀ b, b < w.heap.size → ¬ S b → w'.heap[b]? = w.heap[b]? := by
  obtain ⟨S', _, hk, _⟩ := h
  exact fun b hb hs => hk.block b hb hs
theorem goes_below {w w' : World} {S : Nat → Prop} {a N : Nat} {d' : Dk.Dk} (h : Dk.Goes w w' S a d') (hN : N ≤ w.heap.size) (hS : ∀ k, S k → N ≤ k) : Below N w w' := by
  obtain ⟨S', _, hk, _⟩ := h
  exact hk.to_below hN fun k h1 h2 => by have := hS k h2; omega
theorem widths_low {w w' : World} {N : Nat} (h : Widths w) (hb : Below N w w') (hN : 0 < N) : Widths w' := by
  obtain ⟨h0, h1, h2, h3, h4, h5⟩ := h
  exact ⟨Nat.lt_of_lt_of_le h0 hb.size, (hb.cell (by simpa using hN)).trans h1, (hb.cell (by simpa using hN)).trans h2, (hb.cell (by simpa using hN)).trans h3, (hb.cell (by simpa using hN)).trans h4, (hb.cell (by simpa using hN)).trans h5⟩

/-- v is a row of records of the call's own, their bytes in blocks of P. -/
def PutV (w : World) (N : Nat) (P : Nat → Prop) (v : Value) (rows : List (List Nat)) : Prop :=
  ∃ xs : List Value, w.ownsRow N 24 1 v rows.length xs ∧ xs.length = rows.length ∧ ∀ i (h : i < rows.length), ∃ u, xs[i]? = some u ∧ OneP w P u rows[i]
section
variable {w w' : World} {N : Nat} {P P' : Nat → Prop} {v : Value} {rows : List (List Nat)}
theorem PutV.nil_ (w : World) (N : Nat) (P : Nat → Prop) : PutV w N P (.slice none 0 0) [] := ⟨[], World.ownsRow_nil _ _ _ _, rfl, fun _ h => absurd h (by simp)⟩
theorem own_ge' {e : TypeId} {size n : Nat} {xs : List Value} (h : w.ownsRow N e size v n xs) : ∀ k, v.ownBlock = some k → N ≤ k := by
  intro k hk
  rcases h.2 with ⟨rfl, _⟩ | ⟨g, cap, cur, rfl, hg, _⟩
  · simp [Value.ownBlock] at hk
  · have : g = k := by simpa [Value.ownBlock] using hk
    omega
theorem own_kept {e : TypeId} {size n : Nat} {xs : List Value} (h : w.ownsRow N e size v n xs) (hk : ∀ b, b < w.heap.size → v.ownBlock = some b → w'.heap[b]? = w.heap[b]?) : w'.ownsRow N e size v n xs := by
  obtain ⟨h1, h2⟩ := h
  refine ⟨h1, ?_⟩
  rcases h2 with h2 | ⟨g, cap, cur, rfl, hg, hh, r⟩
  · exact Or.inl h2
  · exact Or.inr ⟨g, cap, cur, rfl, hg, (hk g (Array.getElem?_eq_some_iff.1 hh).1 rfl).trans hh, r⟩
theorem PutV.ge (h : PutV w N P v rows) : ∀ k, v.ownBlock = some k → N ≤ k := by
  obtain ⟨xs, h1, _⟩ := h
  exact own_ge' h1
theorem PutV.keep (h : PutV w N P v rows) (hk : ∀ b, b < w.heap.size → (P b ∨ v.ownBlock = some b) → w'.heap[b]? = w.heap[b]?) : PutV w' N P v rows := by
  obtain ⟨xs, h1, h2, h3⟩ := h
  refine ⟨xs, own_kept h1 (fun b hb e => hk b hb (Or.inr e)), h2, fun i hi => ?_⟩
  obtain ⟨u, e, ho⟩ := h3 i hi
  exact ⟨u, e, ho.keep fun b hp hb => hk b hb (Or.inl hp)⟩
theorem PutV.mono (h : PutV w N P v rows) (hP : ∀ b, P b → b < w.heap.size → P' b) : PutV w N P' v rows := by
  obtain ⟨xs, h1, h2, h3⟩ := h
  refine ⟨xs, h1, h2, fun i hi => ?_⟩
  obtain ⟨u, e, ho⟩ := h3 i hi
  exact ⟨u, e, ho.mono hP⟩
/-- it is no block of another kind of cells -/
theorem PutV.ne (h : PutV w N P v rows) {b : Nat} {cs : Array Value} {t : TypeId} {fr : Nat × Nat} (hb : w.heap[b]? = some (.cells cs t fr)) (ht : t ≠ 24) : v.ownBlock ≠ some b := by
  obtain ⟨xs, ⟨_, h1⟩, _⟩ := h
  rcases h1 with ⟨rfl, _⟩ | ⟨g, cap, cur, rfl, _, hh, _⟩
  · simp [Value.ownBlock]
  · intro e
    have : g = b := by simpa [Value.ownBlock] using e
    subst this
    rw [hb] at hh
    cases hh
    exact ht rfl
/-- as rows to read -/
theorem PutV.rows_ (h : PutV w N P v rows) : ∃ A c, v = .slice A rows.length c ∧ RowsP w (fun _ => True) A rows ∧ rows.length ≤ c ∧ (A = none → c = 0) := by
  obtain ⟨xs, ⟨h0, h1⟩, hl, h2⟩ := h
  have hx : ∀ r ∈ rows, ∀ x ∈ r, x < 256 := fun r hr => by
    obtain ⟨i, hi, rfl⟩ := List.mem_iff_getElem.1 hr
    obtain ⟨u, _, ho⟩ := h2 i hi
    exact ho.lt
  rcases h1 with ⟨rfl, h3⟩ | ⟨g, cap, cur, rfl, hg, hh, hn, hc, hsz, ht⟩
  · obtain rfl := List.eq_nil_of_length_eq_zero h3
    exact ⟨none, 0, rfl, RowsP.nil_, Nat.le_refl _, fun _ => rfl⟩
  · refine ⟨some ⟨g, 0, none⟩, cap, rfl, ⟨hx, fun _ => ⟨g, 0, rfl, trivial, fun i hi => ?_⟩⟩, hn, fun e => by cases e⟩
    obtain ⟨u, e, ho⟩ := h2 i hi
    refine ⟨u, ?_, ho.mono fun _ _ _ => trivial⟩
    rw [Nat.zero_add, cell_of_row w g i cur _ _ hh, ← e]
    have h4 := congrArg (·[i]?) ht
    simp only [List.getElem?_take, Nat.mul_one, hi, if_true] at h4
    rw [← h4]; simp
/-- one more record -/
theorem PutV.more {g cap : Nat} {u : Value} {b : List Nat} (h : PutV w N P v rows) {xs : List Value} (hx : xs.length = rows.length ∧ ∀ i (h : i < rows.length), ∃ u, xs[i]? = some u ∧ OneP w P u rows[i])
    (ho : w'.ownsRow N 24 1 (.slice (some ⟨g, 0, none⟩) (rows.length + 1) cap) (rows.length + 1) (xs ++ [u])) (hk : ∀ k, P k → k < w.heap.size → w'.heap[k]? = w.heap[k]?) (hu : OneP w P u b) :
    PutV w' N P (.slice (some ⟨g, 0, none⟩) (rows.length + 1) cap) (rows ++ [b]) := by
  refine ⟨xs ++ [u], by simpa using ho, by simp [hx.1], fun i hi => ?_⟩
  by_cases h1 : i < rows.length
  · obtain ⟨y, e, hy⟩ := hx.2 i h1
    refine ⟨y, by rw [List.getElem?_append_left (by omega)]; exact e, ?_⟩
    rw [List.getElem_append_left h1]
    exact hy.keep hk
  · have h2 : i = rows.length := by simp at hi; omega
    subst h2
    refine ⟨u, by rw [← hx.1]; simp, ?_⟩
    rw [List.getElem_append_right (by omega)]
    simpa using hu.keep hk
end

/-- The state between two rounds of a law that appends: the disk at a, the log at blog, the records so far in v. -/
structure Wrote (w0 w : World) (S : Nat → Prop) (d : Dk.Dk) (a blog : Nat) (t inc : Int) (P : List (List Nat)) (Kd : Nat → Option Fr) : Prop where
  disk : Dk.Disk w S a d
  up : d.down = false
  own : ∀ k, S k → w0.heap.size ≤ k
  log : ¬ S blog ∧ w0.heap.size ≤ blog ∧ w.heap[blog]? = some (.cells #[.int .i64 t, .int .i64 (t + (total P : Nat))] 23 (0, 0))
  recs : Recs t inc P
  fits : total P ≤ 24
  cache : ∀ n, (d.cache n).length ≤ total P
  lies : Lies d t Kd (KF (framesOf t inc P)) (total P)
  low : Below w0.heap.size w0 w
/-- .. behind Append, its answer in a box of its own -/
structure Mid (w0 X : World) (S : Nat → Prop) (d : Dk.Dk) (a blog nb : Nat) (t n0 n1 : Int) (v : Value) (P : List (List Nat)) : Prop where
  disk : Dk.Disk X S a d
  own : ∀ k, S k → w0.heap.size ≤ k
  nlog : ¬ S blog ∧ w0.heap.size ≤ blog
  nnb : ¬ S nb ∧ w0.heap.size ≤ nb
  ne : nb ≠ blog
  low : Below w0.heap.size w0 X
  put : PutV X w0.heap.size (· < w0.heap.size) v P
  nput : ∀ g, v.ownBlock = some g → ¬ S g
  log : X.heap[blog]? = some (.cells #[.int .i64 t, .int .i64 n0] 23 (0, 0))
  nxt : X.heap[nb]? = some (.cells #[.int .i64 t, .int .i64 n1] 23 (0, 0))
/-- how a law's log box stays -/
theorem Wrote.below {w0 w w' : World} {S : Nat → Prop} {d : Dk.Dk} {a blog : Nat} {t inc : Int} {P : List (List Nat)} {Kd : Nat → Option Fr} (h : Wrote w0 w S d a blog t inc P Kd) (hb : Below w.heap.size w w') : Wrote w0 w' S d a blog t inc P Kd :=
  ⟨h.disk.below hb (Nat.le_refl _), h.up, h.own, ⟨h.log.1, h.log.2.1, (hb.block _ (Array.getElem?_eq_some_iff.1 h.log.2.2).1).trans h.log.2.2⟩, h.recs, h.fits, h.cache, h.lies, h.low.trans (hb.mono h.low.size)⟩
theorem Wrote.keep {w0 w w' : World} {S : Nat → Prop} {d : Dk.Dk} {a blog : Nat} {t inc : Int} {P : List (List Nat)} {Kd : Nat → Option Fr} (h : Wrote w0 w S d a blog t inc P Kd) (hs : w.heap.size ≤ w'.heap.size)
    (hk : ∀ b, b < w.heap.size → (S b ∨ b = blog) → w'.heap[b]? = w.heap[b]?) (hb : Below w0.heap.size w w') : Wrote w0 w' S d a blog t inc P Kd :=
  ⟨h.disk.keep (fun k hk1 => hk k (h.disk.old k hk1) (Or.inl hk1)) hs, h.up, h.own, ⟨h.log.1, h.log.2.1, (hk _ (Array.getElem?_eq_some_iff.1 h.log.2.2).1 (Or.inr rfl)).trans h.log.2.2⟩, h.recs, h.fits, h.cache, h.lies, h.low.trans hb⟩
/-- a flush -/
theorem Wrote.flush {w0 w w' : World} {S : Nat → Prop} {d : Dk.Dk} {a blog : Nat} {t inc : Int} {P : List (List Nat)} {Kd : Nat → Option Fr} (h : Wrote w0 w S d a blog t inc P Kd) (hg : Dk.Goes w w' S a d.flush) :
    ∃ S', Wrote w0 w' S' d.flush a blog t inc P (KF (framesOf t inc P)) ∧ (∀ k, S' k → S k ∨ w.heap.size ≤ k) ∧ ∀ b, b < w.heap.size → ¬ S b → w'.heap[b]? = w.heap[b]? := by
  have hk := goes_keep hg
  have hlow := goes_below hg h.low.size h.own
  obtain ⟨S', hd, _, hs⟩ := hg
  have hlt := (Array.getElem?_eq_some_iff.1 h.log.2.2).1
  refine ⟨S', ⟨hd, h.up, fun k hk' => ?_, ⟨fun e => ?_, h.log.2.1, (hk _ hlt h.log.1).trans h.log.2.2⟩, h.recs, h.fits, fun n => by simp [Dk.Dk.flush], h.lies.flush _, h.low.trans hlow⟩, hs, hk⟩
  · rcases hs k hk' with h1 | h1
    · exact h.own k h1
    · exact Nat.le_trans h.low.size h1
  · rcases hs _ e with h1 | h1
    · exact h.log.1 h1
    · omega
/-- .. and what is the call's own stays -/
theorem PutV.goes {w w' : World} {N : Nat} {S S' : Nat → Prop} {v : Value} {rows : List (List Nat)} (h : PutV w N (· < N) v rows) (hS : ∀ k, S k → N ≤ k) (hown : ∀ g, v.ownBlock = some g → ¬ S g) (hs : ∀ k, S' k → S k ∨ w.heap.size ≤ k)
    (hk : ∀ b, b < w.heap.size → ¬ S b → w'.heap[b]? = w.heap[b]?) : PutV w' N (· < N) v rows ∧ ∀ g, v.ownBlock = some g → ¬ S' g := by
  refine ⟨h.keep fun b hb h1 => hk b hb fun e => ?_, fun g hg e => ?_⟩
  · rcases h1 with h1 | h1
    · have h2 := hS b e
      have h3 : b < N := h1
      omega
    · exact hown b h1 e
  · rcases hs g e with h1 | h1
    · exact hown g hg h1
    · obtain ⟨xs, ⟨_, h2⟩, _⟩ := h
      rcases h2 with ⟨rfl, _⟩ | ⟨g', cap, cur, rfl, _, hh, _⟩
      · simp [Value.ownBlock] at hg
      · have : g' = g := by simpa [Value.ownBlock] using hg
        subst this
        have := (Array.getElem?_eq_some_iff.1 hh).1
        omega

theorem Mid.below {w0 X X' : World} {S : Nat → Prop} {d : Dk.Dk} {a blog nb : Nat} {t n0 n1 : Int} {v : Value} {P : List (List Nat)} (h : Mid w0 X S d a blog nb t n0 n1 v P) (hb : Below X.heap.size X X') : Mid w0 X' S d a blog nb t n0 n1 v P :=
  ⟨h.disk.below hb (Nat.le_refl _), h.own, h.nlog, h.nnb, h.ne, h.low.trans (hb.mono h.low.size), h.put.keep fun b hb1 _ => hb.block b hb1, h.nput, (hb.block _ (Array.getElem?_eq_some_iff.1 h.log).1).trans h.log, (hb.block _ (Array.getElem?_eq_some_iff.1 h.nxt).1).trans h.nxt⟩
/-- the call, then the box -/
theorem mid_oneK {w0 W w7 : World} {S : Nat → Prop} {d d7 : Dk.Dk} {a blog : Nat} {t inc n1 : Int} {v : Value} {P : List (List Nat)} {Kd : Nat → Option Fr} (hw : Wrote w0 W S d a blog t inc P Kd) (hp : PutV W w0.heap.size (· < w0.heap.size) v P)
    (ho : ∀ g, v.ownBlock = some g → ¬ S g) (hg : Dk.Goes W w7 S a d7) :
    ∃ S', Mid w0 ((w7.alloc (.cells #[.int .i64 0, .int .i64 0] 23)).setRow w7.heap.size #[.int .i64 t, .int .i64 n1]) S' d7 a blog w7.heap.size t (t + (total P : Nat)) n1 v P ∧ (∀ k, S' k → S k ∨ W.heap.size ≤ k) ∧ ∀ b, b < W.heap.size → ¬ S b → ((w7.alloc (.cells #[.int .i64 0, .int .i64 0] 23)).setRow w7.heap.size #[.int .i64 t, .int .i64 n1]).heap[b]? = W.heap[b]? := by
  have hk := goes_keep hg
  have hlow := goes_below hg hw.low.size hw.own
  obtain ⟨S', hd, hkk, hs⟩ := hg
  obtain ⟨hp7, ho7⟩ := hp.goes hw.own ho hs hk
  have hlt := (Array.getElem?_eq_some_iff.1 hw.log.2.2).1
  have hsz : W.heap.size ≤ w7.heap.size := hkk.size
  have hlog7 := (hk _ hlt hw.log.1).trans hw.log.2.2
  have hb : Below w7.heap.size w7 ((w7.alloc (.cells #[.int .i64 0, .int .i64 0] 23)).setRow w7.heap.size #[.int .i64 t, .int .i64 n1]) := below_setRow ((Below.refl _ w7).alloc (Nat.le_refl _) _) (Nat.le_refl _) _
  refine ⟨S', ⟨hd.below hb (Nat.le_refl _), fun k e => ?_, ⟨fun e => ?_, hw.log.2.1⟩, ⟨fun e => Nat.lt_irrefl _ (hd.old _ e), Nat.le_trans hw.low.size hsz⟩, by omega, (hw.low.trans hlow).trans (hb.mono (Nat.le_trans hw.low.size hsz)), hp7.keep fun b hb1 _ => hb.block b hb1, ho7,
    (hb.block _ (by omega)).trans hlog7, setRow_heap _ _ _ _ _ _ (heap_alloc_new w7 _)⟩, hs, fun b hb1 hb2 => (hb.block b (by omega)).trans (hk b hb1 hb2)⟩
  · rcases hs k e with h1 | h1
    · exact hw.own k h1
    · exact Nat.le_trans hw.low.size h1
  · rcases hs _ e with h1 | h1
    · exact hw.log.1 h1
    · omega
/-- the box, then the call -/
theorem mid_twoK {w0 W w7 : World} {S : Nat → Prop} {d d7 : Dk.Dk} {a blog : Nat} {t inc n1 : Int} {v : Value} {P : List (List Nat)} {Kd : Nat → Option Fr} (hw : Wrote w0 W S d a blog t inc P Kd) (hp : PutV W w0.heap.size (· < w0.heap.size) v P)
    (ho : ∀ g, v.ownBlock = some g → ¬ S g) (hg : Dk.Goes (W.alloc (.cells #[.int .i64 0, .int .i64 0] 23)) w7 S a d7) :
    ∃ S', Mid w0 (w7.setRow W.heap.size #[.int .i64 t, .int .i64 n1]) S' d7 a blog W.heap.size t (t + (total P : Nat)) n1 v P ∧ w7.heap[W.heap.size]? = some (.cells #[.int .i64 0, .int .i64 0] 23 (0, 0)) ∧ (∀ k, S' k → S k ∨ W.heap.size ≤ k) ∧ ∀ b, b < W.heap.size → ¬ S b → (w7.setRow W.heap.size #[.int .i64 t, .int .i64 n1]).heap[b]? = W.heap[b]? := by
  have hb0 : Below W.heap.size W (W.alloc (.cells #[.int .i64 0, .int .i64 0] 23)) := (Below.refl _ W).alloc (Nat.le_refl _) _
  have hz : (W.alloc (.cells #[.int .i64 0, .int .i64 0] 23)).heap.size = W.heap.size + 1 := by simp
  have hw1 := hw.below hb0
  have hp1 := hp.keep (w' := W.alloc (.cells #[.int .i64 0, .int .i64 0] 23)) fun b hb1 _ => hb0.block b hb1
  have hk := goes_keep hg
  have hlow := goes_below hg hw1.low.size hw.own
  obtain ⟨S', hd, hkk, hs⟩ := hg
  obtain ⟨hp7, ho7⟩ := hp1.goes hw.own ho hs hk
  have hlt := (Array.getElem?_eq_some_iff.1 hw.log.2.2).1
  have hsz : W.heap.size + 1 ≤ w7.heap.size := by rw [← hz]; exact hkk.size
  have hold := hw.disk.old
  have hnb : w7.heap[W.heap.size]? = some (.cells #[.int .i64 0, .int .i64 0] 23 (0, 0)) := (hk _ (by omega) (fun e => Nat.lt_irrefl _ (hold _ e))).trans (heap_alloc_new W _)
  have hlog7 := (hk blog (by omega) hw.log.1).trans hw1.log.2.2
  have hnS : ¬ S' W.heap.size := fun e => by
    rcases hs _ e with h1 | h1
    · exact Nat.lt_irrefl _ (hold _ h1)
    · omega
  have hset : ∀ b, b ≠ W.heap.size → (w7.setRow W.heap.size #[.int .i64 t, .int .i64 n1]).heap[b]? = w7.heap[b]? := fun b hb => setRow_other _ _ _ _ hb
  refine ⟨S', ⟨hd.keep (fun k hk1 => hset k (fun e => hnS (by rw [← e]; exact hk1))) (by simp [World.setRow]), fun k e => ?_, ⟨fun e => ?_, hw.log.2.1⟩, ⟨hnS, hw.low.size⟩, by omega, below_setRow (hw1.low.trans hlow) hw.low.size _, hp7.keep fun b hb1 h1 => hset b (fun e => ?_), ho7,
    (hset _ (by omega)).trans hlog7, setRow_heap _ _ _ _ _ _ hnb⟩, hnb, fun k e => (hs k e).imp id (fun h => by omega), fun b hb1 hb2 => (hset b (by omega)).trans ((hk b (by omega) hb2).trans (hb0.block b hb1))⟩
  · rcases hs k e with h1 | h1
    · exact hw.own k h1
    · exact Nat.le_trans hw1.low.size h1
  · rcases hs _ e with h1 | h1
    · exact hw.log.1 h1
    · omega
  · subst e
    rcases h1 with h1 | h1
    · have h2 := hw.low.size
      have h3 : W.heap.size < w0.heap.size := h1
      omega
    · exact hp7.ne hnb (by decide) h1
theorem mid_one {w0 W w7 : World} {S : Nat → Prop} {d d7 : Dk.Dk} {a blog : Nat} {t inc n1 : Int} {v : Value} {P : List (List Nat)} {Kd : Nat → Option Fr} (hw : Wrote w0 W S d a blog t inc P Kd) (hp : PutV W w0.heap.size (· < w0.heap.size) v P)
    (ho : ∀ g, v.ownBlock = some g → ¬ S g) (hg : Dk.Goes W w7 S a d7) :
    ∃ S', Mid w0 ((w7.alloc (.cells #[.int .i64 0, .int .i64 0] 23)).setRow w7.heap.size #[.int .i64 t, .int .i64 n1]) S' d7 a blog w7.heap.size t (t + (total P : Nat)) n1 v P := by
  obtain ⟨S', h, _⟩ := mid_oneK (n1 := n1) hw hp ho hg
  exact ⟨S', h⟩
theorem mid_two {w0 W w7 : World} {S : Nat → Prop} {d d7 : Dk.Dk} {a blog : Nat} {t inc n1 : Int} {v : Value} {P : List (List Nat)} {Kd : Nat → Option Fr} (hw : Wrote w0 W S d a blog t inc P Kd) (hp : PutV W w0.heap.size (· < w0.heap.size) v P)
    (ho : ∀ g, v.ownBlock = some g → ¬ S g) (hg : Dk.Goes (W.alloc (.cells #[.int .i64 0, .int .i64 0] 23)) w7 S a d7) :
    ∃ S', Mid w0 (w7.setRow W.heap.size #[.int .i64 t, .int .i64 n1]) S' d7 a blog W.heap.size t (t + (total P : Nat)) n1 v P ∧ w7.heap[W.heap.size]? = some (.cells #[.int .i64 0, .int .i64 0] 23 (0, 0)) := by
  obtain ⟨S', h, h1, _⟩ := mid_twoK (n1 := n1) hw hp ho hg
  exact ⟨S', h, h1⟩
/-- nothing was appended -/
theorem Mid.no {w0 W X : World} {S S' : Nat → Prop} {d : Dk.Dk} {a blog nb : Nat} {t inc : Int} {v : Value} {P : List (List Nat)} {Kd : Nat → Option Fr} (hw : Wrote w0 W S' d a blog t inc P Kd) (h : Mid w0 X S d a blog nb t (t + (total P : Nat)) (t + (total P : Nat)) v P) :
    Wrote w0 (X.setRow blog #[.int .i64 t, .int .i64 (t + (total P : Nat))]) S d a blog t inc P Kd ∧ PutV (X.setRow blog #[.int .i64 t, .int .i64 (t + (total P : Nat))]) w0.heap.size (· < w0.heap.size) v P := by
  have hset : ∀ b, b ≠ blog → (X.setRow blog #[.int .i64 t, .int .i64 (t + (total P : Nat))]).heap[b]? = X.heap[b]? := fun b hb => setRow_other _ _ _ _ hb
  refine ⟨⟨h.disk.keep (fun k hk1 => hset k (fun e => h.nlog.1 (by rw [← e]; exact hk1))) (by simp [World.setRow]), hw.up, h.own, ⟨h.nlog.1, h.nlog.2, setRow_heap _ _ _ _ _ _ h.log⟩, hw.recs, hw.fits, hw.cache, hw.lies, below_setRow h.low h.nlog.2 _⟩, h.put.keep fun b _ h1 => hset b fun e => ?_⟩
  subst e
  rcases h1 with h1 | h1
  · have h2 := h.nlog.2
    have h3 : b < w0.heap.size := h1
    omega
  · exact h.put.ne h.log (by decide) h1
/-- a record was appended -/
theorem Mid.yes {w0 W X X2 : World} {S S' : Nat → Prop} {d : Dk.Dk} {a blog nb g cap : Nat} {t inc : Int} {v u : Value} {P : List (List Nat)} {b : List Nat} {xs : List Value} {Kd : Nat → Option Fr} (hw : Wrote w0 W S' d a blog t inc P Kd) (hE : cutE b.length (t + (total P : Nat)) inc = 0) (hb : ∀ x ∈ b, x < 256) (hf : total P + cutN b.length ≤ 24)
    (h : Mid w0 X S (putsD d (cutAll b (t + (total P : Nat)) inc)) a blog nb t (t + (total P : Nat)) (t + (total P : Nat) + (cutN b.length : Nat)) v P)
    (hxs : xs.length = P.length ∧ ∀ i (h : i < P.length), ∃ u, xs[i]? = some u ∧ OneP X (· < w0.heap.size) u P[i])
    (hrow : X2.ownsRow w0.heap.size 24 1 (.slice (some ⟨g, 0, none⟩) (P.length + 1) cap) (P.length + 1) (xs ++ [u])) (hgr : (X.alloc (.cells #[u] 24)).grownBy X2 v.ownBlock) (hor : v.ownBlock = some g ∨ g = X.heap.size + 1) (hu : OneP X (· < w0.heap.size) u b) :
    X2.heap[blog]? = some (.cells #[.int .i64 t, .int .i64 (t + (total P : Nat))] 23 (0, 0)) ∧ X2.heap[nb]? = some (.cells #[.int .i64 t, .int .i64 (t + (total P : Nat) + (cutN b.length : Nat))] 23 (0, 0)) ∧
    Wrote w0 (X2.setRow blog #[.int .i64 t, .int .i64 (t + (total P : Nat) + (cutN b.length : Nat))]) S (putsD d (cutAll b (t + (total P : Nat)) inc)) a blog t inc (P ++ [b]) Kd ∧
    PutV (X2.setRow blog #[.int .i64 t, .int .i64 (t + (total P : Nat) + (cutN b.length : Nat))]) w0.heap.size (· < w0.heap.size) (.slice (some ⟨g, 0, none⟩) (P.length + 1) cap) (P ++ [b]) ∧
    ∀ k, (Value.slice (some ⟨g, 0, none⟩) (P.length + 1) cap).ownBlock = some k → ¬ S k := by
  have hsz : (X.alloc (.cells #[u] 24)).heap.size = X.heap.size + 1 := by simp
  have hge := h.put.ge
  have hlow0 : w0.heap.size ≤ X.heap.size := h.low.size
  have hkeep : ∀ k, k < X.heap.size → v.ownBlock ≠ some k → X2.heap[k]? = X.heap[k]? := fun k hk hne => (hgr.block k (by omega) (fun e => hne e.symm)).trans (Below.heap_alloc _ _ _ hk)
  have hsize : X.heap.size + 1 ≤ X2.heap.size := by have := hgr.size; omega
  have hll := (Array.getElem?_eq_some_iff.1 h.log).1
  have hln := (Array.getElem?_eq_some_iff.1 h.nxt).1
  have h1 := (hkeep blog hll (h.put.ne h.log (by decide))).trans h.log
  have h2 := (hkeep nb hln (h.put.ne h.nxt (by decide))).trans h.nxt
  have hlow : Below w0.heap.size w0 X2 := (h.low.alloc hlow0 (.cells #[u] 24)).grown hgr (by omega) (fun k e => hge k e)
  have hset : ∀ k, k ≠ blog → (X2.setRow blog #[.int .i64 t, .int .i64 (t + (total P : Nat) + (cutN b.length : Nat))]).heap[k]? = X2.heap[k]? := fun k hk => setRow_other _ _ _ _ hk
  have hd2 : Dk.Disk X2 S a (putsD d (cutAll b (t + (total P : Nat)) inc)) := h.disk.keep (fun k hk => hkeep k (h.disk.old k hk) (fun e => h.nput k e hk)) (by omega)
  have hput2 : PutV X2 w0.heap.size (· < w0.heap.size) (.slice (some ⟨g, 0, none⟩) (P.length + 1) cap) (P ++ [b]) :=
    h.put.more hxs hrow (fun k hk hk2 => hkeep k hk2 (fun e => by have := hge k e; have h3 : k < w0.heap.size := hk; omega)) hu
  have htot : total (P ++ [b]) = total P + cutN b.length := by rw [total_append]; simp [total]
  refine ⟨h1, h2, ⟨hd2.keep (fun k hk => hset k (fun e => h.nlog.1 (by rw [← e]; exact hk))) (by simp [World.setRow]), ?_, h.own, ⟨h.nlog.1, h.nlog.2, ?_⟩, hw.recs.append ⟨⟨hE, hb⟩, trivial⟩, by rw [htot]; exact hf, fun k => ?_, hw.lies.record hE hf, below_setRow hlow h.nlog.2 _⟩,
    hput2.keep (fun k hk h3 => hset k fun e => ?_), fun k hk => ?_⟩
  · rw [puts_down]; exact hw.up
  · have h3 := setRow_heap X2 blog _ #[.int .i64 t, .int .i64 (t + (total P : Nat) + (cutN b.length : Nat))] _ _ h1
    rw [htot, show t + ((total P + cutN b.length : Nat) : Int) = t + ((total P : Nat) : Int) + ((cutN b.length : Nat) : Int) by omega]
    exact h3
  · have h3 := puts_cache (cutAll b (t + (total P : Nat)) inc) d k
    rw [cutAll_length] at h3
    have h4 := hw.cache k
    omega
  · subst e
    rcases h3 with h3 | h3
    · have h4 := h.nlog.2
      have h5 : k < w0.heap.size := h3
      omega
    · exact hput2.ne h1 (by decide) h3
  · have hkg : g = k := by simpa [Value.ownBlock] using hk
    subst hkg
    rcases hor with h3 | h3
    · exact h.nput _ h3
    · intro e
      have := h.disk.old _ e
      omega

theorem app_call (hA : AppendSays) {w0 W : World} {S : Nat → Prop} {d : Dk.Dk} {a blog : Nat} {t inc : Int} {P : List (List Nat)} {Kd : Nat → Option Fr} (hw : Wrote w0 W S d a blog t inc P Kd) (hWd : Widths w0) {A : Option Addr} {b : List Nat} {c : Nat}
    (hy : ByP w0 (· < w0.heap.size) A b) (hl : b.length ≤ c ∧ c ≤ maxLen) (ht : 1 ≤ t ∧ t ≤ 1073741824) (hi : 0 ≤ inc ∧ inc ≤ 1048576) :
    Calls Tryd.prog 8 #[.pointer (some ⟨a, 0, none⟩), .agg #[.int .i64 t, .int .i64 (t + (total P : Nat))], .int .i64 inc, .slice A b.length c] W fun e w' =>
      e = .returned (.tuple #[.agg #[.int .i64 t, .int .i64 (if appE t (t + (total P : Nat)) inc b.length = 0 then t + (total P : Nat) + (cutN b.length : Nat) else t + (total P : Nat))], .int .i64 (appE t (t + (total P : Nat)) inc b.length)]) ∧
      Dk.Goes W w' S a (if appE t (t + (total P : Nat)) inc b.length = 0 then putsD d (cutAll b (t + (total P : Nat)) inc) else d) := by
  have hf := hw.fits
  refine hA W S a d t (t + (total P : Nat)) inc b A c hw.disk hw.up (fun n _ => by have := hw.cache n; omega) (widths_low hWd hw.low hWd.1) (fun e => by have := hw.own _ e; have := hWd.1; omega)
    ((hy.mono fun k hk _ => fun e => by have := hw.own k e; have h2 : k < w0.heap.size := hk; omega).keep fun k hk hk2 => hw.low.block k ?_) hl.1 hl.2 (by unfold I64; omega) (by unfold I64; omega) (by unfold I64; omega)
  exact hk2

/-- a disk and a log beside it -/
structure Bare (w0 w : World) (S : Nat → Prop) (d : Dk.Dk) (a blog : Nat) (t n1 : Int) : Prop where
  disk : Dk.Disk w S a d
  own : ∀ k, S k → w0.heap.size ≤ k
  nlog : ¬ S blog
  log : w.heap[blog]? = some (.cells #[.int .i64 t, .int .i64 n1] 23 (0, 0))
  low : Below w0.heap.size w0 w
theorem Wrote.bare {w0 w : World} {S : Nat → Prop} {d : Dk.Dk} {a blog : Nat} {t inc : Int} {P : List (List Nat)} {Kd : Nat → Option Fr} (h : Wrote w0 w S d a blog t inc P Kd) : Bare w0 w S d a blog t (t + (total P : Nat)) := ⟨h.disk, h.own, h.log.1, h.log.2.2, h.low⟩
theorem Bare.goes {w0 w w' : World} {S : Nat → Prop} {d d' : Dk.Dk} {a blog : Nat} {t n1 : Int} (h : Bare w0 w S d a blog t n1) (hg : Dk.Goes w w' S a d') :
    ∃ S', Bare w0 w' S' d' a blog t n1 ∧ (∀ k, S' k → S k ∨ w.heap.size ≤ k) ∧ ∀ b, b < w.heap.size → ¬ S b → w'.heap[b]? = w.heap[b]? := by
  have hk := goes_keep hg
  have hlow := goes_below hg h.low.size h.own
  obtain ⟨S', hd, _, hs⟩ := hg
  have hlt := (Array.getElem?_eq_some_iff.1 h.log).1
  refine ⟨S', ⟨hd, fun k e => ?_, fun e => ?_, (hk _ hlt h.nlog).trans h.log, h.low.trans hlow⟩, hs, hk⟩
  · rcases hs k e with h1 | h1
    · exact h.own k h1
    · exact Nat.le_trans h.low.size h1
  · rcases hs _ e with h1 | h1
    · exact h.nlog h1
    · omega
theorem Bare.below {w0 w w' : World} {S : Nat → Prop} {d : Dk.Dk} {a blog : Nat} {t n1 : Int} (h : Bare w0 w S d a blog t n1) (hb : Below w.heap.size w w') : Bare w0 w' S d a blog t n1 :=
  ⟨h.disk.below hb (Nat.le_refl _), h.own, h.nlog, (hb.block _ (Array.getElem?_eq_some_iff.1 h.log).1).trans h.log, h.low.trans (hb.mono h.low.size)⟩
theorem plan_low {w w' : World} {N : Nat} {A : Option Addr} {plan : List (Int × Int)} (h : Dk.PlanAt w N A plan) (hb : Below N w w') (hN : N ≤ w'.heap.size) : Dk.PlanAt w' w'.heap.size A plan := fun hn => by
  obtain ⟨b, off, e, hlt, hc⟩ := h hn
  exact ⟨b, off, e, by omega, fun j hj => ⟨(hb.cell hlt).trans (hc j hj).1, (hb.cell hlt).trans (hc j hj).2⟩⟩
theorem wr_crash {w0 W : World} {S : Nat → Prop} {d : Dk.Dk} {a blog : Nat} {t inc : Int} {P : List (List Nat)} {Kd : Nat → Option Fr} (hw : Wrote w0 W S d a blog t inc P Kd) {B : Option Addr} {cp : Nat} {plan : List (Int × Int)} (hp : Dk.PlanAt w0 w0.heap.size B plan) (hpl : plan.length ≤ 100)
    (hi : ∀ x ∈ plan, (-9223372036854775808 ≤ x.1 ∧ x.1 ≤ 9223372036854775807) ∧ -9223372036854775808 ≤ x.2 ∧ x.2 ≤ 9223372036854775807) :
    Calls Tryd.prog 15 #[.pointer (some ⟨a, 0, none⟩), .slice B plan.length cp] W fun e w' => e = .returned (.int .i64 0) ∧ Dk.Goes W w' S a (d.crash plan) :=
  Dk.crash_ok hw.disk hw.up (fun n _ => by have := hw.cache n; have := hw.fits; omega) (plan_low hp hw.low hw.low.size) (by omega) hi
end Go.Proofs.YtkajcgpkldofjaaDoor
end

section
/-
  The guards: arguments that are too great, over what wakes is to answer.
-/
namespace Go.Proofs.YtkajcgpkldofjaaDoor
open Go.RowKit Fm
set_option maxRecDepth 100000

set_option maxHeartbeats 1000000 in
theorem finds_big (hWk : WakesSays) (t z : Int) (A B : Option Addr) (l c lp cp : Nat) (w : World) (hWd : Widths w) (h : 20 < l ∨ 100 < lp ∨ t < 1 ∨ 1073741824 < t) :
    Calls Tryd.prog 4 #[.int .i64 t, .slice A l c, .int .i64 z, .slice B lp cp] w fun e w' => e = .returned (.bool true) ∧ Below w.heap.size w w' := by
  by_cases h0 : 20 < l
  · have hb0 : (20 : Int) < (l : Int) := by omega
    clear h
    have HWk := Lib.hid (hWk w hWd)
    clear hWd
    go_enter Tryd.func4, Tryd.ntmps4
    go_wp2_with fail
    refine HWk.out.mono ?_
    rintro e w7 ⟨rfl, hb7⟩
    go_wp2_with fail
    go_ret
    exact ⟨rfl, hb7⟩
  have n0 : ¬ (20 : Int) < (l : Int) := by omega
  by_cases h1 : 100 < lp
  · have hb1 : (100 : Int) < (lp : Int) := by omega
    clear h
    have HWk := Lib.hid (hWk w hWd)
    clear hWd
    go_enter Tryd.func4, Tryd.ntmps4
    go_wp2_with fail
    refine HWk.out.mono ?_
    rintro e w7 ⟨rfl, hb7⟩
    go_wp2_with fail
    go_ret
    exact ⟨rfl, hb7⟩
  have n1 : ¬ (100 : Int) < (lp : Int) := by omega
  by_cases h2 : t < 1
  · have hb2 : t < 1 := by omega
    clear h
    have HWk := Lib.hid (hWk w hWd)
    clear hWd
    go_enter Tryd.func4, Tryd.ntmps4
    go_wp2_with fail
    refine HWk.out.mono ?_
    rintro e w7 ⟨rfl, hb7⟩
    go_wp2_with fail
    go_ret
    exact ⟨rfl, hb7⟩
  have n2 : ¬ t < 1 := by omega
  have hb3 : 1073741824 < t := by omega
  clear h
  have HWk := Lib.hid (hWk w hWd)
  clear hWd
  go_enter Tryd.func4, Tryd.ntmps4
  go_wp2_with fail
  refine HWk.out.mono ?_
  rintro e w7 ⟨rfl, hb7⟩
  go_wp2_with fail
  go_ret
  exact ⟨rfl, hb7⟩

set_option maxHeartbeats 1000000 in
theorem tails_big (hWk : WakesSays) (t : Int) (A : Option Addr) (l c : Nat) (w : World) (hWd : Widths w) (h : 20 < l ∨ t < 1 ∨ 1073741824 < t) :
    Calls Tryd.prog 6 #[.int .i64 t, .slice A l c] w fun e w' => e = .returned (.bool true) ∧ Below w.heap.size w w' := by
  by_cases h0 : 20 < l
  · have hb0 : (20 : Int) < (l : Int) := by omega
    clear h
    have HWk := Lib.hid (hWk w hWd)
    clear hWd
    go_enter Tryd.func6, Tryd.ntmps6
    go_wp2_with fail
    refine HWk.out.mono ?_
    rintro e w7 ⟨rfl, hb7⟩
    go_wp2_with fail
    go_ret
    exact ⟨rfl, hb7⟩
  have n0 : ¬ (20 : Int) < (l : Int) := by omega
  by_cases h1 : t < 1
  · have hb1 : t < 1 := by omega
    clear h
    have HWk := Lib.hid (hWk w hWd)
    clear hWd
    go_enter Tryd.func6, Tryd.ntmps6
    go_wp2_with fail
    refine HWk.out.mono ?_
    rintro e w7 ⟨rfl, hb7⟩
    go_wp2_with fail
    go_ret
    exact ⟨rfl, hb7⟩
  have n1 : ¬ t < 1 := by omega
  have hb2 : 1073741824 < t := by omega
  clear h
  have HWk := Lib.hid (hWk w hWd)
  clear hWd
  go_enter Tryd.func6, Tryd.ntmps6
  go_wp2_with fail
  refine HWk.out.mono ?_
  rintro e w7 ⟨rfl, hb7⟩
  go_wp2_with fail
  go_ret
  exact ⟨rfl, hb7⟩

set_option maxHeartbeats 1000000 in
theorem later_big (hWk : WakesSays) (A A' B B' : Option Addr) (l l2 lp lp2 c c' cp cp' : Nat) (w : World) (hWd : Widths w) (h : 10 < l ∨ 10 < l2 ∨ 100 < lp ∨ 100 < lp2) :
    Calls Tryd.prog 5 #[.slice A l c, .slice A' l2 c', .slice B lp cp, .slice B' lp2 cp'] w fun e w' => e = .returned (.bool true) ∧ Below w.heap.size w w' := by
  by_cases h0 : 10 < l
  · have hb0 : (10 : Int) < (l : Int) := by omega
    clear h
    have HWk := Lib.hid (hWk w hWd)
    clear hWd
    go_enter Tryd.func5, Tryd.ntmps5
    go_wp2_with fail
    refine HWk.out.mono ?_
    rintro e w7 ⟨rfl, hb7⟩
    go_wp2_with fail
    go_ret
    exact ⟨rfl, hb7⟩
  have n0 : ¬ (10 : Int) < (l : Int) := by omega
  by_cases h1 : 10 < l2
  · have hb1 : (10 : Int) < (l2 : Int) := by omega
    clear h
    have HWk := Lib.hid (hWk w hWd)
    clear hWd
    go_enter Tryd.func5, Tryd.ntmps5
    go_wp2_with fail
    refine HWk.out.mono ?_
    rintro e w7 ⟨rfl, hb7⟩
    go_wp2_with fail
    go_ret
    exact ⟨rfl, hb7⟩
  have n1 : ¬ (10 : Int) < (l2 : Int) := by omega
  by_cases h2 : 100 < lp
  · have hb2 : (100 : Int) < (lp : Int) := by omega
    clear h
    have HWk := Lib.hid (hWk w hWd)
    clear hWd
    go_enter Tryd.func5, Tryd.ntmps5
    go_wp2_with fail
    refine HWk.out.mono ?_
    rintro e w7 ⟨rfl, hb7⟩
    go_wp2_with fail
    go_ret
    exact ⟨rfl, hb7⟩
  have n2 : ¬ (100 : Int) < (lp : Int) := by omega
  have hb3 : (100 : Int) < (lp2 : Int) := by omega
  clear h
  have HWk := Lib.hid (hWk w hWd)
  clear hWd
  go_enter Tryd.func5, Tryd.ntmps5
  go_wp2_with fail
  refine HWk.out.mono ?_
  rintro e w7 ⟨rfl, hb7⟩
  go_wp2_with fail
  go_ret
  exact ⟨rfl, hb7⟩

set_option maxHeartbeats 1000000 in
theorem says_big (hWk : WakesSays) (z x y : Int) (A : Option Addr) (l c : Nat) (w : World) (hWd : Widths w) (h : 1000 < l) :
    Calls Tryd.prog 3 #[.int .i64 z, .agg #[.int .i64 x, .int .i64 y], .slice A l c] w fun e w' => e = .returned (.bool true) ∧ Below w.heap.size w w' := by
  have hb0 : (1000 : Int) < (l : Int) := by omega
  clear h
  have HWk := Lib.hid (fun W (hb : Below w.heap.size w W) => hWk W (widths_low hWd hb hWd.1))
  clear hWd
  have HB0 := Lib.hid ((Below.refl _ w).alloc (Nat.le_refl w.heap.size) (.cells #[.int .i64 x, .int .i64 y] 23))
  go_enter Tryd.func3, Tryd.ntmps3
  go_wp2_with fail
  refine (HWk.out _ HB0.out).mono ?_
  rintro e w7 ⟨rfl, hb7⟩
  go_wp2_with fail
  go_ret
  exact ⟨rfl, HB0.out.trans (hb7.mono HB0.out.size)⟩
end Go.Proofs.YtkajcgpkldofjaaDoor
end

section
/-
  JournalSays, by contract, over what journal's calls are to answer: no disk; how many sectors a record wants.
-/
namespace Go.Proofs.YtkajcgpkldofjaaDoor
open Go.RowKit Fm
set_option maxRecDepth 100000

theorem refWants4_any (n : Int) (w : World) (hn : I64 n) : Calls Tryd.prog 27 #[.int .i64 n] w fun e w' => e = .returned (.int .i64 (wantsR n)) ∧ Below w.heap.size w w' := by
  by_cases h1 : n < 1
  · have he : wantsR n = 0 := by unfold wantsR; rw [if_neg (by omega)]
    rw [he]
    clear he
    go_enter Tryd.func27, Tryd.ntmps27
    go_wp2
    go_ret
    exact ⟨rfl, Below.refl _ _⟩
  by_cases h2 : 90 < n
  · have he : wantsR n = 0 := by unfold wantsR; rw [if_neg (by omega)]
    rw [he]
    clear he
    go_enter Tryd.func27, Tryd.ntmps27
    go_wp2
    go_ret
    exact ⟨rfl, Below.refl _ _⟩
  have he : wantsR n = (n + 44) / 45 := by unfold wantsR cutN; rw [if_pos (by omega)]; omega
  rw [he]
  have w1 : IntKind.i64.wrap (n + 45) = n + 45 := by rw [IntKind.wrap_i64]; omega
  have w2 : IntKind.i64.wrap (n + 45 - 1) = n + 44 := by rw [IntKind.wrap_i64]; omega
  have w3 : IntKind.i64.wrap ((n + 44).tdiv 45) = (n + 44) / 45 := by rw [Int.tdiv_eq_ediv_of_nonneg (by omega), IntKind.wrap_i64]; omega
  clear he hn
  go_enter Tryd.func27, Tryd.ntmps27
  go_wp2
  go_ret
  exact ⟨rfl, Below.refl _ _⟩
theorem refWants_any (n : Int) (w : World) (hn : I64 n) : Calls Tryd.prog 11 #[.int .i64 n] w fun e w' => e = .returned (.int .i64 (wantsR n)) ∧ Below w.heap.size w w' := by
  have H := Lib.hid (refWants4_any n w hn)
  clear hn
  go_enter Tryd.func11, Tryd.ntmps11
  go_wp2_with fail
  refine H.out.mono ?_
  rintro e w7 ⟨rfl, hb7⟩
  go_wp2_with fail
  go_ret
  exact ⟨rfl, hb7⟩

/-- Append, Scan, Flush where there is no disk; what the law's own goes says of Each where there is none -/
def AppendNilSays : Prop := ∀ (w : World) (t n : Int) (bs : List Nat) (A : Option Addr) (c : Nat), By w w.heap.size A bs → bs.length ≤ c → c ≤ maxLen → I64 t → I64 n →
  Calls Tryd.prog 8 #[.pointer none, .agg #[.int .i64 t, .int .i64 n], .int .i64 1, .slice A bs.length c] w fun e w' =>
    (∃ t' n', e = .returned (.tuple #[.agg #[.int .i64 t', .int .i64 n'], .int .i64 1])) ∧ Below w.heap.size w w'
def ScanNilSays : Prop := ∀ (w : World) (n : Int), I64 n →
  Calls Tryd.prog 9 #[.pointer none, .int .i64 n] w fun e w' =>
    (∃ A l c t' n', e = .returned (.tuple #[.slice A l c, .agg #[.int .i64 t', .int .i64 n'], .int .i64 1])) ∧ Below w.heap.size w w'
def FlushNilSays : Prop := ∀ (w : World), Calls Tryd.prog 12 #[.pointer none] w fun e w' => e = .returned (.int .i64 1) ∧ Below w.heap.size w w'
def GoesNilSays : Prop := ∀ (w : World), Calls Tryd.prog 13 #[.pointer none, .int .i64 1, .slice none 0 0, .int .i64 0] w fun e w' => e = .returned (.bool true) ∧ Below w.heap.size w w'

set_option maxHeartbeats 2000000 in
theorem says_small (hAN : AppendNilSays) (hSN : ScanNilSays) (hFN : FlushNilSays) (hGN : GoesNilSays) (hW : WantsSays) (hWk : WakesSays) (z x y : Int) (A : Option Addr) (c : Nat) (bs : List Nat) (w : World)
    (hA : By w w.heap.size A bs) (hl : bs.length ≤ 1000) (hc : bs.length ≤ c) (hcm : c ≤ maxLen) (hz : I64 z) (hx : I64 x) (hy : I64 y) (hWd : Widths w) :
    Calls Tryd.prog 3 #[.int .i64 z, .agg #[.int .i64 x, .int .i64 y], .slice A bs.length c] w fun e w' => e = .returned (.bool true) ∧ Below w.heap.size w w' := by
  have hq : ¬ (1000 : Int) < (bs.length : Int) := by omega
  have HA := Lib.hid hA
  have HWd := Lib.hid hWd
  obtain ⟨w0, hw0⟩ : ∃ w0, w0 = w.alloc (.cells #[.int .i64 x, .int .i64 y] 23) := ⟨_, rfl⟩
  have hb0 : Below w.heap.size w w0 := by rw [hw0]; exact (Below.refl _ w).alloc (Nat.le_refl _) _
  have hr0 : w0.heap[w.heap.size]? = some (.cells #[.int .i64 x, .int .i64 y] 23 (0, 0)) := by rw [hw0]; exact heap_alloc_new w _
  have HC := Lib.hid (hAN w0 x y bs A c ((hA.below hb0 (Nat.le_refl _)).mono hb0.size) hc hcm hx hy)
  have HS := Lib.hid (fun W => hSN W z hz)
  have HR := Lib.hid (fun W => refWants_any z W hz)
  have HW0 := Lib.hid hw0
  have HB0 := Lib.hid hb0
  have z0 := cell_of_row w0 w.heap.size 0 _ _ _ hr0
  have z1 := cell_of_row w0 w.heap.size 1 _ _ _ hr0
  simp only [List.getElem?_toArray, List.getElem?_cons_zero, List.getElem?_cons_succ] at z0 z1
  rw [hw0] at z0 z1
  clear hA hWd hl hc hcm hz hx hy hw0 hb0 hr0
  go_enter Tryd.func3, Tryd.ntmps3
  go_wp2_with fail
  rw [← HW0.out]
  refine HC.out.mono ?_
  rintro e w1 ⟨⟨t1, n1, rfl⟩, hb1⟩
  have HB1 := Lib.hid (HB0.out.trans (hb1.mono HB0.out.size))
  clear hb1 z0 z1
  go_wp2_with fail
  refine (HS.out _).mono ?_
  rintro e w2 ⟨⟨A2, l2, c2, t2, n2, rfl⟩, hb2⟩
  have HB2 := Lib.hid (((HB1.out.alloc HB1.out.size (.cells #[.int .i64 t1, .int .i64 n1] 23))).trans (hb2.mono (Nat.le_trans HB1.out.size (by simp))))
  clear hb2
  go_wp2_with fail
  refine (hW z _).mono ?_
  rintro e w3 ⟨rfl, hb3⟩
  have HB3 := Lib.hid ((HB2.out.alloc HB2.out.size (.cells #[.int .i64 t2, .int .i64 n2] 23)).trans (hb3.mono (Nat.le_trans HB2.out.size (by simp))))
  clear hb3
  obtain ⟨wz, hwz⟩ : ∃ wz, wz = wantsR z := ⟨_, rfl⟩
  rw [← hwz]
  go_wp2_with fail
  refine (HR.out _).mono ?_
  rintro e w4 ⟨rfl, hb4⟩
  rw [← hwz]
  have HB4 := Lib.hid (HB3.out.trans (hb4.mono HB3.out.size))
  clear hb4 hwz
  have he : (wz == wz) = true := by simp
  have he2 : decide (wz = wz) = true := by simp
  go_wp2_with fail
  refine (hFN _).mono ?_
  rintro e w5 ⟨rfl, hb5⟩
  have HB5 := Lib.hid (HB4.out.trans (hb5.mono HB4.out.size))
  clear hb5
  go_wp2_with fail
  refine (hGN _).mono ?_
  rintro e w6 ⟨rfl, hb6⟩
  have HB6 := Lib.hid (HB5.out.trans (hb6.mono HB5.out.size))
  clear hb6
  go_wp2_with fail
  refine (hWk _ (widths_low HWd.out HB6.out HWd.out.1)).mono ?_
  rintro e w7 ⟨rfl, hb7⟩
  have HB7 := Lib.hid (HB6.out.trans (hb7.mono HB6.out.size))
  clear hb7
  go_wp2_with fail
  go_ret
  exact ⟨rfl, HB7.out⟩
end Go.Proofs.YtkajcgpkldofjaaDoor
end

section
/-
  From a contract to the row: how the arguments of these laws open, and what the row asks at the end.
-/
namespace Go.Proofs.YtkajcgpkldofjaaDoor
set_option maxRecDepth 100000
open Go.ChangeShapes Go.WideShapes Go.ChangeAt Go.RowKit

theorem Tryd.own : ownKnob Tryd.prog.godebug = none := by kernel_rfl
theorem Tryd.laidOut : laidOutB Tryd.prog = true := by kernel_rfl
theorem Tryd.cells5 : Tryd.prog.cellsOf 5 = 1 := by kernel_rfl
theorem Tryd.cells3 : Tryd.prog.cellsOf 3 = 1 := by kernel_rfl

theorem u8_range {n : Int} (h : (Lit.int .u8 n).wf = true) : 0 ≤ n ∧ n ≤ 255 := by
  have h1 : IntKind.u8.min = 0 := rfl
  have h2 : IntKind.u8.max = 255 := rfl
  simp only [Lit.wf, Bool.and_eq_true, decide_eq_true_eq] at h
  omega
theorem u32_range {n : Int} (h : (Lit.int .u32 n).wf = true) : 0 ≤ n ∧ n ≤ 4294967295 := by
  have h1 : IntKind.u32.min = 0 := rfl
  have h2 : IntKind.u32.max = 4294967295 := rfl
  simp only [Lit.wf, Bool.and_eq_true, decide_eq_true_eq] at h
  omega
theorem i64_range {n : Int} (h : (Lit.int .i64 n).wf = true) : -9223372036854775808 ≤ n ∧ n ≤ 9223372036854775807 := by
  have h1 : IntKind.i64.min = -9223372036854775808 := rfl
  have h2 : IntKind.i64.max = 9223372036854775807 := rfl
  simp only [Lit.wf, Bool.and_eq_true, decide_eq_true_eq] at h
  omega

/-- An argument that is a slice of integers: its cells. -/
theorem open_row {H : Type} {enc : TypeId × Value → H} {W : World} {t e : TypeId} {k : IntKind} {a : Option Addr} {len cap : Nat} {d : DataW H} {p : List MemPlace}
    (ht : Tryd.prog.underlying t = some (.slice e)) (he : Tryd.prog.underlying e = some (.int k)) (hc : Tryd.prog.cellsOf e = 1)
    (h : DataW.Trod enc Tryd.prog W 0 (fun _ => true) true t (.slice a len cap) d p) (hlt : ∀ x ∈ p, x.block < W.heap.size) :
    len ≤ cap ∧ cap ≤ maxLen ∧ (a = none → cap = 0) ∧ ∃ zs : List Int, zs.length = len ∧ (∀ n ∈ zs, (Lit.int k n).wf = true) ∧
      (0 < len → ∃ b off, a = some ⟨b, off, none⟩ ∧ b < W.heap.size ∧ ∀ j, j < len → W.cell? ⟨b, off + j, none⟩ = some (.int k (zs.getD j 0))) := by
  obtain ⟨fuel, hf⟩ := h
  rcases open_ints ht he hc hf with ⟨hcs, hx⟩ | ⟨a', len', cap', zs, hcs, _, hl, hm, hz, hx, hcell, hwz⟩
  · simp [Value.cells] at hcs
    obtain ⟨rfl, rfl, rfl⟩ := hcs
    exact ⟨Nat.le_refl _, (by unfold maxLen; omega), (fun _ => rfl), [], rfl, (fun _ h => (List.not_mem_nil h).elim), fun h => absurd h (by omega)⟩
  · simp [Value.cells] at hcs
    obtain ⟨rfl, rfl, rfl⟩ := hcs
    simp only [Prod.mk.injEq] at hx
    obtain ⟨rfl, rfl⟩ := hx
    simp only [if_true] at hz
    refine ⟨hl, hm, (fun e => by cases e), zs.take len, (by rw [List.length_take]; omega), (fun n hn => hwz n (List.mem_of_mem_take hn)), fun hn => ?_⟩
    obtain ⟨b, off, spot⟩ := a'
    have hspot : spot = none := by simpa [Addr.add] using World.cell?_spot (hcell 0 (by omega))
    subst hspot
    refine ⟨b, off, rfl, hlt (.cell b off) (MemPlace.mem_row.2 ⟨0, by omega, by simp⟩), fun j hj => ?_⟩
    rw [← add_flat, hcell j (by omega)]
    have e : (zs.take len).getD j 0 = zs.getD j 0 := by
      have h1 : j < zs.length := by omega
      simp [List.getD, hj]
    rw [e]

/-- An argument that is a slice of bytes. -/
theorem open_by {H : Type} {enc : TypeId × Value → H} {W : World} {a : Option Addr} {len cap : Nat} {d : DataW H} {p : List MemPlace}
    (h : DataW.Trod enc Tryd.prog W 0 (fun _ => true) true 24 (.slice a len cap) d p) (hlt : ∀ x ∈ p, x.block < W.heap.size) :
    ∃ bs : List Nat, bs.length = len ∧ By W W.heap.size a bs ∧ len ≤ cap ∧ cap ≤ maxLen ∧ (a = none → cap = 0) := by
  obtain ⟨h1, h2, h3, zs, hz, hw, hc⟩ := open_row Tryd.underlying24 Tryd.underlying5 Tryd.cells5 h hlt
  refine ⟨zs.map Int.toNat, by rw [List.length_map, hz], ⟨fun x hx => ?_, fun hn => ?_⟩, h1, h2, h3⟩
  · obtain ⟨n, hn, rfl⟩ := List.mem_map.1 hx
    have := u8_range (hw n hn)
    omega
  · rw [List.length_map, hz] at hn
    obtain ⟨b, off, e, hb, hcell⟩ := hc hn
    refine ⟨b, off, e, hb, fun j hj => ?_⟩
    rw [List.length_map, hz] at hj
    have hj' : j < zs.length := by omega
    rw [hcell j hj]
    have e1 : zs.getD j 0 = zs[j] := by simp [List.getD, hj']
    have e2 : (zs.map Int.toNat).getD j 0 = zs[j].toNat := by simp [List.getD, hj']
    have := u8_range (hw _ (List.getElem_mem hj'))
    rw [e1, e2, Int.toNat_of_nonneg this.1]

/-- An argument that is a slice of arrays of integers: its cells, one array behind the other. -/
theorem open_arrays {H : Type} {enc : TypeId × Value → H} {W : World} {t e e' : TypeId} {k : IntKind} {q : Nat} {a : Option Addr} {len cap : Nat} {d : DataW H} {p : List MemPlace}
    (ht : Tryd.prog.underlying t = some (.slice e)) (he : Tryd.prog.underlying e = some (.array q e')) (he' : Tryd.prog.underlying e' = some (.int k)) (hc : Tryd.prog.cellsOf e = q) (hc' : Tryd.prog.cellsOf e' = 1) (hq : 0 < q)
    (h : DataW.Trod enc Tryd.prog W 0 (fun _ => true) true t (.slice a len cap) d p) (hlt : ∀ x ∈ p, x.block < W.heap.size) :
    len ≤ cap ∧ cap ≤ maxLen ∧ (a = none → cap = 0) ∧ ∃ zs : List Int, zs.length = len * q ∧ (∀ n ∈ zs, (Lit.int k n).wf = true) ∧
      (0 < len → ∃ b off, a = some ⟨b, off, none⟩ ∧ b < W.heap.size ∧ ∀ j, j < len * q → W.cell? ⟨b, off + j, none⟩ = some (.int k (zs.getD j 0))) := by
  obtain ⟨fuel, hf⟩ := h
  rcases Deep.open_slice ht hf with ⟨hcs, hx⟩ | ⟨a', len', cap', m, n, D, Pl, hcs, _, hl, hm, hmm, hx, hel⟩
  · simp [Value.cells] at hcs
    obtain ⟨rfl, rfl, rfl⟩ := hcs
    exact ⟨Nat.le_refl _, (by unfold maxLen; omega), (fun _ => rfl), [], by simp, (fun _ h => (List.not_mem_nil h).elim), fun h => absurd h (by omega)⟩
  · simp [Value.cells] at hcs
    obtain ⟨rfl, rfl, rfl⟩ := hcs
    simp only [Prod.mk.injEq] at hx
    obtain ⟨rfl, rfl⟩ := hx
    simp only [if_true] at hmm
    subst hmm
    rw [hc] at hel hlt
    have each : ∀ j, j < len * q → ∃ z : Int, W.cell? (a'.add j) = some (.int k z) ∧ (Lit.int k z).wf = true := by
      intro j hj
      have hi : j / q < len := Nat.div_lt_of_lt_mul (by rwa [Nat.mul_comm])
      have hr : j % q < q := Nat.mod_lt _ hq
      obtain ⟨cs', h1, h2⟩ := hel (j / q) (by omega)
      obtain ⟨_, hlen, hcell⟩ := World.cells?_some h1
      obtain ⟨xs, f, _, _, _, hxl, hxs⟩ := DataW.trod_array he h2
      have hx1 := hxs (j % q) hr
      rw [hc', Nat.mul_one, List.getElem?_eq_getElem (by omega)] at hx1
      obtain ⟨z, hz, _, hw⟩ := DataW.trod_int he' hx1
      refine ⟨z, ?_, hw⟩
      have h3 := hcell (j % q) hr
      rw [Deep.add_add, Nat.mul_comm, Nat.div_add_mod] at h3
      rw [h3]
      have h4 := congrArg (·[0]?) hz
      simpa using h4
    obtain ⟨f, hfz⟩ := Deep.choose_lt each
    have hg : ∀ j, j < len * q → ((List.range (len * q)).map f).getD j 0 = f j := fun j hj => by simp [List.getD, hj]
    refine ⟨hl, hm, (fun e => by cases e), (List.range (len * q)).map f, by simp, fun z hz => ?_, fun hn => ?_⟩
    · obtain ⟨j, hj, rfl⟩ := List.mem_map.1 hz
      exact (hfz j (List.mem_range.1 hj)).2
    · have hn' : 0 < len * q := Nat.mul_pos hn hq
      obtain ⟨b, off, spot⟩ := a'
      have hspot : spot = none := by simpa [Addr.add] using World.cell?_spot (hfz 0 hn').1
      subst hspot
      have hcap := Nat.mul_pos (Nat.lt_of_lt_of_le hn hl) hq
      refine ⟨b, off, rfl, hlt (.cell b off) (List.mem_append_left _ (MemPlace.mem_row.2 ⟨0, hcap, by simp⟩)), fun j hj => ?_⟩
      rw [← add_flat, (hfz j hj).1, hg j hj]
/-- .. of bytes. -/
theorem by_of_ints {W : World} {a : Option Addr} {n : Nat} {zs : List Int} (hz : zs.length = n) (hw : ∀ z ∈ zs, (Lit.int .u8 z).wf = true)
    (hc : 0 < n → ∃ b off, a = some ⟨b, off, none⟩ ∧ b < W.heap.size ∧ ∀ j, j < n → W.cell? ⟨b, off + j, none⟩ = some (.int .u8 (zs.getD j 0))) :
    ∃ bs : List Nat, bs.length = n ∧ By W W.heap.size a bs := by
  refine ⟨zs.map Int.toNat, by rw [List.length_map, hz], ⟨fun x hx => ?_, fun hn => ?_⟩⟩
  · obtain ⟨z, hz', rfl⟩ := List.mem_map.1 hx
    have := u8_range (hw z hz')
    omega
  · rw [List.length_map, hz] at hn
    obtain ⟨b, off, e, hb, hcell⟩ := hc hn
    refine ⟨b, off, e, hb, fun j hj => ?_⟩
    rw [List.length_map, hz] at hj
    have hj' : j < zs.length := by omega
    rw [hcell j hj]
    have e1 : zs.getD j 0 = zs[j] := by simp [List.getD, hj']
    have e2 : (zs.map Int.toNat).getD j 0 = zs[j].toNat := by simp [List.getD, hj']
    have := u8_range (hw _ (List.getElem_mem hj'))
    rw [e1, e2, Int.toNat_of_nonneg this.1]
end Go.Proofs.YtkajcgpkldofjaaDoor
end

section
/-
  What the laid variable gives; a frame that came in.
-/
namespace Go.Proofs.YtkajcgpkldofjaaDoor.Fm
set_option maxRecDepth 100000
open Go.ChangeShapes Go.WideShapes Go.ChangeAt Go.RowKit Go.Deep

abbrev laidW : List (String × DataW Unit) := [("cashbox/frame.widths", Rows.laid_cashbox_frame_widths)]
theorem gWidths : Tryd.prog.globalNamed "cashbox/frame.widths" = some 0 := by kernel_rfl
theorem tWidths : (Tryd.prog.globals[0]?).map (·.type) = some 126 := by kernel_rfl
theorem at_one {l : List Value} {i : Nat} {v : Value} (h : (l.drop i).take 1 = [v]) : l[i]? = some v := by
  have h1 := congrArg (fun m => m[0]?) h
  simpa [List.getElem?_take, List.getElem?_drop] using h1
/-- the door's own heap meets what the row asks -/
theorem door_met (os : Os) (args : Array Value) : laidMetH Tryd.prog laidW ((World.doorLaid Tryd.prog 400 os).forCall (fun _ _ => 0) ⟨#[], args, []⟩).memory :=
  laidMetH_of_parts3 (fuel := 8) (laidMet_of_run' 8 (by kernel_rfl) (by kernel_rfl)) (by kernel_rfl) (by kernel_rfl)
theorem of_laid {W : World} (h : laidMetH Tryd.prog laidW W) : Widths W := by
  rw [MakeChecks.laidMetH_plain _ _ _ (by kernel_rfl)] at h
  obtain ⟨ps, ⟨g0, t0, cs0, f0, p0, q0, hg0, ht0, hv0, hd0, _, _⟩, _, _⟩ := h
  obtain rfl := Option.some.inj (gWidths.symm.trans hg0)
  obtain rfl := Option.some.inj (tWidths.symm.trans ht0)
  obtain ⟨xs, m1, rfl, hx1, hlen, hn5, hel⟩ := DataW.trod_array Tryd.underlying126 hd0
  have hcell := World.var?_cell hg0 hv0
  simp only [Prod.mk.injEq, Rows.laid_cashbox_frame_widths, DataW.agg.injEq] at hx1
  have hat : ∀ i n, i < 5 → (xs.map (·.1))[i]? = some (.lit (.int .i64 n)) → W.cell? ⟨0, i, none⟩ = some (.int .i64 n) := fun i n hi hn => by
    have e := hel i hi
    rw [List.getElem?_eq_getElem (by omega)] at e
    obtain ⟨k, h1, h2, _⟩ := DataW.trod_int Tryd.underlying3 e
    rw [Tryd.cells3, Nat.mul_one] at h1
    rw [List.getElem?_map, List.getElem?_eq_getElem (by omega), h2] at hn
    simp only [Option.map_some, Option.some.injEq, DataW.lit.injEq, Lit.int.injEq, true_and] at hn
    subst hn
    rw [hcell, ← Array.getElem?_toList]
    exact at_one h1
  rw [← hx1.1] at hat
  have c0 := hat 0 6 (by omega) rfl
  refine ⟨?_, c0, hat 1 3 (by omega) rfl, hat 2 1 (by omega) rfl, hat 3 1 (by omega) rfl, hat 4 4 (by omega) rfl⟩
  rcases Nat.eq_zero_or_pos W.heap.size with h | h
  · have hn : W.heap[0]? = none := Array.getElem?_eq_none (by omega)
    simp [World.cell?, hn] at c0
  · exact h

theorem six_ways_or (i : Nat) : i = 0 ∨ i = 1 ∨ i = 2 ∨ i = 3 ∨ i = 4 ∨ i = 5 ∨ 6 ≤ i := by omega
/-- a frame that came in -/
theorem open_frame {H : Type} {enc : TypeId × Value → H} {W : World} {base : Nat} {v : Value} {d : DataW H} {p : List MemPlace} (hv : Value.okWide Tryd.prog W .any base 54 v)
    (h : DataW.Trod enc Tryd.prog W 0 (fun _ => true) true 54 v d p) (hl : ∀ x ∈ p, x.block < W.heap.size) : ∃ A c f, v = .agg (frv A c f).toArray ∧ FrV W W.heap.size (frv A c f) f := by
  obtain ⟨cs, rfl, hsz⟩ := okWide_struct Tryd.underlying54 hv
  have h6 : Tryd.prog.cellsOf 54 = 6 := by kernel_rfl
  have k1 : Tryd.prog.cellsOf 52 = 1 := by kernel_rfl
  have k2 : Tryd.prog.cellsOf 24 = 1 := by kernel_rfl
  rw [h6] at hsz
  obtain ⟨fuel, hf⟩ := h
  obtain ⟨xs, n, _, hx, _, hlen, hg⟩ := DataW.trod_struct Tryd.underlying54 hf
  have hlen6 : xs.length = 6 := hlen
  simp only [Prod.mk.injEq] at hx
  have g0 : DataW.trod enc Tryd.prog W 0 (fun _ => true) true n 3 ((cs.toList.drop 0).take (Tryd.prog.cellsOf 3)) = xs[0]? := hg 0 _ rfl
  have g1 : DataW.trod enc Tryd.prog W 0 (fun _ => true) true n 3 ((cs.toList.drop 1).take (Tryd.prog.cellsOf 3)) = xs[1]? := hg 1 _ rfl
  have g2 : DataW.trod enc Tryd.prog W 0 (fun _ => true) true n 3 ((cs.toList.drop 2).take (Tryd.prog.cellsOf 3)) = xs[2]? := hg 2 _ rfl
  have g3 : DataW.trod enc Tryd.prog W 0 (fun _ => true) true n 3 ((cs.toList.drop 3).take (Tryd.prog.cellsOf 3)) = xs[3]? := hg 3 _ rfl
  have g4 : DataW.trod enc Tryd.prog W 0 (fun _ => true) true n 52 ((cs.toList.drop 4).take (Tryd.prog.cellsOf 52)) = xs[4]? := hg 4 _ rfl
  have g5 : DataW.trod enc Tryd.prog W 0 (fun _ => true) true n 24 ((cs.toList.drop 5).take (Tryd.prog.cellsOf 24)) = xs[5]? := hg 5 _ rfl
  rw [Tryd.cells3] at g0 g1 g2 g3
  rw [k1] at g4
  rw [k2] at g5
  rw [List.getElem?_eq_getElem (by omega)] at g0 g1 g2 g3 g4 g5
  obtain ⟨z0, a0, _, r0⟩ := DataW.trod_int Tryd.underlying3 g0
  obtain ⟨z1, a1, _, r1⟩ := DataW.trod_int Tryd.underlying3 g1
  obtain ⟨z2, a2, _, r2⟩ := DataW.trod_int Tryd.underlying3 g2
  obtain ⟨z3, a3, _, r3⟩ := DataW.trod_int Tryd.underlying3 g3
  obtain ⟨z4, a4, _, r4⟩ := DataW.trod_int Tryd.underlying52 g4
  have hmem : ∀ x ∈ (xs[5]'(by omega)).2, x.block < W.heap.size := fun x hxm => hl x (by rw [hx.2]; exact List.mem_flatMap.2 ⟨xs[5], List.getElem_mem _, hxm⟩)
  have hsl : ∃ A len c, (cs.toList.drop 5).take 1 = [.slice A len c] := by
    rcases DataW.trod_slice Tryd.underlying24 g5 with ⟨hcs, _⟩ | ⟨a, len, cap, _, _, _, _, hcs, _⟩
    · exact ⟨_, _, _, hcs⟩
    · exact ⟨_, _, _, hcs⟩
  obtain ⟨A, len, c, a5⟩ := hsl
  rw [a5] at g5
  obtain ⟨bs, rfl, hby, hc1, hc2, hc3⟩ := open_by (enc := enc) (a := A) (len := len) (cap := c) ⟨n, g5⟩ hmem
  have b0 := at_one a0
  have b1 := at_one a1
  have b2 := at_one a2
  have b3 := at_one a3
  have b4 := at_one a4
  have b5 := at_one a5
  have hm := u32_range r4
  have hm4 : ((z4.toNat : Nat) : Int) = z4 := by omega
  refine ⟨A, c, ⟨z0, z1, z2, z3, z4.toNat, bs⟩, ?_, A, c, rfl, hby, hc1, hc2, hc3, ⟨i64_range r0, i64_range r1, i64_range r2, i64_range r3, by show z4.toNat < 4294967296; omega, hby.1⟩⟩
  have hcs : cs.toList = frv A c ⟨z0, z1, z2, z3, z4.toNat, bs⟩ := by
    refine List.ext_getElem? fun i => ?_
    unfold frv
    rw [hm4]
    rcases six_ways_or i with rfl | rfl | rfl | rfl | rfl | rfl | hi
    · exact b0
    · exact b1
    · exact b2
    · exact b3
    · exact b4
    · exact b5
    · rw [List.getElem?_eq_none (by rw [Array.length_toList]; omega), List.getElem?_eq_none (by simp; omega)]
  rw [← hcs]
end Go.Proofs.YtkajcgpkldofjaaDoor.Fm
end

section
/-
  From a contract to the row, where no slice is an argument: a log as an argument.
-/
namespace Go.Proofs.YtkajcgpkldofjaaDoor.Rg
set_option maxRecDepth 100000
open Go.ChangeShapes Go.WideShapes Go.ChangeAt Go.RowKit

theorem Tryd.own : ownKnob Tryd.prog.godebug = none := by kernel_rfl
theorem Tryd.laidOut : laidOutB Tryd.prog = true := by kernel_rfl
theorem Tryd.cells3 : Tryd.prog.cellsOf 3 = 1 := by kernel_rfl
theorem i64_range {n : Int} (h : (Lit.int .i64 n).wf = true) : -9223372036854775808 ≤ n ∧ n ≤ 9223372036854775807 := by
  have h1 : IntKind.i64.min = -9223372036854775808 := rfl
  have h2 : IntKind.i64.max = 9223372036854775807 := rfl
  simp only [Lit.wf, Bool.and_eq_true, decide_eq_true_eq] at h
  omega
theorem open_log {H : Type} {enc : TypeId × Value → H} {W : World} {base : Nat} {v : Value} {d : DataW H} {p : List MemPlace} (hv : Value.okWide Tryd.prog W .any base 23 v)
    (h : DataW.Trod enc Tryd.prog W 0 (fun _ => true) true 23 v d p) : ∃ x y, v = .agg #[.int .i64 x, .int .i64 y] ∧ (Lit.int .i64 x).wf = true ∧ (Lit.int .i64 y).wf = true := by
  obtain ⟨cs, rfl, hsz⟩ := okWide_struct Tryd.underlying23 hv
  have h2 : Tryd.prog.cellsOf 23 = 2 := by kernel_rfl
  rw [h2] at hsz
  obtain ⟨fuel, hf⟩ := h
  obtain ⟨xs, n, _, hx, _, hlen, hg⟩ := DataW.trod_struct Tryd.underlying23 hf
  have hlen2 : xs.length = 2 := hlen
  have g0 : DataW.trod enc Tryd.prog W 0 (fun _ => true) true n 3 ((cs.toList.drop 0).take (Tryd.prog.cellsOf 3)) = xs[0]? := hg 0 _ rfl
  have g1 : DataW.trod enc Tryd.prog W 0 (fun _ => true) true n 3 ((cs.toList.drop 1).take (Tryd.prog.cellsOf 3)) = xs[1]? := hg 1 _ rfl
  rw [Tryd.cells3] at g0 g1
  rw [List.getElem?_eq_getElem (by omega)] at g0 g1
  obtain ⟨z0, a0, _, r0⟩ := DataW.trod_int Tryd.underlying3 g0
  obtain ⟨z1, a1, _, r1⟩ := DataW.trod_int Tryd.underlying3 g1
  refine ⟨z0, z1, ?_, r0, r1⟩
  obtain ⟨l⟩ := cs
  match l, hsz with
  | [u0, u1], _ =>
    simp at a0 a1
    rw [a0, a1]
end Go.Proofs.YtkajcgpkldofjaaDoor.Rg
end

section
/-
  From a contract to the row: a row of rows of bytes, a plan.
-/
namespace Go.Proofs.YtkajcgpkldofjaaDoor
open Go.ChangeShapes Go.WideShapes Go.ChangeAt Go.RowKit
set_option maxRecDepth 100000

theorem slice_form {H : Type} {enc : TypeId × Value → H} {W : World} {t e : TypeId} {fuel : Nat} {v : Value} {x : DataW H × List MemPlace} (ht : Tryd.prog.underlying t = some (.slice e))
    (h : DataW.trod enc Tryd.prog W 0 (fun _ => true) true fuel t [v] = some x) : ∃ a len cap, v = .slice a len cap ∧ len ≤ cap ∧ cap ≤ maxLen := by
  rcases Deep.open_slice ht h with ⟨hcs, _⟩ | ⟨a', len', cap', m, n, D, Pl, hcs, _, hl, hm, _⟩
  · simp at hcs
    exact ⟨none, 0, 0, hcs, Nat.le_refl _, by unfold maxLen; omega⟩
  · simp at hcs
    exact ⟨_, _, _, hcs, hl, hm⟩
theorem one_of {cs : List Value} (h : cs.length = 1) : ∃ c0, cs = [c0] := by
  match cs, h with
  | [c0], _ => exact ⟨c0, rfl⟩
theorem two_of {cs : List Value} (h : cs.length = 2) : ∃ c0 c1, cs = [c0, c1] := by
  match cs, h with
  | [c0, c1], _ => exact ⟨c0, c1, rfl⟩

/-- An argument that is a row of rows of bytes. -/
theorem open_rows {H : Type} {enc : TypeId × Value → H} {W : World} {a : Option Addr} {len cap : Nat} {d : DataW H} {p : List MemPlace}
    (h : DataW.Trod enc Tryd.prog W 0 (fun _ => true) true 29 (.slice a len cap) d p) (hlt : ∀ x ∈ p, x.block < W.heap.size) :
    ∃ rows : List (List Nat), rows.length = len ∧ RowsP W (· < W.heap.size) a rows ∧ len ≤ cap ∧ cap ≤ maxLen ∧ (a = none → cap = 0) := by
  obtain ⟨fuel, hf⟩ := h
  rcases Deep.open_slice Tryd.underlying29 hf with ⟨hcs, hx⟩ | ⟨a', len', cap', m, n, D, Pl, hcs, _, hl, hm, hmm, hx, hel⟩
  · simp [Value.cells] at hcs
    obtain ⟨rfl, rfl, rfl⟩ := hcs
    exact ⟨[], rfl, RowsP.nil_, Nat.le_refl _, by unfold maxLen; omega, fun _ => rfl⟩
  · simp [Value.cells] at hcs
    obtain ⟨rfl, rfl, rfl⟩ := hcs
    simp only [Prod.mk.injEq] at hx
    obtain ⟨rfl, rfl⟩ := hx
    simp only [if_true] at hmm
    subst hmm
    have hc1 : Tryd.prog.cellsOf 24 = 1 := by kernel_rfl
    rw [hc1] at hel hlt
    have each : ∀ i, i < len → ∃ bs : List Nat, ∃ v, W.cell? (a'.add i) = some v ∧ OneP W (· < W.heap.size) v bs := by
      intro i hi
      obtain ⟨cs', h1, h2⟩ := hel i (by omega)
      obtain ⟨_, hlen, hcell⟩ := World.cells?_some h1
      obtain ⟨c0, rfl⟩ := one_of hlen
      obtain ⟨A, bl, bc, rfl, _, _⟩ := slice_form Tryd.underlying24 h2
      obtain ⟨bs, hbl, hby, hb1, hb2, hb3⟩ := open_by (d := D i) (p := Pl i) ⟨n, by simpa [Value.cells] using h2⟩ (fun x hx => hlt x (List.mem_append_right _ (List.mem_flatMap.2 ⟨i, List.mem_range.2 (by omega), hx⟩)))
      refine ⟨bs, .slice A bl bc, ?_, A, bc, by rw [hbl], ByP.of_by hby (fun _ h => h), by omega, hb2, hb3⟩
      have := hcell 0 (by simp)
      rw [Deep.add_add] at this
      simpa using this
    obtain ⟨f, hfz⟩ := Deep.choose_lt each
    refine ⟨(List.range len).map f, by simp, ⟨fun r hr => ?_, fun hn => ?_⟩, hl, hm, (fun e => by cases e)⟩
    · obtain ⟨j, hj, rfl⟩ := List.mem_map.1 hr
      obtain ⟨v, _, hv⟩ := hfz j (List.mem_range.1 hj)
      exact hv.lt
    · have hn' : 0 < len := by simpa using hn
      obtain ⟨b, off, spot⟩ := a'
      have hspot : spot = none := by
        obtain ⟨v, hv, _⟩ := hfz 0 hn'
        simpa [Addr.add] using World.cell?_spot hv
      subst hspot
      refine ⟨b, off, rfl, hlt (.cell b off) (List.mem_append_left _ (MemPlace.mem_row.2 ⟨0, by omega, by simp⟩)), fun j hj => ?_⟩
      have hj' : j < len := by simpa using hj
      obtain ⟨v, q0, q1⟩ := hfz j hj'
      rw [add_flat] at q0
      exact ⟨v, q0, by simpa using q1⟩
/-- An argument that is a plan. -/
theorem open_plan {H : Type} {enc : TypeId × Value → H} {W : World} {a : Option Addr} {len cap : Nat} {d : DataW H} {p : List MemPlace}
    (h : DataW.Trod enc Tryd.prog W 0 (fun _ => true) true 36 (.slice a len cap) d p) (hlt : ∀ x ∈ p, x.block < W.heap.size) :
    ∃ plan : List (Int × Int), plan.length = len ∧ Dk.PlanAt W W.heap.size a plan ∧ (∀ x ∈ plan, (-9223372036854775808 ≤ x.1 ∧ x.1 ≤ 9223372036854775807) ∧ -9223372036854775808 ≤ x.2 ∧ x.2 ≤ 9223372036854775807) ∧ len ≤ maxLen := by
  obtain ⟨fuel, hf⟩ := h
  rcases Deep.open_slice Tryd.underlying36 hf with ⟨hcs, hx⟩ | ⟨a', len', cap', m, n, D, Pl, hcs, _, hl, hm, hmm, hx, hel⟩
  · simp [Value.cells] at hcs
    obtain ⟨rfl, rfl, rfl⟩ := hcs
    exact ⟨[], rfl, fun h => absurd h (by simp), fun x hx => (List.not_mem_nil hx).elim, by unfold maxLen; omega⟩
  · simp [Value.cells] at hcs
    obtain ⟨rfl, rfl, rfl⟩ := hcs
    simp only [Prod.mk.injEq] at hx
    obtain ⟨rfl, rfl⟩ := hx
    simp only [if_true] at hmm
    subst hmm
    have hc2 : Tryd.prog.cellsOf 109 = 2 := by kernel_rfl
    rw [hc2] at hel hlt
    have each : ∀ i, i < len → ∃ x : Int × Int, (W.cell? (a'.add (i * 2)) = some (.int .i64 x.1) ∧ W.cell? (a'.add (i * 2 + 1)) = some (.int .i64 x.2)) ∧
        (-9223372036854775808 ≤ x.1 ∧ x.1 ≤ 9223372036854775807) ∧ -9223372036854775808 ≤ x.2 ∧ x.2 ≤ 9223372036854775807 := by
      intro i hi
      obtain ⟨cs', h1, h2⟩ := hel i (by omega)
      obtain ⟨_, hlen, hcell⟩ := World.cells?_some h1
      obtain ⟨c0, c1, rfl⟩ := two_of hlen
      obtain ⟨xs, m, _, hx, _, hlen2, hg⟩ := DataW.trod_struct Tryd.underlying109 h2
      have hlen3 : xs.length = 2 := hlen2
      have g0 : DataW.trod enc Tryd.prog W 0 (fun _ => true) true m 3 (([c0, c1].drop 0).take (Tryd.prog.cellsOf 3)) = xs[0]? := hg 0 _ rfl
      have g1 : DataW.trod enc Tryd.prog W 0 (fun _ => true) true m 3 (([c0, c1].drop 1).take (Tryd.prog.cellsOf 3)) = xs[1]? := hg 1 _ rfl
      rw [Tryd.cells3] at g0 g1
      rw [List.getElem?_eq_getElem (by omega)] at g0 g1
      obtain ⟨z0, a0, _, r0⟩ := DataW.trod_int Tryd.underlying3 g0
      obtain ⟨z1, a1, _, r1⟩ := DataW.trod_int Tryd.underlying3 g1
      obtain rfl : c0 = .int .i64 z0 := by simpa using a0
      obtain rfl : c1 = .int .i64 z1 := by simpa using a1
      refine ⟨(z0, z1), ⟨?_, ?_⟩, i64_range r0, i64_range r1⟩
      · have := hcell 0 (by simp); rw [Deep.add_add] at this; simpa using this
      · have := hcell 1 (by simp); rw [Deep.add_add] at this; simpa using this
    obtain ⟨f, hfz⟩ := Deep.choose_lt each
    have hg : ∀ j, j < len → ((List.range len).map f).getD j (0, 0) = f j := fun j hj => by simp [List.getD, hj]
    refine ⟨(List.range len).map f, by simp, fun hn => ?_, fun x hx => ?_, by omega⟩
    · have hn' : 0 < len := by simpa using hn
      obtain ⟨b, off, spot⟩ := a'
      have hspot : spot = none := by simpa [Addr.add] using World.cell?_spot (hfz 0 hn').1.1
      subst hspot
      refine ⟨b, off, rfl, hlt (.cell b off) (List.mem_append_left _ (MemPlace.mem_row.2 ⟨0, by omega, by simp⟩)), fun j hj => ?_⟩
      have hj' : j < len := by simpa using hj
      obtain ⟨⟨q0, q1⟩, _⟩ := hfz j hj'
      rw [hg j hj']
      rw [add_flat] at q0 q1
      exact ⟨q0, q1⟩
    · obtain ⟨j, hj, rfl⟩ := List.mem_map.1 hx
      exact (hfz j (List.mem_range.1 hj)).2
end Go.Proofs.YtkajcgpkldofjaaDoor
end

section
/-
  A range over a function whose values are told of in memory: the function turns a block Bs of its own, the body its own cells; the body may leave the range.
-/
namespace Go.Proofs.YtkajcgpkldofjaaDoor
open Go.RowKit

/-- What is said of a world stays while Bs turns. -/
def Lasts2 {σ : Type} (Bs : Nat) (J : σ → World → Prop) : Prop := ∀ s A A', J s A → Dk.Kept (fun k => k = Bs) A A' → J s A'
/-- The function that is ranged over tells x where s has come (G s x Wp W: since Wp it made what x names), and goes on with nx s x. -/
def Tells {σ α : Type} (F : Fence) (n : Nat) (P : Program) (g : Nat) (bd : Array Value) (encs : α → Array Value) (nx : σ → α → σ) (G : σ → α → World → World → Prop) (n0 Bs : Nat) (s0 : σ) (S : σ → Prop) (Fin : World → Prop) (w : World) : Prop :=
  ∀ (l : Nat) (J Jx : σ → World → Prop) (W : World), Below w.heap.size w W → l < W.heap.size → w.heap.size ≤ l → Lasts2 Bs J → Lasts2 Bs Jx →
    (∀ s x Wp W1, J s Wp → Below Wp.heap.size Wp W1 → G s x Wp W1 → W.heap.size ≤ Wp.heap.size → YieldAt F (n - 1) P l (encs x) W1 fun e W' =>
      Dk.Kept (fun k => (n0 ≤ k ∧ k ≠ Bs) ∧ k < Wp.heap.size) W1 W' ∧ ((e = .returned (.bool true) ∧ J (nx s x) W') ∨ (e = .returned (.bool false) ∧ Jx s W'))) →
    J s0 W → CallsIn F n P g (bd ++ #[.func (.yield l) #[] #[]]) W fun e W' => (∃ v, e = .returned v) ∧ Fin W' ∧ ((∃ s, S s ∧ J s W') ∨ ∃ s, Jx s W')

variable {F : Fence} {n : Nat} {P : Program}
theorem range_told {σ α : Type} {g : Operand} {ps : Array Tmp} {assign body : Code} {Q : Exit → Act → World → Prop} {a : Act} {w : World}
    (hro : F.round = none) (h1 : 1 ≤ n) {gf : Nat} {bd : Array Value} (hg : a.eval g = .func (.func gf) bd #[]) (hFg : F.fn gf) (eg : ∀ args w, (callFunc gf args).run P w = .ok (.enter gf args) w)
    {encs : α → Array Value} {nx : σ → α → σ} {G : σ → α → World → World → Prop} {n0 Bs : Nat} {s0 : σ} {S : σ → Prop} {Fin : World → Prop} {T : Nat → Prop}
    (hT : ∀ k, T k → (n0 ≤ k ∧ k ≠ Bs) ∧ k ≠ w.heap.size ∧ k ≠ w.heap.size + 1) (hn0 : n0 ≤ w.heap.size) (hBs : Bs < w.heap.size)
    (hFin : ∀ A A', Fin A → Dk.Kept (fun k => k = w.heap.size + 1) A A' → Fin A')
    (hseq : Tells F (n - 1) P gf bd encs nx G n0 Bs s0 S Fin w) (hps : ∀ x, (encs x).size = ps.size)
    (I : σ → World → Prop) (Ix : Nat → σ → World → Prop) (hI : ∀ s A A', I s A → Dk.Kept (fun k => k = Bs ∨ k = w.heap.size ∨ k = w.heap.size + 1) A A' → I s A')
    (hIx : ∀ id s A A', Ix id s A → Dk.Kept (fun k => k = Bs ∨ k = w.heap.size ∨ k = w.heap.size + 1) A A' → Ix id s A') (h0 : I s0 w)
    (hround : ∀ (s : σ) (x : α) (Wp W : World), w.heap.size + 1 < Wp.heap.size → I s Wp → Below Wp.heap.size Wp W → G s x Wp W →
      assign.wpIn (F.inRound (w.heap.size + 1)) (n - 1 - 1) P (Exit.then (fun a1 W1 => Below W.heap.size W W1 ∧ ∀ W2, W1.grownBy W2 (some (w.heap.size + 1)) →
        body.wpIn (F.inRound (w.heap.size + 1)) (n - 1 - 1) P (fun e _ W' => Dk.Kept (fun k => T k ∧ k < Wp.heap.size) W2 W' ∧ ((e = .normal ∧ I (nx s x) W') ∨ ∃ id, e = .exit id ∧ Ix id s W')) a1 W2) (fun _ _ _ => False))
        { tmps := (ps.zip (encs x)).foldl (fun t (p, v) => t.setIfInBounds p v) a.tmps, defers := [] } W)
    (hdone : ∀ (s : σ) (W : World), S s → I s W → Fin W → w.heap.size < W.heap.size → W.heap[w.heap.size]? = some (.deferred (some [])) → Q .normal { a with defers := { target := .collected w.heap.size, args := #[] } :: a.defers } W)
    (hstop : ∀ (id : Nat) (s : σ) (W : World), Ix id s W → Fin W → w.heap.size < W.heap.size → W.heap[w.heap.size]? = some (.deferred (some [])) → Q (.exit id) { a with defers := { target := .collected w.heap.size, args := #[] } :: a.defers } W) :
    (Code.rangeFunc g ps assign body).wpIn F n P Q a w := by
  refine wpIn_rangeFunc fun fn hfn => ?_
  rw [hro]
  obtain ⟨rec, hrec⟩ : ∃ rec : LoopState → Option Code → Loop, rec = fun st pe => { state := st, pending := pe, fn, tmps := a.tmps, params := ps, assign, body, defers := w.heap.size } := ⟨_, rfl⟩
  obtain ⟨W1, hW1⟩ : ∃ W1, W1 = (w.alloc (.deferred (some []))).alloc (.loop (rec .ready none)) := ⟨_, rfl⟩
  have hs1 : W1.heap.size = w.heap.size + 2 := by rw [hW1]; simp
  have hL1 : W1.heap[w.heap.size + 1]? = some (.loop (rec .ready none)) := by
    rw [hW1]
    have h2 := World.alloc_heap_new (w.alloc (.deferred (some []))) (.loop (rec .ready none))
    rwa [World.size_alloc] at h2
  have hK1 : W1.heap[w.heap.size]? = some (.deferred (some [])) := by
    rw [hW1, Below.heap_alloc _ _ _ (by simp)]
    exact World.alloc_heap_new w _
  have hb1 : Below w.heap.size w W1 := by rw [hW1]; exact ((Below.refl _ w).alloc (Nat.le_refl _) _).alloc (by simp) _
  have hI1 : I s0 W1 := hI _ _ _ h0 (Dk.Kept.of_below hb1 (Nat.le_refl _))
  have hput : ∀ (A : World) (o : Obj), Dk.Kept (fun k => k = Bs ∨ k = w.heap.size ∨ k = w.heap.size + 1) A (A.putObj (w.heap.size + 1) o) := fun A o =>
    (Dk.Kept.refl _ A).grown (grownBy_putObj' A _ o) (fun k e _ => by obtain rfl := Option.some.inj e; exact Or.inr (Or.inr rfl))
  have hputF : ∀ (A : World) (o : Obj), Dk.Kept (fun k => k = w.heap.size + 1) A (A.putObj (w.heap.size + 1) o) := fun A o =>
    (Dk.Kept.refl _ A).grown (grownBy_putObj' A _ o) (fun k e _ => by obtain rfl := Option.some.inj e; rfl)
  have hold : ∀ {A A' : World} (k : Nat) (o : Obj), Dk.Kept (fun k => k = Bs) A A' → (k = w.heap.size ∨ k = w.heap.size + 1) → A.heap[k]? = some o → A'.heap[k]? = some o := fun k o h e hk =>
    (h.block k (Array.getElem?_eq_some_iff.1 hk).1 (fun h2 => by omega)).trans hk
  refine ⟨w.heap.size + 1, [{ target := .collected w.heap.size, args := #[] }], W1, { target := .fn (.func gf) #[], args := bd ++ #[.func (.yield (w.heap.size + 1)) #[] #[]] }, W1, gf,
    bd ++ #[.func (.yield (w.heap.size + 1)) #[] #[]], W1, ?_, ?_, ?_, ?_, fun _ => h1, ?_⟩
  · rw [hW1, hrec]; exact run_enterLoop_outer _ _ _ _ _
  · simp only [resolve, hg]
    simp [go_sem]
  · intro f' hf'
    simp [Target.leads] at hf'
    subst hf'
    exact hFg
  · simp [invoke, go_sem, eg]
  · refine (hseq (w.heap.size + 1) (fun s W => I s W ∧ W1.heap.size ≤ W.heap.size ∧ W.heap[w.heap.size + 1]? = some (.loop (rec .ready none)) ∧ W.heap[w.heap.size]? = some (.deferred (some [])))
      (fun s W => ∃ id, Ix id s W ∧ W1.heap.size ≤ W.heap.size ∧ W.heap[w.heap.size + 1]? = some (.loop (rec .done (some (.exit id)))) ∧ W.heap[w.heap.size]? = some (.deferred (some []))) W1 hb1 (by omega) (by omega) ?_ ?_ ?_ ⟨hI1, Nat.le_refl _, hL1, hK1⟩).mono ?_
    · rintro s A A' ⟨hi, hsz, hl, hk⟩ hK
      exact ⟨hI _ _ _ hi (hK.mono fun _ _ e => Or.inl e), Nat.le_trans hsz hK.size, hold _ _ hK (Or.inr rfl) hl, hold _ _ hK (Or.inl rfl) hk⟩
    · rintro s A A' ⟨id, hi, hsz, hl, hk⟩ hK
      exact ⟨id, hIx _ _ _ _ hi (hK.mono fun _ _ e => Or.inl e), Nat.le_trans hsz hK.size, hold _ _ hK (Or.inr rfl) hl, hold _ _ hK (Or.inl rfl) hk⟩
    · rintro s x Wp W ⟨hi, hsz, hl, hk⟩ hbW hGx _
      have hlp : w.heap.size + 1 < Wp.heap.size := by omega
      have hlW := (hbW.block _ hlp).trans hl
      have hkW := (hbW.block _ (by omega)).trans hk
      have hy := run_yield (P := P) (args := encs x) hlW (by rw [hrec]; exact hps x)
      rw [hrec] at hy
      refine ⟨fn, _, assign, body, hy, roundIn_of_wpIn hfn (wpIn_mono (hround s x Wp W hlp hi hbW hGx) ?_)⟩
      rintro e a1 Wa hpost
      cases e with
      | normal =>
        obtain ⟨hba, hbody⟩ := hpost
        have hltW : w.heap.size + 1 < W.heap.size := Nat.lt_of_lt_of_le hlp hbW.size
        have hla := (hba.block _ hltW).trans hlW
        have hka := (hba.block _ (by omega)).trans hkW
        refine ⟨_, run_beginRound hla (by rw [hrec]), wpIn_mono (hbody _ (grownBy_putObj' Wa _ _)) ?_⟩
        rintro e a3 W3 ⟨hk3, he⟩
        have hlta : w.heap.size + 1 < (Wa.putObj (w.heap.size + 1) (.loop { rec .ready none with state := .busy })).heap.size := by
          have := hba.size
          simp; omega
        have hl3 : W3.heap[w.heap.size + 1]? = some (.loop { rec .ready none with state := .busy }) :=
          (hk3.block _ hlta (fun e => (hT _ e.1).2.2 rfl)).trans (World.putObj_heap_same (by have := hba.size; omega))
        have hd3 : W3.heap[w.heap.size]? = some (.deferred (some [])) :=
          (hk3.block _ (Nat.lt_trans (Nat.lt_succ_self _) hlta) (fun e => (hT _ e.1).2.1 rfl)).trans ((World.putObj_heap_other (show w.heap.size ≠ w.heap.size + 1 by omega)).trans hka)
        have hlt3 := (Array.getElem?_eq_some_iff.1 hl3).1
        have hsz3 : W1.heap.size ≤ W3.heap.size := by omega
        have hkeep : ∀ o, Dk.Kept (fun k => (n0 ≤ k ∧ k ≠ Bs) ∧ k < Wp.heap.size) W (W3.putObj (w.heap.size + 1) o) := fun o => by
          have h4 : Dk.Kept (fun k => (n0 ≤ k ∧ k ≠ Bs) ∧ k < Wp.heap.size) W (Wa.putObj (w.heap.size + 1) (.loop { rec .ready none with state := .busy })) :=
            (Dk.Kept.of_below hba (Nat.le_refl _)).grown (grownBy_putObj' Wa _ _) (fun k e _ => by obtain rfl := Option.some.inj e; exact ⟨⟨by omega, by omega⟩, hlp⟩)
          exact (h4.trans hk3 (fun i _ hi => ⟨(hT i hi.1).1, hi.2⟩)).grown (grownBy_putObj' W3 _ _) (fun k e _ => by obtain rfl := Option.some.inj e; exact ⟨⟨by omega, by omega⟩, hlp⟩)
        rcases he with ⟨rfl, hi3⟩ | ⟨id, rfl, hi3⟩
        · have hend := run_endRound (P := P) none hl3
          rw [hrec] at hend
          refine ⟨_, _, hend, hkeep _, .inl ⟨rfl, ?_, ?_, ?_, ?_⟩⟩
          · exact hI _ _ _ hi3 (hput W3 _)
          · simpa using hsz3
          · rw [hrec]; exact World.putObj_heap_same hlt3
          · exact (World.putObj_heap_other (show w.heap.size ≠ w.heap.size + 1 by omega)).trans hd3
        · have hend := run_endRound (P := P) (some (.exit id)) hl3
          rw [hrec] at hend
          refine ⟨_, _, hend, hkeep _, .inr ⟨rfl, id, ?_, ?_, ?_, ?_⟩⟩
          · exact hIx _ _ _ _ hi3 (hput W3 _)
          · simpa using hsz3
          · rw [hrec]; exact World.putObj_heap_same hlt3
          · exact (World.putObj_heap_other (show w.heap.size ≠ w.heap.size + 1 by omega)).trans hd3
      | exit id => exact hpost.elim
      | goto id => exact hpost.elim
      | ret => exact hpost.elim
      | panic c => exact hpost.elim
      | outgrown => exact hpost.elim
    · rintro e W2 ⟨⟨v, rfl⟩, hfin, (⟨s, hS, hi, hsz, hl, hk⟩ | ⟨s, id, hi, hsz, hl, hk⟩)⟩
      · have hend := run_endLoop (P := P) hl (by rw [hrec]; simp)
        rw [hrec] at hend
        refine ⟨none, _, hend, hdone s _ hS (hI _ _ _ hi (hput W2 _)) (hFin _ _ hfin (hputF W2 _)) ?_ ((World.putObj_heap_other (show w.heap.size ≠ w.heap.size + 1 by omega)).trans hk)⟩
        have := (Array.getElem?_eq_some_iff.1 hk).1
        simpa using this
      · have hend := run_endLoop (P := P) hl (by rw [hrec]; simp)
        rw [hrec] at hend
        have hW2 : w.heap.size < W2.heap.size := (Array.getElem?_eq_some_iff.1 hk).1
        exact ⟨some (.exit id), _, hend, wpIn_exit (hstop id s _ (hIx _ _ _ _ hi (hput W2 _)) (hFin _ _ hfin (hputF W2 _)) (by simpa using hW2) ((World.putObj_heap_other (show w.heap.size ≠ w.heap.size + 1 by omega)).trans hk))⟩
end Go.Proofs.YtkajcgpkldofjaaDoor
end

section
/-
  What a loop that writes frames keeps; Take in one contract.
-/
namespace Go.Proofs.YtkajcgpkldofjaaDoor
open Go.RowKit Fm
set_option maxRecDepth 100000

/-- between two writes: the disk, and what was there when the first began -/
structure Puts (w2 wr : World) (S Sx : Nat → Prop) (a : Nat) (d : Dk.Dk) : Prop where
  disk : Dk.Disk wr Sx a d
  kept : Dk.Kept S w2 wr
  sub : ∀ j, Sx j → S j ∨ w2.heap.size ≤ j
section
variable {w w2 wr wr' : World} {S Sx : Nat → Prop} {a : Nat} {d d' : Dk.Dk}
theorem Puts.start (h : Dk.Disk w2 S a d) : Puts w2 w2 S S a d := ⟨h, Dk.Kept.refl _ _, fun _ h => Or.inl h⟩
theorem Puts.below (h : Puts w2 wr S Sx a d) (hb : Below wr.heap.size wr wr') : Puts w2 wr' S Sx a d :=
  ⟨h.disk.below hb (Nat.le_refl _), h.kept.below (Nat.le_refl _) hb (Or.inl h.kept.size), h.sub⟩
theorem Puts.goes (h : Puts w2 wr S Sx a d) (hg : Dk.Goes wr wr' Sx a d') : ∃ S', Puts w2 wr' S S' a d' := by
  obtain ⟨S', hd, hk, hs⟩ := hg
  have hz := h.kept.size
  refine ⟨S', hd, h.kept.trans hk fun i hi hx => ?_, fun j hj => ?_⟩
  · rcases h.sub i hx with h1 | h1
    · exact h1
    · omega
  · rcases hs j hj with h1 | h1
    · exact h.sub j h1
    · right; omega
/-- behind the last one -/
theorem Puts.out (h : Puts w2 wr S Sx a d) (hw : Below w.heap.size w w2) : Dk.Goes w wr S a d :=
  ⟨Sx, h.disk, (Dk.Kept.of_below hw (Nat.le_refl _)).trans h.kept (fun _ _ hx => hx), fun j hj => by
    have := hw.size
    rcases h.sub j hj with h1 | h1
    · exact Or.inl h1
    · right; omega⟩
/-- a block of one's own is as it was -/
theorem Puts.same (h : Puts w2 wr S Sx a d) (hS : ∀ j, S j → j < w.heap.size) {b : Nat} (h1 : w.heap.size ≤ b) (h2 : b < w2.heap.size) : wr.heap[b]? = w2.heap[b]? :=
  h.kept.block b h2 (fun e => by have := hS b e; omega)
theorem Puts.frs (h : Puts w2 wr S Sx a d) (hS : ∀ j, S j → j < w.heap.size) {A : Option Addr} {fs : List Fr} (hf : Frs w2 w2.heap.size A fs) (hn : FrsNew w2 w.heap.size A fs) : Frs wr wr.heap.size A fs := fun h0 => by
  obtain ⟨b, off, e, hlt, hc⟩ := hf h0
  obtain ⟨b', off', e', hge, hc'⟩ := hn h0
  rw [e] at e'
  obtain ⟨rfl, rfl⟩ : b = b' ∧ off = off' := by simpa using e'
  have hz := h.kept.size
  have hrow := h.same hS hge hlt
  refine ⟨b, off, e, by omega, fun i hi => ?_⟩
  obtain ⟨xs, ⟨A1, c1, rfl, hy, q1, q2, q3, q4⟩, hcell⟩ := hc i hi
  obtain ⟨A2, c2, k1, k2⟩ := hc' i hi
  have k3 : w2.cell? ⟨b, off + i * 6 + 5, none⟩ = some (.slice A1 fs[i].load.length c1) := hcell 5 _ rfl
  rw [k3] at k1
  obtain ⟨rfl, rfl⟩ : A1 = A2 ∧ c1 = c2 := by simpa using k1
  refine ⟨_, ⟨A1, c1, rfl, ⟨hy.1, fun h1 => ?_⟩, q1, q2, q3, q4⟩, fun j u hu => (World.cell?_of_block (w := w2) hrow).trans (hcell j u hu)⟩
  obtain ⟨b3, off3, e3, hlt3, hc3⟩ := hy.2 h1
  have hge3 := k2 _ e3
  exact ⟨b3, off3, e3, by omega, fun j hj => by
    rw [← hc3 j hj]
    exact World.cell?_of_block (w := w2) (h.same hS hge3 hlt3)⟩
/-- .. and a cell of one's own is written -/
theorem Puts.out_set (h : Puts w2 wr S Sx a d) (hw : Below w.heap.size w w2) (hS : ∀ j, S j → j < w.heap.size) {b : Nat} (h1 : w.heap.size ≤ b) (h2 : b < w2.heap.size) (cs : Array Value) : Dk.Goes w (wr.setRow b cs) S a d := by
  obtain ⟨_, _, hk, hs⟩ := h.out hw
  refine ⟨Sx, h.disk.keep (fun k hk => setRow_other _ _ _ _ (fun e => ?_)) (by simp [World.setRow]), hk.grown (Dk.grown_setRow _ _ _) (fun k e hlt => by cases e; omega), fun j hj => ?_⟩
  · subst e
    rcases h.sub _ hk with h3 | h3
    · have := hS _ h3; omega
    · omega
  · have := hw.size
    rcases h.sub j hj with h3 | h3
    · exact Or.inl h3
    · right; omega
theorem FrsNew.below {N N' : Nat} {A : Option Addr} {fs : List Fr} (h : FrsNew w N A fs) (hf : Frs w w.heap.size A fs) (hb : Below w.heap.size w w2) (hN : N' ≤ N) : FrsNew w2 N' A fs := fun h0 => by
  obtain ⟨b, off, e, hge, hc⟩ := h h0
  obtain ⟨b', off', e', hlt, _⟩ := hf h0
  rw [e] at e'
  obtain ⟨rfl, rfl⟩ : b = b' ∧ off = off' := by simpa using e'
  refine ⟨b, off, e, by omega, fun i hi => ?_⟩
  obtain ⟨A1, c1, k1, k2⟩ := hc i hi
  exact ⟨A1, c1, (hb.cell (by simpa using hlt)).trans k1, fun x hx => Nat.le_trans hN (k2 x hx)⟩
end
/-- P5.2: Take, whatever it answers -/
theorem take_says (t n : Int) (k : Nat) (w : World) (hk : 1 ≤ k ∧ k ≤ 24) :
    Calls Tryd.prog 21 #[.agg #[.int .i64 t, .int .i64 n], .int .i64 (k : Int)] w fun e w' => (∃ t' n' v, e = .returned (.tuple #[.agg #[.int .i64 t', .int .i64 n'], v, .int .i64 (Rg.takeE t n (k : Int))]) ∧ (Rg.takeE t n (k : Int) = 0 → t' = t ∧ n' = n + (k : Int))) ∧ Below w.heap.size w w' := by
  have hk2 : (decide (0 ≤ (k : Int)) && decide ((k : Int) ≤ 24)) = true := by simp; omega
  cases hm : Rg.mayB t n with
  | false =>
    have hE : Rg.takeE t n (k : Int) = 2 := by unfold Rg.takeE; rw [hm]; rfl
    refine (Rg.take_nolog t n k w hm).mono ?_
    rintro e w' ⟨rfl, hb⟩
    exact ⟨⟨0, 0, _, by rw [hE], fun h => by rw [hE] at h; cases h⟩, hb⟩
  | true =>
    by_cases hf : (k : Int) ≤ Rg.freeR t n
    · cases hs : Rg.seqB (n + (k : Int)) with
      | false =>
        have hE : Rg.takeE t n (k : Int) = 50 := by unfold Rg.takeE; rw [hm, hk2, hs]; simp
        refine (Rg.take_high t n k w hm hk2 hf hs).mono ?_
        rintro e w' ⟨rfl, hb⟩
        exact ⟨⟨0, 0, _, by rw [hE], fun h => by rw [hE] at h; cases h⟩, hb⟩
      | true =>
        have hE : Rg.takeE t n (k : Int) = 0 := by unfold Rg.takeE; rw [hm, hk2, hs, decide_eq_true hf]; rfl
        refine (Rg.take_ok t n k w hm hk2 hf hs).mono ?_
        rintro e w' ⟨v, rfl, _, hb⟩
        exact ⟨⟨t, _, v, by rw [hE], fun _ => ⟨rfl, rfl⟩⟩, hb⟩
    · have hE : Rg.takeE t n (k : Int) = 50 := by unfold Rg.takeE; rw [hm, hk2, decide_eq_false hf]; rfl
      refine (Rg.take_full t n k w hm hk2 hf).mono ?_
      rintro e w' ⟨rfl, hb⟩
      exact ⟨⟨0, 0, _, by rw [hE], fun h => by rw [hE] at h; cases h⟩, hb⟩
/-- a sector of the ring, as the disk reads it -/
theorem sector_says {w : World} {S : Nat → Prop} {a : Nat} {d : Dk.Dk} (h : Dk.Disk w S a d) (hup : d.down = false) (s : Int) :
    Calls Tryd.prog 60 #[.pointer (some ⟨a, 0, none⟩), .int .i64 (plc s : Nat)] w fun e w' => ∃ g c,
      e = .returned (.tuple #[.slice (some ⟨g, 0, none⟩) 64 c, .int .i64 0]) ∧ By w' w'.heap.size (some ⟨g, 0, none⟩) (rdD d s) ∧ (rdD d s).length = 64 ∧ 64 ≤ c ∧ w.heap.size ≤ g ∧ Below w.heap.size w w' := by
  have hs := (h.newest_sec (plc_lt s)).1
  refine (Dk.read_ok h hup (plc_lt s)).mono ?_
  rintro e w' ⟨v, rfl, ⟨g, c, rfl, hg, _, hy, hc, _⟩, hb⟩
  have hl : (rdD d s).length = 64 := hs
  rw [hs] at hc ⊢
  exact ⟨g, c, rfl, hy, hl, hc, hg, hb⟩
end Go.Proofs.YtkajcgpkldofjaaDoor
end

section
/-
  The journal's small calls, by contract: how many sectors a record wants, Flush, what is answered where there is no disk, whether parts come behind a frame.
-/
namespace Go.Proofs.YtkajcgpkldofjaaDoor
open Go.RowKit Fm
set_option maxRecDepth 100000

theorem wants_says : WantsSays := by
  intro n w
  by_cases h1 : n < 1
  · have he : wantsR n = 0 := by unfold wantsR; rw [if_neg (by omega)]
    rw [he]
    clear he
    go_enter Tryd.func10, Tryd.ntmps10
    go_wp2
    go_ret
    exact ⟨rfl, Below.refl _ _⟩
  by_cases h2 : n > 90
  · have he : wantsR n = 0 := by unfold wantsR; rw [if_neg (by omega)]
    rw [he]
    clear he
    go_enter Tryd.func10, Tryd.ntmps10
    go_wp2
    go_ret
    exact ⟨rfl, Below.refl _ _⟩
  have he : wantsR n = (n - 1) / 45 + 1 := by unfold wantsR cutN; rw [if_pos (by omega)]; omega
  rw [he]
  have w1 : IntKind.i64.wrap (n - 1) = n - 1 := by rw [IntKind.wrap_i64]; omega
  have w2 : IntKind.i64.wrap ((n - 1).tdiv 45) = (n - 1) / 45 := by rw [Int.tdiv_eq_ediv_of_nonneg (by omega), IntKind.wrap_i64]; omega
  have w3 : IntKind.i64.wrap ((n - 1) / 45 + 1) = (n - 1) / 45 + 1 := by rw [IntKind.wrap_i64]; omega
  clear he
  go_enter Tryd.func10, Tryd.ntmps10
  go_wp2
  go_ret
  exact ⟨rfl, Below.refl _ _⟩
theorem flush_says : FlushSays := by
  intro w S a d hd hup
  have H := Lib.hid (Dk.flush_ok hd hup)
  clear hd hup
  go_enter Tryd.func12, Tryd.ntmps12
  go_wp2_with fail
  refine H.out.mono ?_
  rintro e w7 ⟨rfl, hg⟩
  go_wp2_with fail
  go_ret
  exact ⟨rfl, hg⟩
theorem flush_nil : FlushNilSays := by
  intro w
  have H := Lib.hid (Dk.flush_nil w)
  go_enter Tryd.func12, Tryd.ntmps12
  go_wp2_with fail
  refine H.out.mono ?_
  rintro e w7 ⟨rfl, rfl⟩
  go_wp2_with fail
  go_ret
  exact ⟨rfl, Below.refl _ _⟩
/-- whether parts of a frame's record come behind it -/
def moreB (f : Fr) : Bool := decide (f.part + 1 < f.of)
theorem more_any (f : Fr) (A : Option Addr) (c : Nat) (w : World) (hp : f.part ≤ 9223372036854775806) (hp0 : -9223372036854775808 ≤ f.part) :
    Calls Tryd.prog 26 #[.agg (frv A c f).toArray] w fun e w' => e = .returned (.bool (moreB f)) ∧ Below w.heap.size w w' := by
  have hb := (Below.refl w.heap.size w).alloc (Nat.le_refl _) (.cells (frv A c f).toArray 54)
  have hg := heap_alloc_new w (.cells (frv A c f).toArray 54)
  have c2 := cell_of_row _ w.heap.size 2 _ _ _ hg
  have c3 := cell_of_row _ w.heap.size 3 _ _ _ hg
  simp only [frv, List.getElem?_toArray, List.getElem?_cons_zero, List.getElem?_cons_succ] at c2 c3
  have HB := Lib.hid hb
  have w1 : IntKind.i64.wrap (f.part + 1) = f.part + 1 := by rw [IntKind.wrap_i64]; omega
  unfold moreB
  unfold frv at hb hg ⊢
  clear hb hg
  go_enter Tryd.func26, Tryd.ntmps26
  go_wp2
  go_ret
  exact ⟨rfl, HB.out⟩
end Go.Proofs.YtkajcgpkldofjaaDoor
end

section
/-
  Append, by contract, over put: a frame that was cut is written.
-/
namespace Go.Proofs.YtkajcgpkldofjaaDoor
open Go.RowKit Fm
set_option maxRecDepth 100000

theorem Tryd.infoLj : (Tryd.prog.info? 23).map (·.size) = some 2 := by kernel_rfl
theorem Tryd.infoLsj (a b : Int) : (Tryd.prog.info? 23).map (·.size) = some (#[.int .i64 a, .int .i64 b] : Array Value).size := Tryd.infoLj
theorem one2j (a b : Int) : (#[.int .i64 a, .int .i64 b] : Array Value).all (·.oneCell') = true := by simp [Value.oneCell']
theorem size2j (a b c d : Int) : (#[.int .i64 a, .int .i64 b] : Array Value).size = (#[.int .i64 c, .int .i64 d] : Array Value).size := rfl
theorem plc_place {s : Int} (h : 1 ≤ s ∧ s ≤ 1099511627776) (W : World) : Calls Tryd.prog 23 #[.int .i64 s] W fun e w' => e = .returned (.tuple #[.int .i64 (plc s : Nat), .int .i64 0]) ∧ Below W.heap.size W w' := by
  refine (Rg.at_place s W).mono ?_
  rintro e w' ⟨rfl, hb⟩
  refine ⟨?_, hb⟩
  have h1 : Rg.seqB s = true := by unfold Rg.seqB; simp; omega
  unfold Rg.placeR plc
  rw [if_pos h1, show (((2 + s % 24).toNat : Nat) : Int) = 2 + s % 24 by omega]
theorem puts_take (d : Dk.Dk) (F : List Fr) {k : Nat} (hk : k < F.length) : putsD d (F.take (k + 1)) = (putsD d (F.take k)).write (plc F[k].seq) (byB F[k]) := by
  unfold putsD
  rw [List.take_succ_eq_append_getElem hk, List.foldl_append]
  rfl

theorem goes_after {w w8 w' : World} {S : Nat → Prop} {a : Nat} {d' : Dk.Dk} (hb : Below w.heap.size w w8) (hg : Dk.Goes w8 w' S a d') : Dk.Goes w w' S a d' := by
  obtain ⟨S', hd, hk, hs⟩ := hg
  exact ⟨S', hd, (Dk.Kept.of_below hb (Nat.le_refl _)).trans hk (fun _ _ hx => hx), fun j hj => (hs j hj).imp id (fun h => Nat.le_trans hb.size h)⟩
set_option maxHeartbeats 1000000 in
theorem put_says {w : World} {S : Nat → Prop} {a : Nat} {d : Dk.Dk} {f : Fr} {A : Option Addr} {c : Nat} (h : Dk.Disk w S a d) (hup : d.down = false) (hca : (d.cache (plc f.seq)).length ≤ 1000100) (hWd : Widths w)
    (hv : FrV w w.heap.size (frv A c f) f) (hm : mayB f = true) (hs : 1 ≤ f.seq ∧ f.seq ≤ 1099511627776) (h64 : (byB f).length = 64) :
    Calls Tryd.prog 22 #[.pointer (some ⟨a, 0, none⟩), .agg (frv A c f).toArray] w fun e w' => e = .returned (.int .i64 0) ∧ Dk.Goes w w' S a (d.write (plc f.seq) (byB f)) := by
  have hb := (Below.refl w.heap.size w).alloc (Nat.le_refl _) (.cells (frv A c f).toArray 54)
  obtain ⟨w2, hw2⟩ : ∃ w2, w2 = w.alloc (.cells (frv A c f).toArray 54) := ⟨_, rfl⟩
  have hg : w2.heap[w.heap.size]? = some (.cells (frv A c f).toArray 54 (0, 0)) := by rw [hw2]; exact heap_alloc_new w _
  rw [← hw2] at hb
  have hz : w2.heap.size = w.heap.size + 1 := by rw [hw2]; simp
  have HBy := Lib.hid (fun W (hW : Below w2.heap.size w2 W) => bytes_yes f A c W ((hv.below (hb.trans (hW.mono hb.size)) (Nat.le_refl _)).mono (hb.trans (hW.mono hb.size)).size) hm (hWd.below (hb.trans (hW.mono hb.size))))
  have HPl := Lib.hid (fun W => plc_place (W := W) hs)
  have HC := Lib.hid (show ∀ W, Below w2.heap.size w2 W → ∀ j u, (frv A c f)[j]? = some u → W.cell? ⟨w.heap.size, j, none⟩ = some u from fun W hW j u hu => by
    rw [cell_of_row W w.heap.size j _ _ _ ((hW.block _ (by omega)).trans hg)]
    simpa using hu)
  have HLd := Lib.hid (show ∀ x ∈ f.load, x < 256 from hv.fine.load)
  have HD := Lib.hid h
  have HUp := Lib.hid hup
  have HCa := Lib.hid hca
  have H64 := Lib.hid h64
  have HB := Lib.hid hb
  have HW2 := Lib.hid hw2
  have HS := Lib.hid hs
  have c0 := HC.out w2 (Below.refl _ _) 0 _ rfl
  clear h hup hca hWd hv hm hs h64 hb hw2 hg hz
  unfold frv at HW2
  unfold frv
  go_enter Tryd.func22, Tryd.ntmps22
  go_wp2_with (rw [← HW2.out])
  refine (HPl.out _).mono ?_
  rintro e w7 ⟨rfl, hb7⟩
  have HB7 := Lib.hid hb7
  have z0 := HC.out w7 hb7 0 _ rfl
  have z1 := HC.out w7 hb7 1 _ rfl
  have z2 := HC.out w7 hb7 2 _ rfl
  have z3 := HC.out w7 hb7 3 _ rfl
  have z4 := HC.out w7 hb7 4 _ rfl
  have z5 := HC.out w7 hb7 5 _ rfl
  clear hb7 c0
  go_wp2_with fail
  refine (HBy.out w7 HB7.out).mono ?_
  rintro e w8 ⟨v8, rfl, hnew⟩
  obtain ⟨A8, c8, rfl, hy8, hl8, hm8, hn8, _⟩ := hnew.slice (Crc.sealed_lt (secB_lt HLd.out))
  have hb8 := HB.out.trans ((HB7.out.trans (hnew.2.mono HB7.out.size)).mono HB.out.size)
  have hwrt := Dk.write_ok (c := c8) (HD.out.below hb8 (Nat.le_refl _)) HUp.out (plc_lt f.seq) hy8 (by have := H64.out; unfold byB at this; omega) (by have h1 := HCa.out; omega)
  have HWt := Lib.hid hwrt
  have HB8 := Lib.hid hb8
  clear hnew hy8 hl8 hm8 hn8 hb8 hwrt z0 z1 z2 z3 z4 z5
  go_wp2_with fail
  refine HWt.out.mono ?_
  rintro e w9 ⟨rfl, hg9⟩
  have HG := Lib.hid (goes_after HB8.out hg9)
  clear hg9
  go_wp2_with fail
  go_ret
  exact ⟨rfl, HG.out⟩

set_option maxHeartbeats 4000000 in
theorem append_says : AppendSays := by
  intro w S a d t n inc bs A c hd hup hcache hWd hns hby hlc hcm ht hn hi
  obtain ⟨E1, hE1⟩ : ∃ E1, E1 = appE t n inc bs.length := ⟨_, rfl⟩
  rw [← hE1]
  obtain ⟨N1, hN1⟩ : ∃ N1, N1 = if E1 = 0 then n + (cutN bs.length : Nat) else n := ⟨_, rfl⟩
  obtain ⟨D1, hD1⟩ : ∃ D1, D1 = if E1 = 0 then putsD d (cutAll bs n inc) else d := ⟨_, rfl⟩
  rw [← hN1, ← hD1]
  have HNo := Lib.hid (show ∀ E : Int, appE t n inc bs.length = E → E ≠ 0 → E1 = E ∧ N1 = n ∧ D1 = d from fun E h h0 => by
    rw [h] at hE1
    exact ⟨hE1, by rw [hN1, if_neg (by rw [hE1]; exact h0)], by rw [hD1, if_neg (by rw [hE1]; exact h0)]⟩)
  have HYes := Lib.hid (show appE t n inc bs.length = 0 → E1 = 0 ∧ N1 = n + (cutN bs.length : Nat) ∧ D1 = putsD d (cutAll bs n inc) from fun h => by
    rw [h] at hE1
    exact ⟨hE1, by rw [hN1, if_pos hE1], by rw [hD1, if_pos hE1]⟩)
  obtain ⟨w2, hw2⟩ : ∃ w2, w2 = (w.alloc (.cells #[.int .i64 t, .int .i64 n] 23)).alloc (.cells #[.int .i64 0, .int .i64 0] 23) := ⟨_, rfl⟩
  have HB0 := Lib.hid (show Below w.heap.size w w2 by rw [hw2]; exact ((Below.refl w.heap.size w).alloc (Nat.le_refl _) _).alloc (by simp) _)
  have HZ := Lib.hid (show w2.heap.size = w.heap.size + 2 by rw [hw2]; simp)
  have HZ1 := Lib.hid (show w.heap.size ≤ w2.heap.size by rw [HZ.out]; omega)
  have HG := Lib.hid (show ∀ W, Below w2.heap.size w2 W → W.heap[w.heap.size]? = some (.cells #[.int .i64 t, .int .i64 n] 23 (0, 0)) ∧ W.heap[w.heap.size + 1]? = some (.cells #[.int .i64 0, .int .i64 0] 23 (0, 0)) from fun W hb => by
    have hz := HZ.out
    refine ⟨(hb.block _ (by omega)).trans ?_, (hb.block _ (by omega)).trans ?_⟩
    · rw [hw2]; exact (Below.heap_alloc _ _ _ (by simp)).trans (heap_alloc_new w _)
    · rw [hw2]
      have h := heap_alloc_new (w.alloc (.cells #[.int .i64 t, .int .i64 n] 23)) (.cells #[.int .i64 0, .int .i64 0] 23)
      rwa [World.size_alloc] at h)
  have HW2 := Lib.hid hw2
  have HD := Lib.hid hd
  have HUp := Lib.hid hup
  have HCa := Lib.hid hcache
  have HWd := Lib.hid hWd
  have HNs := Lib.hid hns
  have HBy := Lib.hid hby
  have HIn := Lib.hid (show (I64 t ∧ I64 n) ∧ I64 inc from ⟨⟨ht, hn⟩, hi⟩)
  clear hd hup hcache hWd hns hby ht hn hi hw2 hE1 hN1 hD1
  go_enter Tryd.func8, Tryd.ntmps8
  go_wp2_with fail
  rw [← HW2.out]
  refine (Rg.may_any _ _ _).mono ?_
  rintro e w3 ⟨rfl, hb3⟩
  have HB3 := Lib.hid (show Below w2.heap.size w2 w3 from hb3)
  clear hb3
  cases hm : Rg.mayB t n with
  | false =>
    have HAE := Lib.hid (show appE t n inc bs.length = 2 by unfold appE; rw [hm]; rfl)
    clear hm
    obtain ⟨g0, g1⟩ := HG.out _ HB3.out
    have c0 := cell_of_row w3 w.heap.size 0 _ _ _ g0
    have c1 := cell_of_row w3 w.heap.size 1 _ _ _ g0
    simp only [List.getElem?_toArray, List.getElem?_cons_zero, List.getElem?_cons_succ] at c0 c1
    go_wp2_with (refine wpList_store_row rfl 23 (.tmp 8) (.tmp 23) rfl (w.heap.size + 1) #[.int .i64 t, .int .i64 n] (by simp [Act.eval, Act.put]) (by simp [Act.eval, Act.put]) 23 #[.int .i64 0, .int .i64 0] g1 (Tryd.infoLsj _ _) (size2j _ _ _ _) (one2j _ _) ?_)
    exact bodyPost_ret (results_cell_tmp (t := 23) (p := 8) (u := 9) rfl _ _ (w.heap.size + 1) #[.int .i64 t, .int .i64 n] (0, 0) _ rfl (setRow_heap _ _ _ _ _ _ g1) Tryd.underlying23 rfl Tryd.infoLj) rfl (by
      obtain ⟨q1, q2, q3⟩ := HNo.out _ HAE.out (by omega)
      rw [q1, q2, q3]
      exact ⟨rfl, Dk.Goes.same HD.out (below_setRow (HB0.out.trans (HB3.out.mono HZ1.out)) (by omega) _)⟩)
  | true =>
    obtain ⟨g0, g1⟩ := HG.out _ HB3.out
    have c0 := cell_of_row w3 w.heap.size 0 _ _ _ g0
    have c1 := cell_of_row w3 w.heap.size 1 _ _ _ g0
    simp only [List.getElem?_toArray, List.getElem?_cons_zero, List.getElem?_cons_succ] at c0 c1
    have hc3 := HB0.out.trans (HB3.out.mono HZ1.out)
    have HCut := Lib.hid (cut_fresh bs n inc A c w3 ((HBy.out.by_.below hc3 (Nat.le_refl _)).mono hc3.size) hlc hcm HIn.out.1.2.1 HIn.out.1.2.2)
    have HMay := Lib.hid hm
    clear hm hc3
    go_wp2_with fail
    refine HCut.out.mono ?_
    rintro e w4 ⟨A4, c4, rfl, hfr, hlc4, hc2, hn4, hb4, hnw⟩
    obtain ⟨E, hE⟩ : ∃ E, E = cutE bs.length n inc := ⟨_, rfl⟩
    rw [← hE]
    have HB4 := Lib.hid (HB3.out.trans (hb4.mono HB3.out.size))
    clear c0 c1 g0 g1
    obtain ⟨g0, g1⟩ := HG.out _ HB4.out
    have c0 := cell_of_row w4 w.heap.size 0 _ _ _ g0
    have c1 := cell_of_row w4 w.heap.size 1 _ _ _ g0
    simp only [List.getElem?_toArray, List.getElem?_cons_zero, List.getElem?_cons_succ] at c0 c1
    by_cases hE0 : ¬ E = 0
    · have HAE := Lib.hid (show appE t n inc bs.length = E by unfold appE; rw [HMay.out, if_pos rfl, ← hE, if_neg hE0])
      have HNe := Lib.hid hE0
      clear hfr hlc4 hc2 hn4 hb4 hnw hE
      go_wp2_with (refine wpList_store_row rfl 23 (.tmp 8) (.tmp 34) rfl (w.heap.size + 1) #[.int .i64 t, .int .i64 n] (by simp [Act.eval, Act.put]) (by simp [Act.eval, Act.put]) 23 #[.int .i64 0, .int .i64 0] g1 (Tryd.infoLsj _ _) (size2j _ _ _ _) (one2j _ _) ?_)
      exact bodyPost_ret (results_cell_tmp (t := 23) (p := 8) (u := 9) rfl _ _ (w.heap.size + 1) #[.int .i64 t, .int .i64 n] (0, 0) _ rfl (setRow_heap _ _ _ _ _ _ g1) Tryd.underlying23 rfl Tryd.infoLj) rfl (by
        obtain ⟨q1, q2, q3⟩ := HNo.out _ HAE.out (by omega)
        rw [q1, q2, q3]
        exact ⟨rfl, Dk.Goes.same HD.out (below_setRow (HB0.out.trans (HB4.out.mono HZ1.out)) (by omega) _)⟩)
    · replace hE0 : E = 0 := Decidable.not_not.1 hE0
      have hcE : cutE bs.length n inc = 0 := by rw [← hE]; exact hE0
      have hL : cutL bs n inc = cutAll bs n inc := by unfold cutL; rw [if_pos hcE]
      rw [hL] at hfr hlc4 hnw ⊢
      obtain ⟨y1, y2, y3, y4, y5, y6, y7, y8⟩ := cutE_yes hcE
      obtain ⟨m, hm⟩ : ∃ m, m = cutN bs.length := ⟨_, rfl⟩
      have hFl : (cutAll bs n inc).length = m := by rw [cutAll_length, hm]
      rw [hFl] at hlc4 ⊢
      rw [← hm] at y4 y7 y8
      have HT := Lib.hid (take_says t n m w4 (by omega))
      have HFr := Lib.hid hfr
      have HFn := Lib.hid hnw
      have HFl := Lib.hid hFl
      have HM := Lib.hid hm
      have HcE := Lib.hid hcE
      have HB34 := Lib.hid hb4
      subst hE0
      clear hfr hnw hFl hm hcE hL hE hlc4 hc2 hn4 hb4 hlc
      go_wp2_with fail
      refine HT.out.mono ?_
      rintro e w5 ⟨⟨t5, n5, v5, rfl, h5⟩, hb5⟩
      obtain ⟨T, hT⟩ : ∃ T, T = Rg.takeE t n (m : Int) := ⟨_, rfl⟩
      rw [← hT] at h5 ⊢
      have HT5 := Lib.hid hT
      have H5 := Lib.hid h5
      have HB45 := Lib.hid (hb5.trans ((Below.refl w5.heap.size w5).alloc (Nat.le_refl _) (.cells #[.int .i64 t5, .int .i64 n5] 23) |>.mono hb5.size))
      have HZ5 := Lib.hid (Nat.le_trans HB4.out.size hb5.size)
      have HB6 := Lib.hid (HB4.out.trans (HB45.out.mono HB4.out.size))
      clear c0 c1 g0 g1 h5 hT hb5
      by_cases hT0 : ¬ T = 0
      · have HAE := Lib.hid (show appE t n inc bs.length = T by unfold appE; rw [HMay.out, if_pos rfl, if_pos HcE.out, ← HM.out, ← HT5.out])
        obtain ⟨g0, g1⟩ := HG.out _ HB6.out
        have c0 := cell_of_row (w5.alloc (.cells #[.int .i64 t5, .int .i64 n5] 23)) w.heap.size 0 _ _ _ g0
        have c1 := cell_of_row (w5.alloc (.cells #[.int .i64 t5, .int .i64 n5] 23)) w.heap.size 1 _ _ _ g0
        simp only [List.getElem?_toArray, List.getElem?_cons_zero, List.getElem?_cons_succ] at c0 c1
        go_wp2_with (refine wpList_store_row rfl 23 (.tmp 8) (.tmp 46) rfl (w.heap.size + 1) #[.int .i64 t, .int .i64 n] (by simp [Act.eval, Act.put]) (by simp [Act.eval, Act.put]) 23 #[.int .i64 0, .int .i64 0] g1 (Tryd.infoLsj _ _) (size2j _ _ _ _) (one2j _ _) ?_)
        exact bodyPost_ret (results_cell_tmp (t := 23) (p := 8) (u := 9) rfl _ _ (w.heap.size + 1) #[.int .i64 t, .int .i64 n] (0, 0) _ rfl (setRow_heap _ _ _ _ _ _ g1) Tryd.underlying23 rfl Tryd.infoLj) rfl (by
          obtain ⟨q1, q2, q3⟩ := HNo.out _ HAE.out (by omega)
          rw [q1, q2, q3]
          exact ⟨rfl, Dk.Goes.same HD.out (below_setRow (HB0.out.trans (HB6.out.mono HZ1.out)) (by omega) _)⟩)
      · replace hT0 : T = 0 := Decidable.not_not.1 hT0
        obtain ⟨rfl, rfl⟩ := H5.out hT0
        have HAE := Lib.hid (show appE t5 n inc bs.length = 0 by unfold appE; rw [HMay.out, if_pos rfl, if_pos HcE.out, ← HM.out, ← HT5.out, hT0])
        clear H5 HT5
        subst hT0
        obtain ⟨w6, hw6⟩ : ∃ w6, w6 = w5.alloc (.cells #[.int .i64 t5, .int .i64 (n + (m : Int))] 23) := ⟨_, rfl⟩
        have hr6 : w6.heap[w5.heap.size]? = some (.cells #[.int .i64 t5, .int .i64 (n + (m : Int))] 23 (0, 0)) := by rw [hw6]; exact heap_alloc_new w5 _
        have hz6 : w6.heap.size = w5.heap.size + 1 := by rw [hw6]; simp
        have hb46 := HB45.out
        have hb26 := HB6.out
        rw [← hw6] at hb46 hb26
        have hb06 := HB0.out.trans (hb26.mono HZ1.out)
        have HR6 := Lib.hid hr6
        have HZ6 := Lib.hid hz6
        have HB26 := Lib.hid hb26
        have HB06 := Lib.hid hb06
        have HF6 := Lib.hid ((HFr.out.below hb46 (Nat.le_refl _)).mono hb46.size)
        have HN6 := Lib.hid (FrsNew.below HFn.out HFr.out hb46 (Nat.le_trans HZ1.out HB3.out.size))
        have HP6 := Lib.hid (Puts.start (HD.out.below hb06 (Nat.le_refl _)))
        have HW6 := Lib.hid hw6
        have HOld := Lib.hid (fun j hj => HD.out.old j hj)
        clear hr6 hz6 hb46 hb26 hb06 hw6 HB45 HB6 HFr HFn HT HD
        go_wp2_with fail
        rw [← HW6.out]
        obtain ⟨F, hF⟩ : ∃ F, F = cutAll bs n inc := ⟨_, rfl⟩
        have HF := Lib.hid hF
        rw [← hF] at HF6 HN6 HFl HYes
        clear hF
        go_loopw [50] (fun i wr => ∃ k : Nat, k ≤ m ∧ i = .int .i64 (k : Int) ∧ ∃ Sx, Puts w6 wr S Sx a (putsD d (F.take k))) (fun i _ => m - (intOf i).toNat)
        case atStart => exact ⟨0, Nat.zero_le _, rfl, S, HP6.out⟩
        case round =>
          obtain ⟨k, hk, rfl, Sx, hpt⟩ := hrel
          have HPt := Lib.hid hpt
          by_cases hlt : k < m
          · have hkF : k < F.length := by rw [HFl.out]; exact hlt
            obtain ⟨b, off, A', c', rfl, hblt, hy, hlc', hcm', hn', hfine, a0, a1, a2, a3, a4, a5⟩ := (hpt.frs HOld.out HF6.out HN6.out).cells hkF
            have hgk : F[k] = cutOne bs n inc k := by
              have h1 := HF.out
              subst h1
              exact cutAll_get hkF
            have hseq : F[k].seq = n + (k : Int) := by rw [hgk]; rfl
            have hmy : Fm.mayB F[k] = true := by
              have h1 := may_cut HcE.out
              rw [← HF.out, List.all_eq_true] at h1
              exact h1 _ (List.getElem_mem hkF)
            have h64 : (byB F[k]).length = 64 := by rw [hgk]; exact byB_len HcE.out (by rw [← HM.out]; exact hlt)
            have hpn := puts_take d F hkF
            have hca : ∀ j, ((putsD d (F.take k)).cache j).length ≤ (d.cache j).length + 24 := fun j => by
              have h1 := puts_cache (F.take k) d j
              rw [List.length_take] at h1
              omega
            have hdn : (putsD d (F.take k)).down = false := by rw [puts_down]; exact HUp.out
            have hld : ∀ x ∈ F[k].load, x < 256 := hy.1
            have hfv : FrV wr wr.heap.size (frv A' c' F[k]) F[k] := ⟨A', c', rfl, hy, hlc', hcm', hn', hfine⟩
            have hwd : Widths wr := by
              obtain ⟨q0, q1, q2, q3, q4, q5⟩ := HWd.out
              have hz := hpt.kept.size
              have hz2 := HB06.out.size
              have hkk : wr.heap[0]? = w.heap[0]? := (hpt.kept.block _ (by omega) HNs.out).trans (HB06.out.block _ q0)
              exact ⟨by omega, (World.cell?_of_block (w := w) hkk).trans q1, (World.cell?_of_block (w := w) hkk).trans q2, (World.cell?_of_block (w := w) hkk).trans q3, (World.cell?_of_block (w := w) hkk).trans q4, (World.cell?_of_block (w := w) hkk).trans q5⟩
            generalize F[k] = f at *
            have HPt2 := Lib.hid (show ∀ W, Below wr.heap.size wr W → Calls Tryd.prog 22 #[.pointer (some ⟨a, 0, none⟩), .agg (frv A' c' f).toArray] W fun e w' => e = .returned (.int .i64 0) ∧ Dk.Goes W w' Sx a ((putsD d (F.take k)).write (plc f.seq) (byB f)) from fun W hW =>
              put_says (HPt.out.below hW).disk hdn (by have h1 := hca (plc f.seq); have h2 := HCa.out (plc f.seq) (plc_lt _); omega) (hwd.below hW) ((hfv.below hW (Nat.le_refl _)).mono hW.size) hmy (by omega) h64)
            obtain ⟨wf, hwf⟩ : ∃ wf, wf = wr.alloc (.cells (frv A' c' f).toArray 54) := ⟨_, rfl⟩
            have hbf : Below wr.heap.size wr wf := by rw [hwf]; exact (Below.refl _ wr).alloc (Nat.le_refl _) _
            have hgf : wf.heap[wr.heap.size]? = some (.cells (frv A' c' f).toArray 54 (0, 0)) := by rw [hwf]; exact heap_alloc_new wr _
            have HBf := Lib.hid hbf
            have HWf := Lib.hid hwf
            have HGf := Lib.hid hgf
            have HPf := Lib.hid (HPt.out.below hbf)
            have HPn := Lib.hid hpn
            clear hy hlc' hcm' hn' hfine hgk hseq hmy h64 hpn hca hdn hld hfv hwd hpt hbf hwf hgf
            have hkm : (k : Int) < (m : Int) := by omega
            unfold frv at HWf HGf HPt2
            go_wp2_with fail
            rw [← HWf.out]
            refine (HPt2.out wf HBf.out).mono ?_
            rintro e w9 ⟨rfl, hg9⟩
            obtain ⟨S9, hp9⟩ := HPf.out.goes hg9
            have HP9 := Lib.hid hp9
            clear hg9 hp9 a0 a1 a2 a3 a4 a5
            go_wp2_with fail
            go_roundw
            case rel => exact ⟨k + 1, by omega, by simp, S9, by rw [HPn.out]; exact HP9.out⟩
            case measure => simp [intOf]; omega
          · obtain rfl : k = m := by omega
            have hkn : ¬ (k : Int) < (k : Int) := by omega
            have hs : ∀ b, w.heap.size ≤ b → b < w6.heap.size → wr.heap[b]? = w6.heap[b]? := fun b h1 h2 => hpt.same HOld.out h1 h2
            have hz2 := HZ.out
            have hz5 := HZ5.out
            have hz6 := HZ6.out
            have r6 := (hs w5.heap.size (by omega) (by omega)).trans HR6.out
            have g1 := (hs (w.heap.size + 1) (by omega) (by omega)).trans (HG.out _ HB26.out).2
            have d0 := cell_of_row wr w5.heap.size 0 _ _ _ r6
            have d1 := cell_of_row wr w5.heap.size 1 _ _ _ r6
            simp only [List.getElem?_toArray, List.getElem?_cons_zero, List.getElem?_cons_succ] at d0 d1
            have HGo := Lib.hid (hpt.out_set HB06.out HOld.out (b := w.heap.size + 1) (by omega) (by omega) #[.int .i64 t5, .int .i64 (n + (k : Int))])
            clear hs hz2 hz5 hz6 r6 hpt
            go_wp2_with (refine wpList_store_row rfl 23 (.tmp 8) (.tmp 62) rfl (w.heap.size + 1) #[.int .i64 t5, .int .i64 (n + (k : Int))] (by simp [Act.eval, Act.put]) (by simp [Act.eval, Act.put]) 23 #[.int .i64 0, .int .i64 0] g1 (Tryd.infoLsj _ _) (size2j _ _ _ _) (one2j _ _) ?_)
            exact bodyPost_ret (results_cell_tmp (t := 23) (p := 8) (u := 9) rfl _ _ (w.heap.size + 1) #[.int .i64 t5, .int .i64 (n + (k : Int))] (0, 0) _ rfl (setRow_heap _ _ _ _ _ _ g1) Tryd.underlying23 rfl Tryd.infoLj) rfl (by
              obtain ⟨q1, q2, q3⟩ := HYes.out HAE.out
              have h1 := HGo.out
              rw [List.take_of_length_le (Nat.le_of_eq HFl.out)] at h1
              rw [q1, q2, q3, ← HM.out]
              exact ⟨rfl, h1⟩)
end Go.Proofs.YtkajcgpkldofjaaDoor
end

section
/-
  A scan's read, by contract: the frame of a sequence, if it stands in its sector.
-/
namespace Go.Proofs.YtkajcgpkldofjaaDoor
open Go.RowKit Fm
set_option maxRecDepth 100000

/-- does the frame of the sequence s stand in its sector? -/
def readB (d : Dk.Dk) (s : Int) : Bool := isSeq s && (readOK (rdD d s) && decide ((readF (rdD d s)).seq = s))
/-- a scan's cells: the disk, the tail, the last good frame, the disk's error -/
def scanRow (a : Nat) (tail : Int) (A : Option Addr) (c : Nat) (f : Fr) (e : Int) : Array Value :=
  #[.pointer (some ⟨a, 0, none⟩), .int .i64 tail, .int .i64 f.seq, .int .i64 f.inc, .int .i64 f.part, .int .i64 f.of, .int .u32 (f.mark : Nat), .slice A f.load.length c, .int .i64 e]
def ReadSays (w : World) (d : Dk.Dk) (s : Int) (e : Ending) (w' : World) : Prop :=
  ∃ A c f, e = .returned (.tuple #[.agg (frv A c f).toArray, .bool (readB d s)]) ∧ FrV w' w'.heap.size (frv A c f) f ∧ Below w.heap.size w w' ∧ (∀ b, A = some b → w.heap.size ≤ b.block) ∧ (readB d s = true → f = readF (rdD d s))
theorem frv_size (A : Option Addr) (c : Nat) (f : Fr) : (frv A c f).length = 6 := rfl
theorem frv_one (A : Option Addr) (c : Nat) (f : Fr) : ∀ u ∈ frv A c f, u.oneCell' = true := by
  intro u hu
  unfold frv at hu
  simp only [List.mem_cons, List.not_mem_nil, or_false] at hu
  rcases hu with rfl | rfl | rfl | rfl | rfl | rfl <;> rfl

theorem Tryd.info6 (a b c d m : Int) (A : Option Addr) (l k : Nat) : (Tryd.prog.info? 54).map (·.size) = some (#[.int .i64 a, .int .i64 b, .int .i64 c, .int .i64 d, .int .u32 m, .slice A l k] : Array Value).size := Tryd.sizeF
theorem one6 (a b c d m : Int) (A : Option Addr) (l k : Nat) : (#[.int .i64 a, .int .i64 b, .int .i64 c, .int .i64 d, .int .u32 m, .slice A l k] : Array Value).all (·.oneCell') = true := by simp [Value.oneCell']
theorem size6 (a b c d m a' b' c' d' m' : Int) (A A' : Option Addr) (l k l' k' : Nat) : (#[.int .i64 a, .int .i64 b, .int .i64 c, .int .i64 d, .int .u32 m, .slice A l k] : Array Value).size = (#[.int .i64 a', .int .i64 b', .int .i64 c', .int .i64 d', .int .u32 m', .slice A' l' k'] : Array Value).size := rfl

set_option maxHeartbeats 2000000 in
theorem jread_says {w : World} {S : Nat → Prop} {a Bs : Nat} {d : Dk.Dk} {tail : Int} {A0 : Option Addr} {c0 : Nat} {L : Fr} (h : Dk.Disk w S a d) (hup : d.down = false) (hWd : Widths w)
    (hs : w.heap[Bs]? = some (.cells (scanRow a tail A0 c0 L 0) 59 (0, 0))) (s : Int) :
    Calls Tryd.prog 47 #[.pointer (some ⟨Bs, 0, none⟩), .int .i64 s] w (ReadSays w d s) := by
  obtain ⟨w1, hw1⟩ : ∃ w1, w1 = w.alloc (.cells #[.int .i64 0, .int .i64 0, .int .i64 0, .int .i64 0, .int .u32 0, .slice none 0 0] 54) := ⟨_, rfl⟩
  have HB1 := Lib.hid (show Below w.heap.size w w1 by rw [hw1]; exact (Below.refl _ w).alloc (Nat.le_refl _) _)
  have HZ1 := Lib.hid (show w1.heap.size = w.heap.size + 1 by rw [hw1]; simp)
  have HG1 := Lib.hid (show ∀ W, Below w1.heap.size w1 W → W.heap[w.heap.size]? = some (.cells #[.int .i64 0, .int .i64 0, .int .i64 0, .int .i64 0, .int .u32 0, .slice none 0 0] 54 (0, 0)) from fun W hW => by
    have hz : w1.heap.size = w.heap.size + 1 := by rw [hw1]; simp
    rw [hW.block _ (by omega), hw1]; exact heap_alloc_new w _)
  have hlt : Bs < w.heap.size := (Array.getElem?_eq_some_iff.1 hs).1
  have HC := Lib.hid (show ∀ W, Below w.heap.size w W → W.cell? ⟨Bs, 0, none⟩ = some (.pointer (some ⟨a, 0, none⟩)) from fun W hW => by
    rw [cell_of_row W Bs 0 _ _ _ ((hW.block _ hlt).trans hs)]; rfl)
  have HD := Lib.hid (show ∀ W, Below w.heap.size w W → Dk.Disk W S a d from fun W hW => h.below hW (Nat.le_refl _))
  have HWd := Lib.hid (show ∀ W, Below w.heap.size w W → Widths W from fun W hW => hWd.below hW)
  have HUp := Lib.hid hup
  have HW1 := Lib.hid hw1
  clear h hup hWd hs hw1
  cases hq : isSeq s with
  | false =>
    have HR := Lib.hid (show readB d s = false by unfold readB; rw [hq]; rfl)
    have HP := Lib.hid (fun W => show Calls Tryd.prog 23 #[.int .i64 s] W fun e w' => e = .returned (.tuple #[.int .i64 0, .int .i64 2]) ∧ Below W.heap.size W w' from (Rg.at_place s W).mono (by
      rintro e w' ⟨rfl, hb⟩
      refine ⟨?_, hb⟩
      unfold Rg.placeR
      rw [show Rg.seqB s = false from hq]; rfl))
    clear hq
    go_enter Tryd.func47, Tryd.ntmps47
    go_wp2_with (rw [← HW1.out])
    refine (HP.out _).mono ?_
    rintro e w3 ⟨rfl, hb3⟩
    have g3 := HG1.out w3 hb3
    have HB3 := Lib.hid hb3
    clear hb3
    go_wp2_with (refine wpList_store_row rfl 54 (.tmp 4) (.tmp 17) rfl w.heap.size #[.int .i64 0, .int .i64 0, .int .i64 0, .int .i64 0, .int .u32 0, .slice none 0 0] (by simp [Act.eval, Act.put]) (by simp [Act.eval, Act.put]) 54 #[.int .i64 0, .int .i64 0, .int .i64 0, .int .i64 0, .int .u32 0, .slice none 0 0] g3 (Tryd.info6 _ _ _ _ _ _ _ _) (size6 _ _ _ _ _ _ _ _ _ _ _ _ _ _ _ _) (one6 _ _ _ _ _ _ _ _) ?_)
    exact bodyPost_ret (results_cell_tmp (t := 54) (p := 4) (u := 5) rfl _ _ w.heap.size #[.int .i64 0, .int .i64 0, .int .i64 0, .int .i64 0, .int .u32 0, .slice none 0 0] (0, 0) _ rfl (setRow_heap _ _ _ _ _ _ g3) Tryd.underlying54 rfl (Tryd.info6 _ _ _ _ _ _ _ _)) rfl (by
      refine ⟨none, 0, zF, by rw [HR.out]; rfl, zF_at _ _, below_setRow (HB1.out.trans (HB3.out.mono HB1.out.size)) (Nat.le_refl _) _, (fun _ e => by cases e), (fun e => by rw [HR.out] at e; cases e)⟩)
  | true =>
    have HP := Lib.hid (fun W => show Calls Tryd.prog 23 #[.int .i64 s] W fun e w' => e = .returned (.tuple #[.int .i64 (plc s : Nat), .int .i64 0]) ∧ Below W.heap.size W w' from plc_place (by unfold isSeq at hq; simpa using hq) W)
    have HQ := Lib.hid hq
    clear hq
    go_enter Tryd.func47, Tryd.ntmps47
    go_wp2_with (rw [← HW1.out])
    refine (HP.out _).mono ?_
    rintro e w3 ⟨rfl, hb3⟩
    have HB3 := Lib.hid (HB1.out.trans (hb3.mono HB1.out.size))
    have HB13 := Lib.hid hb3
    have e0 := HC.out w3 HB3.out
    clear hb3
    go_wp2_with fail
    refine (sector_says (HD.out w3 HB3.out) HUp.out s).mono ?_
    rintro e w4 ⟨g, c4, rfl, hy4, hl4, hc4, hg4, hb4⟩
    have HB14 := Lib.hid (HB13.out.trans (hb4.mono HB13.out.size))
    have HB4 := Lib.hid (HB3.out.trans (hb4.mono HB3.out.size))
    have HRd := Lib.hid (read_new (rdD d s) _ c4 w4 (by omega) hy4 (HWd.out w4 HB4.out))
    have HL4 := Lib.hid hl4
    rw [hl4] at HRd
    clear hy4 hl4 hc4 hg4 hb4 e0
    go_wp2_with fail
    refine HRd.out.mono ?_
    rintro e w5 ⟨A5, c5, rfl, hv5, hb5, hn5⟩
    obtain ⟨f, hf⟩ : ∃ f, f = readF (rdD d s) := ⟨_, rfl⟩
    rw [← hf] at hv5 ⊢
    obtain ⟨E, hE⟩ : ∃ E, E = readE (rdD d s) := ⟨_, rfl⟩
    rw [← hE]
    have HF := Lib.hid hf
    have HE := Lib.hid hE
    clear hf hE
    unfold frv
    obtain ⟨w6, hw6⟩ : ∃ w6, w6 = w5.alloc (.cells #[.int .i64 f.seq, .int .i64 f.inc, .int .i64 f.part, .int .i64 f.of, .int .u32 (f.mark : Nat), .slice A5 f.load.length c5] 54) := ⟨_, rfl⟩
    have HW6 := Lib.hid hw6
    have hr6 : w6.heap[w5.heap.size]? = some (.cells #[.int .i64 f.seq, .int .i64 f.inc, .int .i64 f.part, .int .i64 f.of, .int .u32 (f.mark : Nat), .slice A5 f.load.length c5] 54 (0, 0)) := by rw [hw6]; exact heap_alloc_new w5 _
    have hb6 : Below w5.heap.size w5 w6 := by rw [hw6]; exact (Below.refl _ w5).alloc (Nat.le_refl _) _
    have hz6 : w6.heap.size = w5.heap.size + 1 := by rw [hw6]; simp
    have HR6 := Lib.hid hr6
    have HB16 := Lib.hid (HB14.out.trans ((hb5.trans (hb6.mono hb5.size)).mono HB14.out.size))
    have HLt := Lib.hid (show w.heap.size < w5.heap.size by have := HZ1.out; have := HB14.out.size; have := hb5.size; omega)
    have HF6 := Lib.hid (hv5.below hb6 (Nat.le_refl _))
    have HN5 := Lib.hid (show ∀ b, A5 = some b → w.heap.size ≤ b.block from fun b e => Nat.le_trans HB4.out.size (hn5 b e))
    have HS6 := Lib.hid (show w6.heap[w5.heap.size]? = some (.cells #[.int .i64 f.seq, .int .i64 f.inc, .int .i64 f.part, .int .i64 f.of, .int .u32 (f.mark : Nat), .slice A5 f.load.length c5] 54 (0, 0)) ∧ w6.cell? ⟨w5.heap.size, 0, none⟩ = some (.int .i64 f.seq) from ⟨hr6, by rw [cell_of_row w6 w5.heap.size 0 _ _ _ hr6]; rfl⟩)
    clear hr6 hb6 hz6 hw6 hv5 hb5 hn5
    go_wp2_with (rw [← HW6.out])
    have HQ2 := Lib.hid (show readB d s = (readOK (rdD d s) && decide (f.seq = s)) by unfold readB; rw [HQ.out, Bool.true_and, ← HF.out])
    have g6 := HG1.out w6 HB16.out
    cases hok : readOK (rdD d s) with
    | false =>
      obtain rfl : E = 40 := by rw [HE.out]; unfold readE; rw [hok]; rfl
      have HQ3 := Lib.hid (show readB d s = false by rw [HQ2.out, hok]; rfl)
      clear hok
      refine wp_region_held_drew (S := fun W => W.heap[w5.heap.size]? = some (.cells #[.int .i64 f.seq, .int .i64 f.inc, .int .i64 f.part, .int .i64 f.of, .int .u32 (f.mark : Nat), .slice A5 f.load.length c5] 54 (0, 0)) ∧ W.cell? ⟨w5.heap.size, 0, none⟩ = some (.int .i64 f.seq)) (by kernel_rfl) HS6.out (fun hHeld => ?_)
      refine wpAnyH_take (i := 0) (v := ?_) rfl (by kernel_rfl) (by kernel_rfl) (by kernel_rfl) (fun _ _ _ h => h) (Or.inl ⟨by rfl, ?_⟩) (by assumption) ?_
      rotate_left
      · simp only [List.getElem_toArray, List.getElem_cons_zero, List.getElem_cons_succ]; intro W hSw; (try dsimp only at hSw); refine exec_load_part 54 (.tmp 9) ?_ w5.heap.size 0 ?_ [.int .i64 f.seq, .int .i64 f.inc, .int .i64 f.part, .int .i64 f.of, .int .u32 (f.mark : Nat), .slice A5 f.load.length c5] _ (Dk.row_cells (cs := [.int .i64 f.seq, .int .i64 f.inc, .int .i64 f.part, .int .i64 f.of, .int .u32 (f.mark : Nat), .slice A5 f.load.length c5]) hSw.1 (fun j u hu => by rw [Nat.zero_add]; exact hu)) Tryd.underlying54 ?_ (Tryd.info6 _ _ _ _ _ _ _ _) <;> rfl
      simp only [Act.put, List.getElem_toArray, List.getElem_cons_zero, List.getElem_cons_succ, List.setIfInBounds_toArray, List.set_cons_zero, List.set_cons_succ]
      refine wpAnyH_take (i := 1) (v := ?_) rfl (by kernel_rfl) (by kernel_rfl) (by kernel_rfl) (fun _ _ _ h => h) (Or.inl ⟨by rfl, ?_⟩) (by assumption) ?_
      rotate_left
      · simp only [List.getElem_toArray, List.getElem_cons_zero, List.getElem_cons_succ]; intro W hSw; (try dsimp only at hSw); go_simp; all_goals with_reducible rfl
      simp only [Act.put, List.getElem_toArray, List.getElem_cons_zero, List.getElem_cons_succ, List.setIfInBounds_toArray, List.set_cons_zero, List.set_cons_succ]
      refine wpAnyH_take (i := 2) (v := ?_) rfl (by kernel_rfl) (by kernel_rfl) (by kernel_rfl) (fun _ _ _ h => h) (Or.inl ⟨by rfl, ?_⟩) (by assumption) ?_
      rotate_left
      · simp only [List.getElem_toArray, List.getElem_cons_zero, List.getElem_cons_succ]; intro W hSw; (try dsimp only at hSw); go_simp; all_goals with_reducible rfl
      simp only [Act.put, List.getElem_toArray, List.getElem_cons_zero, List.getElem_cons_succ, List.setIfInBounds_toArray, List.set_cons_zero, List.set_cons_succ]
      refine wpAnyH_take (i := 3) (v := ?_) rfl (by kernel_rfl) (by kernel_rfl) (by kernel_rfl) (fun _ _ _ h => h) (Or.inl ⟨by rfl, ?_⟩) (by assumption) ?_
      rotate_left
      · simp only [List.getElem_toArray, List.getElem_cons_zero, List.getElem_cons_succ]; intro W hSw; (try dsimp only at hSw); go_simp; all_goals with_reducible rfl
      simp only [Act.put, List.getElem_toArray, List.getElem_cons_zero, List.getElem_cons_succ, List.setIfInBounds_toArray, List.set_cons_zero, List.set_cons_succ]
      refine wpAnyH_take (i := 4) (v := undef) rfl (by kernel_rfl) (by kernel_rfl) (by kernel_rfl) (fun _ _ _ h => h) (Or.inr ⟨by rfl, rfl⟩) (by assumption) ?_
      (try simp only [Act.put, List.getElem_toArray, List.getElem_cons_zero, List.getElem_cons_succ, List.setIfInBounds_toArray, List.set_cons_zero, List.set_cons_succ])
      refine wpAnyH_take (i := 5) (v := undef) rfl (by kernel_rfl) (by kernel_rfl) (by kernel_rfl) (fun _ _ _ h => h) (Or.inr ⟨by rfl, rfl⟩) (by assumption) ?_
      (try simp only [Act.put, List.getElem_toArray, List.getElem_cons_zero, List.getElem_cons_succ, List.setIfInBounds_toArray, List.set_cons_zero, List.set_cons_succ])
      refine wpAnyH_take (i := 6) (v := undef) rfl (by kernel_rfl) (by kernel_rfl) (by kernel_rfl) (fun _ _ _ h => h) (Or.inr ⟨by rfl, rfl⟩) (by assumption) ?_
      (try simp only [Act.put, List.getElem_toArray, List.getElem_cons_zero, List.getElem_cons_succ, List.setIfInBounds_toArray, List.set_cons_zero, List.set_cons_succ])
      refine wpAnyH_take (i := 7) (v := undef) rfl (by kernel_rfl) (by kernel_rfl) (by kernel_rfl) (fun _ _ _ h => h) (Or.inr ⟨by rfl, rfl⟩) (by assumption) ?_
      (try simp only [Act.put, List.getElem_toArray, List.getElem_cons_zero, List.getElem_cons_succ, List.setIfInBounds_toArray, List.set_cons_zero, List.set_cons_succ])
      refine wpAnyH_take (i := 8) (v := ?_) rfl (by kernel_rfl) (by kernel_rfl) (by kernel_rfl) (fun _ _ _ h => h) (Or.inl ⟨by rfl, ?_⟩) (by assumption) ?_
      rotate_left
      · simp only [List.getElem_toArray, List.getElem_cons_zero, List.getElem_cons_succ]; intro W hSw; (try dsimp only at hSw); go_simp; all_goals with_reducible rfl
      simp only [Act.put, List.getElem_toArray, List.getElem_cons_zero, List.getElem_cons_succ, List.setIfInBounds_toArray, List.set_cons_zero, List.set_cons_succ]
      refine wpAnyH_ready (rs := [9]) (by kernel_rfl) (by simp) ?_
      refine AllReadyH.cons rfl (fun K hK => ?_) AllReadyH.nil
      simp only [List.getElem_toArray, List.getElem_cons_zero, List.getElem_cons_succ]
      rw [if_pos]
      rotate_left
      · simp [Region.wanted]
      refine wp_store_row 54 (.tmp 4) (.tmp 39) rfl w.heap.size #[.int .i64 f.seq, .int .i64 f.inc, .int .i64 f.part, .int .i64 f.of, .int .u32 (f.mark : Nat), .slice A5 f.load.length c5] (by simp [Act.eval, Act.put]) (by simp [Act.eval, Act.put]) 54 #[.int .i64 0, .int .i64 0, .int .i64 0, .int .i64 0, .int .u32 0, .slice none 0 0] g6 (Tryd.info6 _ _ _ _ _ _ _ _) (size6 _ _ _ _ _ _ _ _ _ _ _ _ _ _ _ _) (one6 _ _ _ _ _ _ _ _) ?_
      obtain ⟨w9, hw9⟩ : ∃ x, x = w6.drew.setRow w.heap.size #[.int .i64 f.seq, .int .i64 f.inc, .int .i64 f.part, .int .i64 f.of, .int .u32 (f.mark : Nat), .slice A5 f.load.length c5] := ⟨_, rfl⟩
      have hgr : w6.drew.grownBy w9 (some w.heap.size) := by rw [hw9]; exact Dk.grown_setRow w6.drew w.heap.size _
      have hr9 : w9.heap[w.heap.size]? = some (.cells #[.int .i64 f.seq, .int .i64 f.inc, .int .i64 f.part, .int .i64 f.of, .int .u32 (f.mark : Nat), .slice A5 f.load.length c5] 54 (0, 0)) := by rw [hw9]; exact setRow_heap _ _ _ _ _ _ g6
      have hs9 : w9.heap[w5.heap.size]? = some (.cells #[.int .i64 f.seq, .int .i64 f.inc, .int .i64 f.part, .int .i64 f.of, .int .u32 (f.mark : Nat), .slice A5 f.load.length c5] 54 (0, 0)) ∧ w9.cell? ⟨w5.heap.size, 0, none⟩ = some (.int .i64 f.seq) := by
        have h1 : w9.heap[w5.heap.size]? = w6.heap[w5.heap.size]? := by rw [hw9]; exact setRow_other _ _ _ _ (by have := HLt.out; omega)
        exact ⟨h1.trans HR6.out, (World.cell?_of_block (w := w6) h1).trans HS6.out.2⟩
      have hb9 : Below w.heap.size w w9 := by rw [hw9]; exact below_setRow (HB1.out.trans (HB16.out.mono HB1.out.size)).drew (Nat.le_refl _) _
      have hv9 : FrV w9 w9.heap.size (frv A5 c5 f) f := ⟨A5, c5, rfl, ((show FrV w6.drew w5.heap.size (frv A5 c5 f) f from HF6.out).load_by.off_row (show w5.heap.size ≤ w6.heap.size by have := HR6.out; exact Nat.le_of_lt (Array.getElem?_eq_some_iff.1 this).1) g6 (by intro u hu n e; subst e; simp at hu) hgr).mono (Nat.le_trans (Nat.le_of_lt (Array.getElem?_eq_some_iff.1 HR6.out).1) hgr.size), HF6.out.load_le.1, HF6.out.load_le.2.1, HF6.out.load_le.2.2, HF6.out.fine⟩
      have HR9 := Lib.hid hr9
      have HB9 := Lib.hid hb9
      have HV9 := Lib.hid hv9
      rw [← hw9]
      clear hw9 hgr hr9 hb9 hv9
      refine hK.out _ _ (hs9) (fun hHeldN => ?_)
      clear hK K hHeld
      have hHeld := hHeldN
      clear hHeldN
      (try simp only [Act.put, List.getElem_toArray, List.getElem_cons_zero, List.getElem_cons_succ, List.setIfInBounds_toArray, List.set_cons_zero, List.set_cons_succ])
      refine wpAnyH_take (i := 10) (v := ?_) rfl (by kernel_rfl) (by kernel_rfl) (by kernel_rfl) (fun _ _ _ h => h) (Or.inl ⟨by rfl, ?_⟩) (by assumption) ?_
      rotate_left
      · simp only [List.getElem_toArray, List.getElem_cons_zero, List.getElem_cons_succ]; intro W hSw; (try dsimp only at hSw); go_simp; all_goals with_reducible rfl
      simp only [Act.put, List.getElem_toArray, List.getElem_cons_zero, List.getElem_cons_succ, List.setIfInBounds_toArray, List.set_cons_zero, List.set_cons_succ]
      refine wpAnyH_done (by kernel_rfl) ?_ _
      go_wp2_with fail
      exact bodyPost_ret (results_cell_tmp (t := 54) (p := 4) (u := 5) rfl _ _ w.heap.size #[.int .i64 f.seq, .int .i64 f.inc, .int .i64 f.part, .int .i64 f.of, .int .u32 (f.mark : Nat), .slice A5 f.load.length c5] (0, 0) _ rfl HR9.out Tryd.underlying54 rfl (Tryd.info6 _ _ _ _ _ _ _ _)) rfl (by
        refine ⟨A5, c5, f, by rw [HQ3.out]; rfl, HV9.out, HB9.out, HN5.out, fun _ => HF.out⟩)
    | true =>
      obtain rfl : E = 0 := by rw [HE.out]; unfold readE; rw [hok]; rfl
      have HQ3 := Lib.hid (show readB d s = decide (f.seq = s) by rw [HQ2.out, hok, Bool.true_and])
      have HOk := Lib.hid hok
      clear hok
      refine wp_region_held_drew (S := fun W => W.heap[w5.heap.size]? = some (.cells #[.int .i64 f.seq, .int .i64 f.inc, .int .i64 f.part, .int .i64 f.of, .int .u32 (f.mark : Nat), .slice A5 f.load.length c5] 54 (0, 0)) ∧ W.cell? ⟨w5.heap.size, 0, none⟩ = some (.int .i64 f.seq)) (by kernel_rfl) HS6.out (fun hHeld => ?_)
      refine wpAnyH_take (i := 0) (v := ?_) rfl (by kernel_rfl) (by kernel_rfl) (by kernel_rfl) (fun _ _ _ h => h) (Or.inl ⟨by rfl, ?_⟩) (by assumption) ?_
      rotate_left
      · simp only [List.getElem_toArray, List.getElem_cons_zero, List.getElem_cons_succ]; intro W hSw; (try dsimp only at hSw); refine exec_load_part 54 (.tmp 9) ?_ w5.heap.size 0 ?_ [.int .i64 f.seq, .int .i64 f.inc, .int .i64 f.part, .int .i64 f.of, .int .u32 (f.mark : Nat), .slice A5 f.load.length c5] _ (Dk.row_cells (cs := [.int .i64 f.seq, .int .i64 f.inc, .int .i64 f.part, .int .i64 f.of, .int .u32 (f.mark : Nat), .slice A5 f.load.length c5]) hSw.1 (fun j u hu => by rw [Nat.zero_add]; exact hu)) Tryd.underlying54 ?_ (Tryd.info6 _ _ _ _ _ _ _ _) <;> rfl
      simp only [Act.put, List.getElem_toArray, List.getElem_cons_zero, List.getElem_cons_succ, List.setIfInBounds_toArray, List.set_cons_zero, List.set_cons_succ]
      refine wpAnyH_take (i := 1) (v := ?_) rfl (by kernel_rfl) (by kernel_rfl) (by kernel_rfl) (fun _ _ _ h => h) (Or.inl ⟨by rfl, ?_⟩) (by assumption) ?_
      rotate_left
      · simp only [List.getElem_toArray, List.getElem_cons_zero, List.getElem_cons_succ]; intro W hSw; (try dsimp only at hSw); go_simp; all_goals with_reducible rfl
      simp only [Act.put, List.getElem_toArray, List.getElem_cons_zero, List.getElem_cons_succ, List.setIfInBounds_toArray, List.set_cons_zero, List.set_cons_succ]
      refine wpAnyH_take (i := 2) (v := ?_) rfl (by kernel_rfl) (by kernel_rfl) (by kernel_rfl) (fun _ _ _ h => h) (Or.inl ⟨by rfl, ?_⟩) (by assumption) ?_
      rotate_left
      · simp only [List.getElem_toArray, List.getElem_cons_zero, List.getElem_cons_succ]; intro W hSw; (try dsimp only at hSw); go_simp; all_goals with_reducible rfl
      simp only [Act.put, List.getElem_toArray, List.getElem_cons_zero, List.getElem_cons_succ, List.setIfInBounds_toArray, List.set_cons_zero, List.set_cons_succ]
      refine wpAnyH_take (i := 3) (v := ?_) rfl (by kernel_rfl) (by kernel_rfl) (by kernel_rfl) (fun _ _ _ h => h) (Or.inl ⟨by rfl, ?_⟩) (by assumption) ?_
      rotate_left
      · simp only [List.getElem_toArray, List.getElem_cons_zero, List.getElem_cons_succ]; intro W hSw; (try dsimp only at hSw); go_simp; all_goals with_reducible rfl
      simp only [Act.put, List.getElem_toArray, List.getElem_cons_zero, List.getElem_cons_succ, List.setIfInBounds_toArray, List.set_cons_zero, List.set_cons_succ]
      refine wpAnyH_take (i := 4) (v := ?_) rfl (by kernel_rfl) (by kernel_rfl) (by kernel_rfl) (fun _ _ _ h => h) (Or.inl ⟨by rfl, ?_⟩) (by assumption) ?_
      rotate_left
      · simp only [List.getElem_toArray, List.getElem_cons_zero, List.getElem_cons_succ]; intro W hSw; (try dsimp only at hSw); go_simp; all_goals with_reducible rfl
      simp only [Act.put, List.getElem_toArray, List.getElem_cons_zero, List.getElem_cons_succ, List.setIfInBounds_toArray, List.set_cons_zero, List.set_cons_succ]
      refine wpAnyH_take (i := 5) (v := ?_) rfl (by kernel_rfl) (by kernel_rfl) (by kernel_rfl) (fun _ _ _ h => h) (Or.inl ⟨by rfl, ?_⟩) (by assumption) ?_
      rotate_left
      · simp only [List.getElem_toArray, List.getElem_cons_zero, List.getElem_cons_succ]; intro W hSw; (try dsimp only at hSw); go_simp; all_goals with_reducible rfl
      simp only [Act.put, List.getElem_toArray, List.getElem_cons_zero, List.getElem_cons_succ, List.setIfInBounds_toArray, List.set_cons_zero, List.set_cons_succ]
      refine wpAnyH_take (i := 6) (v := ?_) rfl (by kernel_rfl) (by kernel_rfl) (by kernel_rfl) (fun _ _ _ h => h) (Or.inl ⟨by rfl, ?_⟩) (by assumption) ?_
      rotate_left
      · simp only [List.getElem_toArray, List.getElem_cons_zero, List.getElem_cons_succ]; intro W hSw; (try dsimp only at hSw); go_simp; all_goals with_reducible rfl
      simp only [Act.put, List.getElem_toArray, List.getElem_cons_zero, List.getElem_cons_succ, List.setIfInBounds_toArray, List.set_cons_zero, List.set_cons_succ]
      refine wpAnyH_take (i := 7) (v := ?_) rfl (by kernel_rfl) (by kernel_rfl) (by kernel_rfl) (fun _ _ _ h => h) (Or.inl ⟨by rfl, ?_⟩) (by assumption) ?_
      rotate_left
      · simp only [List.getElem_toArray, List.getElem_cons_zero, List.getElem_cons_succ]; intro W hSw; (try dsimp only at hSw); go_simp; all_goals with_reducible rfl
      simp only [Act.put, List.getElem_toArray, List.getElem_cons_zero, List.getElem_cons_succ, List.setIfInBounds_toArray, List.set_cons_zero, List.set_cons_succ]
      refine wpAnyH_take (i := 8) (v := ?_) rfl (by kernel_rfl) (by kernel_rfl) (by kernel_rfl) (fun _ _ _ h => h) (Or.inl ⟨by rfl, ?_⟩) (by assumption) ?_
      rotate_left
      · simp only [List.getElem_toArray, List.getElem_cons_zero, List.getElem_cons_succ]; intro W hSw; (try dsimp only at hSw); go_simp; all_goals with_reducible rfl
      simp only [Act.put, List.getElem_toArray, List.getElem_cons_zero, List.getElem_cons_succ, List.setIfInBounds_toArray, List.set_cons_zero, List.set_cons_succ]
      refine wpAnyH_ready (rs := [9]) (by kernel_rfl) (by simp) ?_
      refine AllReadyH.cons rfl (fun K hK => ?_) AllReadyH.nil
      simp only [List.getElem_toArray, List.getElem_cons_zero, List.getElem_cons_succ]
      rw [if_pos]
      rotate_left
      · simp [Region.wanted]
      refine wp_store_row 54 (.tmp 4) (.tmp 39) rfl w.heap.size #[.int .i64 f.seq, .int .i64 f.inc, .int .i64 f.part, .int .i64 f.of, .int .u32 (f.mark : Nat), .slice A5 f.load.length c5] (by simp [Act.eval, Act.put]) (by simp [Act.eval, Act.put]) 54 #[.int .i64 0, .int .i64 0, .int .i64 0, .int .i64 0, .int .u32 0, .slice none 0 0] g6 (Tryd.info6 _ _ _ _ _ _ _ _) (size6 _ _ _ _ _ _ _ _ _ _ _ _ _ _ _ _) (one6 _ _ _ _ _ _ _ _) ?_
      obtain ⟨w9, hw9⟩ : ∃ x, x = w6.drew.setRow w.heap.size #[.int .i64 f.seq, .int .i64 f.inc, .int .i64 f.part, .int .i64 f.of, .int .u32 (f.mark : Nat), .slice A5 f.load.length c5] := ⟨_, rfl⟩
      have hgr : w6.drew.grownBy w9 (some w.heap.size) := by rw [hw9]; exact Dk.grown_setRow w6.drew w.heap.size _
      have hr9 : w9.heap[w.heap.size]? = some (.cells #[.int .i64 f.seq, .int .i64 f.inc, .int .i64 f.part, .int .i64 f.of, .int .u32 (f.mark : Nat), .slice A5 f.load.length c5] 54 (0, 0)) := by rw [hw9]; exact setRow_heap _ _ _ _ _ _ g6
      have hs9 : w9.heap[w5.heap.size]? = some (.cells #[.int .i64 f.seq, .int .i64 f.inc, .int .i64 f.part, .int .i64 f.of, .int .u32 (f.mark : Nat), .slice A5 f.load.length c5] 54 (0, 0)) ∧ w9.cell? ⟨w5.heap.size, 0, none⟩ = some (.int .i64 f.seq) := by
        have h1 : w9.heap[w5.heap.size]? = w6.heap[w5.heap.size]? := by rw [hw9]; exact setRow_other _ _ _ _ (by have := HLt.out; omega)
        exact ⟨h1.trans HR6.out, (World.cell?_of_block (w := w6) h1).trans HS6.out.2⟩
      have hb9 : Below w.heap.size w w9 := by rw [hw9]; exact below_setRow (HB1.out.trans (HB16.out.mono HB1.out.size)).drew (Nat.le_refl _) _
      have hv9 : FrV w9 w9.heap.size (frv A5 c5 f) f := ⟨A5, c5, rfl, ((show FrV w6.drew w5.heap.size (frv A5 c5 f) f from HF6.out).load_by.off_row (show w5.heap.size ≤ w6.heap.size by have := HR6.out; exact Nat.le_of_lt (Array.getElem?_eq_some_iff.1 this).1) g6 (by intro u hu n e; subst e; simp at hu) hgr).mono (Nat.le_trans (Nat.le_of_lt (Array.getElem?_eq_some_iff.1 HR6.out).1) hgr.size), HF6.out.load_le.1, HF6.out.load_le.2.1, HF6.out.load_le.2.2, HF6.out.fine⟩
      have HR9 := Lib.hid hr9
      have HB9 := Lib.hid hb9
      have HV9 := Lib.hid hv9
      rw [← hw9]
      clear hw9 hgr hr9 hb9 hv9
      refine hK.out _ _ (hs9) (fun hHeldN => ?_)
      clear hK K hHeld
      have hHeld := hHeldN
      clear hHeldN
      (try simp only [Act.put, List.getElem_toArray, List.getElem_cons_zero, List.getElem_cons_succ, List.setIfInBounds_toArray, List.set_cons_zero, List.set_cons_succ])
      refine wpAnyH_take (i := 10) (v := ?_) rfl (by kernel_rfl) (by kernel_rfl) (by kernel_rfl) (fun _ _ _ h => h) (Or.inl ⟨by rfl, ?_⟩) (by assumption) ?_
      rotate_left
      · simp only [List.getElem_toArray, List.getElem_cons_zero, List.getElem_cons_succ]; intro W hSw; (try dsimp only at hSw); go_simp; all_goals with_reducible rfl
      simp only [Act.put, List.getElem_toArray, List.getElem_cons_zero, List.getElem_cons_succ, List.setIfInBounds_toArray, List.set_cons_zero, List.set_cons_succ]
      refine wpAnyH_done (by kernel_rfl) ?_ _
      go_wp2_with fail
      exact bodyPost_ret (results_cell_tmp (t := 54) (p := 4) (u := 5) rfl _ _ w.heap.size #[.int .i64 f.seq, .int .i64 f.inc, .int .i64 f.part, .int .i64 f.of, .int .u32 (f.mark : Nat), .slice A5 f.load.length c5] (0, 0) _ rfl HR9.out Tryd.underlying54 rfl (Tryd.info6 _ _ _ _ _ _ _ _)) rfl (by
        refine ⟨A5, c5, f, by rw [HQ3.out]; rfl, HV9.out, HB9.out, HN5.out, fun _ => HF.out⟩)
end Go.Proofs.YtkajcgpkldofjaaDoor
end

section
/-
  A scan's follows, by contract: may a frame come behind the last good one?
-/
namespace Go.Proofs.YtkajcgpkldofjaaDoor
open Go.RowKit Fm
set_option maxRecDepth 100000

def nextB (L f : Fr) : Bool := if moreB L = true then decide (f.part = L.part + 1) && (decide (f.of = L.of) && (decide (f.mark = L.mark) && decide (f.inc = L.inc))) else decide (f.part = 0) && decide (L.inc ≤ f.inc)

set_option maxHeartbeats 4000000 in
theorem follows_says {w : World} {Bs a : Nat} {tail er : Int} {A0 A : Option Addr} {c0 c : Nat} {L f : Fr}
    (hs : w.heap[Bs]? = some (.cells (scanRow a tail A0 c0 L er) 59 (0, 0))) (hp0 : 0 ≤ L.part) (hp : L.part ≤ 100) :
    Calls Tryd.prog 48 #[.pointer (some ⟨Bs, 0, none⟩), .agg (frv A c f).toArray] w fun e w' => e = .returned (.bool (nextB L f)) ∧ Below w.heap.size w w' := by
  obtain ⟨w1, hw1⟩ : ∃ w1, w1 = w.alloc (.cells (frv A c f).toArray 54) := ⟨_, rfl⟩
  have hb1 : Below w.heap.size w w1 := by rw [hw1]; exact (Below.refl _ w).alloc (Nat.le_refl _) _
  have hz1 : w1.heap.size = w.heap.size + 1 := by rw [hw1]; simp
  have hlt : Bs < w.heap.size := (Array.getElem?_eq_some_iff.1 hs).1
  have hf1 : w1.heap[w.heap.size]? = some (.cells (frv A c f).toArray 54 (0, 0)) := by rw [hw1]; exact heap_alloc_new w _
  have hs1 := (hb1.block _ hlt).trans hs
  have HC := Lib.hid (show ∀ W, Below w1.heap.size w1 W → ∀ j u, (scanRow a tail A0 c0 L er)[j]? = some u → W.cell? ⟨Bs, j, none⟩ = some u from fun W hW j u hu => by
    rw [cell_of_row W Bs j _ _ _ ((hW.block _ (by omega)).trans hs1)]; exact hu)
  have HF := Lib.hid (show ∀ W, Below w1.heap.size w1 W → ∀ j u, (frv A c f)[j]? = some u → W.cell? ⟨w.heap.size, j, none⟩ = some u from fun W hW j u hu => by
    rw [cell_of_row W w.heap.size j _ _ _ ((hW.block _ (by omega)).trans hf1)]; simpa using hu)
  have HM := Lib.hid (fun W => more_any L A0 c0 W (by omega) (by omega))
  have HB1 := Lib.hid hb1
  have HW1 := Lib.hid hw1
  have hc2 := HC.out w1 (Below.refl _ _) 2 (.int .i64 L.seq) rfl
  have hc3 := HC.out w1 (Below.refl _ _) 3 (.int .i64 L.inc) rfl
  have hc4 := HC.out w1 (Below.refl _ _) 4 (.int .i64 L.part) rfl
  have hc5 := HC.out w1 (Below.refl _ _) 5 (.int .i64 L.of) rfl
  have hc6 := HC.out w1 (Below.refl _ _) 6 (.int .u32 (L.mark : Nat)) rfl
  have hc7 := HC.out w1 (Below.refl _ _) 7 (.slice A0 L.load.length c0) rfl
  have hw : IntKind.i64.wrap (L.part + 1) = L.part + 1 := by rw [IntKind.wrap_i64]; omega
  obtain ⟨E, hE⟩ : ∃ E, E = nextB L f := ⟨_, rfl⟩
  rw [← hE]
  have HE0 := Lib.hid hE
  clear hb1 hw1 hz1 hf1 hs1 hs hlt hp0 hp hE
  unfold frv at HW1 HM
  unfold frv
  go_enter Tryd.func48, Tryd.ntmps48
  go_wp2_with (rw [← HW1.out])
  refine (HM.out _).mono ?_
  rintro e w3 ⟨rfl, hb3⟩
  have HB3 := Lib.hid (HB1.out.trans (hb3.mono HB1.out.size))
  have HS := Lib.hid (show ∀ W, w3.drew = W → (W.cell? ⟨w.heap.size, 1, none⟩ = some (.int .i64 f.inc) ∧ W.cell? ⟨w.heap.size, 2, none⟩ = some (.int .i64 f.part) ∧ W.cell? ⟨w.heap.size, 3, none⟩ = some (.int .i64 f.of) ∧ W.cell? ⟨w.heap.size, 4, none⟩ = some (.int .u32 (f.mark : Nat))) ∧ W.cell? ⟨Bs, 3, none⟩ = some (.int .i64 L.inc) ∧ W.cell? ⟨Bs, 4, none⟩ = some (.int .i64 L.part) ∧ W.cell? ⟨Bs, 5, none⟩ = some (.int .i64 L.of) ∧ W.cell? ⟨Bs, 6, none⟩ = some (.int .u32 (L.mark : Nat)) from fun W hW => by
    have hb : Below w1.heap.size w1 W := by rw [← hW]; exact hb3.drew
    exact ⟨⟨HF.out W hb 1 _ rfl, HF.out W hb 2 _ rfl, HF.out W hb 3 _ rfl, HF.out W hb 4 _ rfl⟩, HC.out W hb 3 _ rfl, HC.out W hb 4 _ rfl, HC.out W hb 5 _ rfl, HC.out W hb 6 _ rfl⟩)
  clear hb3 hc2 hc3 hc4 hc5 hc6 hc7
  cases hm : moreB L with
  | false =>
    unfold nextB at HE0
    rw [hm, if_neg (by simp)] at HE0
    clear hm
    by_cases h0 : f.part = 0
    · have hq : (f.part == 0) = true := by simp [h0]
      have HE := Lib.hid (show E = decide (f.inc ≥ L.inc) by rw [HE0.out, decide_eq_true h0, Bool.true_and])
      clear h0 HE0
      go_wp2_with fail
      refine wp_region_held_drew (S := fun W => (W.cell? ⟨w.heap.size, 1, none⟩ = some (.int .i64 f.inc) ∧ W.cell? ⟨w.heap.size, 2, none⟩ = some (.int .i64 f.part) ∧ W.cell? ⟨w.heap.size, 3, none⟩ = some (.int .i64 f.of) ∧ W.cell? ⟨w.heap.size, 4, none⟩ = some (.int .u32 (f.mark : Nat))) ∧ W.cell? ⟨Bs, 3, none⟩ = some (.int .i64 L.inc) ∧ W.cell? ⟨Bs, 4, none⟩ = some (.int .i64 L.part) ∧ W.cell? ⟨Bs, 5, none⟩ = some (.int .i64 L.of) ∧ W.cell? ⟨Bs, 6, none⟩ = some (.int .u32 (L.mark : Nat))) (by kernel_rfl) (HS.out _ rfl) (fun hHeld => ?_)
      refine wpAnyH_take (i := 0) (v := ?_) rfl (by kernel_rfl) (by kernel_rfl) (by kernel_rfl) (fun _ _ _ h => h) (Or.inl ⟨by rfl, ?_⟩) (by assumption) ?_
      rotate_left
      · simp only [List.getElem_toArray, List.getElem_cons_zero, List.getElem_cons_succ]; intro W hSw; (try dsimp only at hSw); go_simp; all_goals with_reducible rfl
      simp only [Act.put, List.getElem_toArray, List.getElem_cons_zero, List.getElem_cons_succ, List.setIfInBounds_toArray, List.set_cons_zero, List.set_cons_succ]
      refine wpAnyH_take (i := 1) (v := ?_) rfl (by kernel_rfl) (by kernel_rfl) (by kernel_rfl) (fun _ _ _ h => h) (Or.inl ⟨by rfl, ?_⟩) (by assumption) ?_
      rotate_left
      · simp only [List.getElem_toArray, List.getElem_cons_zero, List.getElem_cons_succ]; intro W hSw; (try dsimp only at hSw); go_simp; all_goals with_reducible rfl
      simp only [Act.put, List.getElem_toArray, List.getElem_cons_zero, List.getElem_cons_succ, List.setIfInBounds_toArray, List.set_cons_zero, List.set_cons_succ]
      refine wpAnyH_take (i := 2) (v := ?_) rfl (by kernel_rfl) (by kernel_rfl) (by kernel_rfl) (fun _ _ _ h => h) (Or.inl ⟨by rfl, ?_⟩) (by assumption) ?_
      rotate_left
      · simp only [List.getElem_toArray, List.getElem_cons_zero, List.getElem_cons_succ]; intro W hSw; (try dsimp only at hSw); go_simp; all_goals with_reducible rfl
      simp only [Act.put, List.getElem_toArray, List.getElem_cons_zero, List.getElem_cons_succ, List.setIfInBounds_toArray, List.set_cons_zero, List.set_cons_succ]
      refine wpAnyH_take (i := 3) (v := ?_) rfl (by kernel_rfl) (by kernel_rfl) (by kernel_rfl) (fun _ _ _ h => h) (Or.inl ⟨by rfl, ?_⟩) (by assumption) ?_
      rotate_left
      · simp only [List.getElem_toArray, List.getElem_cons_zero, List.getElem_cons_succ]; intro W hSw; (try dsimp only at hSw); go_simp; all_goals with_reducible rfl
      simp only [Act.put, List.getElem_toArray, List.getElem_cons_zero, List.getElem_cons_succ, List.setIfInBounds_toArray, List.set_cons_zero, List.set_cons_succ]
      refine wpAnyH_take (i := 4) (v := ?_) rfl (by kernel_rfl) (by kernel_rfl) (by kernel_rfl) (fun _ _ _ h => h) (Or.inl ⟨by rfl, ?_⟩) (by assumption) ?_
      rotate_left
      · simp only [List.getElem_toArray, List.getElem_cons_zero, List.getElem_cons_succ]; intro W hSw; (try dsimp only at hSw); go_simp; all_goals with_reducible rfl
      simp only [Act.put, List.getElem_toArray, List.getElem_cons_zero, List.getElem_cons_succ, List.setIfInBounds_toArray, List.set_cons_zero, List.set_cons_succ]
      refine wpAnyH_take (i := 5) (v := ?_) rfl (by kernel_rfl) (by kernel_rfl) (by kernel_rfl) (fun _ _ _ h => h) (Or.inl ⟨by rfl, ?_⟩) (by assumption) ?_
      rotate_left
      · simp only [List.getElem_toArray, List.getElem_cons_zero, List.getElem_cons_succ]; intro W hSw; (try dsimp only at hSw); go_simp; all_goals with_reducible rfl
      simp only [Act.put, List.getElem_toArray, List.getElem_cons_zero, List.getElem_cons_succ, List.setIfInBounds_toArray, List.set_cons_zero, List.set_cons_succ]
      refine wpAnyH_take (i := 6) (v := ?_) rfl (by kernel_rfl) (by kernel_rfl) (by kernel_rfl) (fun _ _ _ h => h) (Or.inl ⟨by rfl, ?_⟩) (by assumption) ?_
      rotate_left
      · simp only [List.getElem_toArray, List.getElem_cons_zero, List.getElem_cons_succ]; intro W hSw; (try dsimp only at hSw); go_simp; all_goals with_reducible rfl
      simp only [Act.put, List.getElem_toArray, List.getElem_cons_zero, List.getElem_cons_succ, List.setIfInBounds_toArray, List.set_cons_zero, List.set_cons_succ]
      refine wpAnyH_take (i := 7) (v := ?_) rfl (by kernel_rfl) (by kernel_rfl) (by kernel_rfl) (fun _ _ _ h => h) (Or.inl ⟨by rfl, ?_⟩) (by assumption) ?_
      rotate_left
      · simp only [List.getElem_toArray, List.getElem_cons_zero, List.getElem_cons_succ]; intro W hSw; (try dsimp only at hSw); go_simp; all_goals with_reducible rfl
      simp only [Act.put, List.getElem_toArray, List.getElem_cons_zero, List.getElem_cons_succ, List.setIfInBounds_toArray, List.set_cons_zero, List.set_cons_succ]
      refine wpAnyH_take (i := 8) (v := ?_) rfl (by kernel_rfl) (by kernel_rfl) (by kernel_rfl) (fun _ _ _ h => h) (Or.inl ⟨by rfl, ?_⟩) (by assumption) ?_
      rotate_left
      · simp only [List.getElem_toArray, List.getElem_cons_zero, List.getElem_cons_succ]; intro W hSw; (try dsimp only at hSw); go_simp; all_goals with_reducible rfl
      simp only [Act.put, List.getElem_toArray, List.getElem_cons_zero, List.getElem_cons_succ, List.setIfInBounds_toArray, List.set_cons_zero, List.set_cons_succ]
      refine wpAnyH_take (i := 9) (v := ?_) rfl (by kernel_rfl) (by kernel_rfl) (by kernel_rfl) (fun _ _ _ h => h) (Or.inl ⟨by rfl, ?_⟩) (by assumption) ?_
      rotate_left
      · simp only [List.getElem_toArray, List.getElem_cons_zero, List.getElem_cons_succ]; intro W hSw; (try dsimp only at hSw); go_simp; all_goals with_reducible rfl
      simp only [Act.put, List.getElem_toArray, List.getElem_cons_zero, List.getElem_cons_succ, List.setIfInBounds_toArray, List.set_cons_zero, List.set_cons_succ]
      refine wpAnyH_take (i := 10) (v := ?_) rfl (by kernel_rfl) (by kernel_rfl) (by kernel_rfl) (fun _ _ _ h => h) (Or.inl ⟨by rfl, ?_⟩) (by assumption) ?_
      rotate_left
      · simp only [List.getElem_toArray, List.getElem_cons_zero, List.getElem_cons_succ]; intro W hSw; (try dsimp only at hSw); go_simp; all_goals with_reducible rfl
      simp only [Act.put, List.getElem_toArray, List.getElem_cons_zero, List.getElem_cons_succ, List.setIfInBounds_toArray, List.set_cons_zero, List.set_cons_succ]
      refine wpAnyH_take (i := 11) (v := ?_) rfl (by kernel_rfl) (by kernel_rfl) (by kernel_rfl) (fun _ _ _ h => h) (Or.inl ⟨by rfl, ?_⟩) (by assumption) ?_
      rotate_left
      · simp only [List.getElem_toArray, List.getElem_cons_zero, List.getElem_cons_succ]; intro W hSw; (try dsimp only at hSw); go_simp; all_goals with_reducible rfl
      simp only [Act.put, List.getElem_toArray, List.getElem_cons_zero, List.getElem_cons_succ, List.setIfInBounds_toArray, List.set_cons_zero, List.set_cons_succ]
      refine wpAnyH_take (i := 12) (v := ?_) rfl (by kernel_rfl) (by kernel_rfl) (by kernel_rfl) (fun _ _ _ h => h) (Or.inl ⟨by rfl, ?_⟩) (by assumption) ?_
      rotate_left
      · simp only [List.getElem_toArray, List.getElem_cons_zero, List.getElem_cons_succ]; intro W hSw; (try dsimp only at hSw); go_simp; all_goals with_reducible rfl
      simp only [Act.put, List.getElem_toArray, List.getElem_cons_zero, List.getElem_cons_succ, List.setIfInBounds_toArray, List.set_cons_zero, List.set_cons_succ]
      refine wpAnyH_take (i := 13) (v := ?_) rfl (by kernel_rfl) (by kernel_rfl) (by kernel_rfl) (fun _ _ _ h => h) (Or.inl ⟨by rfl, ?_⟩) (by assumption) ?_
      rotate_left
      · simp only [List.getElem_toArray, List.getElem_cons_zero, List.getElem_cons_succ]; intro W hSw; (try dsimp only at hSw); go_simp; all_goals with_reducible rfl
      simp only [Act.put, List.getElem_toArray, List.getElem_cons_zero, List.getElem_cons_succ, List.setIfInBounds_toArray, List.set_cons_zero, List.set_cons_succ]
      refine wpAnyH_done (by kernel_rfl) ?_ _
      go_wp2_with fail
      go_ret
      exact ⟨by rw [HE.out]; rfl, HB3.out.drew⟩
    · have hq : (f.part == 0) = false := by simp [h0]
      have HE := Lib.hid (show E = false by rw [HE0.out, decide_eq_false h0, Bool.false_and])
      clear h0 HE0
      go_wp2_with fail
      refine wp_region_held_drew (S := fun W => (W.cell? ⟨w.heap.size, 1, none⟩ = some (.int .i64 f.inc) ∧ W.cell? ⟨w.heap.size, 2, none⟩ = some (.int .i64 f.part) ∧ W.cell? ⟨w.heap.size, 3, none⟩ = some (.int .i64 f.of) ∧ W.cell? ⟨w.heap.size, 4, none⟩ = some (.int .u32 (f.mark : Nat))) ∧ W.cell? ⟨Bs, 3, none⟩ = some (.int .i64 L.inc) ∧ W.cell? ⟨Bs, 4, none⟩ = some (.int .i64 L.part) ∧ W.cell? ⟨Bs, 5, none⟩ = some (.int .i64 L.of) ∧ W.cell? ⟨Bs, 6, none⟩ = some (.int .u32 (L.mark : Nat))) (by kernel_rfl) (HS.out _ rfl) (fun hHeld => ?_)
      refine wpAnyH_take (i := 0) (v := ?_) rfl (by kernel_rfl) (by kernel_rfl) (by kernel_rfl) (fun _ _ _ h => h) (Or.inl ⟨by rfl, ?_⟩) (by assumption) ?_
      rotate_left
      · simp only [List.getElem_toArray, List.getElem_cons_zero, List.getElem_cons_succ]; intro W hSw; (try dsimp only at hSw); go_simp; all_goals with_reducible rfl
      simp only [Act.put, List.getElem_toArray, List.getElem_cons_zero, List.getElem_cons_succ, List.setIfInBounds_toArray, List.set_cons_zero, List.set_cons_succ]
      refine wpAnyH_take (i := 1) (v := ?_) rfl (by kernel_rfl) (by kernel_rfl) (by kernel_rfl) (fun _ _ _ h => h) (Or.inl ⟨by rfl, ?_⟩) (by assumption) ?_
      rotate_left
      · simp only [List.getElem_toArray, List.getElem_cons_zero, List.getElem_cons_succ]; intro W hSw; (try dsimp only at hSw); go_simp; all_goals with_reducible rfl
      simp only [Act.put, List.getElem_toArray, List.getElem_cons_zero, List.getElem_cons_succ, List.setIfInBounds_toArray, List.set_cons_zero, List.set_cons_succ]
      refine wpAnyH_take (i := 2) (v := ?_) rfl (by kernel_rfl) (by kernel_rfl) (by kernel_rfl) (fun _ _ _ h => h) (Or.inl ⟨by rfl, ?_⟩) (by assumption) ?_
      rotate_left
      · simp only [List.getElem_toArray, List.getElem_cons_zero, List.getElem_cons_succ]; intro W hSw; (try dsimp only at hSw); go_simp; all_goals with_reducible rfl
      simp only [Act.put, List.getElem_toArray, List.getElem_cons_zero, List.getElem_cons_succ, List.setIfInBounds_toArray, List.set_cons_zero, List.set_cons_succ]
      refine wpAnyH_take (i := 3) (v := ?_) rfl (by kernel_rfl) (by kernel_rfl) (by kernel_rfl) (fun _ _ _ h => h) (Or.inl ⟨by rfl, ?_⟩) (by assumption) ?_
      rotate_left
      · simp only [List.getElem_toArray, List.getElem_cons_zero, List.getElem_cons_succ]; intro W hSw; (try dsimp only at hSw); go_simp; all_goals with_reducible rfl
      simp only [Act.put, List.getElem_toArray, List.getElem_cons_zero, List.getElem_cons_succ, List.setIfInBounds_toArray, List.set_cons_zero, List.set_cons_succ]
      refine wpAnyH_take (i := 4) (v := undef) rfl (by kernel_rfl) (by kernel_rfl) (by kernel_rfl) (fun _ _ _ h => h) (Or.inr ⟨by rfl, rfl⟩) (by assumption) ?_
      (try simp only [Act.put, List.getElem_toArray, List.getElem_cons_zero, List.getElem_cons_succ, List.setIfInBounds_toArray, List.set_cons_zero, List.set_cons_succ])
      refine wpAnyH_take (i := 5) (v := undef) rfl (by kernel_rfl) (by kernel_rfl) (by kernel_rfl) (fun _ _ _ h => h) (Or.inr ⟨by rfl, rfl⟩) (by assumption) ?_
      (try simp only [Act.put, List.getElem_toArray, List.getElem_cons_zero, List.getElem_cons_succ, List.setIfInBounds_toArray, List.set_cons_zero, List.set_cons_succ])
      refine wpAnyH_take (i := 6) (v := undef) rfl (by kernel_rfl) (by kernel_rfl) (by kernel_rfl) (fun _ _ _ h => h) (Or.inr ⟨by rfl, rfl⟩) (by assumption) ?_
      (try simp only [Act.put, List.getElem_toArray, List.getElem_cons_zero, List.getElem_cons_succ, List.setIfInBounds_toArray, List.set_cons_zero, List.set_cons_succ])
      refine wpAnyH_take (i := 7) (v := undef) rfl (by kernel_rfl) (by kernel_rfl) (by kernel_rfl) (fun _ _ _ h => h) (Or.inr ⟨by rfl, rfl⟩) (by assumption) ?_
      (try simp only [Act.put, List.getElem_toArray, List.getElem_cons_zero, List.getElem_cons_succ, List.setIfInBounds_toArray, List.set_cons_zero, List.set_cons_succ])
      refine wpAnyH_take (i := 8) (v := undef) rfl (by kernel_rfl) (by kernel_rfl) (by kernel_rfl) (fun _ _ _ h => h) (Or.inr ⟨by rfl, rfl⟩) (by assumption) ?_
      (try simp only [Act.put, List.getElem_toArray, List.getElem_cons_zero, List.getElem_cons_succ, List.setIfInBounds_toArray, List.set_cons_zero, List.set_cons_succ])
      refine wpAnyH_take (i := 9) (v := undef) rfl (by kernel_rfl) (by kernel_rfl) (by kernel_rfl) (fun _ _ _ h => h) (Or.inr ⟨by rfl, rfl⟩) (by assumption) ?_
      (try simp only [Act.put, List.getElem_toArray, List.getElem_cons_zero, List.getElem_cons_succ, List.setIfInBounds_toArray, List.set_cons_zero, List.set_cons_succ])
      refine wpAnyH_take (i := 10) (v := undef) rfl (by kernel_rfl) (by kernel_rfl) (by kernel_rfl) (fun _ _ _ h => h) (Or.inr ⟨by rfl, rfl⟩) (by assumption) ?_
      (try simp only [Act.put, List.getElem_toArray, List.getElem_cons_zero, List.getElem_cons_succ, List.setIfInBounds_toArray, List.set_cons_zero, List.set_cons_succ])
      refine wpAnyH_take (i := 11) (v := undef) rfl (by kernel_rfl) (by kernel_rfl) (by kernel_rfl) (fun _ _ _ h => h) (Or.inr ⟨by rfl, rfl⟩) (by assumption) ?_
      (try simp only [Act.put, List.getElem_toArray, List.getElem_cons_zero, List.getElem_cons_succ, List.setIfInBounds_toArray, List.set_cons_zero, List.set_cons_succ])
      refine wpAnyH_take (i := 12) (v := ?_) rfl (by kernel_rfl) (by kernel_rfl) (by kernel_rfl) (fun _ _ _ h => h) (Or.inl ⟨by rfl, ?_⟩) (by assumption) ?_
      rotate_left
      · simp only [List.getElem_toArray, List.getElem_cons_zero, List.getElem_cons_succ]; intro W hSw; (try dsimp only at hSw); go_simp; all_goals with_reducible rfl
      simp only [Act.put, List.getElem_toArray, List.getElem_cons_zero, List.getElem_cons_succ, List.setIfInBounds_toArray, List.set_cons_zero, List.set_cons_succ]
      refine wpAnyH_take (i := 13) (v := ?_) rfl (by kernel_rfl) (by kernel_rfl) (by kernel_rfl) (fun _ _ _ h => h) (Or.inl ⟨by rfl, ?_⟩) (by assumption) ?_
      rotate_left
      · simp only [List.getElem_toArray, List.getElem_cons_zero, List.getElem_cons_succ]; intro W hSw; (try dsimp only at hSw); go_simp; all_goals with_reducible rfl
      simp only [Act.put, List.getElem_toArray, List.getElem_cons_zero, List.getElem_cons_succ, List.setIfInBounds_toArray, List.set_cons_zero, List.set_cons_succ]
      refine wpAnyH_done (by kernel_rfl) ?_ _
      go_wp2_with fail
      go_ret
      exact ⟨by rw [HE.out]; rfl, HB3.out.drew⟩
  | true =>
    unfold nextB at HE0
    rw [hm, if_pos rfl] at HE0
    clear hm
    have e1 : decide (f.part = L.part + 1) = (f.part == L.part + 1) := by rw [Bool.eq_iff_iff, decide_eq_true_iff, beq_iff_eq]
    have e2 : decide (f.of = L.of) = (f.of == L.of) := by rw [Bool.eq_iff_iff, decide_eq_true_iff, beq_iff_eq]
    have e3 : decide (f.mark = L.mark) = ((f.mark : Int) == (L.mark : Int)) := by
      rw [Bool.eq_iff_iff, decide_eq_true_iff, beq_iff_eq]; omega
    have e4 : decide (f.inc = L.inc) = (f.inc == L.inc) := by rw [Bool.eq_iff_iff, decide_eq_true_iff, beq_iff_eq]
    rw [e1, e2, e3, e4] at HE0
    clear e1 e2 e3 e4
    cases h1 : (f.part == L.part + 1) with
    | false =>
      have HE := Lib.hid (show E = false by rw [HE0.out, h1, Bool.false_and])
      clear HE0
      go_wp2_with fail
      refine wp_region_held_drew (S := fun W => (W.cell? ⟨w.heap.size, 1, none⟩ = some (.int .i64 f.inc) ∧ W.cell? ⟨w.heap.size, 2, none⟩ = some (.int .i64 f.part) ∧ W.cell? ⟨w.heap.size, 3, none⟩ = some (.int .i64 f.of) ∧ W.cell? ⟨w.heap.size, 4, none⟩ = some (.int .u32 (f.mark : Nat))) ∧ W.cell? ⟨Bs, 3, none⟩ = some (.int .i64 L.inc) ∧ W.cell? ⟨Bs, 4, none⟩ = some (.int .i64 L.part) ∧ W.cell? ⟨Bs, 5, none⟩ = some (.int .i64 L.of) ∧ W.cell? ⟨Bs, 6, none⟩ = some (.int .u32 (L.mark : Nat))) (by kernel_rfl) (HS.out _ rfl) (fun hHeld => ?_)
      refine wpAnyH_take (i := 0) (v := ?_) rfl (by kernel_rfl) (by kernel_rfl) (by kernel_rfl) (fun _ _ _ h => h) (Or.inl ⟨by rfl, ?_⟩) (by assumption) ?_
      rotate_left
      · simp only [List.getElem_toArray, List.getElem_cons_zero, List.getElem_cons_succ]; intro W hSw; (try dsimp only at hSw); go_simp; all_goals with_reducible rfl
      simp only [Act.put, List.getElem_toArray, List.getElem_cons_zero, List.getElem_cons_succ, List.setIfInBounds_toArray, List.set_cons_zero, List.set_cons_succ]
      refine wpAnyH_take (i := 1) (v := ?_) rfl (by kernel_rfl) (by kernel_rfl) (by kernel_rfl) (fun _ _ _ h => h) (Or.inl ⟨by rfl, ?_⟩) (by assumption) ?_
      rotate_left
      · simp only [List.getElem_toArray, List.getElem_cons_zero, List.getElem_cons_succ]; intro W hSw; (try dsimp only at hSw); go_simp; all_goals with_reducible rfl
      simp only [Act.put, List.getElem_toArray, List.getElem_cons_zero, List.getElem_cons_succ, List.setIfInBounds_toArray, List.set_cons_zero, List.set_cons_succ]
      refine wpAnyH_take (i := 2) (v := ?_) rfl (by kernel_rfl) (by kernel_rfl) (by kernel_rfl) (fun _ _ _ h => h) (Or.inl ⟨by rfl, ?_⟩) (by assumption) ?_
      rotate_left
      · simp only [List.getElem_toArray, List.getElem_cons_zero, List.getElem_cons_succ]; intro W hSw; (try dsimp only at hSw); go_simp; all_goals with_reducible rfl
      simp only [Act.put, List.getElem_toArray, List.getElem_cons_zero, List.getElem_cons_succ, List.setIfInBounds_toArray, List.set_cons_zero, List.set_cons_succ]
      refine wpAnyH_take (i := 3) (v := ?_) rfl (by kernel_rfl) (by kernel_rfl) (by kernel_rfl) (fun _ _ _ h => h) (Or.inl ⟨by rfl, ?_⟩) (by assumption) ?_
      rotate_left
      · simp only [List.getElem_toArray, List.getElem_cons_zero, List.getElem_cons_succ]; intro W hSw; (try dsimp only at hSw); go_simp; all_goals with_reducible rfl
      simp only [Act.put, List.getElem_toArray, List.getElem_cons_zero, List.getElem_cons_succ, List.setIfInBounds_toArray, List.set_cons_zero, List.set_cons_succ]
      refine wpAnyH_take (i := 4) (v := ?_) rfl (by kernel_rfl) (by kernel_rfl) (by kernel_rfl) (fun _ _ _ h => h) (Or.inl ⟨by rfl, ?_⟩) (by assumption) ?_
      rotate_left
      · simp only [List.getElem_toArray, List.getElem_cons_zero, List.getElem_cons_succ]; intro W hSw; (try dsimp only at hSw); go_simp; all_goals with_reducible rfl
      simp only [Act.put, List.getElem_toArray, List.getElem_cons_zero, List.getElem_cons_succ, List.setIfInBounds_toArray, List.set_cons_zero, List.set_cons_succ]
      refine wpAnyH_take (i := 5) (v := ?_) rfl (by kernel_rfl) (by kernel_rfl) (by kernel_rfl) (fun _ _ _ h => h) (Or.inl ⟨by rfl, ?_⟩) (by assumption) ?_
      rotate_left
      · simp only [List.getElem_toArray, List.getElem_cons_zero, List.getElem_cons_succ]; intro W hSw; (try dsimp only at hSw); go_simp; all_goals with_reducible rfl
      simp only [Act.put, List.getElem_toArray, List.getElem_cons_zero, List.getElem_cons_succ, List.setIfInBounds_toArray, List.set_cons_zero, List.set_cons_succ]
      refine wpAnyH_take (i := 6) (v := ?_) rfl (by kernel_rfl) (by kernel_rfl) (by kernel_rfl) (fun _ _ _ h => h) (Or.inl ⟨by rfl, ?_⟩) (by assumption) ?_
      rotate_left
      · simp only [List.getElem_toArray, List.getElem_cons_zero, List.getElem_cons_succ]; intro W hSw; (try dsimp only at hSw); go_simp; all_goals with_reducible rfl
      simp only [Act.put, List.getElem_toArray, List.getElem_cons_zero, List.getElem_cons_succ, List.setIfInBounds_toArray, List.set_cons_zero, List.set_cons_succ]
      refine wpAnyH_take (i := 7) (v := ?_) rfl (by kernel_rfl) (by kernel_rfl) (by kernel_rfl) (fun _ _ _ h => h) (Or.inl ⟨by rfl, ?_⟩) (by assumption) ?_
      rotate_left
      · simp only [List.getElem_toArray, List.getElem_cons_zero, List.getElem_cons_succ]; intro W hSw; (try dsimp only at hSw); go_simp; all_goals with_reducible rfl
      simp only [Act.put, List.getElem_toArray, List.getElem_cons_zero, List.getElem_cons_succ, List.setIfInBounds_toArray, List.set_cons_zero, List.set_cons_succ]
      refine wpAnyH_take (i := 8) (v := ?_) rfl (by kernel_rfl) (by kernel_rfl) (by kernel_rfl) (fun _ _ _ h => h) (Or.inl ⟨by rfl, ?_⟩) (by assumption) ?_
      rotate_left
      · simp only [List.getElem_toArray, List.getElem_cons_zero, List.getElem_cons_succ]; intro W hSw; (try dsimp only at hSw); go_simp; all_goals with_reducible rfl
      simp only [Act.put, List.getElem_toArray, List.getElem_cons_zero, List.getElem_cons_succ, List.setIfInBounds_toArray, List.set_cons_zero, List.set_cons_succ]
      refine wpAnyH_take (i := 9) (v := ?_) rfl (by kernel_rfl) (by kernel_rfl) (by kernel_rfl) (fun _ _ _ h => h) (Or.inl ⟨by rfl, ?_⟩) (by assumption) ?_
      rotate_left
      · simp only [List.getElem_toArray, List.getElem_cons_zero, List.getElem_cons_succ]; intro W hSw; (try dsimp only at hSw); go_simp; all_goals with_reducible rfl
      simp only [Act.put, List.getElem_toArray, List.getElem_cons_zero, List.getElem_cons_succ, List.setIfInBounds_toArray, List.set_cons_zero, List.set_cons_succ]
      refine wpAnyH_take (i := 10) (v := undef) rfl (by kernel_rfl) (by kernel_rfl) (by kernel_rfl) (fun _ _ _ h => h) (Or.inr ⟨by rfl, rfl⟩) (by assumption) ?_
      (try simp only [Act.put, List.getElem_toArray, List.getElem_cons_zero, List.getElem_cons_succ, List.setIfInBounds_toArray, List.set_cons_zero, List.set_cons_succ])
      refine wpAnyH_take (i := 11) (v := undef) rfl (by kernel_rfl) (by kernel_rfl) (by kernel_rfl) (fun _ _ _ h => h) (Or.inr ⟨by rfl, rfl⟩) (by assumption) ?_
      (try simp only [Act.put, List.getElem_toArray, List.getElem_cons_zero, List.getElem_cons_succ, List.setIfInBounds_toArray, List.set_cons_zero, List.set_cons_succ])
      refine wpAnyH_take (i := 12) (v := undef) rfl (by kernel_rfl) (by kernel_rfl) (by kernel_rfl) (fun _ _ _ h => h) (Or.inr ⟨by rfl, rfl⟩) (by assumption) ?_
      (try simp only [Act.put, List.getElem_toArray, List.getElem_cons_zero, List.getElem_cons_succ, List.setIfInBounds_toArray, List.set_cons_zero, List.set_cons_succ])
      refine wpAnyH_take (i := 13) (v := undef) rfl (by kernel_rfl) (by kernel_rfl) (by kernel_rfl) (fun _ _ _ h => h) (Or.inr ⟨by rfl, rfl⟩) (by assumption) ?_
      (try simp only [Act.put, List.getElem_toArray, List.getElem_cons_zero, List.getElem_cons_succ, List.setIfInBounds_toArray, List.set_cons_zero, List.set_cons_succ])
      refine wpAnyH_take (i := 14) (v := undef) rfl (by kernel_rfl) (by kernel_rfl) (by kernel_rfl) (fun _ _ _ h => h) (Or.inr ⟨by rfl, rfl⟩) (by assumption) ?_
      (try simp only [Act.put, List.getElem_toArray, List.getElem_cons_zero, List.getElem_cons_succ, List.setIfInBounds_toArray, List.set_cons_zero, List.set_cons_succ])
      refine wpAnyH_take (i := 15) (v := undef) rfl (by kernel_rfl) (by kernel_rfl) (by kernel_rfl) (fun _ _ _ h => h) (Or.inr ⟨by rfl, rfl⟩) (by assumption) ?_
      (try simp only [Act.put, List.getElem_toArray, List.getElem_cons_zero, List.getElem_cons_succ, List.setIfInBounds_toArray, List.set_cons_zero, List.set_cons_succ])
      refine wpAnyH_take (i := 16) (v := undef) rfl (by kernel_rfl) (by kernel_rfl) (by kernel_rfl) (fun _ _ _ h => h) (Or.inr ⟨by rfl, rfl⟩) (by assumption) ?_
      (try simp only [Act.put, List.getElem_toArray, List.getElem_cons_zero, List.getElem_cons_succ, List.setIfInBounds_toArray, List.set_cons_zero, List.set_cons_succ])
      refine wpAnyH_take (i := 17) (v := undef) rfl (by kernel_rfl) (by kernel_rfl) (by kernel_rfl) (fun _ _ _ h => h) (Or.inr ⟨by rfl, rfl⟩) (by assumption) ?_
      (try simp only [Act.put, List.getElem_toArray, List.getElem_cons_zero, List.getElem_cons_succ, List.setIfInBounds_toArray, List.set_cons_zero, List.set_cons_succ])
      refine wpAnyH_take (i := 18) (v := ?_) rfl (by kernel_rfl) (by kernel_rfl) (by kernel_rfl) (fun _ _ _ h => h) (Or.inl ⟨by rfl, ?_⟩) (by assumption) ?_
      rotate_left
      · simp only [List.getElem_toArray, List.getElem_cons_zero, List.getElem_cons_succ]; intro W hSw; (try dsimp only at hSw); go_simp; all_goals with_reducible rfl
      simp only [Act.put, List.getElem_toArray, List.getElem_cons_zero, List.getElem_cons_succ, List.setIfInBounds_toArray, List.set_cons_zero, List.set_cons_succ]
      refine wpAnyH_take (i := 19) (v := ?_) rfl (by kernel_rfl) (by kernel_rfl) (by kernel_rfl) (fun _ _ _ h => h) (Or.inl ⟨by rfl, ?_⟩) (by assumption) ?_
      rotate_left
      · simp only [List.getElem_toArray, List.getElem_cons_zero, List.getElem_cons_succ]; intro W hSw; (try dsimp only at hSw); go_simp; all_goals with_reducible rfl
      simp only [Act.put, List.getElem_toArray, List.getElem_cons_zero, List.getElem_cons_succ, List.setIfInBounds_toArray, List.set_cons_zero, List.set_cons_succ]
      refine wpAnyH_take (i := 20) (v := undef) rfl (by kernel_rfl) (by kernel_rfl) (by kernel_rfl) (fun _ _ _ h => h) (Or.inr ⟨by rfl, rfl⟩) (by assumption) ?_
      (try simp only [Act.put, List.getElem_toArray, List.getElem_cons_zero, List.getElem_cons_succ, List.setIfInBounds_toArray, List.set_cons_zero, List.set_cons_succ])
      refine wpAnyH_take (i := 21) (v := undef) rfl (by kernel_rfl) (by kernel_rfl) (by kernel_rfl) (fun _ _ _ h => h) (Or.inr ⟨by rfl, rfl⟩) (by assumption) ?_
      (try simp only [Act.put, List.getElem_toArray, List.getElem_cons_zero, List.getElem_cons_succ, List.setIfInBounds_toArray, List.set_cons_zero, List.set_cons_succ])
      refine wpAnyH_take (i := 22) (v := undef) rfl (by kernel_rfl) (by kernel_rfl) (by kernel_rfl) (fun _ _ _ h => h) (Or.inr ⟨by rfl, rfl⟩) (by assumption) ?_
      (try simp only [Act.put, List.getElem_toArray, List.getElem_cons_zero, List.getElem_cons_succ, List.setIfInBounds_toArray, List.set_cons_zero, List.set_cons_succ])
      refine wpAnyH_take (i := 23) (v := undef) rfl (by kernel_rfl) (by kernel_rfl) (by kernel_rfl) (fun _ _ _ h => h) (Or.inr ⟨by rfl, rfl⟩) (by assumption) ?_
      (try simp only [Act.put, List.getElem_toArray, List.getElem_cons_zero, List.getElem_cons_succ, List.setIfInBounds_toArray, List.set_cons_zero, List.set_cons_succ])
      refine wpAnyH_take (i := 24) (v := undef) rfl (by kernel_rfl) (by kernel_rfl) (by kernel_rfl) (fun _ _ _ h => h) (Or.inr ⟨by rfl, rfl⟩) (by assumption) ?_
      (try simp only [Act.put, List.getElem_toArray, List.getElem_cons_zero, List.getElem_cons_succ, List.setIfInBounds_toArray, List.set_cons_zero, List.set_cons_succ])
      refine wpAnyH_take (i := 25) (v := undef) rfl (by kernel_rfl) (by kernel_rfl) (by kernel_rfl) (fun _ _ _ h => h) (Or.inr ⟨by rfl, rfl⟩) (by assumption) ?_
      (try simp only [Act.put, List.getElem_toArray, List.getElem_cons_zero, List.getElem_cons_succ, List.setIfInBounds_toArray, List.set_cons_zero, List.set_cons_succ])
      refine wpAnyH_take (i := 26) (v := undef) rfl (by kernel_rfl) (by kernel_rfl) (by kernel_rfl) (fun _ _ _ h => h) (Or.inr ⟨by rfl, rfl⟩) (by assumption) ?_
      (try simp only [Act.put, List.getElem_toArray, List.getElem_cons_zero, List.getElem_cons_succ, List.setIfInBounds_toArray, List.set_cons_zero, List.set_cons_succ])
      refine wpAnyH_take (i := 27) (v := undef) rfl (by kernel_rfl) (by kernel_rfl) (by kernel_rfl) (fun _ _ _ h => h) (Or.inr ⟨by rfl, rfl⟩) (by assumption) ?_
      (try simp only [Act.put, List.getElem_toArray, List.getElem_cons_zero, List.getElem_cons_succ, List.setIfInBounds_toArray, List.set_cons_zero, List.set_cons_succ])
      refine wpAnyH_take (i := 28) (v := ?_) rfl (by kernel_rfl) (by kernel_rfl) (by kernel_rfl) (fun _ _ _ h => h) (Or.inl ⟨by rfl, ?_⟩) (by assumption) ?_
      rotate_left
      · simp only [List.getElem_toArray, List.getElem_cons_zero, List.getElem_cons_succ]; intro W hSw; (try dsimp only at hSw); go_simp; all_goals with_reducible rfl
      simp only [Act.put, List.getElem_toArray, List.getElem_cons_zero, List.getElem_cons_succ, List.setIfInBounds_toArray, List.set_cons_zero, List.set_cons_succ]
      refine wpAnyH_take (i := 29) (v := ?_) rfl (by kernel_rfl) (by kernel_rfl) (by kernel_rfl) (fun _ _ _ h => h) (Or.inl ⟨by rfl, ?_⟩) (by assumption) ?_
      rotate_left
      · simp only [List.getElem_toArray, List.getElem_cons_zero, List.getElem_cons_succ]; intro W hSw; (try dsimp only at hSw); go_simp; all_goals with_reducible rfl
      simp only [Act.put, List.getElem_toArray, List.getElem_cons_zero, List.getElem_cons_succ, List.setIfInBounds_toArray, List.set_cons_zero, List.set_cons_succ]
      refine wpAnyH_take (i := 30) (v := undef) rfl (by kernel_rfl) (by kernel_rfl) (by kernel_rfl) (fun _ _ _ h => h) (Or.inr ⟨by rfl, rfl⟩) (by assumption) ?_
      (try simp only [Act.put, List.getElem_toArray, List.getElem_cons_zero, List.getElem_cons_succ, List.setIfInBounds_toArray, List.set_cons_zero, List.set_cons_succ])
      refine wpAnyH_take (i := 31) (v := undef) rfl (by kernel_rfl) (by kernel_rfl) (by kernel_rfl) (fun _ _ _ h => h) (Or.inr ⟨by rfl, rfl⟩) (by assumption) ?_
      (try simp only [Act.put, List.getElem_toArray, List.getElem_cons_zero, List.getElem_cons_succ, List.setIfInBounds_toArray, List.set_cons_zero, List.set_cons_succ])
      refine wpAnyH_take (i := 32) (v := undef) rfl (by kernel_rfl) (by kernel_rfl) (by kernel_rfl) (fun _ _ _ h => h) (Or.inr ⟨by rfl, rfl⟩) (by assumption) ?_
      (try simp only [Act.put, List.getElem_toArray, List.getElem_cons_zero, List.getElem_cons_succ, List.setIfInBounds_toArray, List.set_cons_zero, List.set_cons_succ])
      refine wpAnyH_take (i := 33) (v := undef) rfl (by kernel_rfl) (by kernel_rfl) (by kernel_rfl) (fun _ _ _ h => h) (Or.inr ⟨by rfl, rfl⟩) (by assumption) ?_
      (try simp only [Act.put, List.getElem_toArray, List.getElem_cons_zero, List.getElem_cons_succ, List.setIfInBounds_toArray, List.set_cons_zero, List.set_cons_succ])
      refine wpAnyH_take (i := 34) (v := undef) rfl (by kernel_rfl) (by kernel_rfl) (by kernel_rfl) (fun _ _ _ h => h) (Or.inr ⟨by rfl, rfl⟩) (by assumption) ?_
      (try simp only [Act.put, List.getElem_toArray, List.getElem_cons_zero, List.getElem_cons_succ, List.setIfInBounds_toArray, List.set_cons_zero, List.set_cons_succ])
      refine wpAnyH_take (i := 35) (v := undef) rfl (by kernel_rfl) (by kernel_rfl) (by kernel_rfl) (fun _ _ _ h => h) (Or.inr ⟨by rfl, rfl⟩) (by assumption) ?_
      (try simp only [Act.put, List.getElem_toArray, List.getElem_cons_zero, List.getElem_cons_succ, List.setIfInBounds_toArray, List.set_cons_zero, List.set_cons_succ])
      refine wpAnyH_take (i := 36) (v := undef) rfl (by kernel_rfl) (by kernel_rfl) (by kernel_rfl) (fun _ _ _ h => h) (Or.inr ⟨by rfl, rfl⟩) (by assumption) ?_
      (try simp only [Act.put, List.getElem_toArray, List.getElem_cons_zero, List.getElem_cons_succ, List.setIfInBounds_toArray, List.set_cons_zero, List.set_cons_succ])
      refine wpAnyH_take (i := 37) (v := undef) rfl (by kernel_rfl) (by kernel_rfl) (by kernel_rfl) (fun _ _ _ h => h) (Or.inr ⟨by rfl, rfl⟩) (by assumption) ?_
      (try simp only [Act.put, List.getElem_toArray, List.getElem_cons_zero, List.getElem_cons_succ, List.setIfInBounds_toArray, List.set_cons_zero, List.set_cons_succ])
      refine wpAnyH_take (i := 38) (v := ?_) rfl (by kernel_rfl) (by kernel_rfl) (by kernel_rfl) (fun _ _ _ h => h) (Or.inl ⟨by rfl, ?_⟩) (by assumption) ?_
      rotate_left
      · simp only [List.getElem_toArray, List.getElem_cons_zero, List.getElem_cons_succ]; intro W hSw; (try dsimp only at hSw); go_simp; all_goals with_reducible rfl
      simp only [Act.put, List.getElem_toArray, List.getElem_cons_zero, List.getElem_cons_succ, List.setIfInBounds_toArray, List.set_cons_zero, List.set_cons_succ]
      refine wpAnyH_take (i := 39) (v := ?_) rfl (by kernel_rfl) (by kernel_rfl) (by kernel_rfl) (fun _ _ _ h => h) (Or.inl ⟨by rfl, ?_⟩) (by assumption) ?_
      rotate_left
      · simp only [List.getElem_toArray, List.getElem_cons_zero, List.getElem_cons_succ]; intro W hSw; (try dsimp only at hSw); go_simp; all_goals with_reducible rfl
      simp only [Act.put, List.getElem_toArray, List.getElem_cons_zero, List.getElem_cons_succ, List.setIfInBounds_toArray, List.set_cons_zero, List.set_cons_succ]
      refine wpAnyH_done (by kernel_rfl) ?_ _
      go_wp2_with fail
      go_ret
      exact ⟨by rw [HE.out]; rfl, HB3.out.drew⟩
    | true =>
      cases h2 : (f.of == L.of) with
      | false =>
        have HE := Lib.hid (show E = false by rw [HE0.out, h1, h2, Bool.true_and, Bool.false_and])
        clear HE0
        go_wp2_with fail
        refine wp_region_held_drew (S := fun W => (W.cell? ⟨w.heap.size, 1, none⟩ = some (.int .i64 f.inc) ∧ W.cell? ⟨w.heap.size, 2, none⟩ = some (.int .i64 f.part) ∧ W.cell? ⟨w.heap.size, 3, none⟩ = some (.int .i64 f.of) ∧ W.cell? ⟨w.heap.size, 4, none⟩ = some (.int .u32 (f.mark : Nat))) ∧ W.cell? ⟨Bs, 3, none⟩ = some (.int .i64 L.inc) ∧ W.cell? ⟨Bs, 4, none⟩ = some (.int .i64 L.part) ∧ W.cell? ⟨Bs, 5, none⟩ = some (.int .i64 L.of) ∧ W.cell? ⟨Bs, 6, none⟩ = some (.int .u32 (L.mark : Nat))) (by kernel_rfl) (HS.out _ rfl) (fun hHeld => ?_)
        refine wpAnyH_take (i := 0) (v := ?_) rfl (by kernel_rfl) (by kernel_rfl) (by kernel_rfl) (fun _ _ _ h => h) (Or.inl ⟨by rfl, ?_⟩) (by assumption) ?_
        rotate_left
        · simp only [List.getElem_toArray, List.getElem_cons_zero, List.getElem_cons_succ]; intro W hSw; (try dsimp only at hSw); go_simp; all_goals with_reducible rfl
        simp only [Act.put, List.getElem_toArray, List.getElem_cons_zero, List.getElem_cons_succ, List.setIfInBounds_toArray, List.set_cons_zero, List.set_cons_succ]
        refine wpAnyH_take (i := 1) (v := ?_) rfl (by kernel_rfl) (by kernel_rfl) (by kernel_rfl) (fun _ _ _ h => h) (Or.inl ⟨by rfl, ?_⟩) (by assumption) ?_
        rotate_left
        · simp only [List.getElem_toArray, List.getElem_cons_zero, List.getElem_cons_succ]; intro W hSw; (try dsimp only at hSw); go_simp; all_goals with_reducible rfl
        simp only [Act.put, List.getElem_toArray, List.getElem_cons_zero, List.getElem_cons_succ, List.setIfInBounds_toArray, List.set_cons_zero, List.set_cons_succ]
        refine wpAnyH_take (i := 2) (v := ?_) rfl (by kernel_rfl) (by kernel_rfl) (by kernel_rfl) (fun _ _ _ h => h) (Or.inl ⟨by rfl, ?_⟩) (by assumption) ?_
        rotate_left
        · simp only [List.getElem_toArray, List.getElem_cons_zero, List.getElem_cons_succ]; intro W hSw; (try dsimp only at hSw); go_simp; all_goals with_reducible rfl
        simp only [Act.put, List.getElem_toArray, List.getElem_cons_zero, List.getElem_cons_succ, List.setIfInBounds_toArray, List.set_cons_zero, List.set_cons_succ]
        refine wpAnyH_take (i := 3) (v := ?_) rfl (by kernel_rfl) (by kernel_rfl) (by kernel_rfl) (fun _ _ _ h => h) (Or.inl ⟨by rfl, ?_⟩) (by assumption) ?_
        rotate_left
        · simp only [List.getElem_toArray, List.getElem_cons_zero, List.getElem_cons_succ]; intro W hSw; (try dsimp only at hSw); go_simp; all_goals with_reducible rfl
        simp only [Act.put, List.getElem_toArray, List.getElem_cons_zero, List.getElem_cons_succ, List.setIfInBounds_toArray, List.set_cons_zero, List.set_cons_succ]
        refine wpAnyH_take (i := 4) (v := ?_) rfl (by kernel_rfl) (by kernel_rfl) (by kernel_rfl) (fun _ _ _ h => h) (Or.inl ⟨by rfl, ?_⟩) (by assumption) ?_
        rotate_left
        · simp only [List.getElem_toArray, List.getElem_cons_zero, List.getElem_cons_succ]; intro W hSw; (try dsimp only at hSw); go_simp; all_goals with_reducible rfl
        simp only [Act.put, List.getElem_toArray, List.getElem_cons_zero, List.getElem_cons_succ, List.setIfInBounds_toArray, List.set_cons_zero, List.set_cons_succ]
        refine wpAnyH_take (i := 5) (v := ?_) rfl (by kernel_rfl) (by kernel_rfl) (by kernel_rfl) (fun _ _ _ h => h) (Or.inl ⟨by rfl, ?_⟩) (by assumption) ?_
        rotate_left
        · simp only [List.getElem_toArray, List.getElem_cons_zero, List.getElem_cons_succ]; intro W hSw; (try dsimp only at hSw); go_simp; all_goals with_reducible rfl
        simp only [Act.put, List.getElem_toArray, List.getElem_cons_zero, List.getElem_cons_succ, List.setIfInBounds_toArray, List.set_cons_zero, List.set_cons_succ]
        refine wpAnyH_take (i := 6) (v := ?_) rfl (by kernel_rfl) (by kernel_rfl) (by kernel_rfl) (fun _ _ _ h => h) (Or.inl ⟨by rfl, ?_⟩) (by assumption) ?_
        rotate_left
        · simp only [List.getElem_toArray, List.getElem_cons_zero, List.getElem_cons_succ]; intro W hSw; (try dsimp only at hSw); go_simp; all_goals with_reducible rfl
        simp only [Act.put, List.getElem_toArray, List.getElem_cons_zero, List.getElem_cons_succ, List.setIfInBounds_toArray, List.set_cons_zero, List.set_cons_succ]
        refine wpAnyH_take (i := 7) (v := ?_) rfl (by kernel_rfl) (by kernel_rfl) (by kernel_rfl) (fun _ _ _ h => h) (Or.inl ⟨by rfl, ?_⟩) (by assumption) ?_
        rotate_left
        · simp only [List.getElem_toArray, List.getElem_cons_zero, List.getElem_cons_succ]; intro W hSw; (try dsimp only at hSw); go_simp; all_goals with_reducible rfl
        simp only [Act.put, List.getElem_toArray, List.getElem_cons_zero, List.getElem_cons_succ, List.setIfInBounds_toArray, List.set_cons_zero, List.set_cons_succ]
        refine wpAnyH_take (i := 8) (v := ?_) rfl (by kernel_rfl) (by kernel_rfl) (by kernel_rfl) (fun _ _ _ h => h) (Or.inl ⟨by rfl, ?_⟩) (by assumption) ?_
        rotate_left
        · simp only [List.getElem_toArray, List.getElem_cons_zero, List.getElem_cons_succ]; intro W hSw; (try dsimp only at hSw); go_simp; all_goals with_reducible rfl
        simp only [Act.put, List.getElem_toArray, List.getElem_cons_zero, List.getElem_cons_succ, List.setIfInBounds_toArray, List.set_cons_zero, List.set_cons_succ]
        refine wpAnyH_take (i := 9) (v := ?_) rfl (by kernel_rfl) (by kernel_rfl) (by kernel_rfl) (fun _ _ _ h => h) (Or.inl ⟨by rfl, ?_⟩) (by assumption) ?_
        rotate_left
        · simp only [List.getElem_toArray, List.getElem_cons_zero, List.getElem_cons_succ]; intro W hSw; (try dsimp only at hSw); go_simp; all_goals with_reducible rfl
        simp only [Act.put, List.getElem_toArray, List.getElem_cons_zero, List.getElem_cons_succ, List.setIfInBounds_toArray, List.set_cons_zero, List.set_cons_succ]
        refine wpAnyH_take (i := 10) (v := ?_) rfl (by kernel_rfl) (by kernel_rfl) (by kernel_rfl) (fun _ _ _ h => h) (Or.inl ⟨by rfl, ?_⟩) (by assumption) ?_
        rotate_left
        · simp only [List.getElem_toArray, List.getElem_cons_zero, List.getElem_cons_succ]; intro W hSw; (try dsimp only at hSw); go_simp; all_goals with_reducible rfl
        simp only [Act.put, List.getElem_toArray, List.getElem_cons_zero, List.getElem_cons_succ, List.setIfInBounds_toArray, List.set_cons_zero, List.set_cons_succ]
        refine wpAnyH_take (i := 11) (v := ?_) rfl (by kernel_rfl) (by kernel_rfl) (by kernel_rfl) (fun _ _ _ h => h) (Or.inl ⟨by rfl, ?_⟩) (by assumption) ?_
        rotate_left
        · simp only [List.getElem_toArray, List.getElem_cons_zero, List.getElem_cons_succ]; intro W hSw; (try dsimp only at hSw); go_simp; all_goals with_reducible rfl
        simp only [Act.put, List.getElem_toArray, List.getElem_cons_zero, List.getElem_cons_succ, List.setIfInBounds_toArray, List.set_cons_zero, List.set_cons_succ]
        refine wpAnyH_take (i := 12) (v := ?_) rfl (by kernel_rfl) (by kernel_rfl) (by kernel_rfl) (fun _ _ _ h => h) (Or.inl ⟨by rfl, ?_⟩) (by assumption) ?_
        rotate_left
        · simp only [List.getElem_toArray, List.getElem_cons_zero, List.getElem_cons_succ]; intro W hSw; (try dsimp only at hSw); go_simp; all_goals with_reducible rfl
        simp only [Act.put, List.getElem_toArray, List.getElem_cons_zero, List.getElem_cons_succ, List.setIfInBounds_toArray, List.set_cons_zero, List.set_cons_succ]
        refine wpAnyH_take (i := 13) (v := ?_) rfl (by kernel_rfl) (by kernel_rfl) (by kernel_rfl) (fun _ _ _ h => h) (Or.inl ⟨by rfl, ?_⟩) (by assumption) ?_
        rotate_left
        · simp only [List.getElem_toArray, List.getElem_cons_zero, List.getElem_cons_succ]; intro W hSw; (try dsimp only at hSw); go_simp; all_goals with_reducible rfl
        simp only [Act.put, List.getElem_toArray, List.getElem_cons_zero, List.getElem_cons_succ, List.setIfInBounds_toArray, List.set_cons_zero, List.set_cons_succ]
        refine wpAnyH_take (i := 14) (v := ?_) rfl (by kernel_rfl) (by kernel_rfl) (by kernel_rfl) (fun _ _ _ h => h) (Or.inl ⟨by rfl, ?_⟩) (by assumption) ?_
        rotate_left
        · simp only [List.getElem_toArray, List.getElem_cons_zero, List.getElem_cons_succ]; intro W hSw; (try dsimp only at hSw); go_simp; all_goals with_reducible rfl
        simp only [Act.put, List.getElem_toArray, List.getElem_cons_zero, List.getElem_cons_succ, List.setIfInBounds_toArray, List.set_cons_zero, List.set_cons_succ]
        refine wpAnyH_take (i := 15) (v := ?_) rfl (by kernel_rfl) (by kernel_rfl) (by kernel_rfl) (fun _ _ _ h => h) (Or.inl ⟨by rfl, ?_⟩) (by assumption) ?_
        rotate_left
        · simp only [List.getElem_toArray, List.getElem_cons_zero, List.getElem_cons_succ]; intro W hSw; (try dsimp only at hSw); go_simp; all_goals with_reducible rfl
        simp only [Act.put, List.getElem_toArray, List.getElem_cons_zero, List.getElem_cons_succ, List.setIfInBounds_toArray, List.set_cons_zero, List.set_cons_succ]
        refine wpAnyH_take (i := 16) (v := ?_) rfl (by kernel_rfl) (by kernel_rfl) (by kernel_rfl) (fun _ _ _ h => h) (Or.inl ⟨by rfl, ?_⟩) (by assumption) ?_
        rotate_left
        · simp only [List.getElem_toArray, List.getElem_cons_zero, List.getElem_cons_succ]; intro W hSw; (try dsimp only at hSw); go_simp; all_goals with_reducible rfl
        simp only [Act.put, List.getElem_toArray, List.getElem_cons_zero, List.getElem_cons_succ, List.setIfInBounds_toArray, List.set_cons_zero, List.set_cons_succ]
        refine wpAnyH_take (i := 17) (v := ?_) rfl (by kernel_rfl) (by kernel_rfl) (by kernel_rfl) (fun _ _ _ h => h) (Or.inl ⟨by rfl, ?_⟩) (by assumption) ?_
        rotate_left
        · simp only [List.getElem_toArray, List.getElem_cons_zero, List.getElem_cons_succ]; intro W hSw; (try dsimp only at hSw); go_simp; all_goals with_reducible rfl
        simp only [Act.put, List.getElem_toArray, List.getElem_cons_zero, List.getElem_cons_succ, List.setIfInBounds_toArray, List.set_cons_zero, List.set_cons_succ]
        refine wpAnyH_take (i := 18) (v := ?_) rfl (by kernel_rfl) (by kernel_rfl) (by kernel_rfl) (fun _ _ _ h => h) (Or.inl ⟨by rfl, ?_⟩) (by assumption) ?_
        rotate_left
        · simp only [List.getElem_toArray, List.getElem_cons_zero, List.getElem_cons_succ]; intro W hSw; (try dsimp only at hSw); go_simp; all_goals with_reducible rfl
        simp only [Act.put, List.getElem_toArray, List.getElem_cons_zero, List.getElem_cons_succ, List.setIfInBounds_toArray, List.set_cons_zero, List.set_cons_succ]
        refine wpAnyH_take (i := 19) (v := ?_) rfl (by kernel_rfl) (by kernel_rfl) (by kernel_rfl) (fun _ _ _ h => h) (Or.inl ⟨by rfl, ?_⟩) (by assumption) ?_
        rotate_left
        · simp only [List.getElem_toArray, List.getElem_cons_zero, List.getElem_cons_succ]; intro W hSw; (try dsimp only at hSw); go_simp; all_goals with_reducible rfl
        simp only [Act.put, List.getElem_toArray, List.getElem_cons_zero, List.getElem_cons_succ, List.setIfInBounds_toArray, List.set_cons_zero, List.set_cons_succ]
        refine wpAnyH_take (i := 20) (v := undef) rfl (by kernel_rfl) (by kernel_rfl) (by kernel_rfl) (fun _ _ _ h => h) (Or.inr ⟨by rfl, rfl⟩) (by assumption) ?_
        (try simp only [Act.put, List.getElem_toArray, List.getElem_cons_zero, List.getElem_cons_succ, List.setIfInBounds_toArray, List.set_cons_zero, List.set_cons_succ])
        refine wpAnyH_take (i := 21) (v := undef) rfl (by kernel_rfl) (by kernel_rfl) (by kernel_rfl) (fun _ _ _ h => h) (Or.inr ⟨by rfl, rfl⟩) (by assumption) ?_
        (try simp only [Act.put, List.getElem_toArray, List.getElem_cons_zero, List.getElem_cons_succ, List.setIfInBounds_toArray, List.set_cons_zero, List.set_cons_succ])
        refine wpAnyH_take (i := 22) (v := undef) rfl (by kernel_rfl) (by kernel_rfl) (by kernel_rfl) (fun _ _ _ h => h) (Or.inr ⟨by rfl, rfl⟩) (by assumption) ?_
        (try simp only [Act.put, List.getElem_toArray, List.getElem_cons_zero, List.getElem_cons_succ, List.setIfInBounds_toArray, List.set_cons_zero, List.set_cons_succ])
        refine wpAnyH_take (i := 23) (v := undef) rfl (by kernel_rfl) (by kernel_rfl) (by kernel_rfl) (fun _ _ _ h => h) (Or.inr ⟨by rfl, rfl⟩) (by assumption) ?_
        (try simp only [Act.put, List.getElem_toArray, List.getElem_cons_zero, List.getElem_cons_succ, List.setIfInBounds_toArray, List.set_cons_zero, List.set_cons_succ])
        refine wpAnyH_take (i := 24) (v := undef) rfl (by kernel_rfl) (by kernel_rfl) (by kernel_rfl) (fun _ _ _ h => h) (Or.inr ⟨by rfl, rfl⟩) (by assumption) ?_
        (try simp only [Act.put, List.getElem_toArray, List.getElem_cons_zero, List.getElem_cons_succ, List.setIfInBounds_toArray, List.set_cons_zero, List.set_cons_succ])
        refine wpAnyH_take (i := 25) (v := undef) rfl (by kernel_rfl) (by kernel_rfl) (by kernel_rfl) (fun _ _ _ h => h) (Or.inr ⟨by rfl, rfl⟩) (by assumption) ?_
        (try simp only [Act.put, List.getElem_toArray, List.getElem_cons_zero, List.getElem_cons_succ, List.setIfInBounds_toArray, List.set_cons_zero, List.set_cons_succ])
        refine wpAnyH_take (i := 26) (v := undef) rfl (by kernel_rfl) (by kernel_rfl) (by kernel_rfl) (fun _ _ _ h => h) (Or.inr ⟨by rfl, rfl⟩) (by assumption) ?_
        (try simp only [Act.put, List.getElem_toArray, List.getElem_cons_zero, List.getElem_cons_succ, List.setIfInBounds_toArray, List.set_cons_zero, List.set_cons_succ])
        refine wpAnyH_take (i := 27) (v := undef) rfl (by kernel_rfl) (by kernel_rfl) (by kernel_rfl) (fun _ _ _ h => h) (Or.inr ⟨by rfl, rfl⟩) (by assumption) ?_
        (try simp only [Act.put, List.getElem_toArray, List.getElem_cons_zero, List.getElem_cons_succ, List.setIfInBounds_toArray, List.set_cons_zero, List.set_cons_succ])
        refine wpAnyH_take (i := 28) (v := ?_) rfl (by kernel_rfl) (by kernel_rfl) (by kernel_rfl) (fun _ _ _ h => h) (Or.inl ⟨by rfl, ?_⟩) (by assumption) ?_
        rotate_left
        · simp only [List.getElem_toArray, List.getElem_cons_zero, List.getElem_cons_succ]; intro W hSw; (try dsimp only at hSw); go_simp; all_goals with_reducible rfl
        simp only [Act.put, List.getElem_toArray, List.getElem_cons_zero, List.getElem_cons_succ, List.setIfInBounds_toArray, List.set_cons_zero, List.set_cons_succ]
        refine wpAnyH_take (i := 29) (v := ?_) rfl (by kernel_rfl) (by kernel_rfl) (by kernel_rfl) (fun _ _ _ h => h) (Or.inl ⟨by rfl, ?_⟩) (by assumption) ?_
        rotate_left
        · simp only [List.getElem_toArray, List.getElem_cons_zero, List.getElem_cons_succ]; intro W hSw; (try dsimp only at hSw); go_simp; all_goals with_reducible rfl
        simp only [Act.put, List.getElem_toArray, List.getElem_cons_zero, List.getElem_cons_succ, List.setIfInBounds_toArray, List.set_cons_zero, List.set_cons_succ]
        refine wpAnyH_take (i := 30) (v := undef) rfl (by kernel_rfl) (by kernel_rfl) (by kernel_rfl) (fun _ _ _ h => h) (Or.inr ⟨by rfl, rfl⟩) (by assumption) ?_
        (try simp only [Act.put, List.getElem_toArray, List.getElem_cons_zero, List.getElem_cons_succ, List.setIfInBounds_toArray, List.set_cons_zero, List.set_cons_succ])
        refine wpAnyH_take (i := 31) (v := undef) rfl (by kernel_rfl) (by kernel_rfl) (by kernel_rfl) (fun _ _ _ h => h) (Or.inr ⟨by rfl, rfl⟩) (by assumption) ?_
        (try simp only [Act.put, List.getElem_toArray, List.getElem_cons_zero, List.getElem_cons_succ, List.setIfInBounds_toArray, List.set_cons_zero, List.set_cons_succ])
        refine wpAnyH_take (i := 32) (v := undef) rfl (by kernel_rfl) (by kernel_rfl) (by kernel_rfl) (fun _ _ _ h => h) (Or.inr ⟨by rfl, rfl⟩) (by assumption) ?_
        (try simp only [Act.put, List.getElem_toArray, List.getElem_cons_zero, List.getElem_cons_succ, List.setIfInBounds_toArray, List.set_cons_zero, List.set_cons_succ])
        refine wpAnyH_take (i := 33) (v := undef) rfl (by kernel_rfl) (by kernel_rfl) (by kernel_rfl) (fun _ _ _ h => h) (Or.inr ⟨by rfl, rfl⟩) (by assumption) ?_
        (try simp only [Act.put, List.getElem_toArray, List.getElem_cons_zero, List.getElem_cons_succ, List.setIfInBounds_toArray, List.set_cons_zero, List.set_cons_succ])
        refine wpAnyH_take (i := 34) (v := undef) rfl (by kernel_rfl) (by kernel_rfl) (by kernel_rfl) (fun _ _ _ h => h) (Or.inr ⟨by rfl, rfl⟩) (by assumption) ?_
        (try simp only [Act.put, List.getElem_toArray, List.getElem_cons_zero, List.getElem_cons_succ, List.setIfInBounds_toArray, List.set_cons_zero, List.set_cons_succ])
        refine wpAnyH_take (i := 35) (v := undef) rfl (by kernel_rfl) (by kernel_rfl) (by kernel_rfl) (fun _ _ _ h => h) (Or.inr ⟨by rfl, rfl⟩) (by assumption) ?_
        (try simp only [Act.put, List.getElem_toArray, List.getElem_cons_zero, List.getElem_cons_succ, List.setIfInBounds_toArray, List.set_cons_zero, List.set_cons_succ])
        refine wpAnyH_take (i := 36) (v := undef) rfl (by kernel_rfl) (by kernel_rfl) (by kernel_rfl) (fun _ _ _ h => h) (Or.inr ⟨by rfl, rfl⟩) (by assumption) ?_
        (try simp only [Act.put, List.getElem_toArray, List.getElem_cons_zero, List.getElem_cons_succ, List.setIfInBounds_toArray, List.set_cons_zero, List.set_cons_succ])
        refine wpAnyH_take (i := 37) (v := undef) rfl (by kernel_rfl) (by kernel_rfl) (by kernel_rfl) (fun _ _ _ h => h) (Or.inr ⟨by rfl, rfl⟩) (by assumption) ?_
        (try simp only [Act.put, List.getElem_toArray, List.getElem_cons_zero, List.getElem_cons_succ, List.setIfInBounds_toArray, List.set_cons_zero, List.set_cons_succ])
        refine wpAnyH_take (i := 38) (v := ?_) rfl (by kernel_rfl) (by kernel_rfl) (by kernel_rfl) (fun _ _ _ h => h) (Or.inl ⟨by rfl, ?_⟩) (by assumption) ?_
        rotate_left
        · simp only [List.getElem_toArray, List.getElem_cons_zero, List.getElem_cons_succ]; intro W hSw; (try dsimp only at hSw); go_simp; all_goals with_reducible rfl
        simp only [Act.put, List.getElem_toArray, List.getElem_cons_zero, List.getElem_cons_succ, List.setIfInBounds_toArray, List.set_cons_zero, List.set_cons_succ]
        refine wpAnyH_take (i := 39) (v := ?_) rfl (by kernel_rfl) (by kernel_rfl) (by kernel_rfl) (fun _ _ _ h => h) (Or.inl ⟨by rfl, ?_⟩) (by assumption) ?_
        rotate_left
        · simp only [List.getElem_toArray, List.getElem_cons_zero, List.getElem_cons_succ]; intro W hSw; (try dsimp only at hSw); go_simp; all_goals with_reducible rfl
        simp only [Act.put, List.getElem_toArray, List.getElem_cons_zero, List.getElem_cons_succ, List.setIfInBounds_toArray, List.set_cons_zero, List.set_cons_succ]
        refine wpAnyH_done (by kernel_rfl) ?_ _
        go_wp2_with fail
        go_ret
        exact ⟨by rw [HE.out]; rfl, HB3.out.drew⟩
      | true =>
        cases h3 : ((f.mark : Int) == (L.mark : Int)) with
        | false =>
          have HE := Lib.hid (show E = false by rw [HE0.out, h1, h2, h3]; rfl)
          clear HE0
          go_wp2_with fail
          refine wp_region_held_drew (S := fun W => (W.cell? ⟨w.heap.size, 1, none⟩ = some (.int .i64 f.inc) ∧ W.cell? ⟨w.heap.size, 2, none⟩ = some (.int .i64 f.part) ∧ W.cell? ⟨w.heap.size, 3, none⟩ = some (.int .i64 f.of) ∧ W.cell? ⟨w.heap.size, 4, none⟩ = some (.int .u32 (f.mark : Nat))) ∧ W.cell? ⟨Bs, 3, none⟩ = some (.int .i64 L.inc) ∧ W.cell? ⟨Bs, 4, none⟩ = some (.int .i64 L.part) ∧ W.cell? ⟨Bs, 5, none⟩ = some (.int .i64 L.of) ∧ W.cell? ⟨Bs, 6, none⟩ = some (.int .u32 (L.mark : Nat))) (by kernel_rfl) (HS.out _ rfl) (fun hHeld => ?_)
          refine wpAnyH_take (i := 0) (v := ?_) rfl (by kernel_rfl) (by kernel_rfl) (by kernel_rfl) (fun _ _ _ h => h) (Or.inl ⟨by rfl, ?_⟩) (by assumption) ?_
          rotate_left
          · simp only [List.getElem_toArray, List.getElem_cons_zero, List.getElem_cons_succ]; intro W hSw; (try dsimp only at hSw); go_simp; all_goals with_reducible rfl
          simp only [Act.put, List.getElem_toArray, List.getElem_cons_zero, List.getElem_cons_succ, List.setIfInBounds_toArray, List.set_cons_zero, List.set_cons_succ]
          refine wpAnyH_take (i := 1) (v := ?_) rfl (by kernel_rfl) (by kernel_rfl) (by kernel_rfl) (fun _ _ _ h => h) (Or.inl ⟨by rfl, ?_⟩) (by assumption) ?_
          rotate_left
          · simp only [List.getElem_toArray, List.getElem_cons_zero, List.getElem_cons_succ]; intro W hSw; (try dsimp only at hSw); go_simp; all_goals with_reducible rfl
          simp only [Act.put, List.getElem_toArray, List.getElem_cons_zero, List.getElem_cons_succ, List.setIfInBounds_toArray, List.set_cons_zero, List.set_cons_succ]
          refine wpAnyH_take (i := 2) (v := ?_) rfl (by kernel_rfl) (by kernel_rfl) (by kernel_rfl) (fun _ _ _ h => h) (Or.inl ⟨by rfl, ?_⟩) (by assumption) ?_
          rotate_left
          · simp only [List.getElem_toArray, List.getElem_cons_zero, List.getElem_cons_succ]; intro W hSw; (try dsimp only at hSw); go_simp; all_goals with_reducible rfl
          simp only [Act.put, List.getElem_toArray, List.getElem_cons_zero, List.getElem_cons_succ, List.setIfInBounds_toArray, List.set_cons_zero, List.set_cons_succ]
          refine wpAnyH_take (i := 3) (v := ?_) rfl (by kernel_rfl) (by kernel_rfl) (by kernel_rfl) (fun _ _ _ h => h) (Or.inl ⟨by rfl, ?_⟩) (by assumption) ?_
          rotate_left
          · simp only [List.getElem_toArray, List.getElem_cons_zero, List.getElem_cons_succ]; intro W hSw; (try dsimp only at hSw); go_simp; all_goals with_reducible rfl
          simp only [Act.put, List.getElem_toArray, List.getElem_cons_zero, List.getElem_cons_succ, List.setIfInBounds_toArray, List.set_cons_zero, List.set_cons_succ]
          refine wpAnyH_take (i := 4) (v := ?_) rfl (by kernel_rfl) (by kernel_rfl) (by kernel_rfl) (fun _ _ _ h => h) (Or.inl ⟨by rfl, ?_⟩) (by assumption) ?_
          rotate_left
          · simp only [List.getElem_toArray, List.getElem_cons_zero, List.getElem_cons_succ]; intro W hSw; (try dsimp only at hSw); go_simp; all_goals with_reducible rfl
          simp only [Act.put, List.getElem_toArray, List.getElem_cons_zero, List.getElem_cons_succ, List.setIfInBounds_toArray, List.set_cons_zero, List.set_cons_succ]
          refine wpAnyH_take (i := 5) (v := ?_) rfl (by kernel_rfl) (by kernel_rfl) (by kernel_rfl) (fun _ _ _ h => h) (Or.inl ⟨by rfl, ?_⟩) (by assumption) ?_
          rotate_left
          · simp only [List.getElem_toArray, List.getElem_cons_zero, List.getElem_cons_succ]; intro W hSw; (try dsimp only at hSw); go_simp; all_goals with_reducible rfl
          simp only [Act.put, List.getElem_toArray, List.getElem_cons_zero, List.getElem_cons_succ, List.setIfInBounds_toArray, List.set_cons_zero, List.set_cons_succ]
          refine wpAnyH_take (i := 6) (v := ?_) rfl (by kernel_rfl) (by kernel_rfl) (by kernel_rfl) (fun _ _ _ h => h) (Or.inl ⟨by rfl, ?_⟩) (by assumption) ?_
          rotate_left
          · simp only [List.getElem_toArray, List.getElem_cons_zero, List.getElem_cons_succ]; intro W hSw; (try dsimp only at hSw); go_simp; all_goals with_reducible rfl
          simp only [Act.put, List.getElem_toArray, List.getElem_cons_zero, List.getElem_cons_succ, List.setIfInBounds_toArray, List.set_cons_zero, List.set_cons_succ]
          refine wpAnyH_take (i := 7) (v := ?_) rfl (by kernel_rfl) (by kernel_rfl) (by kernel_rfl) (fun _ _ _ h => h) (Or.inl ⟨by rfl, ?_⟩) (by assumption) ?_
          rotate_left
          · simp only [List.getElem_toArray, List.getElem_cons_zero, List.getElem_cons_succ]; intro W hSw; (try dsimp only at hSw); go_simp; all_goals with_reducible rfl
          simp only [Act.put, List.getElem_toArray, List.getElem_cons_zero, List.getElem_cons_succ, List.setIfInBounds_toArray, List.set_cons_zero, List.set_cons_succ]
          refine wpAnyH_take (i := 8) (v := ?_) rfl (by kernel_rfl) (by kernel_rfl) (by kernel_rfl) (fun _ _ _ h => h) (Or.inl ⟨by rfl, ?_⟩) (by assumption) ?_
          rotate_left
          · simp only [List.getElem_toArray, List.getElem_cons_zero, List.getElem_cons_succ]; intro W hSw; (try dsimp only at hSw); go_simp; all_goals with_reducible rfl
          simp only [Act.put, List.getElem_toArray, List.getElem_cons_zero, List.getElem_cons_succ, List.setIfInBounds_toArray, List.set_cons_zero, List.set_cons_succ]
          refine wpAnyH_take (i := 9) (v := ?_) rfl (by kernel_rfl) (by kernel_rfl) (by kernel_rfl) (fun _ _ _ h => h) (Or.inl ⟨by rfl, ?_⟩) (by assumption) ?_
          rotate_left
          · simp only [List.getElem_toArray, List.getElem_cons_zero, List.getElem_cons_succ]; intro W hSw; (try dsimp only at hSw); go_simp; all_goals with_reducible rfl
          simp only [Act.put, List.getElem_toArray, List.getElem_cons_zero, List.getElem_cons_succ, List.setIfInBounds_toArray, List.set_cons_zero, List.set_cons_succ]
          refine wpAnyH_take (i := 10) (v := ?_) rfl (by kernel_rfl) (by kernel_rfl) (by kernel_rfl) (fun _ _ _ h => h) (Or.inl ⟨by rfl, ?_⟩) (by assumption) ?_
          rotate_left
          · simp only [List.getElem_toArray, List.getElem_cons_zero, List.getElem_cons_succ]; intro W hSw; (try dsimp only at hSw); go_simp; all_goals with_reducible rfl
          simp only [Act.put, List.getElem_toArray, List.getElem_cons_zero, List.getElem_cons_succ, List.setIfInBounds_toArray, List.set_cons_zero, List.set_cons_succ]
          refine wpAnyH_take (i := 11) (v := ?_) rfl (by kernel_rfl) (by kernel_rfl) (by kernel_rfl) (fun _ _ _ h => h) (Or.inl ⟨by rfl, ?_⟩) (by assumption) ?_
          rotate_left
          · simp only [List.getElem_toArray, List.getElem_cons_zero, List.getElem_cons_succ]; intro W hSw; (try dsimp only at hSw); go_simp; all_goals with_reducible rfl
          simp only [Act.put, List.getElem_toArray, List.getElem_cons_zero, List.getElem_cons_succ, List.setIfInBounds_toArray, List.set_cons_zero, List.set_cons_succ]
          refine wpAnyH_take (i := 12) (v := ?_) rfl (by kernel_rfl) (by kernel_rfl) (by kernel_rfl) (fun _ _ _ h => h) (Or.inl ⟨by rfl, ?_⟩) (by assumption) ?_
          rotate_left
          · simp only [List.getElem_toArray, List.getElem_cons_zero, List.getElem_cons_succ]; intro W hSw; (try dsimp only at hSw); go_simp; all_goals with_reducible rfl
          simp only [Act.put, List.getElem_toArray, List.getElem_cons_zero, List.getElem_cons_succ, List.setIfInBounds_toArray, List.set_cons_zero, List.set_cons_succ]
          refine wpAnyH_take (i := 13) (v := ?_) rfl (by kernel_rfl) (by kernel_rfl) (by kernel_rfl) (fun _ _ _ h => h) (Or.inl ⟨by rfl, ?_⟩) (by assumption) ?_
          rotate_left
          · simp only [List.getElem_toArray, List.getElem_cons_zero, List.getElem_cons_succ]; intro W hSw; (try dsimp only at hSw); go_simp; all_goals with_reducible rfl
          simp only [Act.put, List.getElem_toArray, List.getElem_cons_zero, List.getElem_cons_succ, List.setIfInBounds_toArray, List.set_cons_zero, List.set_cons_succ]
          refine wpAnyH_take (i := 14) (v := ?_) rfl (by kernel_rfl) (by kernel_rfl) (by kernel_rfl) (fun _ _ _ h => h) (Or.inl ⟨by rfl, ?_⟩) (by assumption) ?_
          rotate_left
          · simp only [List.getElem_toArray, List.getElem_cons_zero, List.getElem_cons_succ]; intro W hSw; (try dsimp only at hSw); go_simp; all_goals with_reducible rfl
          simp only [Act.put, List.getElem_toArray, List.getElem_cons_zero, List.getElem_cons_succ, List.setIfInBounds_toArray, List.set_cons_zero, List.set_cons_succ]
          refine wpAnyH_take (i := 15) (v := ?_) rfl (by kernel_rfl) (by kernel_rfl) (by kernel_rfl) (fun _ _ _ h => h) (Or.inl ⟨by rfl, ?_⟩) (by assumption) ?_
          rotate_left
          · simp only [List.getElem_toArray, List.getElem_cons_zero, List.getElem_cons_succ]; intro W hSw; (try dsimp only at hSw); go_simp; all_goals with_reducible rfl
          simp only [Act.put, List.getElem_toArray, List.getElem_cons_zero, List.getElem_cons_succ, List.setIfInBounds_toArray, List.set_cons_zero, List.set_cons_succ]
          refine wpAnyH_take (i := 16) (v := ?_) rfl (by kernel_rfl) (by kernel_rfl) (by kernel_rfl) (fun _ _ _ h => h) (Or.inl ⟨by rfl, ?_⟩) (by assumption) ?_
          rotate_left
          · simp only [List.getElem_toArray, List.getElem_cons_zero, List.getElem_cons_succ]; intro W hSw; (try dsimp only at hSw); go_simp; all_goals with_reducible rfl
          simp only [Act.put, List.getElem_toArray, List.getElem_cons_zero, List.getElem_cons_succ, List.setIfInBounds_toArray, List.set_cons_zero, List.set_cons_succ]
          refine wpAnyH_take (i := 17) (v := ?_) rfl (by kernel_rfl) (by kernel_rfl) (by kernel_rfl) (fun _ _ _ h => h) (Or.inl ⟨by rfl, ?_⟩) (by assumption) ?_
          rotate_left
          · simp only [List.getElem_toArray, List.getElem_cons_zero, List.getElem_cons_succ]; intro W hSw; (try dsimp only at hSw); go_simp; all_goals with_reducible rfl
          simp only [Act.put, List.getElem_toArray, List.getElem_cons_zero, List.getElem_cons_succ, List.setIfInBounds_toArray, List.set_cons_zero, List.set_cons_succ]
          refine wpAnyH_take (i := 18) (v := ?_) rfl (by kernel_rfl) (by kernel_rfl) (by kernel_rfl) (fun _ _ _ h => h) (Or.inl ⟨by rfl, ?_⟩) (by assumption) ?_
          rotate_left
          · simp only [List.getElem_toArray, List.getElem_cons_zero, List.getElem_cons_succ]; intro W hSw; (try dsimp only at hSw); go_simp; all_goals with_reducible rfl
          simp only [Act.put, List.getElem_toArray, List.getElem_cons_zero, List.getElem_cons_succ, List.setIfInBounds_toArray, List.set_cons_zero, List.set_cons_succ]
          refine wpAnyH_take (i := 19) (v := ?_) rfl (by kernel_rfl) (by kernel_rfl) (by kernel_rfl) (fun _ _ _ h => h) (Or.inl ⟨by rfl, ?_⟩) (by assumption) ?_
          rotate_left
          · simp only [List.getElem_toArray, List.getElem_cons_zero, List.getElem_cons_succ]; intro W hSw; (try dsimp only at hSw); go_simp; all_goals with_reducible rfl
          simp only [Act.put, List.getElem_toArray, List.getElem_cons_zero, List.getElem_cons_succ, List.setIfInBounds_toArray, List.set_cons_zero, List.set_cons_succ]
          refine wpAnyH_take (i := 20) (v := ?_) rfl (by kernel_rfl) (by kernel_rfl) (by kernel_rfl) (fun _ _ _ h => h) (Or.inl ⟨by rfl, ?_⟩) (by assumption) ?_
          rotate_left
          · simp only [List.getElem_toArray, List.getElem_cons_zero, List.getElem_cons_succ]; intro W hSw; (try dsimp only at hSw); go_simp; all_goals with_reducible rfl
          simp only [Act.put, List.getElem_toArray, List.getElem_cons_zero, List.getElem_cons_succ, List.setIfInBounds_toArray, List.set_cons_zero, List.set_cons_succ]
          refine wpAnyH_take (i := 21) (v := ?_) rfl (by kernel_rfl) (by kernel_rfl) (by kernel_rfl) (fun _ _ _ h => h) (Or.inl ⟨by rfl, ?_⟩) (by assumption) ?_
          rotate_left
          · simp only [List.getElem_toArray, List.getElem_cons_zero, List.getElem_cons_succ]; intro W hSw; (try dsimp only at hSw); go_simp; all_goals with_reducible rfl
          simp only [Act.put, List.getElem_toArray, List.getElem_cons_zero, List.getElem_cons_succ, List.setIfInBounds_toArray, List.set_cons_zero, List.set_cons_succ]
          refine wpAnyH_take (i := 22) (v := ?_) rfl (by kernel_rfl) (by kernel_rfl) (by kernel_rfl) (fun _ _ _ h => h) (Or.inl ⟨by rfl, ?_⟩) (by assumption) ?_
          rotate_left
          · simp only [List.getElem_toArray, List.getElem_cons_zero, List.getElem_cons_succ]; intro W hSw; (try dsimp only at hSw); go_simp; all_goals with_reducible rfl
          simp only [Act.put, List.getElem_toArray, List.getElem_cons_zero, List.getElem_cons_succ, List.setIfInBounds_toArray, List.set_cons_zero, List.set_cons_succ]
          refine wpAnyH_take (i := 23) (v := ?_) rfl (by kernel_rfl) (by kernel_rfl) (by kernel_rfl) (fun _ _ _ h => h) (Or.inl ⟨by rfl, ?_⟩) (by assumption) ?_
          rotate_left
          · simp only [List.getElem_toArray, List.getElem_cons_zero, List.getElem_cons_succ]; intro W hSw; (try dsimp only at hSw); go_simp; all_goals with_reducible rfl
          simp only [Act.put, List.getElem_toArray, List.getElem_cons_zero, List.getElem_cons_succ, List.setIfInBounds_toArray, List.set_cons_zero, List.set_cons_succ]
          refine wpAnyH_take (i := 24) (v := ?_) rfl (by kernel_rfl) (by kernel_rfl) (by kernel_rfl) (fun _ _ _ h => h) (Or.inl ⟨by rfl, ?_⟩) (by assumption) ?_
          rotate_left
          · simp only [List.getElem_toArray, List.getElem_cons_zero, List.getElem_cons_succ]; intro W hSw; (try dsimp only at hSw); go_simp; all_goals with_reducible rfl
          simp only [Act.put, List.getElem_toArray, List.getElem_cons_zero, List.getElem_cons_succ, List.setIfInBounds_toArray, List.set_cons_zero, List.set_cons_succ]
          refine wpAnyH_take (i := 25) (v := ?_) rfl (by kernel_rfl) (by kernel_rfl) (by kernel_rfl) (fun _ _ _ h => h) (Or.inl ⟨by rfl, ?_⟩) (by assumption) ?_
          rotate_left
          · simp only [List.getElem_toArray, List.getElem_cons_zero, List.getElem_cons_succ]; intro W hSw; (try dsimp only at hSw); go_simp; all_goals with_reducible rfl
          simp only [Act.put, List.getElem_toArray, List.getElem_cons_zero, List.getElem_cons_succ, List.setIfInBounds_toArray, List.set_cons_zero, List.set_cons_succ]
          refine wpAnyH_take (i := 26) (v := ?_) rfl (by kernel_rfl) (by kernel_rfl) (by kernel_rfl) (fun _ _ _ h => h) (Or.inl ⟨by rfl, ?_⟩) (by assumption) ?_
          rotate_left
          · simp only [List.getElem_toArray, List.getElem_cons_zero, List.getElem_cons_succ]; intro W hSw; (try dsimp only at hSw); go_simp; all_goals with_reducible rfl
          simp only [Act.put, List.getElem_toArray, List.getElem_cons_zero, List.getElem_cons_succ, List.setIfInBounds_toArray, List.set_cons_zero, List.set_cons_succ]
          refine wpAnyH_take (i := 27) (v := ?_) rfl (by kernel_rfl) (by kernel_rfl) (by kernel_rfl) (fun _ _ _ h => h) (Or.inl ⟨by rfl, ?_⟩) (by assumption) ?_
          rotate_left
          · simp only [List.getElem_toArray, List.getElem_cons_zero, List.getElem_cons_succ]; intro W hSw; (try dsimp only at hSw); go_simp; all_goals with_reducible rfl
          simp only [Act.put, List.getElem_toArray, List.getElem_cons_zero, List.getElem_cons_succ, List.setIfInBounds_toArray, List.set_cons_zero, List.set_cons_succ]
          refine wpAnyH_take (i := 28) (v := ?_) rfl (by kernel_rfl) (by kernel_rfl) (by kernel_rfl) (fun _ _ _ h => h) (Or.inl ⟨by rfl, ?_⟩) (by assumption) ?_
          rotate_left
          · simp only [List.getElem_toArray, List.getElem_cons_zero, List.getElem_cons_succ]; intro W hSw; (try dsimp only at hSw); go_simp; all_goals with_reducible rfl
          simp only [Act.put, List.getElem_toArray, List.getElem_cons_zero, List.getElem_cons_succ, List.setIfInBounds_toArray, List.set_cons_zero, List.set_cons_succ]
          refine wpAnyH_take (i := 29) (v := ?_) rfl (by kernel_rfl) (by kernel_rfl) (by kernel_rfl) (fun _ _ _ h => h) (Or.inl ⟨by rfl, ?_⟩) (by assumption) ?_
          rotate_left
          · simp only [List.getElem_toArray, List.getElem_cons_zero, List.getElem_cons_succ]; intro W hSw; (try dsimp only at hSw); go_simp; all_goals with_reducible rfl
          simp only [Act.put, List.getElem_toArray, List.getElem_cons_zero, List.getElem_cons_succ, List.setIfInBounds_toArray, List.set_cons_zero, List.set_cons_succ]
          refine wpAnyH_take (i := 30) (v := undef) rfl (by kernel_rfl) (by kernel_rfl) (by kernel_rfl) (fun _ _ _ h => h) (Or.inr ⟨by rfl, rfl⟩) (by assumption) ?_
          (try simp only [Act.put, List.getElem_toArray, List.getElem_cons_zero, List.getElem_cons_succ, List.setIfInBounds_toArray, List.set_cons_zero, List.set_cons_succ])
          refine wpAnyH_take (i := 31) (v := undef) rfl (by kernel_rfl) (by kernel_rfl) (by kernel_rfl) (fun _ _ _ h => h) (Or.inr ⟨by rfl, rfl⟩) (by assumption) ?_
          (try simp only [Act.put, List.getElem_toArray, List.getElem_cons_zero, List.getElem_cons_succ, List.setIfInBounds_toArray, List.set_cons_zero, List.set_cons_succ])
          refine wpAnyH_take (i := 32) (v := undef) rfl (by kernel_rfl) (by kernel_rfl) (by kernel_rfl) (fun _ _ _ h => h) (Or.inr ⟨by rfl, rfl⟩) (by assumption) ?_
          (try simp only [Act.put, List.getElem_toArray, List.getElem_cons_zero, List.getElem_cons_succ, List.setIfInBounds_toArray, List.set_cons_zero, List.set_cons_succ])
          refine wpAnyH_take (i := 33) (v := undef) rfl (by kernel_rfl) (by kernel_rfl) (by kernel_rfl) (fun _ _ _ h => h) (Or.inr ⟨by rfl, rfl⟩) (by assumption) ?_
          (try simp only [Act.put, List.getElem_toArray, List.getElem_cons_zero, List.getElem_cons_succ, List.setIfInBounds_toArray, List.set_cons_zero, List.set_cons_succ])
          refine wpAnyH_take (i := 34) (v := undef) rfl (by kernel_rfl) (by kernel_rfl) (by kernel_rfl) (fun _ _ _ h => h) (Or.inr ⟨by rfl, rfl⟩) (by assumption) ?_
          (try simp only [Act.put, List.getElem_toArray, List.getElem_cons_zero, List.getElem_cons_succ, List.setIfInBounds_toArray, List.set_cons_zero, List.set_cons_succ])
          refine wpAnyH_take (i := 35) (v := undef) rfl (by kernel_rfl) (by kernel_rfl) (by kernel_rfl) (fun _ _ _ h => h) (Or.inr ⟨by rfl, rfl⟩) (by assumption) ?_
          (try simp only [Act.put, List.getElem_toArray, List.getElem_cons_zero, List.getElem_cons_succ, List.setIfInBounds_toArray, List.set_cons_zero, List.set_cons_succ])
          refine wpAnyH_take (i := 36) (v := undef) rfl (by kernel_rfl) (by kernel_rfl) (by kernel_rfl) (fun _ _ _ h => h) (Or.inr ⟨by rfl, rfl⟩) (by assumption) ?_
          (try simp only [Act.put, List.getElem_toArray, List.getElem_cons_zero, List.getElem_cons_succ, List.setIfInBounds_toArray, List.set_cons_zero, List.set_cons_succ])
          refine wpAnyH_take (i := 37) (v := undef) rfl (by kernel_rfl) (by kernel_rfl) (by kernel_rfl) (fun _ _ _ h => h) (Or.inr ⟨by rfl, rfl⟩) (by assumption) ?_
          (try simp only [Act.put, List.getElem_toArray, List.getElem_cons_zero, List.getElem_cons_succ, List.setIfInBounds_toArray, List.set_cons_zero, List.set_cons_succ])
          refine wpAnyH_take (i := 38) (v := ?_) rfl (by kernel_rfl) (by kernel_rfl) (by kernel_rfl) (fun _ _ _ h => h) (Or.inl ⟨by rfl, ?_⟩) (by assumption) ?_
          rotate_left
          · simp only [List.getElem_toArray, List.getElem_cons_zero, List.getElem_cons_succ]; intro W hSw; (try dsimp only at hSw); go_simp; all_goals with_reducible rfl
          simp only [Act.put, List.getElem_toArray, List.getElem_cons_zero, List.getElem_cons_succ, List.setIfInBounds_toArray, List.set_cons_zero, List.set_cons_succ]
          refine wpAnyH_take (i := 39) (v := ?_) rfl (by kernel_rfl) (by kernel_rfl) (by kernel_rfl) (fun _ _ _ h => h) (Or.inl ⟨by rfl, ?_⟩) (by assumption) ?_
          rotate_left
          · simp only [List.getElem_toArray, List.getElem_cons_zero, List.getElem_cons_succ]; intro W hSw; (try dsimp only at hSw); go_simp; all_goals with_reducible rfl
          simp only [Act.put, List.getElem_toArray, List.getElem_cons_zero, List.getElem_cons_succ, List.setIfInBounds_toArray, List.set_cons_zero, List.set_cons_succ]
          refine wpAnyH_done (by kernel_rfl) ?_ _
          go_wp2_with fail
          go_ret
          exact ⟨by rw [HE.out]; rfl, HB3.out.drew⟩
        | true =>
          have HE := Lib.hid (show E = (f.inc == L.inc) by rw [HE0.out, h1, h2, h3]; rfl)
          clear HE0
          go_wp2_with fail
          refine wp_region_held_drew (S := fun W => (W.cell? ⟨w.heap.size, 1, none⟩ = some (.int .i64 f.inc) ∧ W.cell? ⟨w.heap.size, 2, none⟩ = some (.int .i64 f.part) ∧ W.cell? ⟨w.heap.size, 3, none⟩ = some (.int .i64 f.of) ∧ W.cell? ⟨w.heap.size, 4, none⟩ = some (.int .u32 (f.mark : Nat))) ∧ W.cell? ⟨Bs, 3, none⟩ = some (.int .i64 L.inc) ∧ W.cell? ⟨Bs, 4, none⟩ = some (.int .i64 L.part) ∧ W.cell? ⟨Bs, 5, none⟩ = some (.int .i64 L.of) ∧ W.cell? ⟨Bs, 6, none⟩ = some (.int .u32 (L.mark : Nat))) (by kernel_rfl) (HS.out _ rfl) (fun hHeld => ?_)
          refine wpAnyH_take (i := 0) (v := ?_) rfl (by kernel_rfl) (by kernel_rfl) (by kernel_rfl) (fun _ _ _ h => h) (Or.inl ⟨by rfl, ?_⟩) (by assumption) ?_
          rotate_left
          · simp only [List.getElem_toArray, List.getElem_cons_zero, List.getElem_cons_succ]; intro W hSw; (try dsimp only at hSw); go_simp; all_goals with_reducible rfl
          simp only [Act.put, List.getElem_toArray, List.getElem_cons_zero, List.getElem_cons_succ, List.setIfInBounds_toArray, List.set_cons_zero, List.set_cons_succ]
          refine wpAnyH_take (i := 1) (v := ?_) rfl (by kernel_rfl) (by kernel_rfl) (by kernel_rfl) (fun _ _ _ h => h) (Or.inl ⟨by rfl, ?_⟩) (by assumption) ?_
          rotate_left
          · simp only [List.getElem_toArray, List.getElem_cons_zero, List.getElem_cons_succ]; intro W hSw; (try dsimp only at hSw); go_simp; all_goals with_reducible rfl
          simp only [Act.put, List.getElem_toArray, List.getElem_cons_zero, List.getElem_cons_succ, List.setIfInBounds_toArray, List.set_cons_zero, List.set_cons_succ]
          refine wpAnyH_take (i := 2) (v := ?_) rfl (by kernel_rfl) (by kernel_rfl) (by kernel_rfl) (fun _ _ _ h => h) (Or.inl ⟨by rfl, ?_⟩) (by assumption) ?_
          rotate_left
          · simp only [List.getElem_toArray, List.getElem_cons_zero, List.getElem_cons_succ]; intro W hSw; (try dsimp only at hSw); go_simp; all_goals with_reducible rfl
          simp only [Act.put, List.getElem_toArray, List.getElem_cons_zero, List.getElem_cons_succ, List.setIfInBounds_toArray, List.set_cons_zero, List.set_cons_succ]
          refine wpAnyH_take (i := 3) (v := ?_) rfl (by kernel_rfl) (by kernel_rfl) (by kernel_rfl) (fun _ _ _ h => h) (Or.inl ⟨by rfl, ?_⟩) (by assumption) ?_
          rotate_left
          · simp only [List.getElem_toArray, List.getElem_cons_zero, List.getElem_cons_succ]; intro W hSw; (try dsimp only at hSw); go_simp; all_goals with_reducible rfl
          simp only [Act.put, List.getElem_toArray, List.getElem_cons_zero, List.getElem_cons_succ, List.setIfInBounds_toArray, List.set_cons_zero, List.set_cons_succ]
          refine wpAnyH_take (i := 4) (v := ?_) rfl (by kernel_rfl) (by kernel_rfl) (by kernel_rfl) (fun _ _ _ h => h) (Or.inl ⟨by rfl, ?_⟩) (by assumption) ?_
          rotate_left
          · simp only [List.getElem_toArray, List.getElem_cons_zero, List.getElem_cons_succ]; intro W hSw; (try dsimp only at hSw); go_simp; all_goals with_reducible rfl
          simp only [Act.put, List.getElem_toArray, List.getElem_cons_zero, List.getElem_cons_succ, List.setIfInBounds_toArray, List.set_cons_zero, List.set_cons_succ]
          refine wpAnyH_take (i := 5) (v := ?_) rfl (by kernel_rfl) (by kernel_rfl) (by kernel_rfl) (fun _ _ _ h => h) (Or.inl ⟨by rfl, ?_⟩) (by assumption) ?_
          rotate_left
          · simp only [List.getElem_toArray, List.getElem_cons_zero, List.getElem_cons_succ]; intro W hSw; (try dsimp only at hSw); go_simp; all_goals with_reducible rfl
          simp only [Act.put, List.getElem_toArray, List.getElem_cons_zero, List.getElem_cons_succ, List.setIfInBounds_toArray, List.set_cons_zero, List.set_cons_succ]
          refine wpAnyH_take (i := 6) (v := ?_) rfl (by kernel_rfl) (by kernel_rfl) (by kernel_rfl) (fun _ _ _ h => h) (Or.inl ⟨by rfl, ?_⟩) (by assumption) ?_
          rotate_left
          · simp only [List.getElem_toArray, List.getElem_cons_zero, List.getElem_cons_succ]; intro W hSw; (try dsimp only at hSw); go_simp; all_goals with_reducible rfl
          simp only [Act.put, List.getElem_toArray, List.getElem_cons_zero, List.getElem_cons_succ, List.setIfInBounds_toArray, List.set_cons_zero, List.set_cons_succ]
          refine wpAnyH_take (i := 7) (v := ?_) rfl (by kernel_rfl) (by kernel_rfl) (by kernel_rfl) (fun _ _ _ h => h) (Or.inl ⟨by rfl, ?_⟩) (by assumption) ?_
          rotate_left
          · simp only [List.getElem_toArray, List.getElem_cons_zero, List.getElem_cons_succ]; intro W hSw; (try dsimp only at hSw); go_simp; all_goals with_reducible rfl
          simp only [Act.put, List.getElem_toArray, List.getElem_cons_zero, List.getElem_cons_succ, List.setIfInBounds_toArray, List.set_cons_zero, List.set_cons_succ]
          refine wpAnyH_take (i := 8) (v := ?_) rfl (by kernel_rfl) (by kernel_rfl) (by kernel_rfl) (fun _ _ _ h => h) (Or.inl ⟨by rfl, ?_⟩) (by assumption) ?_
          rotate_left
          · simp only [List.getElem_toArray, List.getElem_cons_zero, List.getElem_cons_succ]; intro W hSw; (try dsimp only at hSw); go_simp; all_goals with_reducible rfl
          simp only [Act.put, List.getElem_toArray, List.getElem_cons_zero, List.getElem_cons_succ, List.setIfInBounds_toArray, List.set_cons_zero, List.set_cons_succ]
          refine wpAnyH_take (i := 9) (v := ?_) rfl (by kernel_rfl) (by kernel_rfl) (by kernel_rfl) (fun _ _ _ h => h) (Or.inl ⟨by rfl, ?_⟩) (by assumption) ?_
          rotate_left
          · simp only [List.getElem_toArray, List.getElem_cons_zero, List.getElem_cons_succ]; intro W hSw; (try dsimp only at hSw); go_simp; all_goals with_reducible rfl
          simp only [Act.put, List.getElem_toArray, List.getElem_cons_zero, List.getElem_cons_succ, List.setIfInBounds_toArray, List.set_cons_zero, List.set_cons_succ]
          refine wpAnyH_take (i := 10) (v := ?_) rfl (by kernel_rfl) (by kernel_rfl) (by kernel_rfl) (fun _ _ _ h => h) (Or.inl ⟨by rfl, ?_⟩) (by assumption) ?_
          rotate_left
          · simp only [List.getElem_toArray, List.getElem_cons_zero, List.getElem_cons_succ]; intro W hSw; (try dsimp only at hSw); go_simp; all_goals with_reducible rfl
          simp only [Act.put, List.getElem_toArray, List.getElem_cons_zero, List.getElem_cons_succ, List.setIfInBounds_toArray, List.set_cons_zero, List.set_cons_succ]
          refine wpAnyH_take (i := 11) (v := ?_) rfl (by kernel_rfl) (by kernel_rfl) (by kernel_rfl) (fun _ _ _ h => h) (Or.inl ⟨by rfl, ?_⟩) (by assumption) ?_
          rotate_left
          · simp only [List.getElem_toArray, List.getElem_cons_zero, List.getElem_cons_succ]; intro W hSw; (try dsimp only at hSw); go_simp; all_goals with_reducible rfl
          simp only [Act.put, List.getElem_toArray, List.getElem_cons_zero, List.getElem_cons_succ, List.setIfInBounds_toArray, List.set_cons_zero, List.set_cons_succ]
          refine wpAnyH_take (i := 12) (v := ?_) rfl (by kernel_rfl) (by kernel_rfl) (by kernel_rfl) (fun _ _ _ h => h) (Or.inl ⟨by rfl, ?_⟩) (by assumption) ?_
          rotate_left
          · simp only [List.getElem_toArray, List.getElem_cons_zero, List.getElem_cons_succ]; intro W hSw; (try dsimp only at hSw); go_simp; all_goals with_reducible rfl
          simp only [Act.put, List.getElem_toArray, List.getElem_cons_zero, List.getElem_cons_succ, List.setIfInBounds_toArray, List.set_cons_zero, List.set_cons_succ]
          refine wpAnyH_take (i := 13) (v := ?_) rfl (by kernel_rfl) (by kernel_rfl) (by kernel_rfl) (fun _ _ _ h => h) (Or.inl ⟨by rfl, ?_⟩) (by assumption) ?_
          rotate_left
          · simp only [List.getElem_toArray, List.getElem_cons_zero, List.getElem_cons_succ]; intro W hSw; (try dsimp only at hSw); go_simp; all_goals with_reducible rfl
          simp only [Act.put, List.getElem_toArray, List.getElem_cons_zero, List.getElem_cons_succ, List.setIfInBounds_toArray, List.set_cons_zero, List.set_cons_succ]
          refine wpAnyH_take (i := 14) (v := ?_) rfl (by kernel_rfl) (by kernel_rfl) (by kernel_rfl) (fun _ _ _ h => h) (Or.inl ⟨by rfl, ?_⟩) (by assumption) ?_
          rotate_left
          · simp only [List.getElem_toArray, List.getElem_cons_zero, List.getElem_cons_succ]; intro W hSw; (try dsimp only at hSw); go_simp; all_goals with_reducible rfl
          simp only [Act.put, List.getElem_toArray, List.getElem_cons_zero, List.getElem_cons_succ, List.setIfInBounds_toArray, List.set_cons_zero, List.set_cons_succ]
          refine wpAnyH_take (i := 15) (v := ?_) rfl (by kernel_rfl) (by kernel_rfl) (by kernel_rfl) (fun _ _ _ h => h) (Or.inl ⟨by rfl, ?_⟩) (by assumption) ?_
          rotate_left
          · simp only [List.getElem_toArray, List.getElem_cons_zero, List.getElem_cons_succ]; intro W hSw; (try dsimp only at hSw); go_simp; all_goals with_reducible rfl
          simp only [Act.put, List.getElem_toArray, List.getElem_cons_zero, List.getElem_cons_succ, List.setIfInBounds_toArray, List.set_cons_zero, List.set_cons_succ]
          refine wpAnyH_take (i := 16) (v := ?_) rfl (by kernel_rfl) (by kernel_rfl) (by kernel_rfl) (fun _ _ _ h => h) (Or.inl ⟨by rfl, ?_⟩) (by assumption) ?_
          rotate_left
          · simp only [List.getElem_toArray, List.getElem_cons_zero, List.getElem_cons_succ]; intro W hSw; (try dsimp only at hSw); go_simp; all_goals with_reducible rfl
          simp only [Act.put, List.getElem_toArray, List.getElem_cons_zero, List.getElem_cons_succ, List.setIfInBounds_toArray, List.set_cons_zero, List.set_cons_succ]
          refine wpAnyH_take (i := 17) (v := ?_) rfl (by kernel_rfl) (by kernel_rfl) (by kernel_rfl) (fun _ _ _ h => h) (Or.inl ⟨by rfl, ?_⟩) (by assumption) ?_
          rotate_left
          · simp only [List.getElem_toArray, List.getElem_cons_zero, List.getElem_cons_succ]; intro W hSw; (try dsimp only at hSw); go_simp; all_goals with_reducible rfl
          simp only [Act.put, List.getElem_toArray, List.getElem_cons_zero, List.getElem_cons_succ, List.setIfInBounds_toArray, List.set_cons_zero, List.set_cons_succ]
          refine wpAnyH_take (i := 18) (v := ?_) rfl (by kernel_rfl) (by kernel_rfl) (by kernel_rfl) (fun _ _ _ h => h) (Or.inl ⟨by rfl, ?_⟩) (by assumption) ?_
          rotate_left
          · simp only [List.getElem_toArray, List.getElem_cons_zero, List.getElem_cons_succ]; intro W hSw; (try dsimp only at hSw); go_simp; all_goals with_reducible rfl
          simp only [Act.put, List.getElem_toArray, List.getElem_cons_zero, List.getElem_cons_succ, List.setIfInBounds_toArray, List.set_cons_zero, List.set_cons_succ]
          refine wpAnyH_take (i := 19) (v := ?_) rfl (by kernel_rfl) (by kernel_rfl) (by kernel_rfl) (fun _ _ _ h => h) (Or.inl ⟨by rfl, ?_⟩) (by assumption) ?_
          rotate_left
          · simp only [List.getElem_toArray, List.getElem_cons_zero, List.getElem_cons_succ]; intro W hSw; (try dsimp only at hSw); go_simp; all_goals with_reducible rfl
          simp only [Act.put, List.getElem_toArray, List.getElem_cons_zero, List.getElem_cons_succ, List.setIfInBounds_toArray, List.set_cons_zero, List.set_cons_succ]
          refine wpAnyH_take (i := 20) (v := ?_) rfl (by kernel_rfl) (by kernel_rfl) (by kernel_rfl) (fun _ _ _ h => h) (Or.inl ⟨by rfl, ?_⟩) (by assumption) ?_
          rotate_left
          · simp only [List.getElem_toArray, List.getElem_cons_zero, List.getElem_cons_succ]; intro W hSw; (try dsimp only at hSw); go_simp; all_goals with_reducible rfl
          simp only [Act.put, List.getElem_toArray, List.getElem_cons_zero, List.getElem_cons_succ, List.setIfInBounds_toArray, List.set_cons_zero, List.set_cons_succ]
          refine wpAnyH_take (i := 21) (v := ?_) rfl (by kernel_rfl) (by kernel_rfl) (by kernel_rfl) (fun _ _ _ h => h) (Or.inl ⟨by rfl, ?_⟩) (by assumption) ?_
          rotate_left
          · simp only [List.getElem_toArray, List.getElem_cons_zero, List.getElem_cons_succ]; intro W hSw; (try dsimp only at hSw); go_simp; all_goals with_reducible rfl
          simp only [Act.put, List.getElem_toArray, List.getElem_cons_zero, List.getElem_cons_succ, List.setIfInBounds_toArray, List.set_cons_zero, List.set_cons_succ]
          refine wpAnyH_take (i := 22) (v := ?_) rfl (by kernel_rfl) (by kernel_rfl) (by kernel_rfl) (fun _ _ _ h => h) (Or.inl ⟨by rfl, ?_⟩) (by assumption) ?_
          rotate_left
          · simp only [List.getElem_toArray, List.getElem_cons_zero, List.getElem_cons_succ]; intro W hSw; (try dsimp only at hSw); go_simp; all_goals with_reducible rfl
          simp only [Act.put, List.getElem_toArray, List.getElem_cons_zero, List.getElem_cons_succ, List.setIfInBounds_toArray, List.set_cons_zero, List.set_cons_succ]
          refine wpAnyH_take (i := 23) (v := ?_) rfl (by kernel_rfl) (by kernel_rfl) (by kernel_rfl) (fun _ _ _ h => h) (Or.inl ⟨by rfl, ?_⟩) (by assumption) ?_
          rotate_left
          · simp only [List.getElem_toArray, List.getElem_cons_zero, List.getElem_cons_succ]; intro W hSw; (try dsimp only at hSw); go_simp; all_goals with_reducible rfl
          simp only [Act.put, List.getElem_toArray, List.getElem_cons_zero, List.getElem_cons_succ, List.setIfInBounds_toArray, List.set_cons_zero, List.set_cons_succ]
          refine wpAnyH_take (i := 24) (v := ?_) rfl (by kernel_rfl) (by kernel_rfl) (by kernel_rfl) (fun _ _ _ h => h) (Or.inl ⟨by rfl, ?_⟩) (by assumption) ?_
          rotate_left
          · simp only [List.getElem_toArray, List.getElem_cons_zero, List.getElem_cons_succ]; intro W hSw; (try dsimp only at hSw); go_simp; all_goals with_reducible rfl
          simp only [Act.put, List.getElem_toArray, List.getElem_cons_zero, List.getElem_cons_succ, List.setIfInBounds_toArray, List.set_cons_zero, List.set_cons_succ]
          refine wpAnyH_take (i := 25) (v := ?_) rfl (by kernel_rfl) (by kernel_rfl) (by kernel_rfl) (fun _ _ _ h => h) (Or.inl ⟨by rfl, ?_⟩) (by assumption) ?_
          rotate_left
          · simp only [List.getElem_toArray, List.getElem_cons_zero, List.getElem_cons_succ]; intro W hSw; (try dsimp only at hSw); go_simp; all_goals with_reducible rfl
          simp only [Act.put, List.getElem_toArray, List.getElem_cons_zero, List.getElem_cons_succ, List.setIfInBounds_toArray, List.set_cons_zero, List.set_cons_succ]
          refine wpAnyH_take (i := 26) (v := ?_) rfl (by kernel_rfl) (by kernel_rfl) (by kernel_rfl) (fun _ _ _ h => h) (Or.inl ⟨by rfl, ?_⟩) (by assumption) ?_
          rotate_left
          · simp only [List.getElem_toArray, List.getElem_cons_zero, List.getElem_cons_succ]; intro W hSw; (try dsimp only at hSw); go_simp; all_goals with_reducible rfl
          simp only [Act.put, List.getElem_toArray, List.getElem_cons_zero, List.getElem_cons_succ, List.setIfInBounds_toArray, List.set_cons_zero, List.set_cons_succ]
          refine wpAnyH_take (i := 27) (v := ?_) rfl (by kernel_rfl) (by kernel_rfl) (by kernel_rfl) (fun _ _ _ h => h) (Or.inl ⟨by rfl, ?_⟩) (by assumption) ?_
          rotate_left
          · simp only [List.getElem_toArray, List.getElem_cons_zero, List.getElem_cons_succ]; intro W hSw; (try dsimp only at hSw); go_simp; all_goals with_reducible rfl
          simp only [Act.put, List.getElem_toArray, List.getElem_cons_zero, List.getElem_cons_succ, List.setIfInBounds_toArray, List.set_cons_zero, List.set_cons_succ]
          refine wpAnyH_take (i := 28) (v := ?_) rfl (by kernel_rfl) (by kernel_rfl) (by kernel_rfl) (fun _ _ _ h => h) (Or.inl ⟨by rfl, ?_⟩) (by assumption) ?_
          rotate_left
          · simp only [List.getElem_toArray, List.getElem_cons_zero, List.getElem_cons_succ]; intro W hSw; (try dsimp only at hSw); go_simp; all_goals with_reducible rfl
          simp only [Act.put, List.getElem_toArray, List.getElem_cons_zero, List.getElem_cons_succ, List.setIfInBounds_toArray, List.set_cons_zero, List.set_cons_succ]
          refine wpAnyH_take (i := 29) (v := ?_) rfl (by kernel_rfl) (by kernel_rfl) (by kernel_rfl) (fun _ _ _ h => h) (Or.inl ⟨by rfl, ?_⟩) (by assumption) ?_
          rotate_left
          · simp only [List.getElem_toArray, List.getElem_cons_zero, List.getElem_cons_succ]; intro W hSw; (try dsimp only at hSw); go_simp; all_goals with_reducible rfl
          simp only [Act.put, List.getElem_toArray, List.getElem_cons_zero, List.getElem_cons_succ, List.setIfInBounds_toArray, List.set_cons_zero, List.set_cons_succ]
          refine wpAnyH_take (i := 30) (v := ?_) rfl (by kernel_rfl) (by kernel_rfl) (by kernel_rfl) (fun _ _ _ h => h) (Or.inl ⟨by rfl, ?_⟩) (by assumption) ?_
          rotate_left
          · simp only [List.getElem_toArray, List.getElem_cons_zero, List.getElem_cons_succ]; intro W hSw; (try dsimp only at hSw); go_simp; all_goals with_reducible rfl
          simp only [Act.put, List.getElem_toArray, List.getElem_cons_zero, List.getElem_cons_succ, List.setIfInBounds_toArray, List.set_cons_zero, List.set_cons_succ]
          refine wpAnyH_take (i := 31) (v := ?_) rfl (by kernel_rfl) (by kernel_rfl) (by kernel_rfl) (fun _ _ _ h => h) (Or.inl ⟨by rfl, ?_⟩) (by assumption) ?_
          rotate_left
          · simp only [List.getElem_toArray, List.getElem_cons_zero, List.getElem_cons_succ]; intro W hSw; (try dsimp only at hSw); go_simp; all_goals with_reducible rfl
          simp only [Act.put, List.getElem_toArray, List.getElem_cons_zero, List.getElem_cons_succ, List.setIfInBounds_toArray, List.set_cons_zero, List.set_cons_succ]
          refine wpAnyH_take (i := 32) (v := ?_) rfl (by kernel_rfl) (by kernel_rfl) (by kernel_rfl) (fun _ _ _ h => h) (Or.inl ⟨by rfl, ?_⟩) (by assumption) ?_
          rotate_left
          · simp only [List.getElem_toArray, List.getElem_cons_zero, List.getElem_cons_succ]; intro W hSw; (try dsimp only at hSw); go_simp; all_goals with_reducible rfl
          simp only [Act.put, List.getElem_toArray, List.getElem_cons_zero, List.getElem_cons_succ, List.setIfInBounds_toArray, List.set_cons_zero, List.set_cons_succ]
          refine wpAnyH_take (i := 33) (v := ?_) rfl (by kernel_rfl) (by kernel_rfl) (by kernel_rfl) (fun _ _ _ h => h) (Or.inl ⟨by rfl, ?_⟩) (by assumption) ?_
          rotate_left
          · simp only [List.getElem_toArray, List.getElem_cons_zero, List.getElem_cons_succ]; intro W hSw; (try dsimp only at hSw); go_simp; all_goals with_reducible rfl
          simp only [Act.put, List.getElem_toArray, List.getElem_cons_zero, List.getElem_cons_succ, List.setIfInBounds_toArray, List.set_cons_zero, List.set_cons_succ]
          refine wpAnyH_take (i := 34) (v := ?_) rfl (by kernel_rfl) (by kernel_rfl) (by kernel_rfl) (fun _ _ _ h => h) (Or.inl ⟨by rfl, ?_⟩) (by assumption) ?_
          rotate_left
          · simp only [List.getElem_toArray, List.getElem_cons_zero, List.getElem_cons_succ]; intro W hSw; (try dsimp only at hSw); go_simp; all_goals with_reducible rfl
          simp only [Act.put, List.getElem_toArray, List.getElem_cons_zero, List.getElem_cons_succ, List.setIfInBounds_toArray, List.set_cons_zero, List.set_cons_succ]
          refine wpAnyH_take (i := 35) (v := ?_) rfl (by kernel_rfl) (by kernel_rfl) (by kernel_rfl) (fun _ _ _ h => h) (Or.inl ⟨by rfl, ?_⟩) (by assumption) ?_
          rotate_left
          · simp only [List.getElem_toArray, List.getElem_cons_zero, List.getElem_cons_succ]; intro W hSw; (try dsimp only at hSw); go_simp; all_goals with_reducible rfl
          simp only [Act.put, List.getElem_toArray, List.getElem_cons_zero, List.getElem_cons_succ, List.setIfInBounds_toArray, List.set_cons_zero, List.set_cons_succ]
          refine wpAnyH_take (i := 36) (v := ?_) rfl (by kernel_rfl) (by kernel_rfl) (by kernel_rfl) (fun _ _ _ h => h) (Or.inl ⟨by rfl, ?_⟩) (by assumption) ?_
          rotate_left
          · simp only [List.getElem_toArray, List.getElem_cons_zero, List.getElem_cons_succ]; intro W hSw; (try dsimp only at hSw); go_simp; all_goals with_reducible rfl
          simp only [Act.put, List.getElem_toArray, List.getElem_cons_zero, List.getElem_cons_succ, List.setIfInBounds_toArray, List.set_cons_zero, List.set_cons_succ]
          refine wpAnyH_take (i := 37) (v := ?_) rfl (by kernel_rfl) (by kernel_rfl) (by kernel_rfl) (fun _ _ _ h => h) (Or.inl ⟨by rfl, ?_⟩) (by assumption) ?_
          rotate_left
          · simp only [List.getElem_toArray, List.getElem_cons_zero, List.getElem_cons_succ]; intro W hSw; (try dsimp only at hSw); go_simp; all_goals with_reducible rfl
          simp only [Act.put, List.getElem_toArray, List.getElem_cons_zero, List.getElem_cons_succ, List.setIfInBounds_toArray, List.set_cons_zero, List.set_cons_succ]
          refine wpAnyH_take (i := 38) (v := ?_) rfl (by kernel_rfl) (by kernel_rfl) (by kernel_rfl) (fun _ _ _ h => h) (Or.inl ⟨by rfl, ?_⟩) (by assumption) ?_
          rotate_left
          · simp only [List.getElem_toArray, List.getElem_cons_zero, List.getElem_cons_succ]; intro W hSw; (try dsimp only at hSw); go_simp; all_goals with_reducible rfl
          simp only [Act.put, List.getElem_toArray, List.getElem_cons_zero, List.getElem_cons_succ, List.setIfInBounds_toArray, List.set_cons_zero, List.set_cons_succ]
          refine wpAnyH_take (i := 39) (v := ?_) rfl (by kernel_rfl) (by kernel_rfl) (by kernel_rfl) (fun _ _ _ h => h) (Or.inl ⟨by rfl, ?_⟩) (by assumption) ?_
          rotate_left
          · simp only [List.getElem_toArray, List.getElem_cons_zero, List.getElem_cons_succ]; intro W hSw; (try dsimp only at hSw); go_simp; all_goals with_reducible rfl
          simp only [Act.put, List.getElem_toArray, List.getElem_cons_zero, List.getElem_cons_succ, List.setIfInBounds_toArray, List.set_cons_zero, List.set_cons_succ]
          refine wpAnyH_done (by kernel_rfl) ?_ _
          go_wp2_with fail
          go_ret
          exact ⟨by rw [HE.out]; rfl, HB3.out.drew⟩
end Go.Proofs.YtkajcgpkldofjaaDoor
end

section
/-
  A scan's good, by contract: it tells the good sectors' frames, one after another.
-/
namespace Go.Proofs.YtkajcgpkldofjaaDoor
open Go.RowKit Fm
set_option maxRecDepth 100000
attribute [local go_sem] Oper.semAt_some

/-- how far a scan has come: so many frames, the last one, the parts of a record that is begun, what was found, and the next sequence -/
structure St where
  j : Nat
  L : Fr
  begun : List Fr
  out : List (Int × List Nat)
  next : Int
def St.nx (s : St) (f : Fr) : St := if moreB f = true then ⟨s.j + 1, f, s.begun ++ [f], s.out, s.next⟩ else ⟨s.j + 1, f, [], s.out ++ [(((s.begun ++ [f]).headD zF).seq, joinR (s.begun ++ [f]))], f.seq + 1⟩
theorem St.nx_j (s : St) (f : Fr) : (s.nx f).j = s.j + 1 := by unfold St.nx; split <;> rfl
theorem St.nx_L (s : St) (f : Fr) : (s.nx f).L = f := by unfold St.nx; split <;> rfl
abbrev Xv := Option Addr × Nat × Fr
def encX (x : Xv) : Array Value := #[.agg (frv x.1 x.2.1 x.2.2).toArray]
/-- a scan goes on from s -/
def goodS (d : Dk.Dk) (tail : Int) (s : St) : Bool := readB d (tail + (s.j : Int)) && nextB s.L (readF (rdD d (tail + (s.j : Int))))
/-- what the scan tells where it is at s -/
def Tell (d : Dk.Dk) (tail : Int) (s : St) (x : Xv) (Wp W : World) : Prop :=
  s.j < 24 ∧ goodS d tail s = true ∧ x.2.2 = readF (rdD d (tail + (s.j : Int))) ∧ FrV W W.heap.size (frv x.1 x.2.1 x.2.2) x.2.2 ∧ ∀ b, x.1 = some b → Wp.heap.size ≤ b.block
def Ends (d : Dk.Dk) (tail : Int) (s : St) : Prop := s.j ≤ 24 ∧ (s.j = 24 ∨ goodS d tail s = false)
def FinS (a : Nat) (tail : Int) (Bs : Nat) (W : World) : Prop := ∃ A c f, W.heap[Bs]? = some (.cells (scanRow a tail A c f 0) 59 (0, 0))
/-- a last frame: none, or one that was read -/
def LastB (f : Fr) : Prop := 0 ≤ f.part ∧ f.part ≤ 100
theorem read_last (d : Dk.Dk) (s : Int) : LastB (readF (rdD d s)) := by
  unfold readF
  split
  · rename_i h
    unfold readOK at h
    simp only [Bool.and_eq_true] at h
    have h2 := h.2.1
    unfold mayB at h2
    rw [decide_eq_true_eq] at h2
    exact ⟨by omega, by omega⟩
  · exact ⟨by decide, by decide⟩

theorem six_cells {X : World} {b : Nat} {A5 : Option Addr} {c5 : Nat} {f : Fr} (h : X.heap[b]? = some (.cells #[.int .i64 f.seq, .int .i64 f.inc, .int .i64 f.part, .int .i64 f.of, .int .u32 (f.mark : Nat), .slice A5 f.load.length c5] 54 (0, 0))) : (X.cell? ⟨b, 0, none⟩ = some (.int .i64 f.seq) ∧ X.cell? ⟨b, 1, none⟩ = some (.int .i64 f.inc) ∧ X.cell? ⟨b, 2, none⟩ = some (.int .i64 f.part)) ∧ X.cell? ⟨b, 3, none⟩ = some (.int .i64 f.of) ∧ X.cell? ⟨b, 4, none⟩ = some (.int .u32 (f.mark : Nat)) ∧ X.cell? ⟨b, 5, none⟩ = some (.slice A5 f.load.length c5) := by
  refine ⟨⟨?_, ?_, ?_⟩, ?_, ?_, ?_⟩ <;> (rw [cell_of_row X b _ _ _ _ h]; rfl)
set_option maxHeartbeats 4000000 in
theorem good_tells {w : World} {S : Nat → Prop} {a Bs n0 : Nat} {d : Dk.Dk} {tail : Int} {A0 : Option Addr} {c0 : Nat} {s0 : St} (m : Nat) (hm : 2 ≤ m) (h : Dk.Disk w S a d) (hup : d.down = false) (hWd : Widths w) (hS : ∀ k, S k → k < n0) (hwn : 0 < n0) (hn0 : n0 ≤ w.heap.size) (hBn : n0 ≤ Bs)
    (hs : w.heap[Bs]? = some (.cells (scanRow a tail A0 c0 s0.L 0) 59 (0, 0))) (hj0 : s0.j = 0) (hL0 : LastB s0.L) (ht : 1 ≤ tail ∧ tail ≤ 1099511627776) :
    Tells Fence.wide m Tryd.prog 24 #[.pointer (some ⟨Bs, 0, none⟩)] encX (fun s x => s.nx x.2.2) (Tell d tail) n0 Bs s0 (Ends d tail) (FinS a tail Bs) w := by
  intro l J Jx W hW hl hl2 hJ hJx hY h0
  have hBw : Bs < w.heap.size := (Array.getElem?_eq_some_iff.1 hs).1
  have HDk := Lib.hid (show ∀ X, Dk.Kept (fun k => n0 ≤ k) w X → Dk.Disk X S a d from fun X hX => h.keep (fun k hk => hX.block k (h.old k hk) (fun e => by have := hS k hk; omega)) hX.size)
  have HWi := Lib.hid (show ∀ X, Dk.Kept (fun k => n0 ≤ k) w X → Widths X from fun X hX => by
    obtain ⟨q0, q1, q2, q3, q4, q5⟩ := hWd
    have hkk : X.heap[0]? = w.heap[0]? := hX.block _ q0 (by omega)
    exact ⟨Nat.lt_of_lt_of_le q0 hX.size, (World.cell?_of_block (w := w) hkk).trans q1, (World.cell?_of_block (w := w) hkk).trans q2, (World.cell?_of_block (w := w) hkk).trans q3, (World.cell?_of_block (w := w) hkk).trans q4, (World.cell?_of_block (w := w) hkk).trans q5⟩)
  have HUp := Lib.hid hup
  have HW := Lib.hid hW
  have HY := Lib.hid hY
  have HJ := Lib.hid hJ
  have HJx := Lib.hid hJx
  have hsW := (hW.block _ hBw).trans hs
  have HK0 := Lib.hid (show Dk.Kept (fun k => n0 ≤ k) w W from Dk.Kept.of_below hW (Nat.le_refl _))
  have H0 := Lib.hid h0
  have HsW := Lib.hid hsW
  have HL0 := Lib.hid hL0
  clear h hup hWd hS hwn hs hW hY hJ hJx h0 hsW hl hl2 hL0
  refine callsIn_of_wp Tryd.func24 rfl trivial ?_ rfl
  simp only [Tryd.ntmps24, List.size_toArray, List.length_cons, List.length_nil, Nat.reduceAdd, Nat.reduceSub, Array.replicate_succ, Array.replicate_zero, List.push_toArray, List.append_toArray, List.nil_append, List.cons_append]
  gi_wp2
  gi_loopw [7] (fun i wr => ∃ (s : St) (A : Option Addr) (c : Nat), s.j ≤ 24 ∧ i = .int .i64 (s.j : Int) ∧ J s wr ∧ wr.heap[Bs]? = some (.cells (scanRow a tail A c s.L 0) 59 (0, 0)) ∧ LastB s.L ∧ Dk.Kept (fun k => n0 ≤ k) w wr ∧ W.heap.size ≤ wr.heap.size) (fun i _ => 24 - (intOf i).toNat)
  case atStart => exact ⟨s0, A0, c0, by omega, by rw [hj0]; rfl, H0.out, HsW.out, HL0.out, HK0.out, Nat.le_refl _⟩
  case round =>
    obtain ⟨s, A, c, hj, rfl, hJs, hrow, hLs, hK, hsz⟩ := hrel
    by_cases hlt : s.j < 24
    · have hc1 : wr.cell? ⟨Bs, 1, none⟩ = some (.int .i64 tail) := by rw [cell_of_row wr Bs 1 _ _ _ hrow]; rfl
      have hw1 : IntKind.i64.wrap (tail + (s.j : Int)) = tail + (s.j : Int) := by rw [IntKind.wrap_i64]; omega
      have hw2 : IntKind.i64.wrap ((s.j : Int) + 1) = (s.j : Int) + 1 := by rw [IntKind.wrap_i64]; omega
      have hji : (s.j : Int) < 24 := by omega
      have HR := Lib.hid (jread_says (HDk.out wr hK) HUp.out (HWi.out wr hK) hrow (tail + (s.j : Int)))
      have HRow := Lib.hid hrow
      have HJs := Lib.hid hJs
      have HLs := Lib.hid hLs
      have HK := Lib.hid hK
      have HSz := Lib.hid hsz
      clear hrow hJs hLs hK hsz
      gi_wp2_with fail
      refine ⟨trivial, fun _ => by omega, ?_⟩
      gi_at_call 47
      refine CallsIn.mono (callsIn_wide.2 HR.out) ?_
      rintro e w' ⟨A5, c5, f, rfl, hv5, hb5, hn5, hq5⟩
      obtain ⟨w5, hw5⟩ : ∃ w5, w5 = w'.alloc (.cells #[.int .i64 f.seq, .int .i64 f.inc, .int .i64 f.part, .int .i64 f.of, .int .u32 (f.mark : Nat), .slice A5 f.load.length c5] 54) := ⟨_, rfl⟩
      have hb55 : Below w'.heap.size w' w5 := by rw [hw5]; exact (Below.refl _ w').alloc (Nat.le_refl _) _
      have hg5 : w5.heap[w'.heap.size]? = some (.cells #[.int .i64 f.seq, .int .i64 f.inc, .int .i64 f.part, .int .i64 f.of, .int .u32 (f.mark : Nat), .slice A5 f.load.length c5] 54 (0, 0)) := by rw [hw5]; exact heap_alloc_new w' _
      have hz5 : w5.heap.size = w'.heap.size + 1 := by rw [hw5]; simp
      have HB5 := Lib.hid (hb5.trans (hb55.mono hb5.size))
      have HZ5 := Lib.hid (show wr.heap.size ≤ w'.heap.size ∧ w'.heap.size < w5.heap.size from ⟨hb5.size, by omega⟩)
      have HG5 := Lib.hid (fun (X : World) (hX : X.heap[w'.heap.size]? = w5.heap[w'.heap.size]?) => six_cells (hX.trans hg5))
      have HV5 := Lib.hid (show FrV w5 w5.heap.size (frv A5 c5 f) f from (hv5.below hb55 (Nat.le_refl _)).mono hb55.size)
      have HN5 := Lib.hid hn5
      have HQ5 := Lib.hid hq5
      have HW5 := Lib.hid hw5
      clear hv5 hb5 hn5 hq5 hw5 hb55 hg5 hz5
      unfold frv
      obtain ⟨Rb, hRb⟩ : ∃ Rb, Rb = readB d (tail + (s.j : Int)) := ⟨_, rfl⟩
      rw [← hRb]
      have HRb := Lib.hid hRb
      clear hRb
      cases Rb with
      | false =>
        have HE := Lib.hid (show Ends d tail s from ⟨hj, Or.inr (by unfold goodS; rw [← HRb.out]; rfl)⟩)
        gi_wp2_with (rw [← HW5.out])
        refine ⟨trivial, ?_⟩
        gi_wp2
        have HFin := Lib.hid (HJ.out s wr w5 HJs.out (Dk.Kept.of_below HB5.out (Nat.le_refl _)))
        have HF2 := Lib.hid (show FinS a tail Bs w5 from ⟨A, c, s.L, (HB5.out.block _ (Array.getElem?_eq_some_iff.1 HRow.out).1).trans HRow.out⟩)
        refine ⟨(fun _ e => by cases e), ?_⟩
        gi_wp2
        refine bodyPost_ret (results_none rfl _ _ _) rfl ?_
        exact ⟨⟨_, rfl⟩, HF2.out, .inl ⟨s, HE.out, HFin.out⟩⟩
      | true =>
        have hfe := HQ5.out HRb.out.symm
        have HFol := Lib.hid (follows_says (f := f) (A := A5) (c := c5) ((HB5.out.block _ (Array.getElem?_eq_some_iff.1 HRow.out).1).trans HRow.out) HLs.out.1 HLs.out.2)
        obtain ⟨Nb, hNb⟩ : ∃ Nb, Nb = nextB s.L f := ⟨_, rfl⟩
        rw [← hNb] at HFol
        have HNb := Lib.hid hNb
        have HFe := Lib.hid hfe
        clear hNb hfe
        unfold frv at HFol
        obtain ⟨⟨b0, b1, b2⟩, b3, b4, b5⟩ := HG5.out w5 rfl
        gi_wp2_with (rw [← HW5.out])
        refine ⟨trivial, fun _ => by omega, ?_⟩
        gi_at_call 48
        refine CallsIn.mono (callsIn_wide.2 HFol.out) ?_
        rintro e w6 ⟨rfl, hb6⟩
        have HB56 := Lib.hid hb6
        have HB6 := Lib.hid (HB5.out.trans (hb6.mono HB5.out.size))
        have HRow6 := Lib.hid ((HB6.out.block _ (Array.getElem?_eq_some_iff.1 HRow.out).1).trans HRow.out)
        clear b0 b1 b2 b3 b4 b5 hb6
        cases Nb with
        | false =>
          have HE := Lib.hid (show Ends d tail s from ⟨hj, Or.inr (by unfold goodS; rw [← HRb.out, ← HFe.out, ← HNb.out]; rfl)⟩)
          have HFin := Lib.hid (HJ.out s wr w6 HJs.out (Dk.Kept.of_below HB6.out (Nat.le_refl _)))
          have HF2 := Lib.hid (show FinS a tail Bs w6 from ⟨A, c, s.L, HRow6.out⟩)
          gi_wp2
          refine ⟨(fun _ e => by cases e), ?_⟩
          gi_wp2
          refine bodyPost_ret (results_none rfl _ _ _) rfl ?_
          exact ⟨⟨_, rfl⟩, HF2.out, .inl ⟨s, HE.out, HFin.out⟩⟩
        | true =>
          have HT := Lib.hid (show Tell d tail s (A5, c5, f) wr w6 from ⟨hlt, by unfold goodS; rw [← HRb.out, ← HFe.out, ← HNb.out]; rfl, HFe.out, (HV5.out.below HB56.out (Nat.le_refl _)).mono HB56.out.size, HN5.out⟩)
          obtain ⟨fn, tmps, assign, body, hy, hR⟩ := HY.out s (A5, c5, f) wr w6 HJs.out HB6.out HT.out HSz.out
          obtain ⟨⟨b0, b1, b2⟩, b3, b4, b5⟩ := HG5.out w6 (HB56.out.block _ HZ5.out.2)
          unfold encX frv at hy
          gi_wp2
          refine ⟨fun _ => by omega, hR.mono ?_⟩
          rintro e W3 ⟨hk3, (⟨rfl, hJ3⟩ | ⟨rfl, hJx3⟩)⟩
          · have hb6W : W3.heap[w'.heap.size]? = w5.heap[w'.heap.size]? := (hk3.block _ (Nat.lt_of_lt_of_le HZ5.out.2 HB56.out.size) (fun e => by have := HZ5.out.1; omega)).trans (HB56.out.block _ HZ5.out.2)
            obtain ⟨⟨d0, d1, d2⟩, d3, d4, d5⟩ := HG5.out W3 hb6W
            have hr3 : W3.heap[Bs]? = some (.cells ([.pointer (some ⟨a, 0, none⟩), .int .i64 tail] ++ [.int .i64 s.L.seq, .int .i64 s.L.inc, .int .i64 s.L.part, .int .i64 s.L.of, .int .u32 (s.L.mark : Nat), .slice A s.L.load.length c] ++ [.int .i64 0] : List Value).toArray 59 (0, 0)) := (hk3.block _ (Array.getElem?_eq_some_iff.1 HRow6.out).1 (fun e => e.1.2 rfl)).trans HRow6.out
            have HR3 := Lib.hid hr3
            have HK3 := Lib.hid hk3
            have HJ3 := Lib.hid hJ3
            clear hk3 hJ3 hr3 hb6W b0 b1 b2 b3 b4 b5
            gi_wp2_with (refine Dk.wpListIn_of rfl rfl fun K hK => Dk.wp_store_part 54 (.tmp 38) (.tmp 36) rfl Bs 2 rfl [.int .i64 f.seq, .int .i64 f.inc, .int .i64 f.part, .int .i64 f.of, .int .u32 (f.mark : Nat), .slice A5 f.load.length c5] rfl 59 [.pointer (some ⟨a, 0, none⟩), .int .i64 tail] [.int .i64 s.L.seq, .int .i64 s.L.inc, .int .i64 s.L.part, .int .i64 s.L.of, .int .u32 (s.L.mark : Nat), .slice A s.L.load.length c] [.int .i64 0] HR3.out rfl rfl Tryd.sizeF (frv_one A5 c5 f) (hK _ _ ?_))
            obtain ⟨W4, hW4⟩ : ∃ W4, W4 = W3.setRow Bs (scanRow a tail A5 c5 f 0) := ⟨_, rfl⟩
            go_roundw
            case rel => exact ⟨s.nx f, A5, c5, by rw [St.nx_j]; omega, by rw [St.nx_j]; simp, HJ.out _ _ _ HJ3.out ((Dk.Kept.refl _ W3).grown (Dk.grown_setRow W3 Bs _) (fun k e _ => (Option.some.inj e).symm)), by rw [St.nx_L]; exact setRow_heap _ _ _ _ _ _ HR3.out, by rw [St.nx_L, HFe.out]; exact read_last _ _,
              (((HK.out.trans (Dk.Kept.of_below HB6.out (Nat.le_refl _)) (fun _ _ e => e)).trans HK3.out (fun i _ e => e.1.1)).grown (Dk.grown_setRow W3 Bs _) (fun k e _ => by have := Option.some.inj e; omega)), by have h1 := HSz.out; have h2 := HB6.out.size; have h3 := HK3.out.size; simp [World.setRow]; omega⟩
            case measure => simp [intOf]; omega
          · have HF2 := Lib.hid (show FinS a tail Bs W3 from ⟨A, c, s.L, (hk3.block _ (Array.getElem?_eq_some_iff.1 HRow6.out).1 (fun e => e.1.2 rfl)).trans HRow6.out⟩)
            have HJx3 := Lib.hid hJx3
            clear hk3 hJx3 b0 b1 b2 b3 b4 b5
            gi_wp2
            refine bodyPost_ret (results_none rfl _ _ _) rfl ?_
            exact ⟨⟨_, rfl⟩, HF2.out, .inr ⟨s, HJx3.out⟩⟩
    · obtain hj24 : s.j = 24 := by omega
      have hji : ¬ (s.j : Int) < 24 := by omega
      have HE := Lib.hid (show Ends d tail s from ⟨hj, Or.inl hj24⟩)
      have HF2 := Lib.hid (show FinS a tail Bs wr from ⟨A, c, s.L, hrow⟩)
      have HJs := Lib.hid hJs
      clear hJs hrow hK hsz hLs hj24 hlt
      gi_wp2
      go_end0
      exact ⟨⟨_, rfl⟩, HF2.out, .inl ⟨s, HE.out, HJs.out⟩⟩
end Go.Proofs.YtkajcgpkldofjaaDoor
end

section
/-
  A scan as plain data: what holds between two frames, step by step.
-/
namespace Go.Proofs.YtkajcgpkldofjaaDoor
open Go.RowKit Fm

def Linked (s : St) : Prop := (s.begun = [] ∧ moreB s.L = false) ∨ ∃ g r, s.begun = g :: r ∧ moreB s.L = true ∧ s.L.part + 1 = ((g :: r).length : Nat) ∧ s.L.of = g.of ∧ s.L.mark = g.mark ∧ s.L.inc = g.inc
structure Going (d : Dk.Dk) (tail : Int) (s : St) : Prop where
  scan : scanD d tail = scanN (rdD d) (24 - s.j) (tail + (s.j : Int)) s.L.inc s.begun s.out s.next
  le : s.j ≤ 24
  link : Linked s
  few : s.begun.length + s.out.length ≤ s.j
def st0 (tail : Int) : St := ⟨0, zF, [], [], tail⟩
theorem Going.start (d : Dk.Dk) (tail : Int) : Going d tail (st0 tail) := ⟨by unfold scanD st0; simp [zF], Nat.zero_le _, Or.inl ⟨rfl, rfl⟩, Nat.le_refl _⟩
theorem good_same {d : Dk.Dk} {tail : Int} {s : St} (h : Linked s) : goodS d tail s = (isSeq (tail + (s.j : Int)) && goodB (rdD d (tail + (s.j : Int))) (tail + (s.j : Int)) s.L.inc s.begun) := by
  unfold goodS readB goodB
  generalize rdD d (tail + (s.j : Int)) = bs
  generalize tail + (s.j : Int) = q
  generalize readF bs = f
  rcases h with ⟨e, hm⟩ | ⟨g, r, e, hm, h1, h2, h3, h4⟩
  · rw [e]
    unfold nextB followsB
    rw [hm, if_neg (by simp)]
    cases isSeq q <;> cases readOK bs <;> simp
    rw [Bool.and_comm (decide (f.part = 0))]
  · rw [e]
    unfold nextB followsB
    rw [hm, if_pos rfl]
    cases isSeq q <;> cases readOK bs <;> simp only [Bool.false_and, Bool.true_and]
    rw [Bool.eq_iff_iff]
    simp only [Bool.and_eq_true, decide_eq_true_eq]
    constructor
    · rintro ⟨h5, h6, h7, h8, h9⟩
      exact ⟨h5, by omega, by omega, by omega, by omega, by omega⟩
    · rintro ⟨h5, _, h6, h7, h8, h9⟩
      exact ⟨h5, by omega, by omega, by omega, by omega⟩
theorem more_lt (f : Fr) : moreB f = true ↔ f.part < f.of - 1 := by unfold moreB; simp; omega
section
variable {d : Dk.Dk} {tail : Int} {s : St} {f : Fr}
theorem Going.seq (hg : goodS d tail s = true) (hf : f = readF (rdD d (tail + (s.j : Int)))) : f.seq = tail + (s.j : Int) := by
  unfold goodS readB at hg
  simp only [Bool.and_eq_true, decide_eq_true_eq] at hg
  rw [hf]; exact hg.1.2.2
theorem Going.next_ (hg : goodS d tail s = true) (hf : f = readF (rdD d (tail + (s.j : Int)))) : nextB s.L f = true := by
  unfold goodS at hg
  simp only [Bool.and_eq_true] at hg
  rw [hf]; exact hg.2
theorem Going.step (h : Going d tail s) (hj : s.j < 24) (hg : goodS d tail s = true) (hf : f = readF (rdD d (tail + (s.j : Int)))) :
    scanD d tail = if moreB f = true then scanN (rdD d) (24 - (s.j + 1)) (tail + ((s.j + 1 : Nat) : Int)) f.inc (s.begun ++ [f]) s.out s.next
      else if joinB (s.begun ++ [f]) = true then scanN (rdD d) (24 - (s.j + 1)) (tail + ((s.j + 1 : Nat) : Int)) f.inc [] (s.out ++ [(((s.begun ++ [f]).headD zF).seq, joinR (s.begun ++ [f]))]) (f.seq + 1) else (s.out, s.next) := by
  have hs := Going.seq hg hf
  rw [good_same h.link] at hg
  rw [h.scan, show 24 - s.j = (24 - (s.j + 1)) + 1 by omega, scanN, if_pos hg, ← hf, show tail + (s.j : Int) + 1 = tail + ((s.j + 1 : Nat) : Int) by omega, hs, show tail + (s.j : Int) + 1 = tail + ((s.j + 1 : Nat) : Int) by omega]
  by_cases hm : moreB f = true
  · rw [if_pos hm, if_pos ((more_lt f).1 hm)]
  · rw [if_neg hm, if_neg (fun e => hm ((more_lt f).2 e))]
theorem Going.more (h : Going d tail s) (hj : s.j < 24) (hg : goodS d tail s = true) (hf : f = readF (rdD d (tail + (s.j : Int)))) (hm : moreB f = true) : Going d tail (s.nx f) := by
  have h1 := h.step hj hg hf
  rw [if_pos hm] at h1
  have hn := Going.next_ hg hf
  have e : s.nx f = ⟨s.j + 1, f, s.begun ++ [f], s.out, s.next⟩ := by unfold St.nx; rw [if_pos hm]
  have hfew := h.few
  rw [e]
  refine ⟨h1, by show s.j + 1 ≤ 24; omega, ?_, by simp only [List.length_append, List.length_cons, List.length_nil]; omega⟩
  rcases h.link with ⟨e1, hm1⟩ | ⟨g, r, e1, hm1, q1, q2, q3, q4⟩
  · unfold nextB at hn
    rw [hm1, if_neg (by simp)] at hn
    simp only [Bool.and_eq_true, decide_eq_true_eq] at hn
    refine Or.inr ⟨f, [], by show s.begun ++ [f] = [f]; rw [e1]; rfl, hm, ?_, rfl, rfl, rfl⟩
    show f.part + 1 = ((1 : Nat) : Int)
    omega
  · unfold nextB at hn
    rw [hm1, if_pos rfl] at hn
    simp only [Bool.and_eq_true, decide_eq_true_eq] at hn
    refine Or.inr ⟨g, r ++ [f], by show s.begun ++ [f] = g :: (r ++ [f]); rw [e1]; rfl, hm, ?_, ?_, ?_, ?_⟩
    · show f.part + 1 = ((g :: (r ++ [f])).length : Nat)
      simp only [List.length_cons, List.length_append, List.length_nil] at q1 ⊢
      omega
    · show f.of = g.of; omega
    · show f.mark = g.mark; omega
    · show f.inc = g.inc; omega
theorem Going.record (h : Going d tail s) (hj : s.j < 24) (hg : goodS d tail s = true) (hf : f = readF (rdD d (tail + (s.j : Int)))) (hm : moreB f = false) (hjn : joinB (s.begun ++ [f]) = true) : Going d tail (s.nx f) := by
  have h1 := h.step hj hg hf
  rw [if_neg (by rw [hm]; simp), if_pos hjn] at h1
  have e : s.nx f = ⟨s.j + 1, f, [], s.out ++ [(((s.begun ++ [f]).headD zF).seq, joinR (s.begun ++ [f]))], f.seq + 1⟩ := by unfold St.nx; rw [if_neg (by rw [hm]; simp)]
  have hfew := h.few
  rw [e]
  exact ⟨h1, by show s.j + 1 ≤ 24; omega, Or.inl ⟨rfl, hm⟩, by simp only [List.length_append, List.length_cons, List.length_nil]; omega⟩
theorem Going.broken (h : Going d tail s) (hj : s.j < 24) (hg : goodS d tail s = true) (hf : f = readF (rdD d (tail + (s.j : Int)))) (hm : moreB f = false) (hjn : joinB (s.begun ++ [f]) = false) : scanD d tail = (s.out, s.next) := by
  have h1 := h.step hj hg hf
  rwa [if_neg (by rw [hm]; simp), if_neg (by rw [hjn]; simp)] at h1
theorem Going.ended (h : Going d tail s) (he : Ends d tail s) : scanD d tail = (s.out, s.next) := by
  rw [h.scan]
  rcases he.2 with e | e
  · rw [e]; rfl
  · rw [good_same h.link] at e
    refine scan_bad ?_
    cases hq : isSeq (tail + (s.j : Int)) with
    | false => exact Or.inl rfl
    | true => rw [hq, Bool.true_and] at e; exact Or.inr e
end
end Go.Proofs.YtkajcgpkldofjaaDoor
end
