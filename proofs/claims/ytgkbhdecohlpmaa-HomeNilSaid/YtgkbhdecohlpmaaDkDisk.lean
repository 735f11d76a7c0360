/-
  A disk in memory: its sectors as they are durably, and the writes since, a row of them for each sector.
-/
import Derived.Test.YtgkbhdecohlpmaaDkGround
namespace Go.Proofs.Ytgkbhdecohlpmaa.Dk
set_option maxRecDepth 100000
open Go.RowKit Go.Maps

/-- a disk, as it is thought -/
structure Dk where
  dur : Nat → List Nat
  cache : Nat → List (List Nat)
  down : Bool

/-! ### 34 sectors, one behind the other -/
def flat (f : Nat → List Nat) : List Nat := (List.range 34).flatMap f
def ahead (f : Nat → List Nat) (n : Nat) : List Nat := (List.range n).flatMap f
def behindS (f : Nat → List Nat) (n : Nat) : List Nat := (List.range' (n + 1) (33 - n)).flatMap f
def upd {α : Type} (f : Nat → α) (n : Nat) (x : α) : Nat → α := fun k => if k = n then x else f k
theorem upd_same {α : Type} (f : Nat → α) (n : Nat) (x : α) : upd f n x n = x := by simp [upd]
theorem upd_other {α : Type} (f : Nat → α) {n k : Nat} (x : α) (h : k ≠ n) : upd f n x k = f k := by simp [upd, h]
theorem flat_split (f : Nat → List Nat) {n : Nat} (h : n < 34) : flat f = ahead f n ++ f n ++ behindS f n := by
  have e : List.range 34 = List.range n ++ (n :: List.range' (n + 1) (33 - n)) := by
    have h1 : List.range 34 = List.range' 0 n ++ List.range' (0 + n) (34 - n) := by
      have h2 := List.range'_append_1 (s := 0) (m := n) (n := 34 - n)
      rw [show n + (34 - n) = 34 by omega] at h2
      rw [List.range_eq_range', h2]
    rw [h1, ← List.range_eq_range', Nat.zero_add, show 34 - n = (33 - n) + 1 by omega, List.range'_succ]
  unfold flat ahead behindS
  rw [e, List.flatMap_append, List.flatMap_cons, List.append_assoc]
theorem flatMap_len {f : Nat → List Nat} {l : List Nat} (h : ∀ n ∈ l, (f n).length = 64) : (l.flatMap f).length = l.length * 64 := by
  induction l with
  | nil => rfl
  | cons a r ih =>
    rw [List.flatMap_cons, List.length_append, ih (fun n hn => h n (List.mem_cons_of_mem _ hn)), h a List.mem_cons_self, List.length_cons, Nat.succ_mul, Nat.add_comm]
theorem flat_len {f : Nat → List Nat} (h : ∀ n, n < 34 → Sec (f n)) : (flat f).length = 2176 := by
  unfold flat
  rw [flatMap_len (fun n hn => (h n (List.mem_range.1 hn)).1), List.length_range]
theorem ahead_len {f : Nat → List Nat} (h : ∀ n, n < 34 → Sec (f n)) {n : Nat} (hn : n ≤ 34) : (ahead f n).length = n * 64 := by
  unfold ahead
  rw [flatMap_len (fun k hk => (h k (by have := List.mem_range.1 hk; omega)).1), List.length_range]
theorem flat_lt {f : Nat → List Nat} (h : ∀ n, n < 34 → Sec (f n)) : ∀ x ∈ flat f, x < 256 := by
  intro x hx
  obtain ⟨n, hn, h1⟩ := List.mem_flatMap.1 hx
  exact (h n (List.mem_range.1 hn)).2 x h1
theorem flatMap_congr' {f g : Nat → List Nat} {l : List Nat} (h : ∀ n ∈ l, f n = g n) : l.flatMap f = l.flatMap g := by
  induction l with
  | nil => rfl
  | cons a r ih => rw [List.flatMap_cons, List.flatMap_cons, h a List.mem_cons_self, ih (fun n hn => h n (List.mem_cons_of_mem _ hn))]
theorem flat_congr {f g : Nat → List Nat} (h : ∀ n, n < 34 → f n = g n) : flat f = flat g := flatMap_congr' fun n hn => h n (List.mem_range.1 hn)
theorem flat_upd (f : Nat → List Nat) {n : Nat} (h : n < 34) (s : List Nat) : flat (upd f n s) = ahead f n ++ s ++ behindS f n := by
  rw [flat_split (upd f n s) h, upd_same]
  congr 1
  · congr 1
    exact flatMap_congr' fun k hk => upd_other _ _ (by have := List.mem_range.1 hk; omega)
  · exact flatMap_congr' fun k hk => upd_other _ _ (by have := (List.mem_range'_1.1 hk).1; omega)

/-- the cells of a disk -/
def rowD (f : Nat → List Nat) (m : Option Nat) (dn : Bool) : List Value := vals (flat f) ++ [.map m, .bool dn]
theorem rowD_split (f : Nat → List Nat) (m : Option Nat) (dn : Bool) {n : Nat} (h : n < 34) : rowD f m dn = vals (ahead f n) ++ vals (f n) ++ (vals (behindS f n) ++ [.map m, .bool dn]) := by
  unfold rowD
  rw [flat_split f h, vals_append, vals_append]
  simp only [List.append_assoc]
theorem rowD_upd (f : Nat → List Nat) (m : Option Nat) (dn : Bool) {n : Nat} (h : n < 34) (s : List Nat) : rowD (upd f n s) m dn = vals (ahead f n) ++ vals s ++ (vals (behindS f n) ++ [.map m, .bool dn]) := by
  unfold rowD
  rw [flat_upd f h, vals_append, vals_append]
  simp only [List.append_assoc]
theorem rowD_len {f : Nat → List Nat} (h : ∀ n, n < 34 → Sec (f n)) (m : Option Nat) (dn : Bool) : (rowD f m dn).length = 2178 := by
  simp [rowD, vals_length, flat_len h]
theorem rowD_map {f : Nat → List Nat} (h : ∀ n, n < 34 → Sec (f n)) (m : Option Nat) (dn : Bool) : (rowD f m dn)[2176]? = some (.map m) := by
  have e : (vals (flat f)).length = 2176 := by rw [vals_length, flat_len h]
  unfold rowD
  rw [List.getElem?_append_right (by omega), e]; rfl
theorem rowD_down {f : Nat → List Nat} (h : ∀ n, n < 34 → Sec (f n)) (m : Option Nat) (dn : Bool) : (rowD f m dn)[2177]? = some (.bool dn) := by
  have e : (vals (flat f)).length = 2176 := by rw [vals_length, flat_len h]
  unfold rowD
  rw [List.getElem?_append_right (by omega), e]; rfl
theorem rowD_sec {f : Nat → List Nat} (h : ∀ n, n < 34 → Sec (f n)) (m : Option Nat) (dn : Bool) {n : Nat} (hn : n < 34) : ∀ j u, (vals (f n))[j]? = some u → (rowD f m dn)[n * 64 + j]? = some u := by
  intro j u hu
  have hj := (List.getElem?_eq_some_iff.1 hu).1
  have e : (vals (ahead f n)).length = n * 64 := by rw [vals_length, ahead_len h (by omega)]
  rw [rowD_split f m dn hn, List.append_assoc, List.getElem?_append_right (by omega), e, Nat.add_sub_cancel_left, List.getElem?_append_left hj]
  exact hu
theorem rowD_setMap {f : Nat → List Nat} (h : ∀ n, n < 34 → Sec (f n)) (m m' : Option Nat) (dn : Bool) : (rowD f m dn).toArray.setIfInBounds 2176 (.map m') = (rowD f m' dn).toArray := by
  have e : (vals (flat f)).length = 2176 := by rw [vals_length, flat_len h]
  unfold rowD
  rw [List.setIfInBounds_toArray, List.set_append_right _ _ (by omega), e]; rfl
theorem rowD_setDown {f : Nat → List Nat} (h : ∀ n, n < 34 → Sec (f n)) (m : Option Nat) (dn dn' : Bool) : (rowD f m dn).toArray.setIfInBounds 2177 (.bool dn') = (rowD f m dn').toArray := by
  have e : (vals (flat f)).length = 2176 := by rw [vals_length, flat_len h]
  unfold rowD
  rw [List.setIfInBounds_toArray, List.set_append_right _ _ (by omega), e]; rfl
theorem rowD_one (f : Nat → List Nat) (m : Option Nat) (dn : Bool) : ∀ u ∈ rowD f m dn, u.oneCell' = true := by
  intro u hu
  rcases List.mem_append.1 hu with h | h
  · exact vals_one u h
  · rcases List.mem_cons.1 h with rfl | h
    · rfl
    · obtain rfl := List.mem_singleton.1 h; rfl

/-! ### the cache: a map of rows of sectors -/
/-- How an element of the map is told: as it lies. -/
def held (v : Value) : Option (DataW Value × List MemPlace) := some (.held v, [])
/-- no writes -/
def nilS : Value := .slice none 0 0
def key (n : Nat) : Lit := .int .i64 (n : Int)
/-- The values V n are rows of the writes c n, in blocks of S, no two in one. -/
structure Slots (w : World) (S : Nat → Prop) (c : Nat → List (List Nat)) (V : Nat → Value) : Prop where
  own : ∀ n, n < 34 → w.ownsRow 0 55 64 (V n) (c n).length (vals (c n).flatten)
  mine : ∀ n g, n < 34 → (V n).ownBlock = some g → S g
  apart : ∀ n n' g, n < 34 → n' < 34 → n ≠ n' → (V n).ownBlock = some g → (V n').ownBlock ≠ some g
/-- Block b is a map that has V n at n, just where there are writes of n. -/
def Mapped (w : World) (b : Nat) (c : Nat → List (List Nat)) (V : Nat → Value) : Prop :=
  ∃ D : DataW Value, w.ownsMap Try.prog 3 held b 34 D ∧ (∀ kl, Maps.has D kl = true → ∃ n, n < 34 ∧ kl = key n) ∧
    ∀ n, n < 34 → Maps.has D (key n) = !(c n).isEmpty ∧ D.atKey (key n) (.held nilS) = .held (V n)
/-- The disk at block a is d, and the blocks of S are its own. -/
structure Disk (w : World) (S : Nat → Prop) (a : Nat) (d : Dk) : Prop where
  mine : S a
  old : ∀ k, S k → k < w.heap.size
  secs : ∀ n, n < 34 → Sec (d.dur n)
  puts : ∀ n, n < 34 → ∀ b ∈ d.cache n, Sec b
  body : ∃ m, w.heap[a]? = some (.cells (rowD d.dur m d.down).toArray 59 (0, 0)) ∧
    ((m = none ∧ ∀ n, n < 34 → d.cache n = []) ∨ ∃ b V, m = some b ∧ S b ∧ Mapped w b d.cache V ∧ Slots w S d.cache V)

section
variable {w w' : World} {S S' : Nat → Prop} {a b : Nat} {d : Dk} {c : Nat → List (List Nat)} {V : Nat → Value}
theorem owns_keep {base e size n : Nat} {v : Value} {xs : List Value} (h : w.ownsRow base e size v n xs) (hk : ∀ g, v.ownBlock = some g → w'.heap[g]? = w.heap[g]?) : w'.ownsRow base e size v n xs := by
  obtain ⟨h1, h2⟩ := h
  refine ⟨h1, ?_⟩
  rcases h2 with h2 | ⟨g, cap, cur, rfl, hg, hh, r⟩
  · exact Or.inl h2
  · exact Or.inr ⟨g, cap, cur, rfl, hg, (hk g rfl).trans hh, r⟩
theorem Slots.keep (h : Slots w S c V) (hk : ∀ k, S k → w'.heap[k]? = w.heap[k]?) : Slots w' S c V :=
  ⟨fun n hn => owns_keep (h.own n hn) fun g hg => hk g (h.mine n g hn hg), h.mine, h.apart⟩
theorem Slots.mono (h : Slots w S c V) (hs : ∀ k, S k → S' k) : Slots w S' c V := ⟨h.own, fun n g hn hg => hs g (h.mine n g hn hg), h.apart⟩
theorem Mapped.keep (h : Mapped w b c V) (hk : w'.heap[b]? = w.heap[b]?) : Mapped w' b c V := by
  obtain ⟨D, ⟨es, clock, hb, r⟩, h2⟩ := h
  exact ⟨D, ⟨es, clock, hk.trans hb, r⟩, h2⟩
theorem Disk.keep (h : Disk w S a d) (hk : ∀ k, S k → w'.heap[k]? = w.heap[k]?) (hs : w.heap.size ≤ w'.heap.size) : Disk w' S a d := by
  refine ⟨h.mine, fun k hk' => Nat.lt_of_lt_of_le (h.old k hk') hs, h.secs, h.puts, ?_⟩
  obtain ⟨m, hb, hm⟩ := h.body
  refine ⟨m, (hk a h.mine).trans hb, hm.imp id ?_⟩
  rintro ⟨b, V, rfl, hS, hM, hV⟩
  exact ⟨b, V, rfl, hS, hM.keep (hk b hS), hV.keep hk⟩
theorem Disk.below {B : Nat} (h : Disk w S a d) (hb : Below B w w') (hB : w.heap.size ≤ B) : Disk w' S a d := h.keep (fun k hk => hb.block k (by have := h.old k hk; omega)) hb.size
theorem Disk.mono (h : Disk w S a d) (hs : ∀ k, S k → S' k) (ho : ∀ k, S' k → k < w.heap.size) : Disk w S' a d := by
  refine ⟨hs _ h.mine, ho, h.secs, h.puts, ?_⟩
  obtain ⟨m, hb, hm⟩ := h.body
  refine ⟨m, hb, hm.imp id ?_⟩
  rintro ⟨b, V, rfl, hS, hM, hV⟩
  exact ⟨b, V, rfl, hs b hS, hM, hV.mono hs⟩
theorem Disk.drew (h : Disk w S a d) : Disk w.drew S a d := h.keep (fun _ _ => rfl) (Nat.le_refl _)
theorem Disk.lt (h : Disk w S a d) : a < w.heap.size := h.old a h.mine
/-- the cells that the calls read -/
theorem Disk.cells (h : Disk w S a d) : ∃ m, w.heap[a]? = some (.cells (rowD d.dur m d.down).toArray 59 (0, 0)) ∧ w.cell? ⟨a, 2176, none⟩ = some (.map m) ∧ w.cell? ⟨a, 2177, none⟩ = some (.bool d.down) ∧
    (∀ j, w.frozen? ⟨a, j, none⟩ = false) ∧ ((m = none ∧ ∀ n, n < 34 → d.cache n = []) ∨ ∃ b V, m = some b ∧ S b ∧ Mapped w b d.cache V ∧ Slots w S d.cache V) := by
  obtain ⟨m, hb, hm⟩ := h.body
  refine ⟨m, hb, ?_, ?_, fun j => frozen_of_row w a j _ _ hb, hm⟩
  · rw [cell_of_row w a 2176 _ _ _ hb]; simpa using rowD_map h.secs m d.down
  · rw [cell_of_row w a 2177 _ _ _ hb]; simpa using rowD_down h.secs m d.down

theorem Slots.row_at (h : Slots w S c V) {n g : Nat} (hn : n < 34) (hg : (V n).ownBlock = some g) : ∃ cur fr, w.heap[g]? = some (.cells cur 55 fr) := by
  rcases (h.own n hn).2 with ⟨e, _⟩ | ⟨g', cap, cur, e, _, hh, _⟩
  · rw [e] at hg; cases hg
  · rw [e] at hg
    obtain rfl : g' = g := by simpa [Value.ownBlock] using hg
    exact ⟨_, _, hh⟩
theorem Slots.ne_disk (h : Slots w S c V) {cs : Array Value} {fr : Nat × Nat} (hb : w.heap[a]? = some (.cells cs 59 fr)) {n g : Nat} (hn : n < 34) (hg : (V n).ownBlock = some g) : g ≠ a := by
  rintro rfl
  obtain ⟨cur, fr', hh⟩ := h.row_at hn hg
  rw [hb] at hh; cases hh
theorem Mapped.at_ (h : Mapped w b c V) : ∃ es clock, w.heap[b]? = some (.map es clock) := by
  obtain ⟨D, ⟨es, clock, hb, _⟩, _⟩ := h
  exact ⟨es, clock, hb⟩
theorem Mapped.ne_cells (h : Mapped w b c V) {t : TypeId} {cs : Array Value} {fr : Nat × Nat} (hb : w.heap[a]? = some (.cells cs t fr)) : b ≠ a := by
  rintro rfl
  obtain ⟨es, clock, hh⟩ := h.at_
  rw [hb] at hh; cases hh
theorem Slots.ne_map {V' : Nat → Value} {c' : Nat → List (List Nat)} (h : Slots w S c V) (hM : Mapped w b c' V') {n g : Nat} (hn : n < 34) (hg : (V n).ownBlock = some g) : g ≠ b := by
  rintro rfl
  obtain ⟨cur, fr', hh⟩ := h.row_at hn hg
  obtain ⟨es, clock, hh'⟩ := hM.at_
  rw [hh] at hh'; cases hh'
/-- The cache, where the disk's own block alone has turned. -/
theorem cache_keep {m : Option Nat} {cs : Array Value} {fr : Nat × Nat} (hb : w.heap[a]? = some (.cells cs 59 fr)) (hold : ∀ k, S k → k < w.heap.size)
    (hm : (m = none ∧ ∀ n, n < 34 → c n = []) ∨ ∃ b V, m = some b ∧ S b ∧ Mapped w b c V ∧ Slots w S c V) (hg : w.grownBy w' (some a)) :
    (m = none ∧ ∀ n, n < 34 → c n = []) ∨ ∃ b V, m = some b ∧ S b ∧ Mapped w' b c V ∧ Slots w' S c V := by
  refine hm.imp id ?_
  rintro ⟨b, V, rfl, hS, hM, hV⟩
  refine ⟨b, V, rfl, hS, hM.keep (hg.block b (hold b hS) (fun e => hM.ne_cells hb (by cases e; rfl))), ⟨fun n hn => owns_keep (hV.own n hn) fun g hg' => hg.block g (hold g (hV.mine n g hn hg')) (fun e => hV.ne_disk hb hn hg' (by cases e; rfl)), hV.mine, hV.apart⟩⟩

/-- what is at n -/
theorem Mapped.look (h : Mapped w b c V) {n : Nat} (hn : n < 34) : (Instr.lookup 57 (.map (some b)) (.int .i64 (n : Int)) false).run Try.prog w = .ok (V n) w := by
  obtain ⟨D, hown, _, hat⟩ := h
  have hz : (zeroValue 91).run Try.prog w = .ok nilS w := by kernel_rfl
  have hw : (Lit.int .i64 (n : Int)).wf = true := WalkArith.wf_i64 (by omega)
  obtain ⟨v, ps, hrun, hv⟩ := hown.lookup (Maps.int_keyed Try.underlying3) Try.underlying57 hz (zd := .held nilS) (zp := []) rfl (keyOf_int_mk Try.underlying3 hw)
  have h1 := (hat n hn).2
  unfold key at h1
  rw [h1] at hv
  simp only [held, Option.some.injEq, Prod.mk.injEq, DataW.held.injEq] at hv
  rw [hrun, hv.1]
end

/-! ### what the document says -/
/-- sector n as it is read -/
def Dk.newest (d : Dk) (n : Nat) : List Nat := ((d.cache n).getLast?).getD (d.dur n)
def Dk.fresh : Dk := ⟨fun _ => List.replicate 64 0, fun _ => [], false⟩
/-- how many writes were made -/
def Dk.writes (d : Dk) : Nat := ((List.range 34).map fun n => (d.cache n).length).sum
theorem Disk.newest_sec {w : World} {S : Nat → Prop} {a : Nat} {d : Dk} (h : Disk w S a d) {n : Nat} (hn : n < 34) : Sec (d.newest n) := by
  unfold Dk.newest
  cases e : (d.cache n).getLast? with
  | none => exact h.secs n hn
  | some b => exact h.puts n hn b (List.mem_of_getLast? e)
end Go.Proofs.Ytgkbhdecohlpmaa.Dk
