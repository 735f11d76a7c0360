/-
  Copy: another disk, alike in all.
-/
import Derived.Test.YtfeaaclbjnaamaaWrite
import Derived.Lib.BufferMore
namespace Go.Proofs.Ytfeaaclbjnaamaa
open Go.RowKit Go.Maps Go.MapKept Go.ChangeMaps

theorem heap_alloc_new' (w : World) (o : Obj) : (w.alloc o).heap[w.heap.size]? = some o := by
  show (w.heap.push o)[w.heap.size]? = some o
  simp
set_option maxHeartbeats 400000 in
/-- slices.Clone of a row that is not nil. -/
theorem slices_clone {w : World} {g : Nat} {l cap : Nat} {cur : Array Value} {xs : List Value} (hg : w.heap[g]? = some (.cells cur 44 (0, 0))) (ht : cur.toList.take (l * 64) = xs) (hx : xs.length = l * 64) (h1 : ∀ u ∈ xs, u.oneCell' = true) (hl : l ≤ 1000000000) (h0 : 0 < l) :
    Calls Try.prog 22 #[.slice (some ⟨g, 0, none⟩) l cap] w fun e w' => ∃ v, e = .returned v ∧ w'.ownsRow w.heap.size 44 64 v l xs ∧ Below w.heap.size w w' := by
  obtain ⟨i0, hi, hz0, hz1, hz2⟩ := info_parts Try.info44
  have HI := Lib.hid (And.intro hi (And.intro hz0 (And.intro hz1 hz2)))
  have hq := fun w => Lib.run_eql_slice_some_nil (P := Try.prog) w ⟨g, 0, none⟩ l cap Try.underlying50
  have hlt := lt_of_heap hg
  have HE := Lib.hid (show (w.alloc (.cells #[] 44)).ownsRow w.heap.size 44 64 (.slice (some ⟨w.heap.size, 0, none⟩) 0 0) 0 [] from ⟨rfl, Or.inr ⟨w.heap.size, 0, #[], rfl, Nat.le_refl _, heap_alloc_new' w _, Nat.le_refl _, by unfold maxLen; omega, rfl, rfl⟩⟩)
  have HN := Lib.hid (show ∀ j u, xs[j]? = some u → (w.alloc (.cells #[] 44)).cell? ((⟨g, 0, none⟩ : Addr).add j) = some u from fun j u hu => by
    have hj := (List.getElem?_eq_some_iff.1 hu).1
    rw [add_flat, cell_of_row _ g _ cur _ _ ((heap_alloc_old' w _ g hlt).trans hg), Nat.zero_add]
    rw [← ht, List.getElem?_take_of_lt (by omega)] at hu
    simpa using hu)
  have HB := Lib.hid ((Below.refl w.heap.size w).alloc (Nat.le_refl _) (.cells #[] 44))
  clear hi hz0 hz1 hz2 hg
  go_enter Try.func22, Try.ntmps22
  go_wp2_with (at_builtin; refine wpList_append_own_at _ rfl _ _ 50 rfl w.heap.size 44 i0 _ 64 64 Try.underlying50 HI.out.1 HI.out.2.1 HI.out.2.2.1 HI.out.2.2.2 (by simp [Value.cells]) (by omega) _ _ _ rfl HE.out ⟨g, 0, none⟩ l cap xs rfl hx HN.out h1 (by unfold maxLen; omega) (by omega) (by simp) ?_; intro v' w1 hown' hgrow hnil hloc)
  go_ret
  exact ⟨_, rfl, by simpa using hown', HB.out.grown hgrow HB.out.size (fun k e => by cases e; exact Nat.le_refl _)⟩

theorem maps_clone_nil (w : World) : Calls Try.prog 21 #[.map none] w fun e w' => e = .returned (.map none) ∧ w' = w := by
  have hq := fun w => run_eql_map_nil_sl (P := Try.prog) w 46 _ _ none Try.underlying46
  go_enter Try.func21, Try.ntmps21
  go_wp2
  go_ret
  exact ⟨rfl, rfl⟩
theorem maps_clone {w : World} {b : Nat} {es : Array MapEntry} {clock : Nat} (hb : w.heap[b]? = some (.map es clock)) :
    Calls Try.prog 21 #[.map (some b)] w fun e w' => e = .returned (.map (some w.heap.size)) ∧ w' = w.alloc (.map es clock) := by
  have hq := fun w => run_eql_map_nil_sl (P := Try.prog) w 46 _ _ (some b) Try.underlying46
  go_enter Try.func21, Try.ntmps21
  go_wp2
  rw [run_callFunc_extern Try.func24 (by kernel_rfl) (by kernel_rfl) (by kernel_rfl) (e := Extern.MapsClone.clone) (by kernel_rfl), run_maps_clone_sl w 46 hb]
  simp only [Result.andThen]
  rw [Oper.upon_value]
  go_wp2
  rw [run_typeAssert_map_sl _ 46 20 _ _ _ Try.underlying46]
  simp only [Result.andThen]
  rw [Oper.upon_value]
  go_wp2
  go_ret
  exact ⟨rfl, rfl⟩

theorem copy_nil (w : World) : Calls Try.prog 13 #[.pointer none] w fun e w' => e = .returned (.pointer none) ∧ w' = w := by
  go_enter Try.func13, Try.ntmps13
  go_wp2
  go_ret
  exact ⟨rfl, rfl⟩

/-- what has been copied of the cache -/
def copied {H : Type} (D : DataW H) (left : Lit → Bool) (c : Nat → List (List Nat)) (n : Nat) : List (List Nat) := if Maps.has D (key n) && !left (key n) then c n else []
/-- Blocks of cells stay. -/
def CellsStay (w w' : World) : Prop := ∀ (k : Nat) (cs : Array Value) (t : TypeId) (fr : Nat × Nat), w.heap[k]? = some (Obj.cells cs t fr) → w'.heap[k]? = some (Obj.cells cs t fr)
theorem CellsStay.trans {a b c : World} (h : CellsStay a b) (k : CellsStay b c) : CellsStay a c := fun i cs t fr e => k i cs t fr (h i cs t fr e)
theorem CellsStay.of_below {w w' : World} (h : Below w.heap.size w w') : CellsStay w w' := fun k _ _ _ e => (h.block k (lt_of_heap e)).trans e
theorem CellsStay.of_grown {w w' : World} {b : Nat} {o : Obj} (h : w.grownBy w' (some b)) (hb : w.heap[b]? = some o) (ho : ∀ cs t fr, o ≠ .cells cs t fr) : CellsStay w w' := fun k cs t fr e =>
  (h.block k (lt_of_heap e) (fun e2 => by
    cases e2
    rw [hb] at e
    exact ho _ _ _ (Option.some.inj e))).trans e
theorem owns_stay {w w' : World} {base e size n : Nat} {v : Value} {xs : List Value} (h : w.ownsRow base e size v n xs) (hk : CellsStay w w') : w'.ownsRow base e size v n xs := by
  obtain ⟨h1, h2⟩ := h
  refine ⟨h1, ?_⟩
  rcases h2 with h2 | ⟨g, cap, cur, rfl, hg, hh, r⟩
  · exact Or.inl h2
  · exact Or.inr ⟨g, cap, cur, rfl, hg, hk _ _ _ _ hh, r⟩

/-- A disk that is being copied: the copy is at block a', its map b' has rows of its own where they have been copied. -/
structure Copying (wr : World) (a' b' : Nat) (d : Dk) (D : DataW Value) (left : Lit → Bool) (D' : DataW Value) (V' : Nat → Value) : Prop where
  own : wr.ownsMap Try.prog 3 held b' 34 D'
  has : ∀ kl, Maps.has D' kl = Maps.has D kl
  row : wr.heap[a']? = some (.cells (rowD d.dur (some b') d.down).toArray 48 (0, 0))
  new : ∀ n, n < 34 → (copied D left d.cache n ≠ [] → D'.atKey (key n) (.held nilS) = .held (V' n)) ∧ (copied D left d.cache n = [] → V' n = nilS)
  slots : Slots wr (fun k => a' ≤ k ∧ k < wr.heap.size) (copied D left d.cache) V'
theorem Copying.keep {wr w' : World} {a' b' : Nat} {d : Dk} {D : DataW Value} {left : Lit → Bool} {D' : DataW Value} {V' : Nat → Value} (h : Copying wr a' b' d D left D' V') (hs : CellsStay wr w') (hm : w'.heap[b']? = wr.heap[b']?) (hz : wr.heap.size ≤ w'.heap.size) : Copying w' a' b' d D left D' V' := by
  refine ⟨?_, h.has, hs _ _ _ _ h.row, h.new, ⟨fun n hn => owns_stay (h.slots.own n hn) hs, fun n g hn e => ?_, h.slots.apart⟩⟩
  · obtain ⟨es, clock, hb, r⟩ := h.own
    exact ⟨es, clock, hm.trans hb, r⟩
  · have := h.slots.mine n g hn e
    omega
theorem copied_other {H : Type} {D : DataW H} {left : Lit → Bool} {c : Nat → List (List Nat)} {n i : Nat} (h : i ≠ n) : copied D (fun z => left z && !z.sameKey (key n)) c i = copied D left c i := by
  simp [copied, sameKey_key, h]
theorem copied_same {H : Type} {D : DataW H} {left : Lit → Bool} {c : Nat → List (List Nat)} {n : Nat} (h : Maps.has D (key n) = true) : copied D (fun z => left z && !z.sameKey (key n)) c n = c n := by
  simp [copied, sameKey_key, h]
theorem copied_left {H : Type} {D : DataW H} {left : Lit → Bool} {c : Nat → List (List Nat)} {n : Nat} (hl : left (key n) = true) : copied D left c n = [] := by
  simp [copied, hl]
theorem Copying.step {w1 w2 w3 : World} {a' b' : Nat} {d : Dk} {D : DataW Value} {left : Lit → Bool} {D' : DataW Value} {V' : Nat → Value} (h : Copying w1 a' b' d D left D' V') {n : Nat} (hn : n < 34) (hh : Maps.has D (key n) = true) (hl : left (key n) = true) (hne : d.cache n ≠ [])
    (hk : ∀ kl, Maps.has D kl = true → ∃ n, n < 34 ∧ kl = key n) {v : Value} (hb : Below w1.heap.size w1 w2) (hrow : w2.ownsRow w1.heap.size 44 64 v (d.cache n).length (vals (d.cache n).flatten))
    (hg : w2.grownBy w3 (some b')) {N : Nat} (hown : w3.ownsMap Try.prog 3 held b' N (D'.put (key n) (.held v))) : Copying w3 a' b' d D (fun z => left z && !z.sameKey (key n)) (D'.put (key n) (.held v)) (upd V' n v) := by
  have hmap := h.own.isMap
  have hik : WideAt.IsKeyLit (key n) := trivial
  have hlb : b' < w1.heap.size := h.own.lt
  have hla : a' < w1.heap.size := lt_of_heap h.row
  obtain ⟨es, clock, hmb⟩ := World.ownsMap.at_ h.own
  have hs2 : CellsStay w1 w2 := CellsStay.of_below hb
  have hs3 : CellsStay w2 w3 := CellsStay.of_grown hg ((hb.block b' hlb).trans hmb) (fun _ _ _ e => by cases e)
  have hhas : ∀ kl, Maps.has (D'.put (key n) (.held v)) kl = Maps.has D kl := fun kl => by
    by_cases e : kl = key n
    · rw [e, has_put_same hmap hik, hh]
    · rw [has_put_other e, h.has]
  have hge : ∀ g, v.ownBlock = some g → w1.heap.size ≤ g ∧ g < w2.heap.size := fun g e => by
    rcases hrow.2 with ⟨e2, _⟩ | ⟨g', cap, cur, e2, hg', hh', _⟩
    · rw [e2] at e; cases e
    · rw [e2] at e
      obtain rfl : g' = g := by simpa [Value.ownBlock] using e
      exact ⟨hg', lt_of_heap hh'⟩
  have hz3 := hg.size
  refine ⟨own34 hown (fun kl hkl => hk kl (by rw [← hhas kl]; exact hkl)), hhas, hs3 _ _ _ _ (hs2 _ _ _ _ h.row), fun m hm => ?_, ⟨fun m hm => ?_, fun m g hm e => ?_, fun m m' g hm hm' hne' e => ?_⟩⟩
  · by_cases e : m = n
    · subst e
      rw [copied_same hh, upd_same, atKey_put_same hmap hik]
      exact ⟨fun _ => rfl, fun e => absurd e hne⟩
    · rw [copied_other e, upd_other _ _ e, atKey_put_other (fun h => e (key_inj h))]
      exact h.new m hm
  · by_cases e : m = n
    · subst e
      rw [copied_same hh, upd_same]
      exact owns_stay (own_mono hrow (Nat.zero_le _)) hs3
    · rw [copied_other e, upd_other _ _ e]
      exact owns_stay (owns_stay (h.slots.own m hm) hs2) hs3
  · by_cases e2 : m = n
    · subst e2
      rw [upd_same] at e
      have := hge g e
      omega
    · rw [upd_other _ _ e2] at e
      have := h.slots.mine m g hm e
      have := hb.size
      omega
  · by_cases e1 : m = n
    · subst e1
      rw [upd_same] at e
      rw [upd_other _ _ (fun h => hne' h.symm)]
      intro h2
      have := h.slots.mine m' g hm' h2
      have := hge g e
      omega
    · rw [upd_other _ _ e1] at e
      by_cases e2 : m' = n
      · subst e2
        rw [upd_same]
        intro h2
        have := h.slots.mine m g hm e
        have := hge g h2
        omega
      · rw [upd_other _ _ e2]
        exact h.slots.apart m m' g hm hm' hne' e
theorem Copying.done {wr : World} {a' b' : Nat} {d : Dk} {D : DataW Value} {left : Lit → Bool} {D' : DataW Value} {V' : Nat → Value} (h : Copying wr a' b' d D left D' V') (hl : ∀ kl, left kl = false) (ha : a' < wr.heap.size) (hb : a' ≤ b')
    (hk : ∀ kl, Maps.has D kl = true → ∃ n, n < 34 ∧ kl = key n) (hD : ∀ n, n < 34 → Maps.has D (key n) = !(d.cache n).isEmpty) (hsec : ∀ n, n < 34 → Sec (d.dur n)) (hput : ∀ n, n < 34 → ∀ b ∈ d.cache n, Sec b) : Disk wr (fun k => a' ≤ k ∧ k < wr.heap.size) a' d := by
  have hc : ∀ n, n < 34 → copied D left d.cache n = d.cache n := fun n hn => by
    unfold copied
    rw [hl, hD n hn]
    cases d.cache n <;> rfl
  refine ⟨⟨Nat.le_refl _, ha⟩, fun k hk => hk.2, hsec, hput, some b', h.row, Or.inr ⟨b', V', rfl, ⟨hb, h.own.lt⟩, ⟨D', h.own, fun kl hkl => hk kl (by rw [← h.has]; exact hkl), fun n hn => ⟨by rw [h.has, hD n hn], ?_⟩⟩, ⟨fun n hn => by rw [← hc n hn]; exact h.slots.own n hn, h.slots.mine, h.slots.apart⟩⟩⟩
  have h1 := h.new n hn
  by_cases e : copied D left d.cache n = []
  · rw [h1.2 e]
    refine atKey_of_not_has ?_ _
    rw [h.has, hD n hn, ← hc n hn, e]; rfl
  · exact h1.1 e

set_option maxHeartbeats 1000000 in
theorem copy_any {w : World} {S : Nat → Prop} {a : Nat} {d : Dk} (h : Disk w S a d) (hk : ∀ n, n < 34 → (d.cache n).length ≤ 1000000000) : Calls Try.prog 13 #[.pointer (some ⟨a, 0, none⟩)] w fun e w' =>
    e = .returned (.pointer (some ⟨w.heap.size, 0, none⟩)) ∧ (∃ S', Disk w' S' w.heap.size d ∧ ∀ k, S' k → w.heap.size ≤ k) ∧ Below w.heap.size w w' := by
  obtain ⟨m, hb, hc, _, hfr, hm⟩ := h.cells
  obtain ⟨Z, hZ, hz⟩ : ∃ Z : Array Value, (Try.prog.info? 48).map (·.zero) = some (some (.agg Z)) ∧ Z = (rowD Dk.fresh.dur none false).toArray := ⟨_, disk_zero, rfl⟩
  have hzl : Z.size = 2178 := by rw [hz]; simpa using rowD_len fresh_secs none false
  have hrl := rowD_len h.secs m d.down
  obtain ⟨R, hR⟩ : ∃ R, R = (rowD d.dur m d.down).toArray := ⟨_, rfl⟩
  rw [← hR] at hb
  have hRs : R.size = 2178 := by rw [hR]; simpa using hrl
  have HI := Lib.hid (show (Try.prog.info? 48).map (·.size) = some R.size by rw [hRs]; exact disk_size)
  have HS := Lib.hid (show Z.size = R.size by rw [hzl, hRs])
  have H1 := Lib.hid (show R.all (·.oneCell') = true from Array.all_eq_true_iff_forall_mem.2 fun u hu => rowD_one d.dur m d.down u (by rw [hR] at hu; simpa using hu))
  have HZ := Lib.hid hZ
  have HD := Lib.hid h
  have HB := Lib.hid hb
  have hlt := h.lt
  obtain ⟨w1, hw1⟩ : ∃ w1, w1 = (w.alloc (.cells Z 48)).setRow w.heap.size R := ⟨_, rfl⟩
  have hg1 := heap_alloc_new' w (.cells Z 48)
  have HG1 := Lib.hid hg1
  have hb1 : Below w.heap.size w w1 := by rw [hw1]; exact below_setRow ((Below.refl _ w).alloc (Nat.le_refl _) _) (Nat.le_refl _) R
  have hrow1 : w1.heap[w.heap.size]? = some (.cells R 48 (0, 0)) := by rw [hw1]; exact setRow_heap _ _ Z R 48 _ hg1
  have hs1 : w1.heap.size = w.heap.size + 1 := by rw [hw1]; simp
  have HW1 := Lib.hid hw1
  have hc1 : w1.cell? ⟨a, 2176, none⟩ = some (.map m) := (hb1.cell hlt).trans hc
  have hcn1 : w1.cell? ⟨w.heap.size, 2176, none⟩ = some (.map m) := by
    rw [cell_of_row _ _ 2176 _ _ _ hrow1, hR]
    simpa using rowD_map h.secs m d.down
  have hfn1 : w1.frozen? ⟨w.heap.size, 2176, none⟩ = false := frozen_of_row w1 _ 2176 _ _ hrow1
  have hsec := h.secs
  clear h hZ hz hb hg1 hw1 hrl
  rcases hm with ⟨rfl, h0⟩ | ⟨b, V, rfl, hS, hM, hV⟩
  · -- no map
    have HD1 := Lib.hid (show Disk (w1.setCell ⟨w.heap.size, 2176, none⟩ (.map none)) (fun k => k = w.heap.size) w.heap.size d ∧ Below w.heap.size w (w1.setCell ⟨w.heap.size, 2176, none⟩ (.map none)) from by
      refine ⟨⟨rfl, fun k hk => by rw [hk]; simp [World.setCell, hs1], hsec, HD.out.puts, none, ?_, Or.inl ⟨rfl, h0⟩⟩, hb1.setCell (Nat.le_refl _) _⟩
      rw [heap_setCell_same w1 w.heap.size 2176 _ _ _ hrow1, hR, rowD_setMap hsec])
    have HC := Lib.hid (maps_clone_nil w1)
    have hrn := fun w => run_range_nilMap (P := Try.prog) w 46 _ _ Try.underlying46
    have hnn := fun (w : World) ty a b s => run_next_nilMap (P := Try.prog) w ty a b s
    obtain ⟨w2, hw2⟩ : ∃ w2, w2 = w1.setCell ⟨w.heap.size, 2176, none⟩ (.map none) := ⟨_, rfl⟩
    have hc2 : w2.cell? ⟨a, 2176, none⟩ = some (.map none) := by
      rw [hw2, cell_set_other _ _ _ _ _ _ (by omega)]; exact hc1
    rw [← hw2] at HD1
    have hW2 := hw2.symm
    have HB2 := Lib.hid ((HD1.out.2).alloc (HD1.out.2).size (.mapIter none 0 #[] 0))
    have HD2 := Lib.hid (HD1.out.1.below ((Below.refl w2.heap.size w2).alloc (Nat.le_refl _) (.mapIter none 0 #[] 0)) (Nat.le_refl _))
    clear hw2 hR hRs hzl hrow1 h0 hb1 hs1 hsec hfr hk
    go_enter Try.func13, Try.ntmps13
    go_wp2_with (first
      | (refine wpList_load_row rfl 48 _ rfl a rfl 48 R (0, 0) _ HB.out Try.underlying48 rfl HI.out ?_)
      | (refine wpList_alloc_any rfl 48 rfl Z HZ.out ?_)
      | (refine wpList_store_row rfl 48 _ _ rfl w.heap.size R rfl rfl 48 Z HG1.out HI.out HS.out H1.out ?_; rw [← HW1.out])
      | fail)
    refine HC.out.mono ?_
    rintro e w' ⟨rfl, rfl⟩
    go_wp2
    refine wp_loop_rounds 1 ?_
    rw [rounds_succ]
    go_wp2
    go_ret
    exact ⟨rfl, ⟨_, HD2.out, fun k hk => Nat.le_of_eq hk.symm⟩, HB2.out⟩
  · obtain ⟨es, clock, hmb⟩ := hM.at_
    have hMb := hM
    obtain ⟨D, hown, hk1, hD⟩ := hM
    have hlb := HD.out.old b hS
    have hmb1 : w1.heap[b]? = some (.map es clock) := (hb1.block b hlb).trans hmb
    have HC := Lib.hid (maps_clone hmb1)
    obtain ⟨w3, hw3⟩ : ∃ w3, w3 = (w1.alloc (.map es clock)).setCell ⟨w.heap.size, 2176, none⟩ (.map (some w1.heap.size)) := ⟨_, rfl⟩
    have hrow2 : (w1.alloc (.map es clock)).heap[w.heap.size]? = some (.cells R 48 (0, 0)) := (heap_alloc_old' w1 _ _ (by omega)).trans hrow1
    have hrow3 : w3.heap[w.heap.size]? = some (.cells (rowD d.dur (some w1.heap.size) d.down).toArray 48 (0, 0)) := by
      rw [hw3, heap_setCell_same _ w.heap.size 2176 _ _ _ hrow2, hR, rowD_setMap hsec]
    have hb3 : Below w.heap.size w w3 := by
      rw [hw3]; exact (hb1.alloc hb1.size _).setCell (Nat.le_refl _) _
    have hc3 : w3.cell? ⟨a, 2176, none⟩ = some (.map (some b)) := (hb3.cell hlt).trans hc
    have hcn3 : w3.cell? ⟨w.heap.size, 2176, none⟩ = some (.map (some w1.heap.size)) := by
      rw [cell_of_row _ _ 2176 _ _ _ hrow3]
      simpa using rowD_map hsec (some w1.heap.size) d.down
    have hown3 : w3.ownsMap Try.prog 3 held b 34 D := by
      obtain ⟨es', clock', hb', r⟩ := hown
      exact ⟨es', clock', (hb3.block b hlb).trans hb', r⟩
    have hmb3 : w3.heap[w1.heap.size]? = some (.map es clock) := by
      rw [hw3, heap_setCell_other _ _ _ _ (by simp; omega)]
      exact heap_alloc_new' w1 _
    have hcp3 : Copying w3 w.heap.size w1.heap.size d D (Maps.has D) D (fun _ => nilS) := by
      have hcop : ∀ n, copied D (Maps.has D) d.cache n = [] := fun n => by unfold copied; cases Maps.has D (key n) <;> rfl
      refine ⟨?_, fun _ => rfl, hrow3, fun n hn => ⟨fun e => absurd (hcop n) e, fun _ => rfl⟩, ⟨fun n hn => by rw [hcop n]; exact ⟨rfl, Or.inl ⟨rfl, rfl⟩⟩, fun _ _ _ e => (by cases e), fun _ _ _ _ _ _ e => (by cases e)⟩⟩
      obtain ⟨es', clock', hb', r⟩ := hown
      rw [hmb] at hb'
      cases hb'
      exact ⟨es, clock, hmb3, r⟩
    have hfn2 : (w1.alloc (.map es clock)).frozen? ⟨w.heap.size, 2176, none⟩ = false := frozen_of_row _ _ 2176 _ _ hrow2
    have hcn2 : (w1.alloc (.map es clock)).cell? ⟨w.heap.size, 2176, none⟩ = some (.map (some b)) := by
      rw [World.cell?_of_block (w := w1) (heap_alloc_old' w1 _ _ (by show w.heap.size < _; omega))]
      exact hcn1
    have hW3 : ∀ w2, w2 = w1.alloc (.map es clock) → w2.setCell ⟨w.heap.size, 2176, none⟩ (.map (some w1.heap.size)) = w3 := fun w2 e => by rw [hw3, e]
    have HLb := Lib.hid (show w.heap.size ≤ w1.heap.size ∧ b < w.heap.size ∧ w1.heap.size < w3.heap.size from ⟨by omega, hlb, lt_of_heap hmb3⟩)
    have H12 := Lib.hid (And.intro hk1 hD)
    have HX := Lib.hid (And.intro hcn2 hfn2)
    have HR3 := Lib.hid hown3
    have HCP := Lib.hid hcp3
    have HB3 := Lib.hid hb3
    have HCN := Lib.hid hcn3
    replace hsec := Lib.hid hsec
    have HV := Lib.hid hV
    have HK := Lib.hid hk
    have HPut := Lib.hid HD.out.puts
    clear hw3 hR hRs hzl hrow1 hrow2 hrow3 hb1 hs1 hfr hk hmb hmb1 hmb3 hown hk1 hD hlb hown3 hcp3 hb3 hcn3 hV hcn2 hfn2
    go_enter Try.func13, Try.ntmps13
    go_wp2_with (first
      | (refine wpList_load_row rfl 48 _ rfl a rfl 48 R (0, 0) _ HB.out Try.underlying48 rfl HI.out ?_)
      | (refine wpList_alloc_any rfl 48 rfl Z HZ.out ?_)
      | (refine wpList_store_row rfl 48 _ _ rfl w.heap.size R rfl rfl 48 Z HG1.out HI.out HS.out H1.out ?_; rw [← HW1.out])
      | fail)
    refine HC.out.mono ?_
    rintro e w2 ⟨rfl, hw2⟩
    have hcn2 : w2.cell? ⟨w.heap.size, 2176, none⟩ = some (.map (some b)) := by rw [hw2]; exact HX.out.1
    have hfn2 : w2.frozen? ⟨w.heap.size, 2176, none⟩ = false := by rw [hw2]; exact HX.out.2
    have hst := hW3 w2 hw2
    clear hw2 hW3
    obtain ⟨w', hw'⟩ : ∃ w', w' = w := ⟨_, rfl⟩
    subst hw'
    go_wp2_with (at_range; refine wpList_range_own _ rfl _ 46 rfl 3 50 (Maps.int_keyed Try.underlying3) Try.underlying46 held b 34 D rfl HR3.out ?_; intro w0 hrg0 hg0 hs0)
    go_frame
    go_loopw [4] (fun _ wr => ∃ left cnt D' V', wr.ranges Try.prog 3 held b w3.heap.size 34 D left cnt ∧ (∀ kl, left kl = true → Maps.has D kl = true) ∧ Copying wr w'.heap.size w1.heap.size d D left D' V' ∧
      wr.cell? ⟨w'.heap.size, 2176, none⟩ = some (.map (some w1.heap.size)) ∧ Below w'.heap.size w' wr) (fun _ wr => wr.rangeLeft b w3.heap.size)
    case atStart =>
      refine ⟨_, _, D, _, hrg0, fun _ h => h, HCP.out.keep (fun k cs t fr e => (hg0.block k (lt_of_heap e) (by simp)).trans e) (hg0.block _ HLb.out.2.2 (by simp)) hg0.size, ?_, HB3.out.grown hg0 HB3.out.size (fun k e => by cases e)⟩
      exact (World.cell?_of_block (w := w3) (hg0.block _ (lt_of_heap HCP.out.row) (by simp))).trans HCN.out
    case round =>
      obtain ⟨left, cnt, D', V', hrg, hsub, hcp, hcn, hbl⟩ := hrel
      have HT := Lib.hid hrg
      have HSub := Lib.hid hsub
      have HCp := Lib.hid hcp
      have HBl := Lib.hid hbl
      have HCn := Lib.hid hcn
      clear hsub hcp hbl hcn
      go_wp2_with (at_next; refine wpList_next_ranges _ rfl _ rfl 3 (Maps.int_keyed Try.underlying3) held (Value.int .i64) (fun v => v) (fun k kl hk => by obtain ⟨x, rfl, _⟩ := Maps.keyOf_int_inv Try.underlying3 hk; exact ⟨x, rfl⟩) (fun v y _ => ⟨v, rfl⟩) b w3.heap.size 34 _ _ _ rfl hrg ?_ ?_)
      · intro _ hl0
        have HG := Lib.hid (HCp.out.done hl0 (lt_of_heap HCp.out.row) HLb.out.1 H12.out.1 (fun n hn => (H12.out.2 n hn).1) hsec.out HPut.out)
        clear hrg hrg0 hg0 hs0
        go_wp2
        go_ret
        exact ⟨rfl, ⟨_, HG.out, fun k hk => hk.1⟩, HBl.out⟩
      · intro x v kl yd yp w4 cnt4 hkey hlk hv hat hrg4 hlt4 hg4 hs4 hen
        obtain ⟨n, hn, rfl, rfl, rfl, hne⟩ := Mapped.entry H12.out.1 H12.out.2 hkey (HSub.out kl hlk) hv hat
        have hitr : ∃ o, wr.heap[w3.heap.size]? = some o ∧ ∀ cs t fr, o ≠ Obj.cells cs t fr := by
          obtain ⟨_, _, _, _, _, _, _, _, _, e, _⟩ := hrg
          exact ⟨_, e, fun _ _ _ e2 => by cases e2⟩
        obtain ⟨oi, hoi, hoc⟩ := hitr
        have hcs4 : CellsStay wr w4 := CellsStay.of_grown hg4 hoi hoc
        have hcp4 : Copying w4 w'.heap.size w1.heap.size d D left D' V' := HCp.out.keep hcs4 (hg4.block _ HCp.out.own.lt (fun e => by have := Option.some.inj e; have := HLb.out.2.2; omega)) hg4.size
        have hbl4 := HBl.out.grown hg4 HBl.out.size (fun k e => by cases e; have := HLb.out; omega)
        have hVn : ∃ g cap cur, V n = .slice (some ⟨g, 0, none⟩) (d.cache n).length cap ∧ w4.heap[g]? = some (.cells cur 44 (0, 0)) ∧ cur.toList.take ((d.cache n).length * 64) = vals (d.cache n).flatten := by
          rcases (HV.out.own n hn).2 with ⟨_, e0⟩ | ⟨g, cap, cur, e, _, hh, _, _, _, ht⟩
          · exact absurd (List.eq_nil_of_length_eq_zero e0) hne
          · exact ⟨g, cap, cur, e, (hbl4.block g (HD.out.old g (HV.out.mine n g hn (by rw [e]; rfl)))).trans hh, ht⟩
        obtain ⟨g, cap, cur, hVe, hgh, htk⟩ := hVn
        rw [hVe] at hen ⊢
        have HCl := Lib.hid (show ∀ W, Below w4.heap.size w4 W → Calls Try.prog 22 #[.slice (some ⟨g, 0, none⟩) (d.cache n).length cap] W fun e w' => ∃ v, e = .returned v ∧ w'.ownsRow W.heap.size 44 64 v (d.cache n).length (vals (d.cache n).flatten) ∧ Below W.heap.size W w' from fun W hW =>
          slices_clone ((hW.block g (lt_of_heap hgh)).trans hgh) htk (by rw [← (HV.out.own n hn).1]) vals_one (HK.out n hn) (List.length_pos_iff.2 hne))
        have HC4 := Lib.hid hcp4
        have HS4 := Lib.hid ((World.cell?_of_block (w := wr) (hg4.block _ (lt_of_heap HCp.out.row) (fun e => by have h5 : w'.heap.size = w3.heap.size := Option.some.inj e; have := HLb.out; omega))).trans HCn.out)
        have HRg := Lib.hid hrg4
        have HLT := Lib.hid hlt4
        have HLr := Lib.hid (show w1.heap.size < w3.heap.size from HLb.out.2.2)
        replace HBl := Lib.hid hbl4
        clear hrg hrg0 hg0 hs0 hkey hv hat hrg4 hlt4 hg4 hcp4 hcs4 hoi hoc hbl4 hgh htk hVe
        go_wp2_with fail
        refine wp_region_held_drew (S := fun W => W.cell? ⟨w'.heap.size, 2176, none⟩ = some (.map (some w1.heap.size))) (by kernel_rfl) HS4.out (fun hHeld => ?_)
        refine wpAnyH_take (i := 0) (v := ?_) rfl (by kernel_rfl) (by kernel_rfl) (by kernel_rfl) (fun _ _ _ h => h) (Or.inl ⟨by rfl, ?_⟩) (by assumption) ?_
        rotate_left
        · simp only [List.getElem_toArray, List.getElem_cons_zero, List.getElem_cons_succ]; intro W hSw; (try dsimp only at hSw); go_simp; all_goals with_reducible rfl
        simp only [Act.put, List.getElem_toArray, List.getElem_cons_zero, List.getElem_cons_succ, List.setIfInBounds_toArray, List.set_cons_zero, List.set_cons_succ]
        refine wpAnyH_take (i := 1) (v := ?_) rfl (by kernel_rfl) (by kernel_rfl) (by kernel_rfl) (fun _ _ _ h => h) (Or.inl ⟨by rfl, ?_⟩) (by assumption) ?_
        rotate_left
        · simp only [List.getElem_toArray, List.getElem_cons_zero, List.getElem_cons_succ]; intro W hSw; (try dsimp only at hSw); go_simp; all_goals with_reducible rfl
        simp only [Act.put, List.getElem_toArray, List.getElem_cons_zero, List.getElem_cons_succ, List.setIfInBounds_toArray, List.set_cons_zero, List.set_cons_succ]
        refine wpAnyH_take (i := 2) (v := ?_) rfl (by kernel_rfl) (by kernel_rfl) (by kernel_rfl) (fun _ _ _ h => h) (Or.inl ⟨by rfl, ?_⟩) (by assumption) ?_
        rotate_left
        · simp only [List.getElem_toArray, List.getElem_cons_zero, List.getElem_cons_succ]; intro W hSw; (try dsimp only at hSw); go_simp; all_goals with_reducible rfl
        simp only [Act.put, List.getElem_toArray, List.getElem_cons_zero, List.getElem_cons_succ, List.setIfInBounds_toArray, List.set_cons_zero, List.set_cons_succ]
        refine wpAnyH_take (i := 3) (v := ?_) rfl (by kernel_rfl) (by kernel_rfl) (by kernel_rfl) (fun _ _ _ h => h) (Or.inl ⟨by rfl, ?_⟩) (by assumption) ?_
        rotate_left
        · simp only [List.getElem_toArray, List.getElem_cons_zero, List.getElem_cons_succ]; intro W hSw; (try dsimp only at hSw); go_simp; all_goals with_reducible rfl
        simp only [Act.put, List.getElem_toArray, List.getElem_cons_zero, List.getElem_cons_succ, List.setIfInBounds_toArray, List.set_cons_zero, List.set_cons_succ]
        refine wpAnyH_ready (rs := [4]) (by kernel_rfl) (by simp) ?_
        refine AllReadyH.cons rfl (fun K hK => ?_) AllReadyH.nil
        simp only [List.getElem_toArray, List.getElem_cons_zero, List.getElem_cons_succ]
        go_simp
        refine (HCl.out _ (Below.refl _ _).drew).mono ?_
        rintro e w5 ⟨v5, rfl, hrow5, hb5⟩
        go_wp2_with fail
        have hb15 : Below w4.heap.size w4 w5 := (Below.refl _ w4).drew.trans hb5
        have hS5 : w5.cell? ⟨w'.heap.size, 2176, none⟩ = some (.map (some w1.heap.size)) := (hb15.cell (by have := lt_of_heap HC4.out.row; exact this)).trans HS4.out
        obtain ⟨w6, hrun6, hown6, hgr6⟩ := (HC4.out.own.kept (below_grown hb15) (by simp)).update (Maps.int_keyed Try.underlying3) Try.underlying46 (by unfold maxLen; omega) (keyOf_int_mk Try.underlying3 (WalkArith.wf_i64 (n := (n : Int)) (by omega))) (val := v5) (d := .held v5) (ps := []) rfl
        have hcp6 := HC4.out.step hn (HSub.out _ hlk) hlk hne H12.out.1 hb15 hrow5 hgr6 hown6
        refine hK.out _ _ hS5 (fun hHeld5 => ?_)
        clear hK K
        (try simp only [Act.put, List.getElem_toArray, List.getElem_cons_zero, List.getElem_cons_succ, List.setIfInBounds_toArray, List.set_cons_zero, List.set_cons_succ])
        refine wpAnyH_ready (rs := [5]) (by kernel_rfl) (by simp) ?_
        refine AllReadyH.cons rfl (fun K hK => ?_) AllReadyH.nil
        simp only [List.getElem_toArray, List.getElem_cons_zero, List.getElem_cons_succ]
        rw [if_pos]
        rotate_left
        · simp [Region.wanted]
        refine wp_mapUpdate 46 (.tmp 28) (.tmp 29) (.tmp 31) rfl _ _ _ rfl rfl rfl hrun6 ?_
        have hS6 : w6.cell? ⟨w'.heap.size, 2176, none⟩ = some (.map (some w1.heap.size)) := by
          rw [cell_of_row _ _ 2176 _ _ _ hcp6.row]
          simpa using rowD_map hsec.out (some w1.heap.size) d.down
        refine hK.out _ _ hS6 (fun hHeld6 => ?_)
        clear hK K
        (try simp only [Act.put, List.getElem_toArray, List.getElem_cons_zero, List.getElem_cons_succ, List.setIfInBounds_toArray, List.set_cons_zero, List.set_cons_succ])
        refine wpAnyH_done (by kernel_rfl) ?_ _
        have hrg6 := (HRg.out.kept (below_grown hb15) (by simp) (by simp)).kept hgr6 (fun e => by have := Option.some.inj e; have := HLb.out; omega) (fun e => by have := Option.some.inj e; have := HLr.out; omega)
        have HREL := Lib.hid (And.intro hrg6 (And.intro hcp6 (And.intro hS6 ((HBl.out.trans (hb15.mono HBl.out.size)).grown hgr6 (Nat.le_trans HBl.out.size hb15.size) (fun k e => by cases e; have := HLb.out; omega)))))
        have HM := Lib.hid (show w6.rangeLeft b w3.heap.size < wr.rangeLeft b w3.heap.size by rw [hrg6.left_eq, HT.out.left_eq]; exact HLT.out)
        clear hrg6 hcp6 hS6 hS5 hrun6 hown6 hgr6 hb15 hb5 hrow5 hHeld hHeld5 hHeld6
        (try simp only [Act.put, List.getElem_toArray, List.getElem_cons_zero, List.getElem_cons_succ, List.setIfInBounds_toArray, List.set_cons_zero, List.set_cons_succ])
        go_wp2
        go_roundw
        case rel => exact ⟨_, _, _, _, HREL.out.1, fun kl hk => HSub.out kl (by simp at hk; exact hk.1), HREL.out.2.1, HREL.out.2.2.1, HREL.out.2.2.2⟩
        case measure => exact HM.out
end Go.Proofs.Ytfeaaclbjnaamaa
