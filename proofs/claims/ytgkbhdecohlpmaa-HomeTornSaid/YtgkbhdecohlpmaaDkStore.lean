/-
  One more write in the cache: the row of its sector has grown, the map has it.
-/
import Derived.Test.YtgkbhdecohlpmaaDkFlush
import Derived.Deep.AppendLies
namespace Go.Proofs.Ytgkbhdecohlpmaa.Dk
set_option maxRecDepth 100000
open Go.RowKit Go.Maps Go.MapKept Go.ChangeMaps

theorem nodup_below : ∀ (N : Nat) (l : List Nat), l.Nodup → (∀ x ∈ l, x < N) → l.length ≤ N
  | 0, l, _, h => by
    cases l with
    | nil => exact Nat.le_refl _
    | cons x r => exact absurd (h x List.mem_cons_self) (by omega)
  | N + 1, l, hn, h => by
    have h1 := nodup_below N (l.filter (fun x => decide (x ≠ N))) (hn.filter _) (fun x hx => by
      have h2 := List.mem_filter.1 hx
      have h3 := h x h2.1
      have h4 : x ≠ N := by simpa using h2.2
      omega)
    have h5 : l.length ≤ (l.filter (fun x => decide (x ≠ N))).length + 1 := by
      clear h h1
      induction l with
      | nil => simp
      | cons a r ih =>
        have hr := (List.nodup_cons.1 hn)
        by_cases e : a = N
        · subst e
          have : r.filter (fun x => decide (x ≠ a)) = r := List.filter_eq_self.2 fun x hx => by
            have : x ≠ a := fun e => hr.1 (e ▸ hx)
            simpa using this
          rw [List.filter_cons_of_neg (by simp), this]
          exact Nat.le_refl _
        · have := ih hr.2
          simp only [List.filter_cons]
          rw [if_pos (by simpa using e)]
          simp only [List.length_cons]
          omega
    omega
def at_ : Lit → Nat
  | .int _ z => z.toNat
  | _ => 0
theorem sameKey_self {k : Lit} (h : WideAt.IsKeyLit k) : k.sameKey k = true := by
  cases k <;> simp_all [Lit.sameKey, WideAt.IsKeyLit]
/-- A map whose keys are sectors has no more than 34 entries. -/
theorem own34 {w : World} {b N : Nat} {D : DataW Value} (h : w.ownsMap Try.prog 3 held b N D) (hk : ∀ kl, Maps.has D kl = true → ∃ n, n < 34 ∧ kl = key n) : w.ownsMap Try.prog 3 held b 34 D := by
  obtain ⟨es', e, hp, hl⟩ := h.entries (Maps.int_keyed Try.underlying3)
  have hkeys : ∀ p ∈ es', ∃ n, n < 34 ∧ p.1 = key n := fun p hp' => by
    refine hk p.1 ?_
    rw [e, Maps.has_eq, List.any_eq_true]
    exact ⟨p, hp', sameKey_self (hl p hp')⟩
  have hlen : es'.length ≤ 34 := by
    have h1 := nodup_below 34 (es'.map fun p => at_ p.1) ?_ ?_
    · simpa using h1
    · rw [List.nodup_iff_pairwise_ne, List.pairwise_map]
      refine hp.imp_of_mem ?_
      intro p q hp' hq' hne
      obtain ⟨n, hn, e1⟩ := hkeys p hp'
      obtain ⟨m, hm, e2⟩ := hkeys q hq'
      rw [e1, e2] at hne ⊢
      intro he
      simp only [at_, key, Int.toNat_natCast] at he
      exact hne (by rw [he])
    · intro x hx
      obtain ⟨p, hp', rfl⟩ := List.mem_map.1 hx
      obtain ⟨n, hn, e1⟩ := hkeys p hp'
      rw [e1]
      simpa [at_, key] using hn
  obtain ⟨es, clock, hb, F, _, hD⟩ := h
  refine ⟨es, clock, hb, F, ?_, hD⟩
  rw [hD] at e
  cases e
  rw [length_read] at hlen
  exact hlen
theorem Disk.appended {w w4 w5 w6 : World} {S : Nat → Prop} {a b g cap : Nat} {d : Dk} {n : Nat} {p : List Nat} {D : DataW Value} {V : Nat → Value} (h : Disk w S a d) (hn : n < 34) (hp : Sec p)
    (hb : w.heap[a]? = some (.cells (rowD d.dur (some b) d.down).toArray 59 (0, 0))) (hS : S b) (hown : w.ownsMap Try.prog 3 held b 34 D) (hk : ∀ kl, Maps.has D kl = true → ∃ n, n < 34 ∧ kl = key n)
    (hD : ∀ n, n < 34 → Maps.has D (key n) = !(d.cache n).isEmpty ∧ D.atKey (key n) (.held nilS) = .held (V n)) (hV : Slots w S d.cache V)
    (h4 : Below w.heap.size w w4) (h5 : w4.grownBy w5 (V n).ownBlock) (hrow : w5.ownsRow 0 55 64 (.slice (some ⟨g, 0, none⟩) ((d.cache n).length + 1) cap) ((d.cache n).length + 1) (vals (d.cache n).flatten ++ vals p))
    (hg : (V n).ownBlock = some g ∨ w.heap.size ≤ g) (hlt : g < w5.heap.size) (h6 : w5.grownBy w6 (some b)) {N : Nat} (hown6 : w6.ownsMap Try.prog 3 held b N (D.put (key n) (.held (.slice (some ⟨g, 0, none⟩) ((d.cache n).length + 1) cap)))) :
    Goes w w6 S a { d with cache := upd d.cache n (d.cache n ++ [p]) } := by
  have hM : Mapped w b d.cache V := ⟨D, hown, hk, hD⟩
  have hba := hM.ne_cells hb
  have hSg : ∀ k, (V n).ownBlock = some k → S k := fun k e => hV.mine n k hn e
  have hsz : w.heap.size ≤ w6.heap.size := Nat.le_trans h4.size (Nat.le_trans h5.size h6.size)
  -- what lies in blocks of w that are neither the row nor the map stays
  have stays : ∀ k, k < w.heap.size → some k ≠ (V n).ownBlock → k ≠ b → w6.heap[k]? = w.heap[k]? := fun k h1 h2 h3 => by
    have s4 := h4.size
    have s5 := h5.size
    exact ((h6.block k (by omega) (fun e => h3 (by cases e; rfl))).trans (h5.block k (by omega) h2)).trans (h4.block k h1)
  have hgb : g ≠ b := by
    rintro rfl
    rcases hg with h1 | h1
    · exact hV.ne_map hM hn h1 rfl
    · have := h.old _ hS; omega
  have hrow6 : w6.ownsRow 0 55 64 (.slice (some ⟨g, 0, none⟩) ((d.cache n).length + 1) cap) ((d.cache n).length + 1) (vals (d.cache n).flatten ++ vals p) :=
    owns_keep hrow fun k e => by
      obtain rfl : g = k := by simpa [Value.ownBlock] using e
      exact h6.block g hlt (fun e => hgb (by cases e; rfl))
  have hmap := hown.isMap
  have hik : WideAt.IsKeyLit (key n) := trivial
  have hk' : ∀ kl, Maps.has (D.put (key n) (.held (.slice (some ⟨g, 0, none⟩) ((d.cache n).length + 1) cap))) kl = true → ∃ n, n < 34 ∧ kl = key n := fun kl hkl => by
    by_cases e : kl = key n
    · exact ⟨n, hn, e⟩
    · rw [has_put_other e] at hkl
      exact hk kl hkl
  refine ⟨fun k => S k ∨ (w.heap.size ≤ k ∧ k < w6.heap.size), ⟨Or.inl h.mine, fun k hk2 => ?_, h.secs, fun m hm x hx => ?_, some b, ?_, Or.inr ⟨b, upd V n (.slice (some ⟨g, 0, none⟩) ((d.cache n).length + 1) cap), rfl, Or.inl hS, ⟨_, own34 hown6 hk', hk', fun m hm => ?_⟩, ⟨fun m hm => ?_, fun m k hm e => ?_, fun m m' k hm hm' hne e => ?_⟩⟩⟩,
    ⟨(h6.os.trans h5.os).trans h4.os, (h6.tape.trans h5.tape).trans h4.tape, (h6.output.trans h5.output).trans h4.output, hsz, fun k h1 h2 => stays k h1 (fun e => h2 (hSg k e.symm)) (fun e => h2 (e ▸ hS))⟩, fun k hk2 => hk2.imp id (·.1)⟩
  · rcases hk2 with h1 | h1
    · have := h.old k h1; omega
    · exact h1.2
  · by_cases e : m = n
    · subst e
      rw [show ({ d with cache := upd d.cache m (d.cache m ++ [p]) } : Dk).cache m = d.cache m ++ [p] from upd_same _ _ _] at hx
      rcases List.mem_append.1 hx with h1 | h1
      · exact h.puts m hm x h1
      · rw [List.mem_singleton.1 h1]; exact hp
    · rw [show ({ d with cache := upd d.cache n (d.cache n ++ [p]) } : Dk).cache m = d.cache m from upd_other _ _ e] at hx
      exact h.puts m hm x hx
  · rw [stays a h.lt (fun e => hV.ne_disk hb hn e.symm rfl) (fun e => hba e.symm)]
    exact hb
  · show Maps.has _ (key m) = !(upd d.cache n (d.cache n ++ [p]) m).isEmpty ∧ _ = DataW.held (upd V n _ m)
    by_cases e : m = n
    · subst e
      rw [upd_same, upd_same, has_put_same hmap hik, atKey_put_same hmap hik]
      exact ⟨by cases d.cache m <;> rfl, rfl⟩
    · rw [upd_other _ _ e, upd_other _ _ e, has_put_other (fun h => e (key_inj h)), atKey_put_other (fun h => e (key_inj h))]
      exact hD m hm
  · show w6.ownsRow 0 _ 64 (upd V n _ m) (upd d.cache n (d.cache n ++ [p]) m).length (vals (upd d.cache n (d.cache n ++ [p]) m).flatten)
    by_cases e : m = n
    · subst e
      rw [upd_same, upd_same, List.length_append, List.flatten_append, vals_append]
      simpa using hrow6
    · rw [upd_other _ _ e, upd_other _ _ e]
      exact owns_keep (hV.own m hm) fun k hk2 => stays k (h.old k (hV.mine m k hm hk2)) (fun h2 => hV.apart n m k hn hm (fun h3 => e h3.symm) h2.symm hk2) (hV.ne_map hM hm hk2)
  · by_cases e2 : m = n
    · subst e2
      rw [upd_same] at e
      obtain rfl : g = k := by simpa [Value.ownBlock] using e
      rcases hg with h1 | h1
      · exact Or.inl (hSg g h1)
      · exact Or.inr ⟨h1, Nat.lt_of_lt_of_le hlt h6.size⟩
    · rw [upd_other _ _ e2] at e
      exact Or.inl (hV.mine m k hm e)
  · by_cases e1 : m = n
    · subst e1
      rw [upd_same] at e
      rw [upd_other _ _ (fun h => hne h.symm)]
      obtain rfl : g = k := by simpa [Value.ownBlock] using e
      rcases hg with h1 | h1
      · exact hV.apart m m' g hn hm' hne h1
      · intro h2
        have := h.old g (hV.mine m' g hm' h2)
        omega
    · rw [upd_other _ _ e1] at e
      by_cases e2 : m' = n
      · subst e2
        rw [upd_same]
        intro h2
        obtain rfl : g = k := by simpa [Value.ownBlock] using h2
        rcases hg with h1 | h1
        · exact hV.apart m m' g hm hn hne e h1
        · have := h.old g (hV.mine m g hm e)
          omega
      · rw [upd_other _ _ e2]
        exact hV.apart m m' k hm hm' hne e
end Go.Proofs.Ytgkbhdecohlpmaa.Dk
