/-
  The developers' answers: a write put into an overlay.
-/
import Derived.Test.YtipgphdndleodaaODsrtd
import Derived.ArgAppend
import Derived.OwnWalk
namespace Go.Proofs.Ytipgphdndleodaa
set_option maxRecDepth 100000
open Go.RowKit
set_option maxRecDepth 100000

theorem take_fine8 {l : List Wt} (h : WrFine l) (k : Nat) : WrFine (l.take k) := fun x hx => h x (List.mem_of_mem_take hx)
theorem drop_fine8 {l : List Wt} (h : WrFine l) (k : Nat) : WrFine (l.drop k) := fun x hx => h x (List.mem_of_mem_drop hx)
theorem flat_cells {w : World} {b : Nat} : ∀ {l : List Wt} {off : Nat}, WrFine l → (∀ i (h : i < l.length) j u, (wrv l[i])[j]? = some u → w.cell? ⟨b, off + i * 9 + j, none⟩ = some u) → ∀ t u, (l.flatMap wrv)[t]? = some u → w.cell? ⟨b, off + t, none⟩ = some u := by
  intro l
  induction l with
  | nil => intro off _ _ t u hu; simp at hu
  | cons x l ih =>
    intro off hf hc t u hu
    have hx : (wrv x).length = 9 := wrv_length (hf x List.mem_cons_self).2.1
    rw [List.flatMap_cons] at hu
    rcases Nat.lt_or_ge t 9 with h | h
    · rw [List.getElem?_append_left (by omega)] at hu
      have := hc 0 (by simp) t u hu
      simpa using this
    · rw [List.getElem?_append_right (by omega), hx] at hu
      have := ih (off := off + 9) (fun z hz => hf z (List.mem_cons_of_mem _ hz)) (fun i hi j u hu => by
        have := hc (i + 1) (by rw [List.length_cons]; omega) j u hu
        rw [← this]
        congr 2; omega) (t - 9) u hu
      rw [← this]
      congr 2; omega
theorem flat_get : ∀ {l : List Wt}, WrFine l → ∀ i (h : i < l.length) j u, (wrv l[i])[j]? = some u → (l.flatMap wrv)[i * 9 + j]? = some u := by
  intro l
  induction l with
  | nil => intro _ i h; exact absurd h (by simp)
  | cons x l ih =>
    intro hf i h j u hu
    have hx : (wrv x).length = 9 := wrv_length (hf x List.mem_cons_self).2.1
    rw [List.flatMap_cons]
    cases i with
    | zero =>
      have hj := (List.getElem?_eq_some_iff.1 hu).1
      simp only [List.getElem_cons_zero] at hu hj
      rw [List.getElem?_append_left (by omega)]
      simpa using hu
    | succ i =>
      rw [List.getElem?_append_right (by omega), hx, show (i + 1) * 9 + j - 9 = i * 9 + j by omega]
      exact ih (fun z hz => hf z (List.mem_cons_of_mem _ hz)) i (by rw [List.length_cons] at h; omega) j u (by simpa using hu)
theorem Own8.wrsv {w : World} {base : Nat} {l : List Wt} {v : Value} (h : Own8 w base l v) (hf : WrFine l) : ∃ A c, v = .slice A l.length c ∧ WrsV w (fun b => base ≤ b) A c l := by
  obtain ⟨h1, h2⟩ := h
  rcases h2 with ⟨rfl, h0⟩ | ⟨g, cap, cur, rfl, hg, hh, hcap, hmax, hsz, htk⟩
  · obtain rfl := List.eq_nil_of_length_eq_zero h0
    exact ⟨none, 0, rfl, WrsV.nil_⟩
  · refine ⟨_, _, rfl, ⟨fun h0 => ⟨g, 0, rfl, ⟨hg, (Array.getElem?_eq_some_iff.1 hh).1⟩, fun i hi j u hu => ?_⟩, hcap, hmax, fun e => by cases e⟩⟩
    have h3 := flat_get hf i hi j u hu
    rw [cell_of_row w g _ _ _ _ hh, ← h3, ← htk, List.getElem?_take]
    have hl := (List.getElem?_eq_some_iff.1 h3).1
    rw [if_pos (by rw [h1] at hl; exact hl)]
    simp
theorem flat_fine {l : List Wt} : ∀ u ∈ l.flatMap wrv, u.oneCell' = true := fun u hu => by
  obtain ⟨x, _, hx⟩ := List.mem_flatMap.1 hu
  exact wrv_cell x u hx
theorem write_info3 : (Try.prog.info? 27).map (fun i => (i.zero, i.size, i.bytes)) = some (some (.agg #[.int .i64 0, .int .u8 0, .int .u8 0, .int .u8 0, .int .u8 0, .int .u8 0, .int .u8 0, .int .u8 0, .int .u8 0]), 9, 16) := by kernel_rfl
/-- what without answers: the row itself, cut, with no room behind it, or a row of the call's own -/
def Wout (w w' : World) (m : List Wt) (v : Value) : Prop :=
  (∃ A, v = .slice A m.length m.length ∧ (A = none → m = []) ∧ (∀ ad, A = some ad → ∀ j u, (m.flatMap wrv)[j]? = some u → w'.cell? (ad.add j) = some u)) ∨ Own8 w' w.heap.size m v
/-- append where the slice is full, or nothing is appended (at the operation) -/
theorem wp_append_full {P : Program} {w : World} {o : Oper} {a : Act} {K : Act → World → Prop} {Q : Exit → Act → World → Prop} (s x : Operand) (t : TypeId)
    (hop : o.op = Op.call { callee := Callee.builtin Builtin.append, args := #[s, x], argTypes := #[t, t] })
    (e : TypeId) (i : TypeInfo) (z : Value) (size bytes : Nat) (h1 : P.underlying t = some (.slice e)) (h2 : P.info? e = some i) (h3 : i.zero = some z) (h4 : i.size = size) (h5 : i.bytes = bytes) (h6 : z.cells.size = size) (h7 : 0 < size)
    (b off n : Nat) (olds : List Value) (hs : a.eval s = .slice (some ⟨b, off, none⟩) n n) (hlo : olds.length = n * size) (holds : ∀ j u, olds[j]? = some u → w.cell? ⟨b, off + j, none⟩ = some u)
    (ad : Addr) (m c : Nat) (news : List Value) (hx : a.eval x = .slice (some ad) m c) (hn : news.length = m * size) (hc : 0 < m → ∀ j u, news[j]? = some u → w.cell? (ad.add j) = some u) (h1c : ∀ u ∈ news, u.oneCell' = true)
    (b1 : n + m ≤ maxLen) (b2 : (n + m) * bytes ≤ 140737488355328)
    (hroom : m = 0 → K (a.put o.dst (.slice (some ⟨b, off, none⟩) n n)) w)
    (hgrow : 0 < m → ∀ v' w', w'.ownsRow w.heap.size e size v' (n + m) (olds ++ news) → w.grownBy w' none → K (a.put o.dst v') w') : o.wp P a w K Q := by
  rcases Nat.eq_zero_or_pos m with h0 | h0
  · subst h4
    subst h0
    obtain rfl := List.eq_nil_of_length_eq_zero (show news.length = 0 by rw [hn, Nat.zero_mul])
    have hrun := run_append_room_cells (P := P) w t o.type e i h1 h2 b off n n ad 0 c [] (by simp) (fun j u hj => by simp at hj) (by simp) (by omega) (fun j hj => by simp at hj) (fun j hj => by simp at hj)
    unfold Oper.wp
    simp [execOp, hop, resolve, invoke, builtin, hs, hx, hrun, Result.andThen]
    exact hroom rfl
  · obtain ⟨v', w', hrun, r1, r2⟩ := run_append_arg_grows (P := P) w t o.type e i z size bytes h1 h2 h3 h4 h5 h6 h7 ⟨b, off, none⟩ n n olds hlo (fun j u hj => by rw [Addr.add_lit]; exact holds j u hj) ad m c news hn (hc h0) (by omega) b1 b2
    unfold Oper.wp
    simp [execOp, hop, resolve, invoke, builtin, hs, hx, hrun, Result.andThen]
    exact hgrow h0 _ _ r1 r2
theorem owns_base {w : World} {base base' : Nat} {e : TypeId} {size : Nat} {v : Value} {n : Nat} {xs : List Value} (h : w.ownsRow base e size v n xs) (hb : base' ≤ base) : w.ownsRow base' e size v n xs := by
  obtain ⟨h1, h2⟩ := h
  refine ⟨h1, ?_⟩
  rcases h2 with h2 | ⟨g, cap, cur, hv, hg, r⟩
  · exact Or.inl h2
  · exact Or.inr ⟨g, cap, cur, hv, Nat.le_trans hb hg, r⟩
set_option maxHeartbeats 1000000 in
theorem without_dev (l : List Wt) (k : Int) (A : Option Addr) (c : Nat) (w : World) (h : WsAt w A c l) :
    Calls Try.prog 15 #[.slice A l.length c, .int .i64 k] w fun e w' => ∃ v, e = .returned v ∧ Wout w w' (woL l k) v ∧ Below w.heap.size w w' := by
  have HC := Lib.hid (find_dev l k A c w h)
  have hn := h.few
  have hc := h.at_.le
  by_cases h0 : plc l k < l.length
  · have hI : plcI l k = (plc l k : Int) := if_pos h0
    rw [hI] at HC
    obtain ⟨b, off, rfl, ⟨_, hbl⟩, hcs⟩ := h.at_.at_ (by omega)
    have hfl := flat_cells h.fine hcs
    have hlt : ((l.take (plc l k)).flatMap wrv).length = plc l k * 9 := by rw [flat_length (take_fine8 h.fine _), List.length_take]; congr 1; omega
    have hld : ((l.drop (plc l k + 1)).flatMap wrv).length = (l.length - (plc l k + 1)) * 9 := by rw [flat_length (drop_fine8 h.fine _), List.length_drop]
    have hl1 : ((l.take (plc l k + 1)).flatMap wrv).length = (plc l k + 1) * 9 := by rw [flat_length (take_fine8 h.fine _), List.length_take]; congr 1; omega
    have HWo := Lib.hid (show (woL l k).flatMap wrv = (l.take (plc l k)).flatMap wrv ++ (l.drop (plc l k + 1)).flatMap wrv by unfold woL; rw [List.flatMap_append])
    have HWl := Lib.hid (show (woL l k).length = plc l k + (l.length - (plc l k + 1)) by unfold woL; rw [List.length_append, List.length_take, List.length_drop]; omega)
    have HT := Lib.hid (show ∀ W, Below w.heap.size w W → ∀ j u, ((l.take (plc l k)).flatMap wrv)[j]? = some u → W.cell? ⟨b, off + j, none⟩ = some u from fun W hW j u hu => (World.cell?_of_block (w := w) (hW.block b hbl)).trans (hfl j u (by
      conv => lhs; rw [← List.take_append_drop (plc l k) l, List.flatMap_append]
      rw [List.getElem?_append_left (List.getElem?_eq_some_iff.1 hu).1]; exact hu)))
    have HD := Lib.hid (show ∀ W, Below w.heap.size w W → ∀ j u, ((l.drop (plc l k + 1)).flatMap wrv)[j]? = some u → W.cell? ⟨b, off + (plc l k + 1) * 9 + j, none⟩ = some u from fun W hW j u hu => (World.cell?_of_block (w := w) (hW.block b hbl)).trans (by
      rw [Nat.add_assoc]
      refine hfl _ u ?_
      rw [show l.flatMap wrv = (l.take (plc l k + 1)).flatMap wrv ++ (l.drop (plc l k + 1)).flatMap wrv by rw [← List.flatMap_append, List.take_append_drop]]
      rw [List.getElem?_append_right (by omega), ← hu]
      congr 1; omega))
    have HLt := Lib.hid hlt
    have HLd := Lib.hid hld
    have HPb := Lib.hid (flat_fine (l := l.drop (plc l k + 1)))
    clear h hcs hfl hlt hld hl1 hI
    generalize (l.take (plc l k)).flatMap wrv = pa at *
    generalize (l.drop (plc l k + 1)).flatMap wrv = pb at *
    generalize woL l k = m at *
    generalize plc l k = p at *
    have hp : ((p : Nat) : Int) < (l.length : Int) := by omega
    have hp0 : ¬ ((p : Nat) : Int) < 0 := by omega
    generalize l.length = n at *
    have hw1 : IntKind.i64.wrap ((p : Int) + 1) = (p : Int) + 1 := by rw [IntKind.wrap_i64]; omega
    go_enter Try.func15, Try.ntmps15
    go_wp2_with (go_at_call 18; refine HC.out.mono ?_; rintro e w2 ⟨rfl, hb2⟩)
    have hp1 : (p : Int) ≤ (c : Int) := by omega
    have hp2 : (p : Int) + 1 ≤ (n : Int) := by omega
    have hp3 : (0 : Int) ≤ (p : Int) := by omega
    have hp4 : (0 : Int) ≤ (p : Int) + 1 := by omega
    have hp5 : (p : Int) ≤ (p : Int) := by omega
    have hT3 := HT.out _ hb2.drew
    have hD3 := HD.out _ hb2.drew
    have hb3 := hb2.drew
    refine wp_region_held_drew (S := fun _ => True) (by kernel_rfl) trivial (fun hHeld => ?_)
    generalize w2.drew = w3 at *
    refine wpAnyH_take (i := 0) (v := ?_) rfl (by kernel_rfl) (by kernel_rfl) (by kernel_rfl) (fun _ _ _ h => h) (Or.inl ⟨by rfl, ?_⟩) (by assumption) ?_
    rotate_left
    · simp only [List.getElem_toArray, List.getElem_cons_zero, List.getElem_cons_succ]; intro W hSw; (try dsimp only at hSw); go_simp; all_goals with_reducible rfl
    simp only [Act.put, List.getElem_toArray, List.getElem_cons_zero, List.getElem_cons_succ, List.setIfInBounds_toArray, List.set_cons_zero, List.set_cons_succ]
    refine wpAnyH_take (i := 1) (v := ?_) rfl (by kernel_rfl) (by kernel_rfl) (by kernel_rfl) (fun _ _ _ h => h) (Or.inl ⟨by rfl, ?_⟩) (by assumption) ?_
    rotate_left
    · simp only [List.getElem_toArray, List.getElem_cons_zero, List.getElem_cons_succ]; intro W hSw; (try dsimp only at hSw); go_simp; all_goals with_reducible rfl
    simp only [Act.put, List.getElem_toArray, List.getElem_cons_zero, List.getElem_cons_succ, List.setIfInBounds_toArray, List.set_cons_zero, List.set_cons_succ]
    refine wpAnyH_take (i := 2) (v := ?_) rfl (by kernel_rfl) (by kernel_rfl) (by kernel_rfl) (fun _ _ _ h => h) (Or.inl ⟨by rfl, ?_⟩) (by assumption) ?_
    rotate_left
    · simp only [List.getElem_toArray, List.getElem_cons_zero, List.getElem_cons_succ]; intro W hSw; (try dsimp only at hSw); go_simp; all_goals with_reducible rfl
    simp only [Act.put, List.getElem_toArray, List.getElem_cons_zero, List.getElem_cons_succ, List.setIfInBounds_toArray, List.set_cons_zero, List.set_cons_succ]
    refine wpAnyH_take (i := 3) (v := ?_) rfl (by kernel_rfl) (by kernel_rfl) (by kernel_rfl) (fun _ _ _ h => h) (Or.inl ⟨by rfl, ?_⟩) (by assumption) ?_
    rotate_left
    · simp only [List.getElem_toArray, List.getElem_cons_zero, List.getElem_cons_succ]; intro W hSw; (try dsimp only at hSw); go_simp; all_goals with_reducible rfl
    simp only [Act.put, List.getElem_toArray, List.getElem_cons_zero, List.getElem_cons_succ, List.setIfInBounds_toArray, List.set_cons_zero, List.set_cons_succ]
    refine wpAnyH_take (i := 4) (v := ?_) rfl (by kernel_rfl) (by kernel_rfl) (by kernel_rfl) (fun _ _ _ h => h) (Or.inl ⟨by rfl, ?_⟩) (by assumption) ?_
    rotate_left
    · simp only [List.getElem_toArray, List.getElem_cons_zero, List.getElem_cons_succ]; intro W hSw; (try dsimp only at hSw); go_simp; all_goals with_reducible rfl
    simp only [Act.put, List.getElem_toArray, List.getElem_cons_zero, List.getElem_cons_succ, List.setIfInBounds_toArray, List.set_cons_zero, List.set_cons_succ]
    refine wpAnyH_take (i := 5) (v := ?_) rfl (by kernel_rfl) (by kernel_rfl) (by kernel_rfl) (fun _ _ _ h => h) (Or.inl ⟨by rfl, ?_⟩) (by assumption) ?_
    rotate_left
    · simp only [List.getElem_toArray, List.getElem_cons_zero, List.getElem_cons_succ]; intro W hSw; (try dsimp only at hSw); go_simp; all_goals with_reducible rfl
    simp only [Act.put, List.getElem_toArray, List.getElem_cons_zero, List.getElem_cons_succ, List.setIfInBounds_toArray, List.set_cons_zero, List.set_cons_succ]
    refine wpAnyH_take (i := 6) (v := ?_) rfl (by kernel_rfl) (by kernel_rfl) (by kernel_rfl) (fun _ _ _ h => h) (Or.inl ⟨by rfl, ?_⟩) (by assumption) ?_
    rotate_left
    · simp only [List.getElem_toArray, List.getElem_cons_zero, List.getElem_cons_succ]; intro W hSw; (try dsimp only at hSw); go_simp; all_goals with_reducible rfl
    simp only [Act.put, List.getElem_toArray, List.getElem_cons_zero, List.getElem_cons_succ, List.setIfInBounds_toArray, List.set_cons_zero, List.set_cons_succ]
    refine wpAnyH_take (i := 7) (v := ?_) rfl (by kernel_rfl) (by kernel_rfl) (by kernel_rfl) (fun _ _ _ h => h) (Or.inl ⟨by rfl, ?_⟩) (by assumption) ?_
    rotate_left
    · simp only [List.getElem_toArray, List.getElem_cons_zero, List.getElem_cons_succ]; intro W hSw; (try dsimp only at hSw); go_simp; all_goals with_reducible rfl
    simp only [Act.put, List.getElem_toArray, List.getElem_cons_zero, List.getElem_cons_succ, List.setIfInBounds_toArray, List.set_cons_zero, List.set_cons_succ]
    obtain ⟨ad, had, hadc⟩ : ∃ ad : Addr, (if c = p + 1 then some ⟨b, off, none⟩ else some ⟨b, off + (p + 1) * 9, none⟩) = some ad ∧ (0 < n - (p + 1) → ad = ⟨b, off + (p + 1) * 9, none⟩) := by
      by_cases h : c = p + 1
      · exact ⟨⟨b, off, none⟩, if_pos h, fun h2 => by omega⟩
      · exact ⟨⟨b, off + (p + 1) * 9, none⟩, if_neg h, fun _ => rfl⟩
    rw [had]
    have HAd := Lib.hid hadc
    have HT3 := Lib.hid hT3
    have HD3 := Lib.hid hD3
    have HB3 := Lib.hid hb3
    clear had hadc hT3 hD3 hb3
    refine wpAnyH_ready (rs := [8]) (by kernel_rfl) (by simp) ?_
    refine AllReadyH.cons rfl (fun K hK => ?_) AllReadyH.nil
    simp only [List.getElem_toArray, List.getElem_cons_zero, List.getElem_cons_succ]
    rw [if_pos]
    rotate_left
    · simp [Region.wanted]
    obtain ⟨i0, hi, hz0, hz1, hz2⟩ := info_parts write_info3
    refine wp_append_full (.tmp 20) (.tmp 24) 25 rfl 27 i0 _ 9 16 Try.underlying25 hi hz0 hz1 hz2 rfl (by decide) b off p pa rfl HLt.out HT3.out ad (n - (p + 1)) (c - (p + 1)) pb rfl HLd.out (fun h0 j u hu => by rw [HAd.out h0, Addr.add_lit]; exact HD3.out j u hu) HPb.out (by unfold maxLen; omega) (by omega) ?_ ?_
    · intro hm0
      refine hK.out _ _ (trivial) (fun hHeldN => ?_)
      clear hK K hHeld
      have hHeld := hHeldN
      clear hHeldN
      (try simp only [Act.put, List.getElem_toArray, List.getElem_cons_zero, List.getElem_cons_succ, List.setIfInBounds_toArray, List.set_cons_zero, List.set_cons_succ])
      refine wpAnyH_take (i := 9) (v := ?_) rfl (by kernel_rfl) (by kernel_rfl) (by kernel_rfl) (fun _ _ _ h => h) (Or.inl ⟨by rfl, ?_⟩) (by assumption) ?_
      rotate_left
      · simp only [List.getElem_toArray, List.getElem_cons_zero, List.getElem_cons_succ]; intro W hSw; (try dsimp only at hSw); go_simp; all_goals with_reducible rfl
      simp only [Act.put, List.getElem_toArray, List.getElem_cons_zero, List.getElem_cons_succ, List.setIfInBounds_toArray, List.set_cons_zero, List.set_cons_succ]
      refine wpAnyH_done (by kernel_rfl) ?_ _
      go_wp2_with fail
      go_ret
      have hpb : pb = [] := List.eq_nil_of_length_eq_zero (by rw [HLd.out, hm0, Nat.zero_mul])
      have hml : m.length = p := by rw [HWl.out, hm0, Nat.add_zero]
      refine ⟨.slice (some ⟨b, off, none⟩) p p, rfl, Or.inl ⟨some ⟨b, off, none⟩, by rw [hml], (fun e => nomatch e), fun ad e j u hu => ?_⟩, HB3.out⟩
      obtain rfl := Option.some.inj e
      rw [HWo.out, hpb, List.append_nil] at hu
      rw [Addr.add_lit]
      exact HT3.out j u hu
    · intro hm0 v' w4 hown hgr
      refine hK.out _ _ (trivial) (fun hHeldN => ?_)
      clear hK K hHeld
      have hHeld := hHeldN
      clear hHeldN
      (try simp only [Act.put, List.getElem_toArray, List.getElem_cons_zero, List.getElem_cons_succ, List.setIfInBounds_toArray, List.set_cons_zero, List.set_cons_succ])
      refine wpAnyH_take (i := 9) (v := ?_) rfl (by kernel_rfl) (by kernel_rfl) (by kernel_rfl) (fun _ _ _ h => h) (Or.inl ⟨by rfl, ?_⟩) (by assumption) ?_
      rotate_left
      · simp only [List.getElem_toArray, List.getElem_cons_zero, List.getElem_cons_succ]; intro W hSw; (try dsimp only at hSw); go_simp; all_goals with_reducible rfl
      simp only [Act.put, List.getElem_toArray, List.getElem_cons_zero, List.getElem_cons_succ, List.setIfInBounds_toArray, List.set_cons_zero, List.set_cons_succ]
      refine wpAnyH_done (by kernel_rfl) ?_ _
      go_wp2_with fail
      go_ret
      refine ⟨v', rfl, Or.inr ?_, HB3.out.grown hgr HB3.out.size (fun k hk => by cases hk)⟩
      unfold Own8
      rw [HWo.out, HWl.out]
      exact owns_base hown HB3.out.size
  · have hI : plcI l k = -1 := if_neg h0
    rw [hI] at HC
    have HO := Lib.hid (show ∀ W, Below w.heap.size w W → Wout w W (woL l k) (.slice A l.length l.length) from fun W hW => by
      rw [wo_none h0]
      refine Or.inl ⟨A, rfl, fun e => ?_, fun ad e j u hu => ?_⟩
      · rcases Nat.eq_zero_or_pos l.length with h1 | h1
        · exact List.eq_nil_of_length_eq_zero h1
        · obtain ⟨b, off, e2, _⟩ := h.at_.at_ h1
          rw [e] at e2; cases e2
      · have hpos : 0 < l.length := by
          rcases Nat.eq_zero_or_pos l.length with h1 | h1
          · rw [List.eq_nil_of_length_eq_zero h1] at hu; simp at hu
          · exact h1
        obtain ⟨b, off, e2, ⟨_, hbl⟩, hcs⟩ := h.at_.at_ hpos
        rw [e] at e2
        cases e2
        rw [Addr.add_lit]
        exact (World.cell?_of_block (w := w) (hW.block b hbl)).trans (flat_cells h.fine hcs j u hu))
    generalize woL l k = m at *
    generalize l.length = n at *
    clear h h0 hI
    cases A with
    | none =>
      go_enter Try.func15, Try.ntmps15
      go_wp2_with (go_at_call 18; refine HC.out.mono ?_; rintro e w2 ⟨rfl, hb2⟩)
      go_ret
      exact ⟨_, rfl, HO.out _ hb2, hb2⟩
    | some ad =>
      go_enter Try.func15, Try.ntmps15
      go_wp2_with (go_at_call 18; refine HC.out.mono ?_; rintro e w2 ⟨rfl, hb2⟩)
      go_ret
      exact ⟨_, rfl, HO.out _ hb2, hb2⟩
end Go.Proofs.Ytipgphdndleodaa
