/-
  slices.EqualFunc over frames, Join, by contract.
-/
import Derived.Test.YtehkohnpfbdngaaDoorCut
import Derived.Test.YtehkohnpfbdngaaDoorEqual
import Derived.Deep.RegionLaw
namespace Go.Proofs.YtehkohnpfbdngaaDoor
open Go.RowKit

theorem take_eq_next {fs gs : List Fr} {k : Nat} (hf : k < fs.length) (hg : k < gs.length) (h : fs.take k = gs.take k) (h2 : fs[k] = gs[k]) : fs.take (k + 1) = gs.take (k + 1) := by
  rw [List.take_succ_eq_append_getElem hf, List.take_succ_eq_append_getElem hg, h, h2]
theorem not_eq_at {fs gs : List Fr} {k : Nat} (hf : k < fs.length) (hg : k < gs.length) (h : ¬ fs[k] = gs[k]) : decide (fs = gs) = false := by
  rw [decide_eq_false_iff_not]
  intro e
  subst e
  exact h rfl
/-- a frame of a slice, as a value -/
theorem Cells.frv {w : World} {B : Nat} {A' : Option Addr} {c' : Nat} {f : Fr} (hy : By w B A' f.load) (h1 : f.load.length ≤ c') (h2 : c' ≤ maxLen) (h3 : A' = none → c' = 0) (h4 : f.Fine) : FrV w B (frv A' c' f) f := ⟨A', c', rfl, hy, h1, h2, h3, h4⟩

set_option maxHeartbeats 1000000 in
theorem equalFunc_any (fs gs : List Fr) (A B : Option Addr) (c d : Nat) (w : World) (hA : Frs w w.heap.size A fs) (hB : Frs w w.heap.size B gs) (hl : fs.length ≤ 1000000000) (hl2 : gs.length ≤ 1000000000) :
    Calls Tryd.prog 31 #[.slice A fs.length c, .slice B gs.length d, .func (.func 14) #[] #[]] w fun e w' => e = .returned (.bool (decide (fs = gs))) ∧ Below w.heap.size w w' := by
  by_cases hn : fs.length = gs.length
  rotate_left
  · have HF := Lib.hid (show decide (fs = gs) = false by rw [decide_eq_false_iff_not]; intro e; exact hn (by rw [e]))
    have hq : ((fs.length : Int) != (gs.length : Int)) = true := by rw [bne_iff_ne]; omega
    clear hn hA hB
    go_enter Tryd.func31, Tryd.ntmps31
    go_wp2
    go_ret
    exact ⟨by rw [HF.out]; rfl, Below.refl _ _⟩
  have hq : ((fs.length : Int) != (gs.length : Int)) = false := by rw [bne_eq_false_iff_eq]; omega
  have HA := Lib.hid hA
  have HB := Lib.hid hB
  have HN := Lib.hid hn
  clear hA hB hn
  go_enter Tryd.func31, Tryd.ntmps31
  go_wp2
  go_loopw [17] (fun i wr => ∃ k : Nat, k ≤ fs.length ∧ i = .int .i64 k ∧ fs.take k = gs.take k ∧ Below w.heap.size w wr) (fun i _ => fs.length - (intOf i).toNat)
  case atStart => exact ⟨0, by omega, rfl, rfl, Below.refl _ _⟩
  case round =>
    obtain ⟨k, hk, rfl, hE, hb⟩ := hrel
    have HE := Lib.hid hE
    have HW := Lib.hid hb
    clear hE hb
    by_cases hlt : k < fs.length
    · have hlt2 : k < gs.length := by have := HN.out; omega
      obtain ⟨b, off, A1, c1, rfl, hbw, hy1, hlc1, hcm1, hn1, hf1, a0, a1, a2, a3, a4, a5⟩ := (HA.out.below HW.out (Nat.le_refl _)).cells hlt
      obtain ⟨b', off', B1, d1, rfl, hbw', hy2, hlc2, hcm2, hn2, hf2, b0, b1, b2, b3, b4, b5⟩ := (HB.out.below HW.out (Nat.le_refl _)).cells hlt2
      have hki : (k : Int) < fs.length := by omega
      have hbr : b < wr.heap.size := by have := HW.out.size; omega
      have hbr' : b' < wr.heap.size := by have := HW.out.size; omega
      have hki2 : (k : Int) < gs.length := by omega
      have HNx := Lib.hid (take_eq_next hlt hlt2 HE.out)
      have HNo := Lib.hid (not_eq_at hlt hlt2)
      have V1 := Lib.hid (Cells.frv hy1 hlc1 hcm1 hn1 hf1)
      have V2 := Lib.hid (Cells.frv hy2 hlc2 hcm2 hn2 hf2)
      clear hy1 hy2 hlc1 hlc2 hcm1 hcm2 hn1 hn2 hf1 hf2 HE
      generalize fs[k] = f at *
      generalize gs[k] = g at *
      have hb2 := ((Below.refl wr.heap.size wr).alloc (Nat.le_refl _) (.cells (frv A1 c1 f).toArray 25)).alloc (by simp) (.cells (frv B1 d1 g).toArray 25)
      have HS := Lib.hid (same_any f g A1 B1 c1 d1 ((wr.alloc (.cells (frv A1 c1 f).toArray 25)).alloc (.cells (frv B1 d1 g).toArray 25)) ((V1.out.below hb2 HW.out.size).mono (Nat.le_trans HW.out.size hb2.size)) ((V2.out.below hb2 HW.out.size).mono (Nat.le_trans HW.out.size hb2.size)))
      have HB2 := Lib.hid hb2
      clear hb2
      unfold frv at *
      go_wp2_with fail
      refine HS.out.mono ?_
      rintro e w2 ⟨rfl, hb2⟩
      have HB3 := Lib.hid ((HW.out.trans (HB2.out.mono HW.out.size)).trans (hb2.mono (Nat.le_trans HW.out.size HB2.out.size)))
      clear hb2
      unfold sameB at *
      by_cases he : f = g
      · have hd : decide (f = g) = true := by rw [decide_eq_true_eq]; exact he
        have HX := Lib.hid (HNx.out he)
        have HD := Lib.hid he
        clear he
        go_wp2
        go_roundw
        case rel => exact ⟨k + 1, by omega, by go_num, HX.out, HB3.out⟩
        case measure => simp [intOf]; omega
      · have hd : decide (f = g) = false := by rw [decide_eq_false_iff_not]; exact he
        have HX := Lib.hid (HNo.out he)
        have HD := Lib.hid he
        clear he
        go_wp2
        go_ret
        exact ⟨by rw [HX.out]; rfl, HB3.out⟩
    · obtain rfl : k = fs.length := by omega
      have HF := Lib.hid (show decide (fs = gs) = true by
        rw [decide_eq_true_eq]
        have h := HE.out
        rwa [List.take_length, HN.out, List.take_length] at h)
      go_wp2
      go_ret
      exact ⟨by rw [HF.out]; rfl, HW.out⟩

def joinR (l : List Fr) : List Nat := if joinB l = true then loads l else []
def joinE (l : List Fr) : Int := if joinB l = true then 0 else 40
/-- what Join answers: bytes in memory of their own, and an error -/
def JoinOut (w : World) (l : List Fr) (e : Ending) (w' : World) : Prop :=
  ∃ A' c', e = .returned (.tuple #[.slice A' (joinR l).length c', .int .i64 (joinE l)]) ∧ By w' w'.heap.size A' (joinR l) ∧ (joinR l).length ≤ c' ∧ c' ≤ 90 ∧ (A' = none → c' = 0) ∧ Below w.heap.size w w'
theorem JoinOut.no {w w' : World} {l : List Fr} (h : joinB l = false) (hb : Below w.heap.size w w') : JoinOut w l (.returned (.tuple #[.slice none 0 0, .int .i64 40])) w' := by
  unfold JoinOut joinR joinE
  rw [if_neg (by rw [h]; simp), if_neg (by rw [h]; simp)]
  exact ⟨none, 0, rfl, By.nil_, Nat.le_refl _, by omega, fun _ => rfl, hb⟩
theorem join_long {l : List Fr} (h : ¬ (1 ≤ l.length ∧ l.length ≤ 2)) : joinB l = false := by
  cases l with
  | nil => rfl
  | cons f r =>
    have : ¬ (f :: r).length ≤ 2 := by simp only [List.length_cons] at h ⊢; omega
    unfold joinB
    simp only [decide_eq_false this, Bool.false_and]
theorem join_may {l : List Fr} (h : l.all mayB = false) : joinB l = false := by
  cases l with
  | nil => rfl
  | cons f r => unfold joinB; simp only [h, Bool.and_false, Bool.false_and]
theorem join_rest {l : List Fr} (h0 : 0 < l.length) (h1 : l.length ≤ 2) (h2 : l.all mayB = true) : joinB l = decide (cutE (loads l).length l[0].seq l[0].inc = 0 ∧ cutAll (loads l) l[0].seq l[0].inc = l) := by
  cases l with
  | nil => simp at h0
  | cons f r => unfold joinB; simp only [h2, decide_eq_true h1, Bool.true_and, List.getElem_cons_zero]
theorem loads_snoc {l : List Fr} {k : Nat} (h : k < l.length) : loads (l.take (k + 1)) = loads (l.take k) ++ l[k].load := by
  unfold loads
  rw [List.take_succ_eq_append_getElem h, List.flatMap_append]
  simp
theorem may_load {f : Fr} (h : mayB f = true) : f.load.length ≤ 45 := by
  unfold mayB at h
  rw [decide_eq_true_eq] at h
  omega
theorem may_one {f : Fr} (h : mayB f = true) : 1 ≤ f.load.length := by
  unfold mayB at h
  rw [decide_eq_true_eq] at h
  omega
theorem loads_le {l : List Fr} (h : l.all mayB = true) : (loads l).length ≤ l.length * 45 := by
  induction l with
  | nil => simp [loads]
  | cons f r ih =>
    rw [List.all_cons, Bool.and_eq_true] at h
    have h1 := may_load h.1
    have h2 := ih h.2
    unfold loads at *
    rw [List.flatMap_cons, List.length_append, List.length_cons]
    omega
theorem all_take {l : List Fr} (h : l.all mayB = true) (k : Nat) : (l.take k).all mayB = true := by
  rw [List.all_eq_true] at h ⊢
  exact fun x hx => h x (List.mem_of_mem_take hx)
theorem zero90 : (Tryd.prog.info? 56).map (·.zero) = some (some (.agg (vals (List.replicate 90 0)).toArray)) := by kernel_rfl
theorem splice_more (bs ds : List Nat) (n : Nat) (h : bs.length + ds.length ≤ n) : splice (vals (bs ++ List.replicate (n - bs.length) 0)) bs.length (vals ds) = vals ((bs ++ ds) ++ List.replicate (n - (bs ++ ds).length) 0) := by
  have e1 : n - (bs ++ ds).length = n - bs.length - ds.length := by rw [List.length_append]; omega
  unfold splice
  rw [vals_append, List.take_append_of_le_length (by rw [vals_length]; exact Nat.le_refl _), List.take_of_length_le (by rw [vals_length]; exact Nat.le_refl _), List.drop_append, vals_length, vals_length,
    List.drop_of_length_le (by rw [vals_length]; omega), List.nil_append, Nat.add_sub_cancel_left, e1, vals_append, vals_append]
  unfold vals
  rw [List.map_replicate, List.map_replicate, List.drop_replicate, List.append_assoc]

set_option maxHeartbeats 1000000 in
theorem join_no (l : List Fr) (A : Option Addr) (c : Nat) (w : World) (hA : Frs w w.heap.size A l) (hl : l.length ≤ 1000000000) (h : ¬ (1 ≤ l.length ∧ l.length ≤ 2 ∧ l.all mayB = true)) :
    Calls Tryd.prog 16 #[.slice A l.length c] w (JoinOut w l) := by
  by_cases h0 : l.length = 0
  · have HJ := Lib.hid (join_long (l := l) (by omega))
    have hq : ((l.length : Int) == 0) = true := by simp [h0]
    clear h0 h hA
    go_enter Tryd.func16, Tryd.ntmps16
    go_wp2
    go_ret2
    exact JoinOut.no HJ.out (Below.refl _ _)
  have hq : ((l.length : Int) == 0) = false := beq_eq_false_iff_ne.2 (by omega)
  by_cases h2 : 2 < l.length
  · have HJ := Lib.hid (join_long (l := l) (by omega))
    have h2' : (2 : Int) < l.length := by omega
    clear h0 h hA
    go_enter Tryd.func16, Tryd.ntmps16
    go_wp2
    go_ret2
    exact JoinOut.no HJ.out (Below.refl _ _)
  · have hm : l.all mayB = false := by
      cases hm : l.all mayB with
      | false => rfl
      | true => exact absurd ⟨by omega, by omega, hm⟩ h
    have HJ := Lib.hid (join_may hm)
    have HM := allMay_any l A c w hA hl
    rw [hm] at HM
    have HM2 := Lib.hid HM
    have h2' : (l.length : Int) ≤ 2 := by omega
    clear h0 h hA hm HM
    go_enter Tryd.func16, Tryd.ntmps16
    go_wp2_with fail
    refine HM2.out.mono ?_
    rintro e w1 ⟨rfl, hb1⟩
    go_wp2
    go_ret2
    exact JoinOut.no HJ.out hb1

set_option maxRecDepth 100000 in
set_option maxHeartbeats 2000000 in
theorem join_yes (l : List Fr) (A : Option Addr) (c : Nat) (w : World) (hA : Frs w w.heap.size A l) (h1 : 1 ≤ l.length) (h2 : l.length ≤ 2) (hm : l.all mayB = true) :
    Calls Tryd.prog 16 #[.slice A l.length c] w (JoinOut w l) := by
  have hq : ((l.length : Int) == 0) = false := beq_eq_false_iff_ne.2 (by omega)
  have h2' : (l.length : Int) ≤ 2 := by omega
  have HM := allMay_any l A c w hA (by omega)
  rw [hm] at HM
  have HM2 := Lib.hid HM
  have HAll := Lib.hid hm
  have HA := Lib.hid hA
  obtain ⟨Z, hZ⟩ : ∃ Z, Z = vals (List.replicate 90 0) := ⟨_, rfl⟩
  have HZ := Lib.hid (show (Tryd.prog.info? 56).map (·.zero) = some (some (.agg Z.toArray)) by rw [hZ]; exact zero90)
  have HZ2 := Lib.hid hZ
  clear HM hm hA hZ
  go_enter Tryd.func16, Tryd.ntmps16
  go_wp2_with fail
  refine HM2.out.mono ?_
  rintro e w1 ⟨rfl, hb1⟩
  have B1 := Lib.hid hb1
  clear hb1 HM2
  go_wp2_with (first
    | (with_reducible refine wpList_alloc_any rfl 56 rfl Z.toArray HZ.out ?_))
  have R0 := Lib.hid (show (w1.alloc (.cells Z.toArray 56)).heap[w1.heap.size]? = some (.cells (vals (loads (l.take 0) ++ List.replicate (90 - (loads (l.take 0)).length) 0)).toArray 56 (0, 0)) by
    rw [heap_alloc_new, HZ2.out]; rfl)
  have RB := Lib.hid (B1.out.alloc B1.out.size (.cells Z.toArray 56))
  have RZ := Lib.hid (show w1.heap.size < (w1.alloc (.cells Z.toArray 56)).heap.size by simp)
  have RG := Lib.hid B1.out.size
  generalize w1.alloc (.cells Z.toArray 56) = w2 at *
  generalize w1.heap.size = g at *
  clear B1 HZ HZ2
  go_loopw [5, 26] (fun n i wr => ∃ k : Nat, k ≤ l.length ∧ i = .int .i64 k ∧ n = .int .i64 (loads (l.take k)).length ∧ wr.heap[g]? = some (.cells (vals (loads (l.take k) ++ List.replicate (90 - (loads (l.take k)).length) 0)).toArray 56 (0, 0)) ∧ Below w.heap.size w wr) (fun _ i _ => l.length - (intOf i).toNat)
  case atStart => exact ⟨0, by omega, rfl, rfl, R0.out, RB.out⟩
  case round =>
    obtain ⟨k, hk, rfl, rfl, hrow, hb⟩ := hrel
    have HB := Lib.hid hb
    have HR := Lib.hid hrow
    clear hb hrow
    by_cases hlt : k < l.length
    · obtain ⟨b, off, A1, c1, rfl, hbw, hy1, hlc1, hcm1, hn1, hf1, a0, a1, a2, a3, a4, a5⟩ := (HA.out.below HB.out (Nat.le_refl _)).cells hlt
      have hbr : b < wr.heap.size := by have := HB.out.size; omega
      have hki : (k : Int) < l.length := by omega
      have hsn := loads_snoc hlt
      have hl1 := may_one (show mayB l[k] = true from (List.all_eq_true.1 HAll.out) _ (List.getElem_mem hlt))
      have hll := loads_le (all_take HAll.out (k + 1))
      have hlk : (l.take (k + 1)).length ≤ 2 := by rw [List.length_take]; omega
      rw [hsn] at hll
      generalize l[k] = f at *
      generalize loads (l.take k) = bs at *
      rw [List.length_append] at hll
      have HSP := Lib.hid (splice_more bs f.load 90 (by omega))
      have HSN := Lib.hid hsn
      have HY := Lib.hid hy1
      have hn0 : (0 : Int) ≤ (bs.length : Int) := by omega
      have hn90 : (bs.length : Int) ≤ 90 := by omega
      have hnl : bs.length + f.load.length ≤ 90 := by omega
      have hne : ¬ 90 = bs.length := by omega
      clear hsn hll hlk hy1
      have hgw : g < wr.heap.size := by
        have h := HR.out
        rcases Nat.lt_or_ge g wr.heap.size with h' | h'
        · exact h'
        · rw [Array.getElem?_eq_none h'] at h; cases h
      have hB5 := (Below.refl wr.heap.size wr).alloc (Nat.le_refl _) (.cells #[.int .i64 f.seq, .int .i64 f.inc, .int .i64 f.part, .int .i64 f.of, .int .u32 (f.mark : Nat), .slice A1 f.load.length c1] 25)
      have HX := Lib.hid ((hB5.drew.block g hgw).trans HR.out)
      have HS5 := Lib.hid ((HY.out.below hB5.drew HB.out.size).src)
      have HB5 := Lib.hid (HB.out.trans (hB5.drew.mono HB.out.size))
      have n1 := Lib.hid (vals_length f.load)
      have n2 := Lib.hid (show (vals (bs ++ List.replicate (90 - bs.length) 0)).length = 90 by rw [vals_length, List.length_append, List.length_replicate]; omega)
      have hw1 : IntKind.i64.wrap ((bs.length : Int) + (f.load.length : Int)) = (bs.length : Int) + (f.load.length : Int) := by rw [IntKind.wrap_i64]; omega
      clear hB5 hgw
      generalize vals (bs ++ List.replicate (90 - bs.length) 0) = X at *
      go_wp2_with fail
      go_region_law (refine step_copy_splice rfl (.tmp 32) (.tmp 34) 23 23 rfl 5 Tryd.underlying23 Tryd.size5 (some ⟨g, bs.length, none⟩) A1 (90 - bs.length) (90 - bs.length) f.load.length c1 (by simp [Act.eval, Act.put]) (by simp [Act.eval, Act.put]) g bs.length X 56 HX.out (vals f.load) (by rw [n1.out]; exact (Nat.min_eq_left (by omega)).symm) (fun h => ⟨rfl, HS5.out h⟩) (by rw [n1.out, n2.out]; omega) vals_one w.heap.size w HB5.out (by assumption) ?_; intro w4 hg4 hb4; rw [HSP.out] at hg4; rw [n1.out])
      go_wp2
      go_roundw
      case rel => exact ⟨k + 1, by omega, by go_num, by rw [HSN.out, List.length_append]; go_num, by rw [HSN.out]; exact hg4.out, hb4⟩
      case measure => simp [intOf]; omega
    · obtain rfl : k = l.length := by omega
      rw [List.take_length] at HR ⊢
      have hll := loads_le HAll.out
      have hJ := join_rest (by omega) h2 HAll.out
      obtain ⟨b, off, A1, c1, rfl, hbw, _, _, _, _, hf, a0, a1, _, _, _, _⟩ := (HA.out.below HB.out (Nat.le_refl _)).cells (show 0 < l.length by omega)
      rw [Nat.zero_mul, Nat.add_zero] at a0 a1
      have hsq := hf.seq
      generalize l[0] = f0 at *
      have hbl : ∀ x ∈ loads l, x < 256 := fun x hx => by
        obtain ⟨f, hf1, hf2⟩ := List.mem_flatMap.1 hx
        obtain ⟨i, hi, rfl⟩ := List.getElem_of_mem hf1
        obtain ⟨_, _, A2, _, _, _, hy, _⟩ := HA.out.cells hi
        exact hy.1 x hf2
      have hrow : (vals (loads l ++ List.replicate (90 - (loads l).length) 0)).take (loads l).length = vals (loads l) := by
        rw [vals_append, List.take_append_of_le_length (by rw [vals_length]; exact Nat.le_refl _), List.take_of_length_le (by rw [vals_length]; exact Nat.le_refl _)]
      obtain ⟨bs, hbs⟩ : ∃ bs, bs = loads l := ⟨_, rfl⟩
      have HBS := Lib.hid hbs
      rw [← hbs] at HR hJ hll hbl hrow ⊢
      clear hbs
      have HY := Lib.hid (show By wr (g + 1) (some ⟨g, 0, none⟩) bs from By.of_row HR.out (by rw [List.toList_toArray]; exact hrow) hbl)
      have hgw : g < wr.heap.size := by
        have h := HR.out
        rcases Nat.lt_or_ge g wr.heap.size with h' | h'
        · exact h'
        · rw [Array.getElem?_eq_none h'] at h; cases h
      have HGW := Lib.hid hgw
      have hn0 : (0 : Int) ≤ (bs.length : Int) := by omega
      have hn90 : (bs.length : Int) ≤ 90 := by omega
      have hpos : (0 : Int) < (l.length : Int) := by omega
      have hpos' : 0 < l.length := by omega
      have HC := Lib.hid (cut_any bs f0.seq f0.inc (some ⟨g, 0, none⟩) bs.length wr.drew ((HY.out.mono hgw).drew) (Nat.le_refl _) (by unfold maxLen; omega) (by omega) hsq.1 hsq.2)
      have HJ := Lib.hid hJ
      clear hJ hrow hbl hf hll hgw hsq
      go_wp2_with fail
      refine wp_region_held_drew (S := fun W => W.cell? ⟨b, off, none⟩ = some (.int .i64 f0.seq) ∧ W.cell? ⟨b, off + 1, none⟩ = some (.int .i64 f0.inc)) (by kernel_rfl) ⟨a0, a1⟩ (fun hHeld => ?_)
      refine wpAnyH_take (i := 0) (v := ?_) rfl (by kernel_rfl) (by kernel_rfl) (by kernel_rfl) (fun _ _ _ h => h) (Or.inl ⟨by rfl, ?_⟩) (by assumption) ?_
      rotate_left
      · simp only [List.getElem_toArray, List.getElem_cons_zero, List.getElem_cons_succ]; intro W hSw; (try dsimp only at hSw); go_simp; all_goals with_reducible rfl
      simp only [Act.put, List.getElem_toArray, List.getElem_cons_zero, List.getElem_cons_succ, List.setIfInBounds_toArray, List.set_cons_zero, List.set_cons_succ]
      refine wpAnyH_take (i := 1) (v := ?_) rfl (by kernel_rfl) (by kernel_rfl) (by kernel_rfl) (fun _ _ _ h => h) (Or.inl ⟨by rfl, ?_⟩) (by assumption) ?_
      rotate_left
      · simp only [List.getElem_toArray, List.getElem_cons_zero, List.getElem_cons_succ]; intro W hSw; (try dsimp only at hSw); go_simp; all_goals with_reducible rfl
      simp only [Act.put, List.getElem_toArray, List.getElem_cons_zero, List.getElem_cons_succ, List.setIfInBounds_toArray, List.set_cons_zero, List.set_cons_succ]
      refine wpAnyH_take (i := 2) (v := ?_) rfl (by kernel_rfl) (by kernel_rfl) (by kernel_rfl) (fun _ _ _ h => h) (Or.inl ⟨by rfl, ?_⟩) (by assumption) ?_
      rotate_left
      · simp only [List.getElem_toArray, List.getElem_cons_zero, List.getElem_cons_succ]; intro W hSw; (try dsimp only at hSw); go_simp; all_goals with_reducible rfl
      simp only [Act.put, List.getElem_toArray, List.getElem_cons_zero, List.getElem_cons_succ, List.setIfInBounds_toArray, List.set_cons_zero, List.set_cons_succ]
      refine wpAnyH_take (i := 3) (v := ?_) rfl (by kernel_rfl) (by kernel_rfl) (by kernel_rfl) (fun _ _ _ h => h) (Or.inl ⟨by rfl, ?_⟩) (by assumption) ?_
      rotate_left
      · simp only [List.getElem_toArray, List.getElem_cons_zero, List.getElem_cons_succ]; intro W hSw; (try dsimp only at hSw); go_simp; all_goals with_reducible rfl
      simp only [Act.put, List.getElem_toArray, List.getElem_cons_zero, List.getElem_cons_succ, List.setIfInBounds_toArray, List.set_cons_zero, List.set_cons_succ]
      refine wpAnyH_take (i := 4) (v := ?_) rfl (by kernel_rfl) (by kernel_rfl) (by kernel_rfl) (fun _ _ _ h => h) (Or.inl ⟨by rfl, ?_⟩) (by assumption) ?_
      rotate_left
      · simp only [List.getElem_toArray, List.getElem_cons_zero, List.getElem_cons_succ]; intro W hSw; (try dsimp only at hSw); go_simp; all_goals with_reducible rfl
      simp only [Act.put, List.getElem_toArray, List.getElem_cons_zero, List.getElem_cons_succ, List.setIfInBounds_toArray, List.set_cons_zero, List.set_cons_succ]
      refine wpAnyH_take (i := 5) (v := ?_) rfl (by kernel_rfl) (by kernel_rfl) (by kernel_rfl) (fun _ _ _ h => h) (Or.inl ⟨by rfl, ?_⟩) (by assumption) ?_
      rotate_left
      · simp only [List.getElem_toArray, List.getElem_cons_zero, List.getElem_cons_succ]; intro W hSw; (try dsimp only at hSw); go_simp; all_goals with_reducible rfl
      simp only [Act.put, List.getElem_toArray, List.getElem_cons_zero, List.getElem_cons_succ, List.setIfInBounds_toArray, List.set_cons_zero, List.set_cons_succ]
      refine wpAnyH_take (i := 6) (v := ?_) rfl (by kernel_rfl) (by kernel_rfl) (by kernel_rfl) (fun _ _ _ h => h) (Or.inl ⟨by rfl, ?_⟩) (by assumption) ?_
      rotate_left
      · simp only [List.getElem_toArray, List.getElem_cons_zero, List.getElem_cons_succ]; intro W hSw; (try dsimp only at hSw); go_simp; all_goals with_reducible rfl
      simp only [Act.put, List.getElem_toArray, List.getElem_cons_zero, List.getElem_cons_succ, List.setIfInBounds_toArray, List.set_cons_zero, List.set_cons_succ]
      refine wpAnyH_take (i := 7) (v := ?_) rfl (by kernel_rfl) (by kernel_rfl) (by kernel_rfl) (fun _ _ _ h => h) (Or.inl ⟨by rfl, ?_⟩) (by assumption) ?_
      rotate_left
      · simp only [List.getElem_toArray, List.getElem_cons_zero, List.getElem_cons_succ]; intro W hSw; (try dsimp only at hSw); go_simp; all_goals with_reducible rfl
      simp only [Act.put, List.getElem_toArray, List.getElem_cons_zero, List.getElem_cons_succ, List.setIfInBounds_toArray, List.set_cons_zero, List.set_cons_succ]
      refine wpAnyH_take (i := 8) (v := ?_) rfl (by kernel_rfl) (by kernel_rfl) (by kernel_rfl) (fun _ _ _ h => h) (Or.inl ⟨by rfl, ?_⟩) (by assumption) ?_
      rotate_left
      · simp only [List.getElem_toArray, List.getElem_cons_zero, List.getElem_cons_succ]; intro W hSw; (try dsimp only at hSw); go_simp; all_goals with_reducible rfl
      simp only [Act.put, List.getElem_toArray, List.getElem_cons_zero, List.getElem_cons_succ, List.setIfInBounds_toArray, List.set_cons_zero, List.set_cons_succ]
      refine wpAnyH_ready (rs := [9]) (by kernel_rfl) (by simp) ?_
      refine AllReadyH.cons rfl (fun K hK => ?_) AllReadyH.nil
      simp only [List.getElem_toArray, List.getElem_cons_zero, List.getElem_cons_succ]
      go_simp
      refine HC.out.mono ?_
      rintro e w5 ⟨A5, c5, rfl, hfr5, hl5, hc5, hn5, hb5⟩
      go_wp2_with fail
      refine hK.out _ _ (⟨(hb5.cell (p := ⟨b, off, none⟩) (by have := HB.out.size; simp; omega)).trans a0, (hb5.cell (p := ⟨b, off + 1, none⟩) (by have := HB.out.size; simp; omega)).trans a1⟩) (fun hHeldN => ?_)
      clear hK K hHeld
      have hHeld := hHeldN
      clear hHeldN
      (try simp only [Act.put, List.getElem_toArray, List.getElem_cons_zero, List.getElem_cons_succ, List.setIfInBounds_toArray, List.set_cons_zero, List.set_cons_succ])
      refine wpAnyH_take (i := 10) (v := ?_) rfl (by kernel_rfl) (by kernel_rfl) (by kernel_rfl) (fun _ _ _ h => h) (Or.inl ⟨by rfl, ?_⟩) (by assumption) ?_
      rotate_left
      · simp only [List.getElem_toArray, List.getElem_cons_zero, List.getElem_cons_succ]; intro W hSw; (try dsimp only at hSw); go_simp; all_goals with_reducible rfl
      simp only [Act.put, List.getElem_toArray, List.getElem_cons_zero, List.getElem_cons_succ, List.setIfInBounds_toArray, List.set_cons_zero, List.set_cons_succ]
      refine wpAnyH_take (i := 11) (v := ?_) rfl (by kernel_rfl) (by kernel_rfl) (by kernel_rfl) (fun _ _ _ h => h) (Or.inl ⟨by rfl, ?_⟩) (by assumption) ?_
      rotate_left
      · simp only [List.getElem_toArray, List.getElem_cons_zero, List.getElem_cons_succ]; intro W hSw; (try dsimp only at hSw); go_simp; all_goals with_reducible rfl
      simp only [Act.put, List.getElem_toArray, List.getElem_cons_zero, List.getElem_cons_succ, List.setIfInBounds_toArray, List.set_cons_zero, List.set_cons_succ]
      refine wpAnyH_take (i := 12) (v := ?_) rfl (by kernel_rfl) (by kernel_rfl) (by kernel_rfl) (fun _ _ _ h => h) (Or.inl ⟨by rfl, ?_⟩) (by assumption) ?_
      rotate_left
      · simp only [List.getElem_toArray, List.getElem_cons_zero, List.getElem_cons_succ]; intro W hSw; (try dsimp only at hSw); go_simp; all_goals with_reducible rfl
      simp only [Act.put, List.getElem_toArray, List.getElem_cons_zero, List.getElem_cons_succ, List.setIfInBounds_toArray, List.set_cons_zero, List.set_cons_succ]
      refine wpAnyH_take (i := 13) (v := ?_) rfl (by kernel_rfl) (by kernel_rfl) (by kernel_rfl) (fun _ _ _ h => h) (Or.inl ⟨by rfl, ?_⟩) (by assumption) ?_
      rotate_left
      · simp only [List.getElem_toArray, List.getElem_cons_zero, List.getElem_cons_succ]; intro W hSw; (try dsimp only at hSw); go_simp; all_goals with_reducible rfl
      simp only [Act.put, List.getElem_toArray, List.getElem_cons_zero, List.getElem_cons_succ, List.setIfInBounds_toArray, List.set_cons_zero, List.set_cons_succ]
      refine wpAnyH_take (i := 14) (v := ?_) rfl (by kernel_rfl) (by kernel_rfl) (by kernel_rfl) (fun _ _ _ h => h) (Or.inl ⟨by rfl, ?_⟩) (by assumption) ?_
      rotate_left
      · simp only [List.getElem_toArray, List.getElem_cons_zero, List.getElem_cons_succ]; intro W hSw; (try dsimp only at hSw); go_simp; all_goals with_reducible rfl
      simp only [Act.put, List.getElem_toArray, List.getElem_cons_zero, List.getElem_cons_succ, List.setIfInBounds_toArray, List.set_cons_zero, List.set_cons_succ]
      refine wpAnyH_done (by kernel_rfl) ?_ _
      have HB5 := Lib.hid (HB.out.trans (((Below.refl wr.heap.size wr).drew.trans hb5).mono HB.out.size))
      have HY5 := Lib.hid ((HY.out.below ((Below.refl wr.heap.size wr).drew.trans hb5) HGW.out).mono (Nat.le_trans HGW.out hb5.size))
      have HA5 := Lib.hid ((HA.out.below HB5.out (Nat.le_refl _)).mono HB5.out.size)
      have HF5 := Lib.hid hfr5
      clear hfr5 hb5 hHeld HC
      by_cases hE : cutE bs.length f0.seq f0.inc = 0
      · have hq2 : (cutE bs.length f0.seq f0.inc != 0) = false := by rw [hE]; rfl
        have hL : cutL bs f0.seq f0.inc = cutAll bs f0.seq f0.inc := by unfold cutL; rw [if_pos hE]
        rw [hL] at HF5 hl5 ⊢
        have HEq := Lib.hid (equalFunc_any l (cutAll bs f0.seq f0.inc) (some ⟨b, off, none⟩) A5 c c5 w5 HA5.out HF5.out (by omega) (by omega))
        have hJ2 : joinB l = decide (l = cutAll bs f0.seq f0.inc) := by
          rw [HJ.out, Bool.eq_iff_iff, decide_eq_true_eq, decide_eq_true_eq]
          exact ⟨fun h => h.2.symm, fun h => ⟨hE, h.symm⟩⟩
        have HJ2 := Lib.hid hJ2
        clear hE hL hJ2
        go_wp2_with fail
        refine HEq.out.mono ?_
        rintro e w6 ⟨rfl, hb6⟩
        have HB6 := Lib.hid (HB5.out.trans (hb6.mono HB5.out.size))
        have HY6 := Lib.hid ((HY5.out.below hb6 (Nat.le_refl _)).mono hb6.size)
        clear hb6
        by_cases he : l = cutAll bs f0.seq f0.inc
        · have HT := Lib.hid (show joinB l = true by rw [HJ2.out, decide_eq_true_eq]; exact he)
          have hd : decide (l = cutAll bs f0.seq f0.inc) = true := by rw [decide_eq_true_eq]; exact he
          clear he
          go_wp2
          go_ret2
          unfold JoinOut joinR joinE
          rw [if_pos HT.out, if_pos HT.out, ← HBS.out]
          exact ⟨some ⟨g, 0, none⟩, bs.length, rfl, HY6.out, Nat.le_refl _, by omega, (fun e => by cases e), HB6.out⟩
        · have HT := Lib.hid (show joinB l = false by rw [HJ2.out, decide_eq_false_iff_not]; exact he)
          have hd : decide (l = cutAll bs f0.seq f0.inc) = false := by rw [decide_eq_false_iff_not]; exact he
          clear he
          go_wp2
          go_ret2
          exact JoinOut.no HT.out HB6.out
      · have hq2 : (cutE bs.length f0.seq f0.inc != 0) = true := by rw [bne_iff_ne]; exact hE
        have HJ2 := Lib.hid (show joinB l = false by rw [HJ.out, decide_eq_false_iff_not]; exact fun h => hE h.1)
        clear hE
        go_wp2
        go_ret2
        exact JoinOut.no HJ2.out HB5.out
/-- P4.2: Join -/
theorem join_any (l : List Fr) (A : Option Addr) (c : Nat) (w : World) (hA : Frs w w.heap.size A l) (hl : l.length ≤ 1000000000) :
    Calls Tryd.prog 16 #[.slice A l.length c] w (JoinOut w l) := by
  by_cases h : 1 ≤ l.length ∧ l.length ≤ 2 ∧ l.all mayB = true
  · exact join_yes l A c w hA h.1 h.2.1 h.2.2
  · exact join_no l A c w hA hl h
end Go.Proofs.YtehkohnpfbdngaaDoor
