/-
  The document's own Value and ReadValues, by contract.
-/
import Derived.Test.YtaapkohcembjbaaReadValues
namespace Go.Proofs.Ytaapkohcembjbaa
open Go.RowKit

/-- an array that is filled from its first place on -/
def fill (bs : List Nat) (k : Nat) : Array Value := ((vals bs).take k ++ Z8.drop k).toArray
theorem fill_zero (bs : List Nat) : fill bs 0 = #[.int .u8 0, .int .u8 0, .int .u8 0, .int .u8 0, .int .u8 0, .int .u8 0, .int .u8 0, .int .u8 0] := by simp [fill, Z8]
theorem fill_size (bs : List Nat) (k : Nat) (h : bs.length = 8) (hk : k ≤ 8) : (fill bs k).size = 8 := by simp [fill, Z8, vals_length, h]; omega
theorem fill_all (bs : List Nat) (h : bs.length = 8) : fill bs 8 = (vals bs).toArray := by
  unfold fill
  rw [List.take_of_length_le (by rw [vals_length]; omega), List.drop_of_length_le (by simp [Z8]), List.append_nil]
theorem fill_set (bs : List Nat) (k : Nat) (h : bs.length = 8) (hk : k < 8) : (fill bs k).setIfInBounds k (.int .u8 (bs.getD k 0 : Nat)) = fill bs (k + 1) := by
  unfold fill
  have h1 : ((vals bs).take k).length = k := by rw [List.length_take, vals_length]; omega
  have h2 : (vals bs)[k]? = some (.int .u8 (bs.getD k 0 : Nat)) := by
    unfold vals
    rw [List.getElem?_map, List.getElem?_eq_getElem (by omega), Option.map_some, getD_at _ _ (by omega)]
  have h3 : Z8.drop k = .int .u8 0 :: Z8.drop (k + 1) := by
    rcases (show k = 0 ∨ k = 1 ∨ k = 2 ∨ k = 3 ∨ k = 4 ∨ k = 5 ∨ k = 6 ∨ k = 7 by omega) with rfl | rfl | rfl | rfl | rfl | rfl | rfl | rfl <;> rfl
  obtain ⟨hlt, e⟩ := List.getElem?_eq_some_iff.1 h2
  rw [List.take_succ_eq_append_getElem hlt, e, h3]
  simp [List.set_append, h1]

set_option maxHeartbeats 1000000 in
theorem rvalue_any (bs : List Nat) (hn : bs.length = 8) (A : Option Addr) (c : Nat) (w : World) (hA : By w w.heap.size A bs) :
    Calls Try.prog 17 #[.slice A bs.length c] w fun e w' => e = .returned (.tuple #[arr bs, .int .i64 0]) ∧ Below w.heap.size w w' := by
  have HI := Lib.hid (arr_info bs hn)
  have H1 := Lib.hid (arr_one bs)
  have HS := Lib.hid (arr_size bs hn)
  have HA := Lib.hid hA
  rw [hn]
  clear hA
  go_enter Try.func17, Try.ntmps17
  go_wp2
  go_loopw [5] (fun i wr => ∃ k : Nat, k ≤ 8 ∧ i = .int .i64 k ∧ wr.heap[w.heap.size + 1]? = some (.cells (fill bs k) 36 (0, 0)) ∧ wr.heap[w.heap.size]? = some (.cells (fill bs 0) 36 (0, 0)) ∧ Below w.heap.size w wr) (fun i _ => 8 - (intOf i).toNat)
  case atStart =>
    rw [fill_zero]
    exact ⟨0, by omega, rfl, by rw [fill_zero]; exact heap_alloc2_new w _ _, heap_alloc2_old w _ _, ((Below.refl w.heap.size w).alloc (Nat.le_refl _) _).alloc (by simp) _⟩
  case round =>
    obtain ⟨k, hk, rfl, h1, h0, hb⟩ := hrel
    by_cases hlt : k < 8
    · obtain ⟨b, off, rfl, hbw, hcells⟩ := HA.out.at_ (by omega)
      have hcell := (hb.cell (p := ⟨b, off + k, none⟩) hbw).trans (hcells _ (by omega))
      obtain ⟨v, hc⟩ : ∃ v, wr.cell? ⟨w.heap.size + 1, k, none⟩ = some v := ⟨(fill bs k)[k]'(by rw [fill_size _ _ hn hk]; exact hlt), by rw [cell_of_row wr _ k _ _ _ h1]; simp⟩
      have hfr := frozen_of_row wr (w.heap.size + 1) k _ _ h1
      have HN := Lib.hid ((heap_setCell_same wr (w.heap.size + 1) k _ _ (.int .u8 (bs.getD k 0 : Nat)) h1).trans (by rw [fill_set bs k hn hlt]))
      have HO := Lib.hid (show (wr.setCell ⟨w.heap.size + 1, k, none⟩ (.int .u8 (bs.getD k 0 : Nat))).heap[w.heap.size]? = some (.cells (fill bs 0) 36 (0, 0)) by rw [heap_setCell_other _ _ _ _ (by simp)]; exact h0)
      have HB := Lib.hid (hb.setCell (p := ⟨w.heap.size + 1, k, none⟩) (by simp) (.int .u8 (bs.getD k 0 : Nat)))
      generalize bs.getD k 0 = r at *
      clear h1 h0 hb hcells
      go_wp2
      go_roundw
      case rel => exact ⟨k + 1, by omega, by go_num, HN.out, HO.out, HB.out⟩
      case measure => simp [intOf]; omega
    · obtain rfl : k = 8 := by omega
      rw [fill_all bs hn] at h1
      have L1 := Lib.hid h1
      have L0 := Lib.hid h0
      have LS := Lib.hid (show (fill bs 0).size = (vals bs).toArray.size by rw [fill_size _ _ hn (by omega)]; simp [vals_length, hn])
      clear h1 h0
      go_wp2_with (first
        | (refine wpList_load_row rfl 36 _ rfl (w.heap.size + 1) rfl 36 (vals bs).toArray (0, 0) _ L1.out Try.underlying36 rfl HI.out ?_)
        | (refine wpList_store_row rfl 36 _ _ rfl w.heap.size (vals bs).toArray rfl rfl 36 _ L0.out HI.out LS.out H1.out ?_))
      exact bodyPost_ret (results_arr rfl _ _ w.heap.size bs hn rfl (setRow_heap _ _ _ _ _ _ L0.out)) rfl ⟨rfl, below_setRow hb (Nat.le_refl _) _⟩

set_option maxHeartbeats 400000 in
theorem rvalue_no (n : Nat) (hn : ¬ n = 8) (A : Option Addr) (c : Nat) (w : World) :
    Calls Try.prog 17 #[.slice A n c] w fun e w' => e = .returned (.tuple #[arr zero8, .int .i64 2]) ∧ Below w.heap.size w w' := by
  have hn' : ((n : Int) != 8) = true := by simp; omega
  have HI := Lib.hid (arr_info zero8 rfl)
  have H1 := Lib.hid (arr_one zero8)
  have H0 := Lib.hid (heap_alloc2_new w (.cells (vals zero8).toArray 36) (.cells (vals zero8).toArray 36))
  have HR := Lib.hid (heap_alloc2_old w (.cells (vals zero8).toArray 36) (.cells (vals zero8).toArray 36))
  have B0 := Lib.hid (((Below.refl w.heap.size w).alloc (Nat.le_refl _) (.cells (vals zero8).toArray 36)).alloc (by simp) (.cells (vals zero8).toArray 36))
  have HZ := Lib.hid (show vals zero8 = [.int .u8 0, .int .u8 0, .int .u8 0, .int .u8 0, .int .u8 0, .int .u8 0, .int .u8 0, .int .u8 0] from rfl)
  rw [HZ.out] at H0 B0 HR HI H1
  go_enter Try.func17, Try.ntmps17
  go_wp2_with (first
    | (refine wpList_load_row rfl 36 _ rfl (w.heap.size + 1) rfl 36 #[.int .u8 0, .int .u8 0, .int .u8 0, .int .u8 0, .int .u8 0, .int .u8 0, .int .u8 0, .int .u8 0] (0, 0) _ H0.out Try.underlying36 rfl HI.out ?_)
    | (refine wpList_store_row rfl 36 _ _ rfl w.heap.size #[.int .u8 0, .int .u8 0, .int .u8 0, .int .u8 0, .int .u8 0, .int .u8 0, .int .u8 0, .int .u8 0] rfl rfl 36 _ HR.out HI.out rfl H1.out ?_))
  have hr := setRow_heap _ _ _ #[.int .u8 0, .int .u8 0, .int .u8 0, .int .u8 0, .int .u8 0, .int .u8 0, .int .u8 0, .int .u8 0] _ _ HR.out
  have hB := below_setRow B0.out (Nat.le_refl _) #[.int .u8 0, .int .u8 0, .int .u8 0, .int .u8 0, .int .u8 0, .int .u8 0, .int .u8 0, .int .u8 0]
  exact bodyPost_ret (results_arr rfl _ _ w.heap.size zero8 rfl rfl hr) rfl ⟨rfl, hB⟩

/-- a row of n blocks of one's own, in a block from base on, that holds the bytes bs -/
def OwnV (w : World) (base n : Nat) (bs : List Nat) (v : Value) : Prop := w.ownsRow base 36 8 v n (vals bs)
theorem OwnV.nil_ (w : World) (base : Nat) : OwnV w base 0 [] (.slice none 0 0) := ⟨rfl, Or.inl ⟨rfl, rfl⟩⟩
theorem OwnV.alloc {w : World} {base n : Nat} {bs : List Nat} {v : Value} (h : OwnV w base n bs v) (o : Obj) : OwnV (w.alloc o) base n bs v := World.ownsRow.alloc h o
/-- append(v, x), v a row of blocks of one's own, x a block. -/
theorem append_val {w : World} {ops : Array Oper} {rest : List Oper} {o : Oper} {a : Act} {Q : Exit → Act → World → Prop} (hgd : o.guard = none) (s x : Operand)
    (ho : o.op = .call { callee := .builtin .append, args := #[s, x], argTypes := #[32, 32] }) (base n : Nat) (bs ds : List Nat) (v : Value) (hs : a.eval s = v) (hown : OwnV w base n bs v)
    (ad : Addr) (c : Nat) (hx : a.eval x = .slice (some ad) 1 c) (hd : ds.length = 8) (hD : ∀ j u, (vals ds)[j]? = some u → w.cell? (ad.add j) = some u) (hl : n ≤ 1000000) (w0 : World) (hb : Below base w0 w) (hbase : base ≤ w.heap.size)
    (h : ∀ v' w', OwnV w' base (n + 1) (bs ++ ds) v' → Below base w0 w' → wpList Try.prog ops Q rest (a.put o.dst v') w') : wpList Try.prog ops Q (o :: rest) a w := by
  obtain ⟨i0, hi, hz0, hz1, hz2⟩ := info_parts Try.info36
  refine wpList_append_own w hgd s x 32 ho base 36 i0 _ 8 8 Try.underlying32 hi hz0 hz1 hz2 rfl (by decide) v n (vals bs) hs hown ad 1 c (vals ds) hx (by rw [vals_length, hd]) hD vals_one (by unfold maxLen; omega) (by omega) hbase ?_
  intro v' w' hown' hgrow _
  refine h v' w' ?_ (hb.grown hgrow hbase ?_)
  · unfold OwnV
    rw [vals_append]
    exact hown'
  · exact own_ge hown

set_option maxHeartbeats 400000 in
theorem rread_no (m : Nat) (h : ¬ m % 8 = 0) (A : Option Addr) (c : Nat) (w : World) (hm : m ≤ 1000000000) :
    Calls Try.prog 15 #[.slice A m c] w fun e w' => e = .returned (.tuple #[.slice none 0 0, .int .i64 40]) ∧ w = w' := by
  go_enter Try.func15, Try.ntmps15
  go_wp2_with fail
  go_ret2
  exact ⟨rfl, rfl⟩

theorem OwnV.below {w w' : World} {base n : Nat} {bs : List Nat} {v : Value} (h : OwnV w base n bs v) (hb : Below w.heap.size w w') : OwnV w' base n bs v := by
  obtain ⟨h1, h2⟩ := h
  refine ⟨h1, ?_⟩
  rcases h2 with h2 | ⟨g, cap, cur, hv, hg, hh, r⟩
  · exact Or.inl h2
  · have hlt : g < w.heap.size := by
      rcases Nat.lt_or_ge g w.heap.size with h | h
      · exact h
      · rw [Array.getElem?_eq_none h] at hh; cases hh
    exact Or.inr ⟨g, cap, cur, hv, hg, (hb.block g hlt).trans hh, r⟩
theorem laid_from : ∀ (vs Z pre : List Value), vs.length ≤ Z.length → List.foldl (fun (cs : Array Value) (x : Value × Nat) => cs.setIfInBounds x.snd x.fst) (pre ++ Z).toArray (vs.zipIdx pre.length) = (pre ++ (vs ++ Z.drop vs.length)).toArray := by
  intro vs
  induction vs with
  | nil => intro Z pre _; simp
  | cons v t ih =>
    intro Z pre h
    cases Z with
    | nil => simp at h
    | cons z r =>
      rw [List.zipIdx_cons, List.foldl_cons]
      have e : (pre ++ z :: r).toArray.setIfInBounds pre.length v = ((pre ++ [v]) ++ r).toArray := by simp [List.set_append]
      have hi := ih r (pre ++ [v]) (by simpa using h)
      rw [List.length_append, List.length_singleton] at hi
      rw [e, hi]
      simp
theorem laid8 (vs : List Value) (h : vs.length = 8) : List.foldl (fun (cs : Array Value) (x : Value × Nat) => cs.setIfInBounds x.snd x.fst) #[.int .u8 0, .int .u8 0, .int .u8 0, .int .u8 0, .int .u8 0, .int .u8 0, .int .u8 0, .int .u8 0] vs.zipIdx = vs.toArray := by
  have hi := laid_from vs Z8 [] (by rw [h]; exact Nat.le_refl _)
  rw [List.drop_of_length_le (by rw [h]; exact Nat.le_refl _)] at hi
  simpa [Z8] using hi

set_option maxHeartbeats 1000000 in
theorem rread_yes (bs : List Nat) (n : Nat) (hn : bs.length = 8 * n) (A : Option Addr) (c : Nat) (w : World) (hA : By w w.heap.size A bs) (hc : bs.length ≤ c) (hl : n ≤ 1000000) (hcm : c ≤ maxLen) :
    Calls Try.prog 15 #[.slice A bs.length c] w fun e w' => ∃ v, e = .returned (.tuple #[v, .int .i64 0]) ∧ NewV w w' n bs v := by
  have HA := Lib.hid hA
  have HN := Lib.hid hn
  rw [hn] at hc ⊢
  unfold maxLen at hcm
  clear hA
  go_enter Try.func15, Try.ntmps15
  go_wp2
  go_loopw [4, 5, 6, 7] (fun v i _ _ wr => ∃ k : Nat, k ≤ n ∧ i = .int .i64 ((k * 8 : Nat) : Int) ∧ OwnV wr w.heap.size k (bs.take (k * 8)) v ∧ Below w.heap.size w wr) (fun _ i _ _ _ => n * 8 - (intOf i).toNat)
  case atStart => exact ⟨0, by omega, rfl, by simpa using OwnV.nil_ w w.heap.size, Below.refl _ _⟩
  case round =>
    obtain ⟨k, hk, rfl, hv, hb⟩ := hrel
    rw [show ((k * 8 : Nat) : Int) = (k : Int) * 8 by omega]
    by_cases hlt : k < n
    · obtain ⟨b, off, rfl, hbw, hcells⟩ := HA.out.at_ (by omega)
      have hd8 : ((bs.drop (k * 8)).take 8).length = 8 := by rw [List.length_take, List.length_drop]; omega
      have hy := (((HA.out.below hb (Nat.le_refl _)).mono hb.size).drop (c := c) (k * 8) (by omega)).take 8
      have hne : ¬ c = k * 8 := by omega
      rw [if_neg hne, Option.map_some, add_flat] at hy
      have HT := Lib.hid (show bs.take (k * 8) ++ (bs.drop (k * 8)).take 8 = bs.take ((k + 1) * 8) by rw [← List.take_add]; congr 1; omega)
      have HW := Lib.hid (rvalue_any _ hd8 _ (c - k * 8) wr hy)
      rw [hd8] at HW
      have H8 := Lib.hid hd8
      have HI := Lib.hid (arr_info _ hd8)
      have H1 := Lib.hid (arr_one ((bs.drop (k * 8)).take 8))
      have HS := Lib.hid (arr_size _ hd8)
      have HV := Lib.hid hv
      have HB := Lib.hid hb
      generalize (bs.drop (k * 8)).take 8 = D at *
      clear hv hb hcells hy hd8
      go_wp2_with fail
      refine HW.out.mono ?_
      rintro e w5 ⟨rfl, hw5⟩
      have HB5 := Lib.hid (HB.out.trans (hw5.mono HB.out.size))
      have H0 := Lib.hid (heap_alloc_new w5 (.cells Z8.toArray 36))
      have HZ := Lib.hid (show Z8 = [.int .u8 0, .int .u8 0, .int .u8 0, .int .u8 0, .int .u8 0, .int .u8 0, .int .u8 0, .int .u8 0] from rfl)
      have HR := Lib.hid (setRow_heap _ _ _ (vals D).toArray _ _ H0.out)
      have HB6 := Lib.hid (below_setRow (HB5.out.alloc HB5.out.size (.cells Z8.toArray 36)) HB5.out.size (vals D).toArray)
      rw [HZ.out] at H0 HR HS HB6
      have n1 : (vals D).length = 8 := by rw [vals_length]; exact H8.out
      have HF := Lib.hid (laid8 (vals D) n1)
      have HO := Lib.hid ((HV.out.below hw5).below (below_setRow ((Below.refl w5.heap.size w5).alloc (Nat.le_refl _) (.cells Z8.toArray 36)) (Nat.le_refl _) (vals D).toArray))
      have HG := Lib.hid (show w5.heap.size + 1 = ((w5.alloc (.cells Z8.toArray 36)).setRow w5.heap.size (vals D).toArray).heap.size by simp [World.setRow])
      rw [HZ.out] at HO HG
      clear hw5
      go_wp2_with (first
        | (refine wpList_store_row rfl 36 _ _ rfl w5.heap.size (vals D).toArray rfl rfl 36 _ H0.out HI.out HS.out H1.out ?_)
        | (refine wpList_load_row rfl 36 _ rfl w5.heap.size rfl 36 (vals D).toArray (0, 0) _ HR.out Try.underlying36 rfl HI.out ?_)
        | (at_builtin; rw [HF.out]; refine append_val rfl (.tmp 27) (.tmp 29) rfl w.heap.size k (bs.take (k * 8)) D _ rfl (HO.out.alloc _) ⟨w5.heap.size + 1, 0, none⟩ 1 rfl H8.out ?_ (by omega) w (HB6.out.alloc HB6.out.size _) ?_ ?_; (rw [HG.out]; exact new_cells rfl); (exact Nat.le_trans HB6.out.size (by simp)); intro v7 w7 hv7 hb7; rw [HT.out] at hv7))
      go_roundw
      case rel => exact ⟨k + 1, by omega, by go_num, hv7, hb7⟩
      case measure => simp [intOf]; omega
    · obtain rfl : k = n := by omega
      rw [List.take_of_length_le (by omega)] at hv
      go_wp2
      go_ret2
      exact ⟨_, rfl, hv, hb⟩
end Go.Proofs.Ytaapkohcembjbaa
