/-
  The developers' answers: all numbers' bytes, all blocks' bytes, one behind the other (joined).
-/
import Derived.Test.YtgkbhdecohlpmaaHDbytes
namespace Go.Proofs.Ytgkbhdecohlpmaa
set_option maxRecDepth 100000
open Go.RowKit
set_option maxRecDepth 100000

def partB (z : Nat → Int) (k : Nat) : List Nat := (List.range k).flatMap fun j => numH (z j).toNat (wdN j)
theorem partB_succ (z : Nat → Int) (k : Nat) : partB z (k + 1) = partB z k ++ numH (z k).toNat (wdN k) := by
  unfold partB
  rw [List.range_succ, List.flatMap_append, List.flatMap_singleton]
theorem wdN_ok (k : Nat) : 1 ≤ wdN k ∧ wdN k ≤ 6 := by unfold wdN; split <;> (try split) <;> (try split) <;> omega
theorem partB_len (z : Nat → Int) (k : Nat) : (partB z k).length ≤ k * 6 := by
  induction k with
  | zero => simp [partB]
  | succ k ih => rw [partB_succ, List.length_append, numH_len]; have := (wdN_ok k).2; omega
theorem supB_part {s : Sup} (hf : s.Fine) : supB s = partB (fun k => s.ints.getD k 0) 13 := by
  obtain ⟨m0, m1, m2, m3, m4, m5, m6, m7, hm⟩ := sup_map hf
  obtain ⟨g, t, o, i, b, m⟩ := s
  simp only at hm
  subst hm
  unfold supB partB
  rw [show List.range 13 = [0, 1, 2, 3, 4, 5, 6, 7, 8, 9, 10, 11, 12] from rfl]
  simp only [List.flatMap_cons, List.flatMap_nil, List.append_nil]
  simp [Sup.ints, wdN]
theorem may_fits {s : Sup} (hf : s.Fine) (h : mayP s) {k : Nat} (hk : k < 13) : ∃ x : Nat, s.ints.getD k 0 = (x : Int) ∧ x < 256 ^ wdN k := by
  have h1 := (may_nums hf).1 h k hk
  unfold okN inH at h1
  rw [decide_eq_true_eq] at h1
  have hlo : 0 ≤ loN k := by unfold loN; split <;> omega
  obtain ⟨x, hx⟩ := Int.eq_ofNat_of_zero_le (show 0 ≤ s.ints.getD k 0 by omega)
  refine ⟨x, hx, ?_⟩
  rw [hx] at h1
  have h2 := h1.2
  have : k = 0 ∨ k = 1 ∨ k = 2 ∨ k = 3 ∨ k = 4 ∨ 5 ≤ k := by omega
  rcases this with rfl | rfl | rfl | rfl | rfl | h5
  · simp [hiN, wdN] at h2 ⊢; omega
  · simp [hiN, wdN] at h2 ⊢; omega
  · simp [hiN, wdN] at h2 ⊢; omega
  · simp [hiN, wdN] at h2 ⊢; omega
  · simp [hiN, wdN] at h2 ⊢; omega
  · obtain ⟨j, rfl⟩ : ∃ j, k = 5 + j := ⟨k - 5, by omega⟩
    have e1 : hiN (5 + j) = 4 := by unfold hiN; rw [if_neg (by omega), if_neg (by omega), if_neg (by omega), if_neg (by omega)]
    have e2 : wdN (5 + j) = 1 := by unfold wdN; rw [if_neg (by omega), if_neg (by omega), if_neg (by omega)]
    rw [e1] at h2
    rw [e2]
    omega
theorem owns_keepH {w w' : World} {base : Nat} {e : TypeId} {size : Nat} {v : Value} {n : Nat} {xs : List Value} (h : w.ownsRow base e size v n xs) (hb : Below w.heap.size w w') : w'.ownsRow base e size v n xs := by
  obtain ⟨h1, h2⟩ := h
  refine ⟨h1, ?_⟩
  rcases h2 with h2 | ⟨g, cap, cur, hv, hg, hh, r⟩
  · exact Or.inl h2
  · exact Or.inr ⟨g, cap, cur, hv, hg, (hb.block g (Array.getElem?_eq_some_iff.1 hh).1).trans hh, r⟩
set_option maxHeartbeats 2000000 in
theorem joinN_dev (s : Sup) (hf : s.Fine) (hm : mayP s) (g b off c : Nat) (w : World) (hs : SupIn w g s) (hat : NumsAt w g b off) (hbl : b < w.heap.size) :
    Calls Try.prog 30 #[.slice (some ⟨b, off, none⟩) 13 c, .func (.func 31) #[] #[]] w fun e w' => ∃ v, e = .returned v ∧ New w w' (supB s) v := by
  have HC := Lib.hid (fun W (hW : Below w.heap.size w W) k (hk : k < 13) => (hs.below hW hs.lt).cell hf hk)
  have HAt := Lib.hid (fun W (hW : Below w.heap.size w W) => hat.below hW hbl)
  have HF := Lib.hid (fun k (hk : k < 13) => may_fits hf hm hk)
  have HSu := Lib.hid (supB_part hf)
  generalize supB s = sb at *
  obtain ⟨z, hz⟩ : ∃ z : Nat → Int, z = fun k => s.ints.getD k 0 := ⟨_, rfl⟩
  rw [← hz] at HSu
  replace HC := Lib.hid (show ∀ W, Below w.heap.size w W → ∀ k, k < 13 → W.cell? ⟨g, k, none⟩ = some (.int .i64 (z k)) by rw [hz]; exact HC.out)
  replace HF := Lib.hid (show ∀ k, k < 13 → ∃ x : Nat, z k = (x : Int) ∧ x < 256 ^ wdN k by rw [hz]; exact HF.out)
  clear hz hs hat hf hm
  go_enter Try.func30, Try.ntmps30
  go_wp2
  go_loopw [5, 10] (fun v i wr => ∃ k : Nat, k ≤ 13 ∧ i = .int .i64 (k : Int) ∧ Own wr w.heap.size (partB z k) v ∧ Below w.heap.size w wr) (fun _ i _ => 13 - (intOf i).toNat)
  case atStart => exact ⟨0, by omega, rfl, Own.nil_ _ _, Below.refl _ _⟩
  case round =>
    obtain ⟨k, hk, rfl, hown, hb⟩ := hrel
    have HBr := Lib.hid hb
    have HO := Lib.hid hown
    clear hb hown
    by_cases hlt : k < 13
    · have hki : (k : Int) < 13 := by omega
      have hw : IntKind.i64.wrap ((k : Int) + 1) = (k : Int) + 1 := by rw [IntKind.wrap_i64]; omega
      obtain ⟨l0, l1, l2, l3⟩ := (HAt.out wr HBr.out).four hlt
      obtain ⟨x, hx, hx6⟩ := HF.out k hlt
      have HPs := Lib.hid (show partB z (k + 1) = partB z k ++ numH x (wdN k) by rw [partB_succ, hx]; rfl)
      have HPl := Lib.hid (partB_len z k)
      have HNl := Lib.hid (show (numH x (wdN k)).length ≤ 6 by rw [numH_len]; exact (wdN_ok k).2)
      have HM := Lib.hid (show ∀ W, Below wr.heap.size wr W → Calls Try.prog 31 #[.agg #[.pointer (some ⟨g, k, none⟩), .int .i64 (wdN k : Nat), .int .i64 (loN k), .int .i64 (hiN k)]] W fun e w' => ∃ A c, e = .returned (.slice A (numH x (wdN k)).length c) ∧ By w' w'.heap.size A (numH x (wdN k)) ∧ (A = none → c = 0) ∧ Below W.heap.size W w' from fun W hW => nbytes_dev g k (wdN k) x _ _ W (by rw [← hx]; exact HC.out W (HBr.out.trans (hW.mono HBr.out.size)) k hlt) (wdN_ok k).1 (wdN_ok k).2 hx6)
      generalize partB z k = p0 at *
      generalize numH x (wdN k) = p1 at *
      obtain ⟨n1, hn1⟩ : ∃ n, n = p1.length := ⟨_, rfl⟩
      rw [← hn1] at HM HNl
      have HN1 := Lib.hid hn1
      obtain ⟨wd, hwd⟩ : ∃ x : Int, x = (wdN k : Nat) := ⟨_, rfl⟩
      rw [← hwd] at l1 HM
      generalize loN k = lo at *
      generalize hiN k = hi at *
      clear hwd hx hx6 hn1
      have HO2 := Lib.hid (HO.out.alloc (.cells #[.pointer (some ⟨g, k, none⟩), .int .i64 wd, .int .i64 lo, .int .i64 hi] 76))
      go_wp2_with (fail)
      refine (HM.out _ ((Below.refl _ _).alloc (Nat.le_refl _) _)).mono ?_
      rintro e w4 ⟨A4, c4, rfl, hy4, hA4, hb4⟩
      have HB5 := Lib.hid ((HBr.out.alloc HBr.out.size _).trans (hb4.mono (by rw [World.size_alloc]; have := HBr.out.size; omega)))
      have HO4 := Lib.hid (owns_keepH HO2.out hb4)
      have HY4 := Lib.hid hy4
      have HA4 := Lib.hid hA4
      clear hy4 hA4 hb4
      go_wp2_with (refine append_by rfl (.tmp 14) (.tmp 17) rfl w.heap.size p0 p1 _ rfl HO4.out A4 n1 c4 rfl HN1.out w4.heap.size HY4.out HA4.out (by rw [← HN1.out]; have := HPl.out; have := HNl.out; omega) w HB5.out HB5.out.size ?_; intro v5 w5 r1 r2; have HR1 := Lib.hid r1; have HR2 := Lib.hid r2; clear r1 r2)
      go_roundw
      case rel => exact ⟨k + 1, by omega, by simp, by rw [HPs.out]; exact HR1.out, HR2.out⟩
      case measure => simp [intOf]; omega
    · obtain rfl : k = 13 := by omega
      have HE := Lib.hid HSu.out.symm
      go_wp2
      go_ret
      refine ⟨_, rfl, ?_, HBr.out⟩
      have := HO.out
      rw [HE.out] at this
      exact this
theorem eightH {vs : List Nat} (h : vs.length = 8) : ∃ a b c d e f g i, vs = [a, b, c, d, e, f, g, i] := by
  match vs, h with
  | [a, b, c, d, e, f, g, i], _ => exact ⟨a, b, c, d, e, f, g, i, rfl⟩
theorem putv_dev (y0 y1 y2 y3 y4 y5 y6 y7 : Nat) (w : World) :
    Calls Try.prog 23 #[.agg #[.int .u8 (y0 : Int), .int .u8 (y1 : Int), .int .u8 (y2 : Int), .int .u8 (y3 : Int), .int .u8 (y4 : Int), .int .u8 (y5 : Int), .int .u8 (y6 : Int), .int .u8 (y7 : Int)]] w fun e w' =>
      e = .returned (.slice (some ⟨w.heap.size, 0, none⟩) 8 8) ∧ w' = w.alloc (.cells #[.int .u8 (y0 : Int), .int .u8 (y1 : Int), .int .u8 (y2 : Int), .int .u8 (y3 : Int), .int .u8 (y4 : Int), .int .u8 (y5 : Int), .int .u8 (y6 : Int), .int .u8 (y7 : Int)] 49) := by
  go_enter Try.func23, Try.ntmps23
  go_wp2
  go_ret
  exact ⟨rfl, rfl⟩
theorem take_len8 {l : List (List Nat)} (hl : ∀ v ∈ l, v.length = 8) (k : Nat) (hk : k ≤ l.length) : (l.take k).flatten.length = 8 * k := by
  rw [flat_len8 (l.take k) fun v hv => hl v (List.mem_of_mem_take hv), List.length_take, Nat.min_eq_left hk]
theorem flat_at {l : List (List Nat)} (hl : ∀ v ∈ l, v.length = 8) (k : Nat) (hk : k < l.length) (j : Nat) (hj : j < 8) : l.flatten.getD (k * 8 + j) 0 = (l[k]).getD j 0 := by
  have h8 := hl l[k] (List.getElem_mem hk)
  have e : l.flatten = (l.take k).flatten ++ (l[k] ++ (l.drop (k + 1)).flatten) := by
    rw [← List.flatten_cons, ← List.flatten_append, List.getElem_cons_drop, List.take_append_drop]
  have ht := take_len8 hl k (by omega)
  rw [e, List.getD_eq_getElem?_getD, List.getD_eq_getElem?_getD, List.getElem?_append_right (by omega), ht, List.getElem?_append_left (by omega), show k * 8 + j - 8 * k = j by omega]
set_option maxHeartbeats 2000000 in
theorem joinV_dev (l : List (List Nat)) (A : Option Addr) (c : Nat) (w : World) (hv : VFine l) (hy : By w w.heap.size A l.flatten) (h4 : l.length = 4) :
    Calls Try.prog 22 #[.slice A 4 c, .func (.func 23) #[] #[]] w fun e w' => ∃ v, e = .returned v ∧ New w w' l.flatten v := by
  have h8 : ∀ v ∈ l, v.length = 8 := fun v hx => (hv v hx).1
  have hfl := flat_len8 l h8
  obtain ⟨b, off, rfl, hbl, hcell⟩ := hy.at_ (by omega)
  have HCe := Lib.hid (fun W (hW : Below w.heap.size w W) k (hk : k < l.length) j (hj : j < 8) => show W.cell? ⟨b, off + k * 8 + j, none⟩ = some (.int .u8 ((l[k]).getD j 0 : Nat)) by
    rw [hW.cell (p := ⟨b, off + k * 8 + j, none⟩) hbl, Nat.add_assoc, hcell (k * 8 + j) (by omega), flat_at h8 k hk j hj])
  have HV := Lib.hid hv
  have H4 := Lib.hid h4
  clear hy hcell hfl h4 hv
  have H8 := Lib.hid h8
  clear h8
  go_enter Try.func22, Try.ntmps22
  go_wp2
  go_loopw [5, 10] (fun v i wr => ∃ k : Nat, k ≤ 4 ∧ i = .int .i64 (k : Int) ∧ Own wr w.heap.size (l.take k).flatten v ∧ Below w.heap.size w wr) (fun _ i _ => 4 - (intOf i).toNat)
  case atStart => exact ⟨0, by omega, rfl, Own.nil_ _ _, Below.refl _ _⟩
  case round =>
    obtain ⟨k, hk, rfl, hown, hb⟩ := hrel
    have HBr := Lib.hid hb
    have HO := Lib.hid hown
    clear hb hown
    by_cases hlt : k < 4
    · have hki : (k : Int) < 4 := by omega
      have hw : IntKind.i64.wrap ((k : Int) + 1) = (k : Int) + 1 := by rw [IntKind.wrap_i64]; omega
      have hkl : k < l.length := by rw [H4.out]; exact hlt
      have hc := fun j hj => HCe.out wr HBr.out k hkl j hj
      have HPs := Lib.hid (show (l.take (k + 1)).flatten = (l.take k).flatten ++ l[k] by rw [List.take_succ_eq_append_getElem hkl, List.flatten_append]; simp)
      have HPl := Lib.hid (take_len8 H8.out k (by omega))
      have hx8 := HV.out l[k] (List.getElem_mem hkl)
      generalize l[k] = x at *
      generalize (l.take k).flatten = p0 at *
      obtain ⟨y0, y1, y2, y3, y4, y5, y6, y7, rfl⟩ := eightH hx8.1
      have c0 := hc 0 (by omega)
      have c1 := hc 1 (by omega)
      have c2 := hc 2 (by omega)
      have c3 := hc 3 (by omega)
      have c4 := hc 4 (by omega)
      have c5 := hc 5 (by omega)
      have c6 := hc 6 (by omega)
      have c7 := hc 7 (by omega)
      simp only [List.getD_cons_zero, List.getD_cons_succ, Nat.add_zero] at c0 c1 c2 c3 c4 c5 c6 c7
      clear hc
      have HX := Lib.hid hx8.2
      have HM := Lib.hid (fun W => putv_dev y0 y1 y2 y3 y4 y5 y6 y7 W)
      have HO2 := Lib.hid ((HO.out.alloc (.cells (vals [y0, y1, y2, y3, y4, y5, y6, y7]).toArray 49)).alloc (.cells (vals [y0, y1, y2, y3, y4, y5, y6, y7]).toArray 49))
      clear hx8
      go_wp2_with (fail)
      refine (HM.out _).mono ?_
      rintro e w4 ⟨rfl, hw4⟩
      have HB5 := Lib.hid (show Below w.heap.size w w4 by rw [hw4]; exact (HBr.out.alloc HBr.out.size _).alloc (by rw [World.size_alloc]; have := HBr.out.size; omega) _)
      have HO4 := Lib.hid (show Own w4 w.heap.size p0 _ by rw [hw4]; exact HO2.out)
      have HY4 := Lib.hid (show By w4 w4.heap.size (some ⟨wr.heap.size + 1, 0, none⟩) [y0, y1, y2, y3, y4, y5, y6, y7] by
        rw [hw4, ← World.size_alloc wr (.cells (vals [y0, y1, y2, y3, y4, y5, y6, y7]).toArray 49)]
        exact (By.of_row (bs := [y0, y1, y2, y3, y4, y5, y6, y7]) (heap_alloc_new _ _) rfl HX.out).mono (by simp))
      clear hw4
      go_wp2_with (refine append_by rfl (.tmp 14) (.tmp 17) rfl w.heap.size p0 [y0, y1, y2, y3, y4, y5, y6, y7] _ rfl HO4.out (some ⟨wr.heap.size + 1, 0, none⟩) 8 8 rfl rfl w4.heap.size HY4.out (by intro e; cases e) (by have := HPl.out; simp; omega) w HB5.out HB5.out.size ?_; intro v5 w5 r1 r2; have HR1 := Lib.hid r1; have HR2 := Lib.hid r2; clear r1 r2)
      go_roundw
      case rel => exact ⟨k + 1, by omega, by simp, by rw [HPs.out]; exact HR1.out, HR2.out⟩
      case measure => simp [intOf]; omega
    · obtain rfl : k = 4 := by omega
      have HE := Lib.hid (show (l.take 4).flatten = l.flatten by rw [List.take_of_length_le (by rw [H4.out]; omega)])
      go_wp2
      go_ret
      refine ⟨_, rfl, ?_, HBr.out⟩
      have := HO.out
      rw [HE.out] at this
      exact this
end Go.Proofs.Ytgkbhdecohlpmaa
