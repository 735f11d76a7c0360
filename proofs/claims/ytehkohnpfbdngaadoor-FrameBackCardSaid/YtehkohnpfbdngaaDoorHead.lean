/-
  The widths that the program lays; numbers, head, by contract.
-/
import Derived.Test.YtehkohnpfbdngaaDoorAllMay
import Derived.Test.YtehkohnpfbdngaaDoorPut
namespace Go.Proofs.YtehkohnpfbdngaaDoor
open Go.RowKit

/-- the table of widths lies where the program lays it -/
def Widths (w : World) : Prop :=
  0 < w.heap.size ∧ w.cell? ⟨0, 0, none⟩ = some (.int .i64 6) ∧ w.cell? ⟨0, 1, none⟩ = some (.int .i64 3) ∧ w.cell? ⟨0, 2, none⟩ = some (.int .i64 1) ∧ w.cell? ⟨0, 3, none⟩ = some (.int .i64 1) ∧ w.cell? ⟨0, 4, none⟩ = some (.int .i64 4)
theorem Widths.below {w w' : World} (h : Widths w) (hb : Below w.heap.size w w') : Widths w' := by
  obtain ⟨h0, h1, h2, h3, h4, h5⟩ := h
  exact ⟨Nat.lt_of_lt_of_le h0 hb.size, (hb.cell (by simp; omega)).trans h1, (hb.cell (by simp; omega)).trans h2, (hb.cell (by simp; omega)).trans h3, (hb.cell (by simp; omega)).trans h4, (hb.cell (by simp; omega)).trans h5⟩

/-- the numbers ahead of the load -/
def headB (f : Fr) : List Nat := dig f.seq.toNat 6 ++ dig f.inc.toNat 3 ++ dig (16 * f.part.toNat + f.of.toNat) 1 ++ dig f.load.length 1 ++ dig f.mark 4
theorem or_small (p o : Nat) (hp : p < 2) (ho : o < 3) : bits .or .i64 ((p : Int) * 16) (o : Int) = ((16 * p + o : Nat) : Int) := by
  have e : p * 16 ||| o = 16 * p + o := by
    have hp' : p = 0 ∨ p = 1 := by omega
    have ho' : o = 0 ∨ o = 1 ∨ o = 2 := by omega
    rcases hp' with rfl | rfl <;> rcases ho' with rfl | rfl | rfl <;> rfl
  have h := i64_or_nat (p * 16) o (by omega) (by omega)
  rw [e] at h
  rw [← h]; rfl
/-- a frame that may be, by natural numbers -/
theorem may_nat {f : Fr} (h : mayB f = true) : ∃ s i p o : Nat, f.seq = s ∧ f.inc = i ∧ f.part = p ∧ f.of = o ∧ 1 ≤ s ∧ s ≤ 1099511627776 ∧ i ≤ 1048576 ∧ p < 2 ∧ o < 3 ∧ p < o ∧ 1 ≤ f.load.length ∧ f.load.length ≤ 45 := by
  unfold mayB at h
  rw [decide_eq_true_eq] at h
  exact ⟨f.seq.toNat, f.inc.toNat, f.part.toNat, f.of.toNat, by omega, by omega, by omega, by omega, by omega, by omega, by omega, by omega, by omega, by omega, by omega, by omega⟩
theorem Tryd.info58 : (Tryd.prog.info? 58).map (·.size) = some 5 := by kernel_rfl

set_option maxHeartbeats 1000000 in
theorem numbers_any (f : Fr) (A : Option Addr) (c : Nat) (w : World) (hm : mayB f = true) (hk : f.mark < 4294967296) :
    Calls Tryd.prog 32 #[.agg (frv A c f).toArray] w fun e w' => e = .returned (.agg #[.int .i64 (f.seq.toNat : Nat), .int .i64 (f.inc.toNat : Nat), .int .i64 (16 * f.part.toNat + f.of.toNat : Nat), .int .i64 f.load.length, .int .i64 (f.mark : Nat)]) ∧ Below w.heap.size w w' := by
  obtain ⟨s, i, p, o, e1, e2, e3, e4, b1, b2, b3, b4, b5, b6, b7, b8⟩ := may_nat hm
  obtain ⟨seq, inc, part, of, mark, load⟩ := f
  dsimp only at e1 e2 e3 e4 b7 b8 hk ⊢
  subst e1 e2 e3 e4
  unfold frv
  simp only [Int.toNat_natCast]
  have ho := or_small p o b4 b5
  have hsh : IntKind.i64.wrap ((p : Int) * 16) = (p : Int) * 16 := by rw [IntKind.wrap_i64]; omega
  clear hm
  go_enter Tryd.func32, Tryd.ntmps32
  go_wp2
  exact bodyPost_ret (results_cell_row rfl _ _ (w.heap.size + 1) 58 _ (0, 0) _ rfl (heap_alloc2_new w _ _) Tryd.underlying58 rfl Tryd.info58) rfl ⟨by simp, ((Below.refl _ _).alloc (Nat.le_refl _) _).alloc (by simp) _⟩

/-- what head has made behind k rounds -/
def preB (f : Fr) : Nat → List Nat
  | 0 => []
  | 1 => dig f.seq.toNat 6
  | 2 => dig f.seq.toNat 6 ++ dig f.inc.toNat 3
  | 3 => dig f.seq.toNat 6 ++ dig f.inc.toNat 3 ++ dig (16 * f.part.toNat + f.of.toNat) 1
  | 4 => dig f.seq.toNat 6 ++ dig f.inc.toNat 3 ++ dig (16 * f.part.toNat + f.of.toNat) 1 ++ dig f.load.length 1
  | _ => headB f
theorem pre_le (f : Fr) (k : Nat) : (preB f k).length ≤ 15 := by
  match k with
  | 0 => simp [preB]
  | 1 => simp [preB, dig_length]
  | 2 => simp [preB, dig_length]
  | 3 => simp [preB, dig_length]
  | 4 => simp [preB, dig_length]
  | _ + 5 => simp [preB, headB, dig_length]
theorem pre_lt (f : Fr) (k : Nat) : ∀ x ∈ preB f k, x < 256 := by
  have h : ∀ x ∈ headB f, x < 256 := by
    intro x hx
    simp only [headB, List.mem_append] at hx
    rcases hx with ((((hx | hx) | hx) | hx) | hx) <;> exact dig_lt _ _ x hx
  intro x hx
  apply h
  match k with
  | 0 => simp [preB] at hx
  | 1 => simp only [preB] at hx; simp [headB, hx]
  | 2 => simp only [preB] at hx; simp only [headB, List.mem_append] at hx ⊢; simp [hx]
  | 3 => simp only [preB] at hx; simp only [headB, List.mem_append] at hx ⊢; simp [hx]
  | 4 => simp only [preB] at hx; simp only [headB, List.mem_append] at hx ⊢; simp [hx]
  | _ + 5 => simpa [preB] using hx
theorem headB_length (f : Fr) : (headB f).length = 15 := by simp [headB, dig_length]

set_option maxRecDepth 100000 in
set_option maxHeartbeats 2000000 in
theorem head_any (f : Fr) (A : Option Addr) (c : Nat) (w : World) (hm : mayB f = true) (hk : f.mark < 4294967296) (hW : Widths w) :
    Calls Tryd.prog 17 #[.agg (frv A c f).toArray] w fun e w' => ∃ A' c', e = .returned (.slice A' 15 c') ∧ By w' w'.heap.size A' (headB f) ∧ Below w.heap.size w w' := by
  obtain ⟨s', i', p, o, e1, e2, e3, e4, b1, b2, b3, b4, b5, b6, b7, b8⟩ := may_nat hm
  have HNum := Lib.hid (numbers_any f A c (w.alloc (.cells (frv A c f).toArray 25)) hm hk)
  have HPre := Lib.hid (headB_length f)
  have HL := Lib.hid (pre_le f)
  have HX := Lib.hid (pre_lt f)
  have HH := Lib.hid (show preB f 5 = headB f from rfl)
  have hN0 : preB f 0 ++ dig f.seq.toNat 6 = preB f 1 := rfl
  have hN1 : preB f 1 ++ dig f.inc.toNat 3 = preB f 2 := rfl
  have hN2 : preB f 2 ++ dig (16 * f.part.toNat + f.of.toNat) 1 = preB f 3 := rfl
  have hN3 : preB f 3 ++ dig f.load.length 1 = preB f 4 := rfl
  have hN4 : preB f 4 ++ dig f.mark 4 = preB f 5 := rfl
  have hs : f.seq.toNat < 256 ^ 6 := by have : (256 : Nat) ^ 6 = 281474976710656 := by decide
                                        omega
  have hi : f.inc.toNat < 256 ^ 3 := by have : (256 : Nat) ^ 3 = 16777216 := by decide
                                        omega
  have hp : 16 * f.part.toNat + f.of.toNat < 256 ^ 1 := by omega
  have hl : f.load.length < 256 ^ 1 := by omega
  have hk4 : f.mark < 256 ^ 4 := by have : (256 : Nat) ^ 4 = 4294967296 := by decide
                                    omega
  have HB0 := Lib.hid ((Below.refl w.heap.size w).alloc (Nat.le_refl _) (.cells (frv A c f).toArray 25))
  have HW := Lib.hid hW
  have h0 : preB f 0 = [] := rfl
  generalize f.seq.toNat = s at *
  generalize f.inc.toNat = i at *
  generalize 16 * f.part.toNat + f.of.toNat = po at *
  have hlen : (f.load.length : Int) = ((f.load.length : Nat) : Int) := rfl
  unfold frv at *
  generalize hL : f.load.length = l at *
  generalize f.mark = m at *
  generalize preB f = P at *
  generalize headB f = H at *
  have HN0 := Lib.hid hN0
  have HN1 := Lib.hid hN1
  have HN2 := Lib.hid hN2
  have HN3 := Lib.hid hN3
  have HN4 := Lib.hid hN4
  have HP0 := Lib.hid h0
  clear hm e1 e2 e3 e4 hN0 hN1 hN2 hN3 hN4 h0 hW hlen hL
  go_enter Tryd.func17, Tryd.ntmps17
  go_wp2_with fail
  refine HNum.out.mono ?_
  rintro e w1 ⟨rfl, hb1⟩
  have HB1 := Lib.hid (HB0.out.trans (hb1.mono HB0.out.size))
  clear hb1 HNum
  go_wp2
  go_loopw [3, 8] (fun v q wr => ∃ k : Nat, k ≤ 5 ∧ q = .int .i64 k ∧ ∃ A' c', v = .slice A' (P k).length c' ∧ By wr wr.heap.size A' (P k) ∧ Below w.heap.size w wr) (fun _ q _ => 5 - (intOf q).toNat)
  case atStart => exact ⟨0, by omega, rfl, none, 0, by rw [HP0.out]; rfl, by rw [HP0.out]; exact By.nil_, HB1.out⟩
  case round =>
    obtain ⟨k, hk', rfl, A', c', rfl, hy, hb⟩ := hrel
    have HY := Lib.hid hy
    have HB := Lib.hid hb
    obtain ⟨_, t0, t1, t2, t3, t4⟩ := HW.out.below hb
    clear hy hb
    by_cases hlt : k < 5
    · rcases five_ways hlt with rfl | rfl | rfl | rfl | rfl
      · have hx : ∀ W, (Instr.index 58 (.agg #[.int .i64 s, .int .i64 i, .int .i64 po, .int .i64 l, .int .i64 m]) (.int .i64 0)).run Tryd.prog W = .ok (.int .i64 s) W := fun W =>
          run_index_cell (P := Tryd.prog) W 58 3 5 0 #[.int .i64 s, .int .i64 i, .int .i64 po, .int .i64 l, .int .i64 m] Tryd.underlying58 .i64 Tryd.underlying3 (by kernel_rfl) (by omega) _ rfl
        have HP := Lib.hid (put_yes (P 0) s 6 hs (by omega) (by omega) A' c' wr HY.out (by have := HL.out 0; omega))
        rw [HN0.out] at HP
        go_wp2_with fail
        refine HP.out.mono ?_
        rintro e w2 ⟨v, rfl, hv⟩
        have hb2 := hv.2
        obtain ⟨A2, c2, rfl, hy2, _⟩ := hv.slice (HX.out _)
        have HY2 := Lib.hid hy2
        have HB2 := Lib.hid (HB.out.trans (hb2.mono HB.out.size))
        clear hv hy2 hb2
        go_wp2
        go_roundw
        case rel => exact ⟨0 + 1, by omega, by go_num, A2, c2, rfl, HY2.out, HB2.out⟩
        case measure => simp [intOf]
      · have hx : ∀ W, (Instr.index 58 (.agg #[.int .i64 s, .int .i64 i, .int .i64 po, .int .i64 l, .int .i64 m]) (.int .i64 1)).run Tryd.prog W = .ok (.int .i64 i) W := fun W =>
          run_index_cell (P := Tryd.prog) W 58 3 5 1 #[.int .i64 s, .int .i64 i, .int .i64 po, .int .i64 l, .int .i64 m] Tryd.underlying58 .i64 Tryd.underlying3 (by kernel_rfl) (by omega) _ rfl
        have HP := Lib.hid (put_yes (P 1) i 3 hi (by omega) (by omega) A' c' wr HY.out (by have := HL.out 1; omega))
        rw [HN1.out] at HP
        go_wp2_with fail
        refine HP.out.mono ?_
        rintro e w2 ⟨v, rfl, hv⟩
        have hb2 := hv.2
        obtain ⟨A2, c2, rfl, hy2, _⟩ := hv.slice (HX.out _)
        have HY2 := Lib.hid hy2
        have HB2 := Lib.hid (HB.out.trans (hb2.mono HB.out.size))
        clear hv hy2 hb2
        go_wp2
        go_roundw
        case rel => exact ⟨1 + 1, by omega, by go_num, A2, c2, rfl, HY2.out, HB2.out⟩
        case measure => simp [intOf]
      · have hx : ∀ W, (Instr.index 58 (.agg #[.int .i64 s, .int .i64 i, .int .i64 po, .int .i64 l, .int .i64 m]) (.int .i64 2)).run Tryd.prog W = .ok (.int .i64 po) W := fun W =>
          run_index_cell (P := Tryd.prog) W 58 3 5 2 #[.int .i64 s, .int .i64 i, .int .i64 po, .int .i64 l, .int .i64 m] Tryd.underlying58 .i64 Tryd.underlying3 (by kernel_rfl) (by omega) _ rfl
        have HP := Lib.hid (put_yes (P 2) po 1 hp (by omega) (by omega) A' c' wr HY.out (by have := HL.out 2; omega))
        rw [HN2.out] at HP
        go_wp2_with fail
        refine HP.out.mono ?_
        rintro e w2 ⟨v, rfl, hv⟩
        have hb2 := hv.2
        obtain ⟨A2, c2, rfl, hy2, _⟩ := hv.slice (HX.out _)
        have HY2 := Lib.hid hy2
        have HB2 := Lib.hid (HB.out.trans (hb2.mono HB.out.size))
        clear hv hy2 hb2
        go_wp2
        go_roundw
        case rel => exact ⟨2 + 1, by omega, by go_num, A2, c2, rfl, HY2.out, HB2.out⟩
        case measure => simp [intOf]
      · have hx : ∀ W, (Instr.index 58 (.agg #[.int .i64 s, .int .i64 i, .int .i64 po, .int .i64 l, .int .i64 m]) (.int .i64 3)).run Tryd.prog W = .ok (.int .i64 l) W := fun W =>
          run_index_cell (P := Tryd.prog) W 58 3 5 3 #[.int .i64 s, .int .i64 i, .int .i64 po, .int .i64 l, .int .i64 m] Tryd.underlying58 .i64 Tryd.underlying3 (by kernel_rfl) (by omega) _ rfl
        have HP := Lib.hid (put_yes (P 3) l 1 hl (by omega) (by omega) A' c' wr HY.out (by have := HL.out 3; omega))
        rw [HN3.out] at HP
        go_wp2_with fail
        refine HP.out.mono ?_
        rintro e w2 ⟨v, rfl, hv⟩
        have hb2 := hv.2
        obtain ⟨A2, c2, rfl, hy2, _⟩ := hv.slice (HX.out _)
        have HY2 := Lib.hid hy2
        have HB2 := Lib.hid (HB.out.trans (hb2.mono HB.out.size))
        clear hv hy2 hb2
        go_wp2
        go_roundw
        case rel => exact ⟨3 + 1, by omega, by go_num, A2, c2, rfl, HY2.out, HB2.out⟩
        case measure => simp [intOf]
      · have hx : ∀ W, (Instr.index 58 (.agg #[.int .i64 s, .int .i64 i, .int .i64 po, .int .i64 l, .int .i64 m]) (.int .i64 4)).run Tryd.prog W = .ok (.int .i64 m) W := fun W =>
          run_index_cell (P := Tryd.prog) W 58 3 5 4 #[.int .i64 s, .int .i64 i, .int .i64 po, .int .i64 l, .int .i64 m] Tryd.underlying58 .i64 Tryd.underlying3 (by kernel_rfl) (by omega) _ rfl
        have HP := Lib.hid (put_yes (P 4) m 4 hk4 (by omega) (by omega) A' c' wr HY.out (by have := HL.out 4; omega))
        rw [HN4.out] at HP
        go_wp2_with fail
        refine HP.out.mono ?_
        rintro e w2 ⟨v, rfl, hv⟩
        have hb2 := hv.2
        obtain ⟨A2, c2, rfl, hy2, _⟩ := hv.slice (HX.out _)
        have HY2 := Lib.hid hy2
        have HB2 := Lib.hid (HB.out.trans (hb2.mono HB.out.size))
        clear hv hy2 hb2
        go_wp2
        go_roundw
        case rel => exact ⟨4 + 1, by omega, by go_num, A2, c2, rfl, HY2.out, HB2.out⟩
        case measure => simp [intOf]
    · obtain rfl : k = 5 := by omega
      have hy := HY.out
      rw [HH.out] at hy
      have HY2 := Lib.hid hy
      clear hy
      rw [HH.out, HPre.out]
      go_wp2
      go_ret
      exact ⟨A', c', rfl, HY2.out, HB.out⟩
end Go.Proofs.YtehkohnpfbdngaaDoor
