/-
  PackBack, by contract.
-/
import Derived.Test.YtaapkohcembjbaaVals
import Derived.BigQuiet
import Derived.Deep.RegionHeld3
import Derived.WalkSmall
namespace Go.Proofs.Ytaapkohcembjbaa
open Go.RowKit

theorem back_num (al : List Nat) (x m : Nat) (hx : x < 256 ^ m) : num (((al ++ dig x m).drop al.length).take m) = x := by
  rw [List.drop_left, List.take_of_length_le (by rw [dig_length]; exact Nat.le_refl _), num_dig m x hx]

theorem By.drewN {w : World} {B : Nat} {A : Option Addr} {bs : List Nat} (h : By w B A bs) (n : Nat) : By (w.drewN n) B A bs := h.keep fun _ _ => rfl
/-- What holds while a number is put. -/
def RS (w0 : World) (b off k x m : Nat) (A : Option Addr) (al : List Nat) (W : World) : Prop :=
  W.cell? ⟨b, off + k * 2, none⟩ = some (.int .i64 (x : Int)) ∧ W.cell? ⟨b, off + k * 2 + 1, none⟩ = some (.int .i64 (m : Int)) ∧ By W w0.heap.size A al ∧ Below w0.heap.size w0 W ∧ b < w0.heap.size
section
variable {w0 W W' : World} {b off k x m : Nat} {A : Option Addr} {al : List Nat}
theorem RS.below (hb : Below W.heap.size W W') (h : RS w0 b off k x m A al W) : RS w0 b off k x m A al W' := by
  obtain ⟨h0, h1, h2, h3, h4⟩ := h
  have hz := h3.size
  exact ⟨(hb.cell (by simp; omega)).trans h0, (hb.cell (by simp; omega)).trans h1, h2.below hb hz, h3.trans (hb.mono hz), h4⟩
theorem RS.drew (h : RS w0 b off k x m A al W) : RS w0 b off k x m A al W.drew := ⟨h.1, h.2.1, h.2.2.1.drew, h.2.2.2.1.drew, h.2.2.2.2⟩
theorem RS.by_ (h : RS w0 b off k x m A al W) : By W W.heap.size A al := h.2.2.1.mono h.2.2.2.1.size
end
theorem quiet_call {f : FuncId} {args : Array Value} {v : Value} (h : ∀ w, Calls Try.prog f args w fun e w' => e = .returned v ∧ w = w') (W : World) (n : Nat) : Calls Try.prog f args (W.drewN n) fun e w'' => e = .returned v ∧ ∃ m, w'' = W.drewN m :=
  Calls.quiet_of_same ((h _).mono fun _ _ h => ⟨h.1, h.2.symm⟩)

set_option maxRecDepth 100000 in
set_option maxHeartbeats 1000000 in
theorem back_small (zs : List Int) (n : Nat) (bs vs : List Nat) (nv : Nat) (L A V : Option Addr) (cl c cv : Nat) (w : World) (hL : Ints w w.heap.size L zs) (hz : zs.length = 2 * n) (hn : n ≤ 100)
    (hA : By w w.heap.size A bs) (hA0 : A = none → c = 0) (hc : bs.length ≤ c) (hcm : c ≤ maxLen) (hl : bs.length ≤ 8000) (hV : By w w.heap.size V vs) (hv : vs.length = 8 * nv) (hnv : nv ≤ 1000) :
    Calls Try.prog 5 #[.slice L n cl, .slice A bs.length c, .slice V nv cv] w fun e w' => e = .returned (.bool true) ∧ Below w.heap.size w w' := by
  have hb1 : ¬ 100 < n := by omega
  have hb2 : ¬ 8000 < bs.length := by omega
  have hb3 : ¬ 1000 < nv := by omega
  have HL := Lib.hid hL
  have HA := Lib.hid hA
  have HA0 := Lib.hid hA0
  have HC := Lib.hid hc
  have HM := Lib.hid hcm
  have HV := Lib.hid hV
  have HZ := Lib.hid hz
  have HVL := Lib.hid hv
  clear hL hA hA0 hc hcm hV hz hv
  go_enter Try.func5, Try.ntmps5
  go_wp2
  go_loopw [7, 8, 9, 10, 11, 12] (fun a i _ _ _ _ wr => ∃ (k : Nat) (al : List Nat) (A' : Option Addr) (c' : Nat), k ≤ n ∧ i = .int .i64 k ∧ a = .slice A' al.length c' ∧ By wr wr.heap.size A' al ∧ (A' = none → c' = 0) ∧ al.length ≤ 8000 + 6 * k ∧ Below w.heap.size w wr) (fun _ i _ _ _ _ _ => n - (intOf i).toNat)
  case atStart => exact ⟨0, bs, A, c, by omega, rfl, rfl, HA.out, HA0.out, by omega, Below.refl _ _⟩
  case round =>
    obtain ⟨k, al, A', c', hk, rfl, rfl, hy, hA', hal, hb⟩ := hrel
    by_cases hlt : k < n
    · have hzl := HZ.out
      obtain ⟨b, off, rfl, hbw, hcells⟩ := HL.out (by omega)
      have a0 := (hb.cell (p := ⟨b, off + k * 2, none⟩) hbw).trans (hcells (k * 2) (by omega))
      have a1 := (hb.cell (p := ⟨b, off + (k * 2 + 1), none⟩) hbw).trans (hcells (k * 2 + 1) (by omega))
      rw [← Nat.add_assoc] at a1
      clear hcells hzl
      generalize zs.getD (k * 2) 0 = z0 at *
      generalize zs.getD (k * 2 + 1) 0 = z1 at *
      have HY := Lib.hid hy
      have HY0 := Lib.hid hA'
      have HB := Lib.hid hb
      clear hy hA' hb
      cases hf : fits z0 z1 with
      | false =>
        have hp := put_no al.length z0 z1 hf A' c'
        have hq := fits_any z0 z1
        rw [hf] at hq
        have P := Lib.hid hp
        have F := Lib.hid hq
        clear hp hq hf
        have n0 := Lib.hid (show (k : Int) < (n : Int) by omega)
        go_wp2_with fail
        go_quiet (exact quiet_call P.out _ _)
        have d0 : (wr.drewN nq).cell? ⟨b, off + k * 2, none⟩ = some (.int .i64 z0) := a0
        have d1 : (wr.drewN nq).cell? ⟨b, off + k * 2 + 1, none⟩ = some (.int .i64 z1) := a1
        have HY2 : Hid (By (wr.drewN nq) (wr.drewN nq).heap.size A' al) := HY.out.drewN nq
        have HB2 := Lib.hid (below_drewN HB.out nq)
        generalize wr.drewN nq = w1 at d0 d1 HY2 HB2 ⊢
        clear a0 a1 HY HB P
        go_wp2_with fail
        go_quiet (exact quiet_call F.out _ _)
        have HY3 : Hid (By (w1.drewN nq) (w1.drewN nq).heap.size A' al) := HY2.out.drewN nq
        have HB3 := Lib.hid (below_drewN HB2.out nq)
        generalize w1.drewN nq = w2 at HY3 HB3 ⊢
        clear d0 d1 HY2 HB2 F
        go_wp2
        go_roundw
        case rel => exact ⟨k + 1, al, A', c', by omega, by go_num, rfl, HY3.out, HY0.out, by omega, HB3.out⟩
        case measure => simp [intOf]; omega
      | true =>
        obtain ⟨x, m, rfl, rfl, m1, m6, hx⟩ := fits_of hf
        have hq := fits_any (x : Int) (m : Int)
        rw [hf] at hq
        have F := Lib.hid hq
        have n0 := Lib.hid (show (k : Int) < (n : Int) by omega)
        have hh : RS wr b off k x m A' al wr := ⟨a0, a1, HY.out, Below.refl _ _, Nat.lt_of_lt_of_le hbw HB.out.size⟩
        clear hq hf a0 a1
        go_wp2_with fail
        go_region_held3 (fun W => W.cell? ⟨b, off + k * 2, none⟩ = some (.int .i64 (x : Int)) ∧ W.cell? ⟨b, off + k * 2 + 1, none⟩ = some (.int .i64 (m : Int)) ∧ By W wr.heap.size A' al ∧ Below wr.heap.size wr W ∧ b < wr.heap.size)
          (first | assumption | exact RS.drew hh | exact RS.below (by assumption) (by assumption))
          (first | (go_at_call 7; refine (put_yes al x m hx m1 m6 A' c' _ ?_ ?_).mono ?_; (exact RS.by_ (by assumption)); (omega); rintro e w' ⟨v', rfl, hv'⟩; have hw' := hv'.2))
        rename_i hH
        have hps : ∀ y ∈ al ++ dig x m, y < 256 := fun y hy => (List.mem_append.1 hy).elim (HY.out.1 y) (dig_lt m x y)
        obtain ⟨A2, c2, rfl, hy2, hle2, hcm2, hn2, _⟩ := hv'.slice hps
        have hPn := back_num al x m hx
        have hPl : (al ++ dig x m).length = al.length + m := by rw [List.length_append, dig_length]
        have hPt : (al ++ dig x m).take al.length = al := List.take_left
        generalize al ++ dig x m = P at *
        have e0 := hH.1
        have e1 := hH.2.1
        have E1 := Lib.hid (hH.2.2.1.mono hH.2.2.2.1.size)
        have E2 := Lib.hid hy2
        have E3 := Lib.hid (HB.out.trans (hH.2.2.2.1.mono HB.out.size))
        have PN := Lib.hid hPn
        have PL := Lib.hid hPl
        have PT := Lib.hid hPt
        have N2 := Lib.hid hn2
        have LE := Lib.hid hle2
        clear hH hh hv' hw' hy2 hPn hPl hPt hps hn2 hle2 hcm2
        go_wp2_with fail
        go_quiet (exact quiet_call F.out _ _)
        have d0 : (w'.drewN nq).cell? ⟨b, off + k * 2, none⟩ = some (.int .i64 (x : Int)) := e0
        have d1 : (w'.drewN nq).cell? ⟨b, off + k * 2 + 1, none⟩ = some (.int .i64 (m : Int)) := e1
        have D1 : Hid (By (w'.drewN nq) (w'.drewN nq).heap.size A' al) := E1.out.drewN nq
        have D2 : Hid (By (w'.drewN nq) (w'.drewN nq).heap.size A2 P) := E2.out.drewN nq
        have D3 := Lib.hid (below_drewN E3.out nq)
        generalize w'.drewN nq = w1 at d0 d1 D1 D2 D3 ⊢
        clear e0 e1 E1 E2 E3 F
        go_wp2_with fail
        have G := get_yes P al.length m m1 m6 (by rw [PL.out]; exact Nat.le_refl _) A2 c2 w1 D2.out (by rw [PL.out]; omega)
        rw [PN.out] at G
        have D4 : By w1 w1.heap.size A2 al := by
          have h := D2.out.take al.length
          rwa [PT.out] at h
        have BS := Lib.hid (bytes_same al A2 A' c2 c' w1 D4 D1.out)
        refine G.mono ?_
        rintro e w3 ⟨rfl, rfl⟩
        have q1 : ((x : Int) != (x : Int)) = false := by simp
        have q2 : ((P.length : Int) != (al.length : Int) + (m : Int)) = false := by rw [PL.out]; simp
        have q3 : (al.length : Int) ≤ (c2 : Int) := by have := LE.out; rw [PL.out] at this; omega
        have q4 : (0 : Int) ≤ (al.length : Int) := by omega
        clear G D4
        go_wp2_with fail
        refine BS.out.mono ?_
        rintro e w4 ⟨rfl, rfl⟩
        go_wp2
        go_roundw
        case rel => exact ⟨k + 1, P, A2, c2, by omega, by go_num, rfl, D2.out, N2.out, by rw [PL.out]; omega, D3.out⟩
        case measure => simp [intOf]; omega
    · obtain rfl : k = n := by omega
      have HB := Lib.hid hb
      have VW := Lib.hid (values_any vs nv HVL.out V cv wr ((HV.out.below hb (Nat.le_refl _)).mono hb.size) (by omega))
      clear hy hA' hb
      go_wp2_with fail
      refine VW.out.mono ?_
      rintro e w1 ⟨v1, rfl, hv1⟩
      obtain ⟨A1, c1, rfl, hy1, hle1, _⟩ := hv1.slice HV.out.1
      have hb1 := hv1.2
      have RW := Lib.hid (read_yes vs nv HVL.out A1 c1 w1 hy1 hle1 (by omega))
      have HB1 := Lib.hid (HB.out.trans (hb1.mono HB.out.size))
      clear hv1 hy1 hle1 hb1 VW
      go_wp2_with fail
      refine RW.out.mono ?_
      rintro e w2 ⟨v2, rfl, hv2⟩
      obtain ⟨A2, c2, rfl, hy2⟩ := hv2.slice HV.out.1 HVL.out
      have hb2 := hv2.2
      have HB2 := Lib.hid (HB1.out.trans (hb2.mono HB1.out.size))
      have SW := Lib.hid (values_same vs nv HVL.out A2 V c2 cv w2 hy2 ((HV.out.below HB2.out (Nat.le_refl _)).mono HB2.out.size) (by omega))
      clear hv2 hy2 hb2 RW HB1
      go_wp2_with fail
      refine SW.out.mono ?_
      rintro e w3 ⟨rfl, hb3⟩
      have HB3 := Lib.hid (HB2.out.trans (hb3.mono HB2.out.size))
      clear hb3 SW HB2
      have HA3 := Lib.hid ((HA.out.below HB3.out (Nat.le_refl _)).mono HB3.out.size)
      by_cases h8 : bs.length % 8 = 0
      · have hn8 : bs.length = 8 * (bs.length / 8) := by omega
        have r8 : (((bs.length : Int) % 8) != 0) = false := by simp; omega
        have RB := Lib.hid (read_yes bs (bs.length / 8) hn8 A c w3 HA3.out HC.out (by omega))
        have HN8 := Lib.hid hn8
        clear hn8
        generalize bs.length / 8 = nb at *
        go_wp2_with fail
        refine RB.out.mono ?_
        rintro e w4 ⟨v4, rfl, hv4⟩
        obtain ⟨A4, c4, rfl, hy4⟩ := hv4.slice HA.out.1 HN8.out
        have HB4 := Lib.hid (HB3.out.trans (hv4.2.mono HB3.out.size))
        have VB := Lib.hid (values_any bs nb HN8.out A4 c4 w4 hy4 (by have := HN8.out; omega))
        clear hv4 hy4
        go_wp2_with fail
        refine VB.out.mono ?_
        rintro e w5 ⟨v5, rfl, hv5⟩
        obtain ⟨A5, c5, rfl, hy5, _⟩ := hv5.slice HA.out.1
        have HB5 := Lib.hid (HB4.out.trans (hv5.2.mono HB4.out.size))
        have SB := Lib.hid (bytes_same bs A5 A c5 c w5 hy5 ((HA.out.below HB5.out (Nat.le_refl _)).mono HB5.out.size))
        clear hv5 hy5
        go_wp2_with fail
        refine SB.out.mono ?_
        rintro e w6 ⟨rfl, rfl⟩
        go_wp2_with fail
        refine (wakes_any w5).mono ?_
        rintro e w7 ⟨rfl, hb7⟩
        have hB := HB5.out.trans (hb7.mono HB5.out.size)
        clear hb7
        go_wp2
        go_ret
        exact ⟨rfl, hB⟩
      · have r8 : (((bs.length : Int) % 8) != 0) = true := by simp; omega
        have RB := Lib.hid (read_no bs.length h8 A c w3 (by omega))
        go_wp2_with fail
        refine RB.out.mono ?_
        rintro e w4 ⟨rfl, rfl⟩
        go_wp2_with fail
        refine (wakes_any w3).mono ?_
        rintro e w7 ⟨rfl, hb7⟩
        have hB := HB3.out.trans (hb7.mono HB3.out.size)
        clear hb7
        go_wp2
        go_ret
        exact ⟨rfl, hB⟩
end Go.Proofs.Ytaapkohcembjbaa
