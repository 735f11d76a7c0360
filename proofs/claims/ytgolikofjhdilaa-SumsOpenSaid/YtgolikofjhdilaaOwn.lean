/-
  SumsOwn, by contract.
-/
import Derived.Test.YtgolikofjhdilaaStr
namespace Go.Proofs.Ytgolikofjhdilaa
open Go.RowKit

/-- Block g holds n bytes, whichever. -/
def Wr (w : World) (g n : Nat) : Prop := ∃ cur, w.heap[g]? = some (.cells cur 5 (0, 0)) ∧ ∀ j, j < n → ∃ z : Nat, z < 256 ∧ cur[j]? = some (.int .u8 (z : Int))
theorem Wr.at_ {w : World} {g n j : Nat} (h : Wr w g n) (hj : j < n) : ∃ z : Nat, z < 256 ∧ w.cell? ⟨g, j, none⟩ = some (.int .u8 (z : Int)) ∧ w.frozen? ⟨g, j, none⟩ = false := by
  obtain ⟨cur, hg, hc⟩ := h
  obtain ⟨z, hz, e⟩ := hc j hj
  exact ⟨z, hz, by rw [cell_of_row w g j cur _ _ hg]; exact e, frozen_of_row w g j cur _ hg⟩
theorem Wr.set_ {w : World} {g n j z : Nat} (h : Wr w g n) (hz : z < 256) : Wr (w.setCell ⟨g, j, none⟩ (.int .u8 (z : Int))) g n := by
  obtain ⟨cur, hg, hc⟩ := h
  refine ⟨_, heap_setCell_same w g j cur _ _ hg, fun i hi => ?_⟩
  obtain ⟨y, hy, e⟩ := hc i hi
  have hlt : i < cur.size := (Array.getElem?_eq_some_iff.1 e).1
  by_cases hij : j = i
  · subst hij
    exact ⟨z, hz, by rw [Array.getElem?_setIfInBounds_self_of_lt hlt]⟩
  · exact ⟨y, hy, by rw [Array.getElem?_setIfInBounds_ne hij]; exact e⟩
theorem only_refl (w : World) (row : Option Nat) : w.grownBy w row := ⟨rfl, rfl, rfl, Nat.le_refl _, fun _ _ _ => rfl⟩
theorem only_set {a w : World} {g j : Nat} (h : a.grownBy w (some g)) (u : Value) : a.grownBy (w.setCell ⟨g, j, none⟩ u) (some g) :=
  ⟨h.os, h.tape, h.output, by simpa [World.setCell] using h.size, fun i hi hne => (Below.heap_setCell w ⟨g, j, none⟩ u i (fun e => hne (by rw [e]))).trans (h.block i hi hne)⟩
theorem only_below {a w : World} {g B : Nat} (h : a.grownBy w (some g)) (hB : B ≤ g) (hs : B ≤ a.heap.size) : Below B a w :=
  ⟨h.os, h.tape, h.output, h.size, fun k hk => h.block k (by omega) (fun e => by cases e; omega)⟩
/-- A slice in another block reads as it did. -/
theorem By.only {a w : World} {g : Nat} {B : Nat} {A : Option Addr} {bs : List Nat} (h : By a B A bs) (hB : B ≤ a.heap.size) (hg : a.grownBy w (some g)) (hne : ∀ b, A = some b → b.block ≠ g) : By w B A bs :=
  ⟨h.1, fun hn => by
    obtain ⟨b, off, e, hb, hc⟩ := h.2 hn
    exact ⟨b, off, e, hb, fun j hj => (World.cell?_of_block (w := a) (hg.block b (by omega) (fun e2 => hne _ e (by cases e2; rfl)))).trans (hc j hj)⟩⟩
/-- What the call made, as a block of its own. -/
theorem New.block {w w' : World} {bs : List Nat} {v : Value} (h : New w w' bs v) (hb : ∀ x ∈ bs, x < 256) (hn : 0 < bs.length) :
    ∃ g c, v = .slice (some ⟨g, 0, none⟩) bs.length c ∧ By w' w'.heap.size (some ⟨g, 0, none⟩) bs ∧ bs.length ≤ c ∧ c ≤ maxLen ∧ w.heap.size ≤ g ∧ g < w'.heap.size ∧ Wr w' g bs.length := by
  have h' := h
  obtain ⟨⟨_, h2⟩, _⟩ := h
  rcases h2 with ⟨_, h0⟩ | ⟨g, cap, cur, rfl, hg, hh, hle, hc, _, ht⟩
  · omega
  have hlt : g < w'.heap.size := by
    rcases Nat.lt_or_ge g w'.heap.size with h | h
    · exact h
    · rw [Array.getElem?_eq_none h] at hh; cases hh
  have hy : By w' w'.heap.size (some ⟨g, 0, none⟩) bs := (By.of_row hh (by rw [Nat.mul_one] at ht; exact ht) hb).mono hlt
  refine ⟨g, cap, rfl, hy, hle, hc, hg, hlt, cur, hh, fun j hj => ?_⟩
  obtain ⟨b, off, e, _, hcell⟩ := hy.at_ hn
  cases e
  have hj' := hcell j hj
  rw [Nat.zero_add, cell_of_row w' g j cur _ _ hh] at hj'
  exact ⟨bs.getD j 0, by rw [getD_at _ _ hj]; exact hb _ (List.getElem_mem hj), hj'⟩

theorem u8_xor_lt (z y : Nat) (hz : z < 256) (hy : y < 256) : z ^^^ y < 256 := Nat.xor_lt_two_pow (n := 8) hz hy

set_option maxHeartbeats 1000000 in
theorem own_some (bs : List Nat) (y : Nat) (hy : y < 256) (A : Option Addr) (c : Nat) (w : World) (hby : By w w.heap.size A bs) (hc : bs.length ≤ c) (hl : bs.length ≤ 20000) (hpos : 0 < bs.length) :
    Calls Try.prog 6 #[.slice A bs.length c, .int .u8 (y : Int)] w fun e w' => e = .returned (.bool true) ∧ Below w.heap.size w w' := by
  have hlb : ¬ 20000 < bs.length := by omega
  have k0 := conv_str w hby c
  have hA : ∀ b, A = some b → b.block < w.heap.size := fun b e => by
    obtain ⟨b', off, e', hlt, _⟩ := hby.at_ hpos
    rw [e] at e'; cases e'; exact hlt
  have HA := Lib.hid hA
  have HS := Lib.hid (seal_any bs A c w hby hc (by omega))
  have hsl := Crc.sealed_lt hby.1
  have hbl := hby.1
  have hsn := Crc.sealed_length bs
  have HSE := Lib.hid (Crc.isSealed_sealed bs)
  have HT := Lib.hid (show (Crc.sealed bs).take ((Crc.sealed bs).length - 4) = bs by rw [hsn, Nat.add_sub_cancel]; simp [Crc.sealed])
  generalize Crc.sealed bs = sb at *
  have HN := Lib.hid hsn
  have HB := Lib.hid hbl
  have HSL := Lib.hid hsl
  have HY := Lib.hid hby
  clear hsn hbl hsl hby hA
  go_enter Try.func6, Try.ntmps6
  go_wp2_with fail
  refine HS.out.mono ?_
  rintro e w1 ⟨v, rfl, hnew⟩
  have hb1 := hnew.2
  obtain ⟨g, cs, rfl, hys, hcs, hcsm, hg0, hg1, hwr⟩ := hnew.block HSL.out (by rw [HN.out]; omega)
  have HO := Lib.hid (open_sealed sb (some ⟨g, 0, none⟩) cs w1 hys hcs (by rw [HN.out]; omega) HSE.out)
  rw [HN.out, Nat.add_sub_cancel] at HO
  rw [HN.out] at hwr hcs ⊢
  clear hys hnew HS
  go_wp2_with fail
  refine HO.out.mono ?_
  have hT := HT.out
  rw [HN.out, Nat.add_sub_cancel] at hT
  rw [hT]
  clear hT
  rintro e w2 ⟨x, rfl, hx⟩
  have hb2 := hx.2
  obtain ⟨gx, cx, rfl, hyx, hcx, hcxm, hx0, hx1, hwx⟩ := hx.block HB.out hpos
  have hyb := ((HY.out.below hb1 (Nat.le_refl _)).below hb2 hb1.size).mono (Nat.le_trans hb1.size hb2.size)
  have hBw2 := hb1.trans (hb2.mono hb1.size)
  have HYX := Lib.hid hyx
  have HYB := Lib.hid hyb
  clear hyx hyb hx HO k0
  go_wp2
  go_loopw [9, 36] (fun _ i wr => ∃ k : Nat, k ≤ bs.length + 4 ∧ i = .int .i64 k ∧ Wr wr g (bs.length + 4) ∧ w2.grownBy wr (some g)) (fun _ i _ => bs.length + 4 - (intOf i).toNat)
  case atStart => exact ⟨0, by omega, rfl, by obtain ⟨cur, hg, hc⟩ := hwr; exact ⟨cur, (hb2.block g hg1).trans hg, hc⟩, only_refl _ _⟩
  case round =>
    obtain ⟨k, hk, rfl, hwr', hon⟩ := hrel
    by_cases hlt : k < bs.length + 4
    · obtain ⟨z, hz, hcell, hfr⟩ := hwr'.at_ hlt
      have hx8 := u8_xor_nat z y hz hy
      have hzy := u8_xor_lt z y hz hy
      have HW := Lib.hid (hwr'.set_ (j := k) hzy)
      have HON := Lib.hid (only_set (j := k) hon (.int .u8 ((z ^^^ y : Nat) : Int)))
      generalize z ^^^ y = q at hx8 HW HON
      clear hwr' hon hzy
      go_wp2
      go_roundw
      case rel => exact ⟨k + 1, by omega, by go_num, HW.out, HON.out⟩
      case measure => simp [intOf]; omega
    · obtain rfl : k = bs.length + 4 := by omega
      have hyx := HYX.out.only (Nat.le_refl _) hon (fun b e => by cases e; show gx ≠ g; omega)
      have hyb := HYB.out.only (Nat.le_refl _) hon (fun b e => by have := HA.out b e; omega)
      have kx := conv_str wr hyx cx
      have kb := conv_str wr hyb c
      have hBr := hBw2.trans (only_below hon hg0 (Nat.le_trans hb1.size hb2.size))
      have hwx2 : Wr wr gx bs.length := by
        obtain ⟨cur, hg, hc⟩ := hwx
        exact ⟨cur, (hon.block gx hx1 (fun e => by cases e; omega)).trans hg, hc⟩
      have hgx : w.heap.size ≤ gx := Nat.le_trans hb1.size hx0
      have HYB2 := Lib.hid (hyb.mono hon.size)
      have HON := Lib.hid hon.size
      clear hyx hyb hwr' hon hwx HYX HYB hb1 hb2 hx0 hx1 hg0 hg1 hBw2
      go_wp2
      obtain ⟨wo, rfl⟩ : ∃ wo : World, wo = wr := ⟨_, rfl⟩
      go_loopw [10, 61] (fun _ i wr => ∃ k : Nat, k ≤ bs.length ∧ i = .int .i64 k ∧ Wr wr gx bs.length ∧ wo.grownBy wr (some gx)) (fun _ i _ => bs.length - (intOf i).toNat)
      case atStart => exact ⟨0, by omega, rfl, hwx2, only_refl _ _⟩
      case round =>
        obtain ⟨k, hk2, rfl, hwr', hon⟩ := hrel
        by_cases hlt2 : k < bs.length
        · obtain ⟨z, hz, hcell, hfr⟩ := hwr'.at_ hlt2
          have hx8 := u8_xor_nat z y hz hy
          have hzy := u8_xor_lt z y hz hy
          have HW := Lib.hid (hwr'.set_ (j := k) hzy)
          have HON := Lib.hid (only_set (j := k) hon (.int .u8 ((z ^^^ y : Nat) : Int)))
          generalize z ^^^ y = q at hx8 HW HON
          clear hwr' hon hzy kx kb
          go_wp2
          go_roundw
          case rel => exact ⟨k + 1, by omega, by go_num, HW.out, HON.out⟩
          case measure => simp [intOf]; omega
        · obtain rfl : k = bs.length := by omega
          have hyb := HYB2.out.only (Nat.le_refl _) hon (fun b e => by have := HA.out b e; omega)
          have kb2 := conv_str wr hyb c
          have hBq := hBr.trans (only_below hon hgx hBr.size)
          clear hwr' hon hyb kx kb
          go_wp2_with fail
          refine (wakes_any _).mono ?_
          rintro e w7 ⟨rfl, hb7⟩
          have hB7 := hBq.trans (hb7.mono hBq.size)
          clear hBq hb7
          go_wp2
          go_ret
          exact ⟨rfl, hB7⟩
set_option maxHeartbeats 1000000 in
theorem own_zero (y : Nat) (hy : y < 256) (A : Option Addr) (c : Nat) (w : World) :
    Calls Try.prog 6 #[.slice A 0 c, .int .u8 (y : Int)] w fun e w' => e = .returned (.bool true) ∧ Below w.heap.size w w' := by
  have hby : ∀ (w : World) (B : Nat), By w B A [] := fun _ _ => By.nil_
  have k0 : (convert 22 9 (.slice A 0 c)).run Try.prog w = .ok (.string (str [])) w := conv_str w (hby w 0) c
  have HS := Lib.hid (seal_any [] A c w (hby w _) (Nat.zero_le _) (by simp))
  have hsl := Crc.sealed_lt (hby w 0).1
  have hsn := Crc.sealed_length []
  have HSE := Lib.hid (Crc.isSealed_sealed [])
  have HT := Lib.hid (show (Crc.sealed []).take ((Crc.sealed []).length - 4) = [] by rw [hsn]; rfl)
  generalize Crc.sealed [] = sb at *
  rw [List.length_nil, Nat.zero_add] at hsn
  have HN := Lib.hid hsn
  have HSL := Lib.hid hsl
  have HY := Lib.hid hby
  clear hsn hsl hby
  go_enter Try.func6, Try.ntmps6
  go_wp2_with fail
  refine HS.out.mono ?_
  rintro e w1 ⟨v, rfl, hnew⟩
  have hb1 := hnew.2
  obtain ⟨g, cs, rfl, hys, hcs, hcsm, hg0, hg1, hwr⟩ := hnew.block HSL.out (by rw [HN.out]; omega)
  have HO := Lib.hid (open_sealed sb (some ⟨g, 0, none⟩) cs w1 hys hcs (by rw [HN.out]; omega) HSE.out)
  rw [HN.out] at HO
  rw [HN.out] at hwr hcs ⊢
  clear hys hnew HS
  go_wp2_with fail
  refine HO.out.mono ?_
  have hT := HT.out
  rw [HN.out] at hT
  rw [hT]
  clear hT
  rintro e w2 ⟨x, rfl, hx⟩
  have hb2 := hx.2
  obtain ⟨AX, cx, rfl, hyx, _⟩ := hx.slice (fun _ h => (List.not_mem_nil h).elim)
  have hBw2 := hb1.trans (hb2.mono hb1.size)
  clear hyx hx HO k0
  go_wp2
  go_loopw [9, 36] (fun _ i wr => ∃ k : Nat, k ≤ 4 ∧ i = .int .i64 k ∧ Wr wr g (4) ∧ w2.grownBy wr (some g)) (fun _ i _ => 4 - (intOf i).toNat)
  case atStart => exact ⟨0, by omega, rfl, by obtain ⟨cur, hg, hc⟩ := hwr; exact ⟨cur, (hb2.block g hg1).trans hg, hc⟩, only_refl _ _⟩
  case round =>
    obtain ⟨k, hk, rfl, hwr', hon⟩ := hrel
    by_cases hlt : k < 4
    · obtain ⟨z, hz, hcell, hfr⟩ := hwr'.at_ hlt
      have hx8 := u8_xor_nat z y hz hy
      have hzy := u8_xor_lt z y hz hy
      have HW := Lib.hid (hwr'.set_ (j := k) hzy)
      have HON := Lib.hid (only_set (j := k) hon (.int .u8 ((z ^^^ y : Nat) : Int)))
      generalize z ^^^ y = q at hx8 HW HON
      clear hwr' hon hzy
      go_wp2
      go_roundw
      case rel => exact ⟨k + 1, by omega, by go_num, HW.out, HON.out⟩
      case measure => simp [intOf]; omega
    · obtain rfl : k = 4 := by omega
      have kx : (convert 22 9 (.slice AX 0 cx)).run Try.prog wr = .ok (.string (str [])) wr := conv_str wr (B := 0) By.nil_ cx
      have kb : (convert 22 9 (.slice A 0 c)).run Try.prog wr = .ok (.string (str [])) wr := conv_str wr (HY.out wr 0) c
      have hBr := hBw2.trans (only_below hon hg0 (Nat.le_trans hb1.size hb2.size))
      clear hwr' hon HY hb1 hb2 hg0 hg1 hBw2
      go_wp2
      obtain ⟨wo, rfl⟩ : ∃ wo : World, wo = wr := ⟨_, rfl⟩
      go_loop [10, 61] (fun _ i => i = .int .i64 0) (fun _ _ => 0)
      case atStart => rfl
      case round =>
        obtain rfl := hrel
        go_wp2_with fail
        refine (wakes_any _).mono ?_
        rintro e w7 ⟨rfl, hb7⟩
        have hB7 := hBr.trans (hb7.mono hBr.size)
        clear hBr hb7
        go_wp2
        go_ret
        exact ⟨rfl, hB7⟩
end Go.Proofs.Ytgolikofjhdilaa
