/-
  The document's own Bytes, by contract.
-/
import Derived.Test.YtehkohnpfbdngaaDoorBytes
import Derived.Test.YtehkohnpfbdngaaDoorRefSame
import Derived.Test.YtehkohnpfbdngaaDoorLow
import Derived.Test.YtehkohnpfbdngaaDoorRefSeal
namespace Go.Proofs.YtehkohnpfbdngaaDoor
open Go.RowKit

theorem Own.slice_ {w : World} {base : Nat} {bs : List Nat} {v : Value} (h : Own w base bs v) (hb : ∀ x ∈ bs, x < 256) : ∃ A c, v = .slice A bs.length c ∧ By w w.heap.size A bs ∧ bs.length ≤ c ∧ c ≤ maxLen ∧ (A = none → c = 0) := by
  obtain ⟨_, h2⟩ := h
  rcases h2 with ⟨rfl, h0⟩ | ⟨g, cap, cur, rfl, hg, hh, hn, hc, hsz, ht⟩
  · obtain rfl := List.eq_nil_of_length_eq_zero h0
    exact ⟨none, 0, rfl, By.nil_, Nat.le_refl _, (by unfold maxLen; omega), (fun _ => rfl)⟩
  · refine ⟨some ⟨g, 0, none⟩, cap, rfl, ?_, hn, hc, (fun e => by cases e)⟩
    have hlt : g < w.heap.size := by
      rcases Nat.lt_or_ge g w.heap.size with h | h
      · exact h
      · rw [Array.getElem?_eq_none h] at hh; cases hh
    exact (By.of_row hh (by rw [Nat.mul_one] at ht; exact ht) hb).mono hlt
def lenOf : Value → Nat
  | .slice _ n _ => n
  | _ => 0

set_option maxHeartbeats 1000000 in
theorem rbytes_no (f : Fr) (A : Option Addr) (c : Nat) (w : World) (hv : FrV w w.heap.size (frv A c f) f) (hm : mayB f = false) :
    Calls Tryd.prog 8 #[.agg (frv A c f).toArray] w fun e w' => e = .returned (.tuple #[.slice none 0 0, .int .i64 2]) ∧ Below w.heap.size w w' := by
  have hb := (Below.refl w.heap.size w).alloc (Nat.le_refl _) (.cells (frv A c f).toArray 25)
  have hM := rmay_any f A c _ ((hv.below hb (Nat.le_refl _)).mono hb.size)
  rw [hm] at hM
  have HM := Lib.hid hM
  have HB := Lib.hid hb
  clear hM hb hv hm
  unfold frv at *
  go_enter Tryd.func8, Tryd.ntmps8
  go_wp2_with fail
  refine HM.out.mono ?_
  rintro e w1 ⟨rfl, hb1⟩
  have HB1 := Lib.hid (HB.out.trans (hb1.mono HB.out.size))
  clear hb1
  go_wp2
  go_ret2
  exact ⟨rfl, HB1.out⟩

set_option maxRecDepth 100000 in
set_option maxHeartbeats 2000000 in
theorem rbytes_yes (f : Fr) (A : Option Addr) (c : Nat) (w : World) (hv : FrV w w.heap.size (frv A c f) f) (hm : mayB f = true) :
    Calls Tryd.prog 8 #[.agg (frv A c f).toArray] w fun e w' => ∃ v, e = .returned (.tuple #[v, .int .i64 0]) ∧ New w w' (Crc.sealed (secB f)) v := by
  have hb := (Below.refl w.heap.size w).alloc (Nat.le_refl _) (.cells (frv A c f).toArray 25)
  have hM := rmay_any f A c _ ((hv.below hb (Nat.le_refl _)).mono hb.size)
  rw [hm] at hM
  have HM := Lib.hid hM
  have HB := Lib.hid hb
  have G0 := Lib.hid (heap_alloc_new w (.cells (frv A c f).toArray 25))
  have GZ := Lib.hid (show (w.alloc (.cells (frv A c f).toArray 25)).heap.size = w.heap.size + 1 by simp)
  have HSlt := Lib.hid (secB_lt (f := f) hv.fine.load)
  have HHlt := Lib.hid (headB_lt f)
  have HLlt := Lib.hid hv.fine.load
  have HLY := Lib.hid hv.load_by
  have HLc := Lib.hid hv.load_le
  have HMk := Lib.hid hv.fine.mark
  obtain ⟨s, i, p, o, e1, e2, e3, e4, b1, b2, b3, b4, b5, b6, b7, b8⟩ := may_nat hm
  have HH := Lib.hid (show headB f = (dig s 6 ++ dig i 3 ++ [16 * p + o, f.load.length]) ++ dig f.mark 4 by
    unfold headB
    rw [e1, e2, e3, e4]
    simp only [Int.toNat_natCast, dig, List.append_assoc, List.cons_append, List.nil_append, List.append_nil]
    rw [Nat.mod_eq_of_lt (show 16 * p + o < 256 by omega), Nat.mod_eq_of_lt (show f.load.length < 256 by omega)])
  have HSec := Lib.hid (show secB f = (headB f ++ f.load) ++ List.replicate (60 - (headB f ++ f.load).length) 0 from rfl)
  have HSl := Lib.hid (secB_length (f := f) b8)
  generalize secB f = Sec at *
  have HHl := Lib.hid (headB_length f)
  generalize headB f = Hd at *
  clear hM hb hv hm
  obtain ⟨seq, inc, part, of, mark, load⟩ := f
  dsimp only at *
  subst e1 e2 e3 e4
  unfold frv at *
  dsimp only at *
  have u1 : IntKind.u64.wrap (s : Int) = s := by rw [IntKind.wrap_u64]; omega
  have u2 : IntKind.u64.wrap (i : Int) = i := by rw [IntKind.wrap_u64]; omega
  have u3 : IntKind.u64.wrap (mark : Int) = mark := by have := HMk.out; rw [IntKind.wrap_u64]; omega
  have u4 : IntKind.u8.wrap (load.length : Int) = load.length := by rw [IntKind.wrap_u8]; omega
  have u5 : IntKind.i64.wrap (16 * (p : Int)) = 16 * (p : Int) := by rw [IntKind.wrap_i64]; omega
  have u6 : IntKind.i64.wrap (16 * (p : Int) + (o : Int)) = ((16 * p + o : Nat) : Int) := by rw [IntKind.wrap_i64]; omega
  have u7 : IntKind.u8.wrap ((16 * p + o : Nat) : Int) = ((16 * p + o : Nat) : Int) := by rw [IntKind.wrap_u8]; omega
  have HX2 := Lib.hid (show ∀ x ∈ [16 * p + o, load.length], x < 256 from fun x hx => by simp only [List.mem_cons, List.not_mem_nil, or_false] at hx; omega)
  have HL8 := Lib.hid b8
  have HLow6 := Lib.hid (fun (u : Value) (W : World) (B : Nat) (h1 : B ≤ W.heap.size) (h2 : Own W B [] u) => (show Calls Tryd.prog 19 #[u, .int .u64 (s : Nat), .int .i64 6] W _ from low_any [] s 6 B (by omega) (by omega) u W h1 h2 (by simp)))
  have HLow3 := Lib.hid (fun (u : Value) (W : World) (B : Nat) (h1 : B ≤ W.heap.size) (h2 : Own W B (dig s 6) u) => (show Calls Tryd.prog 19 #[u, .int .u64 (i : Nat), .int .i64 3] W _ from low_any (dig s 6) i 3 B (by omega) (by omega) u W h1 h2 (by rw [dig_length]; omega)))
  have HLow4 := Lib.hid (fun (u : Value) (W : World) (B : Nat) (h1 : B ≤ W.heap.size) (h2 : Own W B (dig s 6 ++ dig i 3 ++ [16 * p + o, load.length]) u) => (show Calls Tryd.prog 19 #[u, .int .u64 (mark : Nat), .int .i64 4] W _ from low_any (dig s 6 ++ dig i 3 ++ [16 * p + o, load.length]) mark 4 B (by have := HMk.out; omega) (by omega) u W h1 h2 (by simp [dig_length])))
  go_enter Tryd.func8, Tryd.ntmps8
  go_wp2_with fail
  generalize w.alloc (.cells #[.int .i64 (s : Nat), .int .i64 (i : Nat), .int .i64 (p : Nat), .int .i64 (o : Nat), .int .u32 (mark : Nat), .slice A load.length c] 25) = w0 at *
  refine HM.out.mono ?_
  rintro e w1 ⟨rfl, hb1⟩
  have hS : ∀ W, Below w0.heap.size w0 W → W.cell? ⟨w.heap.size, 0, none⟩ = some (.int .i64 (s : Nat)) ∧ W.cell? ⟨w.heap.size, 1, none⟩ = some (.int .i64 (i : Nat)) ∧ W.cell? ⟨w.heap.size, 2, none⟩ = some (.int .i64 (p : Nat)) ∧ W.cell? ⟨w.heap.size, 3, none⟩ = some (.int .i64 (o : Nat)) ∧ W.cell? ⟨w.heap.size, 4, none⟩ = some (.int .u32 (mark : Nat)) ∧ W.cell? ⟨w.heap.size, 5, none⟩ = some (.slice A load.length c) := fun W hW => by
    have hc : ∀ j, W.cell? ⟨w.heap.size, j, none⟩ = _ := fun j => (hW.cell (p := ⟨w.heap.size, j, none⟩) (by have := GZ.out; simp; omega)).trans (cell_of_row w0 w.heap.size j _ _ _ G0.out)
    exact ⟨hc 0, hc 1, hc 2, hc 3, hc 4, hc 5⟩
  have HS := Lib.hid hS
  have HB1 := Lib.hid hb1
  clear hS hb1 HM
  obtain ⟨c0, c1, c2, c3, c4, c5⟩ := HS.out _ HB1.out
  go_wp2_with fail
  refine (HLow6.out _ w1 w0.heap.size HB1.out.size (Own.nil_ _ _)).mono ?_
  rintro e w2 ⟨v2, rfl, hv2, hb2⟩
  rw [List.nil_append] at hv2
  have HV2 := Lib.hid hv2
  have HB2 := Lib.hid (HB1.out.trans hb2)
  clear hv2 hb2 c0 c1 c2 c3 c4 c5 HLow6
  obtain ⟨c0, c1, c2, c3, c4, c5⟩ := HS.out _ HB2.out
  go_wp2_with fail
  refine (HLow3.out _ w2 w0.heap.size HB2.out.size HV2.out).mono ?_
  rintro e w3 ⟨v3, rfl, hv3, hb3⟩
  have HV3 := Lib.hid hv3
  have HB3 := Lib.hid (HB2.out.trans hb3)
  clear hv3 hb3 c0 c1 c2 c3 c4 c5 HLow3 HV2
  obtain ⟨c0, c1, c2, c3, c4, c5⟩ := HS.out _ HB3.out
  go_wp2_with (first
    | (at_builtin; refine append_by rfl (.tmp 17) (.tmp 29) rfl w0.heap.size (dig s 6 ++ dig i 3) [16 * p + o, load.length] _ rfl (HV3.out.alloc _) (some ⟨w3.heap.size, 0, none⟩) 2 2 rfl rfl _ (by_made w3 #[.int .u8 ((16 * p + o : Nat) : Int), .int .u8 (load.length : Int)] [16 * p + o, load.length] rfl HX2.out) (fun e => by cases e) (by simp [dig_length]) w0 (HB3.out.alloc HB3.out.size _) (Nat.le_trans HB3.out.size (by simp)) ?_; intro v4 w4 hv4 hb4; clear c0 c1 c2 c3 c4 c5; obtain ⟨c0, c1, c2, c3, c4, c5⟩ := HS.out _ hb4)
    | fail)
  have HV4 := Lib.hid hv4
  have HB4 := Lib.hid hb4
  clear hv4 hb4 HV3
  refine (HLow4.out _ w4 w0.heap.size HB4.out.size HV4.out).mono ?_
  rintro e w5 ⟨v5, rfl, hv5, hb5⟩
  rw [← HH.out] at hv5
  have HV5 := Lib.hid hv5
  have HB5 := Lib.hid (HB4.out.trans hb5)
  clear hv5 hb5 c0 c1 c2 c3 c4 c5 HLow4 HV4
  obtain ⟨c0, c1, c2, c3, c4, c5⟩ := HS.out _ HB5.out
  have HLY5 := Lib.hid (HLY.out.below (HB.out.trans (HB5.out.mono HB.out.size)) (Nat.le_refl _))
  go_wp2_with (first
    | (at_builtin; refine append_by rfl (.tmp 36) (.tmp 38) rfl w0.heap.size Hd load _ rfl HV5.out A load.length c rfl rfl _ HLY5.out HLc.out.2.2 (by rw [HHl.out]; have := HL8.out; omega) w0 HB5.out HB5.out.size ?_; intro v6 w6 hv6 hb6)
    | fail)
  have HPl := Lib.hid (show ∀ x ∈ Hd ++ load, x < 256 from fun x hx => by
    rcases List.mem_append.1 hx with hx | hx
    · exact HHlt.out x hx
    · exact HLlt.out x hx)
  have hpl : (Hd ++ load).length ≤ 60 := by rw [List.length_append, HHl.out]; have := HL8.out; omega
  generalize Hd ++ load = Pre at *
  have HLim := Lib.hid hpl
  clear c0 c1 c2 c3 c4 c5 hpl
  go_loopw [4] (fun v wr => ∃ k : Nat, k ≤ 60 - Pre.length ∧ Own wr w0.heap.size (Pre ++ List.replicate k 0) v ∧ Below w0.heap.size w0 wr) (fun v _ => 60 - lenOf v)
  case atStart => exact ⟨0, by omega, by simpa using hv6, hb6⟩
  case round =>
    obtain ⟨k, hk, hv, hb⟩ := hrel
    obtain ⟨A', c', rfl, hy, hc1, hc2, hc3⟩ := hv.slice_ (fun x hx => by
      rcases List.mem_append.1 hx with hx | hx
      · exact HPl.out x hx
      · have := List.eq_of_mem_replicate hx; omega)
    have hn : (Pre ++ List.replicate k 0).length = Pre.length + k := by rw [List.length_append, List.length_replicate]
    by_cases hlt : k < 60 - Pre.length
    · have HN := Lib.hid hn
      have hs : Pre ++ List.replicate k 0 ++ [0] = Pre ++ List.replicate (k + 1) 0 := by rw [List.append_assoc, List.replicate_succ']
      have HS1 := Lib.hid hs
      generalize Pre ++ List.replicate k 0 = ds at *
      rw [hn] at hv
      have HV := Lib.hid hv
      have HB' := Lib.hid hb
      have hi : ((Pre.length + k : Nat) : Int) < 60 := by omega
      clear hv hb hs hv6 hb6 hy hc1 hc2 hc3
      rw [hn]
      clear hn
      have HK := Lib.hid hlt
      have HK2 := Lib.hid hk
      clear hlt hk
      have HX := Lib.hid (show ∀ x ∈ [0], x < 256 from fun x hx => by rw [List.mem_singleton] at hx; omega)
      obtain ⟨n, hnn⟩ : ∃ n, n = Pre.length + k := ⟨_, rfl⟩
      rw [← hnn] at hi HN HV ⊢
      have HNN := Lib.hid hnn
      clear hnn
      go_wp2_with (first | (at_builtin; refine append_by rfl (.tmp 43) (.tmp 44) rfl w0.heap.size ds [0] _ rfl (HV.out.alloc _) (some ⟨wr.heap.size, 0, none⟩) 1 1 rfl rfl _ (by_made wr #[.int .u8 0] [0] rfl HX.out) (fun e => by cases e) (by rw [HN.out, List.length_singleton]; omega) w0 (HB'.out.alloc HB'.out.size _) (Nat.le_trans HB'.out.size (by simp)) ?_; intro v7 w7 hv7 hb7; rw [HS1.out] at hv7))
      obtain ⟨A7, c7, rfl, -⟩ := hv7.slice_ (fun x hx => by
        rcases List.mem_append.1 hx with hx | hx
        · exact HPl.out x hx
        · have := List.eq_of_mem_replicate hx; omega)
      refine ⟨⟨k + 1, by have := HK.out; omega, hv7, hb7⟩, ?_⟩
      simp only [lenOf, List.length_append, List.length_replicate]
      have := HK.out
      have := HNN.out
      omega
    · obtain rfl : k = 60 - Pre.length := by omega
      rw [← HSec.out] at hn hy ⊢
      rw [← HSl.out]
      have HSeal := Lib.hid (rseal_any Sec A' c' wr hy hc3 (by rw [HSl.out]; omega))
      rw [HSl.out] at HSeal ⊢
      have HB' := Lib.hid (HB.out.trans (hb.mono HB.out.size))
      clear hn hy hc1 hc2 hc3 hb hv hv6 hb6 hlt hk
      go_wp2_with fail
      refine HSeal.out.mono ?_
      rintro e w7 ⟨v, rfl, hv⟩
      have HV := Lib.hid hv
      clear hv
      go_wp2
      go_ret2
      exact ⟨v, rfl, own_mono HV.out.1 HB'.out.size, HB'.out.trans (HV.out.2.mono HB'.out.size)⟩
end Go.Proofs.YtehkohnpfbdngaaDoor
