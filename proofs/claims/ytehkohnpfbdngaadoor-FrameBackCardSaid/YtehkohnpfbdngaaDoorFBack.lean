/-
  FrameBack: the law's own walk.
-/
import Derived.Test.YtehkohnpfbdngaaDoorFOwn
import Derived.Test.YtehkohnpfbdngaaDoorSector
import Derived.Test.YtehkohnpfbdngaaDoorCutBack
import Derived.Test.YtehkohnpfbdngaaDoorWakes
import Derived.Laws.AppendOwn
namespace Go.Proofs.YtehkohnpfbdngaaDoor
open Go.RowKit

theorem row_look {w : World} {g : Nat} {xs : List Value} {t : TypeId} (h : w.heap[g]? = some (.cells xs.toArray t (0, 0))) (hg : g < w.heap.size) : ∀ W, Below w.heap.size w W → ∀ j u, xs[j]? = some u → W.cell? ⟨g, 0 + j, none⟩ = some u := fun W hW j u hu => by
  rw [Nat.zero_add, cell_of_row W g j _ _ _ ((hW.block g hg).trans h)]
  simpa using hu
set_option maxRecDepth 100000 in
set_option maxHeartbeats 400000 in
theorem back_big (n m c d : Nat) (A R : Option Addr) (seq inc y a : Int) (w : World) (h : 90 < n ∨ 1000 < m) :
    Calls Tryd.prog 4 #[.slice A n c, .int .i64 seq, .int .i64 inc, .int .u32 y, .int .i64 a, .slice R m d] w fun e w' => e = .returned (.bool true) ∧ Below w.heap.size w w' := by
  by_cases h1 : 90 < n
  · have hb : (90 : Int) < (n : Int) := by omega
    clear h
    go_enter Tryd.func4, Tryd.ntmps4
    go_wp2_with (go_at_call 6; refine (wakes_any _).mono ?_; rintro e w7 ⟨rfl, hb7⟩)
    go_ret
    exact ⟨rfl, hb7⟩
  · have hb1 : ¬ (90 : Int) < (n : Int) := by omega
    have hb : (1000 : Int) < (m : Int) := by omega
    clear h
    go_enter Tryd.func4, Tryd.ntmps4
    go_wp2_with (go_at_call 6; refine (wakes_any _).mono ?_; rintro e w7 ⟨rfl, hb7⟩)
    go_ret
    exact ⟨rfl, hb7⟩

set_option maxRecDepth 100000 in
set_option maxHeartbeats 8000000 in
theorem back_small (bs raw : List Nat) (A R : Option Addr) (c d : Nat) (seq inc a : Int) (y : Nat) (w : World) (hA : By w w.heap.size A bs) (hc : bs.length ≤ c) (hcm : c ≤ maxLen) (hR : By w w.heap.size R raw) (hl : bs.length ≤ 90) (hrl : raw.length ≤ 1000)
    (h1 : -9223372036854775808 ≤ seq) (h2 : seq ≤ 9223372036854775807) (hy : y < 4294967296) (hW : Widths w) :
    Calls Tryd.prog 4 #[.slice A bs.length c, .int .i64 seq, .int .i64 inc, .int .u32 (y : Nat), .int .i64 a, .slice R raw.length d] w fun e w' => e = .returned (.bool true) ∧ Below w.heap.size w w' := by
  have hlb : ¬ (90 : Int) < (bs.length : Int) := by omega
  have hlr : ¬ (1000 : Int) < (raw.length : Int) := by omega
  have HC := Lib.hid (cut_any bs seq inc A c w hA hc hcm (by omega) h1 h2)
  have HA := Lib.hid hA
  have HR := Lib.hid hR
  have HRl := Lib.hid (show raw.length ≤ 1000000000 by omega)
  have HW := Lib.hid hW
  clear hA hR hW hrl
  by_cases hE : cutE bs.length seq inc = 0
  rotate_left
  · have hq : (cutE bs.length seq inc == 0) = false := beq_eq_false_iff_ne.2 hE
    have HL := Lib.hid (cutL_no hE)
    clear hE
    go_enter Tryd.func4, Tryd.ntmps4
    go_wp2_with fail
    refine HC.out.mono ?_
    rintro e w1 ⟨A1, c1, rfl, _, _, _, _, hb1⟩
    have HBt := Lib.hid hb1
    clear hb1 HC
    rw [HL.out, List.length_nil]
    have HRt := Lib.hid ((HR.out.below HBt.out (Nat.le_refl _)).mono HBt.out.size)
    have HWt := Lib.hid (HW.out.below HBt.out)
    cases hok : readOK raw with
    | false =>
      have he : readE raw = 40 := by unfold readE; rw [if_neg (by rw [hok]; simp)]
      have HE9 := Lib.hid he
      clear hok he
      go_wp2_with fail
      refine (read_any raw R d w1 HRl.out HRt.out HWt.out).mono ?_
      unfold ReadOut
      rw [HE9.out]
      generalize readF raw = G
      rintro e wa ⟨Aa, ca, rfl, hva, hba⟩
      have HBa := Lib.hid (HBt.out.trans (hba.mono HBt.out.size))
      clear hva hba
      obtain ⟨gs, hzs⟩ : ∃ xs, xs = frv Aa ca G := ⟨_, rfl⟩
      rw [← hzs]
      have HZ1 := Lib.hid (show ∀ v ∈ gs, v.oneCell' = true by rw [hzs]; exact frv_one _ _ _)
      have HZl := Lib.hid (show gs.length = 6 by rw [hzs]; rfl)
      have HIgs := Lib.hid (show (Tryd.prog.info? 25).map (·.size) = some gs.length by rw [hzs]; exact Tryd.sizeF)
      have Hgs := Lib.hid hzs
      have hr5 := heap_alloc_new wa (.cells #[.int .i64 0, .int .i64 0, .int .i64 0, .int .i64 0, .int .u32 0, .slice none 0 0] 25)
      have hs6 := setRow_heap (wa.alloc (.cells #[.int .i64 0, .int .i64 0, .int .i64 0, .int .i64 0, .int .u32 0, .slice none 0 0] 25)) wa.heap.size _ gs.toArray _ _ hr5
      have hg6 := grown_setRow (wa.alloc (.cells #[.int .i64 0, .int .i64 0, .int .i64 0, .int .i64 0, .int .u32 0, .slice none 0 0] 25)) wa.heap.size gs.toArray
      have hbu := (Below.refl wa.heap.size wa).alloc (Nat.le_refl _) (.cells #[.int .i64 0, .int .i64 0, .int .i64 0, .int .i64 0, .int .u32 0, .slice none 0 0] 25)
      have HRU := Lib.hid hr5
      obtain ⟨wb, hw6⟩ : ∃ x, x = World.setRow (wa.alloc (.cells #[.int .i64 0, .int .i64 0, .int .i64 0, .int .i64 0, .int .u32 0, .slice none 0 0] 25)) wa.heap.size gs.toArray := ⟨_, rfl⟩
      rw [← hw6] at hs6 hg6
      have hz6 : wb.heap.size = wa.heap.size + 1 := by rw [hw6]; simp
      have HBwb := Lib.hid (hbu.trans (only_below hg6 (Nat.le_refl _) (by simp)))
      have HXgs := Lib.hid (row_look hs6 (by omega))
      have HC6 := Lib.hid (HXgs.out _ (Below.refl _ _))
      rw [hw6] at HC6
      have e3 : gs.toArray = ([] ++ gs ++ []).toArray := by simp
      have HC7 := HC6
      rw [e3] at HC7
      have HW6 := Lib.hid hw6
      clear e3 hzs hr5 hs6 hg6 hbu hw6 hz6
      go_wp2_with (first
        | (refine wpList_store_part rfl 25 (.tmp 29) (.tmp 161) rfl wa.heap.size 0 (by simp [Act.eval, Act.put]) gs (by simp [Act.eval, Act.put]) 25 [] [.int .i64 0, .int .i64 0, .int .i64 0, .int .i64 0, .int .u32 0, .slice none 0 0] [] HRU.out rfl ?_ HIgs.out HZ1.out ?_)
        | (refine wpList_load_part rfl 25 (.tmp 29) rfl wa.heap.size 0 (by simp [Act.eval, Act.put]) gs _ HC7.out Tryd.underlying25 rfl HIgs.out ?_)
        | (refine wpList_load_part rfl 25 (.tmp 29) rfl wa.heap.size 0 (by simp [Act.eval, Act.put]) gs _ HC6.out Tryd.underlying25 rfl HIgs.out ?_)
        | fail)
      · rw [HZl.out]; rfl
      rw [← HW6.out]
      clear HW6 HRU HZ1 HZl HC6 HC7
      have HBb := Lib.hid (HBa.out.trans (HBwb.out.mono HBa.out.size))
      refine (wakes_any _).mono ?_
      rintro e wc ⟨rfl, hbc⟩
      go_wp2
      go_ret
      exact ⟨rfl, HBb.out.trans (hbc.mono HBb.out.size)⟩
    | true =>
      have he : readE raw = 0 ∧ readF raw = frameOf raw := by unfold readE readF; rw [if_pos hok, if_pos hok]; exact ⟨rfl, rfl⟩
      obtain ⟨hl64, hmG, hsG⟩ := read_only hok
      have HE9 := Lib.hid he
      have HMG := Lib.hid hmG
      have HSG := Lib.hid hsG
      clear hok he hl64 hmG hsG
      go_wp2_with fail
      refine (read_any raw R d w1 HRl.out HRt.out HWt.out).mono ?_
      unfold ReadOut
      rw [HE9.out.1, HE9.out.2]
      generalize frameOf raw = G at *
      rintro e wa ⟨Aa, ca, rfl, hva, hba⟩
      have HBa := Lib.hid (HBt.out.trans (hba.mono HBt.out.size))
      have HVa := Lib.hid hva
      clear hva hba
      obtain ⟨gs, hzs⟩ : ∃ xs, xs = frv Aa ca G := ⟨_, rfl⟩
      rw [← hzs]
      have HZ1 := Lib.hid (show ∀ v ∈ gs, v.oneCell' = true by rw [hzs]; exact frv_one _ _ _)
      have HZl := Lib.hid (show gs.length = 6 by rw [hzs]; rfl)
      have HIgs := Lib.hid (show (Tryd.prog.info? 25).map (·.size) = some gs.length by rw [hzs]; exact Tryd.sizeF)
      have Hgs := Lib.hid hzs
      have hr5 := heap_alloc_new wa (.cells #[.int .i64 0, .int .i64 0, .int .i64 0, .int .i64 0, .int .u32 0, .slice none 0 0] 25)
      have hs6 := setRow_heap (wa.alloc (.cells #[.int .i64 0, .int .i64 0, .int .i64 0, .int .i64 0, .int .u32 0, .slice none 0 0] 25)) wa.heap.size _ gs.toArray _ _ hr5
      have hg6 := grown_setRow (wa.alloc (.cells #[.int .i64 0, .int .i64 0, .int .i64 0, .int .i64 0, .int .u32 0, .slice none 0 0] 25)) wa.heap.size gs.toArray
      have hbu := (Below.refl wa.heap.size wa).alloc (Nat.le_refl _) (.cells #[.int .i64 0, .int .i64 0, .int .i64 0, .int .i64 0, .int .u32 0, .slice none 0 0] 25)
      have HRU := Lib.hid hr5
      obtain ⟨wb, hw6⟩ : ∃ x, x = World.setRow (wa.alloc (.cells #[.int .i64 0, .int .i64 0, .int .i64 0, .int .i64 0, .int .u32 0, .slice none 0 0] 25)) wa.heap.size gs.toArray := ⟨_, rfl⟩
      rw [← hw6] at hs6 hg6
      have hz6 : wb.heap.size = wa.heap.size + 1 := by rw [hw6]; simp
      have HBwb := Lib.hid (hbu.trans (only_below hg6 (Nat.le_refl _) (by simp)))
      have HXgs := Lib.hid (row_look hs6 (by omega))
      have HC6 := Lib.hid (HXgs.out _ (Below.refl _ _))
      rw [hw6] at HC6
      have e3 : gs.toArray = ([] ++ gs ++ []).toArray := by simp
      have HC7 := HC6
      rw [e3] at HC7
      have HW6 := Lib.hid hw6
      clear e3 hzs hr5 hs6 hg6 hbu hw6 hz6
      go_wp2_with (first
        | (refine wpList_store_part rfl 25 (.tmp 29) (.tmp 161) rfl wa.heap.size 0 (by simp [Act.eval, Act.put]) gs (by simp [Act.eval, Act.put]) 25 [] [.int .i64 0, .int .i64 0, .int .i64 0, .int .i64 0, .int .u32 0, .slice none 0 0] [] HRU.out rfl ?_ HIgs.out HZ1.out ?_)
        | (refine wpList_load_part rfl 25 (.tmp 29) rfl wa.heap.size 0 (by simp [Act.eval, Act.put]) gs _ HC7.out Tryd.underlying25 rfl HIgs.out ?_)
        | (refine wpList_load_part rfl 25 (.tmp 29) rfl wa.heap.size 0 (by simp [Act.eval, Act.put]) gs _ HC6.out Tryd.underlying25 rfl HIgs.out ?_)
        | fail)
      · rw [HZl.out]; rfl
      rw [← HW6.out]
      clear HW6 HRU HZ1 HZl HC6 HC7
      have HBb := Lib.hid (HBa.out.trans (HBwb.out.mono HBa.out.size))
      have hY := bytes_yes G Aa ca wb ((HVa.out.below HBwb.out (Nat.le_refl _)).mono HBwb.out.size) HMG.out (HW.out.below HBb.out)
      rw [← Hgs.out, HSG.out] at hY
      have HY := Lib.hid hY
      clear hY
      refine HY.out.mono ?_
      rintro e wc ⟨vc, rfl, hvc⟩
      have HBc := Lib.hid (HBb.out.trans (hvc.2.mono HBb.out.size))
      have k1 := (hvc.strAt HR.out.1).here
      have k2 := conv_str wc ((HR.out.below HBc.out (Nat.le_refl _)).mono HBc.out.size) d
      have q1 : ((str raw).toList == (str raw).toList) = true := by simp
      generalize str raw = sr at *
      clear hvc
      go_wp2_with fail
      refine (wakes_any _).mono ?_
      rintro e wd ⟨rfl, hbd⟩
      go_wp2
      go_ret
      exact ⟨rfl, HBc.out.trans (hbd.mono HBc.out.size)⟩
  · obtain ⟨e1, e2, e3, e4, e5, e6, e7, e8⟩ := cutE_yes hE
    have HLc := Lib.hid (loads_cut hE)
    have HMay := Lib.hid (may_cut hE)
    have HJ := Lib.hid (join_cut hE)
    have HLen := Lib.hid (cutAll_length bs seq inc)
    have hL := cutL_yes hE
    have hor := bits_or_one y hy
    have HBlt := Lib.hid (show y ||| 1 < 4294967296 from Nat.or_lt_two_pow (n := 32) hy (by omega))
    have HBodd := Lib.hid (show (y ||| 1) % 2 = 1 by rw [Nat.or_mod_two_eq_one]; exact Or.inr rfl)
    generalize y ||| 1 = B at hor HBlt HBodd
    obtain ⟨p, hp, hpe⟩ := place512 a
    have t1 := Int.lt_tmod_of_pos a (show (0 : Int) < 512 by omega)
    have t2 := Int.tmod_lt_of_pos a (show (0 : Int) < 512 by omega)
    generalize hT : a.tmod 512 = T at t1 t2 hpe
    have hTw : IntKind.i64.wrap (T + 512) = T + 512 := by rw [IntKind.wrap_i64]; omega
    have HT := Lib.hid (And.intro hT (And.intro hTw hpe))
    have HOr := Lib.hid hor
    clear hT hTw hpe t1 t2 hor
    obtain ⟨n, hn⟩ : ∃ n, n = cutN bs.length := ⟨_, rfl⟩
    rw [← hn] at e4 e7 e8
    have HE := Lib.hid hE
    clear hE
    go_enter Tryd.func4, Tryd.ntmps4
    go_wp2_with fail
    refine HC.out.mono ?_
    rintro e w1 ⟨A1, c1, rfl, hfr, hlc, hc2, hn1, hb1⟩
    rw [hL] at hfr ⊢
    rw [HE.out]
    rw [hn] at e7 e8
    have hLn := HLen.out
    rw [← hn] at hLn e7 e8
    generalize cutAll bs seq inc = l at *
    have HLn := Lib.hid hLn
    rw [hLn]
    obtain ⟨b, off, rfl, hbw, hrow⟩ := hfr (by omega)
    have HRow := Lib.hid hrow
    have HBw1 := Lib.hid hb1
    clear hfr hb1 hlc hc2 hn1 hL hn HC hrow hLn HLen
    go_wp2
    go_loopw [15, 16] (fun v i wr => ∃ k : Nat, k ≤ n ∧ i = .int .i64 k ∧ FrOwn wr w1.heap.size (l.take k) v ∧ Below w1.heap.size w1 wr) (fun _ i _ => n - (intOf i).toNat)
    case atStart => exact ⟨0, by omega, rfl, FrOwn.nil_ _ _, Below.refl _ _⟩
    case round =>
      obtain ⟨k, hk, rfl, hown, hb⟩ := hrel
      have HOw := Lib.hid hown
      have HB := Lib.hid hb
      clear hown hb
      by_cases hlt : k < n
      · have hlk : k < l.length := by rw [HLn.out]; exact hlt
        have hsn : l.take k ++ [l[k]] = l.take (k + 1) := List.take_append_getElem hlk
        have hmy : mayB l[k] = true := (List.all_eq_true.1 HMay.out) _ (List.getElem_mem hlk)
        obtain ⟨xs, ⟨A', c', hxs, hy1, hc1, hc2, hc3, hfi⟩, hxc⟩ := HRow.out k hlk
        generalize l[k] = F at *
        have HSN := Lib.hid hsn
        have HMy := Lib.hid hmy
        have HFi := Lib.hid hfi
        have HXs := Lib.hid hxs
        have HIxs := Lib.hid (show (Tryd.prog.info? 25).map (·.size) = some xs.length by rw [hxs]; exact Tryd.sizeF)
        have HV1 := Lib.hid (fun W (hW : Below w1.heap.size w1 W) => (show FrV W W.heap.size (frv A' c' F) F from ((show FrV w1 w1.heap.size (frv A' c' F) F from ⟨A', c', rfl, hy1, hc1, hc2, hc3, hfi⟩).below hW (Nat.le_refl _)).mono hW.size))
        have HXc := Lib.hid (fun W (hW : Below w1.heap.size w1 W) => (show ∀ j u, xs[j]? = some u → W.cell? ⟨b, off + k * 6 + j, none⟩ = some u from fun j u hu => (hW.cell (p := ⟨b, off + k * 6 + j, none⟩) hbw).trans (hxc j u hu)))
        have HWd := Lib.hid (fun W (hW : Below w1.heap.size w1 W) => HW.out.below (HBw1.out.trans (hW.mono HBw1.out.size)))
        have hbY := bytes_yes F A' c' wr (HV1.out wr HB.out) hmy (HWd.out wr HB.out)
        rw [← hxs] at hbY
        have HbY := Lib.hid hbY
        have HSl := Lib.hid (show (Crc.sealed (secB F)).length = 64 by rw [Crc.sealed_length, secB_length (may_load hmy)])
        have HSb := Lib.hid (Crc.sealed_lt (secB_lt (f := F) hfi.load))
        have HSE := Lib.hid (Crc.isSealed_sealed (secB F))
        have HRO := Lib.hid (read_own hmy hfi.mark).2
        generalize Crc.sealed (secB F) = sb at *
        have hki : (k : Int) < n := by omega
        have HK := Lib.hid hlt
        clear hlk hsn hmy hxs hy1 hc1 hc2 hc3 hfi hxc hbY hlt
        go_wp2_with (first
          | (refine wpList_load_part rfl 25 (.tmp 60) rfl b (off + k * 6) (by simp [Act.eval, Act.put]) xs _ (HXc.out _ HB.out) Tryd.underlying25 rfl HIxs.out ?_)
          | fail)
        refine HbY.out.mono ?_
        rintro e w2 ⟨v2, rfl, hv2⟩
        obtain ⟨g, cs, rfl, hys, hcs, hcsm, hg0, hg1, -⟩ := hv2.block HSb.out (by rw [HSl.out]; omega)
        have HG0 := Lib.hid hg0
        have HOg := Lib.hid (show ∀ q, u15.ownBlock = some q → q < wr.heap.size from fun q hq => by
          obtain ⟨_, ho, _⟩ := HOw.out
          exact (ho.lt q hq).2)
        have HWr2 := Lib.hid hv2.2.size
        have HB2 := Lib.hid (HB.out.trans (hv2.2.mono HB.out.size))
        have HOw2 := Lib.hid (HOw.out.below hv2.2)
        have HYs := Lib.hid hys
        have hrn := read_new sb (some ⟨g, 0, none⟩) cs w2 (by rw [HSl.out]; omega) hys (HWd.out w2 HB2.out)
        unfold ReadNew at hrn
        rw [HSl.out, HRO.out.1, HRO.out.2] at hrn
        have HRn := Lib.hid hrn
        rw [HSl.out] at hcs ⊢
        clear hv2 hys hg0 hg1 hrn HOw HB HbY HRO
        go_wp2_with fail
        refine HRn.out.mono ?_
        rintro e w3 ⟨A3, c3, rfl, hv3, hb3, hf3⟩
        have HF3 := Lib.hid hf3
        have HV3 := Lib.hid hv3
        have HB3 := Lib.hid (HB2.out.trans (hb3.mono HB2.out.size))
        have HYs3 := Lib.hid ((HYs.out.below hb3 (Nat.le_refl _)).mono hb3.size)
        have HOw3 := Lib.hid (HOw2.out.below hb3)
        clear hv3 hb3 hf3 HRn
        obtain ⟨zs, hzs⟩ : ∃ xs, xs = frv A3 c3 F := ⟨_, rfl⟩
        rw [← hzs]
        have HZ1 := Lib.hid (show ∀ v ∈ zs, v.oneCell' = true by rw [hzs]; exact frv_one _ _ _)
        have HZl := Lib.hid (show zs.length = 6 by rw [hzs]; rfl)
        have HIzs := Lib.hid (show (Tryd.prog.info? 25).map (·.size) = some zs.length by rw [hzs]; exact Tryd.sizeF)
        have Hzs := Lib.hid hzs
        have hr5 := heap_alloc_new w3 (.cells #[.int .i64 0, .int .i64 0, .int .i64 0, .int .i64 0, .int .u32 0, .slice none 0 0] 25)
        have hs6 := setRow_heap (w3.alloc (.cells #[.int .i64 0, .int .i64 0, .int .i64 0, .int .i64 0, .int .u32 0, .slice none 0 0] 25)) w3.heap.size _ zs.toArray _ _ hr5
        have hg6 := grown_setRow (w3.alloc (.cells #[.int .i64 0, .int .i64 0, .int .i64 0, .int .i64 0, .int .u32 0, .slice none 0 0] 25)) w3.heap.size zs.toArray
        have hbu := (Below.refl w3.heap.size w3).alloc (Nat.le_refl _) (.cells #[.int .i64 0, .int .i64 0, .int .i64 0, .int .i64 0, .int .u32 0, .slice none 0 0] 25)
        have HRU := Lib.hid hr5
        obtain ⟨w4, hw6⟩ : ∃ x, x = World.setRow (w3.alloc (.cells #[.int .i64 0, .int .i64 0, .int .i64 0, .int .i64 0, .int .u32 0, .slice none 0 0] 25)) w3.heap.size zs.toArray := ⟨_, rfl⟩
        rw [← hw6] at hs6 hg6
        have hz6 : w4.heap.size = w3.heap.size + 1 := by rw [hw6]; simp
        have HBw4 := Lib.hid (hbu.trans (only_below hg6 (Nat.le_refl _) (by simp)))
        have HXzs := Lib.hid (row_look hs6 (by omega))
        have HC6 := Lib.hid (HXzs.out _ (Below.refl _ _))
        rw [hw6] at HC6
        have e3 : zs.toArray = ([] ++ zs ++ []).toArray := by simp
        have HC7 := HC6
        rw [e3] at HC7
        have HW6 := Lib.hid hw6
        clear e3 hzs hr5 hs6 hg6 hbu hw6 hz6
        go_wp2_with (first
          | (refine wpList_store_part rfl 25 (.tmp 19) (.tmp 68) rfl w3.heap.size 0 (by simp [Act.eval, Act.put]) zs (by simp [Act.eval, Act.put]) 25 [] [.int .i64 0, .int .i64 0, .int .i64 0, .int .i64 0, .int .u32 0, .slice none 0 0] [] HRU.out rfl ?_ HIzs.out HZ1.out ?_)
          | (refine wpList_load_part rfl 25 (.tmp 19) rfl w3.heap.size 0 (by simp [Act.eval, Act.put]) zs _ HC7.out Tryd.underlying25 rfl HIzs.out ?_)
          | (refine wpList_load_part rfl 25 (.tmp 19) rfl w3.heap.size 0 (by simp [Act.eval, Act.put]) zs _ HC6.out Tryd.underlying25 rfl HIzs.out ?_)
          | fail)
        · rw [HZl.out]; rfl
        rw [← HW6.out]
        clear HW6 HRU HZ1 HZl HC6 HC7
        have HB4 := Lib.hid (HB3.out.trans (HBw4.out.mono HB3.out.size))
        have HQ := Lib.hid (fun W (hW : Below w4.heap.size w4 W) => (show Calls Tryd.prog 14 #[.agg zs.toArray, .agg xs.toArray] W fun e w' => e = .returned (.bool true) ∧ Below W.heap.size W w' by
          have hb1 := HBw4.out.trans (hW.mono HBw4.out.size)
          have h := same_any F F A3 A' c3 c' W ((HV3.out.below hb1 (Nat.le_refl _)).mono hb1.size) (HV1.out W (HB4.out.trans (hW.mono HB4.out.size)))
          rw [← Hzs.out, ← HXs.out, show sameB F F = true by unfold sameB; exact decide_eq_true rfl] at h
          exact h))
        refine wp_region_held_drew (S := fun W => Below w4.heap.size w4 W) (by kernel_rfl) (Below.refl _ _).drew (fun hHeld => ?_)
        refine wpAnyH_take (i := 0) (v := ?_) rfl (by kernel_rfl) (by kernel_rfl) (by kernel_rfl) (fun _ _ _ h => h) (Or.inl ⟨by rfl, ?_⟩) (by assumption) ?_
        rotate_left
        · simp only [List.getElem_toArray, List.getElem_cons_zero, List.getElem_cons_succ]; intro W hSw; (try dsimp only at hSw); go_simp; all_goals with_reducible rfl
        simp only [Act.put, List.getElem_toArray, List.getElem_cons_zero, List.getElem_cons_succ, List.setIfInBounds_toArray, List.set_cons_zero, List.set_cons_succ]
        refine wpAnyH_take (i := 1) (v := ?_) rfl (by kernel_rfl) (by kernel_rfl) (by kernel_rfl) (fun _ _ _ h => h) (Or.inl ⟨by rfl, ?_⟩) (by assumption) ?_
        rotate_left
        · simp only [List.getElem_toArray, List.getElem_cons_zero, List.getElem_cons_succ]; intro W hSw; (try dsimp only at hSw); go_simp; all_goals with_reducible rfl
        simp only [Act.put, List.getElem_toArray, List.getElem_cons_zero, List.getElem_cons_succ, List.setIfInBounds_toArray, List.set_cons_zero, List.set_cons_succ]
        refine wpAnyH_take (i := 2) (v := ?_) rfl (by kernel_rfl) (by kernel_rfl) (by kernel_rfl) (fun _ _ _ h => h) (Or.inl ⟨by rfl, ?_⟩) (by assumption) ?_
        rotate_left
        · simp only [List.getElem_toArray, List.getElem_cons_zero, List.getElem_cons_succ]; intro W hSw; (try dsimp only at hSw); go_simp; all_goals with_reducible rfl
        simp only [Act.put, List.getElem_toArray, List.getElem_cons_zero, List.getElem_cons_succ, List.setIfInBounds_toArray, List.set_cons_zero, List.set_cons_succ]
        refine wpAnyH_take (i := 3) (v := ?_) rfl (by kernel_rfl) (by kernel_rfl) (by kernel_rfl) (fun _ _ _ h => h) (Or.inl ⟨by rfl, ?_⟩) (by assumption) ?_
        rotate_left
        · simp only [List.getElem_toArray, List.getElem_cons_zero, List.getElem_cons_succ]; intro W hSw; (try dsimp only at hSw); go_simp; all_goals with_reducible rfl
        simp only [Act.put, List.getElem_toArray, List.getElem_cons_zero, List.getElem_cons_succ, List.setIfInBounds_toArray, List.set_cons_zero, List.set_cons_succ]
        refine wpAnyH_take (i := 4) (v := ?_) rfl (by kernel_rfl) (by kernel_rfl) (by kernel_rfl) (fun _ _ _ h => h) (Or.inl ⟨by rfl, ?_⟩) (by assumption) ?_
        rotate_left
        · simp only [List.getElem_toArray, List.getElem_cons_zero, List.getElem_cons_succ]; intro W hSw; (try dsimp only at hSw); go_simp; all_goals with_reducible rfl
        simp only [Act.put, List.getElem_toArray, List.getElem_cons_zero, List.getElem_cons_succ, List.setIfInBounds_toArray, List.set_cons_zero, List.set_cons_succ]
        refine wpAnyH_take (i := 5) (v := ?_) rfl (by kernel_rfl) (by kernel_rfl) (by kernel_rfl) (fun _ _ _ h => h) (Or.inl ⟨by rfl, ?_⟩) (by assumption) ?_
        rotate_left
        · simp only [List.getElem_toArray, List.getElem_cons_zero, List.getElem_cons_succ]; intro W hSw; (try dsimp only at hSw); go_simp; all_goals with_reducible rfl
        simp only [Act.put, List.getElem_toArray, List.getElem_cons_zero, List.getElem_cons_succ, List.setIfInBounds_toArray, List.set_cons_zero, List.set_cons_succ]
        refine wpAnyH_take (i := 6) (v := ?_) rfl (by kernel_rfl) (by kernel_rfl) (by kernel_rfl) (fun _ _ _ h => h) (Or.inl ⟨by rfl, ?_⟩) (by assumption) ?_
        rotate_left
        · simp only [List.getElem_toArray, List.getElem_cons_zero, List.getElem_cons_succ]; intro W hSw; (try dsimp only at hSw); go_simp; all_goals with_reducible rfl
        simp only [Act.put, List.getElem_toArray, List.getElem_cons_zero, List.getElem_cons_succ, List.setIfInBounds_toArray, List.set_cons_zero, List.set_cons_succ]
        refine wpAnyH_take (i := 7) (v := ?_) rfl (by kernel_rfl) (by kernel_rfl) (by kernel_rfl) (fun _ _ _ h => h) (Or.inl ⟨by rfl, ?_⟩) (by assumption) ?_
        rotate_left
        · simp only [List.getElem_toArray, List.getElem_cons_zero, List.getElem_cons_succ]; intro W hSw; (try dsimp only at hSw); go_simp; all_goals with_reducible rfl
        simp only [Act.put, List.getElem_toArray, List.getElem_cons_zero, List.getElem_cons_succ, List.setIfInBounds_toArray, List.set_cons_zero, List.set_cons_succ]
        refine wpAnyH_take (i := 8) (v := ?_) rfl (by kernel_rfl) (by kernel_rfl) (by kernel_rfl) (fun _ _ _ h => h) (Or.inl ⟨by rfl, ?_⟩) (by assumption) ?_
        rotate_left
        · simp only [List.getElem_toArray, List.getElem_cons_zero, List.getElem_cons_succ]; intro W hSw; (try dsimp only at hSw); go_simp; all_goals with_reducible rfl
        simp only [Act.put, List.getElem_toArray, List.getElem_cons_zero, List.getElem_cons_succ, List.setIfInBounds_toArray, List.set_cons_zero, List.set_cons_succ]
        refine wpAnyH_take (i := 9) (v := ?_) rfl (by kernel_rfl) (by kernel_rfl) (by kernel_rfl) (fun _ _ _ h => h) (Or.inl ⟨by rfl, ?_⟩) (by assumption) ?_
        rotate_left
        · simp only [List.getElem_toArray, List.getElem_cons_zero, List.getElem_cons_succ]; intro W hSw; (try dsimp only at hSw); go_simp; all_goals with_reducible rfl
        simp only [Act.put, List.getElem_toArray, List.getElem_cons_zero, List.getElem_cons_succ, List.setIfInBounds_toArray, List.set_cons_zero, List.set_cons_succ]
        refine wpAnyH_take (i := 10) (v := ?_) rfl (by kernel_rfl) (by kernel_rfl) (by kernel_rfl) (fun _ _ _ h => h) (Or.inl ⟨by rfl, ?_⟩) (by assumption) ?_
        rotate_left
        · simp only [List.getElem_toArray, List.getElem_cons_zero, List.getElem_cons_succ]; intro W hSw; (try dsimp only at hSw); go_simp; all_goals with_reducible rfl
        simp only [Act.put, List.getElem_toArray, List.getElem_cons_zero, List.getElem_cons_succ, List.setIfInBounds_toArray, List.set_cons_zero, List.set_cons_succ]
        refine wpAnyH_take (i := 11) (v := ?_) rfl (by kernel_rfl) (by kernel_rfl) (by kernel_rfl) (fun _ _ _ h => h) (Or.inl ⟨by rfl, ?_⟩) (by assumption) ?_
        rotate_left
        · simp only [List.getElem_toArray, List.getElem_cons_zero, List.getElem_cons_succ]; intro W hSw; (try dsimp only at hSw); go_simp; all_goals with_reducible rfl
        simp only [Act.put, List.getElem_toArray, List.getElem_cons_zero, List.getElem_cons_succ, List.setIfInBounds_toArray, List.set_cons_zero, List.set_cons_succ]
        refine wpAnyH_take (i := 12) (v := ?_) rfl (by kernel_rfl) (by kernel_rfl) (by kernel_rfl) (fun _ _ _ h => h) (Or.inl ⟨by rfl, ?_⟩) (by assumption) ?_
        rotate_left
        · simp only [List.getElem_toArray, List.getElem_cons_zero, List.getElem_cons_succ]; intro W hSw; (try dsimp only at hSw); refine exec_load_part 25 (.tmp 19) ?_ w3.heap.size 0 ?_ zs _ (HXzs.out W hSw) Tryd.underlying25 ?_ HIzs.out <;> rfl
        simp only [Act.put, List.getElem_toArray, List.getElem_cons_zero, List.getElem_cons_succ, List.setIfInBounds_toArray, List.set_cons_zero, List.set_cons_succ]
        refine wpAnyH_take (i := 13) (v := ?_) rfl (by kernel_rfl) (by kernel_rfl) (by kernel_rfl) (fun _ _ _ h => h) (Or.inl ⟨by rfl, ?_⟩) (by assumption) ?_
        rotate_left
        · simp only [List.getElem_toArray, List.getElem_cons_zero, List.getElem_cons_succ]; intro W hSw; (try dsimp only at hSw); go_simp; all_goals with_reducible rfl
        simp only [Act.put, List.getElem_toArray, List.getElem_cons_zero, List.getElem_cons_succ, List.setIfInBounds_toArray, List.set_cons_zero, List.set_cons_succ]
        refine wpAnyH_take (i := 14) (v := ?_) rfl (by kernel_rfl) (by kernel_rfl) (by kernel_rfl) (fun _ _ _ h => h) (Or.inl ⟨by rfl, ?_⟩) (by assumption) ?_
        rotate_left
        · simp only [List.getElem_toArray, List.getElem_cons_zero, List.getElem_cons_succ]; intro W hSw; (try dsimp only at hSw); go_simp; all_goals with_reducible rfl
        simp only [Act.put, List.getElem_toArray, List.getElem_cons_zero, List.getElem_cons_succ, List.setIfInBounds_toArray, List.set_cons_zero, List.set_cons_succ]
        refine wpAnyH_take (i := 15) (v := ?_) rfl (by kernel_rfl) (by kernel_rfl) (by kernel_rfl) (fun _ _ _ h => h) (Or.inl ⟨by rfl, ?_⟩) (by assumption) ?_
        rotate_left
        · simp only [List.getElem_toArray, List.getElem_cons_zero, List.getElem_cons_succ]; intro W hSw; (try dsimp only at hSw); go_simp; all_goals with_reducible rfl
        simp only [Act.put, List.getElem_toArray, List.getElem_cons_zero, List.getElem_cons_succ, List.setIfInBounds_toArray, List.set_cons_zero, List.set_cons_succ]
        refine wpAnyH_take (i := 16) (v := ?_) rfl (by kernel_rfl) (by kernel_rfl) (by kernel_rfl) (fun _ _ _ h => h) (Or.inl ⟨by rfl, ?_⟩) (by assumption) ?_
        rotate_left
        · simp only [List.getElem_toArray, List.getElem_cons_zero, List.getElem_cons_succ]; intro W hSw; (try dsimp only at hSw); refine exec_load_part 25 (.tmp 85) ?_ b (off + k * 6) ?_ xs _ (HXc.out W (HB4.out.trans (hSw.mono HB4.out.size))) Tryd.underlying25 ?_ HIxs.out <;> rfl
        simp only [Act.put, List.getElem_toArray, List.getElem_cons_zero, List.getElem_cons_succ, List.setIfInBounds_toArray, List.set_cons_zero, List.set_cons_succ]
        refine wpAnyH_ready (rs := [17]) (by kernel_rfl) (by simp) ?_
        refine AllReadyH.cons rfl (fun K hK => ?_) AllReadyH.nil
        simp only [List.getElem_toArray, List.getElem_cons_zero, List.getElem_cons_succ]
        go_simp
        refine (HQ.out _ hHeld).mono ?_
        rintro e w5 ⟨rfl, hb5⟩
        go_wp2_with fail
        refine hK.out _ _ (hHeld.trans (hb5.mono hHeld.size)) (fun hHeldN => ?_)
        clear hK K hHeld
        have hHeld := hHeldN
        clear hHeldN
        (try simp only [Act.put, List.getElem_toArray, List.getElem_cons_zero, List.getElem_cons_succ, List.setIfInBounds_toArray, List.set_cons_zero, List.set_cons_succ])
        refine wpAnyH_take (i := 18) (v := ?_) rfl (by kernel_rfl) (by kernel_rfl) (by kernel_rfl) (fun _ _ _ h => h) (Or.inl ⟨by rfl, ?_⟩) (by assumption) ?_
        rotate_left
        · simp only [List.getElem_toArray, List.getElem_cons_zero, List.getElem_cons_succ]; intro W hSw; (try dsimp only at hSw); go_simp; all_goals with_reducible rfl
        simp only [Act.put, List.getElem_toArray, List.getElem_cons_zero, List.getElem_cons_succ, List.setIfInBounds_toArray, List.set_cons_zero, List.set_cons_succ]
        refine wpAnyH_take (i := 19) (v := ?_) rfl (by kernel_rfl) (by kernel_rfl) (by kernel_rfl) (fun _ _ _ h => h) (Or.inl ⟨by rfl, ?_⟩) (by assumption) ?_
        rotate_left
        · simp only [List.getElem_toArray, List.getElem_cons_zero, List.getElem_cons_succ]; intro W hSw; (try dsimp only at hSw); go_simp; all_goals with_reducible rfl
        simp only [Act.put, List.getElem_toArray, List.getElem_cons_zero, List.getElem_cons_succ, List.setIfInBounds_toArray, List.set_cons_zero, List.set_cons_succ]
        refine wpAnyH_done (by kernel_rfl) ?_ _
        have hb35 := HBw4.out.trans (hHeld.mono HBw4.out.size)
        have HB5 := Lib.hid (HB4.out.trans (hHeld.mono HB4.out.size))
        have hv5 := (HV3.out.below hb35 (Nat.le_refl _)).mono hb35.size
        have hys5 := (HYs3.out.below hb35 (Nat.le_refl _)).mono hb35.size
        have HOw5 := Lib.hid (HOw3.out.below hb35)
        have HX5 := Lib.hid (HXzs.out w5 hHeld)
        have HZ5 := Lib.hid hb35.size
        have hwa := (Below.refl w5.heap.size w5).alloc (Nat.le_refl _) (.cells #[.int .i64 F.seq, .int .i64 F.inc, .int .i64 F.part, .int .i64 F.of, .int .u32 (F.mark : Nat), .slice A3 F.load.length c3] 25)
        have hwz : (w5.alloc (.cells #[.int .i64 F.seq, .int .i64 F.inc, .int .i64 F.part, .int .i64 F.of, .int .u32 (F.mark : Nat), .slice A3 F.load.length c3] 25)).heap.size = w5.heap.size + 1 := by simp
        obtain ⟨wa, hwd⟩ : ∃ x, x = w5.alloc (.cells #[.int .i64 F.seq, .int .i64 F.inc, .int .i64 F.part, .int .i64 F.of, .int .u32 (F.mark : Nat), .slice A3 F.load.length c3] 25) := ⟨_, rfl⟩
        rw [← hwd] at hwa hwz
        have hva := (hv5.below hwa (Nat.le_refl _)).mono hwa.size
        have hya := (hys5.below hwa (Nat.le_refl _)).mono hwa.size
        have HBa := Lib.hid (HB5.out.trans (hwa.mono HB5.out.size))
        have HVa := Lib.hid hva
        have hlk : (l.take k).length = k := by rw [List.length_take, HLn.out]; have := HK.out; omega
        obtain ⟨xs0, ho, hxl, hn0, hel⟩ := HOw5.out.below hwa
        obtain ⟨base', hs1, hs2, hs3, ho'⟩ : ∃ base', w1.heap.size ≤ base' ∧ base' ≤ wa.heap.size ∧ ((l.take k).length = 0 → wa.heap.size ≤ base') ∧ wa.ownsRow base' 25 6 u15 (l.take k).length xs0 := by
          by_cases h0 : (l.take k).length = 0
          · have hvn := hn0 h0
            have hx0 : xs0 = [] := List.eq_nil_of_length_eq_zero (by rw [hxl, h0])
            exact ⟨wa.heap.size, HBa.out.size, Nat.le_refl _, fun _ => Nat.le_refl _, by rw [hvn, h0, hx0]; exact ⟨rfl, Or.inl ⟨rfl, rfl⟩⟩⟩
          · exact ⟨w1.heap.size, Nat.le_refl _, HBa.out.size, fun h => absurd h h0, ho⟩
        have HOg5 := Lib.hid (show ∀ q, u15.ownBlock = some q → q < w2.heap.size from fun q hq => Nat.lt_of_lt_of_le (HOg.out q hq) HWr2.out)
        have HA6 := Lib.hid (show ∀ b, A3 = some b → u15.ownBlock ≠ some b.block from fun b hb hq => by have h1 := HF3.out b hb; have h2 := HOg5.out _ hq; omega)
        have HA7 := Lib.hid (show ∀ b, A3 = some b → b.block < wa.heap.size from fun b hb => by
          obtain ⟨b', off', e', hlt', _⟩ := hva.load_by.at_ (may_one HMy.out)
          rw [hb] at e'
          cases e'
          exact hlt')
        have HYw := Lib.hid (show ∀ w6, wa.grownBy w6 u15.ownBlock → By w6 w6.heap.size (some ⟨g, 0, none⟩) sb from fun w6 hg => by
          refine ⟨hya.1, fun hn => ?_⟩
          obtain ⟨b', off', e', hlt', hcs'⟩ := hya.2 hn
          cases e'
          exact ⟨g, 0, rfl, Nat.lt_of_lt_of_le hlt' hg.size, fun j hj => (World.cell?_of_block (w := wa) (hg.block g hlt' (fun e => by have h1 := HOg.out g e.symm; have h2 := HG0.out; omega))).trans (hcs' j hj)⟩)
        have HGr := Lib.hid (fun w6 (hg : wa.grownBy w6 u15.ownBlock) => HBa.out.grown hg HBa.out.size (fun q hq => by
          obtain ⟨_, ho1, _⟩ := HOw5.out
          exact (ho1.lt q hq).1))
        have HSnoc := Lib.hid (fun w6 v6 (hg : wa.grownBy w6 u15.ownBlock) (ho6 : w6.ownsRow base' 25 6 v6 ((l.take k).length + 1) (xs0 ++ frv A3 c3 F)) => (show FrOwn w6 w1.heap.size (l.take (k + 1)) v6 by
          rw [← HSN.out]
          exact FrOwn.snoc hs1 (by omega) hxl hel HVa.out HA6.out HA7.out ho6 hg hs3))
        obtain ⟨i6, hi6, hz6⟩ := Option.map_eq_some_iff.1 Tryd.zero25
        have hz60 : i6.zero = some (.agg #[.int .i64 0, .int .i64 0, .int .i64 0, .int .i64 0, .int .u32 0, .slice none 0 0]) := congrArg (·.1) hz6
        have hz61 : i6.size = 6 := congrArg (·.2.1) hz6
        have hz62 : i6.bytes = 64 := congrArg (·.2.2) hz6
        have HLk := Lib.hid (show (l.take k).length + 1 ≤ maxLen ∧ ((l.take k).length + 1) * 64 ≤ 140737488355328 by unfold maxLen; omega)
        have HO6 := Lib.hid ho'
        have HBs := Lib.hid hs2
        have HNc := Lib.hid (new_cells (w := w5) (nl := frv A3 c3 F) (xs := frv A3 c3 F) (t := 25) rfl)
        have HWa := Lib.hid hwd
        rw [hwd] at HO6 HBs HYw
        have hz := Hzs.out
        obtain ⟨hT, hTw, hpe⟩ := HT.out
        have hor := HOr.out
        clear hv5 hys5 hwa hwz hva hya ho hxl hn0 hel hs1 hs2 hs3 ho' hb35 HOw3 HV3 HYs3 HB3 HB4 HXzs HQ hHeld HOw2 HYs HB2 hz6 hwd HBw4 hb5
        subst hz
        unfold frv at HX5 HIzs ⊢
        go_wp2_with (first
          | (refine wpList_load_part rfl 25 (.tmp 19) rfl w3.heap.size 0 (by simp [Act.eval, Act.put]) [.int .i64 F.seq, .int .i64 F.inc, .int .i64 F.part, .int .i64 F.of, .int .u32 (F.mark : Nat), .slice A3 F.load.length c3] _ HX5.out Tryd.underlying25 rfl HIzs.out ?_)
          | (at_builtin; refine wpList_append_own _ rfl (.tmp 90) (.tmp 92) 35 rfl base' 25 i6 _ 6 64 Tryd.underlying35 hi6 hz60 hz61 hz62 rfl (by decide) _ _ xs0 rfl HO6.out ⟨w5.heap.size, 0, none⟩ 1 1 (frv A3 c3 F) rfl rfl HNc.out (frv_one _ _ _) HLk.out.1 HLk.out.2 HBs.out ?_; intro v6 w6 hown6 hgr6 _)
          | (at_builtin; refine append_by rfl (.tmp 98) (.tmp 99) rfl w6.heap.size [] sb _ rfl (Own.nil_ _ _) (some ⟨g, 0, none⟩) 64 cs rfl (by rw [HSl.out]) w6.heap.size (HYw.out w6 hgr6) (fun e => by cases e) (by rw [HSl.out, List.length_nil]; omega) w6 (Below.refl _ _) (Nat.le_refl _) ?_; intro v7 w7 hv7 hb7; rw [List.nil_append] at hv7)
          | fail)
        have hg6 : wa.grownBy w6 u15.ownBlock := by rw [HWa.out]; exact hgr6
        have HFO := Lib.hid (HSnoc.out w6 v6 hg6 hown6)
        have HB6 := Lib.hid (HGr.out w6 hg6)
        have HB67 := Lib.hid hb7
        obtain ⟨g7, c7, rfl, hrw, hc71, hc72, hg71, hg72⟩ := hv7.row_ HSb.out (by rw [HSl.out]; omega)
        have HG7 := Lib.hid (And.intro hg71 hg72)
        have HC7 := Lib.hid hc71
        rw [HSl.out]
        clear hg6 hgr6 hown6 hb7 hv7 hc71 hc72 hg71 hg72 HSnoc HGr HYw HA6 HA7 HO6 HBs HNc HWa HOg5 HBa HVa HX5 hi6 hz60 hz61 hz62 hT hTw hpe hor HOg HG0 HOw5 HF3 HZ5 HWr2 HLk HIzs
        go_loopw [24] (fun i wr => ∃ j : Nat, j ≤ 32 ∧ p + j ≤ 512 ∧ i = .int .i64 j ∧ Bst sb p B g7 j w7 wr) (fun i _ => 32 - (intOf i).toNat)
        case atStart => exact ⟨0, by omega, by omega, rfl, sb, rfl, HSb.out, by simp [Nat.mod_one], hrw, only_refl _ _⟩
        case round =>
          obtain ⟨j, hj1, hj2, rfl, hbst⟩ := hrel
          have hw1 : IntKind.i64.wrap ((p : Int) + (j : Int)) = (p : Int) + (j : Int) := by rw [IntKind.wrap_i64]; omega
          by_cases hjj : j < 32 ∧ p + j < 512
          · obtain ⟨hj3, hj4⟩ := hjj
            have i1 : (j : Int) < 32 := by omega
            have i2 : (p : Int) + (j : Int) < 512 := by omega
            by_cases hbit : B / 2 ^ j % 2 = 1
            · have ht := bit_one B j HBlt.out hbit
              have HBIT := Lib.hid hbit
              obtain ⟨cur, hcl, hcb, hle, hrw, hon⟩ := hbst
              have hq : (p + j) / 8 < cur.length := by rw [hcl, HSl.out]; omega
              obtain ⟨hcell, hfr⟩ := hrw.at_ hq
              have hz : cur.getD ((p + j) / 8) 0 < 256 := by rw [getD_at _ _ hq]; exact hcb _ (List.getElem_mem hq)
              have HQ := Lib.hid hq
              have HLE := Lib.hid hle
              have HRW := Lib.hid hrw
              have HCL := Lib.hid hcl
              have HCB := Lib.hid hcb
              have HON := Lib.hid hon
              obtain ⟨z, hzd⟩ : ∃ z, cur.getD ((p + j) / 8) 0 = z := ⟨_, rfl⟩
              rw [hzd] at hcell hz
              have HCU := Lib.hid hzd
              clear hzd
              clear hbit hcl hcb hle hrw hon hq
              have d1 : IntKind.i64.wrap (((p : Int) + j).tdiv 8) = (((p + j) / 8 : Nat) : Int) := by
                rw [Int.tdiv_eq_ediv_of_nonneg (by omega), IntWalk.i64_in _ (by omega)]; omega
              have m1 : ((p : Int) + j).tmod 8 = (((p + j) % 8 : Nat) : Int) := by
                rw [Int.tmod_eq_emod_of_nonneg (by omega)]; omega
              have hJ : (p + j) / 8 < 64 := by omega
              have hj : (p + j) % 8 < 8 := by omega
              generalize hJe : (p + j) / 8 = J at d1 hJ hcell hfr HCU HQ
              obtain ⟨hQ2, s1⟩ := pow_small _ hj
              obtain ⟨Q, hQd⟩ : ∃ Q, 2 ^ ((p + j) % 8) = Q := ⟨_, rfl⟩
              rw [hQd] at hQ2 s1
              have HQD := Lib.hid hQd
              have x1 := u8_xor_nat z Q hz hQ2
              have HJe := Lib.hid hJe
              generalize (p + j) % 8 = j8 at m1 hj s1
              clear hJe hQd
              have d2 : (0 : Int) ≤ (J : Int) := by omega
              have d3 : (J : Int) < 64 := by omega
              have HX := Lib.hid (Bst.next HCL.out HCB.out HLE.out HRW.out HON.out HBIT.out HJe.out HQD.out hQ2 HQ.out HCU.out)
              generalize z ^^^ Q = V at x1 HX
              go_wp2_with fail
              go_region
              go_wp2
              go_roundw
              case rel => exact ⟨j + 1, by omega, by omega, by go_num, HX.out⟩
              case measure => simp [intOf]; omega
            · have ht := bit_one' B j HBlt.out hbit
              have HX := Lib.hid (hbst.skip hbit)
              clear hbit hbst
              go_wp2
              go_roundw
              case rel => exact ⟨j + 1, by omega, by omega, by go_num, HX.out⟩
              case measure => simp [intOf]; omega
          · have hj0 : 1 ≤ j := by omega
            obtain ⟨cur, hcl, hcb, hrwc, hon, hse⟩ := hbst.bad HSb.out HBlt.out HBodd.out hj0 (by rw [HSl.out]; omega) HSE.out
            have hgw : g7 < wr.heap.size := Nat.lt_of_lt_of_le HG7.out.2 hon.size
            have hB7 := HB67.out.trans (only_below hon HG7.out.1 HB67.out.size)
            have HB7 := Lib.hid hB7
            have hBr := HB6.out.trans (hB7.mono HB6.out.size)
            have HBr := Lib.hid hBr
            have hrd := read_any cur (some ⟨g7, 0, none⟩) c7 wr (by rw [hcl, HSl.out]; omega) ((hrwc.by_ hcb).mono hgw) (HWd.out wr hBr)
            unfold ReadOut at hrd
            have he40 : readE cur = 40 := by unfold readE; rw [if_neg (by rw [read_unsealed hse]; simp)]
            rw [hcl, HSl.out, he40] at hrd
            have HRd := Lib.hid hrd
            clear hcl hcb hrwc hon hse hgw hB7 hBr hrd he40 hbst
            generalize readF cur = G at HRd
            by_cases hj3 : (j : Int) < 32
            · have i2 : ¬ (p : Int) + (j : Int) < 512 := by omega
              go_wp2_with fail
              refine HRd.out.mono ?_
              rintro e w8 ⟨A8, c8, rfl, hv8, hb8⟩
              have HB8 := Lib.hid (HB7.out.trans (hb8.mono HB7.out.size))
              clear hv8 hb8
              obtain ⟨qs, hzs⟩ : ∃ xs, xs = frv A8 c8 G := ⟨_, rfl⟩
              rw [← hzs]
              have HZ1 := Lib.hid (show ∀ v ∈ qs, v.oneCell' = true by rw [hzs]; exact frv_one _ _ _)
              have HZl := Lib.hid (show qs.length = 6 by rw [hzs]; rfl)
              have HIqs := Lib.hid (show (Tryd.prog.info? 25).map (·.size) = some qs.length by rw [hzs]; exact Tryd.sizeF)
              have Hqs := Lib.hid hzs
              have hr5 := heap_alloc_new w8 (.cells #[.int .i64 0, .int .i64 0, .int .i64 0, .int .i64 0, .int .u32 0, .slice none 0 0] 25)
              have hs6 := setRow_heap (w8.alloc (.cells #[.int .i64 0, .int .i64 0, .int .i64 0, .int .i64 0, .int .u32 0, .slice none 0 0] 25)) w8.heap.size _ qs.toArray _ _ hr5
              have hg6 := grown_setRow (w8.alloc (.cells #[.int .i64 0, .int .i64 0, .int .i64 0, .int .i64 0, .int .u32 0, .slice none 0 0] 25)) w8.heap.size qs.toArray
              have hbu := (Below.refl w8.heap.size w8).alloc (Nat.le_refl _) (.cells #[.int .i64 0, .int .i64 0, .int .i64 0, .int .i64 0, .int .u32 0, .slice none 0 0] 25)
              have HRU := Lib.hid hr5
              obtain ⟨w9, hw6⟩ : ∃ x, x = World.setRow (w8.alloc (.cells #[.int .i64 0, .int .i64 0, .int .i64 0, .int .i64 0, .int .u32 0, .slice none 0 0] 25)) w8.heap.size qs.toArray := ⟨_, rfl⟩
              rw [← hw6] at hs6 hg6
              have hz6 : w9.heap.size = w8.heap.size + 1 := by rw [hw6]; simp
              have HBw9 := Lib.hid (hbu.trans (only_below hg6 (Nat.le_refl _) (by simp)))
              have HXqs := Lib.hid (row_look hs6 (by omega))
              have HC6 := Lib.hid (HXqs.out _ (Below.refl _ _))
              rw [hw6] at HC6
              have e3 : qs.toArray = ([] ++ qs ++ []).toArray := by simp
              have HC7 := HC6
              rw [e3] at HC7
              have HW6 := Lib.hid hw6
              clear e3 hzs hr5 hs6 hg6 hbu hw6 hz6
              go_wp2_with (first
                | (refine wpList_store_part rfl 25 (.tmp 25) (.tmp 140) rfl w8.heap.size 0 (by simp [Act.eval, Act.put]) qs (by simp [Act.eval, Act.put]) 25 [] [.int .i64 0, .int .i64 0, .int .i64 0, .int .i64 0, .int .u32 0, .slice none 0 0] [] HRU.out rfl ?_ HIqs.out HZ1.out ?_)
                | (refine wpList_load_part rfl 25 (.tmp 25) rfl w8.heap.size 0 (by simp [Act.eval, Act.put]) qs _ HC7.out Tryd.underlying25 rfl HIqs.out ?_)
                | (refine wpList_load_part rfl 25 (.tmp 25) rfl w8.heap.size 0 (by simp [Act.eval, Act.put]) qs _ HC6.out Tryd.underlying25 rfl HIqs.out ?_)
                | fail)
              · rw [HZl.out]; rfl
              rw [← HW6.out]
              clear HW6 HRU HZ1 HZl HC6 HC7
              have HB9 := Lib.hid (HB8.out.trans (HBw9.out.mono HB8.out.size))
              go_roundw
              case rel => exact ⟨k + 1, by have := HK.out; omega, by go_num, HFO.out.below HB9.out, HB6.out.trans (HB9.out.mono HB6.out.size)⟩
              case measure => simp [intOf]; have := HK.out; omega
            · go_wp2_with fail
              refine HRd.out.mono ?_
              rintro e w8 ⟨A8, c8, rfl, hv8, hb8⟩
              have HB8 := Lib.hid (HB7.out.trans (hb8.mono HB7.out.size))
              clear hv8 hb8
              obtain ⟨qs, hzs⟩ : ∃ xs, xs = frv A8 c8 G := ⟨_, rfl⟩
              rw [← hzs]
              have HZ1 := Lib.hid (show ∀ v ∈ qs, v.oneCell' = true by rw [hzs]; exact frv_one _ _ _)
              have HZl := Lib.hid (show qs.length = 6 by rw [hzs]; rfl)
              have HIqs := Lib.hid (show (Tryd.prog.info? 25).map (·.size) = some qs.length by rw [hzs]; exact Tryd.sizeF)
              have Hqs := Lib.hid hzs
              have hr5 := heap_alloc_new w8 (.cells #[.int .i64 0, .int .i64 0, .int .i64 0, .int .i64 0, .int .u32 0, .slice none 0 0] 25)
              have hs6 := setRow_heap (w8.alloc (.cells #[.int .i64 0, .int .i64 0, .int .i64 0, .int .i64 0, .int .u32 0, .slice none 0 0] 25)) w8.heap.size _ qs.toArray _ _ hr5
              have hg6 := grown_setRow (w8.alloc (.cells #[.int .i64 0, .int .i64 0, .int .i64 0, .int .i64 0, .int .u32 0, .slice none 0 0] 25)) w8.heap.size qs.toArray
              have hbu := (Below.refl w8.heap.size w8).alloc (Nat.le_refl _) (.cells #[.int .i64 0, .int .i64 0, .int .i64 0, .int .i64 0, .int .u32 0, .slice none 0 0] 25)
              have HRU := Lib.hid hr5
              obtain ⟨w9, hw6⟩ : ∃ x, x = World.setRow (w8.alloc (.cells #[.int .i64 0, .int .i64 0, .int .i64 0, .int .i64 0, .int .u32 0, .slice none 0 0] 25)) w8.heap.size qs.toArray := ⟨_, rfl⟩
              rw [← hw6] at hs6 hg6
              have hz6 : w9.heap.size = w8.heap.size + 1 := by rw [hw6]; simp
              have HBw9 := Lib.hid (hbu.trans (only_below hg6 (Nat.le_refl _) (by simp)))
              have HXqs := Lib.hid (row_look hs6 (by omega))
              have HC6 := Lib.hid (HXqs.out _ (Below.refl _ _))
              rw [hw6] at HC6
              have e3 : qs.toArray = ([] ++ qs ++ []).toArray := by simp
              have HC7 := HC6
              rw [e3] at HC7
              have HW6 := Lib.hid hw6
              clear e3 hzs hr5 hs6 hg6 hbu hw6 hz6
              go_wp2_with (first
                | (refine wpList_store_part rfl 25 (.tmp 25) (.tmp 140) rfl w8.heap.size 0 (by simp [Act.eval, Act.put]) qs (by simp [Act.eval, Act.put]) 25 [] [.int .i64 0, .int .i64 0, .int .i64 0, .int .i64 0, .int .u32 0, .slice none 0 0] [] HRU.out rfl ?_ HIqs.out HZ1.out ?_)
                | (refine wpList_load_part rfl 25 (.tmp 25) rfl w8.heap.size 0 (by simp [Act.eval, Act.put]) qs _ HC7.out Tryd.underlying25 rfl HIqs.out ?_)
                | (refine wpList_load_part rfl 25 (.tmp 25) rfl w8.heap.size 0 (by simp [Act.eval, Act.put]) qs _ HC6.out Tryd.underlying25 rfl HIqs.out ?_)
                | fail)
              · rw [HZl.out]; rfl
              rw [← HW6.out]
              clear HW6 HRU HZ1 HZl HC6 HC7
              have HB9 := Lib.hid (HB8.out.trans (HBw9.out.mono HB8.out.size))
              go_roundw
              case rel => exact ⟨k + 1, by have := HK.out; omega, by go_num, HFO.out.below HB9.out, HB6.out.trans (HB9.out.mono HB6.out.size)⟩
              case measure => simp [intOf]; have := HK.out; omega
      · obtain rfl : k = n := by omega
        have hown := HOw.out
        rw [List.take_of_length_le (by rw [HLn.out]; exact Nat.le_refl _)] at hown
        obtain ⟨A9, c9, rfl, hfr9⟩ := hown.frs
        have hJR : joinR l = bs := by unfold joinR; rw [if_pos HJ.out, HLc.out]
        have hJE : joinE l = 0 := by unfold joinE; rw [if_pos HJ.out]
        have hJn := join_any l A9 c9 wr hfr9 (by rw [HLn.out]; omega)
        unfold JoinOut at hJn
        rw [hJR, hJE] at hJn
        have HJn := Lib.hid hJn
        clear hown hfr9 hJR hJE hJn HOw HJ HMay HRow
        go_wp2_with fail
        refine HJn.out.mono ?_
        rintro e w2 ⟨A2, c2, rfl, hy2, hl2, hc2, hn2, hb2⟩
        have HBt := Lib.hid (HBw1.out.trans ((HB.out.trans (hb2.mono HB.out.size)).mono HBw1.out.size))
        have k1 := conv_str w2 hy2 c2
        have k2 := conv_str w2 ((HA.out.below HBt.out (Nat.le_refl _)).mono HBt.out.size) c
        have q1 : ((str bs).toList == (str bs).toList) = true := by simp
        have q2 : ((str bs).toList != (str bs).toList) = false := by simp
        generalize str bs = sx at *
        clear hy2 hl2 hc2 hn2 hb2 HJn HB
        have HRt := Lib.hid ((HR.out.below HBt.out (Nat.le_refl _)).mono HBt.out.size)
        have HWt := Lib.hid (HW.out.below HBt.out)
        cases hok : readOK raw with
        | false =>
          have he : readE raw = 40 := by unfold readE; rw [if_neg (by rw [hok]; simp)]
          have HE9 := Lib.hid he
          clear hok he
          go_wp2_with fail
          refine (read_any raw R d w2 HRl.out HRt.out HWt.out).mono ?_
          unfold ReadOut
          rw [HE9.out]
          generalize readF raw = G
          rintro e wa ⟨Aa, ca, rfl, hva, hba⟩
          have HBa := Lib.hid (HBt.out.trans (hba.mono HBt.out.size))
          clear hva hba
          obtain ⟨gs, hzs⟩ : ∃ xs, xs = frv Aa ca G := ⟨_, rfl⟩
          rw [← hzs]
          have HZ1 := Lib.hid (show ∀ v ∈ gs, v.oneCell' = true by rw [hzs]; exact frv_one _ _ _)
          have HZl := Lib.hid (show gs.length = 6 by rw [hzs]; rfl)
          have HIgs := Lib.hid (show (Tryd.prog.info? 25).map (·.size) = some gs.length by rw [hzs]; exact Tryd.sizeF)
          have Hgs := Lib.hid hzs
          have hr5 := heap_alloc_new wa (.cells #[.int .i64 0, .int .i64 0, .int .i64 0, .int .i64 0, .int .u32 0, .slice none 0 0] 25)
          have hs6 := setRow_heap (wa.alloc (.cells #[.int .i64 0, .int .i64 0, .int .i64 0, .int .i64 0, .int .u32 0, .slice none 0 0] 25)) wa.heap.size _ gs.toArray _ _ hr5
          have hg6 := grown_setRow (wa.alloc (.cells #[.int .i64 0, .int .i64 0, .int .i64 0, .int .i64 0, .int .u32 0, .slice none 0 0] 25)) wa.heap.size gs.toArray
          have hbu := (Below.refl wa.heap.size wa).alloc (Nat.le_refl _) (.cells #[.int .i64 0, .int .i64 0, .int .i64 0, .int .i64 0, .int .u32 0, .slice none 0 0] 25)
          have HRU := Lib.hid hr5
          obtain ⟨wb, hw6⟩ : ∃ x, x = World.setRow (wa.alloc (.cells #[.int .i64 0, .int .i64 0, .int .i64 0, .int .i64 0, .int .u32 0, .slice none 0 0] 25)) wa.heap.size gs.toArray := ⟨_, rfl⟩
          rw [← hw6] at hs6 hg6
          have hz6 : wb.heap.size = wa.heap.size + 1 := by rw [hw6]; simp
          have HBwb := Lib.hid (hbu.trans (only_below hg6 (Nat.le_refl _) (by simp)))
          have HXgs := Lib.hid (row_look hs6 (by omega))
          have HC6 := Lib.hid (HXgs.out _ (Below.refl _ _))
          rw [hw6] at HC6
          have e3 : gs.toArray = ([] ++ gs ++ []).toArray := by simp
          have HC7 := HC6
          rw [e3] at HC7
          have HW6 := Lib.hid hw6
          clear e3 hzs hr5 hs6 hg6 hbu hw6 hz6
          go_wp2_with (first
            | (refine wpList_store_part rfl 25 (.tmp 29) (.tmp 161) rfl wa.heap.size 0 (by simp [Act.eval, Act.put]) gs (by simp [Act.eval, Act.put]) 25 [] [.int .i64 0, .int .i64 0, .int .i64 0, .int .i64 0, .int .u32 0, .slice none 0 0] [] HRU.out rfl ?_ HIgs.out HZ1.out ?_)
            | (refine wpList_load_part rfl 25 (.tmp 29) rfl wa.heap.size 0 (by simp [Act.eval, Act.put]) gs _ HC7.out Tryd.underlying25 rfl HIgs.out ?_)
            | (refine wpList_load_part rfl 25 (.tmp 29) rfl wa.heap.size 0 (by simp [Act.eval, Act.put]) gs _ HC6.out Tryd.underlying25 rfl HIgs.out ?_)
            | fail)
          · rw [HZl.out]; rfl
          rw [← HW6.out]
          clear HW6 HRU HZ1 HZl HC6 HC7
          have HBb := Lib.hid (HBa.out.trans (HBwb.out.mono HBa.out.size))
          refine (wakes_any _).mono ?_
          rintro e wc ⟨rfl, hbc⟩
          go_wp2
          go_ret
          exact ⟨rfl, HBb.out.trans (hbc.mono HBb.out.size)⟩
        | true =>
          have he : readE raw = 0 ∧ readF raw = frameOf raw := by unfold readE readF; rw [if_pos hok, if_pos hok]; exact ⟨rfl, rfl⟩
          obtain ⟨hl64, hmG, hsG⟩ := read_only hok
          have HE9 := Lib.hid he
          have HMG := Lib.hid hmG
          have HSG := Lib.hid hsG
          clear hok he hl64 hmG hsG
          go_wp2_with fail
          refine (read_any raw R d w2 HRl.out HRt.out HWt.out).mono ?_
          unfold ReadOut
          rw [HE9.out.1, HE9.out.2]
          generalize frameOf raw = G at *
          rintro e wa ⟨Aa, ca, rfl, hva, hba⟩
          have HBa := Lib.hid (HBt.out.trans (hba.mono HBt.out.size))
          have HVa := Lib.hid hva
          clear hva hba
          obtain ⟨gs, hzs⟩ : ∃ xs, xs = frv Aa ca G := ⟨_, rfl⟩
          rw [← hzs]
          have HZ1 := Lib.hid (show ∀ v ∈ gs, v.oneCell' = true by rw [hzs]; exact frv_one _ _ _)
          have HZl := Lib.hid (show gs.length = 6 by rw [hzs]; rfl)
          have HIgs := Lib.hid (show (Tryd.prog.info? 25).map (·.size) = some gs.length by rw [hzs]; exact Tryd.sizeF)
          have Hgs := Lib.hid hzs
          have hr5 := heap_alloc_new wa (.cells #[.int .i64 0, .int .i64 0, .int .i64 0, .int .i64 0, .int .u32 0, .slice none 0 0] 25)
          have hs6 := setRow_heap (wa.alloc (.cells #[.int .i64 0, .int .i64 0, .int .i64 0, .int .i64 0, .int .u32 0, .slice none 0 0] 25)) wa.heap.size _ gs.toArray _ _ hr5
          have hg6 := grown_setRow (wa.alloc (.cells #[.int .i64 0, .int .i64 0, .int .i64 0, .int .i64 0, .int .u32 0, .slice none 0 0] 25)) wa.heap.size gs.toArray
          have hbu := (Below.refl wa.heap.size wa).alloc (Nat.le_refl _) (.cells #[.int .i64 0, .int .i64 0, .int .i64 0, .int .i64 0, .int .u32 0, .slice none 0 0] 25)
          have HRU := Lib.hid hr5
          obtain ⟨wb, hw6⟩ : ∃ x, x = World.setRow (wa.alloc (.cells #[.int .i64 0, .int .i64 0, .int .i64 0, .int .i64 0, .int .u32 0, .slice none 0 0] 25)) wa.heap.size gs.toArray := ⟨_, rfl⟩
          rw [← hw6] at hs6 hg6
          have hz6 : wb.heap.size = wa.heap.size + 1 := by rw [hw6]; simp
          have HBwb := Lib.hid (hbu.trans (only_below hg6 (Nat.le_refl _) (by simp)))
          have HXgs := Lib.hid (row_look hs6 (by omega))
          have HC6 := Lib.hid (HXgs.out _ (Below.refl _ _))
          rw [hw6] at HC6
          have e3 : gs.toArray = ([] ++ gs ++ []).toArray := by simp
          have HC7 := HC6
          rw [e3] at HC7
          have HW6 := Lib.hid hw6
          clear e3 hzs hr5 hs6 hg6 hbu hw6 hz6
          go_wp2_with (first
            | (refine wpList_store_part rfl 25 (.tmp 29) (.tmp 161) rfl wa.heap.size 0 (by simp [Act.eval, Act.put]) gs (by simp [Act.eval, Act.put]) 25 [] [.int .i64 0, .int .i64 0, .int .i64 0, .int .i64 0, .int .u32 0, .slice none 0 0] [] HRU.out rfl ?_ HIgs.out HZ1.out ?_)
            | (refine wpList_load_part rfl 25 (.tmp 29) rfl wa.heap.size 0 (by simp [Act.eval, Act.put]) gs _ HC7.out Tryd.underlying25 rfl HIgs.out ?_)
            | (refine wpList_load_part rfl 25 (.tmp 29) rfl wa.heap.size 0 (by simp [Act.eval, Act.put]) gs _ HC6.out Tryd.underlying25 rfl HIgs.out ?_)
            | fail)
          · rw [HZl.out]; rfl
          rw [← HW6.out]
          clear HW6 HRU HZ1 HZl HC6 HC7
          have HBb := Lib.hid (HBa.out.trans (HBwb.out.mono HBa.out.size))
          have hY := bytes_yes G Aa ca wb ((HVa.out.below HBwb.out (Nat.le_refl _)).mono HBwb.out.size) HMG.out (HW.out.below HBb.out)
          rw [← Hgs.out, HSG.out] at hY
          have HY := Lib.hid hY
          clear hY
          refine HY.out.mono ?_
          rintro e wc ⟨vc, rfl, hvc⟩
          have HBc := Lib.hid (HBb.out.trans (hvc.2.mono HBb.out.size))
          have k1 := (hvc.strAt HR.out.1).here
          have k2 := conv_str wc ((HR.out.below HBc.out (Nat.le_refl _)).mono HBc.out.size) d
          have q1 : ((str raw).toList == (str raw).toList) = true := by simp
          generalize str raw = sr at *
          clear hvc
          go_wp2_with fail
          refine (wakes_any _).mono ?_
          rintro e wd ⟨rfl, hbd⟩
          go_wp2
          go_ret
          exact ⟨rfl, HBc.out.trans (hbd.mono HBc.out.size)⟩
end Go.Proofs.YtehkohnpfbdngaaDoor
