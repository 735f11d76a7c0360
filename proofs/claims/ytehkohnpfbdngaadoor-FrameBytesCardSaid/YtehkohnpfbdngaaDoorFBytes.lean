/-
  FrameBytes: the law's own walk.
-/
import Derived.Test.YtehkohnpfbdngaaDoorRefRead
import Derived.Test.YtehkohnpfbdngaaDoorWakes
namespace Go.Proofs.YtehkohnpfbdngaaDoor
open Go.RowKit

/-- what Bytes makes of a frame -/
def bytesOf (f : Fr) : List Nat := if mayB f = true then Crc.sealed (secB f) else []
def bytesE (f : Fr) : Int := if mayB f = true then 0 else 2
theorem bytesOf_lt {f : Fr} (h : ∀ x ∈ f.load, x < 256) : ∀ x ∈ bytesOf f, x < 256 := by
  unfold bytesOf
  split
  · exact Crc.sealed_lt (secB_lt h)
  · intro x hx; cases hx
def BytesOut (w : World) (f : Fr) (e : Ending) (w' : World) : Prop := ∃ v, e = .returned (.tuple #[v, .int .i64 (bytesE f)]) ∧ StrAt w' v (bytesOf f) ∧ Below w.heap.size w w'
theorem str_nil (w : World) : StrAt w (.slice none 0 0) [] := By.strAt (bs := []) By.nil_
theorem bytes_any (f : Fr) (A : Option Addr) (c : Nat) (w : World) (hv : FrV w w.heap.size (frv A c f) f) (hW : Widths w) :
    Calls Tryd.prog 7 #[.agg (frv A c f).toArray] w (BytesOut w f) := by
  cases hm : mayB f with
  | false => exact (bytes_no f A c w hv hm).mono fun e w' h => ⟨_, by unfold bytesE; rw [hm]; exact h.1, by unfold bytesOf; rw [hm]; exact str_nil _, h.2⟩
  | true => exact (bytes_yes f A c w hv hm hW).mono fun e w' ⟨v, h1, h2⟩ => ⟨v, by unfold bytesE; rw [hm]; exact h1, by unfold bytesOf; rw [hm]; exact h2.strAt (Crc.sealed_lt (secB_lt hv.fine.load)), h2.2⟩
theorem rbytes_any (f : Fr) (A : Option Addr) (c : Nat) (w : World) (hv : FrV w w.heap.size (frv A c f) f) :
    Calls Tryd.prog 8 #[.agg (frv A c f).toArray] w (BytesOut w f) := by
  cases hm : mayB f with
  | false => exact (rbytes_no f A c w hv hm).mono fun e w' h => ⟨_, by unfold bytesE; rw [hm]; exact h.1, by unfold bytesOf; rw [hm]; exact str_nil _, h.2⟩
  | true => exact (rbytes_yes f A c w hv hm).mono fun e w' ⟨v, h1, h2⟩ => ⟨v, by unfold bytesE; rw [hm]; exact h1, by unfold bytesOf; rw [hm]; exact h2.strAt (Crc.sealed_lt (secB_lt hv.fine.load)), h2.2⟩
set_option maxHeartbeats 400000 in
theorem great_any (f : Fr) (A : Option Addr) (c : Nat) (w : World) (hl : f.load.length ≤ maxLen) :
    Calls Tryd.prog 5 #[.agg (frv A c f).toArray] w fun e w' => e = .returned (.bool (decide ((1000 : Int) < f.load.length))) ∧ Below w.heap.size w w' := by
  unfold frv maxLen at *
  go_enter Tryd.func5, Tryd.ntmps5
  go_wp2
  go_ret
  exact ⟨rfl, (Below.refl _ _).alloc (Nat.le_refl _) _⟩
/-- a load of an array or a struct behind a guard -/
theorem wpList_load_part_if {P : Program} {ops : Array Oper} {rest : List Oper} {o : Oper} {a : Act} {w : World} {Q : Exit → Act → World → Prop} (hw : Region.wanted o (yielded ops a.tmps) = true) (ty : TypeId) (x : Operand) (ho : o.op = .load ty x)
    (g off : Nat) (hx : a.eval x = .pointer (some ⟨g, off, none⟩)) (xs : List Value) (d : TypeDesc) (hc : ∀ j u, xs[j]? = some u → w.cell? ⟨g, off + j, none⟩ = some u)
    (hu : P.underlying ty = some d) (hd : (match d with | .struct _ | .array _ _ => true | _ => false) = true) (hi : (P.info? ty).map (·.size) = some xs.length)
    (h : wpList P ops Q rest (a.put o.dst (.agg xs.toArray)) w) : wpList P ops Q (o :: rest) a w :=
  wpList_step fun K hK => by
    simp only [hw, if_true]
    exact wp_load_part ty x ho g off hx xs d hc hu hd hi (hK _ _ h)
/-- a frame's row, and how it is read -/
theorem row_read {w : World} {g : Nat} {xs : List Value} {t : TypeId} (h : w.heap[g]? = some (.cells xs.toArray t (0, 0))) (hg : g < w.heap.size) : ∀ W, Below w.heap.size w W → ∀ j u, xs[j]? = some u → W.cell? ⟨g, 0 + j, none⟩ = some u := fun W hW j u hu => by
  rw [Nat.zero_add, cell_of_row W g j _ _ _ ((hW.block g hg).trans h)]
  simpa using hu

set_option maxRecDepth 100000 in
set_option maxHeartbeats 4000000 in
theorem fbytes_any (f h : Fr) (A A' B : Option Addr) (c c' d : Nat) (bs : List Nat) (w : World) (hf : FrV w w.heap.size (frv A c f) f) (hh : FrV w w.heap.size (frv A' c' h) h) (hB : By w w.heap.size B bs) (hd : bs.length ≤ d) (hd2 : d ≤ maxLen) (hW : Widths w) :
    Calls Tryd.prog 3 #[.agg (frv A c f).toArray, .agg (frv A' c' h).toArray, .slice B bs.length d] w fun e w' => e = .returned (.bool true) ∧ Below w.heap.size w w' := by
  have hlb : bs.length ≤ maxLen := Nat.le_trans hd hd2
  have HLf := Lib.hid (Nat.le_trans hf.load_le.1 hf.load_le.2.1)
  have HLh := Lib.hid (Nat.le_trans hh.load_le.1 hh.load_le.2.1)
  obtain ⟨xs, hxs⟩ : ∃ xs, xs = frv A c f := ⟨_, rfl⟩
  obtain ⟨ys, hys⟩ : ∃ ys, ys = frv A' c' h := ⟨_, rfl⟩
  rw [← hxs, ← hys]
  have hb0 := ((Below.refl w.heap.size w).alloc (Nat.le_refl _) (.cells xs.toArray 25)).alloc (by simp) (.cells ys.toArray 25)
  have hr0 := heap_alloc2_old w (.cells xs.toArray 25) (.cells ys.toArray 25)
  have hr1 := heap_alloc2_new w (.cells xs.toArray 25) (.cells ys.toArray 25)
  have hz0 : ((w.alloc (.cells xs.toArray 25)).alloc (.cells ys.toArray 25)).heap.size = w.heap.size + 2 := by simp
  obtain ⟨w0, hw0⟩ : ∃ x, x = (w.alloc (.cells xs.toArray 25)).alloc (.cells ys.toArray 25) := ⟨_, rfl⟩
  rw [← hw0] at hb0 hr0 hr1 hz0
  have HXf := Lib.hid (row_read hr0 (by omega))
  have HXg := Lib.hid (row_read hr1 (by omega))
  have HIf := Lib.hid (show (Tryd.prog.info? 25).map (·.size) = some xs.length by rw [hxs]; exact Tryd.sizeF)
  have HIg := Lib.hid (show (Tryd.prog.info? 25).map (·.size) = some ys.length by rw [hys]; exact Tryd.sizeF)
  have HVf := Lib.hid (fun W (hb : Below w0.heap.size w0 W) => (hf.below (hb0.trans (hb.mono hb0.size)) (Nat.le_refl _)).mono (hb0.trans (hb.mono hb0.size)).size)
  have HVh := Lib.hid (fun W (hb : Below w0.heap.size w0 W) => (hh.below (hb0.trans (hb.mono hb0.size)) (Nat.le_refl _)).mono (hb0.trans (hb.mono hb0.size)).size)
  have HY := Lib.hid (fun W (hb : Below w0.heap.size w0 W) => (hB.below (hb0.trans (hb.mono hb0.size)) (Nat.le_refl _)).mono (hb0.trans (hb.mono hb0.size)).size)
  have HWd := Lib.hid (fun W (hb : Below w0.heap.size w0 W) => hW.below (hb0.trans (hb.mono hb0.size)))
  have HB0 := Lib.hid hb0
  have HD := Lib.hid hd
  have HX := Lib.hid hxs
  have HYs := Lib.hid hys
  have HF0 := Lib.hid (HXf.out _ (Below.refl _ _))
  rw [hw0] at HF0
  have HW0 := Lib.hid hw0
  have HBC := Lib.hid (Below.refl w0.heap.size w0)
  have hlb2 : bs.length ≤ 9223372036854775807 := hlb
  clear hf hh hB hd hd2 hW hb0 hr0 hr1 hz0 hxs hys hlb
  go_enter Tryd.func3, Tryd.ntmps3
  go_wp2_with (first
    | (refine wpList_load_part rfl 25 (.tmp 3) rfl w.heap.size 0 (by simp [Act.eval, Act.put]) xs _ HF0.out Tryd.underlying25 rfl HIf.out ?_)
    | fail)
  rw [← HW0.out]
  clear HW0 HF0
  have hG := great_any f A c w0 HLf.out
  rw [← HX.out] at hG
  have HG := Lib.hid hG
  clear hG
  by_cases h1 : (1000 : Int) < f.load.length
  · rw [decide_eq_true h1] at HG
    refine HG.out.mono ?_
    rintro e w1 ⟨rfl, hb1⟩
    have HBC := Lib.hid hb1
    clear hb1 h1 HG
    go_wp2_with fail
    refine (wakes_any _).mono ?_
    rintro e wx ⟨rfl, hbx⟩
    go_wp2
    go_ret
    exact ⟨rfl, (HB0.out.trans (HBC.out.mono HB0.out.size)).trans (hbx.mono (HB0.out.trans (HBC.out.mono HB0.out.size)).size)⟩
  rw [decide_eq_false h1] at HG
  refine HG.out.mono ?_
  rintro e w1 ⟨rfl, hb1⟩
  have HBC := Lib.hid hb1
  clear hb1 h1 HG
  go_wp2_with (first | (refine wpList_load_part_if (by rfl) 25 (.tmp 4) rfl (w.heap.size + 1) 0 (by simp [Act.eval, Act.put]) ys _ (HXg.out _ HBC.out) Tryd.underlying25 rfl HIg.out ?_) | (refine wpList_load_part rfl 25 (.tmp 3) rfl w.heap.size 0 (by simp [Act.eval, Act.put]) xs _ (HXf.out _ HBC.out) Tryd.underlying25 rfl HIf.out ?_) | (refine wpList_load_part rfl 25 (.tmp 4) rfl (w.heap.size + 1) 0 (by simp [Act.eval, Act.put]) ys _ (HXg.out _ HBC.out) Tryd.underlying25 rfl HIg.out ?_) | fail)
  have hG := great_any h A' c' w1 HLh.out
  rw [← HYs.out] at hG
  have HG := Lib.hid hG
  clear hG
  by_cases h2 : (1000 : Int) < h.load.length
  · rw [decide_eq_true h2] at HG
    refine HG.out.mono ?_
    rintro e w2 ⟨rfl, hb2⟩
    have HBC2 := Lib.hid (HBC.out.trans (hb2.mono HBC.out.size))
    clear hb2 h2 HG
    go_wp2_with fail
    refine (wakes_any _).mono ?_
    rintro e wx ⟨rfl, hbx⟩
    go_wp2
    go_ret
    exact ⟨rfl, (HB0.out.trans (HBC2.out.mono HB0.out.size)).trans (hbx.mono (HB0.out.trans (HBC2.out.mono HB0.out.size)).size)⟩
  rw [decide_eq_false h2] at HG
  refine HG.out.mono ?_
  rintro e w2 ⟨rfl, hb2⟩
  have HBC2 := Lib.hid (HBC.out.trans (hb2.mono HBC.out.size))
  clear hb2 h2 HG HBC
  have HBC := HBC2
  clear HBC2
  by_cases h3 : (1000 : Int) < bs.length
  · go_wp2_with fail
    refine (wakes_any _).mono ?_
    rintro e wx ⟨rfl, hbx⟩
    go_wp2
    go_ret
    exact ⟨rfl, (HB0.out.trans (HBC.out.mono HB0.out.size)).trans (hbx.mono (HB0.out.trans (HBC.out.mono HB0.out.size)).size)⟩
  have HL3 := Lib.hid (show bs.length ≤ 1000000000 by omega)
  go_wp2_with (first | (refine wpList_load_part_if (by rfl) 25 (.tmp 4) rfl (w.heap.size + 1) 0 (by simp [Act.eval, Act.put]) ys _ (HXg.out _ HBC.out) Tryd.underlying25 rfl HIg.out ?_) | (refine wpList_load_part rfl 25 (.tmp 3) rfl w.heap.size 0 (by simp [Act.eval, Act.put]) xs _ (HXf.out _ HBC.out) Tryd.underlying25 rfl HIf.out ?_) | (refine wpList_load_part rfl 25 (.tmp 4) rfl (w.heap.size + 1) 0 (by simp [Act.eval, Act.put]) ys _ (HXg.out _ HBC.out) Tryd.underlying25 rfl HIg.out ?_) | fail)
  have hG := bytes_any f A c w2 (HVf.out _ HBC.out) (HWd.out _ HBC.out)
  rw [← HX.out] at hG
  have HG := Lib.hid hG
  clear hG h3
  refine HG.out.mono ?_
  rintro e w3 ⟨v3, rfl, hs3, hb3⟩
  have HS3 := Lib.hid hs3
  have HBD := Lib.hid (HBC.out.trans (hb3.mono HBC.out.size))
  clear hs3 hb3 HG HBC
  have HBC := HBD
  clear HBD
  go_wp2_with (first | (refine wpList_load_part_if (by rfl) 25 (.tmp 4) rfl (w.heap.size + 1) 0 (by simp [Act.eval, Act.put]) ys _ (HXg.out _ HBC.out) Tryd.underlying25 rfl HIg.out ?_) | (refine wpList_load_part rfl 25 (.tmp 3) rfl w.heap.size 0 (by simp [Act.eval, Act.put]) xs _ (HXf.out _ HBC.out) Tryd.underlying25 rfl HIf.out ?_) | (refine wpList_load_part rfl 25 (.tmp 4) rfl (w.heap.size + 1) 0 (by simp [Act.eval, Act.put]) ys _ (HXg.out _ HBC.out) Tryd.underlying25 rfl HIg.out ?_) | fail)
  have hG := rbytes_any f A c w3 (HVf.out _ HBC.out)
  rw [← HX.out] at hG
  have HG := Lib.hid hG
  clear hG
  refine HG.out.mono ?_
  rintro e w4 ⟨v4, rfl, hs4, hb4⟩
  have HS34 := Lib.hid (HS3.out.later hb4)
  have HS4 := Lib.hid hs4
  have HBD := Lib.hid (HBC.out.trans (hb4.mono HBC.out.size))
  clear hs4 hb4 HG HBC HS3
  have HBC := HBD
  clear HBD
  go_wp2_with fail
  refine (read_any bs B d w4 HL3.out (HY.out _ HBC.out) (HWd.out _ HBC.out)).mono ?_
  unfold ReadOut
  have HFr := Lib.hid (rfl : readF bs = readF bs)
  obtain ⟨F, hF⟩ : ∃ F, F = readF bs := ⟨_, rfl⟩
  rw [← hF]
  have HF := Lib.hid hF
  obtain ⟨E, hE⟩ : ∃ E, E = readE bs := ⟨_, rfl⟩
  rw [← hE]
  have HE := Lib.hid hE
  clear hF hE HFr
  rintro e w5 ⟨A5, c5, rfl, hv5, hb5⟩
  have HV5 := Lib.hid hv5
  have HBD := Lib.hid (HBC.out.trans (hb5.mono HBC.out.size))
  have HS35 := Lib.hid (HS34.out.later hb5)
  have HS45 := Lib.hid (HS4.out.later hb5)
  clear hv5 hb5 HBC HS34 HS4
  obtain ⟨zs, hzs⟩ : ∃ xs, xs = frv A5 c5 F := ⟨_, rfl⟩
  rw [← hzs]
  have HZ1 := Lib.hid (show ∀ v ∈ zs, v.oneCell' = true by rw [hzs]; exact frv_one _ _ _)
  have HZl := Lib.hid (show zs.length = 6 by rw [hzs]; rfl)
  have HIzs := Lib.hid (show (Tryd.prog.info? 25).map (·.size) = some zs.length by rw [hzs]; exact Tryd.sizeF)
  have Hzs := Lib.hid hzs
  have hr5 := heap_alloc_new w5 (.cells #[.int .i64 0, .int .i64 0, .int .i64 0, .int .i64 0, .int .u32 0, .slice none 0 0] 25)
  have hs6 := setRow_heap (w5.alloc (.cells #[.int .i64 0, .int .i64 0, .int .i64 0, .int .i64 0, .int .u32 0, .slice none 0 0] 25)) w5.heap.size _ zs.toArray _ _ hr5
  have hg6 := grown_setRow (w5.alloc (.cells #[.int .i64 0, .int .i64 0, .int .i64 0, .int .i64 0, .int .u32 0, .slice none 0 0] 25)) w5.heap.size zs.toArray
  have hbu := (Below.refl w5.heap.size w5).alloc (Nat.le_refl _) (.cells #[.int .i64 0, .int .i64 0, .int .i64 0, .int .i64 0, .int .u32 0, .slice none 0 0] 25)
  have HRU := Lib.hid hr5
  obtain ⟨w6, hw6⟩ : ∃ x, x = World.setRow (w5.alloc (.cells #[.int .i64 0, .int .i64 0, .int .i64 0, .int .i64 0, .int .u32 0, .slice none 0 0] 25)) w5.heap.size zs.toArray := ⟨_, rfl⟩
  rw [← hw6] at hs6 hg6
  have hz6 : w6.heap.size = w5.heap.size + 1 := by rw [hw6]; simp
  have HBw6 := Lib.hid (hbu.trans (only_below hg6 (Nat.le_refl _) (by simp)))
  have HXzs := Lib.hid (row_read hs6 (by omega))
  have HW6 := Lib.hid hw6
  clear hzs hr5 hs6 hg6 hbu hw6 hz6
  go_wp2_with (first
    | (refine wpList_store_part rfl 25 (.tmp 11) (.tmp 40) rfl w5.heap.size 0 (by simp [Act.eval, Act.put]) zs (by simp [Act.eval, Act.put]) 25 [] [.int .i64 0, .int .i64 0, .int .i64 0, .int .i64 0, .int .u32 0, .slice none 0 0] [] HRU.out rfl ?_ HIzs.out HZ1.out ?_)
    | fail)
  · rw [HZl.out]; rfl
  rw [← HW6.out]
  clear HW6 HRU HZ1 HZl
  have HBC := Lib.hid (HBD.out.trans (HBw6.out.mono HBD.out.size))
  refine (rread_any bs B d w6 HL3.out (HY.out _ HBC.out) HD.out).mono ?_
  unfold ReadOut
  rw [← HF.out, ← HE.out]
  rintro e w7 ⟨A7, c7, rfl, hv7, hb7⟩
  have HV7 := Lib.hid hv7
  have hb57 := HBw6.out.trans (hb7.mono HBw6.out.size)
  have HBE := Lib.hid (HBC.out.trans (hb7.mono HBC.out.size))
  have HB57 := Lib.hid hb57
  have HB67 := Lib.hid hb7
  clear hv7 hb7 hb57 HBC HBD
  obtain ⟨us, hzs⟩ : ∃ xs, xs = frv A7 c7 F := ⟨_, rfl⟩
  rw [← hzs]
  have HZ1 := Lib.hid (show ∀ v ∈ us, v.oneCell' = true by rw [hzs]; exact frv_one _ _ _)
  have HZl := Lib.hid (show us.length = 6 by rw [hzs]; rfl)
  have HIus := Lib.hid (show (Tryd.prog.info? 25).map (·.size) = some us.length by rw [hzs]; exact Tryd.sizeF)
  have Hus := Lib.hid hzs
  have hr5 := heap_alloc_new w7 (.cells #[.int .i64 0, .int .i64 0, .int .i64 0, .int .i64 0, .int .u32 0, .slice none 0 0] 25)
  have hs6 := setRow_heap (w7.alloc (.cells #[.int .i64 0, .int .i64 0, .int .i64 0, .int .i64 0, .int .u32 0, .slice none 0 0] 25)) w7.heap.size _ us.toArray _ _ hr5
  have hg6 := grown_setRow (w7.alloc (.cells #[.int .i64 0, .int .i64 0, .int .i64 0, .int .i64 0, .int .u32 0, .slice none 0 0] 25)) w7.heap.size us.toArray
  have hbu := (Below.refl w7.heap.size w7).alloc (Nat.le_refl _) (.cells #[.int .i64 0, .int .i64 0, .int .i64 0, .int .i64 0, .int .u32 0, .slice none 0 0] 25)
  have HRU := Lib.hid hr5
  obtain ⟨w8, hw6⟩ : ∃ x, x = World.setRow (w7.alloc (.cells #[.int .i64 0, .int .i64 0, .int .i64 0, .int .i64 0, .int .u32 0, .slice none 0 0] 25)) w7.heap.size us.toArray := ⟨_, rfl⟩
  rw [← hw6] at hs6 hg6
  have hz6 : w8.heap.size = w7.heap.size + 1 := by rw [hw6]; simp
  have HBw8 := Lib.hid (hbu.trans (only_below hg6 (Nat.le_refl _) (by simp)))
  have HXus := Lib.hid (row_read hs6 (by omega))
  have HW6 := Lib.hid hw6
  clear hzs hr5 hs6 hg6 hbu hw6 hz6
  go_wp2_with (first
    | (refine wpList_store_part rfl 25 (.tmp 13) (.tmp 45) rfl w7.heap.size 0 (by simp [Act.eval, Act.put]) us (by simp [Act.eval, Act.put]) 25 [] [.int .i64 0, .int .i64 0, .int .i64 0, .int .i64 0, .int .u32 0, .slice none 0 0] [] HRU.out rfl ?_ HIus.out HZ1.out ?_)
    | fail)
  · rw [HZl.out]; rfl
  rw [← HW6.out]
  clear HW6 HRU HZ1 HZl
  have HB58 := Lib.hid (HB57.out.trans (HBw8.out.mono HB57.out.size))
  have HB68 := Lib.hid (HB67.out.trans (HBw8.out.mono HB67.out.size))
  have HB08 := Lib.hid (HBE.out.trans (HBw8.out.mono HBE.out.size))
  have HK1 := Lib.hid (fun W (hW : Below w8.heap.size w8 W) => HS35.out W (HB58.out.trans (hW.mono HB58.out.size)))
  have HK2 := Lib.hid (fun W (hW : Below w8.heap.size w8 W) => HS45.out W (HB58.out.trans (hW.mono HB58.out.size)))
  have HCz := Lib.hid (fun W (hW : Below w8.heap.size w8 W) => HXzs.out W (HB68.out.trans (hW.mono HB68.out.size)))
  have HCu := Lib.hid (fun W (hW : Below w8.heap.size w8 W) => HXus.out W hW)
  have HCf := Lib.hid (fun W (hW : Below w8.heap.size w8 W) => HXf.out W (HB08.out.trans (hW.mono HB08.out.size)))
  have HCg := Lib.hid (fun W (hW : Below w8.heap.size w8 W) => HXg.out W (HB08.out.trans (hW.mono HB08.out.size)))
  have HQ1 := Lib.hid (fun W (hW : Below w8.heap.size w8 W) => (show Calls Tryd.prog 11 #[.agg zs.toArray, .agg us.toArray] W fun e w' => e = .returned (.bool true) ∧ Below W.heap.size W w' by
    have hb1 := HB58.out.trans (hW.mono HB58.out.size)
    have hb2 := HBw8.out.trans (hW.mono HBw8.out.size)
    have h := rsame_any F F A5 A7 c5 c7 W ((HV5.out.below hb1 (Nat.le_refl _)).mono hb1.size) ((HV7.out.below hb2 (Nat.le_refl _)).mono hb2.size)
    rw [← Hzs.out, ← Hus.out, show sameB F F = true by unfold sameB; exact decide_eq_true rfl] at h
    exact h))
  have HQ2 := Lib.hid (fun W (hW : Below w8.heap.size w8 W) => (show Calls Tryd.prog 12 #[.agg xs.toArray] W _ by
    have h := may_any f A c W (HVf.out W (HB08.out.trans (hW.mono HB08.out.size)))
    rw [← HX.out] at h
    exact h))
  have HQ3 := Lib.hid (fun W (hW : Below w8.heap.size w8 W) => (show Calls Tryd.prog 13 #[.agg xs.toArray] W _ by
    have h := rmay_any f A c W (HVf.out W (HB08.out.trans (hW.mono HB08.out.size)))
    rw [← HX.out] at h
    exact h))
  have HQ4 := Lib.hid (fun W (hW : Below w8.heap.size w8 W) => (show Calls Tryd.prog 14 #[.agg xs.toArray, .agg ys.toArray] W _ by
    have h := same_any f h A A' c c' W (HVf.out W (HB08.out.trans (hW.mono HB08.out.size))) (HVh.out W (HB08.out.trans (hW.mono HB08.out.size)))
    rw [← HX.out, ← HYs.out] at h
    exact h))
  have HQ5 := Lib.hid (fun W (hW : Below w8.heap.size w8 W) => (show Calls Tryd.prog 11 #[.agg xs.toArray, .agg ys.toArray] W _ by
    have h := rsame_any f h A A' c c' W (HVf.out W (HB08.out.trans (hW.mono HB08.out.size))) (HVh.out W (HB08.out.trans (hW.mono HB08.out.size)))
    rw [← HX.out, ← HYs.out] at h
    exact h))
  generalize str (bytesOf f) = sx at *
  generalize bytesE f = e0 at *
  generalize mayB f = M at *
  generalize sameB f h = N at *
  have q1 : (sx.toList == sx.toList) = true := by simp
  have q2 : (e0 == e0) = true := by simp
  have q3 : (E == E) = true := by simp
  have q4 : (M == M) = true := by simp
  have q5 : (N == N) = true := by simp
  have HB8 := Lib.hid (HB0.out.trans (HB08.out.mono HB0.out.size))
  clear HV5 HV7 HS35 HS45 HB57 HB58 HB67 HB68 HB08 HBE HBw6 HBw8 HXzs HXus HXf HXg HVf HVh HY HWd HX HYs Hzs Hus HF HE HLf HLh HL3 HD HB0
  go_wp2_with fail
  refine wp_region_held_drew (S := fun W => Below w8.heap.size w8 W) (by kernel_rfl) (Below.refl _ _).drew (fun hHeld => ?_)
  refine wpAnyH_take (i := 0) (v := ?_) rfl (by kernel_rfl) (by kernel_rfl) (by kernel_rfl) (fun _ _ _ h => h) (Or.inl ⟨by rfl, ?_⟩) (by assumption) ?_
  rotate_left
  · simp only [List.getElem_toArray, List.getElem_cons_zero, List.getElem_cons_succ]; intro W hSw; (try dsimp only at hSw); go_simp; all_goals with_reducible rfl
  simp only [Act.put, List.getElem_toArray, List.getElem_cons_zero, List.getElem_cons_succ, List.setIfInBounds_toArray, List.set_cons_zero, List.set_cons_succ]
  refine wpAnyH_take (i := 1) (v := ?_) rfl (by kernel_rfl) (by kernel_rfl) (by kernel_rfl) (fun _ _ _ h => h) (Or.inl ⟨by rfl, ?_⟩) (by assumption) ?_
  rotate_left
  · simp only [List.getElem_toArray, List.getElem_cons_zero, List.getElem_cons_succ]; intro W hSw; (try dsimp only at hSw); have k := HK1.out W hSw; go_simp; all_goals with_reducible rfl
  simp only [Act.put, List.getElem_toArray, List.getElem_cons_zero, List.getElem_cons_succ, List.setIfInBounds_toArray, List.set_cons_zero, List.set_cons_succ]
  refine wpAnyH_take (i := 2) (v := ?_) rfl (by kernel_rfl) (by kernel_rfl) (by kernel_rfl) (fun _ _ _ h => h) (Or.inl ⟨by rfl, ?_⟩) (by assumption) ?_
  rotate_left
  · simp only [List.getElem_toArray, List.getElem_cons_zero, List.getElem_cons_succ]; intro W hSw; (try dsimp only at hSw); go_simp; all_goals with_reducible rfl
  simp only [Act.put, List.getElem_toArray, List.getElem_cons_zero, List.getElem_cons_succ, List.setIfInBounds_toArray, List.set_cons_zero, List.set_cons_succ]
  refine wpAnyH_take (i := 3) (v := ?_) rfl (by kernel_rfl) (by kernel_rfl) (by kernel_rfl) (fun _ _ _ h => h) (Or.inl ⟨by rfl, ?_⟩) (by assumption) ?_
  rotate_left
  · simp only [List.getElem_toArray, List.getElem_cons_zero, List.getElem_cons_succ]; intro W hSw; (try dsimp only at hSw); have k := HK2.out W hSw; go_simp; all_goals with_reducible rfl
  simp only [Act.put, List.getElem_toArray, List.getElem_cons_zero, List.getElem_cons_succ, List.setIfInBounds_toArray, List.set_cons_zero, List.set_cons_succ]
  refine wpAnyH_take (i := 4) (v := ?_) rfl (by kernel_rfl) (by kernel_rfl) (by kernel_rfl) (fun _ _ _ h => h) (Or.inl ⟨by rfl, ?_⟩) (by assumption) ?_
  rotate_left
  · simp only [List.getElem_toArray, List.getElem_cons_zero, List.getElem_cons_succ]; intro W hSw; (try dsimp only at hSw); go_simp; all_goals with_reducible rfl
  simp only [Act.put, List.getElem_toArray, List.getElem_cons_zero, List.getElem_cons_succ, List.setIfInBounds_toArray, List.set_cons_zero, List.set_cons_succ]
  refine wpAnyH_take (i := 5) (v := ?_) rfl (by kernel_rfl) (by kernel_rfl) (by kernel_rfl) (fun _ _ _ h => h) (Or.inl ⟨by rfl, ?_⟩) (by assumption) ?_
  rotate_left
  · simp only [List.getElem_toArray, List.getElem_cons_zero, List.getElem_cons_succ]; intro W hSw; (try dsimp only at hSw); go_simp; all_goals with_reducible rfl
  simp only [Act.put, List.getElem_toArray, List.getElem_cons_zero, List.getElem_cons_succ, List.setIfInBounds_toArray, List.set_cons_zero, List.set_cons_succ]
  refine wpAnyH_take (i := 6) (v := ?_) rfl (by kernel_rfl) (by kernel_rfl) (by kernel_rfl) (fun _ _ _ h => h) (Or.inl ⟨by rfl, ?_⟩) (by assumption) ?_
  rotate_left
  · simp only [List.getElem_toArray, List.getElem_cons_zero, List.getElem_cons_succ]; intro W hSw; (try dsimp only at hSw); go_simp; all_goals with_reducible rfl
  simp only [Act.put, List.getElem_toArray, List.getElem_cons_zero, List.getElem_cons_succ, List.setIfInBounds_toArray, List.set_cons_zero, List.set_cons_succ]
  refine wpAnyH_take (i := 7) (v := ?_) rfl (by kernel_rfl) (by kernel_rfl) (by kernel_rfl) (fun _ _ _ h => h) (Or.inl ⟨by rfl, ?_⟩) (by assumption) ?_
  rotate_left
  · simp only [List.getElem_toArray, List.getElem_cons_zero, List.getElem_cons_succ]; intro W hSw; (try dsimp only at hSw); go_simp; all_goals with_reducible rfl
  simp only [Act.put, List.getElem_toArray, List.getElem_cons_zero, List.getElem_cons_succ, List.setIfInBounds_toArray, List.set_cons_zero, List.set_cons_succ]
  refine wpAnyH_take (i := 8) (v := ?_) rfl (by kernel_rfl) (by kernel_rfl) (by kernel_rfl) (fun _ _ _ h => h) (Or.inl ⟨by rfl, ?_⟩) (by assumption) ?_
  rotate_left
  · simp only [List.getElem_toArray, List.getElem_cons_zero, List.getElem_cons_succ]; intro W hSw; (try dsimp only at hSw); go_simp; all_goals with_reducible rfl
  simp only [Act.put, List.getElem_toArray, List.getElem_cons_zero, List.getElem_cons_succ, List.setIfInBounds_toArray, List.set_cons_zero, List.set_cons_succ]
  refine wpAnyH_take (i := 9) (v := ?_) rfl (by kernel_rfl) (by kernel_rfl) (by kernel_rfl) (fun _ _ _ h => h) (Or.inl ⟨by rfl, ?_⟩) (by assumption) ?_
  rotate_left
  · simp only [List.getElem_toArray, List.getElem_cons_zero, List.getElem_cons_succ]; intro W hSw; (try dsimp only at hSw); go_simp; all_goals with_reducible rfl
  simp only [Act.put, List.getElem_toArray, List.getElem_cons_zero, List.getElem_cons_succ, List.setIfInBounds_toArray, List.set_cons_zero, List.set_cons_succ]
  refine wpAnyH_take (i := 10) (v := ?_) rfl (by kernel_rfl) (by kernel_rfl) (by kernel_rfl) (fun _ _ _ h => h) (Or.inl ⟨by rfl, ?_⟩) (by assumption) ?_
  rotate_left
  · simp only [List.getElem_toArray, List.getElem_cons_zero, List.getElem_cons_succ]; intro W hSw; (try dsimp only at hSw); go_simp; all_goals with_reducible rfl
  simp only [Act.put, List.getElem_toArray, List.getElem_cons_zero, List.getElem_cons_succ, List.setIfInBounds_toArray, List.set_cons_zero, List.set_cons_succ]
  refine wpAnyH_take (i := 11) (v := ?_) rfl (by kernel_rfl) (by kernel_rfl) (by kernel_rfl) (fun _ _ _ h => h) (Or.inl ⟨by rfl, ?_⟩) (by assumption) ?_
  rotate_left
  · simp only [List.getElem_toArray, List.getElem_cons_zero, List.getElem_cons_succ]; intro W hSw; (try dsimp only at hSw); refine exec_load_part 25 (.tmp 11) ?_ w5.heap.size 0 ?_ zs _ (HCz.out W hSw) Tryd.underlying25 ?_ HIzs.out <;> rfl
  simp only [Act.put, List.getElem_toArray, List.getElem_cons_zero, List.getElem_cons_succ, List.setIfInBounds_toArray, List.set_cons_zero, List.set_cons_succ]
  refine wpAnyH_take (i := 12) (v := ?_) rfl (by kernel_rfl) (by kernel_rfl) (by kernel_rfl) (fun _ _ _ h => h) (Or.inl ⟨by rfl, ?_⟩) (by assumption) ?_
  rotate_left
  · simp only [List.getElem_toArray, List.getElem_cons_zero, List.getElem_cons_succ]; intro W hSw; (try dsimp only at hSw); refine exec_load_part 25 (.tmp 13) ?_ w7.heap.size 0 ?_ us _ (HCu.out W hSw) Tryd.underlying25 ?_ HIus.out <;> rfl
  simp only [Act.put, List.getElem_toArray, List.getElem_cons_zero, List.getElem_cons_succ, List.setIfInBounds_toArray, List.set_cons_zero, List.set_cons_succ]
  refine wpAnyH_ready (rs := [13]) (by kernel_rfl) (by simp) ?_
  refine AllReadyH.cons rfl (fun K hK => ?_) AllReadyH.nil
  simp only [List.getElem_toArray, List.getElem_cons_zero, List.getElem_cons_succ]
  go_simp
  refine (HQ1.out _ hHeld).mono ?_
  rintro e wn ⟨rfl, hbn⟩
  go_wp2_with fail
  refine hK.out _ _ (hHeld.trans (hbn.mono hHeld.size)) (fun hHeldN => ?_)
  clear hK K hHeld
  have hHeld := hHeldN
  clear hHeldN
  (try simp only [Act.put, List.getElem_toArray, List.getElem_cons_zero, List.getElem_cons_succ, List.setIfInBounds_toArray, List.set_cons_zero, List.set_cons_succ])
  clear hbn
  refine wpAnyH_take (i := 14) (v := ?_) rfl (by kernel_rfl) (by kernel_rfl) (by kernel_rfl) (fun _ _ _ h => h) (Or.inl ⟨by rfl, ?_⟩) (by assumption) ?_
  rotate_left
  · simp only [List.getElem_toArray, List.getElem_cons_zero, List.getElem_cons_succ]; intro W hSw; (try dsimp only at hSw); go_simp; all_goals with_reducible rfl
  simp only [Act.put, List.getElem_toArray, List.getElem_cons_zero, List.getElem_cons_succ, List.setIfInBounds_toArray, List.set_cons_zero, List.set_cons_succ]
  refine wpAnyH_take (i := 15) (v := ?_) rfl (by kernel_rfl) (by kernel_rfl) (by kernel_rfl) (fun _ _ _ h => h) (Or.inl ⟨by rfl, ?_⟩) (by assumption) ?_
  rotate_left
  · simp only [List.getElem_toArray, List.getElem_cons_zero, List.getElem_cons_succ]; intro W hSw; (try dsimp only at hSw); go_simp; all_goals with_reducible rfl
  simp only [Act.put, List.getElem_toArray, List.getElem_cons_zero, List.getElem_cons_succ, List.setIfInBounds_toArray, List.set_cons_zero, List.set_cons_succ]
  refine wpAnyH_take (i := 16) (v := ?_) rfl (by kernel_rfl) (by kernel_rfl) (by kernel_rfl) (fun _ _ _ h => h) (Or.inl ⟨by rfl, ?_⟩) (by assumption) ?_
  rotate_left
  · simp only [List.getElem_toArray, List.getElem_cons_zero, List.getElem_cons_succ]; intro W hSw; (try dsimp only at hSw); go_simp; all_goals with_reducible rfl
  simp only [Act.put, List.getElem_toArray, List.getElem_cons_zero, List.getElem_cons_succ, List.setIfInBounds_toArray, List.set_cons_zero, List.set_cons_succ]
  refine wpAnyH_take (i := 17) (v := ?_) rfl (by kernel_rfl) (by kernel_rfl) (by kernel_rfl) (fun _ _ _ h => h) (Or.inl ⟨by rfl, ?_⟩) (by assumption) ?_
  rotate_left
  · simp only [List.getElem_toArray, List.getElem_cons_zero, List.getElem_cons_succ]; intro W hSw; (try dsimp only at hSw); go_simp; all_goals with_reducible rfl
  simp only [Act.put, List.getElem_toArray, List.getElem_cons_zero, List.getElem_cons_succ, List.setIfInBounds_toArray, List.set_cons_zero, List.set_cons_succ]
  refine wpAnyH_take (i := 18) (v := ?_) rfl (by kernel_rfl) (by kernel_rfl) (by kernel_rfl) (fun _ _ _ h => h) (Or.inl ⟨by rfl, ?_⟩) (by assumption) ?_
  rotate_left
  · simp only [List.getElem_toArray, List.getElem_cons_zero, List.getElem_cons_succ]; intro W hSw; (try dsimp only at hSw); go_simp; all_goals with_reducible rfl
  simp only [Act.put, List.getElem_toArray, List.getElem_cons_zero, List.getElem_cons_succ, List.setIfInBounds_toArray, List.set_cons_zero, List.set_cons_succ]
  refine wpAnyH_take (i := 19) (v := ?_) rfl (by kernel_rfl) (by kernel_rfl) (by kernel_rfl) (fun _ _ _ h => h) (Or.inl ⟨by rfl, ?_⟩) (by assumption) ?_
  rotate_left
  · simp only [List.getElem_toArray, List.getElem_cons_zero, List.getElem_cons_succ]; intro W hSw; (try dsimp only at hSw); go_simp; all_goals with_reducible rfl
  simp only [Act.put, List.getElem_toArray, List.getElem_cons_zero, List.getElem_cons_succ, List.setIfInBounds_toArray, List.set_cons_zero, List.set_cons_succ]
  refine wpAnyH_take (i := 20) (v := ?_) rfl (by kernel_rfl) (by kernel_rfl) (by kernel_rfl) (fun _ _ _ h => h) (Or.inl ⟨by rfl, ?_⟩) (by assumption) ?_
  rotate_left
  · simp only [List.getElem_toArray, List.getElem_cons_zero, List.getElem_cons_succ]; intro W hSw; (try dsimp only at hSw); go_simp; all_goals with_reducible rfl
  simp only [Act.put, List.getElem_toArray, List.getElem_cons_zero, List.getElem_cons_succ, List.setIfInBounds_toArray, List.set_cons_zero, List.set_cons_succ]
  refine wpAnyH_take (i := 21) (v := ?_) rfl (by kernel_rfl) (by kernel_rfl) (by kernel_rfl) (fun _ _ _ h => h) (Or.inl ⟨by rfl, ?_⟩) (by assumption) ?_
  rotate_left
  · simp only [List.getElem_toArray, List.getElem_cons_zero, List.getElem_cons_succ]; intro W hSw; (try dsimp only at hSw); refine exec_load_part 25 (.tmp 3) ?_ w.heap.size 0 ?_ xs _ (HCf.out W hSw) Tryd.underlying25 ?_ HIf.out <;> rfl
  simp only [Act.put, List.getElem_toArray, List.getElem_cons_zero, List.getElem_cons_succ, List.setIfInBounds_toArray, List.set_cons_zero, List.set_cons_succ]
  refine wpAnyH_take (i := 23) (v := ?_) rfl (by kernel_rfl) (by kernel_rfl) (by kernel_rfl) (fun _ _ _ h => h) (Or.inl ⟨by rfl, ?_⟩) (by assumption) ?_
  rotate_left
  · simp only [List.getElem_toArray, List.getElem_cons_zero, List.getElem_cons_succ]; intro W hSw; (try dsimp only at hSw); refine exec_load_part 25 (.tmp 3) ?_ w.heap.size 0 ?_ xs _ (HCf.out W hSw) Tryd.underlying25 ?_ HIf.out <;> rfl
  simp only [Act.put, List.getElem_toArray, List.getElem_cons_zero, List.getElem_cons_succ, List.setIfInBounds_toArray, List.set_cons_zero, List.set_cons_succ]
  refine wpAnyH_ready (rs := [22]) (by kernel_rfl) (by simp) ?_
  refine AllReadyH.cons rfl (fun K hK => ?_) AllReadyH.nil
  simp only [List.getElem_toArray, List.getElem_cons_zero, List.getElem_cons_succ]
  go_simp
  refine (HQ2.out _ hHeld).mono ?_
  rintro e wn ⟨rfl, hbn⟩
  go_wp2_with fail
  refine hK.out _ _ (hHeld.trans (hbn.mono hHeld.size)) (fun hHeldN => ?_)
  clear hK K hHeld
  have hHeld := hHeldN
  clear hHeldN
  (try simp only [Act.put, List.getElem_toArray, List.getElem_cons_zero, List.getElem_cons_succ, List.setIfInBounds_toArray, List.set_cons_zero, List.set_cons_succ])
  clear hbn
  refine wpAnyH_ready (rs := [24]) (by kernel_rfl) (by simp) ?_
  refine AllReadyH.cons rfl (fun K hK => ?_) AllReadyH.nil
  simp only [List.getElem_toArray, List.getElem_cons_zero, List.getElem_cons_succ]
  go_simp
  refine (HQ3.out _ hHeld).mono ?_
  rintro e wn ⟨rfl, hbn⟩
  go_wp2_with fail
  refine hK.out _ _ (hHeld.trans (hbn.mono hHeld.size)) (fun hHeldN => ?_)
  clear hK K hHeld
  have hHeld := hHeldN
  clear hHeldN
  (try simp only [Act.put, List.getElem_toArray, List.getElem_cons_zero, List.getElem_cons_succ, List.setIfInBounds_toArray, List.set_cons_zero, List.set_cons_succ])
  clear hbn
  refine wpAnyH_take (i := 25) (v := ?_) rfl (by kernel_rfl) (by kernel_rfl) (by kernel_rfl) (fun _ _ _ h => h) (Or.inl ⟨by rfl, ?_⟩) (by assumption) ?_
  rotate_left
  · simp only [List.getElem_toArray, List.getElem_cons_zero, List.getElem_cons_succ]; intro W hSw; (try dsimp only at hSw); go_simp; all_goals with_reducible rfl
  simp only [Act.put, List.getElem_toArray, List.getElem_cons_zero, List.getElem_cons_succ, List.setIfInBounds_toArray, List.set_cons_zero, List.set_cons_succ]
  refine wpAnyH_take (i := 26) (v := ?_) rfl (by kernel_rfl) (by kernel_rfl) (by kernel_rfl) (fun _ _ _ h => h) (Or.inl ⟨by rfl, ?_⟩) (by assumption) ?_
  rotate_left
  · simp only [List.getElem_toArray, List.getElem_cons_zero, List.getElem_cons_succ]; intro W hSw; (try dsimp only at hSw); go_simp; all_goals with_reducible rfl
  simp only [Act.put, List.getElem_toArray, List.getElem_cons_zero, List.getElem_cons_succ, List.setIfInBounds_toArray, List.set_cons_zero, List.set_cons_succ]
  refine wpAnyH_take (i := 27) (v := ?_) rfl (by kernel_rfl) (by kernel_rfl) (by kernel_rfl) (fun _ _ _ h => h) (Or.inl ⟨by rfl, ?_⟩) (by assumption) ?_
  rotate_left
  · simp only [List.getElem_toArray, List.getElem_cons_zero, List.getElem_cons_succ]; intro W hSw; (try dsimp only at hSw); go_simp; all_goals with_reducible rfl
  simp only [Act.put, List.getElem_toArray, List.getElem_cons_zero, List.getElem_cons_succ, List.setIfInBounds_toArray, List.set_cons_zero, List.set_cons_succ]
  refine wpAnyH_take (i := 28) (v := ?_) rfl (by kernel_rfl) (by kernel_rfl) (by kernel_rfl) (fun _ _ _ h => h) (Or.inl ⟨by rfl, ?_⟩) (by assumption) ?_
  rotate_left
  · simp only [List.getElem_toArray, List.getElem_cons_zero, List.getElem_cons_succ]; intro W hSw; (try dsimp only at hSw); refine exec_load_part 25 (.tmp 3) ?_ w.heap.size 0 ?_ xs _ (HCf.out W hSw) Tryd.underlying25 ?_ HIf.out <;> rfl
  simp only [Act.put, List.getElem_toArray, List.getElem_cons_zero, List.getElem_cons_succ, List.setIfInBounds_toArray, List.set_cons_zero, List.set_cons_succ]
  refine wpAnyH_take (i := 29) (v := ?_) rfl (by kernel_rfl) (by kernel_rfl) (by kernel_rfl) (fun _ _ _ h => h) (Or.inl ⟨by rfl, ?_⟩) (by assumption) ?_
  rotate_left
  · simp only [List.getElem_toArray, List.getElem_cons_zero, List.getElem_cons_succ]; intro W hSw; (try dsimp only at hSw); refine exec_load_part 25 (.tmp 4) ?_ (w.heap.size + 1) 0 ?_ ys _ (HCg.out W hSw) Tryd.underlying25 ?_ HIg.out <;> rfl
  simp only [Act.put, List.getElem_toArray, List.getElem_cons_zero, List.getElem_cons_succ, List.setIfInBounds_toArray, List.set_cons_zero, List.set_cons_succ]
  refine wpAnyH_take (i := 31) (v := ?_) rfl (by kernel_rfl) (by kernel_rfl) (by kernel_rfl) (fun _ _ _ h => h) (Or.inl ⟨by rfl, ?_⟩) (by assumption) ?_
  rotate_left
  · simp only [List.getElem_toArray, List.getElem_cons_zero, List.getElem_cons_succ]; intro W hSw; (try dsimp only at hSw); refine exec_load_part 25 (.tmp 3) ?_ w.heap.size 0 ?_ xs _ (HCf.out W hSw) Tryd.underlying25 ?_ HIf.out <;> rfl
  simp only [Act.put, List.getElem_toArray, List.getElem_cons_zero, List.getElem_cons_succ, List.setIfInBounds_toArray, List.set_cons_zero, List.set_cons_succ]
  refine wpAnyH_take (i := 32) (v := ?_) rfl (by kernel_rfl) (by kernel_rfl) (by kernel_rfl) (fun _ _ _ h => h) (Or.inl ⟨by rfl, ?_⟩) (by assumption) ?_
  rotate_left
  · simp only [List.getElem_toArray, List.getElem_cons_zero, List.getElem_cons_succ]; intro W hSw; (try dsimp only at hSw); refine exec_load_part 25 (.tmp 4) ?_ (w.heap.size + 1) 0 ?_ ys _ (HCg.out W hSw) Tryd.underlying25 ?_ HIg.out <;> rfl
  simp only [Act.put, List.getElem_toArray, List.getElem_cons_zero, List.getElem_cons_succ, List.setIfInBounds_toArray, List.set_cons_zero, List.set_cons_succ]
  refine wpAnyH_ready (rs := [30]) (by kernel_rfl) (by simp) ?_
  refine AllReadyH.cons rfl (fun K hK => ?_) AllReadyH.nil
  simp only [List.getElem_toArray, List.getElem_cons_zero, List.getElem_cons_succ]
  go_simp
  refine (HQ4.out _ hHeld).mono ?_
  rintro e wn ⟨rfl, hbn⟩
  go_wp2_with fail
  refine hK.out _ _ (hHeld.trans (hbn.mono hHeld.size)) (fun hHeldN => ?_)
  clear hK K hHeld
  have hHeld := hHeldN
  clear hHeldN
  (try simp only [Act.put, List.getElem_toArray, List.getElem_cons_zero, List.getElem_cons_succ, List.setIfInBounds_toArray, List.set_cons_zero, List.set_cons_succ])
  clear hbn
  refine wpAnyH_ready (rs := [33]) (by kernel_rfl) (by simp) ?_
  refine AllReadyH.cons rfl (fun K hK => ?_) AllReadyH.nil
  simp only [List.getElem_toArray, List.getElem_cons_zero, List.getElem_cons_succ]
  go_simp
  refine (HQ5.out _ hHeld).mono ?_
  rintro e wn ⟨rfl, hbn⟩
  go_wp2_with fail
  refine hK.out _ _ (hHeld.trans (hbn.mono hHeld.size)) (fun hHeldN => ?_)
  clear hK K hHeld
  have hHeld := hHeldN
  clear hHeldN
  (try simp only [Act.put, List.getElem_toArray, List.getElem_cons_zero, List.getElem_cons_succ, List.setIfInBounds_toArray, List.set_cons_zero, List.set_cons_succ])
  clear hbn
  refine wpAnyH_take (i := 34) (v := ?_) rfl (by kernel_rfl) (by kernel_rfl) (by kernel_rfl) (fun _ _ _ h => h) (Or.inl ⟨by rfl, ?_⟩) (by assumption) ?_
  rotate_left
  · simp only [List.getElem_toArray, List.getElem_cons_zero, List.getElem_cons_succ]; intro W hSw; (try dsimp only at hSw); go_simp; all_goals with_reducible rfl
  simp only [Act.put, List.getElem_toArray, List.getElem_cons_zero, List.getElem_cons_succ, List.setIfInBounds_toArray, List.set_cons_zero, List.set_cons_succ]
  refine wpAnyH_take (i := 35) (v := ?_) rfl (by kernel_rfl) (by kernel_rfl) (by kernel_rfl) (fun _ _ _ h => h) (Or.inl ⟨by rfl, ?_⟩) (by assumption) ?_
  rotate_left
  · simp only [List.getElem_toArray, List.getElem_cons_zero, List.getElem_cons_succ]; intro W hSw; (try dsimp only at hSw); go_simp; all_goals with_reducible rfl
  simp only [Act.put, List.getElem_toArray, List.getElem_cons_zero, List.getElem_cons_succ, List.setIfInBounds_toArray, List.set_cons_zero, List.set_cons_succ]
  refine wpAnyH_take (i := 36) (v := ?_) rfl (by kernel_rfl) (by kernel_rfl) (by kernel_rfl) (fun _ _ _ h => h) (Or.inl ⟨by rfl, ?_⟩) (by assumption) ?_
  rotate_left
  · simp only [List.getElem_toArray, List.getElem_cons_zero, List.getElem_cons_succ]; intro W hSw; (try dsimp only at hSw); go_simp; all_goals with_reducible rfl
  simp only [Act.put, List.getElem_toArray, List.getElem_cons_zero, List.getElem_cons_succ, List.setIfInBounds_toArray, List.set_cons_zero, List.set_cons_succ]
  refine wpAnyH_ready (rs := [37]) (by kernel_rfl) (by simp) ?_
  refine AllReadyH.cons rfl (fun K hK => ?_) AllReadyH.nil
  simp only [List.getElem_toArray, List.getElem_cons_zero, List.getElem_cons_succ]
  go_simp
  refine (wakes_any _).mono ?_
  rintro e wn ⟨rfl, hbn⟩
  go_wp2_with fail
  refine hK.out _ _ (hHeld.trans (hbn.mono hHeld.size)) (fun hHeldN => ?_)
  clear hK K hHeld
  have hHeld := hHeldN
  clear hHeldN
  (try simp only [Act.put, List.getElem_toArray, List.getElem_cons_zero, List.getElem_cons_succ, List.setIfInBounds_toArray, List.set_cons_zero, List.set_cons_succ])
  refine wpAnyH_take (i := 38) (v := ?_) rfl (by kernel_rfl) (by kernel_rfl) (by kernel_rfl) (fun _ _ _ h => h) (Or.inl ⟨by rfl, ?_⟩) (by assumption) ?_
  rotate_left
  · simp only [List.getElem_toArray, List.getElem_cons_zero, List.getElem_cons_succ]; intro W hSw; (try dsimp only at hSw); go_simp; all_goals with_reducible rfl
  simp only [Act.put, List.getElem_toArray, List.getElem_cons_zero, List.getElem_cons_succ, List.setIfInBounds_toArray, List.set_cons_zero, List.set_cons_succ]
  refine wpAnyH_take (i := 39) (v := ?_) rfl (by kernel_rfl) (by kernel_rfl) (by kernel_rfl) (fun _ _ _ h => h) (Or.inl ⟨by rfl, ?_⟩) (by assumption) ?_
  rotate_left
  · simp only [List.getElem_toArray, List.getElem_cons_zero, List.getElem_cons_succ]; intro W hSw; (try dsimp only at hSw); go_simp; all_goals with_reducible rfl
  simp only [Act.put, List.getElem_toArray, List.getElem_cons_zero, List.getElem_cons_succ, List.setIfInBounds_toArray, List.set_cons_zero, List.set_cons_succ]
  refine wpAnyH_done (by kernel_rfl) ?_ _
  have HBn := Lib.hid (HB8.out.trans (hHeld.mono HB8.out.size))
  clear hHeld
  go_wp2
  go_ret
  exact ⟨rfl, HBn.out⟩
end Go.Proofs.YtehkohnpfbdngaaDoor
