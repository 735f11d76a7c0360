/-
  The document's own Read, by contract.
-/
import Derived.Test.YtehkohnpfbdngaaDoorSector
import Derived.Test.YtehkohnpfbdngaaDoorRefBytes
import Derived.Test.YtehkohnpfbdngaaDoorRefOpen
import Derived.Laws.AppendOwn
namespace Go.Proofs.YtehkohnpfbdngaaDoor
open Go.RowKit

theorem part_of_part (bs : List Nat) (a m n : Nat) (h : a + m ≤ n) : ((bs.take n).drop a).take m = (bs.drop a).take m := by
  rw [List.drop_take, List.take_take, Nat.min_eq_left (by omega)]
theorem num_one (bs : List Nat) (a : Nat) (h : a < bs.length) : num ((bs.drop a).take 1) = bs.getD a 0 := by
  rw [List.drop_eq_getElem_cons h, List.take_succ_cons, List.take_zero, getD_at _ _ h]
  simp [num]
/-- the zero frame is stored, and returned -/
theorem new0 (w : World) : (w.alloc (.cells #[.int .i64 0, .int .i64 0, .int .i64 0, .int .i64 0, .int .u32 0, .slice none 0 0] 25)).heap[w.heap.size]? = some (.cells #[.int .i64 0, .int .i64 0, .int .i64 0, .int .i64 0, .int .u32 0, .slice none 0 0] 25 (0, 0)) := heap_alloc_new w _

set_option maxHeartbeats 1000000 in
theorem rread_unsealed (bs : List Nat) (A : Option Addr) (c : Nat) (w : World) (hl : bs.length ≤ 1000000000) (hA : By w w.heap.size A bs) (hc : bs.length ≤ c) (hs : Crc.isSealed bs = false) :
    Calls Tryd.prog 10 #[.slice A bs.length c] w (ReadOut w bs) := by
  have HN := Lib.hid (read_unsealed hs)
  have hb := (Below.refl w.heap.size w).alloc (Nat.le_refl _) (.cells #[.int .i64 0, .int .i64 0, .int .i64 0, .int .i64 0, .int .u32 0, .slice none 0 0] 25)
  have HO := Lib.hid (ropen_other bs A c _ ((hA.below hb (Nat.le_refl _)).mono hb.size) hc hl hs)
  have HR := Lib.hid (new0 w)
  have HBw := Lib.hid hb
  clear hb hA hs hc
  go_enter Tryd.func10, Tryd.ntmps10
  go_wp2_with fail
  refine HO.out.mono ?_
  rintro e w1 ⟨rfl, rfl⟩
  obtain ⟨w8, hw8⟩ : ∃ x, x = World.setRow (w.alloc (.cells #[.int .i64 0, .int .i64 0, .int .i64 0, .int .i64 0, .int .u32 0, .slice none 0 0] 25)) w.heap.size #[.int .i64 0, .int .i64 0, .int .i64 0, .int .i64 0, .int .u32 0, .slice none 0 0] := ⟨_, rfl⟩
  have HR8 := Lib.hid (show w8.heap[w.heap.size]? = some (.cells #[.int .i64 0, .int .i64 0, .int .i64 0, .int .i64 0, .int .u32 0, .slice none 0 0] 25 (0, 0)) by rw [hw8]; exact setRow_heap _ _ _ _ _ _ HR.out)
  have HB8 := Lib.hid (show Below w.heap.size w w8 by rw [hw8]; exact HBw.out.grown (grown_setRow (w.alloc (.cells #[.int .i64 0, .int .i64 0, .int .i64 0, .int .i64 0, .int .u32 0, .slice none 0 0] 25)) w.heap.size _) HBw.out.size (fun k e => by cases e; omega))
  have HW8 := Lib.hid hw8
  clear hw8
  go_wp2_with (first
    | (refine wpList_store_part rfl 25 (.tmp 2) (.tmp 22) rfl w.heap.size 0 (by simp [Act.eval, Act.put]) [.int .i64 0, .int .i64 0, .int .i64 0, .int .i64 0, .int .u32 0, .slice none 0 0] (by simp [Act.eval, Act.put]) 25 [] [.int .i64 0, .int .i64 0, .int .i64 0, .int .i64 0, .int .u32 0, .slice none 0 0] [] HR.out rfl rfl Tryd.sizeF (by decide) ?_))
  rw [← HW8.out]
  exact bodyPost_ret (results_cell_tmp (t := 25) (p := 2) (u := 3) rfl _ _ w.heap.size _ (0, 0) _ rfl HR8.out Tryd.underlying25 rfl Tryd.sizeF) rfl (ReadOut.no HN.out HB8.out)
set_option maxHeartbeats 1000000 in
theorem rread_long (bs : List Nat) (A : Option Addr) (c : Nat) (w : World) (hl : bs.length ≤ 1000000000) (hA : By w w.heap.size A bs) (hc : bs.length ≤ c) (hs : Crc.isSealed bs = true) (h64 : ¬ bs.length = 64) :
    Calls Tryd.prog 10 #[.slice A bs.length c] w (ReadOut w bs) := by
  have HN := Lib.hid (read_long h64)
  have hb := (Below.refl w.heap.size w).alloc (Nat.le_refl _) (.cells #[.int .i64 0, .int .i64 0, .int .i64 0, .int .i64 0, .int .u32 0, .slice none 0 0] 25)
  have HO := Lib.hid (ropen_sealed bs A c _ ((hA.below hb (Nat.le_refl _)).mono hb.size) hc hl hs)
  have HR0 := Lib.hid (new0 w)
  have HB0 := Lib.hid hb
  have hq : ((bs.length : Int) != 64) = true := by rw [bne_iff_ne]; omega
  clear hb hA hs hc h64
  go_enter Tryd.func10, Tryd.ntmps10
  go_wp2_with fail
  refine HO.out.mono ?_
  rintro e w1 ⟨v, rfl, hv⟩
  have HR := Lib.hid ((hv.2.block w.heap.size (by simp)).trans HR0.out)
  have HBw := Lib.hid (HB0.out.trans (hv.2.mono HB0.out.size))
  clear hv
  obtain ⟨w8, hw8⟩ : ∃ x, x = World.setRow w1 w.heap.size #[.int .i64 0, .int .i64 0, .int .i64 0, .int .i64 0, .int .u32 0, .slice none 0 0] := ⟨_, rfl⟩
  have HR8 := Lib.hid (show w8.heap[w.heap.size]? = some (.cells #[.int .i64 0, .int .i64 0, .int .i64 0, .int .i64 0, .int .u32 0, .slice none 0 0] 25 (0, 0)) by rw [hw8]; exact setRow_heap _ _ _ _ _ _ HR.out)
  have HB8 := Lib.hid (show Below w.heap.size w w8 by rw [hw8]; exact HBw.out.grown (grown_setRow w1 w.heap.size _) HBw.out.size (fun k e => by cases e; omega))
  have HW8 := Lib.hid hw8
  clear hw8
  go_wp2_with (first
    | (refine wpList_store_part rfl 25 (.tmp 2) (.tmp 22) rfl w.heap.size 0 (by simp [Act.eval, Act.put]) [.int .i64 0, .int .i64 0, .int .i64 0, .int .i64 0, .int .u32 0, .slice none 0 0] (by simp [Act.eval, Act.put]) 25 [] [.int .i64 0, .int .i64 0, .int .i64 0, .int .i64 0, .int .u32 0, .slice none 0 0] [] HR.out rfl rfl Tryd.sizeF (by decide) ?_))
  rw [← HW8.out]
  exact bodyPost_ret (results_cell_tmp (t := 25) (p := 2) (u := 3) rfl _ _ w.heap.size _ (0, 0) _ rfl HR8.out Tryd.underlying25 rfl Tryd.sizeF) rfl (ReadOut.no HN.out HB8.out)
set_option maxHeartbeats 1000000 in
theorem rread_great (bs : List Nat) (A : Option Addr) (c : Nat) (w : World) (hA : By w w.heap.size A bs) (hc : bs.length ≤ c) (hs : Crc.isSealed bs = true) (h64 : bs.length = 64) (h45 : 45 < nv bs 3) :
    Calls Tryd.prog 10 #[.slice A bs.length c] w (ReadOut w bs) := by
  have HN := Lib.hid (read_great hA.1 h45)
  have hb := (Below.refl w.heap.size w).alloc (Nat.le_refl _) (.cells #[.int .i64 0, .int .i64 0, .int .i64 0, .int .i64 0, .int .u32 0, .slice none 0 0] 25)
  have HO := Lib.hid (ropen_sealed bs A c _ ((hA.below hb (Nat.le_refl _)).mono hb.size) hc (by omega) hs)
  have HR0 := Lib.hid (new0 w)
  have HB0 := Lib.hid hb
  have HBy := Lib.hid hA.1
  have h10 : nv bs 3 = bs.getD 10 0 := num_one bs 10 (by omega)
  have hq2 : nv bs 3 < 256 := (nv_lt h64 hA.1).2.2.2.1
  have hw : IntKind.i64.wrap (nv bs 3 : Int) = (nv bs 3 : Int) := by rw [IntKind.wrap_i64]; omega
  have HL := Lib.hid h64
  rw [h64] at HO ⊢
  clear hb hA hs hc h64
  go_enter Tryd.func10, Tryd.ntmps10
  go_wp2_with fail
  refine HO.out.mono ?_
  rintro e w1 ⟨v, rfl, hv⟩
  have ht : (bs.take (64 - 4)).length = 60 := by rw [List.length_take, HL.out]; omega
  obtain ⟨g, cp, rfl, hy, hcp, -, hge, hlt, -⟩ := hv.block (fun x hx => HBy.out x (List.mem_of_mem_take hx)) (by omega)
  have HR := Lib.hid ((hv.2.block w.heap.size (by simp)).trans HR0.out)
  have HBw := Lib.hid (HB0.out.trans (hv.2.mono HB0.out.size))
  have hcell : w1.cell? ⟨g, 10, none⟩ = some (.int .u8 (nv bs 3 : Nat)) := by
    obtain ⟨b', off', e', -, hcs⟩ := hy.at_ (by omega)
    cases e'
    have h := hcs 10 (by omega)
    rw [Nat.zero_add] at h
    rw [h, h10, getD_at _ _ (by omega), getD_at _ _ (by have := HL.out; omega), List.getElem_take]
  clear h10 hy hv hge
  rw [ht] at hcp ⊢
  generalize nv bs 3 = q at *
  have hq : (45 : Int) < (q : Int) := by omega
  obtain ⟨w8, hw8⟩ : ∃ x, x = World.setRow w1 w.heap.size #[.int .i64 0, .int .i64 0, .int .i64 0, .int .i64 0, .int .u32 0, .slice none 0 0] := ⟨_, rfl⟩
  have HR8 := Lib.hid (show w8.heap[w.heap.size]? = some (.cells #[.int .i64 0, .int .i64 0, .int .i64 0, .int .i64 0, .int .u32 0, .slice none 0 0] 25 (0, 0)) by rw [hw8]; exact setRow_heap _ _ _ _ _ _ HR.out)
  have HB8 := Lib.hid (show Below w.heap.size w w8 by rw [hw8]; exact HBw.out.grown (grown_setRow w1 w.heap.size _) HBw.out.size (fun k e => by cases e; omega))
  have HW8 := Lib.hid hw8
  clear hw8
  go_wp2_with (first
    | (refine wpList_store_part rfl 25 (.tmp 2) (.tmp 29) rfl w.heap.size 0 (by simp [Act.eval, Act.put]) [.int .i64 0, .int .i64 0, .int .i64 0, .int .i64 0, .int .u32 0, .slice none 0 0] (by simp [Act.eval, Act.put]) 25 [] [.int .i64 0, .int .i64 0, .int .i64 0, .int .i64 0, .int .u32 0, .slice none 0 0] [] HR.out rfl rfl Tryd.sizeF (by decide) ?_))
  rw [← HW8.out]
  exact bodyPost_ret (results_cell_tmp (t := 25) (p := 2) (u := 3) rfl _ _ w.heap.size _ (0, 0) _ rfl HR8.out Tryd.underlying25 rfl Tryd.sizeF) rfl (ReadOut.no HN.out HB8.out)
theorem part_at {w : World} {B g : Nat} {bs : List Nat} (h : By w B (some ⟨g, 0, none⟩) bs) (a m : Nat) (ha : ¬ bs.length = a) (hl : a + m ≤ bs.length) : By w B (some ⟨g, a, none⟩) ((bs.drop a).take m) := by
  have h1 := h.drop (c := bs.length) a (Nat.le_refl _)
  rw [if_neg ha, Option.map_some, add_flat, Nat.zero_add] at h1
  exact h1.take m
set_option maxRecDepth 100000 in
set_option maxHeartbeats 2000000 in
theorem rread_sector (bs : List Nat) (A : Option Addr) (c : Nat) (w : World) (hA : By w w.heap.size A bs) (hc : bs.length ≤ c) (hs : Crc.isSealed bs = true) (h64 : bs.length = 64) (h45 : nv bs 3 ≤ 45) :
    Calls Tryd.prog 10 #[.slice A bs.length c] w (ReadOut w bs) := by
  have hb := (Below.refl w.heap.size w).alloc (Nat.le_refl _) (.cells #[.int .i64 0, .int .i64 0, .int .i64 0, .int .i64 0, .int .u32 0, .slice none 0 0] 25)
  have HO := Lib.hid (ropen_sealed bs A c _ ((hA.below hb (Nat.le_refl _)).mono hb.size) hc (by omega) hs)
  have HR0 := Lib.hid (new0 w)
  have HB0 := Lib.hid hb
  have HBy := Lib.hid hA.1
  have HA := Lib.hid hA
  have HNb := Lib.hid (nv_lt h64 hA.1)
  have HFi := Lib.hid (frameOf_fine h64 hA.1)
  have HFr := Lib.hid (show frameOf bs = ⟨(nv bs 0 : Nat), (nv bs 1 : Nat), (nv bs 2 / 16 : Nat), (nv bs 2 % 16 : Nat), nv bs 4, (bs.drop 15).take (nv bs 3)⟩ by unfold frameOf; rw [Nat.min_eq_left h45])
  have HLl := Lib.hid (show ((bs.drop 15).take (nv bs 3)).length = nv bs 3 by rw [List.length_take, List.length_drop]; omega)
  have h10 : nv bs 3 = bs.getD 10 0 := num_one bs 10 (by omega)
  have h9 : nv bs 2 = bs.getD 9 0 := num_one bs 9 (by omega)
  have HFm := Lib.hid (show readOK bs = (mayB (frameOf bs) && decide (Crc.sealed (secB (frameOf bs)) = bs)) by unfold readOK; rw [decide_eq_true h64, Bool.true_and])
  have HRF := Lib.hid (show readOK bs = true → readF bs = frameOf bs ∧ readE bs = 0 from fun h => by unfold readF readE; rw [if_pos h, if_pos h]; exact ⟨rfl, rfl⟩)
  have HL := Lib.hid h64
  rw [h64] at HO ⊢
  clear hb hA hs hc h64
  go_enter Tryd.func10, Tryd.ntmps10
  go_wp2_with fail
  refine HO.out.mono ?_
  rintro e w1 ⟨v, rfl, hv⟩
  have ht : (bs.take (64 - 4)).length = 60 := by rw [List.length_take, HL.out]; omega
  obtain ⟨g, cp, rfl, hy, hcp, -, hge, hlt, -⟩ := hv.block (fun x hx => HBy.out x (List.mem_of_mem_take hx)) (by omega)
  have HR := Lib.hid ((hv.2.block w.heap.size (by simp)).trans HR0.out)
  have HBw := Lib.hid (HB0.out.trans (hv.2.mono HB0.out.size))
  have hcl : ∀ j, j < 60 → w1.cell? ⟨g, j, none⟩ = some (.int .u8 (bs.getD j 0 : Nat)) := fun j hj => by
    obtain ⟨b', off', e', -, hcs⟩ := hy.at_ (by omega)
    cases e'
    have h := hcs j (by omega)
    rw [Nat.zero_add] at h
    rw [h, getD_at _ _ (by omega), getD_at _ _ (by have := HL.out; omega), List.getElem_take]
  have hcell := hcl 10 (by omega)
  have hcell9 := hcl 9 (by omega)
  rw [← h10] at hcell
  rw [← h9] at hcell9
  have hpart := fun a m (h1 : a + m ≤ 60) (h2 : a < 60) => part_at hy a m (by omega) (by omega)
  have HYp := Lib.hid (fun a m (h1 : a + m ≤ 60) (h2 : a < 60) => (show By w1 w1.heap.size (some ⟨g, a, none⟩) ((bs.drop a).take m) by
    have h := hpart a m h1 h2
    rwa [part_of_part bs a m _ (by omega)] at h))
  have HNum := Lib.hid (fun (W : World) (hW : Below w1.heap.size w1 W) (a m c' : Nat) (h1 : a + m ≤ 60) (h2 : a < 60) (h3 : 1 ≤ m) (h4 : m ≤ 6) => (show Calls Tryd.prog 23 #[.slice (some ⟨g, a, none⟩) m c'] W fun e w' => e = .returned (.int .u64 (num ((bs.drop a).take m) : Nat)) ∧ W = w' by
    have hlen : ((bs.drop a).take m).length = m := by rw [List.length_take, List.length_drop, HL.out]; omega
    have h := number_any ((bs.drop a).take m) (some ⟨g, a, none⟩) c' W (((HYp.out a m h1 h2).below hW (Nat.le_refl _)).mono hW.size) (by omega) (by omega)
    rwa [hlen] at h))
  have Hn0 := Lib.hid (fun W hW c' => HNum.out W hW 0 6 c' (by omega) (by omega) (by omega) (by omega))
  have Hn1 := Lib.hid (fun W hW c' => HNum.out W hW 6 3 c' (by omega) (by omega) (by omega) (by omega))
  have Hn4 := Lib.hid (fun W hW c' => HNum.out W hW 11 4 c' (by omega) (by omega) (by omega) (by omega))
  rw [show num ((bs.drop 0).take 6) = nv bs 0 from rfl] at Hn0
  rw [show num ((bs.drop 6).take 3) = nv bs 1 from rfl] at Hn1
  rw [show num ((bs.drop 11).take 4) = nv bs 4 from rfl] at Hn4
  obtain ⟨m0, m1, m2, m3, m4⟩ := HNb.out
  have HG := Lib.hid hge
  have HGt := Lib.hid (show w.heap.size < w1.heap.size by have := hv.2.size; simp at this; omega)
  have HGl := Lib.hid hlt
  have HYl := Lib.hid (show By w1 w1.heap.size (some ⟨g, 15, none⟩) ((bs.drop 15).take (nv bs 3)) from HYp.out 15 (nv bs 3) (by omega) (by omega))
  clear h10 h9 hy hv hge hcl hpart HNum HYp HNb hlt
  rw [ht] at hcp ⊢
  generalize frameOf bs = F at *
  generalize (bs.drop 15).take (nv bs 3) = ld at *
  generalize nv bs 0 = n0 at *
  generalize nv bs 1 = n1 at *
  generalize nv bs 2 = n2 at *
  generalize nv bs 3 = n3 at *
  generalize nv bs 4 = n4 at *
  have hw0 : IntKind.i64.wrap (n0 : Int) = (n0 : Int) := by rw [IntKind.wrap_i64]; omega
  have hw1 : IntKind.i64.wrap (n1 : Int) = (n1 : Int) := by rw [IntKind.wrap_i64]; omega
  have hw3 : IntKind.i64.wrap (n3 : Int) = (n3 : Int) := by rw [IntKind.wrap_i64]; omega
  have hw4 : IntKind.u32.wrap (n4 : Int) = (n4 : Int) := by rw [IntKind.wrap_u32]; omega
  have hi45 : ¬ (45 : Int) < (n3 : Int) := by omega
  obtain ⟨z, hzd⟩ : ∃ z : Nat, z = 15 + n3 := ⟨_, rfl⟩
  have hz : IntKind.i64.wrap (15 + (n3 : Int)) = (z : Int) := by rw [IntKind.wrap_i64]; omega
  have hzr : z - 15 = n3 := by omega
  have hz2 : z ≤ cp := by omega
  have hz3 : (z : Int) ≤ (cp : Int) := by omega
  have hz4 : (15 : Int) ≤ (z : Int) := by omega
  have hz5 : 15 ≤ z := by omega
  clear hzd
  obtain ⟨q, hqd⟩ : ∃ q, q = n2 / 16 := ⟨_, rfl⟩
  obtain ⟨r, hrd⟩ : ∃ r, r = n2 % 16 := ⟨_, rfl⟩
  have hq1 : IntKind.u8.wrap ((n2 : Int) / 16) = (q : Int) := by rw [IntKind.wrap_u8]; omega
  have hq2 : IntKind.i64.wrap (q : Int) = (q : Int) := by rw [IntKind.wrap_i64]; omega
  have hr1 : (n2 : Int).tmod 16 = (r : Int) := by rw [Int.tmod_eq_emod_of_nonneg (by omega)]; omega
  have hr2 : IntKind.i64.wrap (r : Int) = (r : Int) := by rw [IntKind.wrap_i64]; omega
  have hfq : F = ⟨(n0 : Nat), (n1 : Nat), (q : Nat), (r : Nat), n4, ld⟩ := by rw [HFr.out, hqd, hrd]
  have HFq := Lib.hid hfq
  clear hqd hrd hfq HFr
  have p6 : 6 ≤ cp := by omega
  have p9 : 9 ≤ cp := by omega
  have p15 : 15 ≤ cp := by omega
  have q6 : ¬ cp = 6 := by omega
  have q11 : ¬ cp = 11 := by omega
  have q15 : ¬ cp = 15 := by omega
  have q0 : ¬ cp = 0 := by omega
  have i6 : (6 : Int) ≤ (cp : Int) := by omega
  have i9 : (9 : Int) ≤ (cp : Int) := by omega
  have i15 : (15 : Int) ≤ (cp : Int) := by omega
  have HCp := Lib.hid hcp
  clear hcp
  go_wp2_with fail
  refine wp_region_held_drew (S := fun W => W.cell? ⟨g, 9, none⟩ = some (.int .u8 (n2 : Nat))) (by kernel_rfl) hcell9 (fun hHeld => ?_)
  have hD := (Below.refl w1.heap.size w1).drew
  have hE := hD.alloc (Nat.le_refl _) (.cells #[.int .i64 0, .int .i64 0, .int .i64 0, .int .i64 0, .int .u32 0, .slice none 0 0] 25)
  have HD := Lib.hid hD
  have HE := Lib.hid hE
  have HE9 := Lib.hid (show (w1.drew.alloc (.cells #[.int .i64 0, .int .i64 0, .int .i64 0, .int .i64 0, .int .u32 0, .slice none 0 0] 25)).cell? ⟨g, 9, none⟩ = some (.int .u8 (n2 : Nat)) from (hE.cell (p := ⟨g, 9, none⟩) HGl.out).trans hcell9)
  have hrw : (w1.drew.alloc (.cells #[.int .i64 0, .int .i64 0, .int .i64 0, .int .i64 0, .int .u32 0, .slice none 0 0] 25)).heap[w1.heap.size]? = some (.cells #[.int .i64 0, .int .i64 0, .int .i64 0, .int .i64 0, .int .u32 0, .slice none 0 0] 25 (0, 0)) := heap_alloc_new w1.drew (.cells #[.int .i64 0, .int .i64 0, .int .i64 0, .int .i64 0, .int .u32 0, .slice none 0 0] 25)
  have HRow := Lib.hid (show (w1.drew.alloc (.cells #[.int .i64 0, .int .i64 0, .int .i64 0, .int .i64 0, .int .u32 0, .slice none 0 0] 25)).heap[w1.heap.size]? = some (.cells ([] ++ ([.int .i64 0, .int .i64 0, .int .i64 0, .int .i64 0, .int .u32 0, .slice none 0 0] : List Value) ++ []).toArray 25 (0, 0)) from hrw)
  have HDA := Lib.hid (show (w1.alloc (.cells #[.int .i64 0, .int .i64 0, .int .i64 0, .int .i64 0, .int .u32 0, .slice none 0 0] 25)).drew = w1.drew.alloc (.cells #[.int .i64 0, .int .i64 0, .int .i64 0, .int .i64 0, .int .u32 0, .slice none 0 0] 25) from rfl)
  obtain ⟨w2, hw2⟩ : ∃ x, x = World.setRow (w1.drew.alloc (.cells #[.int .i64 0, .int .i64 0, .int .i64 0, .int .i64 0, .int .u32 0, .slice none 0 0] 25)) w1.heap.size ([.int .i64 (n0 : Nat), .int .i64 (n1 : Nat), .int .i64 (q : Nat), .int .i64 (r : Nat), .int .u32 (n4 : Nat), .slice none 0 0] : List Value).toArray := ⟨_, rfl⟩
  have HW2 := Lib.hid hw2
  have HR2 := Lib.hid (show w2.heap[w1.heap.size]? = some (.cells ([.int .i64 (n0 : Nat), .int .i64 (n1 : Nat), .int .i64 (q : Nat), .int .i64 (r : Nat), .int .u32 (n4 : Nat), .slice none 0 0] : List Value).toArray 25 (0, 0)) by rw [hw2]; exact setRow_heap _ w1.heap.size _ _ _ _ hrw)
  have HB2 := Lib.hid (show Below w1.heap.size w1 w2 by rw [hw2]; exact hE.grown (grown_setRow _ w1.heap.size _) hE.size (fun k e => by cases e; omega))
  have HR2z := Lib.hid (show w1.heap.size < w2.heap.size by rw [hw2]; simp)
  have H29 := Lib.hid ((HB2.out.cell (p := ⟨g, 9, none⟩) HGl.out).trans hcell9)
  clear hD hE hrw hw2
  refine wpAnyH_take (i := 0) (v := ?_) rfl (by kernel_rfl) (by kernel_rfl) (by kernel_rfl) (fun _ _ _ h => h) (Or.inl ⟨by rfl, ?_⟩) (by assumption) ?_
  rotate_left
  · simp only [List.getElem_toArray, List.getElem_cons_zero, List.getElem_cons_succ]; intro W hSw; (try dsimp only at hSw); go_simp; all_goals with_reducible rfl
  simp only [Act.put, List.getElem_toArray, List.getElem_cons_zero, List.getElem_cons_succ, List.setIfInBounds_toArray, List.set_cons_zero, List.set_cons_succ]
  refine wpAnyH_take (i := 1) (v := ?_) rfl (by kernel_rfl) (by kernel_rfl) (by kernel_rfl) (fun _ _ _ h => h) (Or.inl ⟨by rfl, ?_⟩) (by assumption) ?_
  rotate_left
  · simp only [List.getElem_toArray, List.getElem_cons_zero, List.getElem_cons_succ]; intro W hSw; (try dsimp only at hSw); go_simp; all_goals with_reducible rfl
  simp only [Act.put, List.getElem_toArray, List.getElem_cons_zero, List.getElem_cons_succ, List.setIfInBounds_toArray, List.set_cons_zero, List.set_cons_succ]
  refine wpAnyH_take (i := 4) (v := ?_) rfl (by kernel_rfl) (by kernel_rfl) (by kernel_rfl) (fun _ _ _ h => h) (Or.inl ⟨by rfl, ?_⟩) (by assumption) ?_
  rotate_left
  · simp only [List.getElem_toArray, List.getElem_cons_zero, List.getElem_cons_succ]; intro W hSw; (try dsimp only at hSw); go_simp; all_goals with_reducible rfl
  simp only [Act.put, List.getElem_toArray, List.getElem_cons_zero, List.getElem_cons_succ, List.setIfInBounds_toArray, List.set_cons_zero, List.set_cons_succ]
  refine wpAnyH_take (i := 5) (v := ?_) rfl (by kernel_rfl) (by kernel_rfl) (by kernel_rfl) (fun _ _ _ h => h) (Or.inl ⟨by rfl, ?_⟩) (by assumption) ?_
  rotate_left
  · simp only [List.getElem_toArray, List.getElem_cons_zero, List.getElem_cons_succ]; intro W hSw; (try dsimp only at hSw); go_simp; all_goals with_reducible rfl
  simp only [Act.put, List.getElem_toArray, List.getElem_cons_zero, List.getElem_cons_succ, List.setIfInBounds_toArray, List.set_cons_zero, List.set_cons_succ]
  refine wpAnyH_take (i := 8) (v := ?_) rfl (by kernel_rfl) (by kernel_rfl) (by kernel_rfl) (fun _ _ _ h => h) (Or.inl ⟨by rfl, ?_⟩) (by assumption) ?_
  rotate_left
  · simp only [List.getElem_toArray, List.getElem_cons_zero, List.getElem_cons_succ]; intro W hSw; (try dsimp only at hSw); go_simp; all_goals with_reducible rfl
  simp only [Act.put, List.getElem_toArray, List.getElem_cons_zero, List.getElem_cons_succ, List.setIfInBounds_toArray, List.set_cons_zero, List.set_cons_succ]
  refine wpAnyH_take (i := 9) (v := ?_) rfl (by kernel_rfl) (by kernel_rfl) (by kernel_rfl) (fun _ _ _ h => h) (Or.inl ⟨by rfl, ?_⟩) (by assumption) ?_
  rotate_left
  · simp only [List.getElem_toArray, List.getElem_cons_zero, List.getElem_cons_succ]; intro W hSw; (try dsimp only at hSw); go_simp; all_goals with_reducible rfl
  simp only [Act.put, List.getElem_toArray, List.getElem_cons_zero, List.getElem_cons_succ, List.setIfInBounds_toArray, List.set_cons_zero, List.set_cons_succ]
  refine wpAnyH_take (i := 10) (v := ?_) rfl (by kernel_rfl) (by kernel_rfl) (by kernel_rfl) (fun _ _ _ h => h) (Or.inl ⟨by rfl, ?_⟩) (by assumption) ?_
  rotate_left
  · simp only [List.getElem_toArray, List.getElem_cons_zero, List.getElem_cons_succ]; intro W hSw; (try dsimp only at hSw); go_simp; all_goals with_reducible rfl
  simp only [Act.put, List.getElem_toArray, List.getElem_cons_zero, List.getElem_cons_succ, List.setIfInBounds_toArray, List.set_cons_zero, List.set_cons_succ]
  refine wpAnyH_take (i := 11) (v := ?_) rfl (by kernel_rfl) (by kernel_rfl) (by kernel_rfl) (fun _ _ _ h => h) (Or.inl ⟨by rfl, ?_⟩) (by assumption) ?_
  rotate_left
  · simp only [List.getElem_toArray, List.getElem_cons_zero, List.getElem_cons_succ]; intro W hSw; (try dsimp only at hSw); go_simp; all_goals with_reducible rfl
  simp only [Act.put, List.getElem_toArray, List.getElem_cons_zero, List.getElem_cons_succ, List.setIfInBounds_toArray, List.set_cons_zero, List.set_cons_succ]
  refine wpAnyH_take (i := 12) (v := ?_) rfl (by kernel_rfl) (by kernel_rfl) (by kernel_rfl) (fun _ _ _ h => h) (Or.inl ⟨by rfl, ?_⟩) (by assumption) ?_
  rotate_left
  · simp only [List.getElem_toArray, List.getElem_cons_zero, List.getElem_cons_succ]; intro W hSw; (try dsimp only at hSw); go_simp; all_goals with_reducible rfl
  simp only [Act.put, List.getElem_toArray, List.getElem_cons_zero, List.getElem_cons_succ, List.setIfInBounds_toArray, List.set_cons_zero, List.set_cons_succ]
  refine wpAnyH_take (i := 13) (v := ?_) rfl (by kernel_rfl) (by kernel_rfl) (by kernel_rfl) (fun _ _ _ h => h) (Or.inl ⟨by rfl, ?_⟩) (by assumption) ?_
  rotate_left
  · simp only [List.getElem_toArray, List.getElem_cons_zero, List.getElem_cons_succ]; intro W hSw; (try dsimp only at hSw); go_simp; all_goals with_reducible rfl
  simp only [Act.put, List.getElem_toArray, List.getElem_cons_zero, List.getElem_cons_succ, List.setIfInBounds_toArray, List.set_cons_zero, List.set_cons_succ]
  refine wpAnyH_take (i := 14) (v := ?_) rfl (by kernel_rfl) (by kernel_rfl) (by kernel_rfl) (fun _ _ _ h => h) (Or.inl ⟨by rfl, ?_⟩) (by assumption) ?_
  rotate_left
  · simp only [List.getElem_toArray, List.getElem_cons_zero, List.getElem_cons_succ]; intro W hSw; (try dsimp only at hSw); go_simp; all_goals with_reducible rfl
  simp only [Act.put, List.getElem_toArray, List.getElem_cons_zero, List.getElem_cons_succ, List.setIfInBounds_toArray, List.set_cons_zero, List.set_cons_succ]
  refine wpAnyH_take (i := 15) (v := ?_) rfl (by kernel_rfl) (by kernel_rfl) (by kernel_rfl) (fun _ _ _ h => h) (Or.inl ⟨by rfl, ?_⟩) (by assumption) ?_
  rotate_left
  · simp only [List.getElem_toArray, List.getElem_cons_zero, List.getElem_cons_succ]; intro W hSw; (try dsimp only at hSw); go_simp; all_goals with_reducible rfl
  simp only [Act.put, List.getElem_toArray, List.getElem_cons_zero, List.getElem_cons_succ, List.setIfInBounds_toArray, List.set_cons_zero, List.set_cons_succ]
  refine wpAnyH_take (i := 16) (v := ?_) rfl (by kernel_rfl) (by kernel_rfl) (by kernel_rfl) (fun _ _ _ h => h) (Or.inl ⟨by rfl, ?_⟩) (by assumption) ?_
  rotate_left
  · simp only [List.getElem_toArray, List.getElem_cons_zero, List.getElem_cons_succ]; intro W hSw; (try dsimp only at hSw); go_simp; all_goals with_reducible rfl
  simp only [Act.put, List.getElem_toArray, List.getElem_cons_zero, List.getElem_cons_succ, List.setIfInBounds_toArray, List.set_cons_zero, List.set_cons_succ]
  refine wpAnyH_take (i := 17) (v := ?_) rfl (by kernel_rfl) (by kernel_rfl) (by kernel_rfl) (fun _ _ _ h => h) (Or.inl ⟨by rfl, ?_⟩) (by assumption) ?_
  rotate_left
  · simp only [List.getElem_toArray, List.getElem_cons_zero, List.getElem_cons_succ]; intro W hSw; (try dsimp only at hSw); go_simp; all_goals with_reducible rfl
  simp only [Act.put, List.getElem_toArray, List.getElem_cons_zero, List.getElem_cons_succ, List.setIfInBounds_toArray, List.set_cons_zero, List.set_cons_succ]
  refine wpAnyH_take (i := 18) (v := ?_) rfl (by kernel_rfl) (by kernel_rfl) (by kernel_rfl) (fun _ _ _ h => h) (Or.inl ⟨by rfl, ?_⟩) (by assumption) ?_
  rotate_left
  · simp only [List.getElem_toArray, List.getElem_cons_zero, List.getElem_cons_succ]; intro W hSw; (try dsimp only at hSw); go_simp; all_goals with_reducible rfl
  simp only [Act.put, List.getElem_toArray, List.getElem_cons_zero, List.getElem_cons_succ, List.setIfInBounds_toArray, List.set_cons_zero, List.set_cons_succ]
  refine wpAnyH_take (i := 19) (v := ?_) rfl (by kernel_rfl) (by kernel_rfl) (by kernel_rfl) (fun _ _ _ h => h) (Or.inl ⟨by rfl, ?_⟩) (by assumption) ?_
  rotate_left
  · simp only [List.getElem_toArray, List.getElem_cons_zero, List.getElem_cons_succ]; intro W hSw; (try dsimp only at hSw); go_simp; all_goals with_reducible rfl
  simp only [Act.put, List.getElem_toArray, List.getElem_cons_zero, List.getElem_cons_succ, List.setIfInBounds_toArray, List.set_cons_zero, List.set_cons_succ]
  refine wpAnyH_ready (rs := [2, 23]) (by kernel_rfl) (by simp) ?_
  refine AllReadyH.cons rfl (fun K hK => ?_) (AllReadyH.cons rfl (fun K hK => ?_) AllReadyH.nil)
  · (try simp only [List.getElem_toArray, List.getElem_cons_zero, List.getElem_cons_succ])
    go_simp
    refine (Hn0.out _ HD.out _).mono ?_
    rintro e w' ⟨rfl, rfl⟩
    go_wp2_with fail
    refine hK.out _ _ (hHeld) (fun hHeldN => ?_)
    clear hK K hHeld
    have hHeld := hHeldN
    clear hHeldN
    (try simp only [Act.put, List.getElem_toArray, List.getElem_cons_zero, List.getElem_cons_succ, List.setIfInBounds_toArray, List.set_cons_zero, List.set_cons_succ])
    refine wpAnyH_take (i := 3) (v := ?_) rfl (by kernel_rfl) (by kernel_rfl) (by kernel_rfl) (fun _ _ _ h => h) (Or.inl ⟨by rfl, ?_⟩) (by assumption) ?_
    rotate_left
    · simp only [List.getElem_toArray, List.getElem_cons_zero, List.getElem_cons_succ]; intro W hSw; (try dsimp only at hSw); go_simp; all_goals with_reducible rfl
    simp only [Act.put, List.getElem_toArray, List.getElem_cons_zero, List.getElem_cons_succ, List.setIfInBounds_toArray, List.set_cons_zero, List.set_cons_succ]
    refine wpAnyH_ready (rs := [6, 23]) (by kernel_rfl) (by simp) ?_
    refine AllReadyH.cons rfl (fun K hK => ?_) (AllReadyH.cons rfl (fun K hK => ?_) AllReadyH.nil)
    · (try simp only [List.getElem_toArray, List.getElem_cons_zero, List.getElem_cons_succ])
      go_simp
      refine (Hn1.out _ HD.out _).mono ?_
      rintro e w' ⟨rfl, rfl⟩
      go_wp2_with fail
      refine hK.out _ _ (hHeld) (fun hHeldN => ?_)
      clear hK K hHeld
      have hHeld := hHeldN
      clear hHeldN
      (try simp only [Act.put, List.getElem_toArray, List.getElem_cons_zero, List.getElem_cons_succ, List.setIfInBounds_toArray, List.set_cons_zero, List.set_cons_succ])
      refine wpAnyH_take (i := 7) (v := ?_) rfl (by kernel_rfl) (by kernel_rfl) (by kernel_rfl) (fun _ _ _ h => h) (Or.inl ⟨by rfl, ?_⟩) (by assumption) ?_
      rotate_left
      · simp only [List.getElem_toArray, List.getElem_cons_zero, List.getElem_cons_succ]; intro W hSw; (try dsimp only at hSw); go_simp; all_goals with_reducible rfl
      simp only [Act.put, List.getElem_toArray, List.getElem_cons_zero, List.getElem_cons_succ, List.setIfInBounds_toArray, List.set_cons_zero, List.set_cons_succ]
      refine wpAnyH_ready (rs := [20, 23]) (by kernel_rfl) (by simp) ?_
      refine AllReadyH.cons rfl (fun K hK => ?_) (AllReadyH.cons rfl (fun K hK => ?_) AllReadyH.nil)
      · (try simp only [List.getElem_toArray, List.getElem_cons_zero, List.getElem_cons_succ])
        go_simp
        refine (Hn4.out _ HD.out _).mono ?_
        rintro e w' ⟨rfl, rfl⟩
        go_wp2_with fail
        refine hK.out _ _ (hHeld) (fun hHeldN => ?_)
        clear hK K hHeld
        have hHeld := hHeldN
        clear hHeldN
        (try simp only [Act.put, List.getElem_toArray, List.getElem_cons_zero, List.getElem_cons_succ, List.setIfInBounds_toArray, List.set_cons_zero, List.set_cons_succ])
        refine wpAnyH_take (i := 21) (v := ?_) rfl (by kernel_rfl) (by kernel_rfl) (by kernel_rfl) (fun _ _ _ h => h) (Or.inl ⟨by rfl, ?_⟩) (by assumption) ?_
        rotate_left
        · simp only [List.getElem_toArray, List.getElem_cons_zero, List.getElem_cons_succ]; intro W hSw; (try dsimp only at hSw); go_simp; all_goals with_reducible rfl
        simp only [Act.put, List.getElem_toArray, List.getElem_cons_zero, List.getElem_cons_succ, List.setIfInBounds_toArray, List.set_cons_zero, List.set_cons_succ]
        refine wpAnyH_take (i := 22) (v := ?_) rfl (by kernel_rfl) (by kernel_rfl) (by kernel_rfl) (fun _ _ _ h => h) (Or.inl ⟨by rfl, ?_⟩) (by assumption) ?_
        rotate_left
        · simp only [List.getElem_toArray, List.getElem_cons_zero, List.getElem_cons_succ]; intro W hSw; (try dsimp only at hSw); go_simp; all_goals with_reducible rfl
        simp only [Act.put, List.getElem_toArray, List.getElem_cons_zero, List.getElem_cons_succ, List.setIfInBounds_toArray, List.set_cons_zero, List.set_cons_succ]
        refine wpAnyH_ready (rs := [23]) (by kernel_rfl) (by simp) ?_
        refine AllReadyH.cons rfl (fun K hK => ?_) AllReadyH.nil
        simp only [List.getElem_toArray, List.getElem_cons_zero, List.getElem_cons_succ]
        (try simp only [List.getElem_toArray, List.getElem_cons_zero, List.getElem_cons_succ])
        go_simp
        refine hK.out _ _ (HE9.out) (fun hHeldN => ?_)
        clear hK K hHeld
        have hHeld := hHeldN
        clear hHeldN
        (try simp only [Act.put, List.getElem_toArray, List.getElem_cons_zero, List.getElem_cons_succ, List.setIfInBounds_toArray, List.set_cons_zero, List.set_cons_succ])
        refine wpAnyH_ready (rs := [24]) (by kernel_rfl) (by simp) ?_
        refine AllReadyH.cons rfl (fun K hK => ?_) AllReadyH.nil
        simp only [List.getElem_toArray, List.getElem_cons_zero, List.getElem_cons_succ]
        (try rw [HDA.out])
        rw [if_pos (by rfl)]
        refine wp_store_part 25 (.tmp 7) (.tmp 52) rfl w1.heap.size 0 rfl [.int .i64 (n0 : Nat), .int .i64 (n1 : Nat), .int .i64 (q : Nat), .int .i64 (r : Nat), .int .u32 (n4 : Nat), .slice none 0 0] (by rfl) 25 [] [.int .i64 0, .int .i64 0, .int .i64 0, .int .i64 0, .int .u32 0, .slice none 0 0] [] HRow.out rfl rfl Tryd.sizeF (by simp [Value.oneCell']) ?_
        (try simp only [List.nil_append, List.append_nil])
        rw [← HW2.out]
        refine hK.out _ _ (H29.out) (fun hHeldN => ?_)
        clear hK K hHeld
        have hHeld := hHeldN
        clear hHeldN
        (try simp only [Act.put, List.getElem_toArray, List.getElem_cons_zero, List.getElem_cons_succ, List.setIfInBounds_toArray, List.set_cons_zero, List.set_cons_succ])
        refine wpAnyH_done (by kernel_rfl) ?_ _
        clear hHeld HRow HDA HW2 HE9 HE HD
        have c5 : ∀ W, Below w2.heap.size w2 W → W.cell? ⟨w1.heap.size, 5, none⟩ = some (.slice none 0 0) := fun W hW => by
          rw [cell_of_row W _ 5 _ _ _ ((hW.block w1.heap.size (by have := HR2z.out; omega)).trans HR2.out)]
          rfl
        have HC5 := Lib.hid c5
        clear c5
        go_wp2_with fail
        have hc5 := HC5.out _ (Below.refl _ _).drew
        refine wp_region_held_drew (S := fun _ => True) (by kernel_rfl) trivial (fun hHeld => ?_)
        refine wpAnyH_take (i := 0) (v := ?_) rfl (by kernel_rfl) (by kernel_rfl) (by kernel_rfl) (fun _ _ _ h => h) (Or.inl ⟨by rfl, ?_⟩) (by assumption) ?_
        rotate_left
        · simp only [List.getElem_toArray, List.getElem_cons_zero, List.getElem_cons_succ]; intro W hSw; (try dsimp only at hSw); go_simp; all_goals with_reducible rfl
        simp only [Act.put, List.getElem_toArray, List.getElem_cons_zero, List.getElem_cons_succ, List.setIfInBounds_toArray, List.set_cons_zero, List.set_cons_succ]
        refine wpAnyH_take (i := 2) (v := ?_) rfl (by kernel_rfl) (by kernel_rfl) (by kernel_rfl) (fun _ _ _ h => h) (Or.inl ⟨by rfl, ?_⟩) (by assumption) ?_
        rotate_left
        · simp only [List.getElem_toArray, List.getElem_cons_zero, List.getElem_cons_succ]; intro W hSw; (try dsimp only at hSw); go_simp; all_goals with_reducible rfl
        simp only [Act.put, List.getElem_toArray, List.getElem_cons_zero, List.getElem_cons_succ, List.setIfInBounds_toArray, List.set_cons_zero, List.set_cons_succ]
        refine wpAnyH_take (i := 3) (v := ?_) rfl (by kernel_rfl) (by kernel_rfl) (by kernel_rfl) (fun _ _ _ h => h) (Or.inl ⟨by rfl, ?_⟩) (by assumption) ?_
        rotate_left
        · simp only [List.getElem_toArray, List.getElem_cons_zero, List.getElem_cons_succ]; intro W hSw; (try dsimp only at hSw); go_simp; all_goals with_reducible rfl
        simp only [Act.put, List.getElem_toArray, List.getElem_cons_zero, List.getElem_cons_succ, List.setIfInBounds_toArray, List.set_cons_zero, List.set_cons_succ]
        refine wpAnyH_take (i := 4) (v := ?_) rfl (by kernel_rfl) (by kernel_rfl) (by kernel_rfl) (fun _ _ _ h => h) (Or.inl ⟨by rfl, ?_⟩) (by assumption) ?_
        rotate_left
        · simp only [List.getElem_toArray, List.getElem_cons_zero, List.getElem_cons_succ]; intro W hSw; (try dsimp only at hSw); go_simp; all_goals with_reducible rfl
        simp only [Act.put, List.getElem_toArray, List.getElem_cons_zero, List.getElem_cons_succ, List.setIfInBounds_toArray, List.set_cons_zero, List.set_cons_succ]
        refine wpAnyH_take (i := 5) (v := ?_) rfl (by kernel_rfl) (by kernel_rfl) (by kernel_rfl) (fun _ _ _ h => h) (Or.inl ⟨by rfl, ?_⟩) (by assumption) ?_
        rotate_left
        · simp only [List.getElem_toArray, List.getElem_cons_zero, List.getElem_cons_succ]; intro W hSw; (try dsimp only at hSw); go_simp; all_goals with_reducible rfl
        simp only [Act.put, List.getElem_toArray, List.getElem_cons_zero, List.getElem_cons_succ, List.setIfInBounds_toArray, List.set_cons_zero, List.set_cons_succ]
        refine wpAnyH_ready (rs := [1]) (by kernel_rfl) (by simp) ?_
        refine AllReadyH.cons rfl (fun K hK => ?_) AllReadyH.nil
        simp only [List.getElem_toArray, List.getElem_cons_zero, List.getElem_cons_succ]
        go_simp
        refine hK.out _ _ (trivial) (fun hHeldN => ?_)
        clear hK K hHeld
        have hHeld := hHeldN
        clear hHeldN
        (try simp only [Act.put, List.getElem_toArray, List.getElem_cons_zero, List.getElem_cons_succ, List.setIfInBounds_toArray, List.set_cons_zero, List.set_cons_succ])
        clear hc5
        refine wpAnyH_ready (rs := [6]) (by kernel_rfl) (by simp) ?_
        refine AllReadyH.cons rfl (fun K hK => ?_) AllReadyH.nil
        simp only [List.getElem_toArray, List.getElem_cons_zero, List.getElem_cons_succ]
        obtain ⟨i0, hi, hz0, hz1, hz2⟩ := info_parts Tryd.info5
        have hyl := HYl.out.below HB2.out.drew (Nat.le_refl _)
        rw [if_pos (by rfl)]
        refine wp_append_own w2.drew (.tmp 54) (.tmp 58) 23 rfl w2.heap.size 5 i0 (.int .u8 0) 1 1 Tryd.underlying23 hi hz0 hz1 hz2 rfl (by decide) (.slice none 0 0) 0 [] (by rfl) (Own.nil_ _ _) ⟨g, 15, none⟩ n3 (cp - 15) (vals ld) (by rfl) (by rw [vals_length, HLl.out, Nat.mul_one]) (hyl.vals _ rfl) vals_one (by unfold maxLen; omega) (by omega) (Nat.le_refl _) ?_
        intro v3 w3 hown hgr _
        clear hi hz0 hz1 hz2 hyl
        have hO3 : Own w3 w2.heap.size ld v3 := by
          unfold Own
          rw [HLl.out]
          simpa using hown
        have hB3 : Below w2.heap.size w2 w3 := (Below.refl _ _).drew.grown hgr (Nat.le_refl _) (fun k e => by cases e)
        obtain ⟨A3, c3, rfl, hy3, hc31, hc32, hc33⟩ := hO3.slice_ HYl.out.1
        have HB3 := Lib.hid hB3
        have HY3 := Lib.hid hy3
        have HO3 := Lib.hid (own_ge hO3)
        have HC3 := Lib.hid (And.intro hc31 (And.intro hc32 hc33))
        clear hown hgr hO3 hB3 hy3 hc31 hc32 hc33
        refine hK.out _ _ (trivial) (fun hHeldN => ?_)
        clear hK K hHeld
        have hHeld := hHeldN
        clear hHeldN
        (try simp only [Act.put, List.getElem_toArray, List.getElem_cons_zero, List.getElem_cons_succ, List.setIfInBounds_toArray, List.set_cons_zero, List.set_cons_succ])
        refine wpAnyH_take (i := 7) (v := ?_) rfl (by kernel_rfl) (by kernel_rfl) (by kernel_rfl) (fun _ _ _ h => h) (Or.inl ⟨by rfl, ?_⟩) (by assumption) ?_
        rotate_left
        · simp only [List.getElem_toArray, List.getElem_cons_zero, List.getElem_cons_succ]; intro W hSw; (try dsimp only at hSw); go_simp; all_goals with_reducible rfl
        simp only [Act.put, List.getElem_toArray, List.getElem_cons_zero, List.getElem_cons_succ, List.setIfInBounds_toArray, List.set_cons_zero, List.set_cons_succ]
        refine wpAnyH_ready (rs := [8]) (by kernel_rfl) (by simp) ?_
        refine AllReadyH.cons rfl (fun K hK => ?_) AllReadyH.nil
        simp only [List.getElem_toArray, List.getElem_cons_zero, List.getElem_cons_succ]
        have H5 := (HB3.out.block w1.heap.size (by have := HR2z.out; omega)).trans HR2.out
        have hcell := HC5.out _ HB3.out
        have hfr := frozen_of_row w3 w1.heap.size 5 _ _ H5
        obtain ⟨w4, hw4⟩ : ∃ x, x = w3.setCell ⟨w1.heap.size, 5, none⟩ (.slice A3 ld.length c3) := ⟨_, rfl⟩
        have HR4 := Lib.hid (show w4.heap[w1.heap.size]? = some (.cells (frv A3 c3 F).toArray 25 (0, 0)) by rw [hw4, HFq.out]; exact heap_setCell_same w3 w1.heap.size 5 _ _ (.slice A3 ld.length c3) H5)
        have hB4 : Below w1.heap.size w1 w4 := by rw [hw4]; exact (HB2.out.trans (HB3.out.mono HB2.out.size)).setCell (p := ⟨w1.heap.size, 5, none⟩) (Nat.le_refl _) _
        have HB4 := Lib.hid hB4
        have HZ4 := Lib.hid (show w4.heap.size = w3.heap.size by rw [hw4]; simp [World.setCell])
        have hy4 : By w4 w4.heap.size A3 ld := by
          rw [HZ4.out]
          refine HY3.out.off_row (Nat.le_refl _) H5 (by intro u hu n e; subst e; simp at hu) ?_
          rw [hw4]; exact only_set (only_refl _ _) _
        have HV4 := Lib.hid (show FrV w4 w4.heap.size (frv A3 c3 F) F from ⟨A3, c3, rfl, by rw [HFq.out]; exact hy4, by rw [HFq.out]; exact HC3.out.1, HC3.out.2.1, HC3.out.2.2, HFi.out⟩)
        have HW4 := Lib.hid hw4
        clear hw4 hB4 hy4
        go_simp
        rw [← HW4.out]
        refine hK.out _ _ (trivial) (fun hHeldN => ?_)
        clear hK K hHeld
        have hHeld := hHeldN
        clear hHeldN
        (try simp only [Act.put, List.getElem_toArray, List.getElem_cons_zero, List.getElem_cons_succ, List.setIfInBounds_toArray, List.set_cons_zero, List.set_cons_succ])
        refine wpAnyH_done (by kernel_rfl) ?_ _
        clear HC5 H5 hcell hfr HW4 HR2 HR2z HB2 HFq hHeld
        have hlt1 : w.heap.size < w1.heap.size := by have h := HBw.out.size; have := HGt.out; omega
        have HRz := Lib.hid ((HB4.out.block w.heap.size hlt1).trans HR.out)
        have HBz := Lib.hid (HBw.out.trans (HB4.out.mono HBw.out.size))
        obtain ⟨xs, hxs⟩ : ∃ xs, xs = frv A3 c3 F := ⟨_, rfl⟩
        have HXl := Lib.hid (show xs.length = 6 by rw [hxs]; rfl)
        have HX1 := Lib.hid (show ∀ v ∈ xs, v.oneCell' = true by rw [hxs]; exact frv_one _ _ _)
        rw [← hxs] at HR4
        have HX := Lib.hid hxs
        have HZ41 := Lib.hid (show w1.heap.size < w4.heap.size by
          rcases Nat.lt_or_ge w1.heap.size w4.heap.size with h | h
          · exact h
          · have h2 := HR4.out; rw [Array.getElem?_eq_none h] at h2; cases h2)
        have HX4 := Lib.hid (show ∀ W, Below w4.heap.size w4 W → ∀ j u, xs[j]? = some u → W.cell? ⟨w1.heap.size, 0 + j, none⟩ = some u from fun W hW j u hu => by
          rw [Nat.zero_add, cell_of_row W _ j _ _ _ ((hW.block w1.heap.size HZ41.out).trans HR4.out)]
          simpa using hu)
        have HI6 := Lib.hid (show (Tryd.prog.info? 25).map (·.size) = some xs.length by rw [HXl.out]; exact Tryd.sizeF)
        clear hxs hlt1
        go_wp2_with (first
          | (refine wpList_load_part rfl 25 (.tmp 7) rfl w1.heap.size 0 (by simp [Act.eval, Act.put]) xs _ (HX4.out _ (Below.refl _ _)) Tryd.underlying25 rfl HI6.out ?_)
          | fail)
        cases hm : mayB F with
        | false =>
          have HN := Lib.hid (show readOK bs = false by rw [HFm.out, hm]; rfl)
          have h := rbytes_no F A3 c3 w4 HV4.out hm
          rw [← HX.out] at h
          have HBn := Lib.hid h
          clear h hm HFm
          refine HBn.out.mono ?_
          rintro e w7 ⟨rfl, hb7⟩
          have HR := Lib.hid ((hb7.block w.heap.size (by have := HZ41.out; have := HBw.out.size; have := HGt.out; omega)).trans HRz.out)
          have HBw := Lib.hid (HBz.out.trans (hb7.mono HBz.out.size))
          clear hb7 HBn
          obtain ⟨w8, hw8⟩ : ∃ x, x = World.setRow w7 w.heap.size #[.int .i64 0, .int .i64 0, .int .i64 0, .int .i64 0, .int .u32 0, .slice none 0 0] := ⟨_, rfl⟩
          have HR8 := Lib.hid (show w8.heap[w.heap.size]? = some (.cells #[.int .i64 0, .int .i64 0, .int .i64 0, .int .i64 0, .int .u32 0, .slice none 0 0] 25 (0, 0)) by rw [hw8]; exact setRow_heap _ _ _ _ _ _ HR.out)
          have HB8 := Lib.hid (show Below w.heap.size w w8 by rw [hw8]; exact HBw.out.grown (grown_setRow w7 w.heap.size _) HBw.out.size (fun k e => by cases e; omega))
          have HW8 := Lib.hid hw8
          clear hw8
          go_wp2_with (first
            | (refine wpList_store_part rfl 25 (.tmp 2) (.tmp 75) rfl w.heap.size 0 (by simp [Act.eval, Act.put]) [.int .i64 0, .int .i64 0, .int .i64 0, .int .i64 0, .int .u32 0, .slice none 0 0] (by simp [Act.eval, Act.put]) 25 [] [.int .i64 0, .int .i64 0, .int .i64 0, .int .i64 0, .int .u32 0, .slice none 0 0] [] HR.out rfl rfl Tryd.sizeF (by decide) ?_))
          rw [← HW8.out]
          exact bodyPost_ret (results_cell_tmp (t := 25) (p := 2) (u := 3) rfl _ _ w.heap.size _ (0, 0) _ rfl HR8.out Tryd.underlying25 rfl Tryd.sizeF) rfl (ReadOut.no HN.out HB8.out)
        | true =>
          have h := rbytes_yes F A3 c3 w4 HV4.out hm
          rw [← HX.out] at h
          have HBn := Lib.hid h
          have HSb := Lib.hid (Crc.sealed_lt (secB_lt (f := F) HV4.out.fine.load))
          rw [hm, Bool.true_and] at HFm
          clear h hm
          refine HBn.out.mono ?_
          rintro e w7 ⟨v, rfl, hv⟩
          have hb7 := hv.2
          have k1 := hv.strAt HSb.out w7 (Below.refl _ _)
          have k2 := conv_str w7 ((HA.out.below (HBz.out.trans (hb7.mono HBz.out.size)) (Nat.le_refl _))) c
          rw [HL.out] at k2
          have HS := Lib.hid (str_beq HSb.out HBy.out)
          generalize Crc.sealed (secB F) = ys at *
          have HR := Lib.hid ((hb7.block w.heap.size (by have := HZ41.out; have := HBw.out.size; have := HGt.out; omega)).trans HRz.out)
          have HBw := Lib.hid (HBz.out.trans (hb7.mono HBz.out.size))
          have HF7 := Lib.hid (HV4.out.below hb7 (Nat.le_refl _))
          have HX7 := Lib.hid (HX4.out w7 hb7)
          have hlt7 : w4.heap.size ≤ w7.heap.size := hb7.size
          generalize str ys = sy at *
          generalize str bs = sb at *
          clear hv hb7 HBn
          cases hd : decide (ys = bs) with
          | false =>
            rw [hd] at HS HFm
            have HN := HFm
            have hq := HS.out
            clear hd HS HFm
            obtain ⟨w8, hw8⟩ : ∃ x, x = World.setRow w7 w.heap.size #[.int .i64 0, .int .i64 0, .int .i64 0, .int .i64 0, .int .u32 0, .slice none 0 0] := ⟨_, rfl⟩
            have HR8 := Lib.hid (show w8.heap[w.heap.size]? = some (.cells #[.int .i64 0, .int .i64 0, .int .i64 0, .int .i64 0, .int .u32 0, .slice none 0 0] 25 (0, 0)) by rw [hw8]; exact setRow_heap _ _ _ _ _ _ HR.out)
            have HB8 := Lib.hid (show Below w.heap.size w w8 by rw [hw8]; exact HBw.out.grown (grown_setRow w7 w.heap.size _) HBw.out.size (fun k e => by cases e; omega))
            have HW8 := Lib.hid hw8
            clear hw8
            go_wp2_with (first
              | (refine wpList_store_part rfl 25 (.tmp 2) (.tmp 75) rfl w.heap.size 0 (by simp [Act.eval, Act.put]) [.int .i64 0, .int .i64 0, .int .i64 0, .int .i64 0, .int .u32 0, .slice none 0 0] (by simp [Act.eval, Act.put]) 25 [] [.int .i64 0, .int .i64 0, .int .i64 0, .int .i64 0, .int .u32 0, .slice none 0 0] [] HR.out rfl rfl Tryd.sizeF (by decide) ?_))
            rw [← HW8.out]
            exact bodyPost_ret (results_cell_tmp (t := 25) (p := 2) (u := 3) rfl _ _ w.heap.size _ (0, 0) _ rfl HR8.out Tryd.underlying25 rfl Tryd.sizeF) rfl (ReadOut.no HN.out HB8.out)
          | true =>
            rw [hd] at HS HFm
            have HN := Lib.hid (HRF.out HFm.out)
            have hq := HS.out
            obtain ⟨w8, hw8⟩ : ∃ x, x = World.setRow w7 w.heap.size xs.toArray := ⟨_, rfl⟩
            have HR8 := Lib.hid (show w8.heap[w.heap.size]? = some (.cells xs.toArray 25 (0, 0)) by rw [hw8]; exact setRow_heap _ _ _ _ _ _ HR.out)
            have hg8 : w7.grownBy w8 (some w.heap.size) := by rw [hw8]; exact grown_setRow w7 w.heap.size _
            have HB8 := Lib.hid (HBw.out.grown hg8 HBw.out.size (fun k e => by cases e; omega))
            have hy8 := (HF7.out.load_by.off_row hlt7 HR.out (by intro u hu n e; subst e; simp at hu) hg8).mono (show w4.heap.size ≤ w8.heap.size by have := hg8.size; omega)
            have HF8 := Lib.hid (show FrV w8 w8.heap.size (frv A3 c3 F) F from ⟨A3, c3, rfl, hy8, HF7.out.load_le.1, HF7.out.load_le.2.1, HF7.out.load_le.2.2, HF7.out.fine⟩)
            have HW8 := Lib.hid hw8
            have HIz := Lib.hid (show (Tryd.prog.info? 25).map (·.size) = some xs.toArray.size by rw [List.size_toArray]; exact HI6.out)
            clear hw8 hd HFm hy8 hg8 HS
            go_wp2_with (first
              | (refine wpList_load_part rfl 25 (.tmp 7) rfl w1.heap.size 0 (by simp [Act.eval, Act.put]) xs _ HX7.out Tryd.underlying25 rfl HI6.out ?_)
              | (refine wpList_store_part rfl 25 (.tmp 2) (.tmp 76) rfl w.heap.size 0 (by simp [Act.eval, Act.put]) xs (by simp [Act.eval, Act.put]) 25 [] [.int .i64 0, .int .i64 0, .int .i64 0, .int .i64 0, .int .u32 0, .slice none 0 0] [] HR.out rfl ?_ HI6.out HX1.out ?_))
            · rw [HXl.out]; rfl
            rw [← HW8.out]
            refine bodyPost_ret (results_cell_tmp (t := 25) (p := 2) (u := 3) rfl _ _ w.heap.size _ (0, 0) _ rfl HR8.out Tryd.underlying25 rfl HIz.out) rfl ?_
            obtain ⟨e1, e2⟩ := HN.out
            unfold ReadOut
            rw [e1, e2, HX.out]
            exact ⟨A3, c3, rfl, HF8.out, HB8.out⟩
      · (try simp only [List.getElem_toArray, List.getElem_cons_zero, List.getElem_cons_succ])
        go_simp
        refine hK.out _ _ (HE9.out) (fun hHeldN => ?_)
        clear hK K hHeld
        have hHeld := hHeldN
        clear hHeldN
        (try simp only [Act.put, List.getElem_toArray, List.getElem_cons_zero, List.getElem_cons_succ, List.setIfInBounds_toArray, List.set_cons_zero, List.set_cons_succ])
        refine wpAnyH_ready (rs := [20]) (by kernel_rfl) (by simp) ?_
        refine AllReadyH.cons rfl (fun K hK => ?_) AllReadyH.nil
        simp only [List.getElem_toArray, List.getElem_cons_zero, List.getElem_cons_succ]
        (try simp only [List.getElem_toArray, List.getElem_cons_zero, List.getElem_cons_succ])
        go_simp
        refine (Hn4.out _ HE.out _).mono ?_
        rintro e w' ⟨rfl, rfl⟩
        go_wp2_with fail
        refine hK.out _ _ (hHeld) (fun hHeldN => ?_)
        clear hK K hHeld
        have hHeld := hHeldN
        clear hHeldN
        (try simp only [Act.put, List.getElem_toArray, List.getElem_cons_zero, List.getElem_cons_succ, List.setIfInBounds_toArray, List.set_cons_zero, List.set_cons_succ])
        refine wpAnyH_take (i := 21) (v := ?_) rfl (by kernel_rfl) (by kernel_rfl) (by kernel_rfl) (fun _ _ _ h => h) (Or.inl ⟨by rfl, ?_⟩) (by assumption) ?_
        rotate_left
        · simp only [List.getElem_toArray, List.getElem_cons_zero, List.getElem_cons_succ]; intro W hSw; (try dsimp only at hSw); go_simp; all_goals with_reducible rfl
        simp only [Act.put, List.getElem_toArray, List.getElem_cons_zero, List.getElem_cons_succ, List.setIfInBounds_toArray, List.set_cons_zero, List.set_cons_succ]
        refine wpAnyH_take (i := 22) (v := ?_) rfl (by kernel_rfl) (by kernel_rfl) (by kernel_rfl) (fun _ _ _ h => h) (Or.inl ⟨by rfl, ?_⟩) (by assumption) ?_
        rotate_left
        · simp only [List.getElem_toArray, List.getElem_cons_zero, List.getElem_cons_succ]; intro W hSw; (try dsimp only at hSw); go_simp; all_goals with_reducible rfl
        simp only [Act.put, List.getElem_toArray, List.getElem_cons_zero, List.getElem_cons_succ, List.setIfInBounds_toArray, List.set_cons_zero, List.set_cons_succ]
        refine wpAnyH_ready (rs := [24]) (by kernel_rfl) (by simp) ?_
        refine AllReadyH.cons rfl (fun K hK => ?_) AllReadyH.nil
        simp only [List.getElem_toArray, List.getElem_cons_zero, List.getElem_cons_succ]
        (try rw [HDA.out])
        rw [if_pos (by rfl)]
        refine wp_store_part 25 (.tmp 7) (.tmp 52) rfl w1.heap.size 0 rfl [.int .i64 (n0 : Nat), .int .i64 (n1 : Nat), .int .i64 (q : Nat), .int .i64 (r : Nat), .int .u32 (n4 : Nat), .slice none 0 0] (by rfl) 25 [] [.int .i64 0, .int .i64 0, .int .i64 0, .int .i64 0, .int .u32 0, .slice none 0 0] [] HRow.out rfl rfl Tryd.sizeF (by simp [Value.oneCell']) ?_
        (try simp only [List.nil_append, List.append_nil])
        rw [← HW2.out]
        refine hK.out _ _ (H29.out) (fun hHeldN => ?_)
        clear hK K hHeld
        have hHeld := hHeldN
        clear hHeldN
        (try simp only [Act.put, List.getElem_toArray, List.getElem_cons_zero, List.getElem_cons_succ, List.setIfInBounds_toArray, List.set_cons_zero, List.set_cons_succ])
        refine wpAnyH_done (by kernel_rfl) ?_ _
        clear hHeld HRow HDA HW2 HE9 HE HD
        have c5 : ∀ W, Below w2.heap.size w2 W → W.cell? ⟨w1.heap.size, 5, none⟩ = some (.slice none 0 0) := fun W hW => by
          rw [cell_of_row W _ 5 _ _ _ ((hW.block w1.heap.size (by have := HR2z.out; omega)).trans HR2.out)]
          rfl
        have HC5 := Lib.hid c5
        clear c5
        go_wp2_with fail
        have hc5 := HC5.out _ (Below.refl _ _).drew
        refine wp_region_held_drew (S := fun _ => True) (by kernel_rfl) trivial (fun hHeld => ?_)
        refine wpAnyH_take (i := 0) (v := ?_) rfl (by kernel_rfl) (by kernel_rfl) (by kernel_rfl) (fun _ _ _ h => h) (Or.inl ⟨by rfl, ?_⟩) (by assumption) ?_
        rotate_left
        · simp only [List.getElem_toArray, List.getElem_cons_zero, List.getElem_cons_succ]; intro W hSw; (try dsimp only at hSw); go_simp; all_goals with_reducible rfl
        simp only [Act.put, List.getElem_toArray, List.getElem_cons_zero, List.getElem_cons_succ, List.setIfInBounds_toArray, List.set_cons_zero, List.set_cons_succ]
        refine wpAnyH_take (i := 2) (v := ?_) rfl (by kernel_rfl) (by kernel_rfl) (by kernel_rfl) (fun _ _ _ h => h) (Or.inl ⟨by rfl, ?_⟩) (by assumption) ?_
        rotate_left
        · simp only [List.getElem_toArray, List.getElem_cons_zero, List.getElem_cons_succ]; intro W hSw; (try dsimp only at hSw); go_simp; all_goals with_reducible rfl
        simp only [Act.put, List.getElem_toArray, List.getElem_cons_zero, List.getElem_cons_succ, List.setIfInBounds_toArray, List.set_cons_zero, List.set_cons_succ]
        refine wpAnyH_take (i := 3) (v := ?_) rfl (by kernel_rfl) (by kernel_rfl) (by kernel_rfl) (fun _ _ _ h => h) (Or.inl ⟨by rfl, ?_⟩) (by assumption) ?_
        rotate_left
        · simp only [List.getElem_toArray, List.getElem_cons_zero, List.getElem_cons_succ]; intro W hSw; (try dsimp only at hSw); go_simp; all_goals with_reducible rfl
        simp only [Act.put, List.getElem_toArray, List.getElem_cons_zero, List.getElem_cons_succ, List.setIfInBounds_toArray, List.set_cons_zero, List.set_cons_succ]
        refine wpAnyH_take (i := 4) (v := ?_) rfl (by kernel_rfl) (by kernel_rfl) (by kernel_rfl) (fun _ _ _ h => h) (Or.inl ⟨by rfl, ?_⟩) (by assumption) ?_
        rotate_left
        · simp only [List.getElem_toArray, List.getElem_cons_zero, List.getElem_cons_succ]; intro W hSw; (try dsimp only at hSw); go_simp; all_goals with_reducible rfl
        simp only [Act.put, List.getElem_toArray, List.getElem_cons_zero, List.getElem_cons_succ, List.setIfInBounds_toArray, List.set_cons_zero, List.set_cons_succ]
        refine wpAnyH_take (i := 5) (v := ?_) rfl (by kernel_rfl) (by kernel_rfl) (by kernel_rfl) (fun _ _ _ h => h) (Or.inl ⟨by rfl, ?_⟩) (by assumption) ?_
        rotate_left
        · simp only [List.getElem_toArray, List.getElem_cons_zero, List.getElem_cons_succ]; intro W hSw; (try dsimp only at hSw); go_simp; all_goals with_reducible rfl
        simp only [Act.put, List.getElem_toArray, List.getElem_cons_zero, List.getElem_cons_succ, List.setIfInBounds_toArray, List.set_cons_zero, List.set_cons_succ]
        refine wpAnyH_ready (rs := [1]) (by kernel_rfl) (by simp) ?_
        refine AllReadyH.cons rfl (fun K hK => ?_) AllReadyH.nil
        simp only [List.getElem_toArray, List.getElem_cons_zero, List.getElem_cons_succ]
        go_simp
        refine hK.out _ _ (trivial) (fun hHeldN => ?_)
        clear hK K hHeld
        have hHeld := hHeldN
        clear hHeldN
        (try simp only [Act.put, List.getElem_toArray, List.getElem_cons_zero, List.getElem_cons_succ, List.setIfInBounds_toArray, List.set_cons_zero, List.set_cons_succ])
        clear hc5
        refine wpAnyH_ready (rs := [6]) (by kernel_rfl) (by simp) ?_
        refine AllReadyH.cons rfl (fun K hK => ?_) AllReadyH.nil
        simp only [List.getElem_toArray, List.getElem_cons_zero, List.getElem_cons_succ]
        obtain ⟨i0, hi, hz0, hz1, hz2⟩ := info_parts Tryd.info5
        have hyl := HYl.out.below HB2.out.drew (Nat.le_refl _)
        rw [if_pos (by rfl)]
        refine wp_append_own w2.drew (.tmp 54) (.tmp 58) 23 rfl w2.heap.size 5 i0 (.int .u8 0) 1 1 Tryd.underlying23 hi hz0 hz1 hz2 rfl (by decide) (.slice none 0 0) 0 [] (by rfl) (Own.nil_ _ _) ⟨g, 15, none⟩ n3 (cp - 15) (vals ld) (by rfl) (by rw [vals_length, HLl.out, Nat.mul_one]) (hyl.vals _ rfl) vals_one (by unfold maxLen; omega) (by omega) (Nat.le_refl _) ?_
        intro v3 w3 hown hgr _
        clear hi hz0 hz1 hz2 hyl
        have hO3 : Own w3 w2.heap.size ld v3 := by
          unfold Own
          rw [HLl.out]
          simpa using hown
        have hB3 : Below w2.heap.size w2 w3 := (Below.refl _ _).drew.grown hgr (Nat.le_refl _) (fun k e => by cases e)
        obtain ⟨A3, c3, rfl, hy3, hc31, hc32, hc33⟩ := hO3.slice_ HYl.out.1
        have HB3 := Lib.hid hB3
        have HY3 := Lib.hid hy3
        have HO3 := Lib.hid (own_ge hO3)
        have HC3 := Lib.hid (And.intro hc31 (And.intro hc32 hc33))
        clear hown hgr hO3 hB3 hy3 hc31 hc32 hc33
        refine hK.out _ _ (trivial) (fun hHeldN => ?_)
        clear hK K hHeld
        have hHeld := hHeldN
        clear hHeldN
        (try simp only [Act.put, List.getElem_toArray, List.getElem_cons_zero, List.getElem_cons_succ, List.setIfInBounds_toArray, List.set_cons_zero, List.set_cons_succ])
        refine wpAnyH_take (i := 7) (v := ?_) rfl (by kernel_rfl) (by kernel_rfl) (by kernel_rfl) (fun _ _ _ h => h) (Or.inl ⟨by rfl, ?_⟩) (by assumption) ?_
        rotate_left
        · simp only [List.getElem_toArray, List.getElem_cons_zero, List.getElem_cons_succ]; intro W hSw; (try dsimp only at hSw); go_simp; all_goals with_reducible rfl
        simp only [Act.put, List.getElem_toArray, List.getElem_cons_zero, List.getElem_cons_succ, List.setIfInBounds_toArray, List.set_cons_zero, List.set_cons_succ]
        refine wpAnyH_ready (rs := [8]) (by kernel_rfl) (by simp) ?_
        refine AllReadyH.cons rfl (fun K hK => ?_) AllReadyH.nil
        simp only [List.getElem_toArray, List.getElem_cons_zero, List.getElem_cons_succ]
        have H5 := (HB3.out.block w1.heap.size (by have := HR2z.out; omega)).trans HR2.out
        have hcell := HC5.out _ HB3.out
        have hfr := frozen_of_row w3 w1.heap.size 5 _ _ H5
        obtain ⟨w4, hw4⟩ : ∃ x, x = w3.setCell ⟨w1.heap.size, 5, none⟩ (.slice A3 ld.length c3) := ⟨_, rfl⟩
        have HR4 := Lib.hid (show w4.heap[w1.heap.size]? = some (.cells (frv A3 c3 F).toArray 25 (0, 0)) by rw [hw4, HFq.out]; exact heap_setCell_same w3 w1.heap.size 5 _ _ (.slice A3 ld.length c3) H5)
        have hB4 : Below w1.heap.size w1 w4 := by rw [hw4]; exact (HB2.out.trans (HB3.out.mono HB2.out.size)).setCell (p := ⟨w1.heap.size, 5, none⟩) (Nat.le_refl _) _
        have HB4 := Lib.hid hB4
        have HZ4 := Lib.hid (show w4.heap.size = w3.heap.size by rw [hw4]; simp [World.setCell])
        have hy4 : By w4 w4.heap.size A3 ld := by
          rw [HZ4.out]
          refine HY3.out.off_row (Nat.le_refl _) H5 (by intro u hu n e; subst e; simp at hu) ?_
          rw [hw4]; exact only_set (only_refl _ _) _
        have HV4 := Lib.hid (show FrV w4 w4.heap.size (frv A3 c3 F) F from ⟨A3, c3, rfl, by rw [HFq.out]; exact hy4, by rw [HFq.out]; exact HC3.out.1, HC3.out.2.1, HC3.out.2.2, HFi.out⟩)
        have HW4 := Lib.hid hw4
        clear hw4 hB4 hy4
        go_simp
        rw [← HW4.out]
        refine hK.out _ _ (trivial) (fun hHeldN => ?_)
        clear hK K hHeld
        have hHeld := hHeldN
        clear hHeldN
        (try simp only [Act.put, List.getElem_toArray, List.getElem_cons_zero, List.getElem_cons_succ, List.setIfInBounds_toArray, List.set_cons_zero, List.set_cons_succ])
        refine wpAnyH_done (by kernel_rfl) ?_ _
        clear HC5 H5 hcell hfr HW4 HR2 HR2z HB2 HFq hHeld
        have hlt1 : w.heap.size < w1.heap.size := by have h := HBw.out.size; have := HGt.out; omega
        have HRz := Lib.hid ((HB4.out.block w.heap.size hlt1).trans HR.out)
        have HBz := Lib.hid (HBw.out.trans (HB4.out.mono HBw.out.size))
        obtain ⟨xs, hxs⟩ : ∃ xs, xs = frv A3 c3 F := ⟨_, rfl⟩
        have HXl := Lib.hid (show xs.length = 6 by rw [hxs]; rfl)
        have HX1 := Lib.hid (show ∀ v ∈ xs, v.oneCell' = true by rw [hxs]; exact frv_one _ _ _)
        rw [← hxs] at HR4
        have HX := Lib.hid hxs
        have HZ41 := Lib.hid (show w1.heap.size < w4.heap.size by
          rcases Nat.lt_or_ge w1.heap.size w4.heap.size with h | h
          · exact h
          · have h2 := HR4.out; rw [Array.getElem?_eq_none h] at h2; cases h2)
        have HX4 := Lib.hid (show ∀ W, Below w4.heap.size w4 W → ∀ j u, xs[j]? = some u → W.cell? ⟨w1.heap.size, 0 + j, none⟩ = some u from fun W hW j u hu => by
          rw [Nat.zero_add, cell_of_row W _ j _ _ _ ((hW.block w1.heap.size HZ41.out).trans HR4.out)]
          simpa using hu)
        have HI6 := Lib.hid (show (Tryd.prog.info? 25).map (·.size) = some xs.length by rw [HXl.out]; exact Tryd.sizeF)
        clear hxs hlt1
        go_wp2_with (first
          | (refine wpList_load_part rfl 25 (.tmp 7) rfl w1.heap.size 0 (by simp [Act.eval, Act.put]) xs _ (HX4.out _ (Below.refl _ _)) Tryd.underlying25 rfl HI6.out ?_)
          | fail)
        cases hm : mayB F with
        | false =>
          have HN := Lib.hid (show readOK bs = false by rw [HFm.out, hm]; rfl)
          have h := rbytes_no F A3 c3 w4 HV4.out hm
          rw [← HX.out] at h
          have HBn := Lib.hid h
          clear h hm HFm
          refine HBn.out.mono ?_
          rintro e w7 ⟨rfl, hb7⟩
          have HR := Lib.hid ((hb7.block w.heap.size (by have := HZ41.out; have := HBw.out.size; have := HGt.out; omega)).trans HRz.out)
          have HBw := Lib.hid (HBz.out.trans (hb7.mono HBz.out.size))
          clear hb7 HBn
          obtain ⟨w8, hw8⟩ : ∃ x, x = World.setRow w7 w.heap.size #[.int .i64 0, .int .i64 0, .int .i64 0, .int .i64 0, .int .u32 0, .slice none 0 0] := ⟨_, rfl⟩
          have HR8 := Lib.hid (show w8.heap[w.heap.size]? = some (.cells #[.int .i64 0, .int .i64 0, .int .i64 0, .int .i64 0, .int .u32 0, .slice none 0 0] 25 (0, 0)) by rw [hw8]; exact setRow_heap _ _ _ _ _ _ HR.out)
          have HB8 := Lib.hid (show Below w.heap.size w w8 by rw [hw8]; exact HBw.out.grown (grown_setRow w7 w.heap.size _) HBw.out.size (fun k e => by cases e; omega))
          have HW8 := Lib.hid hw8
          clear hw8
          go_wp2_with (first
            | (refine wpList_store_part rfl 25 (.tmp 2) (.tmp 75) rfl w.heap.size 0 (by simp [Act.eval, Act.put]) [.int .i64 0, .int .i64 0, .int .i64 0, .int .i64 0, .int .u32 0, .slice none 0 0] (by simp [Act.eval, Act.put]) 25 [] [.int .i64 0, .int .i64 0, .int .i64 0, .int .i64 0, .int .u32 0, .slice none 0 0] [] HR.out rfl rfl Tryd.sizeF (by decide) ?_))
          rw [← HW8.out]
          exact bodyPost_ret (results_cell_tmp (t := 25) (p := 2) (u := 3) rfl _ _ w.heap.size _ (0, 0) _ rfl HR8.out Tryd.underlying25 rfl Tryd.sizeF) rfl (ReadOut.no HN.out HB8.out)
        | true =>
          have h := rbytes_yes F A3 c3 w4 HV4.out hm
          rw [← HX.out] at h
          have HBn := Lib.hid h
          have HSb := Lib.hid (Crc.sealed_lt (secB_lt (f := F) HV4.out.fine.load))
          rw [hm, Bool.true_and] at HFm
          clear h hm
          refine HBn.out.mono ?_
          rintro e w7 ⟨v, rfl, hv⟩
          have hb7 := hv.2
          have k1 := hv.strAt HSb.out w7 (Below.refl _ _)
          have k2 := conv_str w7 ((HA.out.below (HBz.out.trans (hb7.mono HBz.out.size)) (Nat.le_refl _))) c
          rw [HL.out] at k2
          have HS := Lib.hid (str_beq HSb.out HBy.out)
          generalize Crc.sealed (secB F) = ys at *
          have HR := Lib.hid ((hb7.block w.heap.size (by have := HZ41.out; have := HBw.out.size; have := HGt.out; omega)).trans HRz.out)
          have HBw := Lib.hid (HBz.out.trans (hb7.mono HBz.out.size))
          have HF7 := Lib.hid (HV4.out.below hb7 (Nat.le_refl _))
          have HX7 := Lib.hid (HX4.out w7 hb7)
          have hlt7 : w4.heap.size ≤ w7.heap.size := hb7.size
          generalize str ys = sy at *
          generalize str bs = sb at *
          clear hv hb7 HBn
          cases hd : decide (ys = bs) with
          | false =>
            rw [hd] at HS HFm
            have HN := HFm
            have hq := HS.out
            clear hd HS HFm
            obtain ⟨w8, hw8⟩ : ∃ x, x = World.setRow w7 w.heap.size #[.int .i64 0, .int .i64 0, .int .i64 0, .int .i64 0, .int .u32 0, .slice none 0 0] := ⟨_, rfl⟩
            have HR8 := Lib.hid (show w8.heap[w.heap.size]? = some (.cells #[.int .i64 0, .int .i64 0, .int .i64 0, .int .i64 0, .int .u32 0, .slice none 0 0] 25 (0, 0)) by rw [hw8]; exact setRow_heap _ _ _ _ _ _ HR.out)
            have HB8 := Lib.hid (show Below w.heap.size w w8 by rw [hw8]; exact HBw.out.grown (grown_setRow w7 w.heap.size _) HBw.out.size (fun k e => by cases e; omega))
            have HW8 := Lib.hid hw8
            clear hw8
            go_wp2_with (first
              | (refine wpList_store_part rfl 25 (.tmp 2) (.tmp 75) rfl w.heap.size 0 (by simp [Act.eval, Act.put]) [.int .i64 0, .int .i64 0, .int .i64 0, .int .i64 0, .int .u32 0, .slice none 0 0] (by simp [Act.eval, Act.put]) 25 [] [.int .i64 0, .int .i64 0, .int .i64 0, .int .i64 0, .int .u32 0, .slice none 0 0] [] HR.out rfl rfl Tryd.sizeF (by decide) ?_))
            rw [← HW8.out]
            exact bodyPost_ret (results_cell_tmp (t := 25) (p := 2) (u := 3) rfl _ _ w.heap.size _ (0, 0) _ rfl HR8.out Tryd.underlying25 rfl Tryd.sizeF) rfl (ReadOut.no HN.out HB8.out)
          | true =>
            rw [hd] at HS HFm
            have HN := Lib.hid (HRF.out HFm.out)
            have hq := HS.out
            obtain ⟨w8, hw8⟩ : ∃ x, x = World.setRow w7 w.heap.size xs.toArray := ⟨_, rfl⟩
            have HR8 := Lib.hid (show w8.heap[w.heap.size]? = some (.cells xs.toArray 25 (0, 0)) by rw [hw8]; exact setRow_heap _ _ _ _ _ _ HR.out)
            have hg8 : w7.grownBy w8 (some w.heap.size) := by rw [hw8]; exact grown_setRow w7 w.heap.size _
            have HB8 := Lib.hid (HBw.out.grown hg8 HBw.out.size (fun k e => by cases e; omega))
            have hy8 := (HF7.out.load_by.off_row hlt7 HR.out (by intro u hu n e; subst e; simp at hu) hg8).mono (show w4.heap.size ≤ w8.heap.size by have := hg8.size; omega)
            have HF8 := Lib.hid (show FrV w8 w8.heap.size (frv A3 c3 F) F from ⟨A3, c3, rfl, hy8, HF7.out.load_le.1, HF7.out.load_le.2.1, HF7.out.load_le.2.2, HF7.out.fine⟩)
            have HW8 := Lib.hid hw8
            have HIz := Lib.hid (show (Tryd.prog.info? 25).map (·.size) = some xs.toArray.size by rw [List.size_toArray]; exact HI6.out)
            clear hw8 hd HFm hy8 hg8 HS
            go_wp2_with (first
              | (refine wpList_load_part rfl 25 (.tmp 7) rfl w1.heap.size 0 (by simp [Act.eval, Act.put]) xs _ HX7.out Tryd.underlying25 rfl HI6.out ?_)
              | (refine wpList_store_part rfl 25 (.tmp 2) (.tmp 76) rfl w.heap.size 0 (by simp [Act.eval, Act.put]) xs (by simp [Act.eval, Act.put]) 25 [] [.int .i64 0, .int .i64 0, .int .i64 0, .int .i64 0, .int .u32 0, .slice none 0 0] [] HR.out rfl ?_ HI6.out HX1.out ?_))
            · rw [HXl.out]; rfl
            rw [← HW8.out]
            refine bodyPost_ret (results_cell_tmp (t := 25) (p := 2) (u := 3) rfl _ _ w.heap.size _ (0, 0) _ rfl HR8.out Tryd.underlying25 rfl HIz.out) rfl ?_
            obtain ⟨e1, e2⟩ := HN.out
            unfold ReadOut
            rw [e1, e2, HX.out]
            exact ⟨A3, c3, rfl, HF8.out, HB8.out⟩
    · (try simp only [List.getElem_toArray, List.getElem_cons_zero, List.getElem_cons_succ])
      go_simp
      refine hK.out _ _ (HE9.out) (fun hHeldN => ?_)
      clear hK K hHeld
      have hHeld := hHeldN
      clear hHeldN
      (try simp only [Act.put, List.getElem_toArray, List.getElem_cons_zero, List.getElem_cons_succ, List.setIfInBounds_toArray, List.set_cons_zero, List.set_cons_succ])
      refine wpAnyH_ready (rs := [6]) (by kernel_rfl) (by simp) ?_
      refine AllReadyH.cons rfl (fun K hK => ?_) AllReadyH.nil
      simp only [List.getElem_toArray, List.getElem_cons_zero, List.getElem_cons_succ]
      (try simp only [List.getElem_toArray, List.getElem_cons_zero, List.getElem_cons_succ])
      go_simp
      refine (Hn1.out _ HE.out _).mono ?_
      rintro e w' ⟨rfl, rfl⟩
      go_wp2_with fail
      refine hK.out _ _ (hHeld) (fun hHeldN => ?_)
      clear hK K hHeld
      have hHeld := hHeldN
      clear hHeldN
      (try simp only [Act.put, List.getElem_toArray, List.getElem_cons_zero, List.getElem_cons_succ, List.setIfInBounds_toArray, List.set_cons_zero, List.set_cons_succ])
      refine wpAnyH_take (i := 7) (v := ?_) rfl (by kernel_rfl) (by kernel_rfl) (by kernel_rfl) (fun _ _ _ h => h) (Or.inl ⟨by rfl, ?_⟩) (by assumption) ?_
      rotate_left
      · simp only [List.getElem_toArray, List.getElem_cons_zero, List.getElem_cons_succ]; intro W hSw; (try dsimp only at hSw); go_simp; all_goals with_reducible rfl
      simp only [Act.put, List.getElem_toArray, List.getElem_cons_zero, List.getElem_cons_succ, List.setIfInBounds_toArray, List.set_cons_zero, List.set_cons_succ]
      refine wpAnyH_ready (rs := [20]) (by kernel_rfl) (by simp) ?_
      refine AllReadyH.cons rfl (fun K hK => ?_) AllReadyH.nil
      simp only [List.getElem_toArray, List.getElem_cons_zero, List.getElem_cons_succ]
      (try simp only [List.getElem_toArray, List.getElem_cons_zero, List.getElem_cons_succ])
      go_simp
      refine (Hn4.out _ HE.out _).mono ?_
      rintro e w' ⟨rfl, rfl⟩
      go_wp2_with fail
      refine hK.out _ _ (hHeld) (fun hHeldN => ?_)
      clear hK K hHeld
      have hHeld := hHeldN
      clear hHeldN
      (try simp only [Act.put, List.getElem_toArray, List.getElem_cons_zero, List.getElem_cons_succ, List.setIfInBounds_toArray, List.set_cons_zero, List.set_cons_succ])
      refine wpAnyH_take (i := 21) (v := ?_) rfl (by kernel_rfl) (by kernel_rfl) (by kernel_rfl) (fun _ _ _ h => h) (Or.inl ⟨by rfl, ?_⟩) (by assumption) ?_
      rotate_left
      · simp only [List.getElem_toArray, List.getElem_cons_zero, List.getElem_cons_succ]; intro W hSw; (try dsimp only at hSw); go_simp; all_goals with_reducible rfl
      simp only [Act.put, List.getElem_toArray, List.getElem_cons_zero, List.getElem_cons_succ, List.setIfInBounds_toArray, List.set_cons_zero, List.set_cons_succ]
      refine wpAnyH_take (i := 22) (v := ?_) rfl (by kernel_rfl) (by kernel_rfl) (by kernel_rfl) (fun _ _ _ h => h) (Or.inl ⟨by rfl, ?_⟩) (by assumption) ?_
      rotate_left
      · simp only [List.getElem_toArray, List.getElem_cons_zero, List.getElem_cons_succ]; intro W hSw; (try dsimp only at hSw); go_simp; all_goals with_reducible rfl
      simp only [Act.put, List.getElem_toArray, List.getElem_cons_zero, List.getElem_cons_succ, List.setIfInBounds_toArray, List.set_cons_zero, List.set_cons_succ]
      refine wpAnyH_ready (rs := [24]) (by kernel_rfl) (by simp) ?_
      refine AllReadyH.cons rfl (fun K hK => ?_) AllReadyH.nil
      simp only [List.getElem_toArray, List.getElem_cons_zero, List.getElem_cons_succ]
      (try rw [HDA.out])
      rw [if_pos (by rfl)]
      refine wp_store_part 25 (.tmp 7) (.tmp 52) rfl w1.heap.size 0 rfl [.int .i64 (n0 : Nat), .int .i64 (n1 : Nat), .int .i64 (q : Nat), .int .i64 (r : Nat), .int .u32 (n4 : Nat), .slice none 0 0] (by rfl) 25 [] [.int .i64 0, .int .i64 0, .int .i64 0, .int .i64 0, .int .u32 0, .slice none 0 0] [] HRow.out rfl rfl Tryd.sizeF (by simp [Value.oneCell']) ?_
      (try simp only [List.nil_append, List.append_nil])
      rw [← HW2.out]
      refine hK.out _ _ (H29.out) (fun hHeldN => ?_)
      clear hK K hHeld
      have hHeld := hHeldN
      clear hHeldN
      (try simp only [Act.put, List.getElem_toArray, List.getElem_cons_zero, List.getElem_cons_succ, List.setIfInBounds_toArray, List.set_cons_zero, List.set_cons_succ])
      refine wpAnyH_done (by kernel_rfl) ?_ _
      clear hHeld HRow HDA HW2 HE9 HE HD
      have c5 : ∀ W, Below w2.heap.size w2 W → W.cell? ⟨w1.heap.size, 5, none⟩ = some (.slice none 0 0) := fun W hW => by
        rw [cell_of_row W _ 5 _ _ _ ((hW.block w1.heap.size (by have := HR2z.out; omega)).trans HR2.out)]
        rfl
      have HC5 := Lib.hid c5
      clear c5
      go_wp2_with fail
      have hc5 := HC5.out _ (Below.refl _ _).drew
      refine wp_region_held_drew (S := fun _ => True) (by kernel_rfl) trivial (fun hHeld => ?_)
      refine wpAnyH_take (i := 0) (v := ?_) rfl (by kernel_rfl) (by kernel_rfl) (by kernel_rfl) (fun _ _ _ h => h) (Or.inl ⟨by rfl, ?_⟩) (by assumption) ?_
      rotate_left
      · simp only [List.getElem_toArray, List.getElem_cons_zero, List.getElem_cons_succ]; intro W hSw; (try dsimp only at hSw); go_simp; all_goals with_reducible rfl
      simp only [Act.put, List.getElem_toArray, List.getElem_cons_zero, List.getElem_cons_succ, List.setIfInBounds_toArray, List.set_cons_zero, List.set_cons_succ]
      refine wpAnyH_take (i := 2) (v := ?_) rfl (by kernel_rfl) (by kernel_rfl) (by kernel_rfl) (fun _ _ _ h => h) (Or.inl ⟨by rfl, ?_⟩) (by assumption) ?_
      rotate_left
      · simp only [List.getElem_toArray, List.getElem_cons_zero, List.getElem_cons_succ]; intro W hSw; (try dsimp only at hSw); go_simp; all_goals with_reducible rfl
      simp only [Act.put, List.getElem_toArray, List.getElem_cons_zero, List.getElem_cons_succ, List.setIfInBounds_toArray, List.set_cons_zero, List.set_cons_succ]
      refine wpAnyH_take (i := 3) (v := ?_) rfl (by kernel_rfl) (by kernel_rfl) (by kernel_rfl) (fun _ _ _ h => h) (Or.inl ⟨by rfl, ?_⟩) (by assumption) ?_
      rotate_left
      · simp only [List.getElem_toArray, List.getElem_cons_zero, List.getElem_cons_succ]; intro W hSw; (try dsimp only at hSw); go_simp; all_goals with_reducible rfl
      simp only [Act.put, List.getElem_toArray, List.getElem_cons_zero, List.getElem_cons_succ, List.setIfInBounds_toArray, List.set_cons_zero, List.set_cons_succ]
      refine wpAnyH_take (i := 4) (v := ?_) rfl (by kernel_rfl) (by kernel_rfl) (by kernel_rfl) (fun _ _ _ h => h) (Or.inl ⟨by rfl, ?_⟩) (by assumption) ?_
      rotate_left
      · simp only [List.getElem_toArray, List.getElem_cons_zero, List.getElem_cons_succ]; intro W hSw; (try dsimp only at hSw); go_simp; all_goals with_reducible rfl
      simp only [Act.put, List.getElem_toArray, List.getElem_cons_zero, List.getElem_cons_succ, List.setIfInBounds_toArray, List.set_cons_zero, List.set_cons_succ]
      refine wpAnyH_take (i := 5) (v := ?_) rfl (by kernel_rfl) (by kernel_rfl) (by kernel_rfl) (fun _ _ _ h => h) (Or.inl ⟨by rfl, ?_⟩) (by assumption) ?_
      rotate_left
      · simp only [List.getElem_toArray, List.getElem_cons_zero, List.getElem_cons_succ]; intro W hSw; (try dsimp only at hSw); go_simp; all_goals with_reducible rfl
      simp only [Act.put, List.getElem_toArray, List.getElem_cons_zero, List.getElem_cons_succ, List.setIfInBounds_toArray, List.set_cons_zero, List.set_cons_succ]
      refine wpAnyH_ready (rs := [1]) (by kernel_rfl) (by simp) ?_
      refine AllReadyH.cons rfl (fun K hK => ?_) AllReadyH.nil
      simp only [List.getElem_toArray, List.getElem_cons_zero, List.getElem_cons_succ]
      go_simp
      refine hK.out _ _ (trivial) (fun hHeldN => ?_)
      clear hK K hHeld
      have hHeld := hHeldN
      clear hHeldN
      (try simp only [Act.put, List.getElem_toArray, List.getElem_cons_zero, List.getElem_cons_succ, List.setIfInBounds_toArray, List.set_cons_zero, List.set_cons_succ])
      clear hc5
      refine wpAnyH_ready (rs := [6]) (by kernel_rfl) (by simp) ?_
      refine AllReadyH.cons rfl (fun K hK => ?_) AllReadyH.nil
      simp only [List.getElem_toArray, List.getElem_cons_zero, List.getElem_cons_succ]
      obtain ⟨i0, hi, hz0, hz1, hz2⟩ := info_parts Tryd.info5
      have hyl := HYl.out.below HB2.out.drew (Nat.le_refl _)
      rw [if_pos (by rfl)]
      refine wp_append_own w2.drew (.tmp 54) (.tmp 58) 23 rfl w2.heap.size 5 i0 (.int .u8 0) 1 1 Tryd.underlying23 hi hz0 hz1 hz2 rfl (by decide) (.slice none 0 0) 0 [] (by rfl) (Own.nil_ _ _) ⟨g, 15, none⟩ n3 (cp - 15) (vals ld) (by rfl) (by rw [vals_length, HLl.out, Nat.mul_one]) (hyl.vals _ rfl) vals_one (by unfold maxLen; omega) (by omega) (Nat.le_refl _) ?_
      intro v3 w3 hown hgr _
      clear hi hz0 hz1 hz2 hyl
      have hO3 : Own w3 w2.heap.size ld v3 := by
        unfold Own
        rw [HLl.out]
        simpa using hown
      have hB3 : Below w2.heap.size w2 w3 := (Below.refl _ _).drew.grown hgr (Nat.le_refl _) (fun k e => by cases e)
      obtain ⟨A3, c3, rfl, hy3, hc31, hc32, hc33⟩ := hO3.slice_ HYl.out.1
      have HB3 := Lib.hid hB3
      have HY3 := Lib.hid hy3
      have HO3 := Lib.hid (own_ge hO3)
      have HC3 := Lib.hid (And.intro hc31 (And.intro hc32 hc33))
      clear hown hgr hO3 hB3 hy3 hc31 hc32 hc33
      refine hK.out _ _ (trivial) (fun hHeldN => ?_)
      clear hK K hHeld
      have hHeld := hHeldN
      clear hHeldN
      (try simp only [Act.put, List.getElem_toArray, List.getElem_cons_zero, List.getElem_cons_succ, List.setIfInBounds_toArray, List.set_cons_zero, List.set_cons_succ])
      refine wpAnyH_take (i := 7) (v := ?_) rfl (by kernel_rfl) (by kernel_rfl) (by kernel_rfl) (fun _ _ _ h => h) (Or.inl ⟨by rfl, ?_⟩) (by assumption) ?_
      rotate_left
      · simp only [List.getElem_toArray, List.getElem_cons_zero, List.getElem_cons_succ]; intro W hSw; (try dsimp only at hSw); go_simp; all_goals with_reducible rfl
      simp only [Act.put, List.getElem_toArray, List.getElem_cons_zero, List.getElem_cons_succ, List.setIfInBounds_toArray, List.set_cons_zero, List.set_cons_succ]
      refine wpAnyH_ready (rs := [8]) (by kernel_rfl) (by simp) ?_
      refine AllReadyH.cons rfl (fun K hK => ?_) AllReadyH.nil
      simp only [List.getElem_toArray, List.getElem_cons_zero, List.getElem_cons_succ]
      have H5 := (HB3.out.block w1.heap.size (by have := HR2z.out; omega)).trans HR2.out
      have hcell := HC5.out _ HB3.out
      have hfr := frozen_of_row w3 w1.heap.size 5 _ _ H5
      obtain ⟨w4, hw4⟩ : ∃ x, x = w3.setCell ⟨w1.heap.size, 5, none⟩ (.slice A3 ld.length c3) := ⟨_, rfl⟩
      have HR4 := Lib.hid (show w4.heap[w1.heap.size]? = some (.cells (frv A3 c3 F).toArray 25 (0, 0)) by rw [hw4, HFq.out]; exact heap_setCell_same w3 w1.heap.size 5 _ _ (.slice A3 ld.length c3) H5)
      have hB4 : Below w1.heap.size w1 w4 := by rw [hw4]; exact (HB2.out.trans (HB3.out.mono HB2.out.size)).setCell (p := ⟨w1.heap.size, 5, none⟩) (Nat.le_refl _) _
      have HB4 := Lib.hid hB4
      have HZ4 := Lib.hid (show w4.heap.size = w3.heap.size by rw [hw4]; simp [World.setCell])
      have hy4 : By w4 w4.heap.size A3 ld := by
        rw [HZ4.out]
        refine HY3.out.off_row (Nat.le_refl _) H5 (by intro u hu n e; subst e; simp at hu) ?_
        rw [hw4]; exact only_set (only_refl _ _) _
      have HV4 := Lib.hid (show FrV w4 w4.heap.size (frv A3 c3 F) F from ⟨A3, c3, rfl, by rw [HFq.out]; exact hy4, by rw [HFq.out]; exact HC3.out.1, HC3.out.2.1, HC3.out.2.2, HFi.out⟩)
      have HW4 := Lib.hid hw4
      clear hw4 hB4 hy4
      go_simp
      rw [← HW4.out]
      refine hK.out _ _ (trivial) (fun hHeldN => ?_)
      clear hK K hHeld
      have hHeld := hHeldN
      clear hHeldN
      (try simp only [Act.put, List.getElem_toArray, List.getElem_cons_zero, List.getElem_cons_succ, List.setIfInBounds_toArray, List.set_cons_zero, List.set_cons_succ])
      refine wpAnyH_done (by kernel_rfl) ?_ _
      clear HC5 H5 hcell hfr HW4 HR2 HR2z HB2 HFq hHeld
      have hlt1 : w.heap.size < w1.heap.size := by have h := HBw.out.size; have := HGt.out; omega
      have HRz := Lib.hid ((HB4.out.block w.heap.size hlt1).trans HR.out)
      have HBz := Lib.hid (HBw.out.trans (HB4.out.mono HBw.out.size))
      obtain ⟨xs, hxs⟩ : ∃ xs, xs = frv A3 c3 F := ⟨_, rfl⟩
      have HXl := Lib.hid (show xs.length = 6 by rw [hxs]; rfl)
      have HX1 := Lib.hid (show ∀ v ∈ xs, v.oneCell' = true by rw [hxs]; exact frv_one _ _ _)
      rw [← hxs] at HR4
      have HX := Lib.hid hxs
      have HZ41 := Lib.hid (show w1.heap.size < w4.heap.size by
        rcases Nat.lt_or_ge w1.heap.size w4.heap.size with h | h
        · exact h
        · have h2 := HR4.out; rw [Array.getElem?_eq_none h] at h2; cases h2)
      have HX4 := Lib.hid (show ∀ W, Below w4.heap.size w4 W → ∀ j u, xs[j]? = some u → W.cell? ⟨w1.heap.size, 0 + j, none⟩ = some u from fun W hW j u hu => by
        rw [Nat.zero_add, cell_of_row W _ j _ _ _ ((hW.block w1.heap.size HZ41.out).trans HR4.out)]
        simpa using hu)
      have HI6 := Lib.hid (show (Tryd.prog.info? 25).map (·.size) = some xs.length by rw [HXl.out]; exact Tryd.sizeF)
      clear hxs hlt1
      go_wp2_with (first
        | (refine wpList_load_part rfl 25 (.tmp 7) rfl w1.heap.size 0 (by simp [Act.eval, Act.put]) xs _ (HX4.out _ (Below.refl _ _)) Tryd.underlying25 rfl HI6.out ?_)
        | fail)
      cases hm : mayB F with
      | false =>
        have HN := Lib.hid (show readOK bs = false by rw [HFm.out, hm]; rfl)
        have h := rbytes_no F A3 c3 w4 HV4.out hm
        rw [← HX.out] at h
        have HBn := Lib.hid h
        clear h hm HFm
        refine HBn.out.mono ?_
        rintro e w7 ⟨rfl, hb7⟩
        have HR := Lib.hid ((hb7.block w.heap.size (by have := HZ41.out; have := HBw.out.size; have := HGt.out; omega)).trans HRz.out)
        have HBw := Lib.hid (HBz.out.trans (hb7.mono HBz.out.size))
        clear hb7 HBn
        obtain ⟨w8, hw8⟩ : ∃ x, x = World.setRow w7 w.heap.size #[.int .i64 0, .int .i64 0, .int .i64 0, .int .i64 0, .int .u32 0, .slice none 0 0] := ⟨_, rfl⟩
        have HR8 := Lib.hid (show w8.heap[w.heap.size]? = some (.cells #[.int .i64 0, .int .i64 0, .int .i64 0, .int .i64 0, .int .u32 0, .slice none 0 0] 25 (0, 0)) by rw [hw8]; exact setRow_heap _ _ _ _ _ _ HR.out)
        have HB8 := Lib.hid (show Below w.heap.size w w8 by rw [hw8]; exact HBw.out.grown (grown_setRow w7 w.heap.size _) HBw.out.size (fun k e => by cases e; omega))
        have HW8 := Lib.hid hw8
        clear hw8
        go_wp2_with (first
          | (refine wpList_store_part rfl 25 (.tmp 2) (.tmp 75) rfl w.heap.size 0 (by simp [Act.eval, Act.put]) [.int .i64 0, .int .i64 0, .int .i64 0, .int .i64 0, .int .u32 0, .slice none 0 0] (by simp [Act.eval, Act.put]) 25 [] [.int .i64 0, .int .i64 0, .int .i64 0, .int .i64 0, .int .u32 0, .slice none 0 0] [] HR.out rfl rfl Tryd.sizeF (by decide) ?_))
        rw [← HW8.out]
        exact bodyPost_ret (results_cell_tmp (t := 25) (p := 2) (u := 3) rfl _ _ w.heap.size _ (0, 0) _ rfl HR8.out Tryd.underlying25 rfl Tryd.sizeF) rfl (ReadOut.no HN.out HB8.out)
      | true =>
        have h := rbytes_yes F A3 c3 w4 HV4.out hm
        rw [← HX.out] at h
        have HBn := Lib.hid h
        have HSb := Lib.hid (Crc.sealed_lt (secB_lt (f := F) HV4.out.fine.load))
        rw [hm, Bool.true_and] at HFm
        clear h hm
        refine HBn.out.mono ?_
        rintro e w7 ⟨v, rfl, hv⟩
        have hb7 := hv.2
        have k1 := hv.strAt HSb.out w7 (Below.refl _ _)
        have k2 := conv_str w7 ((HA.out.below (HBz.out.trans (hb7.mono HBz.out.size)) (Nat.le_refl _))) c
        rw [HL.out] at k2
        have HS := Lib.hid (str_beq HSb.out HBy.out)
        generalize Crc.sealed (secB F) = ys at *
        have HR := Lib.hid ((hb7.block w.heap.size (by have := HZ41.out; have := HBw.out.size; have := HGt.out; omega)).trans HRz.out)
        have HBw := Lib.hid (HBz.out.trans (hb7.mono HBz.out.size))
        have HF7 := Lib.hid (HV4.out.below hb7 (Nat.le_refl _))
        have HX7 := Lib.hid (HX4.out w7 hb7)
        have hlt7 : w4.heap.size ≤ w7.heap.size := hb7.size
        generalize str ys = sy at *
        generalize str bs = sb at *
        clear hv hb7 HBn
        cases hd : decide (ys = bs) with
        | false =>
          rw [hd] at HS HFm
          have HN := HFm
          have hq := HS.out
          clear hd HS HFm
          obtain ⟨w8, hw8⟩ : ∃ x, x = World.setRow w7 w.heap.size #[.int .i64 0, .int .i64 0, .int .i64 0, .int .i64 0, .int .u32 0, .slice none 0 0] := ⟨_, rfl⟩
          have HR8 := Lib.hid (show w8.heap[w.heap.size]? = some (.cells #[.int .i64 0, .int .i64 0, .int .i64 0, .int .i64 0, .int .u32 0, .slice none 0 0] 25 (0, 0)) by rw [hw8]; exact setRow_heap _ _ _ _ _ _ HR.out)
          have HB8 := Lib.hid (show Below w.heap.size w w8 by rw [hw8]; exact HBw.out.grown (grown_setRow w7 w.heap.size _) HBw.out.size (fun k e => by cases e; omega))
          have HW8 := Lib.hid hw8
          clear hw8
          go_wp2_with (first
            | (refine wpList_store_part rfl 25 (.tmp 2) (.tmp 75) rfl w.heap.size 0 (by simp [Act.eval, Act.put]) [.int .i64 0, .int .i64 0, .int .i64 0, .int .i64 0, .int .u32 0, .slice none 0 0] (by simp [Act.eval, Act.put]) 25 [] [.int .i64 0, .int .i64 0, .int .i64 0, .int .i64 0, .int .u32 0, .slice none 0 0] [] HR.out rfl rfl Tryd.sizeF (by decide) ?_))
          rw [← HW8.out]
          exact bodyPost_ret (results_cell_tmp (t := 25) (p := 2) (u := 3) rfl _ _ w.heap.size _ (0, 0) _ rfl HR8.out Tryd.underlying25 rfl Tryd.sizeF) rfl (ReadOut.no HN.out HB8.out)
        | true =>
          rw [hd] at HS HFm
          have HN := Lib.hid (HRF.out HFm.out)
          have hq := HS.out
          obtain ⟨w8, hw8⟩ : ∃ x, x = World.setRow w7 w.heap.size xs.toArray := ⟨_, rfl⟩
          have HR8 := Lib.hid (show w8.heap[w.heap.size]? = some (.cells xs.toArray 25 (0, 0)) by rw [hw8]; exact setRow_heap _ _ _ _ _ _ HR.out)
          have hg8 : w7.grownBy w8 (some w.heap.size) := by rw [hw8]; exact grown_setRow w7 w.heap.size _
          have HB8 := Lib.hid (HBw.out.grown hg8 HBw.out.size (fun k e => by cases e; omega))
          have hy8 := (HF7.out.load_by.off_row hlt7 HR.out (by intro u hu n e; subst e; simp at hu) hg8).mono (show w4.heap.size ≤ w8.heap.size by have := hg8.size; omega)
          have HF8 := Lib.hid (show FrV w8 w8.heap.size (frv A3 c3 F) F from ⟨A3, c3, rfl, hy8, HF7.out.load_le.1, HF7.out.load_le.2.1, HF7.out.load_le.2.2, HF7.out.fine⟩)
          have HW8 := Lib.hid hw8
          have HIz := Lib.hid (show (Tryd.prog.info? 25).map (·.size) = some xs.toArray.size by rw [List.size_toArray]; exact HI6.out)
          clear hw8 hd HFm hy8 hg8 HS
          go_wp2_with (first
            | (refine wpList_load_part rfl 25 (.tmp 7) rfl w1.heap.size 0 (by simp [Act.eval, Act.put]) xs _ HX7.out Tryd.underlying25 rfl HI6.out ?_)
            | (refine wpList_store_part rfl 25 (.tmp 2) (.tmp 76) rfl w.heap.size 0 (by simp [Act.eval, Act.put]) xs (by simp [Act.eval, Act.put]) 25 [] [.int .i64 0, .int .i64 0, .int .i64 0, .int .i64 0, .int .u32 0, .slice none 0 0] [] HR.out rfl ?_ HI6.out HX1.out ?_))
          · rw [HXl.out]; rfl
          rw [← HW8.out]
          refine bodyPost_ret (results_cell_tmp (t := 25) (p := 2) (u := 3) rfl _ _ w.heap.size _ (0, 0) _ rfl HR8.out Tryd.underlying25 rfl HIz.out) rfl ?_
          obtain ⟨e1, e2⟩ := HN.out
          unfold ReadOut
          rw [e1, e2, HX.out]
          exact ⟨A3, c3, rfl, HF8.out, HB8.out⟩
  · (try simp only [List.getElem_toArray, List.getElem_cons_zero, List.getElem_cons_succ])
    go_simp
    refine hK.out _ _ (HE9.out) (fun hHeldN => ?_)
    clear hK K hHeld
    have hHeld := hHeldN
    clear hHeldN
    (try simp only [Act.put, List.getElem_toArray, List.getElem_cons_zero, List.getElem_cons_succ, List.setIfInBounds_toArray, List.set_cons_zero, List.set_cons_succ])
    refine wpAnyH_ready (rs := [2]) (by kernel_rfl) (by simp) ?_
    refine AllReadyH.cons rfl (fun K hK => ?_) AllReadyH.nil
    simp only [List.getElem_toArray, List.getElem_cons_zero, List.getElem_cons_succ]
    (try simp only [List.getElem_toArray, List.getElem_cons_zero, List.getElem_cons_succ])
    go_simp
    refine (Hn0.out _ HE.out _).mono ?_
    rintro e w' ⟨rfl, rfl⟩
    go_wp2_with fail
    refine hK.out _ _ (hHeld) (fun hHeldN => ?_)
    clear hK K hHeld
    have hHeld := hHeldN
    clear hHeldN
    (try simp only [Act.put, List.getElem_toArray, List.getElem_cons_zero, List.getElem_cons_succ, List.setIfInBounds_toArray, List.set_cons_zero, List.set_cons_succ])
    refine wpAnyH_take (i := 3) (v := ?_) rfl (by kernel_rfl) (by kernel_rfl) (by kernel_rfl) (fun _ _ _ h => h) (Or.inl ⟨by rfl, ?_⟩) (by assumption) ?_
    rotate_left
    · simp only [List.getElem_toArray, List.getElem_cons_zero, List.getElem_cons_succ]; intro W hSw; (try dsimp only at hSw); go_simp; all_goals with_reducible rfl
    simp only [Act.put, List.getElem_toArray, List.getElem_cons_zero, List.getElem_cons_succ, List.setIfInBounds_toArray, List.set_cons_zero, List.set_cons_succ]
    refine wpAnyH_ready (rs := [6]) (by kernel_rfl) (by simp) ?_
    refine AllReadyH.cons rfl (fun K hK => ?_) AllReadyH.nil
    simp only [List.getElem_toArray, List.getElem_cons_zero, List.getElem_cons_succ]
    (try simp only [List.getElem_toArray, List.getElem_cons_zero, List.getElem_cons_succ])
    go_simp
    refine (Hn1.out _ HE.out _).mono ?_
    rintro e w' ⟨rfl, rfl⟩
    go_wp2_with fail
    refine hK.out _ _ (hHeld) (fun hHeldN => ?_)
    clear hK K hHeld
    have hHeld := hHeldN
    clear hHeldN
    (try simp only [Act.put, List.getElem_toArray, List.getElem_cons_zero, List.getElem_cons_succ, List.setIfInBounds_toArray, List.set_cons_zero, List.set_cons_succ])
    refine wpAnyH_take (i := 7) (v := ?_) rfl (by kernel_rfl) (by kernel_rfl) (by kernel_rfl) (fun _ _ _ h => h) (Or.inl ⟨by rfl, ?_⟩) (by assumption) ?_
    rotate_left
    · simp only [List.getElem_toArray, List.getElem_cons_zero, List.getElem_cons_succ]; intro W hSw; (try dsimp only at hSw); go_simp; all_goals with_reducible rfl
    simp only [Act.put, List.getElem_toArray, List.getElem_cons_zero, List.getElem_cons_succ, List.setIfInBounds_toArray, List.set_cons_zero, List.set_cons_succ]
    refine wpAnyH_ready (rs := [20]) (by kernel_rfl) (by simp) ?_
    refine AllReadyH.cons rfl (fun K hK => ?_) AllReadyH.nil
    simp only [List.getElem_toArray, List.getElem_cons_zero, List.getElem_cons_succ]
    (try simp only [List.getElem_toArray, List.getElem_cons_zero, List.getElem_cons_succ])
    go_simp
    refine (Hn4.out _ HE.out _).mono ?_
    rintro e w' ⟨rfl, rfl⟩
    go_wp2_with fail
    refine hK.out _ _ (hHeld) (fun hHeldN => ?_)
    clear hK K hHeld
    have hHeld := hHeldN
    clear hHeldN
    (try simp only [Act.put, List.getElem_toArray, List.getElem_cons_zero, List.getElem_cons_succ, List.setIfInBounds_toArray, List.set_cons_zero, List.set_cons_succ])
    refine wpAnyH_take (i := 21) (v := ?_) rfl (by kernel_rfl) (by kernel_rfl) (by kernel_rfl) (fun _ _ _ h => h) (Or.inl ⟨by rfl, ?_⟩) (by assumption) ?_
    rotate_left
    · simp only [List.getElem_toArray, List.getElem_cons_zero, List.getElem_cons_succ]; intro W hSw; (try dsimp only at hSw); go_simp; all_goals with_reducible rfl
    simp only [Act.put, List.getElem_toArray, List.getElem_cons_zero, List.getElem_cons_succ, List.setIfInBounds_toArray, List.set_cons_zero, List.set_cons_succ]
    refine wpAnyH_take (i := 22) (v := ?_) rfl (by kernel_rfl) (by kernel_rfl) (by kernel_rfl) (fun _ _ _ h => h) (Or.inl ⟨by rfl, ?_⟩) (by assumption) ?_
    rotate_left
    · simp only [List.getElem_toArray, List.getElem_cons_zero, List.getElem_cons_succ]; intro W hSw; (try dsimp only at hSw); go_simp; all_goals with_reducible rfl
    simp only [Act.put, List.getElem_toArray, List.getElem_cons_zero, List.getElem_cons_succ, List.setIfInBounds_toArray, List.set_cons_zero, List.set_cons_succ]
    refine wpAnyH_ready (rs := [24]) (by kernel_rfl) (by simp) ?_
    refine AllReadyH.cons rfl (fun K hK => ?_) AllReadyH.nil
    simp only [List.getElem_toArray, List.getElem_cons_zero, List.getElem_cons_succ]
    (try rw [HDA.out])
    rw [if_pos (by rfl)]
    refine wp_store_part 25 (.tmp 7) (.tmp 52) rfl w1.heap.size 0 rfl [.int .i64 (n0 : Nat), .int .i64 (n1 : Nat), .int .i64 (q : Nat), .int .i64 (r : Nat), .int .u32 (n4 : Nat), .slice none 0 0] (by rfl) 25 [] [.int .i64 0, .int .i64 0, .int .i64 0, .int .i64 0, .int .u32 0, .slice none 0 0] [] HRow.out rfl rfl Tryd.sizeF (by simp [Value.oneCell']) ?_
    (try simp only [List.nil_append, List.append_nil])
    rw [← HW2.out]
    refine hK.out _ _ (H29.out) (fun hHeldN => ?_)
    clear hK K hHeld
    have hHeld := hHeldN
    clear hHeldN
    (try simp only [Act.put, List.getElem_toArray, List.getElem_cons_zero, List.getElem_cons_succ, List.setIfInBounds_toArray, List.set_cons_zero, List.set_cons_succ])
    refine wpAnyH_done (by kernel_rfl) ?_ _
    clear hHeld HRow HDA HW2 HE9 HE HD
    have c5 : ∀ W, Below w2.heap.size w2 W → W.cell? ⟨w1.heap.size, 5, none⟩ = some (.slice none 0 0) := fun W hW => by
      rw [cell_of_row W _ 5 _ _ _ ((hW.block w1.heap.size (by have := HR2z.out; omega)).trans HR2.out)]
      rfl
    have HC5 := Lib.hid c5
    clear c5
    go_wp2_with fail
    have hc5 := HC5.out _ (Below.refl _ _).drew
    refine wp_region_held_drew (S := fun _ => True) (by kernel_rfl) trivial (fun hHeld => ?_)
    refine wpAnyH_take (i := 0) (v := ?_) rfl (by kernel_rfl) (by kernel_rfl) (by kernel_rfl) (fun _ _ _ h => h) (Or.inl ⟨by rfl, ?_⟩) (by assumption) ?_
    rotate_left
    · simp only [List.getElem_toArray, List.getElem_cons_zero, List.getElem_cons_succ]; intro W hSw; (try dsimp only at hSw); go_simp; all_goals with_reducible rfl
    simp only [Act.put, List.getElem_toArray, List.getElem_cons_zero, List.getElem_cons_succ, List.setIfInBounds_toArray, List.set_cons_zero, List.set_cons_succ]
    refine wpAnyH_take (i := 2) (v := ?_) rfl (by kernel_rfl) (by kernel_rfl) (by kernel_rfl) (fun _ _ _ h => h) (Or.inl ⟨by rfl, ?_⟩) (by assumption) ?_
    rotate_left
    · simp only [List.getElem_toArray, List.getElem_cons_zero, List.getElem_cons_succ]; intro W hSw; (try dsimp only at hSw); go_simp; all_goals with_reducible rfl
    simp only [Act.put, List.getElem_toArray, List.getElem_cons_zero, List.getElem_cons_succ, List.setIfInBounds_toArray, List.set_cons_zero, List.set_cons_succ]
    refine wpAnyH_take (i := 3) (v := ?_) rfl (by kernel_rfl) (by kernel_rfl) (by kernel_rfl) (fun _ _ _ h => h) (Or.inl ⟨by rfl, ?_⟩) (by assumption) ?_
    rotate_left
    · simp only [List.getElem_toArray, List.getElem_cons_zero, List.getElem_cons_succ]; intro W hSw; (try dsimp only at hSw); go_simp; all_goals with_reducible rfl
    simp only [Act.put, List.getElem_toArray, List.getElem_cons_zero, List.getElem_cons_succ, List.setIfInBounds_toArray, List.set_cons_zero, List.set_cons_succ]
    refine wpAnyH_take (i := 4) (v := ?_) rfl (by kernel_rfl) (by kernel_rfl) (by kernel_rfl) (fun _ _ _ h => h) (Or.inl ⟨by rfl, ?_⟩) (by assumption) ?_
    rotate_left
    · simp only [List.getElem_toArray, List.getElem_cons_zero, List.getElem_cons_succ]; intro W hSw; (try dsimp only at hSw); go_simp; all_goals with_reducible rfl
    simp only [Act.put, List.getElem_toArray, List.getElem_cons_zero, List.getElem_cons_succ, List.setIfInBounds_toArray, List.set_cons_zero, List.set_cons_succ]
    refine wpAnyH_take (i := 5) (v := ?_) rfl (by kernel_rfl) (by kernel_rfl) (by kernel_rfl) (fun _ _ _ h => h) (Or.inl ⟨by rfl, ?_⟩) (by assumption) ?_
    rotate_left
    · simp only [List.getElem_toArray, List.getElem_cons_zero, List.getElem_cons_succ]; intro W hSw; (try dsimp only at hSw); go_simp; all_goals with_reducible rfl
    simp only [Act.put, List.getElem_toArray, List.getElem_cons_zero, List.getElem_cons_succ, List.setIfInBounds_toArray, List.set_cons_zero, List.set_cons_succ]
    refine wpAnyH_ready (rs := [1]) (by kernel_rfl) (by simp) ?_
    refine AllReadyH.cons rfl (fun K hK => ?_) AllReadyH.nil
    simp only [List.getElem_toArray, List.getElem_cons_zero, List.getElem_cons_succ]
    go_simp
    refine hK.out _ _ (trivial) (fun hHeldN => ?_)
    clear hK K hHeld
    have hHeld := hHeldN
    clear hHeldN
    (try simp only [Act.put, List.getElem_toArray, List.getElem_cons_zero, List.getElem_cons_succ, List.setIfInBounds_toArray, List.set_cons_zero, List.set_cons_succ])
    clear hc5
    refine wpAnyH_ready (rs := [6]) (by kernel_rfl) (by simp) ?_
    refine AllReadyH.cons rfl (fun K hK => ?_) AllReadyH.nil
    simp only [List.getElem_toArray, List.getElem_cons_zero, List.getElem_cons_succ]
    obtain ⟨i0, hi, hz0, hz1, hz2⟩ := info_parts Tryd.info5
    have hyl := HYl.out.below HB2.out.drew (Nat.le_refl _)
    rw [if_pos (by rfl)]
    refine wp_append_own w2.drew (.tmp 54) (.tmp 58) 23 rfl w2.heap.size 5 i0 (.int .u8 0) 1 1 Tryd.underlying23 hi hz0 hz1 hz2 rfl (by decide) (.slice none 0 0) 0 [] (by rfl) (Own.nil_ _ _) ⟨g, 15, none⟩ n3 (cp - 15) (vals ld) (by rfl) (by rw [vals_length, HLl.out, Nat.mul_one]) (hyl.vals _ rfl) vals_one (by unfold maxLen; omega) (by omega) (Nat.le_refl _) ?_
    intro v3 w3 hown hgr _
    clear hi hz0 hz1 hz2 hyl
    have hO3 : Own w3 w2.heap.size ld v3 := by
      unfold Own
      rw [HLl.out]
      simpa using hown
    have hB3 : Below w2.heap.size w2 w3 := (Below.refl _ _).drew.grown hgr (Nat.le_refl _) (fun k e => by cases e)
    obtain ⟨A3, c3, rfl, hy3, hc31, hc32, hc33⟩ := hO3.slice_ HYl.out.1
    have HB3 := Lib.hid hB3
    have HY3 := Lib.hid hy3
    have HO3 := Lib.hid (own_ge hO3)
    have HC3 := Lib.hid (And.intro hc31 (And.intro hc32 hc33))
    clear hown hgr hO3 hB3 hy3 hc31 hc32 hc33
    refine hK.out _ _ (trivial) (fun hHeldN => ?_)
    clear hK K hHeld
    have hHeld := hHeldN
    clear hHeldN
    (try simp only [Act.put, List.getElem_toArray, List.getElem_cons_zero, List.getElem_cons_succ, List.setIfInBounds_toArray, List.set_cons_zero, List.set_cons_succ])
    refine wpAnyH_take (i := 7) (v := ?_) rfl (by kernel_rfl) (by kernel_rfl) (by kernel_rfl) (fun _ _ _ h => h) (Or.inl ⟨by rfl, ?_⟩) (by assumption) ?_
    rotate_left
    · simp only [List.getElem_toArray, List.getElem_cons_zero, List.getElem_cons_succ]; intro W hSw; (try dsimp only at hSw); go_simp; all_goals with_reducible rfl
    simp only [Act.put, List.getElem_toArray, List.getElem_cons_zero, List.getElem_cons_succ, List.setIfInBounds_toArray, List.set_cons_zero, List.set_cons_succ]
    refine wpAnyH_ready (rs := [8]) (by kernel_rfl) (by simp) ?_
    refine AllReadyH.cons rfl (fun K hK => ?_) AllReadyH.nil
    simp only [List.getElem_toArray, List.getElem_cons_zero, List.getElem_cons_succ]
    have H5 := (HB3.out.block w1.heap.size (by have := HR2z.out; omega)).trans HR2.out
    have hcell := HC5.out _ HB3.out
    have hfr := frozen_of_row w3 w1.heap.size 5 _ _ H5
    obtain ⟨w4, hw4⟩ : ∃ x, x = w3.setCell ⟨w1.heap.size, 5, none⟩ (.slice A3 ld.length c3) := ⟨_, rfl⟩
    have HR4 := Lib.hid (show w4.heap[w1.heap.size]? = some (.cells (frv A3 c3 F).toArray 25 (0, 0)) by rw [hw4, HFq.out]; exact heap_setCell_same w3 w1.heap.size 5 _ _ (.slice A3 ld.length c3) H5)
    have hB4 : Below w1.heap.size w1 w4 := by rw [hw4]; exact (HB2.out.trans (HB3.out.mono HB2.out.size)).setCell (p := ⟨w1.heap.size, 5, none⟩) (Nat.le_refl _) _
    have HB4 := Lib.hid hB4
    have HZ4 := Lib.hid (show w4.heap.size = w3.heap.size by rw [hw4]; simp [World.setCell])
    have hy4 : By w4 w4.heap.size A3 ld := by
      rw [HZ4.out]
      refine HY3.out.off_row (Nat.le_refl _) H5 (by intro u hu n e; subst e; simp at hu) ?_
      rw [hw4]; exact only_set (only_refl _ _) _
    have HV4 := Lib.hid (show FrV w4 w4.heap.size (frv A3 c3 F) F from ⟨A3, c3, rfl, by rw [HFq.out]; exact hy4, by rw [HFq.out]; exact HC3.out.1, HC3.out.2.1, HC3.out.2.2, HFi.out⟩)
    have HW4 := Lib.hid hw4
    clear hw4 hB4 hy4
    go_simp
    rw [← HW4.out]
    refine hK.out _ _ (trivial) (fun hHeldN => ?_)
    clear hK K hHeld
    have hHeld := hHeldN
    clear hHeldN
    (try simp only [Act.put, List.getElem_toArray, List.getElem_cons_zero, List.getElem_cons_succ, List.setIfInBounds_toArray, List.set_cons_zero, List.set_cons_succ])
    refine wpAnyH_done (by kernel_rfl) ?_ _
    clear HC5 H5 hcell hfr HW4 HR2 HR2z HB2 HFq hHeld
    have hlt1 : w.heap.size < w1.heap.size := by have h := HBw.out.size; have := HGt.out; omega
    have HRz := Lib.hid ((HB4.out.block w.heap.size hlt1).trans HR.out)
    have HBz := Lib.hid (HBw.out.trans (HB4.out.mono HBw.out.size))
    obtain ⟨xs, hxs⟩ : ∃ xs, xs = frv A3 c3 F := ⟨_, rfl⟩
    have HXl := Lib.hid (show xs.length = 6 by rw [hxs]; rfl)
    have HX1 := Lib.hid (show ∀ v ∈ xs, v.oneCell' = true by rw [hxs]; exact frv_one _ _ _)
    rw [← hxs] at HR4
    have HX := Lib.hid hxs
    have HZ41 := Lib.hid (show w1.heap.size < w4.heap.size by
      rcases Nat.lt_or_ge w1.heap.size w4.heap.size with h | h
      · exact h
      · have h2 := HR4.out; rw [Array.getElem?_eq_none h] at h2; cases h2)
    have HX4 := Lib.hid (show ∀ W, Below w4.heap.size w4 W → ∀ j u, xs[j]? = some u → W.cell? ⟨w1.heap.size, 0 + j, none⟩ = some u from fun W hW j u hu => by
      rw [Nat.zero_add, cell_of_row W _ j _ _ _ ((hW.block w1.heap.size HZ41.out).trans HR4.out)]
      simpa using hu)
    have HI6 := Lib.hid (show (Tryd.prog.info? 25).map (·.size) = some xs.length by rw [HXl.out]; exact Tryd.sizeF)
    clear hxs hlt1
    go_wp2_with (first
      | (refine wpList_load_part rfl 25 (.tmp 7) rfl w1.heap.size 0 (by simp [Act.eval, Act.put]) xs _ (HX4.out _ (Below.refl _ _)) Tryd.underlying25 rfl HI6.out ?_)
      | fail)
    cases hm : mayB F with
    | false =>
      have HN := Lib.hid (show readOK bs = false by rw [HFm.out, hm]; rfl)
      have h := rbytes_no F A3 c3 w4 HV4.out hm
      rw [← HX.out] at h
      have HBn := Lib.hid h
      clear h hm HFm
      refine HBn.out.mono ?_
      rintro e w7 ⟨rfl, hb7⟩
      have HR := Lib.hid ((hb7.block w.heap.size (by have := HZ41.out; have := HBw.out.size; have := HGt.out; omega)).trans HRz.out)
      have HBw := Lib.hid (HBz.out.trans (hb7.mono HBz.out.size))
      clear hb7 HBn
      obtain ⟨w8, hw8⟩ : ∃ x, x = World.setRow w7 w.heap.size #[.int .i64 0, .int .i64 0, .int .i64 0, .int .i64 0, .int .u32 0, .slice none 0 0] := ⟨_, rfl⟩
      have HR8 := Lib.hid (show w8.heap[w.heap.size]? = some (.cells #[.int .i64 0, .int .i64 0, .int .i64 0, .int .i64 0, .int .u32 0, .slice none 0 0] 25 (0, 0)) by rw [hw8]; exact setRow_heap _ _ _ _ _ _ HR.out)
      have HB8 := Lib.hid (show Below w.heap.size w w8 by rw [hw8]; exact HBw.out.grown (grown_setRow w7 w.heap.size _) HBw.out.size (fun k e => by cases e; omega))
      have HW8 := Lib.hid hw8
      clear hw8
      go_wp2_with (first
        | (refine wpList_store_part rfl 25 (.tmp 2) (.tmp 75) rfl w.heap.size 0 (by simp [Act.eval, Act.put]) [.int .i64 0, .int .i64 0, .int .i64 0, .int .i64 0, .int .u32 0, .slice none 0 0] (by simp [Act.eval, Act.put]) 25 [] [.int .i64 0, .int .i64 0, .int .i64 0, .int .i64 0, .int .u32 0, .slice none 0 0] [] HR.out rfl rfl Tryd.sizeF (by decide) ?_))
      rw [← HW8.out]
      exact bodyPost_ret (results_cell_tmp (t := 25) (p := 2) (u := 3) rfl _ _ w.heap.size _ (0, 0) _ rfl HR8.out Tryd.underlying25 rfl Tryd.sizeF) rfl (ReadOut.no HN.out HB8.out)
    | true =>
      have h := rbytes_yes F A3 c3 w4 HV4.out hm
      rw [← HX.out] at h
      have HBn := Lib.hid h
      have HSb := Lib.hid (Crc.sealed_lt (secB_lt (f := F) HV4.out.fine.load))
      rw [hm, Bool.true_and] at HFm
      clear h hm
      refine HBn.out.mono ?_
      rintro e w7 ⟨v, rfl, hv⟩
      have hb7 := hv.2
      have k1 := hv.strAt HSb.out w7 (Below.refl _ _)
      have k2 := conv_str w7 ((HA.out.below (HBz.out.trans (hb7.mono HBz.out.size)) (Nat.le_refl _))) c
      rw [HL.out] at k2
      have HS := Lib.hid (str_beq HSb.out HBy.out)
      generalize Crc.sealed (secB F) = ys at *
      have HR := Lib.hid ((hb7.block w.heap.size (by have := HZ41.out; have := HBw.out.size; have := HGt.out; omega)).trans HRz.out)
      have HBw := Lib.hid (HBz.out.trans (hb7.mono HBz.out.size))
      have HF7 := Lib.hid (HV4.out.below hb7 (Nat.le_refl _))
      have HX7 := Lib.hid (HX4.out w7 hb7)
      have hlt7 : w4.heap.size ≤ w7.heap.size := hb7.size
      generalize str ys = sy at *
      generalize str bs = sb at *
      clear hv hb7 HBn
      cases hd : decide (ys = bs) with
      | false =>
        rw [hd] at HS HFm
        have HN := HFm
        have hq := HS.out
        clear hd HS HFm
        obtain ⟨w8, hw8⟩ : ∃ x, x = World.setRow w7 w.heap.size #[.int .i64 0, .int .i64 0, .int .i64 0, .int .i64 0, .int .u32 0, .slice none 0 0] := ⟨_, rfl⟩
        have HR8 := Lib.hid (show w8.heap[w.heap.size]? = some (.cells #[.int .i64 0, .int .i64 0, .int .i64 0, .int .i64 0, .int .u32 0, .slice none 0 0] 25 (0, 0)) by rw [hw8]; exact setRow_heap _ _ _ _ _ _ HR.out)
        have HB8 := Lib.hid (show Below w.heap.size w w8 by rw [hw8]; exact HBw.out.grown (grown_setRow w7 w.heap.size _) HBw.out.size (fun k e => by cases e; omega))
        have HW8 := Lib.hid hw8
        clear hw8
        go_wp2_with (first
          | (refine wpList_store_part rfl 25 (.tmp 2) (.tmp 75) rfl w.heap.size 0 (by simp [Act.eval, Act.put]) [.int .i64 0, .int .i64 0, .int .i64 0, .int .i64 0, .int .u32 0, .slice none 0 0] (by simp [Act.eval, Act.put]) 25 [] [.int .i64 0, .int .i64 0, .int .i64 0, .int .i64 0, .int .u32 0, .slice none 0 0] [] HR.out rfl rfl Tryd.sizeF (by decide) ?_))
        rw [← HW8.out]
        exact bodyPost_ret (results_cell_tmp (t := 25) (p := 2) (u := 3) rfl _ _ w.heap.size _ (0, 0) _ rfl HR8.out Tryd.underlying25 rfl Tryd.sizeF) rfl (ReadOut.no HN.out HB8.out)
      | true =>
        rw [hd] at HS HFm
        have HN := Lib.hid (HRF.out HFm.out)
        have hq := HS.out
        obtain ⟨w8, hw8⟩ : ∃ x, x = World.setRow w7 w.heap.size xs.toArray := ⟨_, rfl⟩
        have HR8 := Lib.hid (show w8.heap[w.heap.size]? = some (.cells xs.toArray 25 (0, 0)) by rw [hw8]; exact setRow_heap _ _ _ _ _ _ HR.out)
        have hg8 : w7.grownBy w8 (some w.heap.size) := by rw [hw8]; exact grown_setRow w7 w.heap.size _
        have HB8 := Lib.hid (HBw.out.grown hg8 HBw.out.size (fun k e => by cases e; omega))
        have hy8 := (HF7.out.load_by.off_row hlt7 HR.out (by intro u hu n e; subst e; simp at hu) hg8).mono (show w4.heap.size ≤ w8.heap.size by have := hg8.size; omega)
        have HF8 := Lib.hid (show FrV w8 w8.heap.size (frv A3 c3 F) F from ⟨A3, c3, rfl, hy8, HF7.out.load_le.1, HF7.out.load_le.2.1, HF7.out.load_le.2.2, HF7.out.fine⟩)
        have HW8 := Lib.hid hw8
        have HIz := Lib.hid (show (Tryd.prog.info? 25).map (·.size) = some xs.toArray.size by rw [List.size_toArray]; exact HI6.out)
        clear hw8 hd HFm hy8 hg8 HS
        go_wp2_with (first
          | (refine wpList_load_part rfl 25 (.tmp 7) rfl w1.heap.size 0 (by simp [Act.eval, Act.put]) xs _ HX7.out Tryd.underlying25 rfl HI6.out ?_)
          | (refine wpList_store_part rfl 25 (.tmp 2) (.tmp 76) rfl w.heap.size 0 (by simp [Act.eval, Act.put]) xs (by simp [Act.eval, Act.put]) 25 [] [.int .i64 0, .int .i64 0, .int .i64 0, .int .i64 0, .int .u32 0, .slice none 0 0] [] HR.out rfl ?_ HI6.out HX1.out ?_))
        · rw [HXl.out]; rfl
        rw [← HW8.out]
        refine bodyPost_ret (results_cell_tmp (t := 25) (p := 2) (u := 3) rfl _ _ w.heap.size _ (0, 0) _ rfl HR8.out Tryd.underlying25 rfl HIz.out) rfl ?_
        obtain ⟨e1, e2⟩ := HN.out
        unfold ReadOut
        rw [e1, e2, HX.out]
        exact ⟨A3, c3, rfl, HF8.out, HB8.out⟩
theorem rread_any (bs : List Nat) (A : Option Addr) (c : Nat) (w : World) (hl : bs.length ≤ 1000000000) (hA : By w w.heap.size A bs) (hc : bs.length ≤ c) :
    Calls Tryd.prog 10 #[.slice A bs.length c] w (ReadOut w bs) := by
  cases hs : Crc.isSealed bs with
  | false => exact rread_unsealed bs A c w hl hA hc hs
  | true =>
    by_cases h64 : bs.length = 64
    · by_cases h45 : nv bs 3 ≤ 45
      · exact rread_sector bs A c w hA hc hs h64 h45
      · exact rread_great bs A c w hA hc hs h64 (by omega)
    · exact rread_long bs A c w hl hA hc hs h64
end Go.Proofs.YtehkohnpfbdngaaDoor
