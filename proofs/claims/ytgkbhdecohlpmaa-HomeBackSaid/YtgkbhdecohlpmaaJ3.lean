/-
  Texts Seal, HDput, HDputs, HRow, HDread, HDblk, Get, HDsup, HDstand, HDmax, HDget, joined.
-/
import Derived.Deep.RegionLawGrows
import Derived.Test.YtgkbhdecohlpmaaJ2
set_option linter.all false
section
/-
  Seal, by contract: a slice of its own.
-/
namespace Go.Proofs.Ytgkbhdecohlpmaa
set_option maxRecDepth 100000
open Go.RowKit

set_option maxHeartbeats 400000 in
theorem seal_any (bs : List Nat) (A : Option Addr) (c : Nat) (w : World) (hby : By w w.heap.size A bs) (hc : bs.length ≤ c) (hl : bs.length ≤ 1000000000) :
    Calls Try.prog 24 #[.slice A bs.length c] w fun e w' => ∃ v, e = .returned v ∧ New w w' (Crc.sealed bs) v := by
  have hs := Crc.sum_lt hby.1
  have H1 := Lib.hid (sum_any bs A c w hby (by unfold maxLen; omega))
  have HE := Lib.hid (show Crc.sealed bs = bs ++ Crc.tail (Crc.sum bs) from rfl)
  generalize Crc.sum bs = s at *
  go_enter Try.func24, Try.ntmps24
  go_wp2_with fail
  refine H1.out.mono ?_
  rintro e w1 ⟨rfl, hw1⟩
  go_wp2_with fail
  refine (lowest_any s hs _).mono ?_
  rintro e w2 ⟨rfl, hw2⟩
  have H0 := Lib.hid (heap_alloc_new w2 (.cells #[.int .u8 0, .int .u8 0, .int .u8 0, .int .u8 0] 92))
  have HI := Lib.hid (show (Try.prog.info? 92).map (·.size) = some (four s).size by rw [four_size]; kernel_rfl)
  have HO := Lib.hid (show (#[Value.int .u8 0, .int .u8 0, .int .u8 0, .int .u8 0] : Array Value).size = (four s).size from rfl)
  have H4 := Lib.hid (four_one s)
  go_wp2_with ((refine wpList_store_row rfl 92 _ _ rfl w2.heap.size (four s) rfl rfl 92 _ H0.out HI.out HO.out H4.out ?_))
  have h3 := setRow_heap _ _ _ (four s) _ _ H0.out
  have hB := below_setRow (((hw1.trans (hw2.mono hw1.size))).alloc (Nat.le_trans hw1.size hw2.size) (.cells #[.int .u8 0, .int .u8 0, .int .u8 0, .int .u8 0] 92)) (Nat.le_trans hw1.size hw2.size) (four s)
  generalize (w2.alloc (.cells #[.int .u8 0, .int .u8 0, .int .u8 0, .int .u8 0] 92)).setRow w2.heap.size (four s) = w3 at h3 hB ⊢
  generalize w2.heap.size = g at h3 ⊢
  have hby3 := hby.below hB (Nat.le_refl _)
  clear H0 HI HO H4 hw1 hw2 H1 hby
  obtain ⟨i0, hi, hz0, hz1, hz2⟩ := info_parts Try.info5
  have s1 := Lib.hid (show A = none → bs.length = 0 ∧ bs.length = 0 from hby3.of_none)
  have s2 := Lib.hid (show (vals bs).length = bs.length * 1 by rw [vals_length, Nat.mul_one])
  have s3 := Lib.hid hby3.vals
  have s4 := Lib.hid (show (vals (Crc.tail s)).length = 4 * 1 from rfl)
  have s5 : Hid (∀ j u, (vals (Crc.tail s))[j]? = some u → w3.cell? ((⟨g, 0, none⟩ : Addr).add j) = some u) := fun j u hu => by
    rw [add_flat, Nat.zero_add, cell_of_row w3 g j _ _ _ h3]; simpa [four] using hu
  have s6 := Lib.hid (vals_one (bs := Crc.tail s))
  go_region_law (refine step_append_grows rfl (.tmp 12) (.tmp 13) 44 rfl 5 i0 (.int .u8 0) 1 1 Try.underlying44 hi hz0 hz1 hz2 rfl (by decide) A bs.length bs.length (vals bs) (by simp [Act.eval, Act.put]) s1.out s2.out s3.out ⟨g, 0, none⟩ 4 4 (vals (Crc.tail s)) (by simp [Act.eval, Act.put]) s4.out s5.out s6.out (by omega) (by unfold maxLen; omega) (by omega) ?_; intro v' w4 hown hgrow)
  go_wp2
  go_ret
  refine ⟨v', rfl, ?_, ?_⟩
  · rw [HE.out, vals_append, List.length_append]
    exact own_mono hown hB.size
  · exact grown_below hB.drew hgrow
end Go.Proofs.Ytgkbhdecohlpmaa
end

section
/-
  The developers' answers: a home put, a superblock put.
-/
namespace Go.Proofs.Ytgkbhdecohlpmaa
set_option maxRecDepth 100000
open Go.RowKit
set_option maxRecDepth 100000

theorem goes_afterH {w w8 w' : World} {S : Nat → Prop} {a : Nat} {d' : Dk.Dk} (hb : Below w.heap.size w w8) (hg : Dk.Goes w8 w' S a d') : Dk.Goes w w' S a d' := by
  obtain ⟨S', h1, h2, h3⟩ := hg
  refine ⟨S', h1, (Dk.Kept.of_below hb (Nat.le_refl _)).trans h2 (fun i _ hs => hs), fun k hk => ?_⟩
  rcases h3 k hk with h | h
  · exact Or.inl h
  · exact Or.inr (Nat.le_trans hb.size h)
theorem put_nil_dev : PutHNil := by
  intro z n A c w hn
  go_enter Try.func8, Try.ntmps8
  go_wp2
  go_ret
  exact ⟨rfl, Below.refl _ _⟩
theorem write_home {w : World} {S : Nat → Prop} {a : Nat} {d : Dk.Dk} (h : Dk.Disk w S a d) (hd : d.down = false) (hf : Few d) (n : Nat) (hn : n < 34) (A : Option Addr) (bs : List Nat) (c : Nat) (hA : By w w.heap.size A bs) (hl : bs.length ≤ 64) :
    Calls Try.prog 19 #[.pointer (some ⟨a, 0, none⟩), .int .i64 (n : Int), .slice A bs.length c] w fun e w' => e = .returned (.int .i64 0) ∧ Dk.Goes w w' S a (d.write n bs) :=
  Dk.write_ok h hd hn hA hl (Nat.le_trans (hf n hn) (by omega))
set_option maxHeartbeats 1000000 in
theorem put_dev : PutHSays := by
  intro w S a d z l A c h hd hf hv hy hlc hc hz
  have HSt := Lib.hid (fun W => stripe_dev z W)
  by_cases hs : 0 ≤ z ∧ z < 8
  · have hst : strH z = true := decide_eq_true hs
    rw [hst] at HSt
    obtain ⟨n, rfl⟩ : ∃ n : Nat, z = (n : Int) := ⟨z.toNat, by omega⟩
    by_cases h4 : l.length = 4
    · have hE : putHE (n : Int) l.length = 0 := if_pos ⟨by omega, by omega, h4⟩
      have hP : putD d (n : Int) l = d.write (26 + n) (homeB l) := by unfold putD; rw [if_pos hE]; rfl
      rw [hE, hP, h4]
      have HJ := Lib.hid (fun W hW => joinV_dev l A c W hv hW h4)
      have hfl : l.flatten.length = 32 := by rw [flat_len8 l fun v hx => (hv v hx).1, h4]
      have hlt : ∀ x ∈ l.flatten, x < 256 := hy.1
      have HSl := Lib.hid (fun A c W (hW : By W W.heap.size A l.flatten) (hc : l.flatten.length ≤ c) => seal_any l.flatten A c W hW hc (by omega))
      have hsl : (Crc.sealed l.flatten).length = 36 := by rw [Crc.sealed_length, hfl]
      have hslt := Crc.sealed_lt hlt
      have HWr := Lib.hid (fun W (hW : Below w.heap.size w W) A c (hA : By W W.heap.size A (Crc.sealed l.flatten)) => write_home (h.below hW (Nat.le_refl _)) hd hf (26 + n) (by omega) A (Crc.sealed l.flatten) c hA (by omega))
      rw [show ((26 + n : Nat) : Int) = 26 + (n : Int) by omega] at HWr
      unfold homeB
      have HY := Lib.hid hy
      have HL := Lib.hid hlt
      have HL2 := Lib.hid hslt
      have hn8 : (n : Int) < 8 := by omega
      have hn0 : (0 : Int) ≤ (n : Int) := by omega
      have hw : IntKind.i64.wrap (26 + (n : Int)) = 26 + (n : Int) := by rw [IntKind.wrap_i64]; omega
      generalize Crc.sealed l.flatten = sb at *
      generalize l.flatten = fb at *
      clear h hd hf hv hy hlc hc hz hs hst hE hP hfl hlt hslt h4 hsl
      go_enter Try.func8, Try.ntmps8
      go_wp2_with (fail)
      refine (HSt.out _).mono ?_
      rintro e w1 ⟨rfl, rfl⟩
      go_wp2_with (fail)
      refine (HJ.out _ HY.out).mono ?_
      rintro e w2 ⟨v, rfl, hv2⟩
      have HB2 := Lib.hid hv2.2
      obtain ⟨A2, c2, rfl, hy2, hl2, _⟩ := New.slice hv2 HL.out
      have HY2 := Lib.hid hy2
      clear hv2 hy2
      go_wp2_with (fail)
      refine (HSl.out _ _ _ HY2.out hl2).mono ?_
      rintro e w3 ⟨v3, rfl, hv3⟩
      have HB3 := Lib.hid (HB2.out.trans (hv3.2.mono HB2.out.size))
      obtain ⟨A3, c3, rfl, hy3, hl3, _⟩ := New.slice hv3 HL2.out
      have HY3 := Lib.hid hy3
      clear hv3 hy3
      go_wp2_with (fail)
      refine (HWr.out _ HB3.out _ _ HY3.out).mono ?_
      rintro e w4 ⟨rfl, hg4⟩
      have HG := Lib.hid (goes_afterH HB3.out hg4)
      clear hg4
      go_wp2
      go_ret
      exact ⟨rfl, HG.out⟩
    · have hE : putHE (n : Int) l.length = 2 := if_neg fun h => h4 h.2.2
      have hP : putD d (n : Int) l = d := by unfold putD; rw [hE]; rfl
      rw [hE, hP]
      have HD := Lib.hid (Dk.Goes.same h (Below.refl w.heap.size w))
      clear hE hP h hy hlc
      generalize l.length = m at *
      have q1 : ((m : Int) == 4) = false := by simp; omega
      have q2 : ((m : Int) != 4) = true := by simp; omega
      clear hs hst h4 hz
      go_enter Try.func8, Try.ntmps8
      go_wp2_with (fail)
      refine (HSt.out _).mono ?_
      rintro e w1 ⟨rfl, rfl⟩
      go_wp2
      go_ret
      exact ⟨rfl, HD.out⟩
  · have hst : strH z = false := decide_eq_false hs
    rw [hst] at HSt
    have hE : putHE z l.length = 2 := if_neg fun h => hs ⟨h.1, h.2.1⟩
    have hP : putD d z l = d := by unfold putD; rw [hE]; rfl
    rw [hE, hP]
    have HD := Lib.hid (Dk.Goes.same h (Below.refl w.heap.size w))
    clear hE hP h hy hlc
    generalize l.length = m at *
    clear hs hst hz
    go_enter Try.func8, Try.ntmps8
    go_wp2_with (fail)
    refine (HSt.out _).mono ?_
    rintro e w1 ⟨rfl, rfl⟩
    go_wp2
    go_ret
    exact ⟨rfl, HD.out⟩
end Go.Proofs.Ytgkbhdecohlpmaa
end

section
/-
  The developers' answers: a superblock put.
-/
namespace Go.Proofs.Ytgkbhdecohlpmaa
set_option maxRecDepth 100000
open Go.RowKit
set_option maxRecDepth 100000

theorem super_info : (Try.prog.info? 25).map (·.size) = some (13 : Nat) := by kernel_rfl
theorem cells_all {s : Sup} : s.cells.all (·.oneCell') = true := by
  unfold Sup.cells
  rw [Array.all_eq_true_iff_forall_mem]
  intro u hu
  simp only [List.mem_toArray, List.mem_map] at hu
  obtain ⟨z, _, rfl⟩ := hu
  rfl
theorem puts_nil_dev : PutSNil := by
  intro s w hf
  generalize s.cells = cs
  go_enter Try.func12, Try.ntmps12
  go_wp2
  go_ret
  exact ⟨rfl, (Below.refl _ _).alloc (Nat.le_refl _) _⟩
set_option maxHeartbeats 2000000 in
theorem puts_dev : PutSSays := by
  intro w S a d s h hd hf hs
  obtain ⟨cs, hcs⟩ : ∃ cs, cs = s.cells := ⟨_, rfl⟩
  have HI := Lib.hid (show (Try.prog.info? 25).map (·.size) = some cs.size by rw [super_info, hcs, cells_len hs])
  have HM := Lib.hid (fun W => mayH_dev s W hs)
  rw [← hcs] at HM ⊢
  obtain ⟨w1, hw1⟩ : ∃ w1, w1 = w.alloc (.cells cs 25) := ⟨_, rfl⟩
  have hs1 : w1.heap.size = w.heap.size + 1 := by rw [hw1]; simp
  have hb1 : Below w.heap.size w w1 := by rw [hw1]; exact (Below.refl _ w).alloc (Nat.le_refl _) _
  have hin : SupIn w1 w.heap.size s := by unfold SupIn; rw [hw1, hcs]; exact heap_alloc_new w _
  have HRow := Lib.hid (show w1.heap[w.heap.size]? = some (.cells cs 25 (0, 0)) by rw [hw1]; exact heap_alloc_new w _)
  have HB1 := Lib.hid hb1
  have HS1 := Lib.hid hs1
  have HIn := Lib.hid (fun W (hW : Below w1.heap.size w1 W) => hin.below hW (by omega))
  have HW1 := Lib.hid hw1
  clear hw1 hs1 hb1 hin
  by_cases hm : mayP s
  · have hP : putSD d s = d.write (s.gen % 2).toNat (Crc.sealed (supB s)) := if_pos hm
    rw [hP, if_pos hm]
    rw [decide_eq_true hm] at HM
    have hg0 : 0 ≤ s.gen := hm.1.1
    have HN := Lib.hid (fun W (hW : Below w1.heap.size w1 W) => numbers_dev w.heap.size W (HIn.out W hW).lt)
    have HJ := Lib.hid (fun W (hW : Below w1.heap.size w1 W) b off c (hat : NumsAt W w.heap.size b off) (hb : b < W.heap.size) => joinN_dev s hs hm w.heap.size b off c W (HIn.out W hW) hat hb)
    have HPl := Lib.hid (fun W => place_dev s W hs hg0)
    rw [← hcs] at HPl
    have hsl : (supB s).length = 27 := supB_len hs.1
    have HSl := Lib.hid (fun A c W (hW : By W W.heap.size A (supB s)) (hc : (supB s).length ≤ c) => seal_any (supB s) A c W hW hc (by omega))
    have HL := Lib.hid (supB_lt s)
    have HL2 := Lib.hid (Crc.sealed_lt (supB_lt s))
    have hl2 : (Crc.sealed (supB s)).length = 31 := by rw [Crc.sealed_length, hsl]
    have hp2 : (((s.gen % 2).toNat : Nat) : Int) = s.gen % 2 := Int.toNat_of_nonneg (by omega)
    have HWr := Lib.hid (fun W (hW : Below w.heap.size w W) A c (hA : By W W.heap.size A (Crc.sealed (supB s))) => write_home (h.below hW (Nat.le_refl _)) hd hf (s.gen % 2).toNat (by omega) A (Crc.sealed (supB s)) c hA (by omega))
    rw [hp2] at HWr
    generalize Crc.sealed (supB s) = sb at *
    generalize supB s = fb at *
    generalize (s.gen % 2).toNat = pn at *
    generalize s.gen % 2 = pz at *
    clear h hd hf hs hcs hP hg0 hsl hl2 hp2 hm
    go_enter Try.func12, Try.ntmps12
    go_wp2_with (first | (rw [← HW1.out]) | (refine wpList_load_row rfl 25 _ rfl w.heap.size rfl 25 cs (0, 0) _ HRow.out Try.underlying25 rfl HI.out ?_))
    refine (HM.out _).mono ?_
    rintro e w2 ⟨rfl, hb2⟩
    have HB2 := Lib.hid hb2
    clear hb2
    have R2 := Lib.hid ((HB2.out.block _ (by have := HS1.out; omega)).trans HRow.out)
    go_wp2_with (fail)
    refine (HN.out _ HB2.out).mono ?_
    rintro e w3 ⟨v, rfl, hv, hb3⟩
    have HB3 := Lib.hid (HB2.out.trans (hb3.mono HB2.out.size))
    obtain ⟨b, off, c, rfl, _, hbl, _, _, hat⟩ := nums_at hv
    have HAt := Lib.hid hat
    clear hv hb3 hat
    go_wp2_with (fail)
    refine (HJ.out _ HB3.out _ _ _ HAt.out hbl).mono ?_
    rintro e w4 ⟨v, rfl, hv⟩
    have HB4 := Lib.hid (HB3.out.trans (hv.2.mono HB3.out.size))
    obtain ⟨A4, c4, rfl, hy4, hl4, _⟩ := New.slice hv HL.out
    have HY4 := Lib.hid hy4
    have HL4 := Lib.hid hl4
    have R4 := Lib.hid ((HB4.out.block _ (by have := HS1.out; omega)).trans HRow.out)
    clear hv hy4 hl4
    go_wp2_with (refine wpList_load_row rfl 25 _ rfl w.heap.size rfl 25 cs (0, 0) _ R4.out Try.underlying25 rfl HI.out ?_)
    refine (HPl.out _).mono ?_
    rintro e w5 ⟨rfl, hb5⟩
    have HB5 := Lib.hid (HB4.out.trans (hb5.mono HB4.out.size))
    have HY5 := Lib.hid ((HY4.out.below hb5 (Nat.le_refl _)).mono hb5.size)
    clear hb5
    go_wp2_with (fail)
    refine (HSl.out _ _ _ HY5.out HL4.out).mono ?_
    rintro e w6 ⟨v, rfl, hv⟩
    have HB6 := Lib.hid (HB1.out.trans ((HB5.out.trans (hv.2.mono HB5.out.size)).mono HB1.out.size))
    obtain ⟨A6, c6, rfl, hy6, hl6, _⟩ := New.slice hv HL2.out
    have HY6 := Lib.hid hy6
    clear hv hy6
    go_wp2_with (fail)
    refine (HWr.out _ HB6.out _ _ HY6.out).mono ?_
    rintro e w7 ⟨rfl, hg7⟩
    have HG := Lib.hid (goes_afterH HB6.out hg7)
    clear hg7
    go_wp2
    go_ret
    exact ⟨rfl, HG.out⟩
  · have hP : putSD d s = d := if_neg hm
    rw [hP, if_neg hm]
    rw [decide_eq_false hm] at HM
    have HD := Lib.hid h
    clear h hm hP hcs
    go_enter Try.func12, Try.ntmps12
    go_wp2_with (first | (rw [← HW1.out]) | (refine wpList_load_row rfl 25 _ rfl w.heap.size rfl 25 cs (0, 0) _ HRow.out Try.underlying25 rfl HI.out ?_))
    refine (HM.out _).mono ?_
    rintro e w2 ⟨rfl, hb2⟩
    have HB2 := Lib.hid hb2
    clear hb2
    go_wp2
    go_ret
    exact ⟨rfl, Dk.Goes.same HD.out (HB1.out.trans (HB2.out.mono HB1.out.size))⟩
end Go.Proofs.Ytgkbhdecohlpmaa
end

section
/-
  Read's bytes as a row of their own, that may be written to.
-/
namespace Go.Proofs.Ytgkbhdecohlpmaa
set_option maxRecDepth 100000
open Go.RowKit Dk
set_option maxRecDepth 100000

set_option maxHeartbeats 400000 in
theorem read_row {w : World} {S : Nat → Prop} {a : Nat} {d : Dk.Dk} (h : Disk w S a d) (hd : d.down = false) {n : Nat} (hn : n < 34) : Calls Try.prog 18 #[.pointer (some ⟨a, 0, none⟩), .int .i64 (n : Int)] w fun e w' =>
    ∃ g, e = .returned (.tuple #[.slice (some ⟨g, 0, none⟩) 64 64, .int .i64 0]) ∧ (w.heap.size ≤ g ∧ g < w'.heap.size) ∧ w'.heap[g]? = some (.cells (vals (d.newest n)).toArray 55 (0, 0)) ∧ Below w.heap.size w w' := by
  have hs := h.newest_sec hn
  have HR := Lib.hid (refuses_any h)
  have HN := Lib.hid (sector_any (n : Int) w)
  rw [decide_eq_true (by omega)] at HN
  rw [hd] at HR
  have HW := Lib.hid (newest_any h hn)
  obtain ⟨Z, hZ, hz⟩ : ∃ Z, (Try.prog.info? 55).map (·.zero) = some (some (.agg Z)) ∧ Z = (vals (List.replicate 64 0)).toArray := ⟨_, sector_zero, rfl⟩
  have HS := Lib.hid (show Z.size = (vals (d.newest n)).toArray.size by rw [hz]; simp [vals_length, hs.1])
  have HZ := Lib.hid hZ
  have HI := Lib.hid (show (Try.prog.info? 55).map (·.size) = some (vals (d.newest n)).toArray.size by rw [sector_size]; simp [vals_length, hs.1])
  have H1 := Lib.hid (show (vals (d.newest n)).toArray.all (·.oneCell') = true from Array.all_eq_true_iff_forall_mem.2 fun u hu => vals_one u (by simpa using hu))
  generalize d.newest n = bs at hs HW HS HI H1 ⊢
  clear h hd hZ hz
  go_enter Try.func18, Try.ntmps18
  go_wp2_with fail
  refine HR.out.mono ?_
  rintro e w' ⟨rfl, rfl⟩
  go_wp2_with fail
  refine HN.out.mono ?_
  rintro e w' ⟨rfl, rfl⟩
  go_wp2_with fail
  refine HW.out.mono ?_
  rintro e w1 ⟨rfl, hb1⟩
  unfold sval
  have hb2 := hb1.alloc hb1.size (.cells Z 55)
  have hg2 := heap_alloc_new w1 (.cells Z 55)
  have HG := Lib.hid hg2
  have hb3 := below_setRow hb2 hb1.size (vals bs).toArray
  have hg3 := setRow_heap (w1.alloc (.cells Z 55)) w1.heap.size Z (vals bs).toArray 55 _ hg2
  have HB := Lib.hid (And.intro (show w'.heap.size ≤ w1.heap.size ∧ w1.heap.size < ((w1.alloc (.cells Z 55)).setRow w1.heap.size (vals bs).toArray).heap.size from ⟨hb1.size, by simp⟩) (And.intro hg3 hb3))
  clear hb2 hg2 hb3 hg3
  go_wp2_with (first
    | (refine wpList_alloc_any rfl 55 rfl Z HZ.out ?_)
    | (refine wpList_store_row rfl 55 _ _ rfl w1.heap.size (vals bs).toArray rfl rfl 55 Z HG.out HI.out HS.out H1.out ?_))
  go_ret2
  exact ⟨_, rfl, HB.out.1, HB.out.2.1, HB.out.2.2⟩


theorem vals_set (bs : List Nat) (j z : Nat) : (vals bs).toArray.setIfInBounds j (.int .u8 (z : Int)) = (vals (bs.set j z)).toArray := by
  unfold vals
  rw [List.setIfInBounds_toArray, List.map_set]
theorem Held.set {w W : World} {S : Nat → Prop} {a : Nat} {d : Dk.Dk} (h : Held w W S a d []) {g : Nat} (hg : ¬ S g) (hw : w.heap.size ≤ g) (j : Nat) (u : Value) : Held w (W.setCell ⟨g, j, none⟩ u) S a d [] := by
  have hz : (W.setCell ⟨g, j, none⟩ u).heap.size = W.heap.size := by simp [World.setCell]
  refine Held.mk0 ⟨h.mine.disk.keep (fun k hk => Below.heap_setCell _ _ _ _ (fun e => hg (by rw [← show k = g from e]; exact hk))) (by omega), h.mine.new, h.mine.keeps.grown (grown_setCell W g j u) h.mine.keeps.size (fun k e => by cases e; exact hw)⟩
theorem at_tmod (z : Int) (hz : -9223372036854775808 ≤ z ∧ z ≤ 9223372036854775807) : ∃ i : Nat, i < 64 ∧ (wrap64 (z.tmod 64 + 64)).tmod 64 = (i : Int) := by
  have h1 : -64 < z.tmod 64 ∧ z.tmod 64 < 64 := by
    have := Int.tmod_lt_of_pos z (show (0 : Int) < 64 by omega)
    have := Int.lt_tmod_of_pos z (show (0 : Int) < 64 by omega)
    omega
  have h2 : wrap64 (z.tmod 64 + 64) = z.tmod 64 + 64 := by
    have := i64_wraps (z.tmod 64 + 64).toNat (by omega)
    rw [Int.toNat_of_nonneg (by omega), IntKind.wrap_i64] at this
    unfold wrap64
    omega
  rw [h2]
  have h3 := Int.tmod_nonneg (a := z.tmod 64 + 64) 64 (by omega)
  have h4 := Int.tmod_lt_of_pos (z.tmod 64 + 64) (show (0 : Int) < 64 by omega)
  exact ⟨((z.tmod 64 + 64).tmod 64).toNat, by omega, by omega⟩
end Go.Proofs.Ytgkbhdecohlpmaa
end

section
/-
  The developers' answers: a sector read; whether it is sealed; its blocks.
-/
namespace Go.Proofs.Ytgkbhdecohlpmaa
set_option maxRecDepth 100000
open Go.RowKit
set_option maxRecDepth 100000

theorem hsec_size : (Try.prog.info? 64).map (·.size) = some 64 := by kernel_rfl
theorem hsec_zero : (Try.prog.info? 64).map (·.zero) = some (some (.agg (vals (List.replicate 64 0)).toArray)) := by kernel_rfl
theorem vals_all (bs : List Nat) : (vals bs).toArray.all (·.oneCell') = true := Array.all_eq_true_iff_forall_mem.2 fun u hu => vals_one u (by simpa using hu)
theorem vals_size (bs : List Nat) : (vals bs).toArray.size = bs.length := by simp [vals_length]
theorem wpList_toArray {P : Program} {ops : Array Oper} {rest : List Oper} {o : Oper} {a : Act} {w : World} {Q : Exit → Act → World → Prop} (hgd : o.guard = none) (ty : TypeId) (x : Operand) (ho : o.op = .sliceToArrayPointer ty x)
    (n : Nat) (e : TypeId) (hu : P.underlying ty = some (.array n e)) (A : Option Addr) (l c : Nat) (hx : a.eval x = .slice A l c) (hl : n ≤ l)
    (h : wpList P ops Q rest (a.put o.dst (.pointer A)) w) : wpList P ops Q (o :: rest) a w := by
  refine wpList_plain hgd fun _ hK => wp_value (v := .pointer A) (w' := w) ?_ (hK _ _ h)
  have h2 : ¬ l < n := by omega
  unfold execOp
  simp [ho, hx, Instr.arrayAt, run_underlying hu, h2, Result.andThen]
set_option maxHeartbeats 1000000 in
theorem hread_dev {w : World} {S : Nat → Prop} {a : Nat} {d : Dk.Dk} (h : Dk.Disk w S a d) (hd : d.down = false) {n : Nat} (hn : n < 34) :
    Calls Try.prog 25 #[.pointer (some ⟨a, 0, none⟩), .int .i64 (n : Int)] w fun e w' => e = .returned (.tuple #[.agg (vals (d.newest n)).toArray, .int .i64 0]) ∧ Below w.heap.size w w' := by
  have hs := h.newest_sec hn
  have HR := Lib.hid (fun W (hW : Below w.heap.size w W) => read_row (h.below hW (Nat.le_refl _)) hd hn)
  generalize d.newest n = bs at *
  have HI := Lib.hid (show (Try.prog.info? 64).map (·.size) = some (vals bs).toArray.size by rw [hsec_size, vals_size, hs.1])
  have HA := Lib.hid (vals_all bs)
  obtain ⟨Z, hZ⟩ : ∃ Z, Z = (vals (List.replicate 64 0)).toArray := ⟨_, rfl⟩
  have HZ := Lib.hid (show (Try.prog.info? 64).map (·.zero) = some (some (.agg Z)) by rw [hZ]; exact hsec_zero)
  have HSz := Lib.hid (show Z.size = (vals bs).toArray.size by rw [hZ, vals_size, vals_size, hs.1]; simp)
  obtain ⟨w1, hw1⟩ : ∃ w1, w1 = w.alloc (.cells Z 64) := ⟨_, rfl⟩
  have hs1 : w1.heap.size = w.heap.size + 1 := by rw [hw1]; simp
  have HB1 := Lib.hid (show Below w.heap.size w w1 by rw [hw1]; exact (Below.refl _ w).alloc (Nat.le_refl _) _)
  have HG1 := Lib.hid (show w1.heap[w.heap.size]? = some (.cells Z 64 (0, 0)) by rw [hw1]; exact heap_alloc_new w _)
  have HW1 := Lib.hid hw1
  have HS1 := Lib.hid hs1
  clear h hd hs hZ hw1 hs1
  go_enter Try.func25, Try.ntmps25
  go_wp2_with (refine wpList_alloc_any rfl 64 rfl Z HZ.out ?_; rw [← HW1.out])
  refine (HR.out _ HB1.out).mono ?_
  rintro e w2 ⟨g, rfl, hg, hrow, hb2⟩
  have HR2 := Lib.hid hrow
  have HG2 := Lib.hid ((hb2.block _ (by have := HS1.out; omega)).trans HG1.out)
  have HB2 := Lib.hid (HB1.out.trans (hb2.mono HB1.out.size))
  clear hrow hb2 hg
  go_wp2_with (first
    | (refine wpList_toArray rfl 64 (.tmp 18) rfl 64 5 Try.underlying64 (some ⟨g, 0, none⟩) 64 64 rfl (by omega) ?_)
    | (refine wpList_load_row rfl 64 _ rfl g rfl 55 (vals bs).toArray (0, 0) _ HR2.out Try.underlying64 rfl HI.out ?_)
    | (refine wpList_store_row rfl 64 _ _ rfl w.heap.size (vals bs).toArray rfl rfl 64 Z HG2.out HI.out HSz.out HA.out ?_))
  exact bodyPost_ret (results_cell_tmp (t := 64) (p := 4) (u := 5) rfl _ _ w.heap.size (vals bs).toArray (0, 0) _ rfl (setRow_heap _ _ _ _ _ _ HG2.out) Try.underlying64 rfl HI.out) rfl ⟨rfl, below_setRow HB2.out (Nat.le_refl _) _⟩

/-- is a sector its first n bytes, sealed, and 0s? -/
def sealB (bs : List Nat) (n : Nat) : Bool := decide (bs = Dk.padded (Crc.sealed (bs.take n)))
theorem seal_open {bs : List Nat} {n : Nat} (hl : bs.length = 64) (hn : n + 4 ≤ 64) : sealB bs n = (openH bs n).isSome := by
  have ht : (bs.take n).length = n := by rw [List.length_take]; omega
  unfold sealB openH
  by_cases h : allZ (bs.drop (n + 4)) = true ∧ Crc.isSealed (bs.take (n + 4)) = true
  · rw [if_pos h]
    rw [Option.isSome_some, decide_eq_true_eq]
    obtain ⟨h1, h2⟩ := h
    unfold Crc.isSealed at h2
    rw [Bool.and_eq_true, decide_eq_true_eq, decide_eq_true_eq] at h2
    have hl4 : (bs.take (n + 4)).length = n + 4 := by rw [List.length_take]; omega
    rw [hl4, show n + 4 - 4 = n by omega, List.take_take, Nat.min_eq_left (by omega)] at h2
    have e1 : bs.take (n + 4) = Crc.sealed (bs.take n) := by
      unfold Crc.sealed
      rw [← h2.2]
      have := List.take_append_drop n (bs.take (n + 4))
      rw [List.take_take, Nat.min_eq_left (by omega)] at this
      exact this.symm
    have e2 : bs.drop (n + 4) = List.replicate (64 - (n + 4)) 0 := by
      rw [List.eq_replicate_iff]
      unfold allZ at h1
      rw [decide_eq_true_eq] at h1
      exact ⟨by rw [List.length_drop, hl], h1⟩
    unfold Dk.padded
    rw [← e1, hl4, ← e2, List.take_append_drop]
  · rw [if_neg h]
    show _ = false
    refine decide_eq_false fun e => h ?_
    have hsl : (Crc.sealed (bs.take n)).length = n + 4 := by rw [Crc.sealed_length, ht]
    have e1 : bs.take (n + 4) = Crc.sealed (bs.take n) := by
      conv => lhs; rw [e]
      unfold Dk.padded
      exact take_front hsl
    have e2 : bs.drop (n + 4) = List.replicate (64 - (n + 4)) 0 := by
      conv => lhs; rw [e]
      unfold Dk.padded
      rw [List.drop_append, List.drop_of_length_le (by omega), List.nil_append, hsl]
      simp
    refine ⟨?_, by rw [e1]; exact Crc.isSealed_sealed _⟩
    unfold allZ
    rw [decide_eq_true_eq, e2]
    exact fun x hx => (List.mem_replicate.1 hx).2
theorem pad_spliceH (bs : List Nat) (h : bs.length ≤ 64) : splice (vals (List.replicate 64 0)) 0 (vals bs) = vals (Dk.padded bs) := by
  unfold splice Dk.padded vals
  simp only [List.take_zero, List.nil_append, List.map_append, List.map_replicate, List.length_map, Nat.zero_add]
  rw [List.drop_replicate]
theorem size8H : (Try.prog.info? 5).map (·.size) = some 1 := by kernel_rfl
set_option maxHeartbeats 1000000 in
theorem sealed_dev (bs : List Nat) (n : Nat) (hb : Dk.Sec bs) (hn : n + 4 ≤ 64) (w : World) :
    Calls Try.prog 26 #[.agg (vals bs).toArray, .int .i64 (n : Int)] w fun e w' => e = .returned (.bool (sealB bs n)) ∧ Below w.heap.size w w' := by
  obtain ⟨Zl, hZl⟩ : ∃ Zl, Zl = vals (List.replicate 64 0) := ⟨_, rfl⟩
  obtain ⟨w1, hw1⟩ : ∃ w1, w1 = w.alloc (.cells (vals bs).toArray 64) := ⟨_, rfl⟩
  obtain ⟨w2, hw2⟩ : ∃ w2, w2 = w1.alloc (.cells Zl.toArray 64) := ⟨_, rfl⟩
  have hs1 : w1.heap.size = w.heap.size + 1 := by rw [hw1]; simp
  have hs2 : w2.heap.size = w1.heap.size + 1 := by rw [hw2]; simp
  have hb1 : Below w.heap.size w w1 := by rw [hw1]; exact (Below.refl _ w).alloc (Nat.le_refl _) _
  have hb2 : Below w1.heap.size w1 w2 := by rw [hw2]; exact (Below.refl _ w1).alloc (Nat.le_refl _) _
  have hg1 : w1.heap[w.heap.size]? = some (.cells (vals bs).toArray 64 (0, 0)) := by rw [hw1]; exact heap_alloc_new w _
  have hg2 : w2.heap[w.heap.size]? = some (.cells (vals bs).toArray 64 (0, 0)) := (hb2.block _ (by omega)).trans hg1
  have hz2 : w2.heap[w1.heap.size]? = some (.cells Zl.toArray 64 (0, 0)) := by rw [hw2]; exact heap_alloc_new w1 _
  have hyb : By w2 (w.heap.size + 1) (some ⟨w.heap.size, 0, none⟩) bs := By.of_row hg2 (by rw [List.take_of_length_le (by simp [vals_length])]) hb.2
  have hyn := (hyb.take n).mono (show w.heap.size + 1 ≤ w2.heap.size by omega)
  have htl : (bs.take n).length = n := by rw [List.length_take]; have := hb.1; omega
  have HSl := Lib.hid (fun W (hW : Below w2.heap.size w2 W) c (hc : n ≤ c) => show Calls Try.prog 24 #[.slice (some ⟨w.heap.size, 0, none⟩) n c] W fun e w' => ∃ v, e = .returned v ∧ New W w' (Crc.sealed (bs.take n)) v from by
    have := seal_any (bs.take n) (some ⟨w.heap.size, 0, none⟩) c W ((hyn.below hW (Nat.le_refl _)).mono hW.size) (by omega) (by omega)
    rwa [htl] at this)
  have hsl : (Crc.sealed (bs.take n)).length = n + 4 := by rw [Crc.sealed_length, htl]
  have HL := Lib.hid (Crc.sealed_lt (bs := bs.take n) fun x hx => hb.2 x (List.mem_of_mem_take hx))
  have HT_ := Lib.hid (show splice Zl 0 (vals (Crc.sealed (bs.take n))) = vals (Dk.padded (Crc.sealed (bs.take n))) by rw [hZl]; exact pad_spliceH _ (by omega))
  have hpl : (Dk.padded (Crc.sealed (bs.take n))).length = 64 := by unfold Dk.padded; rw [List.length_append, List.length_replicate, hsl]; omega
  obtain ⟨E, hE⟩ : ∃ E, E = sealB bs n := ⟨_, rfl⟩
  rw [← hE]
  unfold sealB at hE
  have HE := Lib.hid (fun W => show (binOp .eql 64 (.agg (vals bs).toArray) (.agg (vals (Dk.padded (Crc.sealed (bs.take n)))).toArray)).run Try.prog W = .ok (.bool E) W by
    rw [bytes_eq W 64 64 Try.underlying64 bs (Dk.padded (Crc.sealed (bs.take n))) hb.1 hpl, hE])
  have HIb := Lib.hid (show (Try.prog.info? 64).map (·.size) = some (vals bs).toArray.size by rw [hsec_size, vals_size, hb.1])
  have HIp := Lib.hid (show (Try.prog.info? 64).map (·.size) = some (vals (Dk.padded (Crc.sealed (bs.take n)))).toArray.size by rw [hsec_size, vals_size, hpl])
  have HZ := Lib.hid (show (Try.prog.info? 64).map (·.zero) = some (some (.agg Zl.toArray)) by rw [hZl]; exact hsec_zero)
  have HZl := Lib.hid (show Zl.length = 64 by rw [hZl]; simp [vals_length])
  generalize Dk.padded (Crc.sealed (bs.take n)) = pb at *
  generalize hsb : Crc.sealed (bs.take n) = sb at *
  have HSb := Lib.hid hsl
  have HVl := Lib.hid (vals_length sb)
  have HB1 := Lib.hid hb1
  have HB2 := Lib.hid (hb1.trans (hb2.mono hb1.size))
  have HG2 := Lib.hid hg2
  have HZ2 := Lib.hid hz2
  have HS1 := Lib.hid hs1
  have HS2 := Lib.hid hs2
  have HW1 := Lib.hid hw1
  have HW2 := Lib.hid hw2
  have hn64 : (n : Int) ≤ 64 := by omega
  have hn0 : (0 : Int) ≤ (n : Int) := by omega
  clear hb1 hb2 hs1 hs2 hw1 hw2 hg1 hg2 hz2 hyb hyn htl hsl hpl hE hb hsb hZl
  go_enter Try.func26, Try.ntmps26
  go_wp2_with (first | (rw [← HW1.out]) | (refine wpList_alloc_any rfl 64 rfl Zl.toArray HZ.out ?_; rw [← HW2.out]))
  refine wp_region_held_drew (S := fun _ => True) (by kernel_rfl) trivial (fun hHeld => ?_)
  refine wpAnyH_take (i := 0) (v := ?_) rfl (by kernel_rfl) (by kernel_rfl) (by kernel_rfl) (fun _ _ _ h => h) (Or.inl ⟨by rfl, ?_⟩) (by assumption) ?_
  rotate_left
  · simp only [List.getElem_toArray, List.getElem_cons_zero, List.getElem_cons_succ]; intro W hSw; (try dsimp only at hSw); go_simp; all_goals with_reducible rfl
  simp only [Act.put, List.getElem_toArray, List.getElem_cons_zero, List.getElem_cons_succ, List.setIfInBounds_toArray, List.set_cons_zero, List.set_cons_succ]
  refine wpAnyH_take (i := 1) (v := ?_) rfl (by kernel_rfl) (by kernel_rfl) (by kernel_rfl) (fun _ _ _ h => h) (Or.inl ⟨by rfl, ?_⟩) (by assumption) ?_
  rotate_left
  · simp only [List.getElem_toArray, List.getElem_cons_zero, List.getElem_cons_succ]; intro W hSw; (try dsimp only at hSw); go_simp; all_goals with_reducible rfl
  simp only [Act.put, List.getElem_toArray, List.getElem_cons_zero, List.getElem_cons_succ, List.setIfInBounds_toArray, List.set_cons_zero, List.set_cons_succ]
  refine wpAnyH_take (i := 2) (v := ?_) rfl (by kernel_rfl) (by kernel_rfl) (by kernel_rfl) (fun _ _ _ h => h) (Or.inl ⟨by rfl, ?_⟩) (by assumption) ?_
  rotate_left
  · simp only [List.getElem_toArray, List.getElem_cons_zero, List.getElem_cons_succ]; intro W hSw; (try dsimp only at hSw); go_simp; all_goals with_reducible rfl
  simp only [Act.put, List.getElem_toArray, List.getElem_cons_zero, List.getElem_cons_succ, List.setIfInBounds_toArray, List.set_cons_zero, List.set_cons_succ]
  refine wpAnyH_ready (rs := [3]) (by kernel_rfl) (by simp) ?_
  refine AllReadyH.cons rfl (fun K hK => ?_) AllReadyH.nil
  simp only [List.getElem_toArray, List.getElem_cons_zero, List.getElem_cons_succ]
  go_simp
  refine (HSl.out _ ((Below.refl _ w2).drew) 64 (by omega)).mono ?_
  rintro e w3 ⟨v, rfl, hv⟩
  have hb3 : Below w2.heap.size w2 w3 := (Below.refl _ w2).drew.trans hv.2
  obtain ⟨A3, c3, rfl, hy3, hl3, hc3, hn3, _⟩ := New.slice hv HL.out
  have HY3 := Lib.hid hy3
  have HB3 := Lib.hid hb3
  have HG3 := Lib.hid ((hb3.block _ (by have := HS1.out; have := HS2.out; omega)).trans HG2.out)
  have HZ3 := Lib.hid ((hb3.block _ (by have := HS2.out; omega)).trans HZ2.out)
  have HA3 := Lib.hid hl3
  clear hv hy3 hb3 hl3 hn3 hc3
  go_wp2_with fail
  refine hK.out _ _ (trivial) (fun hHeldN => ?_)
  clear hK K hHeld
  have hHeld := hHeldN
  clear hHeldN
  (try simp only [Act.put, List.getElem_toArray, List.getElem_cons_zero, List.getElem_cons_succ, List.setIfInBounds_toArray, List.set_cons_zero, List.set_cons_succ])
  refine wpAnyH_ready (rs := [4]) (by kernel_rfl) (by simp) ?_
  refine AllReadyH.cons rfl (fun K hK => ?_) AllReadyH.nil
  simp only [List.getElem_toArray, List.getElem_cons_zero, List.getElem_cons_succ]
  rw [if_pos]
  rotate_left
  · simp [Region.wanted]
  refine wp_copy_splice rfl (.tmp 6) (.tmp 9) 44 44 rfl 5 Try.underlying44 size8H (some ⟨w1.heap.size, 0, none⟩) A3 64 64 sb.length c3 rfl rfl w1.heap.size 0 Zl 64 HZ3.out (vals sb) (by rw [HVl.out, HSb.out]; simp only [Nat.min_def]; split <;> omega) (fun h => ⟨rfl, HY3.out.src h⟩) (by rw [HVl.out, HSb.out, HZl.out]; omega) vals_one w1.heap.size w3 (Below.refl _ _) (Nat.le_refl _) ?_
  intro w4 hg4 hb4
  rw [HT_.out] at hg4
  have HG4 := Lib.hid hg4.out
  have HB4 := Lib.hid hb4
  have HR4 := Lib.hid ((hb4.block _ (by have := HS1.out; omega)).trans HG3.out)
  clear hg4 hb4
  refine hK.out _ _ (trivial) (fun hHeldN => ?_)
  clear hK K hHeld
  have hHeld := hHeldN
  clear hHeldN
  (try simp only [Act.put, List.getElem_toArray, List.getElem_cons_zero, List.getElem_cons_succ, List.setIfInBounds_toArray, List.set_cons_zero, List.set_cons_succ])
  refine wpAnyH_done (by kernel_rfl) ?_ _
  have heq := HE.out
  go_wp2_with (first
    | (refine wpList_load_row rfl 64 (.tmp 2) rfl w.heap.size rfl 64 (vals bs).toArray (0, 0) _ HR4.out Try.underlying64 rfl HIb.out ?_)
    | (refine wpList_load_row rfl 64 (.tmp 5) rfl w1.heap.size rfl 64 (vals pb).toArray (0, 0) _ HG4.out Try.underlying64 rfl HIp.out ?_))
  go_ret
  exact ⟨rfl, (HB2.out.trans (HB3.out.mono HB2.out.size)).trans (HB4.out.mono (by have := HS1.out; omega))⟩
end Go.Proofs.Ytgkbhdecohlpmaa
end

section
/-
  The developers' answers: the blocks of a sector; a home got.
-/
namespace Go.Proofs.Ytgkbhdecohlpmaa
set_option maxRecDepth 100000
open Go.RowKit
set_option maxRecDepth 100000

theorem blk_size : (Try.prog.info? 69).map (·.size) = some 32 := by kernel_rfl
theorem blk_zero : (Try.prog.info? 69).map (·.zero) = some (some (.agg (vals (List.replicate 32 0)).toArray)) := by kernel_rfl
theorem results_cell1H {P : Program} {fn : Func} {p : Tmp} {t : TypeId} (h : fn.results = #[.cell p t]) (tmps : Array Value) (w : World) (g : Nat) (cs : Array Value) (fr : Nat × Nat) (d : TypeDesc)
    (hp : tmps.getD p undef = .pointer (some ⟨g, 0, none⟩)) (hg : w.heap[g]? = some (.cells cs t fr)) (hu : P.underlying t = some d) (hd : (match d with | .struct _ | .array _ _ => true | _ => false) = true) (hi : (P.info? t).map (·.size) = some cs.size) :
    (results fn tmps).run P w = .ok (.agg cs) w := by
  have hp' : tmps[p]?.getD undef = .pointer (some ⟨g, 0, none⟩) := by simpa using hp
  simp [results, h, hp', asAddr, run_loadVar_row w g t t cs fr d hg hu hd hi]
/-- the blocks behind k rounds -/
def blkR (bs : List Nat) (k : Nat) : List Nat := bs.take (8 * k) ++ List.replicate (32 - 8 * k) 0
theorem blkR_len {bs : List Nat} (hl : bs.length = 64) {k : Nat} (hk : k ≤ 4) : (blkR bs k).length = 32 := by
  unfold blkR
  rw [List.length_append, List.length_take, List.length_replicate]; omega
theorem blkR_succ {bs : List Nat} (hl : bs.length = 64) {k : Nat} (hk : k < 4) : splice (vals (blkR bs k)) (8 * k) (vals ((bs.drop (8 * k)).take 8)) = vals (blkR bs (k + 1)) := by
  have ht : (bs.take (8 * k)).length = 8 * k := by rw [List.length_take]; omega
  have h8 : (vals ((bs.drop (8 * k)).take 8)).length = 8 := by rw [vals_length, List.length_take, List.length_drop]; omega
  have e : bs.take (8 * (k + 1)) = bs.take (8 * k) ++ (bs.drop (8 * k)).take 8 := by
    rw [show 8 * (k + 1) = 8 * k + 8 by omega, List.take_add]
  unfold splice blkR
  rw [h8, e]
  generalize hX : (bs.drop (8 * k)).take 8 = X at *
  rw [vals_append, vals_append, vals_append, List.take_left' (by rw [vals_length, ht]), List.drop_append, List.drop_of_length_le (by rw [vals_length, ht]; omega), List.nil_append, vals_length, ht, List.append_assoc]
  congr 2
  unfold vals
  rw [← List.map_drop, List.drop_replicate]
  congr 2
  omega
set_option maxHeartbeats 2000000 in
theorem blocksOf_dev (bs : List Nat) (hb : Dk.Sec bs) (w : World) :
    Calls Try.prog 27 #[.agg (vals bs).toArray] w fun e w' => e = .returned (.agg (vals (bs.take 32)).toArray) ∧ Below w.heap.size w w' := by
  have hl := hb.1
  obtain ⟨Z, hZ⟩ : ∃ Z, Z = (vals (List.replicate 32 0)).toArray := ⟨_, rfl⟩
  have HZ := Lib.hid (show (Try.prog.info? 69).map (·.zero) = some (some (.agg Z)) by rw [hZ]; exact blk_zero)
  have HZe := Lib.hid hZ
  obtain ⟨w1, hw1⟩ : ∃ w1, w1 = w.alloc (.cells (vals bs).toArray 64) := ⟨_, rfl⟩
  obtain ⟨w2, hw2⟩ : ∃ w2, w2 = w1.alloc (.cells Z 69) := ⟨_, rfl⟩
  obtain ⟨w3, hw3⟩ : ∃ w3, w3 = w2.alloc (.cells Z 69) := ⟨_, rfl⟩
  have hs1 : w1.heap.size = w.heap.size + 1 := by rw [hw1]; simp
  have hs2 : w2.heap.size = w1.heap.size + 1 := by rw [hw2]; simp
  have hb1 : Below w.heap.size w w1 := by rw [hw1]; exact (Below.refl _ w).alloc (Nat.le_refl _) _
  have hb2 : Below w1.heap.size w1 w2 := by rw [hw2]; exact (Below.refl _ w1).alloc (Nat.le_refl _) _
  have hb3 : Below w2.heap.size w2 w3 := by rw [hw3]; exact (Below.refl _ w2).alloc (Nat.le_refl _) _
  have H0 := Lib.hid (show w3.heap[w.heap.size]? = some (.cells (vals bs).toArray 64 (0, 0)) from (hb3.block _ (by omega)).trans ((hb2.block _ (by omega)).trans (by rw [hw1]; exact heap_alloc_new w _)))
  have H1 := Lib.hid (show w3.heap[w1.heap.size]? = some (.cells Z 69 (0, 0)) from (hb3.block _ (by omega)).trans (by rw [hw2]; exact heap_alloc_new w1 _))
  have H2 := Lib.hid (show w3.heap[w2.heap.size]? = some (.cells (vals (blkR bs 0)).toArray 69 (0, 0)) by rw [hw3, heap_alloc_new w2 _, hZ]; simp [blkR])
  have HB3 := Lib.hid (hb1.trans ((hb2.trans (hb3.mono hb2.size)).mono hb1.size))
  have HG3 := Lib.hid (show w.heap.size < w2.heap.size ∧ w.heap.size < w1.heap.size ∧ w1.heap.size < w2.heap.size by omega)
  have HW1 := Lib.hid hw1
  have HW2 := Lib.hid hw2
  have HW3 := Lib.hid hw3
  generalize hgg1 : w1.heap.size = g2 at *
  generalize hgg2 : w2.heap.size = g3 at *
  have HQ1 := Lib.hid hgg1
  have HQ2 := Lib.hid hgg2
  clear hb hZ hw1 hw2 hw3 hs1 hs2 hb1 hb2 hb3 hgg1 hgg2
  go_enter Try.func27, Try.ntmps27
  go_wp2_with (first
    | (rw [← HW1.out])
    | (refine wpList_alloc_any rfl 69 rfl Z HZ.out ?_; (first | (rw [← HW2.out, HQ1.out]) | (rw [← HW3.out, HQ2.out]))))
  go_loopw [5] (fun i wr => ∃ k : Nat, k ≤ 4 ∧ i = .int .i64 (k : Int) ∧ wr.heap[w.heap.size]? = some (.cells (vals bs).toArray 64 (0, 0)) ∧ wr.heap[g2]? = some (.cells Z 69 (0, 0)) ∧ wr.heap[g3]? = some (.cells (vals (blkR bs k)).toArray 69 (0, 0)) ∧ Below w.heap.size w wr) (fun i _ => 4 - (intOf i).toNat)
  case atStart => exact ⟨0, by omega, rfl, H0.out, H1.out, H2.out, HB3.out⟩
  case round =>
    clear H0 H1 H2 HB3
    obtain ⟨k, hk, rfl, h0, h1, h2, hb⟩ := hrel
    have H0 := Lib.hid h0
    have H1 := Lib.hid h1
    have H2 := Lib.hid h2
    have HBr := Lib.hid hb
    clear h0 h1 h2 hb
    by_cases hlt : k < 4
    · have : k = 0 ∨ k = 1 ∨ k = 2 ∨ k = 3 := by omega
      rcases this with rfl | rfl | rfl | rfl
      · have hsp := blkR_succ hl (show 0 < 4 by omega)
        have hcl : (vals ((bs.drop (8 * 0)).take 8)).length = 8 := by rw [vals_length, List.length_take, List.length_drop]; omega
        have HSp := Lib.hid hsp
        have HCl := Lib.hid hcl
        have HRl := Lib.hid (show (vals (blkR bs 0)).length = 32 by rw [vals_length]; exact blkR_len hl (by omega))
        have hcc := fun (W : World) (hW : W.heap[w.heap.size]? = some (.cells (vals bs).toArray 64 (0, 0))) j v (hv : (vals ((bs.drop (8 * 0)).take 8))[j]? = some v) => show W.cell? ⟨w.heap.size, 8 * 0 + j, none⟩ = some v from by
          rw [cell_of_row W _ (8 * 0 + j) _ _ _ hW]
          have h1 : (vals bs)[8 * 0 + j]? = some v := by
            unfold vals at hv ⊢
            rw [List.getElem?_map] at hv ⊢
            rw [List.getElem?_take] at hv
            split at hv
            · rw [List.getElem?_drop] at hv; exact hv
            · cases hv
          simpa using h1
        have HCc := Lib.hid hcc
        clear hsp hcl hcc
        have hwo : IntKind.i64.wrap (0 : Int) = (0 : Int) := by rw [IntKind.wrap_i64]; rfl
        go_wp2
        refine wp_region_held_drew (S := fun _ => True) (by kernel_rfl) trivial (fun hHeld => ?_)
        obtain ⟨w5, hw5⟩ : ∃ x, x = wr.drew := ⟨_, rfl⟩
        replace H0 := Lib.hid (show w5.heap[w.heap.size]? = some (.cells (vals bs).toArray 64 (0, 0)) by rw [hw5]; exact H0.out)
        replace H1 := Lib.hid (show w5.heap[g2]? = some (.cells Z 69 (0, 0)) by rw [hw5]; exact H1.out)
        replace H2 := Lib.hid (show w5.heap[g3]? = some (.cells (vals (blkR bs 0)).toArray 69 (0, 0)) by rw [hw5]; exact H2.out)
        replace HBr := Lib.hid (show Below w.heap.size w w5 by rw [hw5]; exact HBr.out.drew)
        rw [← hw5]
        clear hw5
        refine wpAnyH_take (i := 0) (v := ?_) rfl (by kernel_rfl) (by kernel_rfl) (by kernel_rfl) (fun _ _ _ h => h) (Or.inl ⟨by rfl, ?_⟩) (by assumption) ?_
        rotate_left
        · simp only [List.getElem_toArray, List.getElem_cons_zero, List.getElem_cons_succ]; intro W hSw; (try dsimp only at hSw); go_simp; all_goals with_reducible rfl
        simp only [Act.put, List.getElem_toArray, List.getElem_cons_zero, List.getElem_cons_succ, List.setIfInBounds_toArray, List.set_cons_zero, List.set_cons_succ]
        refine wpAnyH_take (i := 1) (v := ?_) rfl (by kernel_rfl) (by kernel_rfl) (by kernel_rfl) (fun _ _ _ h => h) (Or.inl ⟨by rfl, ?_⟩) (by assumption) ?_
        rotate_left
        · simp only [List.getElem_toArray, List.getElem_cons_zero, List.getElem_cons_succ]; intro W hSw; (try dsimp only at hSw); go_simp; all_goals with_reducible rfl
        simp only [Act.put, List.getElem_toArray, List.getElem_cons_zero, List.getElem_cons_succ, List.setIfInBounds_toArray, List.set_cons_zero, List.set_cons_succ]
        refine wpAnyH_take (i := 2) (v := ?_) rfl (by kernel_rfl) (by kernel_rfl) (by kernel_rfl) (fun _ _ _ h => h) (Or.inl ⟨by rfl, ?_⟩) (by assumption) ?_
        rotate_left
        · simp only [List.getElem_toArray, List.getElem_cons_zero, List.getElem_cons_succ]; intro W hSw; (try dsimp only at hSw); go_simp; all_goals with_reducible rfl
        simp only [Act.put, List.getElem_toArray, List.getElem_cons_zero, List.getElem_cons_succ, List.setIfInBounds_toArray, List.set_cons_zero, List.set_cons_succ]
        refine wpAnyH_take (i := 3) (v := ?_) rfl (by kernel_rfl) (by kernel_rfl) (by kernel_rfl) (fun _ _ _ h => h) (Or.inl ⟨by rfl, ?_⟩) (by assumption) ?_
        rotate_left
        · simp only [List.getElem_toArray, List.getElem_cons_zero, List.getElem_cons_succ]; intro W hSw; (try dsimp only at hSw); go_simp; all_goals with_reducible rfl
        simp only [Act.put, List.getElem_toArray, List.getElem_cons_zero, List.getElem_cons_succ, List.setIfInBounds_toArray, List.set_cons_zero, List.set_cons_succ]
        refine wpAnyH_take (i := 4) (v := ?_) rfl (by kernel_rfl) (by kernel_rfl) (by kernel_rfl) (fun _ _ _ h => h) (Or.inl ⟨by rfl, ?_⟩) (by assumption) ?_
        rotate_left
        · simp only [List.getElem_toArray, List.getElem_cons_zero, List.getElem_cons_succ]; intro W hSw; (try dsimp only at hSw); go_simp; all_goals with_reducible rfl
        simp only [Act.put, List.getElem_toArray, List.getElem_cons_zero, List.getElem_cons_succ, List.setIfInBounds_toArray, List.set_cons_zero, List.set_cons_succ]
        refine wpAnyH_take (i := 5) (v := ?_) rfl (by kernel_rfl) (by kernel_rfl) (by kernel_rfl) (fun _ _ _ h => h) (Or.inl ⟨by rfl, ?_⟩) (by assumption) ?_
        rotate_left
        · simp only [List.getElem_toArray, List.getElem_cons_zero, List.getElem_cons_succ]; intro W hSw; (try dsimp only at hSw); go_simp; all_goals with_reducible rfl
        simp only [Act.put, List.getElem_toArray, List.getElem_cons_zero, List.getElem_cons_succ, List.setIfInBounds_toArray, List.set_cons_zero, List.set_cons_succ]
        clear hwo
        refine wpAnyH_ready (rs := [6]) (by kernel_rfl) (by simp) ?_
        refine AllReadyH.cons rfl (fun K hK => ?_) AllReadyH.nil
        simp only [List.getElem_toArray, List.getElem_cons_zero, List.getElem_cons_succ]
        rw [if_pos]
        rotate_left
        · simp [Region.wanted]
        refine wp_copy_splice rfl (.tmp 10) (.tmp 13) 44 44 rfl 5 Try.underlying44 size8H (some ⟨g3, 0, none⟩) (some ⟨w.heap.size, 0, none⟩) 8 8 64 64 rfl rfl g3 0 (vals (blkR bs 0)) 69 H2.out (vals ((bs.drop (8 * 0)).take 8)) (by rw [HCl.out]; rfl) (fun h => ⟨rfl, _, rfl, fun j v hv => by rw [add_flat]; exact HCc.out _ H0.out j v hv⟩) (by rw [HCl.out, HRl.out]; omega) vals_one g3 w5 (Below.refl _ _) (Nat.le_refl _) ?_
        intro w4 hg4 hb4
        rw [show 0 = 8 * 0 from rfl, HSp.out] at hg4
        have HG4 := Lib.hid hg4.out
        have HB4 := Lib.hid (HBr.out.trans (hb4.mono (by have := HG3.out; omega)))
        have HQ0 := Lib.hid ((hb4.block _ (by have := HG3.out; omega)).trans H0.out)
        have HQ1_ := Lib.hid ((hb4.block _ (by have := HG3.out; omega)).trans H1.out)
        clear hg4 hb4
        refine hK.out _ _ (trivial) (fun hHeldN => ?_)
        clear hK K hHeld
        have hHeld := hHeldN
        clear hHeldN
        (try simp only [Act.put, List.getElem_toArray, List.getElem_cons_zero, List.getElem_cons_succ, List.setIfInBounds_toArray, List.set_cons_zero, List.set_cons_succ])
        refine wpAnyH_done (by kernel_rfl) ?_ _
        go_wp2
        go_roundw
        case rel => exact ⟨0 + 1, by omega, by simp, HQ0.out, HQ1_.out, HG4.out, HB4.out⟩
        case measure => simp [intOf]
      · have hsp := blkR_succ hl (show 1 < 4 by omega)
        have hcl : (vals ((bs.drop (8 * 1)).take 8)).length = 8 := by rw [vals_length, List.length_take, List.length_drop]; omega
        have HSp := Lib.hid hsp
        have HCl := Lib.hid hcl
        have HRl := Lib.hid (show (vals (blkR bs 1)).length = 32 by rw [vals_length]; exact blkR_len hl (by omega))
        have hcc := fun (W : World) (hW : W.heap[w.heap.size]? = some (.cells (vals bs).toArray 64 (0, 0))) j v (hv : (vals ((bs.drop (8 * 1)).take 8))[j]? = some v) => show W.cell? ⟨w.heap.size, 8 * 1 + j, none⟩ = some v from by
          rw [cell_of_row W _ (8 * 1 + j) _ _ _ hW]
          have h1 : (vals bs)[8 * 1 + j]? = some v := by
            unfold vals at hv ⊢
            rw [List.getElem?_map] at hv ⊢
            rw [List.getElem?_take] at hv
            split at hv
            · rw [List.getElem?_drop] at hv; exact hv
            · cases hv
          simpa using h1
        have HCc := Lib.hid hcc
        clear hsp hcl hcc
        have hwo : IntKind.i64.wrap (8 : Int) = (8 : Int) := by rw [IntKind.wrap_i64]; rfl
        go_wp2
        refine wp_region_held_drew (S := fun _ => True) (by kernel_rfl) trivial (fun hHeld => ?_)
        obtain ⟨w5, hw5⟩ : ∃ x, x = wr.drew := ⟨_, rfl⟩
        replace H0 := Lib.hid (show w5.heap[w.heap.size]? = some (.cells (vals bs).toArray 64 (0, 0)) by rw [hw5]; exact H0.out)
        replace H1 := Lib.hid (show w5.heap[g2]? = some (.cells Z 69 (0, 0)) by rw [hw5]; exact H1.out)
        replace H2 := Lib.hid (show w5.heap[g3]? = some (.cells (vals (blkR bs 1)).toArray 69 (0, 0)) by rw [hw5]; exact H2.out)
        replace HBr := Lib.hid (show Below w.heap.size w w5 by rw [hw5]; exact HBr.out.drew)
        rw [← hw5]
        clear hw5
        refine wpAnyH_take (i := 0) (v := ?_) rfl (by kernel_rfl) (by kernel_rfl) (by kernel_rfl) (fun _ _ _ h => h) (Or.inl ⟨by rfl, ?_⟩) (by assumption) ?_
        rotate_left
        · simp only [List.getElem_toArray, List.getElem_cons_zero, List.getElem_cons_succ]; intro W hSw; (try dsimp only at hSw); go_simp; all_goals with_reducible rfl
        simp only [Act.put, List.getElem_toArray, List.getElem_cons_zero, List.getElem_cons_succ, List.setIfInBounds_toArray, List.set_cons_zero, List.set_cons_succ]
        refine wpAnyH_take (i := 1) (v := ?_) rfl (by kernel_rfl) (by kernel_rfl) (by kernel_rfl) (fun _ _ _ h => h) (Or.inl ⟨by rfl, ?_⟩) (by assumption) ?_
        rotate_left
        · simp only [List.getElem_toArray, List.getElem_cons_zero, List.getElem_cons_succ]; intro W hSw; (try dsimp only at hSw); go_simp; all_goals with_reducible rfl
        simp only [Act.put, List.getElem_toArray, List.getElem_cons_zero, List.getElem_cons_succ, List.setIfInBounds_toArray, List.set_cons_zero, List.set_cons_succ]
        refine wpAnyH_take (i := 2) (v := ?_) rfl (by kernel_rfl) (by kernel_rfl) (by kernel_rfl) (fun _ _ _ h => h) (Or.inl ⟨by rfl, ?_⟩) (by assumption) ?_
        rotate_left
        · simp only [List.getElem_toArray, List.getElem_cons_zero, List.getElem_cons_succ]; intro W hSw; (try dsimp only at hSw); go_simp; all_goals with_reducible rfl
        simp only [Act.put, List.getElem_toArray, List.getElem_cons_zero, List.getElem_cons_succ, List.setIfInBounds_toArray, List.set_cons_zero, List.set_cons_succ]
        refine wpAnyH_take (i := 3) (v := ?_) rfl (by kernel_rfl) (by kernel_rfl) (by kernel_rfl) (fun _ _ _ h => h) (Or.inl ⟨by rfl, ?_⟩) (by assumption) ?_
        rotate_left
        · simp only [List.getElem_toArray, List.getElem_cons_zero, List.getElem_cons_succ]; intro W hSw; (try dsimp only at hSw); go_simp; all_goals with_reducible rfl
        simp only [Act.put, List.getElem_toArray, List.getElem_cons_zero, List.getElem_cons_succ, List.setIfInBounds_toArray, List.set_cons_zero, List.set_cons_succ]
        refine wpAnyH_take (i := 4) (v := ?_) rfl (by kernel_rfl) (by kernel_rfl) (by kernel_rfl) (fun _ _ _ h => h) (Or.inl ⟨by rfl, ?_⟩) (by assumption) ?_
        rotate_left
        · simp only [List.getElem_toArray, List.getElem_cons_zero, List.getElem_cons_succ]; intro W hSw; (try dsimp only at hSw); go_simp; all_goals with_reducible rfl
        simp only [Act.put, List.getElem_toArray, List.getElem_cons_zero, List.getElem_cons_succ, List.setIfInBounds_toArray, List.set_cons_zero, List.set_cons_succ]
        refine wpAnyH_take (i := 5) (v := ?_) rfl (by kernel_rfl) (by kernel_rfl) (by kernel_rfl) (fun _ _ _ h => h) (Or.inl ⟨by rfl, ?_⟩) (by assumption) ?_
        rotate_left
        · simp only [List.getElem_toArray, List.getElem_cons_zero, List.getElem_cons_succ]; intro W hSw; (try dsimp only at hSw); go_simp; all_goals with_reducible rfl
        simp only [Act.put, List.getElem_toArray, List.getElem_cons_zero, List.getElem_cons_succ, List.setIfInBounds_toArray, List.set_cons_zero, List.set_cons_succ]
        clear hwo
        refine wpAnyH_ready (rs := [6]) (by kernel_rfl) (by simp) ?_
        refine AllReadyH.cons rfl (fun K hK => ?_) AllReadyH.nil
        simp only [List.getElem_toArray, List.getElem_cons_zero, List.getElem_cons_succ]
        rw [if_pos]
        rotate_left
        · simp [Region.wanted]
        refine wp_copy_splice rfl (.tmp 10) (.tmp 13) 44 44 rfl 5 Try.underlying44 size8H (some ⟨g3, 8, none⟩) (some ⟨w.heap.size, 8, none⟩) 8 8 56 56 rfl rfl g3 8 (vals (blkR bs 1)) 69 H2.out (vals ((bs.drop (8 * 1)).take 8)) (by rw [HCl.out]; rfl) (fun h => ⟨rfl, _, rfl, fun j v hv => by rw [add_flat]; exact HCc.out _ H0.out j v hv⟩) (by rw [HCl.out, HRl.out]; omega) vals_one g3 w5 (Below.refl _ _) (Nat.le_refl _) ?_
        intro w4 hg4 hb4
        rw [show 8 = 8 * 1 from rfl, HSp.out] at hg4
        have HG4 := Lib.hid hg4.out
        have HB4 := Lib.hid (HBr.out.trans (hb4.mono (by have := HG3.out; omega)))
        have HQ0 := Lib.hid ((hb4.block _ (by have := HG3.out; omega)).trans H0.out)
        have HQ1_ := Lib.hid ((hb4.block _ (by have := HG3.out; omega)).trans H1.out)
        clear hg4 hb4
        refine hK.out _ _ (trivial) (fun hHeldN => ?_)
        clear hK K hHeld
        have hHeld := hHeldN
        clear hHeldN
        (try simp only [Act.put, List.getElem_toArray, List.getElem_cons_zero, List.getElem_cons_succ, List.setIfInBounds_toArray, List.set_cons_zero, List.set_cons_succ])
        refine wpAnyH_done (by kernel_rfl) ?_ _
        go_wp2
        go_roundw
        case rel => exact ⟨1 + 1, by omega, by simp, HQ0.out, HQ1_.out, HG4.out, HB4.out⟩
        case measure => simp [intOf]
      · have hsp := blkR_succ hl (show 2 < 4 by omega)
        have hcl : (vals ((bs.drop (8 * 2)).take 8)).length = 8 := by rw [vals_length, List.length_take, List.length_drop]; omega
        have HSp := Lib.hid hsp
        have HCl := Lib.hid hcl
        have HRl := Lib.hid (show (vals (blkR bs 2)).length = 32 by rw [vals_length]; exact blkR_len hl (by omega))
        have hcc := fun (W : World) (hW : W.heap[w.heap.size]? = some (.cells (vals bs).toArray 64 (0, 0))) j v (hv : (vals ((bs.drop (8 * 2)).take 8))[j]? = some v) => show W.cell? ⟨w.heap.size, 8 * 2 + j, none⟩ = some v from by
          rw [cell_of_row W _ (8 * 2 + j) _ _ _ hW]
          have h1 : (vals bs)[8 * 2 + j]? = some v := by
            unfold vals at hv ⊢
            rw [List.getElem?_map] at hv ⊢
            rw [List.getElem?_take] at hv
            split at hv
            · rw [List.getElem?_drop] at hv; exact hv
            · cases hv
          simpa using h1
        have HCc := Lib.hid hcc
        clear hsp hcl hcc
        have hwo : IntKind.i64.wrap (16 : Int) = (16 : Int) := by rw [IntKind.wrap_i64]; rfl
        go_wp2
        refine wp_region_held_drew (S := fun _ => True) (by kernel_rfl) trivial (fun hHeld => ?_)
        obtain ⟨w5, hw5⟩ : ∃ x, x = wr.drew := ⟨_, rfl⟩
        replace H0 := Lib.hid (show w5.heap[w.heap.size]? = some (.cells (vals bs).toArray 64 (0, 0)) by rw [hw5]; exact H0.out)
        replace H1 := Lib.hid (show w5.heap[g2]? = some (.cells Z 69 (0, 0)) by rw [hw5]; exact H1.out)
        replace H2 := Lib.hid (show w5.heap[g3]? = some (.cells (vals (blkR bs 2)).toArray 69 (0, 0)) by rw [hw5]; exact H2.out)
        replace HBr := Lib.hid (show Below w.heap.size w w5 by rw [hw5]; exact HBr.out.drew)
        rw [← hw5]
        clear hw5
        refine wpAnyH_take (i := 0) (v := ?_) rfl (by kernel_rfl) (by kernel_rfl) (by kernel_rfl) (fun _ _ _ h => h) (Or.inl ⟨by rfl, ?_⟩) (by assumption) ?_
        rotate_left
        · simp only [List.getElem_toArray, List.getElem_cons_zero, List.getElem_cons_succ]; intro W hSw; (try dsimp only at hSw); go_simp; all_goals with_reducible rfl
        simp only [Act.put, List.getElem_toArray, List.getElem_cons_zero, List.getElem_cons_succ, List.setIfInBounds_toArray, List.set_cons_zero, List.set_cons_succ]
        refine wpAnyH_take (i := 1) (v := ?_) rfl (by kernel_rfl) (by kernel_rfl) (by kernel_rfl) (fun _ _ _ h => h) (Or.inl ⟨by rfl, ?_⟩) (by assumption) ?_
        rotate_left
        · simp only [List.getElem_toArray, List.getElem_cons_zero, List.getElem_cons_succ]; intro W hSw; (try dsimp only at hSw); go_simp; all_goals with_reducible rfl
        simp only [Act.put, List.getElem_toArray, List.getElem_cons_zero, List.getElem_cons_succ, List.setIfInBounds_toArray, List.set_cons_zero, List.set_cons_succ]
        refine wpAnyH_take (i := 2) (v := ?_) rfl (by kernel_rfl) (by kernel_rfl) (by kernel_rfl) (fun _ _ _ h => h) (Or.inl ⟨by rfl, ?_⟩) (by assumption) ?_
        rotate_left
        · simp only [List.getElem_toArray, List.getElem_cons_zero, List.getElem_cons_succ]; intro W hSw; (try dsimp only at hSw); go_simp; all_goals with_reducible rfl
        simp only [Act.put, List.getElem_toArray, List.getElem_cons_zero, List.getElem_cons_succ, List.setIfInBounds_toArray, List.set_cons_zero, List.set_cons_succ]
        refine wpAnyH_take (i := 3) (v := ?_) rfl (by kernel_rfl) (by kernel_rfl) (by kernel_rfl) (fun _ _ _ h => h) (Or.inl ⟨by rfl, ?_⟩) (by assumption) ?_
        rotate_left
        · simp only [List.getElem_toArray, List.getElem_cons_zero, List.getElem_cons_succ]; intro W hSw; (try dsimp only at hSw); go_simp; all_goals with_reducible rfl
        simp only [Act.put, List.getElem_toArray, List.getElem_cons_zero, List.getElem_cons_succ, List.setIfInBounds_toArray, List.set_cons_zero, List.set_cons_succ]
        refine wpAnyH_take (i := 4) (v := ?_) rfl (by kernel_rfl) (by kernel_rfl) (by kernel_rfl) (fun _ _ _ h => h) (Or.inl ⟨by rfl, ?_⟩) (by assumption) ?_
        rotate_left
        · simp only [List.getElem_toArray, List.getElem_cons_zero, List.getElem_cons_succ]; intro W hSw; (try dsimp only at hSw); go_simp; all_goals with_reducible rfl
        simp only [Act.put, List.getElem_toArray, List.getElem_cons_zero, List.getElem_cons_succ, List.setIfInBounds_toArray, List.set_cons_zero, List.set_cons_succ]
        refine wpAnyH_take (i := 5) (v := ?_) rfl (by kernel_rfl) (by kernel_rfl) (by kernel_rfl) (fun _ _ _ h => h) (Or.inl ⟨by rfl, ?_⟩) (by assumption) ?_
        rotate_left
        · simp only [List.getElem_toArray, List.getElem_cons_zero, List.getElem_cons_succ]; intro W hSw; (try dsimp only at hSw); go_simp; all_goals with_reducible rfl
        simp only [Act.put, List.getElem_toArray, List.getElem_cons_zero, List.getElem_cons_succ, List.setIfInBounds_toArray, List.set_cons_zero, List.set_cons_succ]
        clear hwo
        refine wpAnyH_ready (rs := [6]) (by kernel_rfl) (by simp) ?_
        refine AllReadyH.cons rfl (fun K hK => ?_) AllReadyH.nil
        simp only [List.getElem_toArray, List.getElem_cons_zero, List.getElem_cons_succ]
        rw [if_pos]
        rotate_left
        · simp [Region.wanted]
        refine wp_copy_splice rfl (.tmp 10) (.tmp 13) 44 44 rfl 5 Try.underlying44 size8H (some ⟨g3, 16, none⟩) (some ⟨w.heap.size, 16, none⟩) 8 8 48 48 rfl rfl g3 16 (vals (blkR bs 2)) 69 H2.out (vals ((bs.drop (8 * 2)).take 8)) (by rw [HCl.out]; rfl) (fun h => ⟨rfl, _, rfl, fun j v hv => by rw [add_flat]; exact HCc.out _ H0.out j v hv⟩) (by rw [HCl.out, HRl.out]; omega) vals_one g3 w5 (Below.refl _ _) (Nat.le_refl _) ?_
        intro w4 hg4 hb4
        rw [show 16 = 8 * 2 from rfl, HSp.out] at hg4
        have HG4 := Lib.hid hg4.out
        have HB4 := Lib.hid (HBr.out.trans (hb4.mono (by have := HG3.out; omega)))
        have HQ0 := Lib.hid ((hb4.block _ (by have := HG3.out; omega)).trans H0.out)
        have HQ1_ := Lib.hid ((hb4.block _ (by have := HG3.out; omega)).trans H1.out)
        clear hg4 hb4
        refine hK.out _ _ (trivial) (fun hHeldN => ?_)
        clear hK K hHeld
        have hHeld := hHeldN
        clear hHeldN
        (try simp only [Act.put, List.getElem_toArray, List.getElem_cons_zero, List.getElem_cons_succ, List.setIfInBounds_toArray, List.set_cons_zero, List.set_cons_succ])
        refine wpAnyH_done (by kernel_rfl) ?_ _
        go_wp2
        go_roundw
        case rel => exact ⟨2 + 1, by omega, by simp, HQ0.out, HQ1_.out, HG4.out, HB4.out⟩
        case measure => simp [intOf]
      · have hsp := blkR_succ hl (show 3 < 4 by omega)
        have hcl : (vals ((bs.drop (8 * 3)).take 8)).length = 8 := by rw [vals_length, List.length_take, List.length_drop]; omega
        have HSp := Lib.hid hsp
        have HCl := Lib.hid hcl
        have HRl := Lib.hid (show (vals (blkR bs 3)).length = 32 by rw [vals_length]; exact blkR_len hl (by omega))
        have hcc := fun (W : World) (hW : W.heap[w.heap.size]? = some (.cells (vals bs).toArray 64 (0, 0))) j v (hv : (vals ((bs.drop (8 * 3)).take 8))[j]? = some v) => show W.cell? ⟨w.heap.size, 8 * 3 + j, none⟩ = some v from by
          rw [cell_of_row W _ (8 * 3 + j) _ _ _ hW]
          have h1 : (vals bs)[8 * 3 + j]? = some v := by
            unfold vals at hv ⊢
            rw [List.getElem?_map] at hv ⊢
            rw [List.getElem?_take] at hv
            split at hv
            · rw [List.getElem?_drop] at hv; exact hv
            · cases hv
          simpa using h1
        have HCc := Lib.hid hcc
        clear hsp hcl hcc
        have hwo : IntKind.i64.wrap (24 : Int) = (24 : Int) := by rw [IntKind.wrap_i64]; rfl
        go_wp2
        refine wp_region_held_drew (S := fun _ => True) (by kernel_rfl) trivial (fun hHeld => ?_)
        obtain ⟨w5, hw5⟩ : ∃ x, x = wr.drew := ⟨_, rfl⟩
        replace H0 := Lib.hid (show w5.heap[w.heap.size]? = some (.cells (vals bs).toArray 64 (0, 0)) by rw [hw5]; exact H0.out)
        replace H1 := Lib.hid (show w5.heap[g2]? = some (.cells Z 69 (0, 0)) by rw [hw5]; exact H1.out)
        replace H2 := Lib.hid (show w5.heap[g3]? = some (.cells (vals (blkR bs 3)).toArray 69 (0, 0)) by rw [hw5]; exact H2.out)
        replace HBr := Lib.hid (show Below w.heap.size w w5 by rw [hw5]; exact HBr.out.drew)
        rw [← hw5]
        clear hw5
        refine wpAnyH_take (i := 0) (v := ?_) rfl (by kernel_rfl) (by kernel_rfl) (by kernel_rfl) (fun _ _ _ h => h) (Or.inl ⟨by rfl, ?_⟩) (by assumption) ?_
        rotate_left
        · simp only [List.getElem_toArray, List.getElem_cons_zero, List.getElem_cons_succ]; intro W hSw; (try dsimp only at hSw); go_simp; all_goals with_reducible rfl
        simp only [Act.put, List.getElem_toArray, List.getElem_cons_zero, List.getElem_cons_succ, List.setIfInBounds_toArray, List.set_cons_zero, List.set_cons_succ]
        refine wpAnyH_take (i := 1) (v := ?_) rfl (by kernel_rfl) (by kernel_rfl) (by kernel_rfl) (fun _ _ _ h => h) (Or.inl ⟨by rfl, ?_⟩) (by assumption) ?_
        rotate_left
        · simp only [List.getElem_toArray, List.getElem_cons_zero, List.getElem_cons_succ]; intro W hSw; (try dsimp only at hSw); go_simp; all_goals with_reducible rfl
        simp only [Act.put, List.getElem_toArray, List.getElem_cons_zero, List.getElem_cons_succ, List.setIfInBounds_toArray, List.set_cons_zero, List.set_cons_succ]
        refine wpAnyH_take (i := 2) (v := ?_) rfl (by kernel_rfl) (by kernel_rfl) (by kernel_rfl) (fun _ _ _ h => h) (Or.inl ⟨by rfl, ?_⟩) (by assumption) ?_
        rotate_left
        · simp only [List.getElem_toArray, List.getElem_cons_zero, List.getElem_cons_succ]; intro W hSw; (try dsimp only at hSw); go_simp; all_goals with_reducible rfl
        simp only [Act.put, List.getElem_toArray, List.getElem_cons_zero, List.getElem_cons_succ, List.setIfInBounds_toArray, List.set_cons_zero, List.set_cons_succ]
        refine wpAnyH_take (i := 3) (v := ?_) rfl (by kernel_rfl) (by kernel_rfl) (by kernel_rfl) (fun _ _ _ h => h) (Or.inl ⟨by rfl, ?_⟩) (by assumption) ?_
        rotate_left
        · simp only [List.getElem_toArray, List.getElem_cons_zero, List.getElem_cons_succ]; intro W hSw; (try dsimp only at hSw); go_simp; all_goals with_reducible rfl
        simp only [Act.put, List.getElem_toArray, List.getElem_cons_zero, List.getElem_cons_succ, List.setIfInBounds_toArray, List.set_cons_zero, List.set_cons_succ]
        refine wpAnyH_take (i := 4) (v := ?_) rfl (by kernel_rfl) (by kernel_rfl) (by kernel_rfl) (fun _ _ _ h => h) (Or.inl ⟨by rfl, ?_⟩) (by assumption) ?_
        rotate_left
        · simp only [List.getElem_toArray, List.getElem_cons_zero, List.getElem_cons_succ]; intro W hSw; (try dsimp only at hSw); go_simp; all_goals with_reducible rfl
        simp only [Act.put, List.getElem_toArray, List.getElem_cons_zero, List.getElem_cons_succ, List.setIfInBounds_toArray, List.set_cons_zero, List.set_cons_succ]
        refine wpAnyH_take (i := 5) (v := ?_) rfl (by kernel_rfl) (by kernel_rfl) (by kernel_rfl) (fun _ _ _ h => h) (Or.inl ⟨by rfl, ?_⟩) (by assumption) ?_
        rotate_left
        · simp only [List.getElem_toArray, List.getElem_cons_zero, List.getElem_cons_succ]; intro W hSw; (try dsimp only at hSw); go_simp; all_goals with_reducible rfl
        simp only [Act.put, List.getElem_toArray, List.getElem_cons_zero, List.getElem_cons_succ, List.setIfInBounds_toArray, List.set_cons_zero, List.set_cons_succ]
        clear hwo
        refine wpAnyH_ready (rs := [6]) (by kernel_rfl) (by simp) ?_
        refine AllReadyH.cons rfl (fun K hK => ?_) AllReadyH.nil
        simp only [List.getElem_toArray, List.getElem_cons_zero, List.getElem_cons_succ]
        rw [if_pos]
        rotate_left
        · simp [Region.wanted]
        refine wp_copy_splice rfl (.tmp 10) (.tmp 13) 44 44 rfl 5 Try.underlying44 size8H (some ⟨g3, 24, none⟩) (some ⟨w.heap.size, 24, none⟩) 8 8 40 40 rfl rfl g3 24 (vals (blkR bs 3)) 69 H2.out (vals ((bs.drop (8 * 3)).take 8)) (by rw [HCl.out]; rfl) (fun h => ⟨rfl, _, rfl, fun j v hv => by rw [add_flat]; exact HCc.out _ H0.out j v hv⟩) (by rw [HCl.out, HRl.out]; omega) vals_one g3 w5 (Below.refl _ _) (Nat.le_refl _) ?_
        intro w4 hg4 hb4
        rw [show 24 = 8 * 3 from rfl, HSp.out] at hg4
        have HG4 := Lib.hid hg4.out
        have HB4 := Lib.hid (HBr.out.trans (hb4.mono (by have := HG3.out; omega)))
        have HQ0 := Lib.hid ((hb4.block _ (by have := HG3.out; omega)).trans H0.out)
        have HQ1_ := Lib.hid ((hb4.block _ (by have := HG3.out; omega)).trans H1.out)
        clear hg4 hb4
        refine hK.out _ _ (trivial) (fun hHeldN => ?_)
        clear hK K hHeld
        have hHeld := hHeldN
        clear hHeldN
        (try simp only [Act.put, List.getElem_toArray, List.getElem_cons_zero, List.getElem_cons_succ, List.setIfInBounds_toArray, List.set_cons_zero, List.set_cons_succ])
        refine wpAnyH_done (by kernel_rfl) ?_ _
        go_wp2
        go_roundw
        case rel => exact ⟨3 + 1, by omega, by simp, HQ0.out, HQ1_.out, HG4.out, HB4.out⟩
        case measure => simp [intOf]
    · obtain rfl : k = 4 := by omega
      have hB4 : blkR bs 4 = bs.take 32 := by unfold blkR; simp
      rw [hB4] at H2
      have h32 : (bs.take 32).length = 32 := by rw [List.length_take]; omega
      have HI := Lib.hid (show (Try.prog.info? 69).map (·.size) = some (vals (bs.take 32)).toArray.size by rw [blk_size, vals_size, h32])
      have HSz := Lib.hid (show Z.size = (vals (bs.take 32)).toArray.size by rw [HZe.out, vals_size, vals_size, h32]; simp)
      have HAl := Lib.hid (vals_all (bs.take 32))
      generalize hys : bs.take 32 = ys at *
      have HYs := Lib.hid hys
      clear hB4 h32 hl hys
      go_wp2_with (first
        | (refine wpList_load_row rfl 69 _ rfl g3 rfl 69 (vals ys).toArray (0, 0) _ H2.out Try.underlying69 rfl HI.out ?_)
        | (refine wpList_store_row rfl 69 _ _ rfl g2 (vals ys).toArray rfl rfl 69 Z H1.out HI.out HSz.out HAl.out ?_))
      exact bodyPost_ret (results_cell1H (t := 69) (p := 2) rfl _ _ g2 (vals ys).toArray (0, 0) _ rfl (setRow_heap _ _ _ _ _ _ H1.out) Try.underlying69 rfl HI.out) rfl ⟨by rw [HYs.out], below_setRow HBr.out (by have := HG3.out; omega) _⟩

theorem get_nil_dev : GetHNil := by
  intro z w
  go_enter Try.func9, Try.ntmps9
  go_wp2
  go_ret2
  exact ⟨none, 0, rfl, Below.refl _ _⟩
theorem wpList_build_zero {P : Program} {ops : Array Oper} {rest : List Oper} {o : Oper} {a : Act} {w : World} {Q : Exit → Act → World → Prop} (hgd : o.guard = none) (ty : TypeId) (ho : o.op = .build ty #[])
    (n : Nat) (e : TypeId) (hu : P.underlying ty = some (.array n e)) (z : Array Value) (hz : (P.info? ty).map (·.zero) = some (some (.agg z))) (k : Nat) (he : (P.info? e).map (·.size) = some k)
    (h : wpList P ops Q rest (a.put o.dst (.agg z)) w) : wpList P ops Q (o :: rest) a w := by
  refine wpList_plain hgd fun _ hK => wp_value (v := .agg z) (w' := w) ?_ (hK _ _ h)
  cases hq : P.info? ty with
  | none => simp [hq] at hz
  | some i =>
    have hs : i.zero = some (.agg z) := by simpa [hq] using hz
    cases hr : P.info? e with
    | none => simp [hr] at he
    | some j =>
      unfold execOp
      simp [ho, Instr.build, zeroValue, typeInfo, hq, hs, run_underlying hu, sizeOf, hr, Instr.fill, Value.cells, Result.andThen]
/-- a load of a struct or an array behind a guard that is met -/
theorem wpList_load_row_if {P : Program} {ops : Array Oper} {rest : List Oper} {o : Oper} {a : Act} {w : World} {Q : Exit → Act → World → Prop} (hw : Region.wanted o (yielded ops a.tmps) = true) (ty : TypeId) (x : Operand) (ho : o.op = .load ty x)
    (g : Nat) (hx : a.eval x = .pointer (some ⟨g, 0, none⟩)) (t : TypeId) (cs : Array Value) (fr : Nat × Nat) (d : TypeDesc) (hg : w.heap[g]? = some (.cells cs t fr))
    (hu : P.underlying ty = some d) (hd : (match d with | .struct _ | .array _ _ => true | _ => false) = true) (hi : (P.info? ty).map (·.size) = some cs.size)
    (h : wpList P ops Q rest (a.put o.dst (.agg cs)) w) : wpList P ops Q (o :: rest) a w :=
  wpList_step fun K hK => by
    simp only [hw, if_true]
    exact wp_load_row ty x ho g hx t cs fr d hg hu hd hi (hK _ _ h)
theorem read_len {sec : List Nat} (hl : sec.length = 64) {l : List (List Nat)} (h : readHm sec = some l) : l.length = 4 ∧ l.flatten = sec.take 32 := by
  have c8 : ∀ (k : Nat) (b : List Nat), (cut8 b k).length = k := by
    intro k
    induction k with
    | zero => intro b; rfl
    | succ k ih => intro b; rw [cut8, List.length_cons, ih]
  have cf : ∀ (k : Nat) (b : List Nat), (cut8 b k).flatten = b.take (8 * k) := by
    intro k
    induction k with
    | zero => intro b; rfl
    | succ k ih => intro b; rw [cut8, List.flatten_cons, ih, show 8 * (k + 1) = 8 + 8 * k by omega, List.take_add]
  unfold readHm at h
  by_cases hz : allZ sec = true
  · rw [if_pos hz] at h
    obtain rfl := Option.some.inj h
    refine ⟨rfl, ?_⟩
    have e : sec = List.replicate 64 0 := by
      rw [List.eq_replicate_iff]
      unfold allZ at hz
      rw [decide_eq_true_eq] at hz
      exact ⟨hl, hz⟩
    rw [e]; rfl
  · rw [if_neg hz] at h
    unfold openH at h
    split at h
    · obtain rfl := Option.some.inj h
      refine ⟨c8 _ _, ?_⟩
      rw [cf, List.take_take]; rfl
    · cases h
theorem allZ_eq {sec : List Nat} (hl : sec.length = 64) : allZ sec = decide (sec = List.replicate 64 0) := by
  rw [Bool.eq_iff_iff, decide_eq_true_eq]
  unfold allZ
  rw [decide_eq_true_eq, List.eq_replicate_iff]
  exact ⟨fun h => ⟨hl, h⟩, fun h => h.2⟩
set_option maxHeartbeats 2000000 in
theorem get_dev : GetHSays := by
  intro w S a d n h hd hn
  have HSt := Lib.hid (fun W => stripe_dev (n : Int) W)
  have hst : strH (n : Int) = true := decide_eq_true ⟨by omega, by omega⟩
  rw [hst] at HSt
  have hs := h.newest_sec (n := 26 + n) (by omega)
  have HR := Lib.hid (fun W (hW : Below w.heap.size w W) => hread_dev (h.below hW (Nat.le_refl _)) hd (n := 26 + n) (by omega))
  rw [show ((26 + n : Nat) : Int) = 26 + (n : Int) by omega] at HR
  generalize d.newest (26 + n) = bs at *
  replace HR := Lib.hid (HR.out w (Below.refl _ _))
  have hn8 : (n : Int) < 8 := by omega
  have hn0 : (0 : Int) ≤ (n : Int) := by omega
  have hw : IntKind.i64.wrap (26 + (n : Int)) = 26 + (n : Int) := by rw [IntKind.wrap_i64]; omega
  have HI := Lib.hid (show (Try.prog.info? 64).map (·.size) = some (vals bs).toArray.size by rw [hsec_size, vals_size, hs.1])
  have HAl := Lib.hid (vals_all bs)
  obtain ⟨Zl, hZl⟩ : ∃ Zl, Zl = vals (List.replicate 64 0) := ⟨_, rfl⟩
  obtain ⟨Z, hZ⟩ : ∃ Z, Z = (vals (List.replicate 64 0)).toArray := ⟨_, rfl⟩
  have HZ := Lib.hid (show (Try.prog.info? 64).map (·.zero) = some (some (.agg Z)) by rw [hZ]; exact hsec_zero)
  have HSz := Lib.hid (show Z.size = (vals bs).toArray.size by rw [hZ, vals_size, vals_size, hs.1]; simp)
  have HNq := Lib.hid (fun W => show (binOp .neq 64 (.agg (vals bs).toArray) (.agg Z)).run Try.prog W = .ok (.bool (!allZ bs)) W by
    rw [hZ, bytes_neq W 64 64 Try.underlying64 bs (List.replicate 64 0) hs.1 (by simp), allZ_eq hs.1])
  have HE8 := Lib.hid (show (Try.prog.info? 5).map (·.size) = some 1 from size8H)
  have HRd := Lib.hid (show ∀ l, readHm bs = some l → l.length = 4 ∧ l.flatten = bs.take 32 from fun l h => read_len hs.1 h)
  have HBo := Lib.hid (fun W => blocksOf_dev bs hs W)
  have HSe := Lib.hid (fun W => sealed_dev bs 32 hs (by omega) W)
  rw [seal_open hs.1 (show 32 + 4 ≤ 64 by omega), show ((32 : Nat) : Int) = 32 from rfl] at HSe
  have h32 : (bs.take 32).length = 32 := by rw [List.length_take, hs.1]; rfl
  have HIk := Lib.hid (show (Try.prog.info? 69).map (·.size) = some (vals (bs.take 32)).toArray.size by rw [blk_size, vals_size, h32])
  have HAk := Lib.hid (vals_all (bs.take 32))
  obtain ⟨Zk, hZk⟩ : ∃ Z, Z = (vals (List.replicate 32 0)).toArray := ⟨_, rfl⟩
  have HZk := Lib.hid (show (Try.prog.info? 69).map (·.zero) = some (some (.agg Zk)) by rw [hZk]; exact blk_zero)
  have HSk := Lib.hid (show Zk.size = (vals (bs.take 32)).toArray.size by rw [hZk, vals_size, vals_size, h32]; simp)
  have HLt := Lib.hid (show ∀ x ∈ bs.take 32, x < 256 from fun x hx => hs.2 x (List.mem_of_mem_take hx))
  have H32 := Lib.hid h32
  generalize bs.take 32 = ys at *
  clear h hd hn hst hs hZl hZ h32 hZk
  cases hz : allZ bs with
  | true =>
    rw [hz] at HNq
    have hr : readHm bs = some blocks0 := if_pos hz
    have HF := Lib.hid (show blocks0.flatten = ys from (HRd.out _ hr).2)
    rw [hr]
    clear hz hr
    suffices H : Calls Try.prog 9 #[.pointer (some ⟨a, 0, none⟩), .int .i64 (n : Int)] w fun e w' => ∃ A c, e = .returned (.tuple #[.slice A 4 c, .int .i64 0]) ∧ By w' w'.heap.size A ys ∧ 4 ≤ c ∧ c ≤ maxLen ∧ Below w.heap.size w w' by
      refine H.mono ?_
      rintro e w' ⟨A, c, rfl, hy, hc4, hcm, hb⟩
      exact ⟨A, c, rfl, by rw [show (some blocks0).getD [] = blocks0 from rfl, HF.out]; exact hy, hc4, hcm, hb⟩
    go_enter Try.func9, Try.ntmps9
    go_wp2_with (fail)
    refine (HSt.out _).mono ?_
    rintro e w1 ⟨rfl, rfl⟩
    go_wp2_with (fail)
    refine HR.out.mono ?_
    rintro e w2 ⟨rfl, hb2⟩
    have HB2 := Lib.hid hb2
    clear hb2
    have hz2 := heap_alloc_new w2 (.cells Z 64)
    have hZ2 := Lib.hid hz2
    obtain ⟨w3, hw3⟩ : ∃ x, x = (w2.alloc (.cells Z 64)).setRow w2.heap.size (vals bs).toArray := ⟨_, rfl⟩
    have hg3 : w3.heap[w2.heap.size]? = some (.cells (vals bs).toArray 64 (0, 0)) := by rw [hw3]; exact setRow_heap _ _ _ _ _ _ hz2
    have hs3 : w3.heap.size = w2.heap.size + 1 := by rw [hw3]; simp [World.setRow]
    have HB3 := Lib.hid (show Below w.heap.size w w3 by rw [hw3]; exact below_setRow (HB2.out.alloc HB2.out.size _) HB2.out.size _)
    have HG3 := Lib.hid hg3
    have HS3 := Lib.hid hs3
    have HW3 := Lib.hid hw3
    clear hz2 hw3 hg3 hs3
    have heq := HNq.out
    go_wp2_with (first | (refine wpList_alloc_any rfl 64 rfl Z HZ.out ?_) | (refine wpList_store_row rfl 64 _ _ rfl w2.heap.size (vals bs).toArray rfl rfl 64 Z hZ2.out HI.out HSz.out HAl.out ?_; rw [← HW3.out]) | (refine wpList_load_row rfl 64 (.tmp 6) rfl w2.heap.size rfl 64 (vals bs).toArray (0, 0) _ HG3.out Try.underlying64 rfl HI.out ?_) | (refine wpList_build_zero rfl 64 rfl 64 5 Try.underlying64 Z HZ.out 1 HE8.out ?_))
    refine (HBo.out _).mono ?_
    rintro e w4 ⟨rfl, hb4⟩
    have HB4 := Lib.hid (HB3.out.trans (hb4.mono HB3.out.size))
    have hz4 := heap_alloc_new w4 (.cells Zk 69)
    have hZ4 := Lib.hid hz4
    have hg6 : ((w4.alloc (.cells Zk 69)).setRow w4.heap.size (vals ys).toArray).heap[w4.heap.size]? = some (.cells (vals ys).toArray 69 (0, 0)) := setRow_heap _ _ _ _ _ _ hz4
    have HB6 := Lib.hid (below_setRow (HB4.out.alloc HB4.out.size (.cells Zk 69)) HB4.out.size (vals ys).toArray)
    have HYs := Lib.hid (show By ((w4.alloc (.cells Zk 69)).setRow w4.heap.size (vals ys).toArray) ((w4.alloc (.cells Zk 69)).setRow w4.heap.size (vals ys).toArray).heap.size (some ⟨w4.heap.size, 0, none⟩) ys from (By.of_row hg6 (by rw [List.take_of_length_le (by simp [vals_length])]) HLt.out).mono (by simp [World.setRow]))
    clear hb4 hz4 hg6
    go_wp2_with (first
      | (refine wpList_alloc_any rfl 69 rfl Zk HZk.out ?_)
      | (refine wpList_store_row rfl 69 _ _ rfl w4.heap.size (vals ys).toArray rfl rfl 69 Zk hZ4.out HIk.out HSk.out HAk.out ?_))
    go_ret2
    exact ⟨some ⟨w4.heap.size, 0, none⟩, 4, rfl, HYs.out, by decide, by unfold maxLen; decide, HB6.out⟩
  | false =>
    rw [hz] at HNq
    cases ho : openH bs 32 with
    | some b =>
      rw [ho, Option.isSome_some] at HSe
      have hr : readHm bs = some (cut8 b 4) := by unfold readHm; rw [hz, ho]; rfl
      have HF := Lib.hid (HRd.out _ hr)
      rw [hr]
      generalize cut8 b 4 = l4 at *
      clear hz hr ho
      suffices H : Calls Try.prog 9 #[.pointer (some ⟨a, 0, none⟩), .int .i64 (n : Int)] w fun e w' => ∃ A c, e = .returned (.tuple #[.slice A 4 c, .int .i64 0]) ∧ By w' w'.heap.size A ys ∧ 4 ≤ c ∧ c ≤ maxLen ∧ Below w.heap.size w w' by
        refine H.mono ?_
        rintro e w' ⟨A, c, rfl, hy, hc4, hcm, hb⟩
        exact ⟨A, c, by rw [show (some l4).getD [] = l4 from rfl, HF.out.1]; rfl, by rw [show (some l4).getD [] = l4 from rfl, HF.out.2]; exact hy, by rw [show (some l4).getD [] = l4 from rfl, HF.out.1]; exact hc4, hcm, hb⟩
      go_enter Try.func9, Try.ntmps9
      go_wp2_with (fail)
      refine (HSt.out _).mono ?_
      rintro e w1 ⟨rfl, rfl⟩
      go_wp2_with (fail)
      refine HR.out.mono ?_
      rintro e w2 ⟨rfl, hb2⟩
      have HB2 := Lib.hid hb2
      clear hb2
      have hz2 := heap_alloc_new w2 (.cells Z 64)
      have hZ2 := Lib.hid hz2
      obtain ⟨w3, hw3⟩ : ∃ x, x = (w2.alloc (.cells Z 64)).setRow w2.heap.size (vals bs).toArray := ⟨_, rfl⟩
      have hg3 : w3.heap[w2.heap.size]? = some (.cells (vals bs).toArray 64 (0, 0)) := by rw [hw3]; exact setRow_heap _ _ _ _ _ _ hz2
      have hs3 : w3.heap.size = w2.heap.size + 1 := by rw [hw3]; simp [World.setRow]
      have HB3 := Lib.hid (show Below w.heap.size w w3 by rw [hw3]; exact below_setRow (HB2.out.alloc HB2.out.size _) HB2.out.size _)
      have HG3 := Lib.hid hg3
      have HS3 := Lib.hid hs3
      have HW3 := Lib.hid hw3
      clear hz2 hw3 hg3 hs3
      have heq := HNq.out
      go_wp2_with (first | (refine wpList_alloc_any rfl 64 rfl Z HZ.out ?_) | (refine wpList_store_row rfl 64 _ _ rfl w2.heap.size (vals bs).toArray rfl rfl 64 Z hZ2.out HI.out HSz.out HAl.out ?_; rw [← HW3.out]) | (refine wpList_load_row rfl 64 (.tmp 6) rfl w2.heap.size rfl 64 (vals bs).toArray (0, 0) _ HG3.out Try.underlying64 rfl HI.out ?_) | (refine wpList_build_zero rfl 64 rfl 64 5 Try.underlying64 Z HZ.out 1 HE8.out ?_) | (refine wpList_load_row_if (by rfl) 64 (.tmp 6) rfl w2.heap.size rfl 64 (vals bs).toArray (0, 0) _ HG3.out Try.underlying64 rfl HI.out ?_))
      refine (HSe.out _).mono ?_
      rintro e w3' ⟨rfl, hb3'⟩
      have HB3' := Lib.hid (HB3.out.trans (hb3'.mono HB3.out.size))
      have HG3' := Lib.hid ((hb3'.block _ (by have := HS3.out; omega)).trans HG3.out)
      clear HB3 HG3 hb3'
      have HB3 := HB3'
      have HG3 := HG3'
      clear HB3' HG3'
      go_wp2_with (first | (refine wpList_load_row rfl 64 (.tmp 6) rfl w2.heap.size rfl 64 (vals bs).toArray (0, 0) _ HG3.out Try.underlying64 rfl HI.out ?_))
      refine (HBo.out _).mono ?_
      rintro e w4 ⟨rfl, hb4⟩
      have HB4 := Lib.hid (HB3.out.trans (hb4.mono HB3.out.size))
      have hz4 := heap_alloc_new w4 (.cells Zk 69)
      have hZ4 := Lib.hid hz4
      have hg6 : ((w4.alloc (.cells Zk 69)).setRow w4.heap.size (vals ys).toArray).heap[w4.heap.size]? = some (.cells (vals ys).toArray 69 (0, 0)) := setRow_heap _ _ _ _ _ _ hz4
      have HB6 := Lib.hid (below_setRow (HB4.out.alloc HB4.out.size (.cells Zk 69)) HB4.out.size (vals ys).toArray)
      have HYs := Lib.hid (show By ((w4.alloc (.cells Zk 69)).setRow w4.heap.size (vals ys).toArray) ((w4.alloc (.cells Zk 69)).setRow w4.heap.size (vals ys).toArray).heap.size (some ⟨w4.heap.size, 0, none⟩) ys from (By.of_row hg6 (by rw [List.take_of_length_le (by simp [vals_length])]) HLt.out).mono (by simp [World.setRow]))
      clear hb4 hz4 hg6
      go_wp2_with (first
        | (refine wpList_alloc_any rfl 69 rfl Zk HZk.out ?_)
        | (refine wpList_store_row rfl 69 _ _ rfl w4.heap.size (vals ys).toArray rfl rfl 69 Zk hZ4.out HIk.out HSk.out HAk.out ?_))
      go_ret2
      exact ⟨some ⟨w4.heap.size, 0, none⟩, 4, rfl, HYs.out, by decide, by unfold maxLen; decide, HB6.out⟩
    | none =>
      rw [ho, Option.isSome_none] at HSe
      have hr : readHm bs = none := by unfold readHm; rw [hz, ho]; rfl
      rw [hr]
      clear hz hr ho
      suffices H : Calls Try.prog 9 #[.pointer (some ⟨a, 0, none⟩), .int .i64 (n : Int)] w fun e w' => e = .returned (.tuple #[.slice none 0 0, .int .i64 40]) ∧ Below w.heap.size w w' by
        refine H.mono ?_
        rintro e w' ⟨rfl, hb⟩
        exact ⟨none, 0, rfl, By.nil_, Nat.le_refl _, Nat.zero_le _, hb⟩
      go_enter Try.func9, Try.ntmps9
      go_wp2_with (fail)
      refine (HSt.out _).mono ?_
      rintro e w1 ⟨rfl, rfl⟩
      go_wp2_with (fail)
      refine HR.out.mono ?_
      rintro e w2 ⟨rfl, hb2⟩
      have HB2 := Lib.hid hb2
      clear hb2
      have hz2 := heap_alloc_new w2 (.cells Z 64)
      have hZ2 := Lib.hid hz2
      obtain ⟨w3, hw3⟩ : ∃ x, x = (w2.alloc (.cells Z 64)).setRow w2.heap.size (vals bs).toArray := ⟨_, rfl⟩
      have hg3 : w3.heap[w2.heap.size]? = some (.cells (vals bs).toArray 64 (0, 0)) := by rw [hw3]; exact setRow_heap _ _ _ _ _ _ hz2
      have hs3 : w3.heap.size = w2.heap.size + 1 := by rw [hw3]; simp [World.setRow]
      have HB3 := Lib.hid (show Below w.heap.size w w3 by rw [hw3]; exact below_setRow (HB2.out.alloc HB2.out.size _) HB2.out.size _)
      have HG3 := Lib.hid hg3
      have HS3 := Lib.hid hs3
      have HW3 := Lib.hid hw3
      clear hz2 hw3 hg3 hs3
      have heq := HNq.out
      go_wp2_with (first | (refine wpList_alloc_any rfl 64 rfl Z HZ.out ?_) | (refine wpList_store_row rfl 64 _ _ rfl w2.heap.size (vals bs).toArray rfl rfl 64 Z hZ2.out HI.out HSz.out HAl.out ?_; rw [← HW3.out]) | (refine wpList_load_row rfl 64 (.tmp 6) rfl w2.heap.size rfl 64 (vals bs).toArray (0, 0) _ HG3.out Try.underlying64 rfl HI.out ?_) | (refine wpList_build_zero rfl 64 rfl 64 5 Try.underlying64 Z HZ.out 1 HE8.out ?_) | (refine wpList_load_row_if (by rfl) 64 (.tmp 6) rfl w2.heap.size rfl 64 (vals bs).toArray (0, 0) _ HG3.out Try.underlying64 rfl HI.out ?_))
      refine (HSe.out _).mono ?_
      rintro e w4 ⟨rfl, hb4⟩
      have HB4 := Lib.hid (HB3.out.trans (hb4.mono HB3.out.size))
      clear hb4
      go_wp2
      go_ret2
      exact ⟨rfl, HB4.out⟩
end Go.Proofs.Ytgkbhdecohlpmaa
end

section
/-
  Get, of the program, by contract.
-/
namespace Go.Proofs.Ytgkbhdecohlpmaa
set_option maxRecDepth 100000
open Go.RowKit

theorem wid_yes {m : Nat} (h1 : 1 ≤ m) (h6 : m ≤ 6) : wid m = true := by unfold wid; simp; omega
theorem wid_of {z : Int} (h : wid z = true) : ∃ m : Nat, z = m ∧ 1 ≤ m ∧ m ≤ 6 := by
  unfold wid at h
  rw [decide_eq_true_eq] at h
  exact ⟨z.toNat, by omega, by omega, by omega⟩
theorem six_ways {k : Nat} (h : k < 6) : k = 0 ∨ k = 1 ∨ k = 2 ∨ k = 3 ∨ k = 4 ∨ k = 5 := by omega
/-- the part that stands at a place -/
theorem part_snoc (bs : List Nat) (a k : Nat) (h : a + k < bs.length) : (bs.drop a).take (k + 1) = (bs.drop a).take k ++ [bs.getD (a + k) 0] := by
  rw [List.take_succ_eq_append_getElem (by rw [List.length_drop]; omega), List.getElem_drop, getD_at _ _ h]
theorem part_length (bs : List Nat) (a k : Nat) (h : a + k ≤ bs.length) : ((bs.drop a).take k).length = k := by
  rw [List.length_take, List.length_drop]; omega

set_option maxHeartbeats 400000 in
theorem get_yes (bs : List Nat) (a m : Nat) (hm : 1 ≤ m) (hm6 : m ≤ 6) (ha : a + m ≤ bs.length) (A : Option Addr) (c : Nat) (w : World) (hA : By w w.heap.size A bs) (hl : bs.length ≤ 100000000) :
    Calls Try.prog 49 #[.slice A bs.length c, .int .i64 (a : Int), .int .i64 (m : Int)] w fun e w' => e = .returned (.tuple #[.int .i64 (num ((bs.drop a).take m) : Nat), .int .i64 0]) ∧ w = w' := by
  have hw := Lib.hid (isWidth_any m)
  rw [wid_yes hm hm6] at hw
  obtain ⟨b, off, rfl, hb, hcells⟩ := hA.at_ (by omega)
  have hbl := hA.1
  clear hA
  go_enter Try.func49, Try.ntmps49
  go_wp2_with fail
  refine (hw.out _).mono ?_
  rintro e w1 ⟨rfl, rfl⟩
  go_wp2
  go_loop [8, 9, 24] (fun n _ i => ∃ k : Nat, k ≤ m ∧ i = .int .i64 k ∧ n = .int .i64 (num ((bs.drop a).take k) : Nat)) (fun _ _ i => m - (intOf i).toNat)
  case atStart => exact ⟨0, by omega, rfl, rfl⟩
  case round =>
    obtain ⟨k, hk, rfl, rfl⟩ := hrel
    by_cases hlt : k < m
    · have hk6 : k < 6 := by omega
      have hp := part_snoc bs a k (by omega)
      have hpl := part_length bs a k (by omega)
      have hcell := hcells (a + k) (by omega)
      have hlen : a + k < bs.length := by omega
      have hN := num_lt ((bs.drop a).take k) fun x hx => hbl x (List.mem_of_mem_drop (List.mem_of_mem_take hx))
      have hB : bs.getD (a + k) 0 < 256 := by rw [getD_at _ _ hlen]; exact hbl _ (List.getElem_mem hlen)
      have hs := num_snoc (bs.getD (a + k) 0) ((bs.drop a).take k)
      rw [← hp, hpl] at hs
      rw [hpl] at hN
      have ho := or_hi k _ _ hN hB hk6
      rw [← hs] at ho
      clear hp hpl hcells hbl hs
      generalize bs.getD (a + k) 0 = B at *
      generalize num ((bs.drop a).take k) = N at *
      obtain ⟨N', hN'⟩ : ∃ N', num ((bs.drop a).take (k + 1)) = N' := ⟨_, rfl⟩
      rw [hN'] at ho
      have HN := Lib.hid hN'
      clear hN'
      rcases six_ways hk6 with rfl | rfl | rfl | rfl | rfl | rfl
      · rw [show ((B * 256 ^ 0 : Nat) : Int) = (B : Int) by omega] at ho
        rw [Nat.add_zero] at hcell
        go_wp2
        exact ⟨⟨1, by omega, rfl, by rw [HN.out]⟩, by simp [intOf]; omega⟩
      · rw [show ((B * 256 ^ 1 : Nat) : Int) = (B : Int) * 256 by omega] at ho
        go_wp2
        exact ⟨⟨2, by omega, rfl, by rw [HN.out]⟩, by simp [intOf]; omega⟩
      · rw [show ((B * 256 ^ 2 : Nat) : Int) = (B : Int) * 65536 by omega] at ho
        go_wp2
        exact ⟨⟨3, by omega, rfl, by rw [HN.out]⟩, by simp [intOf]; omega⟩
      · rw [show ((B * 256 ^ 3 : Nat) : Int) = (B : Int) * 16777216 by omega] at ho
        go_wp2
        exact ⟨⟨4, by omega, rfl, by rw [HN.out]⟩, by simp [intOf]; omega⟩
      · rw [show ((B * 256 ^ 4 : Nat) : Int) = (B : Int) * 4294967296 by omega] at ho
        go_wp2
        exact ⟨⟨5, by omega, rfl, by rw [HN.out]⟩, by simp [intOf]; omega⟩
      · rw [show ((B * 256 ^ 5 : Nat) : Int) = (B : Int) * 1099511627776 by omega] at ho
        go_wp2
        exact ⟨⟨6, by omega, rfl, by rw [HN.out]⟩, by simp [intOf]; omega⟩
    · obtain rfl : k = m := by omega
      go_wp2
      go_ret2
      exact ⟨rfl, rfl⟩

set_option maxHeartbeats 400000 in
theorem get_width (n : Nat) (a z : Int) (hz : wid z = false) (A : Option Addr) (c : Nat) (w : World) :
    Calls Try.prog 49 #[.slice A n c, .int .i64 a, .int .i64 z] w fun e w' => e = .returned (.tuple #[.int .i64 0, .int .i64 2]) ∧ w = w' := by
  have hw := Lib.hid (isWidth_any z)
  rw [hz] at hw
  go_enter Try.func49, Try.ntmps49
  go_wp2_with fail
  refine (hw.out _).mono ?_
  rintro e w1 ⟨rfl, rfl⟩
  go_wp2
  go_ret2
  exact ⟨rfl, rfl⟩
set_option maxHeartbeats 400000 in
theorem get_place (n : Nat) (a : Int) (m : Nat) (hm : 1 ≤ m) (hm6 : m ≤ 6) (ha : a < 0 ∨ (n : Int) - m < a) (hn : n ≤ 100000000) (A : Option Addr) (c : Nat) (w : World) :
    Calls Try.prog 49 #[.slice A n c, .int .i64 a, .int .i64 (m : Int)] w fun e w' => e = .returned (.tuple #[.int .i64 0, .int .i64 40]) ∧ w = w' := by
  have hw := Lib.hid (isWidth_any m)
  rw [wid_yes hm hm6] at hw
  by_cases h0 : a < 0
  all_goals
    go_enter Try.func49, Try.ntmps49
    go_wp2_with fail
    refine (hw.out _).mono ?_
    rintro e w1 ⟨rfl, rfl⟩
    go_wp2
    go_ret2
    exact ⟨rfl, rfl⟩

end Go.Proofs.Ytgkbhdecohlpmaa
end

section
/-
  The developers' answers: the superblock of a sector's bytes.
-/
namespace Go.Proofs.Ytgkbhdecohlpmaa
set_option maxRecDepth 100000
open Go.RowKit
set_option maxRecDepth 100000

theorem num_le : ∀ l : List Nat, num l = Crc.le l := by
  intro l
  induction l with
  | nil => rfl
  | cons a l ih => rw [num, Crc.le, ih]
/-- where number k begins -/
def offN : Nat → Nat
  | 0 => 0
  | k + 1 => offN k + wdN k
theorem offN_le {k : Nat} (h : k ≤ 13) : offN k ≤ 27 ∧ (k < 13 → offN k + wdN k ≤ 27) := by
  have : k = 0 ∨ k = 1 ∨ k = 2 ∨ k = 3 ∨ k = 4 ∨ k = 5 ∨ k = 6 ∨ k = 7 ∨ k = 8 ∨ k = 9 ∨ k = 10 ∨ k = 11 ∨ k = 12 ∨ k = 13 := by omega
  rcases this with rfl | rfl | rfl | rfl | rfl | rfl | rfl | rfl | rfl | rfl | rfl | rfl | rfl | rfl <;> decide
/-- number k of a sector's bytes -/
def zS (bs : List Nat) (k : Nat) : Nat := Crc.le ((bs.drop (offN k)).take (wdN k))
def rowS (bs : List Nat) (k : Nat) : Array Value := ((List.range 13).map fun j => Value.int .i64 (if j < k then (zS bs j : Int) else 0)).toArray
theorem rowS_size (bs : List Nat) (k : Nat) : (rowS bs k).size = 13 := by simp [rowS]
theorem rowS_get (bs : List Nat) (k j : Nat) (h : j < 13) : (rowS bs k)[j]? = some (.int .i64 (if j < k then (zS bs j : Int) else 0)) := by
  unfold rowS
  simp [h]
theorem rowS_set (bs : List Nat) (k : Nat) (h : k < 13) : (rowS bs k).setIfInBounds k (.int .i64 (zS bs k : Int)) = rowS bs (k + 1) := by
  apply Array.ext_getElem?
  intro j
  rcases Nat.lt_or_ge j 13 with hj | hj
  · rw [rowS_get bs (k + 1) j hj]
    by_cases e : k = j
    · subst e
      rw [Array.getElem?_setIfInBounds_self_of_lt (by rw [rowS_size]; exact h), if_pos (by omega)]
    · rw [Array.getElem?_setIfInBounds_ne e, rowS_get bs k j hj]
      by_cases h2 : j < k
      · rw [if_pos h2, if_pos (by omega)]
      · rw [if_neg h2, if_neg (by omega)]
  · rw [Array.getElem?_eq_none (by rw [Array.size_setIfInBounds, rowS_size]; exact hj), Array.getElem?_eq_none (by rw [rowS_size]; exact hj)]
theorem rowS_zero (bs : List Nat) : rowS bs 0 = zeroS.cells := by
  unfold rowS
  rw [zero_cells]
  simp
  rfl
theorem le_one (bs : List Nat) (i : Nat) (h : i < bs.length) : Crc.le ((bs.drop i).take 1) = bs[i] := by
  rw [List.drop_eq_getElem_cons h, List.take_succ_cons, List.take_zero]
  simp [Crc.le]
theorem rowS_all {bs : List Nat} (h : bs.length = 64) : rowS bs 13 = (supOf bs).cells := by
  have hm : (bs.drop 19).take 8 = [bs[19], bs[20], bs[21], bs[22], bs[23], bs[24], bs[25], bs[26]] := by
    rw [List.drop_eq_getElem_cons (by omega), List.drop_eq_getElem_cons (by omega), List.drop_eq_getElem_cons (by omega), List.drop_eq_getElem_cons (by omega), List.drop_eq_getElem_cons (by omega), List.drop_eq_getElem_cons (by omega), List.drop_eq_getElem_cons (by omega), List.drop_eq_getElem_cons (by omega)]
    rfl
  unfold rowS Sup.cells supOf Sup.ints
  rw [hm]
  rw [show List.range 13 = [0, 1, 2, 3, 4, 5, 6, 7, 8, 9, 10, 11, 12] from rfl]
  simp only [List.map_cons, List.map_nil]
  unfold zS
  rw [show offN 0 = 0 from rfl, show offN 1 = 6 from rfl, show offN 2 = 12 from rfl, show offN 3 = 13 from rfl, show offN 4 = 16 from rfl, show offN 5 = 19 from rfl, show offN 6 = 20 from rfl, show offN 7 = 21 from rfl, show offN 8 = 22 from rfl, show offN 9 = 23 from rfl, show offN 10 = 24 from rfl, show offN 11 = 25 from rfl, show offN 12 = 26 from rfl]
  rw [show wdN 0 = 6 from rfl, show wdN 1 = 6 from rfl, show wdN 2 = 1 from rfl, show wdN 3 = 3 from rfl, show wdN 4 = 3 from rfl, show wdN 5 = 1 from rfl, show wdN 6 = 1 from rfl, show wdN 7 = 1 from rfl, show wdN 8 = 1 from rfl, show wdN 9 = 1 from rfl, show wdN 10 = 1 from rfl, show wdN 11 = 1 from rfl, show wdN 12 = 1 from rfl]
  rw [le_one bs 19 (by omega), le_one bs 20 (by omega), le_one bs 21 (by omega), le_one bs 22 (by omega), le_one bs 23 (by omega), le_one bs 24 (by omega), le_one bs 25 (by omega), le_one bs 26 (by omega), List.drop_zero]
  simp only [show (0 : Nat) < 13 by omega, show (1 : Nat) < 13 by omega, show (2 : Nat) < 13 by omega, show (3 : Nat) < 13 by omega, show (4 : Nat) < 13 by omega, show (5 : Nat) < 13 by omega, show (6 : Nat) < 13 by omega, show (7 : Nat) < 13 by omega, show (8 : Nat) < 13 by omega, show (9 : Nat) < 13 by omega, show (10 : Nat) < 13 by omega, show (11 : Nat) < 13 by omega, show (12 : Nat) < 13 by omega, if_true]
theorem supOf_fine {bs : List Nat} (h : Dk.Sec bs) : (supOf bs).Fine := by
  have hl := h.1
  have hp : ∀ i m, m ≤ 6 → Crc.le ((bs.drop i).take m) < 9223372036854775808 := fun i m hm => by
    have h1 := Crc.le_lt (bs := (bs.drop i).take m) fun b hb => h.2 b (List.mem_of_mem_drop (List.mem_of_mem_take hb))
    have h2 : ((bs.drop i).take m).length ≤ 6 := by rw [List.length_take]; omega
    have h3 : 2 ^ (8 * ((bs.drop i).take m).length) ≤ 2 ^ 48 := Nat.pow_le_pow_right (by omega) (by omega)
    have h4 : (2 : Nat) ^ 48 < 9223372036854775808 := by decide
    omega
  refine ⟨by unfold supOf; simp; omega, fun z hz => ?_⟩
  unfold supOf Sup.ints at hz
  simp only [List.mem_cons] at hz
  rcases hz with rfl | rfl | rfl | rfl | rfl | hz
  · have := hp 0 6 (by omega); rw [List.drop_zero] at this; omega
  · have := hp 6 6 (by omega); omega
  · have := hp 12 1 (by omega); omega
  · have := hp 13 3 (by omega); omega
  · have := hp 16 3 (by omega); omega
  · obtain ⟨x, hx, rfl⟩ := List.mem_map.1 hz
    have := h.2 x (List.mem_of_mem_drop (List.mem_of_mem_take hx))
    omega
set_option maxHeartbeats 2000000 in
theorem superOf_dev (bs : List Nat) (hb : Dk.Sec bs) (w : World) :
    Calls Try.prog 44 #[.agg (vals bs).toArray] w fun e w' => e = .returned (.agg (supOf bs).cells) ∧ Below w.heap.size w w' := by
  have HAl := Lib.hid (rowS_all hb.1)
  have HIr := Lib.hid (fun k => show (Try.prog.info? 25).map (·.size) = some (rowS bs k).size by rw [super_info, rowS_size])
  obtain ⟨w1, hw1⟩ : ∃ w1, w1 = w.alloc (.cells (vals bs).toArray 64) := ⟨_, rfl⟩
  obtain ⟨Z, hZ⟩ : ∃ Z, Z = zeroS.cells := ⟨_, rfl⟩
  have HZ := Lib.hid (show (Try.prog.info? 25).map (·.zero) = some (some (.agg Z)) by rw [hZ, zero_cells]; kernel_rfl)
  obtain ⟨w2, hw2⟩ : ∃ w2, w2 = w1.alloc (.cells Z 25) := ⟨_, rfl⟩
  obtain ⟨w3, hw3⟩ : ∃ w3, w3 = w2.alloc (.cells Z 25) := ⟨_, rfl⟩
  have hs1 : w1.heap.size = w.heap.size + 1 := by rw [hw1]; simp
  have hs2 : w2.heap.size = w1.heap.size + 1 := by rw [hw2]; simp
  have hs3 : w3.heap.size = w2.heap.size + 1 := by rw [hw3]; simp
  have hb1 : Below w.heap.size w w1 := by rw [hw1]; exact (Below.refl _ w).alloc (Nat.le_refl _) _
  have hb2 : Below w1.heap.size w1 w2 := by rw [hw2]; exact (Below.refl _ w1).alloc (Nat.le_refl _) _
  have hb3 : Below w2.heap.size w2 w3 := by rw [hw3]; exact (Below.refl _ w2).alloc (Nat.le_refl _) _
  have H0 := Lib.hid (show w3.heap[w.heap.size]? = some (.cells (vals bs).toArray 64 (0, 0)) from (hb3.block _ (by omega)).trans ((hb2.block _ (by omega)).trans (by rw [hw1]; exact heap_alloc_new w _)))
  have H1 := Lib.hid (show w3.heap[w1.heap.size]? = some (.cells Z 25 (0, 0)) from (hb3.block _ (by omega)).trans (by rw [hw2]; exact heap_alloc_new w1 _))
  have H2 := Lib.hid (show w3.heap[w2.heap.size]? = some (.cells (rowS bs 0) 25 (0, 0)) by rw [hw3, heap_alloc_new w2 _, hZ, rowS_zero])
  have HB3 := Lib.hid (hb1.trans ((hb2.trans (hb3.mono hb2.size)).mono hb1.size))
  have HG := Lib.hid (show w.heap.size < w2.heap.size ∧ w.heap.size < w1.heap.size ∧ w1.heap.size < w2.heap.size ∧ w3.heap.size = w2.heap.size + 1 by omega)
  have HNu := Lib.hid (numbers_dev w2.heap.size w3 (by omega))
  have HGet := Lib.hid (fun W (hW : W.heap[w.heap.size]? = some (.cells (vals bs).toArray 64 (0, 0))) k (hk : k < 13) => show Calls Try.prog 49 #[.slice (some ⟨w.heap.size, 0, none⟩) 64 64, .int .i64 (offN k : Nat), .int .i64 (wdN k : Nat)] W fun e w' => e = .returned (.tuple #[.int .i64 (zS bs k : Nat), .int .i64 0]) ∧ W = w' from by
    have hlt : w.heap.size < W.heap.size := (Array.getElem?_eq_some_iff.1 hW).1
    have hy : By W W.heap.size (some ⟨w.heap.size, 0, none⟩) bs := (By.of_row hW (by rw [List.take_of_length_le (by simp [vals_length])]) hb.2).mono hlt
    have := get_yes bs (offN k) (wdN k) (wdN_ok k).1 (wdN_ok k).2 (by have := (offN_le (k := k) (by omega)).2 hk; rw [hb.1]; omega) (some ⟨w.heap.size, 0, none⟩) 64 W hy (by rw [hb.1]; omega)
    rw [num_le, hb.1] at this
    exact this)
  have HW1 := Lib.hid hw1
  have HW2 := Lib.hid hw2
  have HW3 := Lib.hid hw3
  have HSz := Lib.hid (show Z.size = 13 by rw [hZ]; rfl)
  generalize hgg1 : w1.heap.size = g2 at *
  generalize hgg2 : w2.heap.size = g3 at *
  have HQ1 := Lib.hid hgg1
  have HQ2 := Lib.hid hgg2
  clear hb hZ hw1 hw2 hw3 hs1 hs2 hs3 hb1 hb2 hb3 hgg1 hgg2
  go_enter Try.func44, Try.ntmps44
  go_wp2_with (first
    | (rw [← HW1.out])
    | (refine wpList_alloc_any rfl 25 rfl Z HZ.out ?_; (first | (rw [← HW2.out, HQ1.out]) | (rw [← HW3.out, HQ2.out]))))
  refine HNu.out.mono ?_
  rintro e w4 ⟨v, rfl, hv, hb4⟩
  obtain ⟨b, off, c, rfl, hbb, hbl, hc1, hc2, hat⟩ := nums_at hv
  have HAt := Lib.hid hat
  have HBl := Lib.hid (show w3.heap.size ≤ b ∧ b < w4.heap.size from ⟨hbb, hbl⟩)
  have HB4 := Lib.hid (HB3.out.trans (hb4.mono HB3.out.size))
  have H0_ := Lib.hid ((hb4.block _ (by have := HG.out; omega)).trans H0.out)
  have H1_ := Lib.hid ((hb4.block _ (by have := HG.out; omega)).trans H1.out)
  have H2_ := Lib.hid ((hb4.block _ (by have := HG.out; omega)).trans H2.out)
  clear hv hb4 hat hbb hbl H0 H1 H2
  go_wp2
  go_loopw [4, 9] (fun fr i wr => ∃ k : Nat, k ≤ 13 ∧ i = .int .i64 (k : Int) ∧ fr = .int .i64 (offN k : Nat) ∧ wr.heap[w.heap.size]? = some (.cells (vals bs).toArray 64 (0, 0)) ∧ wr.heap[g2]? = some (.cells Z 25 (0, 0)) ∧ wr.heap[g3]? = some (.cells (rowS bs k) 25 (0, 0)) ∧ NumsAt wr g3 b off ∧ b < wr.heap.size ∧ Below w.heap.size w wr) (fun _ i _ => 13 - (intOf i).toNat)
  case atStart => exact ⟨0, by omega, rfl, rfl, H0_.out, H1_.out, H2_.out, HAt.out, HBl.out.2, HB4.out⟩
  case round =>
    clear H0_ H1_ H2_ HAt HB4
    obtain ⟨k, hk, rfl, rfl, h0, h1, h2, hat, hbl, hb⟩ := hrel
    have H0 := Lib.hid h0
    have H1 := Lib.hid h1
    have H2 := Lib.hid h2
    have HBr := Lib.hid hb
    have HLb := Lib.hid hbl
    clear h0 h1 h2 hb
    by_cases hlt : k < 13
    · obtain ⟨l0, l1, l2, l3⟩ := hat.four hlt
      have HAt := Lib.hid hat
      have hki : (k : Int) < 13 := by omega
      have hw : IntKind.i64.wrap ((k : Int) + 1) = (k : Int) + 1 := by rw [IntKind.wrap_i64]; omega
      have hof := offN_le (k := k) (by omega)
      have hwf : IntKind.i64.wrap (((offN k : Nat) : Int) + ((wdN k : Nat) : Int)) = ((offN k : Nat) : Int) + ((wdN k : Nat) : Int) := by have := hof.2 hlt; rw [IntKind.wrap_i64]; omega
      have HOs := Lib.hid (show ((offN k : Nat) : Int) + ((wdN k : Nat) : Int) = ((offN (k + 1) : Nat) : Int) by show _ = ((offN k + wdN k : Nat) : Int); omega)
      obtain ⟨w5, hw5⟩ : ∃ x, x = (wr.alloc (.cells #[.pointer (some ⟨g3, k, none⟩), .int .i64 (wdN k : Nat), .int .i64 (loN k), .int .i64 (hiN k)] 76)).drew := ⟨_, rfl⟩
      have hb5 : Below wr.heap.size wr w5 := by rw [hw5]; exact ((Below.refl _ wr).alloc (Nat.le_refl _) _).drew
      have hg5 : w5.heap[wr.heap.size]? = some (.cells #[.pointer (some ⟨g3, k, none⟩), .int .i64 (wdN k : Nat), .int .i64 (loN k), .int .i64 (hiN k)] 76 (0, 0)) := by rw [hw5]; exact heap_alloc_new wr _
      have hz5 : w5.heap.size = wr.heap.size + 1 := by rw [hw5]; simp [World.drew]
      have lt0 := (Array.getElem?_eq_some_iff.1 H0.out).1
      have lt1 := (Array.getElem?_eq_some_iff.1 H1.out).1
      have lt2 := (Array.getElem?_eq_some_iff.1 H2.out).1
      have h05 := (hb5.block _ lt0).trans H0.out
      have h15 := (hb5.block _ lt1).trans H1.out
      have h25 := (hb5.block _ lt2).trans H2.out
      have HS5 := Lib.hid (show w5.cell? ⟨wr.heap.size, 0, none⟩ = some (.pointer (some ⟨g3, k, none⟩)) ∧ w5.cell? ⟨wr.heap.size, 1, none⟩ = some (.int .i64 (wdN k : Nat)) from ⟨by rw [cell_of_row _ _ 0 _ _ _ hg5]; rfl, by rw [cell_of_row _ _ 1 _ _ _ hg5]; rfl⟩)
      have HC2 := Lib.hid (show w5.cell? ⟨g3, k, none⟩ = some (.int .i64 0) by rw [cell_of_row w5 g3 k _ _ _ h25, rowS_get bs k k hlt, if_neg (by omega)])
      have HF2 := Lib.hid (frozen_of_row w5 g3 k _ _ h25)
      obtain ⟨w6, hw6⟩ : ∃ x, x = w5.setCell ⟨g3, k, none⟩ (.int .i64 (zS bs k : Int)) := ⟨_, rfl⟩
      have hg6 : w5.grownBy w6 (some g3) := by rw [hw6]; exact only_set (only_refl w5 (some g3)) _
      have hz6 : w5.heap.size ≤ w6.heap.size := hg6.size
      have hr6 : w6.heap[g3]? = some (.cells (rowS bs (k + 1)) 25 (0, 0)) := by rw [hw6, heap_setCell_same w5 g3 k _ _ _ h25, rowS_set bs k hlt]
      have hgg := HG.out
      have hbl2 := HBl.out
      have HR6 := Lib.hid hr6
      have HR60 := Lib.hid ((hg6.block _ (by omega) (by intro e; cases e; omega)).trans h05)
      have HR61 := Lib.hid ((hg6.block _ (by omega) (by intro e; cases e; omega)).trans h15)
      have hc6 : ∀ j, w6.cell? ⟨wr.heap.size, j, none⟩ = w5.cell? ⟨wr.heap.size, j, none⟩ := fun j => World.cell?_of_block (w := w5) (hg6.block _ (by show wr.heap.size < _; omega) (by intro e; have e2 : wr.heap.size = g3 := Option.some.inj e; omega))
      have HS6 := Lib.hid (show w6.cell? ⟨wr.heap.size, 0, none⟩ = some (.pointer (some ⟨g3, k, none⟩)) ∧ w6.cell? ⟨wr.heap.size, 1, none⟩ = some (.int .i64 (wdN k : Nat)) from ⟨(hc6 0).trans HS5.out.1, (hc6 1).trans HS5.out.2⟩)
      have HAt6 := Lib.hid (show NumsAt w6 g3 b off from fun i hi j u hu => (World.cell?_of_block (w := w5) (hg6.block _ (by show b < _; have := HLb.out; omega) (by intro e; have e2 : b = g3 := Option.some.inj e; omega))).trans ((hb5.cell (p := ⟨b, off + i * 4 + j, none⟩) HLb.out).trans (HAt.out i hi j u hu)))
      have HB6 := Lib.hid (show Below w.heap.size w w6 from (HBr.out.trans (hb5.mono HBr.out.size)).trans ⟨hg6.os, hg6.tape, hg6.output, hg6.size, fun q hq => hg6.block q (by have := HBr.out.size; omega) (by intro e; cases e; omega)⟩)
      have HL6 := Lib.hid (show b < w6.heap.size by have := HLb.out; omega)
      have HGt := Lib.hid (HGet.out w5 h05 k hlt)
      have HW5 := Lib.hid hw5
      have HW6 := Lib.hid hw6
      generalize zS bs k = zz at *
      clear hw5 hb5 hg5 hz5 lt0 lt1 lt2 h05 h15 h25 hw6 hg6 hz6 hr6 hgg hbl2 hc6 hat
      go_wp2
      refine wp_region_held_drew (S := fun W => W.cell? ⟨wr.heap.size, 0, none⟩ = some (.pointer (some ⟨g3, k, none⟩)) ∧ W.cell? ⟨wr.heap.size, 1, none⟩ = some (.int .i64 (wdN k : Nat))) (by kernel_rfl) (by rw [← HW5.out]; exact HS5.out) (fun hHeld => ?_)
      rw [← HW5.out]
      refine wpAnyH_take (i := 0) (v := ?_) rfl (by kernel_rfl) (by kernel_rfl) (by kernel_rfl) (fun _ _ _ h => h) (Or.inl ⟨by rfl, ?_⟩) (by assumption) ?_
      rotate_left
      · simp only [List.getElem_toArray, List.getElem_cons_zero, List.getElem_cons_succ]; intro W hSw; (try dsimp only at hSw); go_simp; all_goals with_reducible rfl
      simp only [Act.put, List.getElem_toArray, List.getElem_cons_zero, List.getElem_cons_succ, List.setIfInBounds_toArray, List.set_cons_zero, List.set_cons_succ]
      refine wpAnyH_take (i := 1) (v := ?_) rfl (by kernel_rfl) (by kernel_rfl) (by kernel_rfl) (fun _ _ _ h => h) (Or.inl ⟨by rfl, ?_⟩) (by assumption) ?_
      rotate_left
      · simp only [List.getElem_toArray, List.getElem_cons_zero, List.getElem_cons_succ]; intro W hSw; (try dsimp only at hSw); go_simp; all_goals with_reducible rfl
      simp only [Act.put, List.getElem_toArray, List.getElem_cons_zero, List.getElem_cons_succ, List.setIfInBounds_toArray, List.set_cons_zero, List.set_cons_succ]
      refine wpAnyH_take (i := 2) (v := ?_) rfl (by kernel_rfl) (by kernel_rfl) (by kernel_rfl) (fun _ _ _ h => h) (Or.inl ⟨by rfl, ?_⟩) (by assumption) ?_
      rotate_left
      · simp only [List.getElem_toArray, List.getElem_cons_zero, List.getElem_cons_succ]; intro W hSw; (try dsimp only at hSw); go_simp; all_goals with_reducible rfl
      simp only [Act.put, List.getElem_toArray, List.getElem_cons_zero, List.getElem_cons_succ, List.setIfInBounds_toArray, List.set_cons_zero, List.set_cons_succ]
      refine wpAnyH_take (i := 3) (v := ?_) rfl (by kernel_rfl) (by kernel_rfl) (by kernel_rfl) (fun _ _ _ h => h) (Or.inl ⟨by rfl, ?_⟩) (by assumption) ?_
      rotate_left
      · simp only [List.getElem_toArray, List.getElem_cons_zero, List.getElem_cons_succ]; intro W hSw; (try dsimp only at hSw); go_simp; all_goals with_reducible rfl
      simp only [Act.put, List.getElem_toArray, List.getElem_cons_zero, List.getElem_cons_succ, List.setIfInBounds_toArray, List.set_cons_zero, List.set_cons_succ]
      refine wpAnyH_take (i := 4) (v := ?_) rfl (by kernel_rfl) (by kernel_rfl) (by kernel_rfl) (fun _ _ _ h => h) (Or.inl ⟨by rfl, ?_⟩) (by assumption) ?_
      rotate_left
      · simp only [List.getElem_toArray, List.getElem_cons_zero, List.getElem_cons_succ]; intro W hSw; (try dsimp only at hSw); go_simp; all_goals with_reducible rfl
      simp only [Act.put, List.getElem_toArray, List.getElem_cons_zero, List.getElem_cons_succ, List.setIfInBounds_toArray, List.set_cons_zero, List.set_cons_succ]
      refine wpAnyH_take (i := 5) (v := ?_) rfl (by kernel_rfl) (by kernel_rfl) (by kernel_rfl) (fun _ _ _ h => h) (Or.inl ⟨by rfl, ?_⟩) (by assumption) ?_
      rotate_left
      · simp only [List.getElem_toArray, List.getElem_cons_zero, List.getElem_cons_succ]; intro W hSw; (try dsimp only at hSw); go_simp; all_goals with_reducible rfl
      simp only [Act.put, List.getElem_toArray, List.getElem_cons_zero, List.getElem_cons_succ, List.setIfInBounds_toArray, List.set_cons_zero, List.set_cons_succ]
      refine wpAnyH_ready (rs := [6]) (by kernel_rfl) (by simp) ?_
      refine AllReadyH.cons rfl (fun K hK => ?_) AllReadyH.nil
      simp only [List.getElem_toArray, List.getElem_cons_zero, List.getElem_cons_succ]
      go_simp
      refine HGt.out.mono ?_
      rintro e w7 ⟨rfl, rfl⟩
      go_wp2_with fail
      refine hK.out _ _ (HS5.out) (fun hHeldN => ?_)
      clear hK K hHeld
      have hHeld := hHeldN
      clear hHeldN
      (try simp only [Act.put, List.getElem_toArray, List.getElem_cons_zero, List.getElem_cons_succ, List.setIfInBounds_toArray, List.set_cons_zero, List.set_cons_succ])
      refine wpAnyH_take (i := 7) (v := ?_) rfl (by kernel_rfl) (by kernel_rfl) (by kernel_rfl) (fun _ _ _ h => h) (Or.inl ⟨by rfl, ?_⟩) (by assumption) ?_
      rotate_left
      · simp only [List.getElem_toArray, List.getElem_cons_zero, List.getElem_cons_succ]; intro W hSw; (try dsimp only at hSw); go_simp; all_goals with_reducible rfl
      simp only [Act.put, List.getElem_toArray, List.getElem_cons_zero, List.getElem_cons_succ, List.setIfInBounds_toArray, List.set_cons_zero, List.set_cons_succ]
      refine wpAnyH_take (i := 8) (v := ?_) rfl (by kernel_rfl) (by kernel_rfl) (by kernel_rfl) (fun _ _ _ h => h) (Or.inl ⟨by rfl, ?_⟩) (by assumption) ?_
      rotate_left
      · simp only [List.getElem_toArray, List.getElem_cons_zero, List.getElem_cons_succ]; intro W hSw; (try dsimp only at hSw); go_simp; all_goals with_reducible rfl
      simp only [Act.put, List.getElem_toArray, List.getElem_cons_zero, List.getElem_cons_succ, List.setIfInBounds_toArray, List.set_cons_zero, List.set_cons_succ]
      refine wpAnyH_take (i := 9) (v := ?_) rfl (by kernel_rfl) (by kernel_rfl) (by kernel_rfl) (fun _ _ _ h => h) (Or.inl ⟨by rfl, ?_⟩) (by assumption) ?_
      rotate_left
      · simp only [List.getElem_toArray, List.getElem_cons_zero, List.getElem_cons_succ]; intro W hSw; (try dsimp only at hSw); go_simp; all_goals with_reducible rfl
      simp only [Act.put, List.getElem_toArray, List.getElem_cons_zero, List.getElem_cons_succ, List.setIfInBounds_toArray, List.set_cons_zero, List.set_cons_succ]
      refine wpAnyH_take (i := 10) (v := ?_) rfl (by kernel_rfl) (by kernel_rfl) (by kernel_rfl) (fun _ _ _ h => h) (Or.inl ⟨by rfl, ?_⟩) (by assumption) ?_
      rotate_left
      · simp only [List.getElem_toArray, List.getElem_cons_zero, List.getElem_cons_succ]; intro W hSw; (try dsimp only at hSw); go_simp; all_goals with_reducible rfl
      simp only [Act.put, List.getElem_toArray, List.getElem_cons_zero, List.getElem_cons_succ, List.setIfInBounds_toArray, List.set_cons_zero, List.set_cons_succ]
      refine wpAnyH_ready (rs := [11]) (by kernel_rfl) (by simp) ?_
      refine AllReadyH.cons rfl (fun K hK => ?_) AllReadyH.nil
      simp only [List.getElem_toArray, List.getElem_cons_zero, List.getElem_cons_succ]
      have c2 := HC2.out
      have f2 := HF2.out
      go_simp
      rw [← HW6.out]
      clear c2 f2
      refine hK.out _ _ (HS6.out) (fun hHeldN => ?_)
      clear hK K hHeld
      have hHeld := hHeldN
      clear hHeldN
      (try simp only [Act.put, List.getElem_toArray, List.getElem_cons_zero, List.getElem_cons_succ, List.setIfInBounds_toArray, List.set_cons_zero, List.set_cons_succ])
      refine wpAnyH_done (by kernel_rfl) ?_ _
      obtain ⟨c60, c61⟩ := HS6.out
      go_wp2
      go_roundw
      case rel => exact ⟨k + 1, by omega, by simp, by rw [HOs.out], HR60.out, HR61.out, HR6.out, HAt6.out, HL6.out, HB6.out⟩
      case measure => simp [intOf]; omega
    · obtain rfl : k = 13 := by omega
      clear hat
      have HI := Lib.hid (HIr.out 13)
      have HSz2 := Lib.hid (show Z.size = (rowS bs 13).size by rw [HSz.out, rowS_size])
      have HOa := Lib.hid (show (rowS bs 13).all (·.oneCell') = true by rw [HAl.out]; exact cells_all)
      rw [HAl.out] at H2 HI HSz2 HOa
      generalize hsc : (supOf bs).cells = cs at *
      have HCs := Lib.hid hsc
      clear hsc
      go_wp2_with (first
        | (refine wpList_load_row rfl 25 _ rfl g3 rfl 25 cs (0, 0) _ H2.out Try.underlying25 rfl HI.out ?_)
        | (refine wpList_store_row rfl 25 _ _ rfl g2 cs rfl rfl 25 Z H1.out HI.out HSz2.out HOa.out ?_))
      exact bodyPost_ret (results_cell1H (t := 25) (p := 2) rfl _ _ g2 cs (0, 0) _ rfl (setRow_heap _ _ _ _ _ _ H1.out) Try.underlying25 rfl HI.out) rfl ⟨by rw [HCs.out], below_setRow HBr.out (by have := HG.out; omega) _⟩
end Go.Proofs.Ytgkbhdecohlpmaa
end

section
/-
  The developers' answers: the superblocks that stand in their sectors.
-/
namespace Go.Proofs.Ytgkbhdecohlpmaa
set_option maxRecDepth 100000
open Go.RowKit
set_option maxRecDepth 100000

theorem wpList_buildSlice_oneH {P : Program} {ops : Array Oper} {rest : List Oper} {o : Oper} {a : Act} {w : World} {Q : Exit → Act → World → Prop} (hgd : o.guard = none) (t : TypeId) (x : Operand) (ho : o.op = .buildSlice t 1 #[(0, x)])
    (e : TypeId) (i : TypeInfo) (z : Value) (n : Nat) (ht : P.underlying t = some (.slice e)) (hi : P.info? e = some i) (hz : i.zero = some z) (hs : i.size = n) (h0 : 0 < n) (h1 : n ≤ 1000) (xs : List Value) (hx : xs.length = n) (he : a.eval x = .agg xs.toArray)
    (h : wpList P ops Q rest (a.put o.dst (.slice (some ⟨w.heap.size, 0, none⟩) 1 1)) (w.alloc (.cells xs.toArray e))) : wpList P ops Q (o :: rest) a w := by
  refine wpList_plain hgd fun _ hK => wp_value (v := .slice (some ⟨w.heap.size, 0, none⟩) 1 1) (w' := w.alloc (.cells xs.toArray e)) ?_ (hK _ _ h)
  have hr := run_buildSlice_one (P := P) w t e i z n ht hi hz hs h0 h1 xs hx
  unfold execOp
  simp [ho, he, hr, Result.andThen]
theorem supOf_take {bs : List Nat} (h : bs.length = 64) : supOf (bs.take 27) = supOf bs := by
  unfold supOf
  have e : ∀ i m, i + m ≤ 27 → ((bs.take 27).drop i).take m = (bs.drop i).take m := fun i m hm => by
    rw [List.drop_take, List.take_take, Nat.min_eq_left (by omega)]
  have e0 : (bs.take 27).take 6 = bs.take 6 := by rw [List.take_take, Nat.min_eq_left (by omega)]
  rw [e0, e 6 6 (by omega), e 12 1 (by omega), e 13 3 (by omega), e 16 3 (by omega), e 19 8 (by omega)]
theorem readSp_eq (i : Int) {bs : List Nat} (h : bs.length = 64) : readSp i bs = if sealB bs 27 = true ∧ mayP (supOf bs) ∧ (supOf bs).gen % 2 = i then some (supOf bs) else none := by
  rw [seal_open h (show 27 + 4 ≤ 64 by omega)]
  unfold readSp
  cases ho : openH bs 27 with
  | none => simp
  | some b =>
    have hb : b = bs.take 27 := by
      unfold openH at ho
      split at ho
      · exact (Option.some.inj ho).symm
      · cases ho
    subst hb
    show (if mayP (supOf (bs.take 27)) ∧ (supOf (bs.take 27)).gen % 2 = i then some (supOf (bs.take 27)) else none) = _
    rw [supOf_take h]
    simp
def supL (l : List Sup) : List Value := l.flatMap fun s => s.cells.toList
theorem supL_len {l : List Sup} (h : ∀ s ∈ l, s.Fine) : (supL l).length = l.length * 13 := by
  induction l with
  | nil => rfl
  | cons s l ih =>
    have h1 : s.cells.toList.length = 13 := by rw [Array.length_toList]; exact cells_len (h s List.mem_cons_self)
    unfold supL at ih ⊢
    rw [List.flatMap_cons, List.length_append, ih fun x hx => h x (List.mem_cons_of_mem _ hx), h1, List.length_cons]; omega
/-- superblocks, in a row of one's own -/
def OwnS (w : World) (base : Nat) (l : List Sup) (v : Value) : Prop := w.ownsRow base 25 13 v l.length (supL l)
theorem OwnS.nil_ (w : World) (base : Nat) : OwnS w base [] (.slice none 0 0) := ⟨rfl, Or.inl ⟨rfl, rfl⟩⟩
/-- what stands behind k rounds -/
def stK (s0 s1 : List Nat) (k : Int) : List Sup := if k = 0 then [] else if k = 1 then (readSp 0 s0).toList else (readSp 0 s0).toList ++ (readSp 1 s1).toList
theorem super_info3 : (Try.prog.info? 25).map (fun i => (i.zero, i.size, i.bytes)) = some (some (.agg zeroS.cells), 13, 104) := by kernel_rfl
theorem readSp_fine {i : Int} {bs : List Nat} (h : Dk.Sec bs) : ∀ s ∈ (readSp i bs).toList, s.Fine := fun s hs => by
  rw [readSp_eq i h.1] at hs
  split at hs
  · simp at hs; rw [hs]; exact supOf_fine h
  · simp at hs
theorem stK_fine {s0 s1 : List Nat} (h0 : Dk.Sec s0) (h1 : Dk.Sec s1) (k : Int) : ∀ s ∈ stK s0 s1 k, s.Fine := fun s hs => by
  unfold stK at hs
  split at hs
  · simp at hs
  split at hs
  · exact readSp_fine h0 s hs
  · rcases List.mem_append.1 hs with h | h
    · exact readSp_fine h0 s h
    · exact readSp_fine h1 s h
theorem stK_few (s0 s1 : List Nat) (k : Int) : (stK s0 s1 k).length ≤ 2 := by
  have h : ∀ i bs, (readSp i bs).toList.length ≤ 1 := fun i bs => by cases readSp i bs <;> simp
  have h0 := h 0 s0
  have h1 := h 1 s1
  unfold stK
  split
  · simp
  split
  · omega
  · rw [List.length_append]; omega
theorem stK_0 (s0 s1 : List Nat) : stK s0 s1 1 = stK s0 s1 0 ++ (readSp 0 s0).toList := rfl
theorem stK_1 (s0 s1 : List Nat) : stK s0 s1 2 = stK s0 s1 1 ++ (readSp 1 s1).toList := rfl
set_option maxHeartbeats 2000000 in
theorem standing_dev (s0 s1 : List Nat) (h0 : Dk.Sec s0) (h1 : Dk.Sec s1) (w : World) :
    Calls Try.prog 35 #[.agg (vals (s0 ++ s1)).toArray] w fun e w' => ∃ v, e = .returned v ∧ OwnS w' w.heap.size (stK s0 s1 2) v ∧ Below w.heap.size w w' := by
  obtain ⟨cs, hcs⟩ : ∃ cs, cs = (vals (s0 ++ s1)).toArray := ⟨_, rfl⟩
  rw [← hcs]
  have HIc := Lib.hid (show (Try.prog.info? 82).map (·.size) = some cs.size by rw [hcs, vals_size, List.length_append, h0.1, h1.1]; kernel_rfl)
  have hx0 : cs.extract 0 64 = (vals s0).toArray := by
    rw [hcs, vals_append, List.extract_toArray]
    congr 1
    simp only [List.extract, Nat.sub_zero, List.drop_zero]
    exact List.take_left' (by rw [vals_length, h0.1])
  have hx1 : cs.extract 64 128 = (vals s1).toArray := by
    rw [hcs, vals_append, List.extract_toArray]
    congr 1
    simp only [List.extract]
    rw [List.drop_left' (by rw [vals_length, h0.1]), List.take_of_length_le (by rw [vals_length, h1.1]; decide)]
  have HX0 := Lib.hid (fun W => show (Instr.index 82 (.agg cs) (.int .i64 0)).run Try.prog W = .ok (.agg (vals s0).toArray) W by
    have := run_index_agg (P := Try.prog) W 82 64 2 64 0 cs Try.underlying82 _ Try.underlying64 rfl hsec_size (by omega)
    rw [show 0 * 64 = 0 from rfl, show 0 + 64 = 64 from rfl, hx0] at this
    exact this)
  have HX1 := Lib.hid (fun W => show (Instr.index 82 (.agg cs) (.int .i64 1)).run Try.prog W = .ok (.agg (vals s1).toArray) W by
    have := run_index_agg (P := Try.prog) W 82 64 2 64 1 cs Try.underlying82 _ Try.underlying64 rfl hsec_size (by omega)
    rw [show 1 * 64 = 64 from rfl, show 64 + 64 = 128 from rfl, hx1] at this
    exact this)
  obtain ⟨Z, hZ⟩ : ∃ Z, Z = (vals (List.replicate 64 0)).toArray := ⟨_, rfl⟩
  have HZ := Lib.hid (show (Try.prog.info? 64).map (·.zero) = some (some (.agg Z)) by rw [hZ]; exact hsec_zero)
  have HZe := Lib.hid hZ
  obtain ⟨Zs, hZs⟩ : ∃ Z, Z = zeroS.cells := ⟨_, rfl⟩
  have HZs := Lib.hid (show (Try.prog.info? 25).map (·.zero) = some (some (.agg Zs)) by rw [hZs, zero_cells]; kernel_rfl)
  have HZl := Lib.hid (show Zs.size = 13 by rw [hZs]; rfl)
  have HB1 := Lib.hid (show Below w.heap.size w (w.alloc (.cells cs 82)) from (Below.refl _ w).alloc (Nat.le_refl _) _)
  have HR1 := Lib.hid (heap_alloc_new w (.cells cs 82))
  have H0 := Lib.hid h0
  have H1 := Lib.hid h1
  clear hcs hx0 hx1 hZ hZs h0 h1
  go_enter Try.func35, Try.ntmps35
  go_wp2_with (refine wpList_load_row rfl 82 _ rfl w.heap.size rfl 82 cs (0, 0) _ HR1.out Try.underlying82 rfl HIc.out ?_)
  go_loopw [3, 8] (fun v i wr => ∃ k : Int, (k = 0 ∨ k = 1 ∨ k = 2) ∧ i = .int .i64 k ∧ OwnS wr w.heap.size (stK s0 s1 k) v ∧ Below w.heap.size w wr) (fun _ i _ => 2 - (intOf i).toNat)
  case atStart => exact ⟨0, by omega, rfl, OwnS.nil_ _ _, HB1.out⟩
  case round =>
    obtain ⟨k, hk, rfl, hown, hb⟩ := hrel
    have HO := Lib.hid hown
    have HBr := Lib.hid hb
    clear hown hb
    rcases hk with rfl | rfl | rfl
    · have HSec := Lib.hid H0.out
      have HI := Lib.hid (show (Try.prog.info? 64).map (·.size) = some (vals s0).toArray.size by rw [hsec_size, vals_size, HSec.out.1])
      have HAl := Lib.hid (vals_all s0)
      have HSz := Lib.hid (show Z.size = (vals s0).toArray.size by rw [HZe.out, vals_size, vals_size, HSec.out.1]; simp)
      have hz5 := heap_alloc_new wr (.cells Z 64)
      have hZ5 := Lib.hid hz5
      obtain ⟨w5, hw5⟩ : ∃ x, x = (wr.alloc (.cells Z 64)).setRow wr.heap.size (vals s0).toArray := ⟨_, rfl⟩
      have HG5 := Lib.hid (show w5.heap[wr.heap.size]? = some (.cells (vals s0).toArray 64 (0, 0)) by rw [hw5]; exact setRow_heap _ _ _ _ _ _ hz5)
      have HS5 := Lib.hid (show w5.heap.size = wr.heap.size + 1 by rw [hw5]; simp [World.setRow])
      have HB5 := Lib.hid (show Below wr.heap.size wr w5 by rw [hw5]; exact below_setRow ((Below.refl _ _).alloc (Nat.le_refl _) _) (Nat.le_refl _) _)
      have HW5 := Lib.hid hw5
      have HSp := Lib.hid (fun W => superOf_dev s0 HSec.out W)
      have HFs := Lib.hid (supOf_fine HSec.out)
      have HRd := Lib.hid (readSp_eq 0 HSec.out.1)
      have HSe := Lib.hid (fun W => sealed_dev s0 27 HSec.out (by omega) W)
      rw [show ((27 : Nat) : Int) = 27 from rfl] at HSe
      generalize hsu : supOf s0 = su at *
      obtain ⟨xs, hxs⟩ : ∃ xs, xs = su.cells.toList := ⟨_, rfl⟩
      have hxa : su.cells = xs.toArray := by rw [hxs]
      have HXs := Lib.hid hxs
      have HMa := Lib.hid (fun W => mayH_dev su W HFs.out)
      have HPl := Lib.hid (fun W (h : 0 ≤ su.gen) => place_dev su W HFs.out h)
      have HXl := Lib.hid (show xs.length = 13 by rw [hxs, Array.length_toList]; exact cells_len HFs.out)
      have HIx := Lib.hid (show (Try.prog.info? 25).map (·.size) = some xs.toArray.size by rw [super_info, ← hxa, cells_len HFs.out])
      have HOx := Lib.hid (show xs.toArray.all (·.oneCell') = true by rw [← hxa]; exact cells_all)
      have HSx := Lib.hid (show Zs.size = xs.toArray.size by rw [HZl.out, ← hxa, cells_len HFs.out])
      rw [hxa] at HSp HMa HPl
      have hix := HX0.out
      clear hz5 hw5 hsu hxs hxa
      go_wp2_with (first | (refine wpList_alloc_any rfl 64 rfl Z HZ.out ?_) | (refine wpList_store_row rfl 64 _ _ rfl wr.heap.size (vals s0).toArray rfl rfl 64 Z hZ5.out HI.out HSz.out HAl.out ?_; rw [← HW5.out]) | (refine wpList_load_row rfl 64 (.tmp 5) rfl wr.heap.size rfl 64 (vals s0).toArray (0, 0) _ HG5.out Try.underlying64 rfl HI.out ?_))
      clear hix
      refine (HSp.out _).mono ?_
      rintro e w6 ⟨rfl, hb6⟩
      have hz7 := heap_alloc_new w6 (.cells Zs 25)
      have hZ7 := Lib.hid hz7
      obtain ⟨w7, hw7⟩ : ∃ x, x = (w6.alloc (.cells Zs 25)).setRow w6.heap.size xs.toArray := ⟨_, rfl⟩
      have HG7 := Lib.hid (show w7.heap[w6.heap.size]? = some (.cells xs.toArray 25 (0, 0)) by rw [hw7]; exact setRow_heap _ _ _ _ _ _ hz7)
      have HS7 := Lib.hid (show w7.heap.size = w6.heap.size + 1 by rw [hw7]; simp [World.setRow])
      have hb67 : Below w6.heap.size w6 w7 := by rw [hw7]; exact below_setRow ((Below.refl _ _).alloc (Nat.le_refl _) _) (Nat.le_refl _) _
      have HB7 := Lib.hid (show Below wr.heap.size wr w7 from HB5.out.trans ((hb6.trans (hb67.mono hb6.size)).mono HB5.out.size))
      have HW7 := Lib.hid hw7
      replace HG5 := Lib.hid (show w7.heap[wr.heap.size]? = some (.cells (vals s0).toArray 64 (0, 0)) from by rw [← HG5.out, ← hb6.block wr.heap.size (by have := HS5.out; omega), hw7]; exact (setRow_other _ _ _ _ (by have := hb6.size; have := HS5.out; omega)).trans (Below.heap_alloc _ _ _ (by have := hb6.size; have := HS5.out; omega)))
      clear hz7 hw7 hb6 hb67
      go_wp2_with (first | (refine wpList_alloc_any rfl 25 rfl Zs HZs.out ?_) | (refine wpList_store_row rfl 25 _ _ rfl w6.heap.size xs.toArray rfl rfl 25 Zs hZ7.out HIx.out HSx.out HOx.out ?_; rw [← HW7.out]) | (refine wpList_load_row rfl 64 (.tmp 5) rfl wr.heap.size rfl 64 (vals s0).toArray (0, 0) _ HG5.out Try.underlying64 rfl HI.out ?_))
      refine (HSe.out _).mono ?_
      rintro e w8 ⟨rfl, hb8⟩
      have HB8 := Lib.hid (HB7.out.trans (hb8.mono HB7.out.size))
      have HG8 := Lib.hid ((hb8.block _ (by have := HS7.out; omega)).trans HG7.out)
      have HStp := Lib.hid (stK_0 s0 s1)
      have HLw := Lib.hid (show w6.heap.size < w8.heap.size by have := HS7.out; have := hb8.size; omega)
      clear hb8 HB5 HG5 HS5 HB7 HG7
      generalize sealB s0 27 = sb at *
      cases sb with
      | false =>
        have hn : readSp 0 s0 = none := by rw [HRd.out]; exact if_neg fun h => absurd h.1 (by decide)
        have HSt := Lib.hid (show stK s0 s1 1 = stK s0 s1 0 by rw [HStp.out, hn]; simp)
        clear hn
        go_wp2
        go_roundw
        case rel => exact ⟨1, by omega, rfl, by rw [HSt.out]; exact owns_keepH HO.out HB8.out, HBr.out.trans (HB8.out.mono HBr.out.size)⟩
        case measure => simp [intOf]
      | true =>
        by_cases hm : mayP su
        · have h0g : 0 ≤ su.gen := hm.1.1
          rw [decide_eq_true hm] at HMa
          have HM := Lib.hid hm
          have HP2 := Lib.hid (fun W => HPl.out W h0g)
          clear hm h0g
          go_wp2_with (refine wpList_load_row_if (by rfl) 25 (.tmp 6) rfl w6.heap.size rfl 25 xs.toArray (0, 0) _ HG8.out Try.underlying25 rfl HIx.out ?_)
          refine (HMa.out _).mono ?_
          rintro e w9 ⟨rfl, hb9⟩
          have HB9 := Lib.hid (HB8.out.trans (hb9.mono HB8.out.size))
          have HG9 := Lib.hid ((hb9.block _ HLw.out).trans HG8.out)
          have HLw9 := Lib.hid (Nat.lt_of_lt_of_le HLw.out hb9.size)
          clear hb9
          by_cases hk : su.gen % 2 = 0
          · have hr : readSp 0 s0 = some su := by rw [HRd.out]; exact if_pos ⟨by first | exact trivial | rfl, HM.out, hk⟩
            have HSt := Lib.hid (show stK s0 s1 1 = stK s0 s1 0 ++ [su] by rw [HStp.out, hr]; rfl)
            rw [hk] at HP2
            clear hr hk
            go_wp2_with (refine wpList_load_row_if (by rfl) 25 (.tmp 6) rfl w6.heap.size rfl 25 xs.toArray (0, 0) _ HG9.out Try.underlying25 rfl HIx.out ?_)
            refine (HP2.out _).mono ?_
            rintro e w10 ⟨rfl, hb10⟩
            have HB10 := Lib.hid (HB9.out.trans (hb10.mono HB9.out.size))
            have HG10 := Lib.hid ((hb10.block _ HLw9.out).trans HG9.out)
            clear hb10
            obtain ⟨i0, hi, hz0, hz1, hz2⟩ := info_parts super_info3
            have HI0 := Lib.hid hi
            have HZ0 := Lib.hid hz0
            have HZ1 := Lib.hid hz1
            have HZ2 := Lib.hid hz2
            have HO10 := Lib.hid (World.ownsRow.alloc (owns_keepH HO.out HB10.out) (.cells xs.toArray 25))
            have HFw := Lib.hid (stK_few s0 s1 0)
            have HSl := Lib.hid (show supL (stK s0 s1 0 ++ [su]) = supL (stK s0 s1 0) ++ xs by unfold supL; rw [List.flatMap_append, List.flatMap_singleton, HXs.out])
            have HBd := Lib.hid (HBr.out.trans (HB10.out.mono HBr.out.size))
            have HOl := Lib.hid (show ∀ u ∈ xs, u.oneCell' = true from fun u hu => by
              have := Array.all_eq_true_iff_forall_mem.1 HOx.out u (by simpa using hu)
              exact this)
            clear hi hz0 hz1 hz2
            generalize stK s0 s1 0 = L at *
            go_wp2_with (first
              | (refine wpList_load_row rfl 25 (.tmp 6) rfl w6.heap.size rfl 25 xs.toArray (0, 0) _ HG10.out Try.underlying25 rfl HIx.out ?_)
              | (refine wpList_buildSlice_oneH rfl 83 (.tmp 27) rfl 25 i0 _ 13 Try.underlying83 HI0.out HZ0.out HZ1.out (by omega) (by omega) xs HXl.out rfl ?_)
              | (refine wpList_append_own _ rfl (.tmp 26) (.tmp 28) 83 rfl w.heap.size 25 i0 _ 13 104 Try.underlying83 HI0.out HZ0.out HZ1.out HZ2.out rfl (by decide) _ L.length (supL L) rfl HO10.out ⟨w10.heap.size, 0, none⟩ 1 1 xs rfl (by rw [HXl.out]) (new_cells rfl) HOl.out (by have := HFw.out; unfold maxLen; omega) (by have := HFw.out; omega) (by rw [World.size_alloc]; have := HBd.out.size; omega) ?_; intro v2 w12 r1 r2 _; have HR1 := Lib.hid r1; have HR2 := Lib.hid r2; clear r1 r2))
            go_roundw
            case rel =>
              refine ⟨1, by omega, rfl, ?_, (HBd.out.alloc HBd.out.size _).grown HR2.out (by rw [World.size_alloc]; have := HBd.out.size; omega) (fun q hq => (HO10.out.lt q hq).1)⟩
              rw [HSt.out]
              unfold OwnS
              rw [HSl.out, List.length_append]
              exact HR1.out
            case measure => simp [intOf]
          · have hr : readSp 0 s0 = none := by rw [HRd.out]; exact if_neg fun h => hk h.2.2
            have HSt := Lib.hid (show stK s0 s1 1 = stK s0 s1 0 by rw [HStp.out, hr]; simp)
            generalize su.gen % 2 = pz at *
            have q1 : (pz == 0) = false := by simpa using hk
            have q2 : decide (pz = 0) = false := by simpa using hk
            clear hr hk
            go_wp2_with (refine wpList_load_row_if (by rfl) 25 (.tmp 6) rfl w6.heap.size rfl 25 xs.toArray (0, 0) _ HG9.out Try.underlying25 rfl HIx.out ?_)
            refine (HP2.out _).mono ?_
            rintro e w10 ⟨rfl, hb10⟩
            have HB10 := Lib.hid (HB9.out.trans (hb10.mono HB9.out.size))
            clear hb10
            go_wp2
            go_roundw
            case rel => exact ⟨1, by omega, rfl, by rw [HSt.out]; exact owns_keepH HO.out HB10.out, HBr.out.trans (HB10.out.mono HBr.out.size)⟩
            case measure => simp [intOf]
        · have hn : readSp 0 s0 = none := by rw [HRd.out]; exact if_neg fun h => hm h.2.1
          have HSt := Lib.hid (show stK s0 s1 1 = stK s0 s1 0 by rw [HStp.out, hn]; simp)
          rw [decide_eq_false hm] at HMa
          clear hn hm
          go_wp2_with (refine wpList_load_row_if (by rfl) 25 (.tmp 6) rfl w6.heap.size rfl 25 xs.toArray (0, 0) _ HG8.out Try.underlying25 rfl HIx.out ?_)
          refine (HMa.out _).mono ?_
          rintro e w9 ⟨rfl, hb9⟩
          have HB9 := Lib.hid (HB8.out.trans (hb9.mono HB8.out.size))
          clear hb9
          go_wp2
          go_roundw
          case rel => exact ⟨1, by omega, rfl, by rw [HSt.out]; exact owns_keepH HO.out HB9.out, HBr.out.trans (HB9.out.mono HBr.out.size)⟩
          case measure => simp [intOf]
    · have HSec := Lib.hid H1.out
      have HI := Lib.hid (show (Try.prog.info? 64).map (·.size) = some (vals s1).toArray.size by rw [hsec_size, vals_size, HSec.out.1])
      have HAl := Lib.hid (vals_all s1)
      have HSz := Lib.hid (show Z.size = (vals s1).toArray.size by rw [HZe.out, vals_size, vals_size, HSec.out.1]; simp)
      have hz5 := heap_alloc_new wr (.cells Z 64)
      have hZ5 := Lib.hid hz5
      obtain ⟨w5, hw5⟩ : ∃ x, x = (wr.alloc (.cells Z 64)).setRow wr.heap.size (vals s1).toArray := ⟨_, rfl⟩
      have HG5 := Lib.hid (show w5.heap[wr.heap.size]? = some (.cells (vals s1).toArray 64 (0, 0)) by rw [hw5]; exact setRow_heap _ _ _ _ _ _ hz5)
      have HS5 := Lib.hid (show w5.heap.size = wr.heap.size + 1 by rw [hw5]; simp [World.setRow])
      have HB5 := Lib.hid (show Below wr.heap.size wr w5 by rw [hw5]; exact below_setRow ((Below.refl _ _).alloc (Nat.le_refl _) _) (Nat.le_refl _) _)
      have HW5 := Lib.hid hw5
      have HSp := Lib.hid (fun W => superOf_dev s1 HSec.out W)
      have HFs := Lib.hid (supOf_fine HSec.out)
      have HRd := Lib.hid (readSp_eq 1 HSec.out.1)
      have HSe := Lib.hid (fun W => sealed_dev s1 27 HSec.out (by omega) W)
      rw [show ((27 : Nat) : Int) = 27 from rfl] at HSe
      generalize hsu : supOf s1 = su at *
      obtain ⟨xs, hxs⟩ : ∃ xs, xs = su.cells.toList := ⟨_, rfl⟩
      have hxa : su.cells = xs.toArray := by rw [hxs]
      have HXs := Lib.hid hxs
      have HMa := Lib.hid (fun W => mayH_dev su W HFs.out)
      have HPl := Lib.hid (fun W (h : 0 ≤ su.gen) => place_dev su W HFs.out h)
      have HXl := Lib.hid (show xs.length = 13 by rw [hxs, Array.length_toList]; exact cells_len HFs.out)
      have HIx := Lib.hid (show (Try.prog.info? 25).map (·.size) = some xs.toArray.size by rw [super_info, ← hxa, cells_len HFs.out])
      have HOx := Lib.hid (show xs.toArray.all (·.oneCell') = true by rw [← hxa]; exact cells_all)
      have HSx := Lib.hid (show Zs.size = xs.toArray.size by rw [HZl.out, ← hxa, cells_len HFs.out])
      rw [hxa] at HSp HMa HPl
      have hix := HX1.out
      clear hz5 hw5 hsu hxs hxa
      go_wp2_with (first | (refine wpList_alloc_any rfl 64 rfl Z HZ.out ?_) | (refine wpList_store_row rfl 64 _ _ rfl wr.heap.size (vals s1).toArray rfl rfl 64 Z hZ5.out HI.out HSz.out HAl.out ?_; rw [← HW5.out]) | (refine wpList_load_row rfl 64 (.tmp 5) rfl wr.heap.size rfl 64 (vals s1).toArray (0, 0) _ HG5.out Try.underlying64 rfl HI.out ?_))
      clear hix
      refine (HSp.out _).mono ?_
      rintro e w6 ⟨rfl, hb6⟩
      have hz7 := heap_alloc_new w6 (.cells Zs 25)
      have hZ7 := Lib.hid hz7
      obtain ⟨w7, hw7⟩ : ∃ x, x = (w6.alloc (.cells Zs 25)).setRow w6.heap.size xs.toArray := ⟨_, rfl⟩
      have HG7 := Lib.hid (show w7.heap[w6.heap.size]? = some (.cells xs.toArray 25 (0, 0)) by rw [hw7]; exact setRow_heap _ _ _ _ _ _ hz7)
      have HS7 := Lib.hid (show w7.heap.size = w6.heap.size + 1 by rw [hw7]; simp [World.setRow])
      have hb67 : Below w6.heap.size w6 w7 := by rw [hw7]; exact below_setRow ((Below.refl _ _).alloc (Nat.le_refl _) _) (Nat.le_refl _) _
      have HB7 := Lib.hid (show Below wr.heap.size wr w7 from HB5.out.trans ((hb6.trans (hb67.mono hb6.size)).mono HB5.out.size))
      have HW7 := Lib.hid hw7
      replace HG5 := Lib.hid (show w7.heap[wr.heap.size]? = some (.cells (vals s1).toArray 64 (0, 0)) from by rw [← HG5.out, ← hb6.block wr.heap.size (by have := HS5.out; omega), hw7]; exact (setRow_other _ _ _ _ (by have := hb6.size; have := HS5.out; omega)).trans (Below.heap_alloc _ _ _ (by have := hb6.size; have := HS5.out; omega)))
      clear hz7 hw7 hb6 hb67
      go_wp2_with (first | (refine wpList_alloc_any rfl 25 rfl Zs HZs.out ?_) | (refine wpList_store_row rfl 25 _ _ rfl w6.heap.size xs.toArray rfl rfl 25 Zs hZ7.out HIx.out HSx.out HOx.out ?_; rw [← HW7.out]) | (refine wpList_load_row rfl 64 (.tmp 5) rfl wr.heap.size rfl 64 (vals s1).toArray (0, 0) _ HG5.out Try.underlying64 rfl HI.out ?_))
      refine (HSe.out _).mono ?_
      rintro e w8 ⟨rfl, hb8⟩
      have HB8 := Lib.hid (HB7.out.trans (hb8.mono HB7.out.size))
      have HG8 := Lib.hid ((hb8.block _ (by have := HS7.out; omega)).trans HG7.out)
      have HStp := Lib.hid (stK_1 s0 s1)
      have HLw := Lib.hid (show w6.heap.size < w8.heap.size by have := HS7.out; have := hb8.size; omega)
      clear hb8 HB5 HG5 HS5 HB7 HG7
      generalize sealB s1 27 = sb at *
      cases sb with
      | false =>
        have hn : readSp 1 s1 = none := by rw [HRd.out]; exact if_neg fun h => absurd h.1 (by decide)
        have HSt := Lib.hid (show stK s0 s1 2 = stK s0 s1 1 by rw [HStp.out, hn]; simp)
        clear hn
        go_wp2
        go_roundw
        case rel => exact ⟨2, by omega, rfl, by rw [HSt.out]; exact owns_keepH HO.out HB8.out, HBr.out.trans (HB8.out.mono HBr.out.size)⟩
        case measure => simp [intOf]
      | true =>
        by_cases hm : mayP su
        · have h0g : 0 ≤ su.gen := hm.1.1
          rw [decide_eq_true hm] at HMa
          have HM := Lib.hid hm
          have HP2 := Lib.hid (fun W => HPl.out W h0g)
          clear hm h0g
          go_wp2_with (refine wpList_load_row_if (by rfl) 25 (.tmp 6) rfl w6.heap.size rfl 25 xs.toArray (0, 0) _ HG8.out Try.underlying25 rfl HIx.out ?_)
          refine (HMa.out _).mono ?_
          rintro e w9 ⟨rfl, hb9⟩
          have HB9 := Lib.hid (HB8.out.trans (hb9.mono HB8.out.size))
          have HG9 := Lib.hid ((hb9.block _ HLw.out).trans HG8.out)
          have HLw9 := Lib.hid (Nat.lt_of_lt_of_le HLw.out hb9.size)
          clear hb9
          by_cases hk : su.gen % 2 = 1
          · have hr : readSp 1 s1 = some su := by rw [HRd.out]; exact if_pos ⟨by first | exact trivial | rfl, HM.out, hk⟩
            have HSt := Lib.hid (show stK s0 s1 2 = stK s0 s1 1 ++ [su] by rw [HStp.out, hr]; rfl)
            rw [hk] at HP2
            clear hr hk
            go_wp2_with (refine wpList_load_row_if (by rfl) 25 (.tmp 6) rfl w6.heap.size rfl 25 xs.toArray (0, 0) _ HG9.out Try.underlying25 rfl HIx.out ?_)
            refine (HP2.out _).mono ?_
            rintro e w10 ⟨rfl, hb10⟩
            have HB10 := Lib.hid (HB9.out.trans (hb10.mono HB9.out.size))
            have HG10 := Lib.hid ((hb10.block _ HLw9.out).trans HG9.out)
            clear hb10
            obtain ⟨i0, hi, hz0, hz1, hz2⟩ := info_parts super_info3
            have HI0 := Lib.hid hi
            have HZ0 := Lib.hid hz0
            have HZ1 := Lib.hid hz1
            have HZ2 := Lib.hid hz2
            have HO10 := Lib.hid (World.ownsRow.alloc (owns_keepH HO.out HB10.out) (.cells xs.toArray 25))
            have HFw := Lib.hid (stK_few s0 s1 1)
            have HSl := Lib.hid (show supL (stK s0 s1 1 ++ [su]) = supL (stK s0 s1 1) ++ xs by unfold supL; rw [List.flatMap_append, List.flatMap_singleton, HXs.out])
            have HBd := Lib.hid (HBr.out.trans (HB10.out.mono HBr.out.size))
            have HOl := Lib.hid (show ∀ u ∈ xs, u.oneCell' = true from fun u hu => by
              have := Array.all_eq_true_iff_forall_mem.1 HOx.out u (by simpa using hu)
              exact this)
            clear hi hz0 hz1 hz2
            generalize stK s0 s1 1 = L at *
            go_wp2_with (first
              | (refine wpList_load_row rfl 25 (.tmp 6) rfl w6.heap.size rfl 25 xs.toArray (0, 0) _ HG10.out Try.underlying25 rfl HIx.out ?_)
              | (refine wpList_buildSlice_oneH rfl 83 (.tmp 27) rfl 25 i0 _ 13 Try.underlying83 HI0.out HZ0.out HZ1.out (by omega) (by omega) xs HXl.out rfl ?_)
              | (refine wpList_append_own _ rfl (.tmp 26) (.tmp 28) 83 rfl w.heap.size 25 i0 _ 13 104 Try.underlying83 HI0.out HZ0.out HZ1.out HZ2.out rfl (by decide) _ L.length (supL L) rfl HO10.out ⟨w10.heap.size, 0, none⟩ 1 1 xs rfl (by rw [HXl.out]) (new_cells rfl) HOl.out (by have := HFw.out; unfold maxLen; omega) (by have := HFw.out; omega) (by rw [World.size_alloc]; have := HBd.out.size; omega) ?_; intro v2 w12 r1 r2 _; have HR1 := Lib.hid r1; have HR2 := Lib.hid r2; clear r1 r2))
            go_roundw
            case rel =>
              refine ⟨2, by omega, rfl, ?_, (HBd.out.alloc HBd.out.size _).grown HR2.out (by rw [World.size_alloc]; have := HBd.out.size; omega) (fun q hq => (HO10.out.lt q hq).1)⟩
              rw [HSt.out]
              unfold OwnS
              rw [HSl.out, List.length_append]
              exact HR1.out
            case measure => simp [intOf]
          · have hr : readSp 1 s1 = none := by rw [HRd.out]; exact if_neg fun h => hk h.2.2
            have HSt := Lib.hid (show stK s0 s1 2 = stK s0 s1 1 by rw [HStp.out, hr]; simp)
            generalize su.gen % 2 = pz at *
            have q1 : (pz == 1) = false := by simpa using hk
            have q2 : decide (pz = 1) = false := by simpa using hk
            clear hr hk
            go_wp2_with (refine wpList_load_row_if (by rfl) 25 (.tmp 6) rfl w6.heap.size rfl 25 xs.toArray (0, 0) _ HG9.out Try.underlying25 rfl HIx.out ?_)
            refine (HP2.out _).mono ?_
            rintro e w10 ⟨rfl, hb10⟩
            have HB10 := Lib.hid (HB9.out.trans (hb10.mono HB9.out.size))
            clear hb10
            go_wp2
            go_roundw
            case rel => exact ⟨2, by omega, rfl, by rw [HSt.out]; exact owns_keepH HO.out HB10.out, HBr.out.trans (HB10.out.mono HBr.out.size)⟩
            case measure => simp [intOf]
        · have hn : readSp 1 s1 = none := by rw [HRd.out]; exact if_neg fun h => hm h.2.1
          have HSt := Lib.hid (show stK s0 s1 2 = stK s0 s1 1 by rw [HStp.out, hn]; simp)
          rw [decide_eq_false hm] at HMa
          clear hn hm
          go_wp2_with (refine wpList_load_row_if (by rfl) 25 (.tmp 6) rfl w6.heap.size rfl 25 xs.toArray (0, 0) _ HG8.out Try.underlying25 rfl HIx.out ?_)
          refine (HMa.out _).mono ?_
          rintro e w9 ⟨rfl, hb9⟩
          have HB9 := Lib.hid (HB8.out.trans (hb9.mono HB8.out.size))
          clear hb9
          go_wp2
          go_roundw
          case rel => exact ⟨2, by omega, rfl, by rw [HSt.out]; exact owns_keepH HO.out HB9.out, HBr.out.trans (HB9.out.mono HBr.out.size)⟩
          case measure => simp [intOf]
    · go_wp2
      go_ret
      exact ⟨_, rfl, HO.out, HBr.out⟩
end Go.Proofs.Ytgkbhdecohlpmaa
end

section
/-
  The developers' answers: the superblock of the greatest generation (slices.MaxFunc).
-/
namespace Go.Proofs.Ytgkbhdecohlpmaa
set_option maxRecDepth 100000
open Go.RowKit
set_option maxRecDepth 100000

/-- superblocks in memory -/
def SupsAt (W : World) (b off : Nat) (l : List Sup) : Prop := ∀ k, k < l.length → ∀ j u, ((l.getD k zeroS).cells.toList)[j]? = some u → W.cell? ⟨b, off + k * 13 + j, none⟩ = some u
theorem SupsAt.below {W W' : World} {B b off : Nat} {l : List Sup} (h : SupsAt W b off l) (hB : Below B W W') (hb : b < B) : SupsAt W' b off l := fun k hk j u hu => (hB.cell (p := ⟨b, off + k * 13 + j, none⟩) hb).trans (h k hk j u hu)
theorem supL_get : ∀ {l : List Sup}, (∀ s ∈ l, s.Fine) → ∀ k, k < l.length → ∀ j u, ((l.getD k zeroS).cells.toList)[j]? = some u → (supL l)[k * 13 + j]? = some u := by
  intro l
  induction l with
  | nil => intro _ k h; exact absurd h (by simp)
  | cons s l ih =>
    intro hf k hk j u hu
    have h1 : s.cells.toList.length = 13 := by rw [Array.length_toList]; exact cells_len (hf s List.mem_cons_self)
    show (s.cells.toList ++ supL l)[k * 13 + j]? = some u
    cases k with
    | zero =>
      rw [List.getD_cons_zero] at hu
      have hj := (List.getElem?_eq_some_iff.1 hu).1
      rw [List.getElem?_append_left (by omega)]
      rw [← hu]; congr 1; omega
    | succ k =>
      rw [List.getD_cons_succ] at hu
      rw [List.getElem?_append_right (by omega), h1, show (k + 1) * 13 + j - 13 = k * 13 + j by omega]
      exact ih (fun x hx => hf x (List.mem_cons_of_mem _ hx)) k (by rw [List.length_cons] at hk; omega) j u hu
theorem sups_at {W : World} {base : Nat} {l : List Sup} {v : Value} (h : OwnS W base l v) (hf : ∀ s ∈ l, s.Fine) (h0 : 0 < l.length) : ∃ b off c, v = .slice (some ⟨b, off, none⟩) l.length c ∧ b < W.heap.size ∧ l.length ≤ c ∧ c ≤ maxLen ∧ SupsAt W b off l := by
  obtain ⟨h1, h2⟩ := h
  rcases h2 with ⟨_, hz⟩ | ⟨b, cap, cur, rfl, hg, hh, hcap, hmax, hsz, htk⟩
  · omega
  · refine ⟨b, 0, cap, rfl, (Array.getElem?_eq_some_iff.1 hh).1, hcap, hmax, fun k hk j u hu => ?_⟩
    have h3 := supL_get hf k hk j u hu
    rw [Nat.zero_add, cell_of_row W b _ _ _ _ hh, ← h3, ← htk, List.getElem?_take]
    have hl := (List.getElem?_eq_some_iff.1 h3).1
    rw [supL_len hf] at hl
    rw [if_pos hl]
    simp
/-- the first of the greatest generation among the first k, and the first -/
def bestK (l : List Sup) : Nat → Sup
  | 0 => l.getD 0 zeroS
  | k + 1 => if (bestK l k).gen < (l.getD k zeroS).gen then l.getD k zeroS else bestK l k
theorem getD_fine {l : List Sup} (hf : ∀ s ∈ l, s.Fine) {k : Nat} (h : k < l.length) : (l.getD k zeroS).Fine := by
  rw [List.getD_eq_getElem?_getD, List.getElem?_eq_getElem h]
  exact hf _ (List.getElem_mem h)
theorem bestK_fine {l : List Sup} (hf : ∀ s ∈ l, s.Fine) (h0 : 0 < l.length) : ∀ {k : Nat}, k ≤ l.length → (bestK l k).Fine := by
  intro k
  induction k with
  | zero => intro _; exact getD_fine hf h0
  | succ k ih =>
    intro h
    unfold bestK
    split
    · exact getD_fine hf (by omega)
    · exact ih (by omega)
theorem bestK_one (l : List Sup) : bestK l 1 = l.getD 0 zeroS := by
  unfold bestK
  split
  · rfl
  · rfl
set_option maxHeartbeats 4000000 in
theorem max_dev (l : List Sup) (hf : ∀ s ∈ l, s.Fine) (h0 : 0 < l.length) (hn : l.length ≤ 2) (b off c : Nat) (w : World) (hat : SupsAt w b off l) (hbl : b < w.heap.size) :
    Calls Try.prog 38 #[.slice (some ⟨b, off, none⟩) l.length c, .func (.func 36) #[] #[]] w fun e w' => e = .returned (.agg (bestK l l.length).cells) ∧ Below w.heap.size w w' := by
  obtain ⟨n, hnl⟩ : ∃ n, n = l.length := ⟨_, rfl⟩
  rw [← hnl] at h0 hn ⊢
  have HN := Lib.hid hnl
  obtain ⟨Z, hZ⟩ : ∃ Z, Z = zeroS.cells := ⟨_, rfl⟩
  have HZ := Lib.hid (show (Try.prog.info? 25).map (·.zero) = some (some (.agg Z)) by rw [hZ, zero_cells]; kernel_rfl)
  have HZl := Lib.hid (show Z.size = 13 by rw [hZ]; rfl)
  obtain ⟨w1, hw1⟩ : ∃ w1, w1 = w.alloc (.cells Z 25) := ⟨_, rfl⟩
  have hs1 : w1.heap.size = w.heap.size + 1 := by rw [hw1]; simp
  have hb1 : Below w.heap.size w w1 := by rw [hw1]; exact (Below.refl _ w).alloc (Nat.le_refl _) _
  have h41 : w1.heap[w.heap.size]? = some (.cells Z 25 (0, 0)) := by rw [hw1]; exact heap_alloc_new w _
  have hz2 := heap_alloc_new w1 (.cells Z 25)
  have hfx := getD_fine hf (k := 0) (by omega)
  have hb1x := bestK_one l
  obtain ⟨x0, hx0⟩ : ∃ x, x = l.getD 0 zeroS := ⟨_, rfl⟩
  rw [← hx0] at hfx hb1x
  obtain ⟨xs0, hxs0⟩ : ∃ xs, xs = x0.cells.toList := ⟨_, rfl⟩
  have hxl : xs0.length = 13 := by rw [hxs0, Array.length_toList]; exact cells_len hfx
  have hxa : xs0.toArray = x0.cells := by rw [hxs0]
  have HCx0 := Lib.hid (show ∀ j u, xs0[j]? = some u → w1.cell? ⟨b, off + 0 * 13 + j, none⟩ = some u from by rw [hxs0, hx0]; exact (hat.below hb1 hbl) 0 (by omega))
  rw [show off + 0 * 13 = off by omega] at HCx0
  have HI0 := Lib.hid (show (Try.prog.info? 25).map (·.size) = some xs0.length by rw [super_info, hxl])
  have HI0a := Lib.hid (show (Try.prog.info? 25).map (·.size) = some xs0.toArray.size by rw [super_info, hxa, cells_len hfx])
  have HO0 := Lib.hid (show xs0.toArray.all (·.oneCell') = true by rw [hxa]; exact cells_all)
  have HS0 := Lib.hid (show Z.size = xs0.toArray.size by rw [HZl.out, hxa, cells_len hfx])
  obtain ⟨w2, hw2⟩ : ∃ x, x = (w1.alloc (.cells Z 25)).setRow w1.heap.size xs0.toArray := ⟨_, rfl⟩
  have hb12 : Below w1.heap.size w1 w2 := by rw [hw2]; exact below_setRow ((Below.refl _ _).alloc (Nat.le_refl _) _) (Nat.le_refl _) _
  have hs2 : w2.heap.size = w1.heap.size + 1 := by rw [hw2]; simp [World.setRow]
  have H5_ := Lib.hid (show w2.heap[w1.heap.size]? = some (.cells (bestK l 1).cells 25 (0, 0)) by rw [hb1x, ← hxa, hw2]; exact setRow_heap _ _ _ _ _ _ hz2)
  have H4_ := Lib.hid (show w2.heap[w.heap.size]? = some (.cells Z 25 (0, 0)) from (hb12.block _ (by omega)).trans h41)
  have HAt_ := Lib.hid ((hat.below hb1 hbl).below hb12 (by omega))
  have HB_ := Lib.hid (hb1.trans (hb12.mono hb1.size))
  have HL_ := Lib.hid (show b < w2.heap.size by omega)
  have HW1 := Lib.hid hw1
  have HW2 := Lib.hid hw2
  have HZ2 := Lib.hid hz2
  have HF := Lib.hid hf
  have HG := Lib.hid (show w.heap.size < w1.heap.size by omega)
  have HBg := Lib.hid (show b < w1.heap.size by omega)
  generalize hg5 : w1.heap.size = g5 at *
  have HG5 := Lib.hid hg5
  have hn1 : ¬ (n : Int) < 1 := by omega
  have hn0 : 0 < n := by omega
  clear hnl hZ hw1 hs1 hb1 h41 hz2 hfx hb1x hx0 hxs0 hxl hxa hw2 hb12 hs2 hat hbl hf hg5
  go_enter Try.func38, Try.ntmps38
  go_wp2_with (first
    | (refine wpList_alloc_any rfl 25 rfl Z HZ.out ?_; (first | (rw [← HW1.out]) | (rw [HG5.out])))
    | (refine wpList_load_part rfl 25 (.tmp 12) rfl b off rfl xs0 _ HCx0.out Try.underlying25 rfl HI0.out ?_)
    | (refine wpList_store_row rfl 25 _ _ rfl g5 xs0.toArray rfl rfl 25 Z HZ2.out HI0a.out HS0.out HO0.out ?_; rw [← HW2.out]))
  go_loopw [6] (fun i wr => ∃ k : Nat, 1 ≤ k ∧ k ≤ n ∧ i = .int .i64 (k : Int) ∧ wr.heap[w.heap.size]? = some (.cells Z 25 (0, 0)) ∧ wr.heap[g5]? = some (.cells (bestK l k).cells 25 (0, 0)) ∧ SupsAt wr b off l ∧ b < wr.heap.size ∧ Below w.heap.size w wr) (fun i _ => n - (intOf i).toNat)
  case atStart => exact ⟨1, by omega, by omega, rfl, H4_.out, H5_.out, HAt_.out, HL_.out, HB_.out⟩
  case round =>
    clear H4_ H5_ HAt_ HL_ HB_
    obtain ⟨k, hk1, hk, rfl, h4, h5, hat, hlb, hb⟩ := hrel
    have HBr := Lib.hid hb
    have H4 := Lib.hid h4
    by_cases hlt : k < n
    · have hkl : k < l.length := by rw [← HN.out]; exact hlt
      have hyf := getD_fine HF.out hkl
      have hxf := bestK_fine HF.out (show 0 < l.length by omega) (k := k) (by omega)
      have HYes := Lib.hid (show (bestK l k).gen < (l.getD k zeroS).gen → bestK l (k + 1) = l.getD k zeroS from fun h => if_pos h)
      have HNo := Lib.hid (show ¬ (bestK l k).gen < (l.getD k zeroS).gen → bestK l (k + 1) = bestK l k from fun h => if_neg h)
      have hcx : ∀ W, SupsAt W b off l → ∀ j u, ((l.getD k zeroS).cells.toList)[j]? = some u → W.cell? ⟨b, off + k * 13 + j, none⟩ = some u := fun W h => h k hkl
      generalize l.getD k zeroS = y at *
      generalize bestK l k = x at *
      obtain ⟨xs, hxs⟩ : ∃ xs, xs = y.cells.toList := ⟨_, rfl⟩
      obtain ⟨bs, hbs⟩ : ∃ xs, xs = x.cells.toList := ⟨_, rfl⟩
      have hxa : y.cells = xs.toArray := by rw [hxs]
      have hba : x.cells = bs.toArray := by rw [hbs]
      have HCx := Lib.hid (show ∀ W, SupsAt W b off l → ∀ j u, xs[j]? = some u → W.cell? ⟨b, off + k * 13 + j, none⟩ = some u by rw [hxs]; exact hcx)
      have HIx := Lib.hid (show (Try.prog.info? 25).map (·.size) = some xs.length by rw [super_info, hxs, Array.length_toList, cells_len hyf])
      have HIb := Lib.hid (show (Try.prog.info? 25).map (·.size) = some bs.length by rw [super_info, hbs, Array.length_toList, cells_len hxf])
      have HIxa := Lib.hid (show (Try.prog.info? 25).map (·.size) = some xs.toArray.size by rw [super_info, ← hxa, cells_len hyf])
      have HSxb := Lib.hid (show bs.toArray.size = xs.toArray.size by rw [← hxa, ← hba, cells_len hyf, cells_len hxf])
      have HOx := Lib.hid (show xs.toArray.all (·.oneCell') = true by rw [← hxa]; exact cells_all)
      have HXa := Lib.hid hxa
      have HBa := Lib.hid hba
      rw [hba] at h5
      have H5 := Lib.hid h5
      have HAt := Lib.hid hat
      have HLb := Lib.hid hlb
      have HL5 := Lib.hid (Array.getElem?_eq_some_iff.1 h5).1
      have HL4 := Lib.hid (Array.getElem?_eq_some_iff.1 h4).1
      have HCm := Lib.hid (fun W => byGen_dev y x W hyf hxf)
      rw [hxa, hba] at HCm
      unfold cmpH at HCm
      have hki : (k : Int) < (n : Int) := by omega
      have hw : IntKind.i64.wrap ((k : Int) + 1) = (k : Int) + 1 := by rw [IntKind.wrap_i64]; omega
      have hk0 : 0 ≤ (k : Int) := by omega
      clear hyf hxf hcx hxs hbs hxa hba h4 h5 hat hlb hb hkl
      by_cases hg1 : y.gen < x.gen
      · have HE := Lib.hid (HNo.out (by omega))
        rw [if_pos hg1] at HCm
        clear hg1
        obtain ⟨w5, hw5⟩ : ∃ x, x = wr.drew := ⟨_, rfl⟩
        have hb5 : Below wr.heap.size wr w5 := by rw [hw5]; exact (Below.refl _ wr).drew
        have HW5 := Lib.hid hw5
        have HS5 := Lib.hid (show SupsAt w5 b off l ∧ w5.heap[g5]? = some (.cells bs.toArray 25 (0, 0)) from ⟨HAt.out.below hb5 HLb.out, (hb5.block _ HL5.out).trans H5.out⟩)
        have HB5 := Lib.hid hb5
        clear hw5 hb5
        go_wp2
        refine wp_region_held_drew (S := fun W => SupsAt W b off l ∧ W.heap[g5]? = some (.cells bs.toArray 25 (0, 0))) (by kernel_rfl) (by rw [← HW5.out]; exact HS5.out) (fun hHeld => ?_)
        rw [← HW5.out]
        refine wpAnyH_take (i := 0) (v := ?_) rfl (by kernel_rfl) (by kernel_rfl) (by kernel_rfl) (fun _ _ _ h => h) (Or.inl ⟨by rfl, ?_⟩) (by assumption) ?_
        rotate_left
        · simp only [List.getElem_toArray, List.getElem_cons_zero, List.getElem_cons_succ]; intro W hSw; (try dsimp only at hSw); go_simp; all_goals with_reducible rfl
        simp only [Act.put, List.getElem_toArray, List.getElem_cons_zero, List.getElem_cons_succ, List.setIfInBounds_toArray, List.set_cons_zero, List.set_cons_succ]
        refine wpAnyH_take (i := 1) (v := ?_) rfl (by kernel_rfl) (by kernel_rfl) (by kernel_rfl) (fun _ _ _ h => h) (Or.inl ⟨by rfl, ?_⟩) (by assumption) ?_
        rotate_left
        · simp only [List.getElem_toArray, List.getElem_cons_zero, List.getElem_cons_succ]; intro W hSw; (try dsimp only at hSw); go_simp; all_goals with_reducible rfl
        simp only [Act.put, List.getElem_toArray, List.getElem_cons_zero, List.getElem_cons_succ, List.setIfInBounds_toArray, List.set_cons_zero, List.set_cons_succ]
        refine wpAnyH_take (i := 2) (v := ?_) rfl (by kernel_rfl) (by kernel_rfl) (by kernel_rfl) (fun _ _ _ h => h) (Or.inl ⟨by rfl, ?_⟩) (by assumption) ?_
        rotate_left
        · simp only [List.getElem_toArray, List.getElem_cons_zero, List.getElem_cons_succ]; intro W hSw; (try dsimp only at hSw); go_simp; all_goals with_reducible rfl
        simp only [Act.put, List.getElem_toArray, List.getElem_cons_zero, List.getElem_cons_succ, List.setIfInBounds_toArray, List.set_cons_zero, List.set_cons_succ]
        refine wpAnyH_take (i := 3) (v := ?_) rfl (by kernel_rfl) (by kernel_rfl) (by kernel_rfl) (fun _ _ _ h => h) (Or.inl ⟨by rfl, ?_⟩) (by assumption) ?_
        rotate_left
        · simp only [List.getElem_toArray, List.getElem_cons_zero, List.getElem_cons_succ]; intro W hSw; (try dsimp only at hSw); go_simp; all_goals with_reducible rfl
        simp only [Act.put, List.getElem_toArray, List.getElem_cons_zero, List.getElem_cons_succ, List.setIfInBounds_toArray, List.set_cons_zero, List.set_cons_succ]
        refine wpAnyH_take (i := 4) (v := ?_) rfl (by kernel_rfl) (by kernel_rfl) (by kernel_rfl) (fun _ _ _ h => h) (Or.inl ⟨by rfl, ?_⟩) (by assumption) ?_
        rotate_left
        · simp only [List.getElem_toArray, List.getElem_cons_zero, List.getElem_cons_succ]; intro W hSw; (try dsimp only at hSw); refine exec_load_part 25 (.tmp 23) ?_ b (off + k * 13) ?_ xs _ (HCx.out W hSw.1) Try.underlying25 rfl HIx.out <;> rfl
        simp only [Act.put, List.getElem_toArray, List.getElem_cons_zero, List.getElem_cons_succ, List.setIfInBounds_toArray, List.set_cons_zero, List.set_cons_succ]
        refine wpAnyH_take (i := 5) (v := ?_) rfl (by kernel_rfl) (by kernel_rfl) (by kernel_rfl) (fun _ _ _ h => h) (Or.inl ⟨by rfl, ?_⟩) (by assumption) ?_
        rotate_left
        · simp only [List.getElem_toArray, List.getElem_cons_zero, List.getElem_cons_succ]; intro W hSw; (try dsimp only at hSw); refine exec_load_part 25 (.tmp 5) ?_ g5 0 ?_ bs _ (fun j u hu => by rw [Nat.zero_add, cell_of_row _ _ _ _ _ _ hSw.2]; simpa using hu) Try.underlying25 rfl HIb.out <;> rfl
        simp only [Act.put, List.getElem_toArray, List.getElem_cons_zero, List.getElem_cons_succ, List.setIfInBounds_toArray, List.set_cons_zero, List.set_cons_succ]
        refine wpAnyH_ready (rs := [6]) (by kernel_rfl) (by simp) ?_
        refine AllReadyH.cons rfl (fun K hK => ?_) AllReadyH.nil
        simp only [List.getElem_toArray, List.getElem_cons_zero, List.getElem_cons_succ]
        go_simp
        refine (HCm.out _).mono ?_
        rintro e w6 ⟨rfl, hb6⟩
        have HB6 := Lib.hid (HB5.out.trans (hb6.mono HB5.out.size))
        clear hb6
        go_wp2_with fail
        refine hK.out _ _ (⟨HAt.out.below HB6.out HLb.out, (HB6.out.block _ HL5.out).trans H5.out⟩) (fun hHeldN => ?_)
        clear hK K hHeld
        have hHeld := hHeldN
        clear hHeldN
        (try simp only [Act.put, List.getElem_toArray, List.getElem_cons_zero, List.getElem_cons_succ, List.setIfInBounds_toArray, List.set_cons_zero, List.set_cons_succ])
        refine wpAnyH_take (i := 7) (v := ?_) rfl (by kernel_rfl) (by kernel_rfl) (by kernel_rfl) (fun _ _ _ h => h) (Or.inl ⟨by rfl, ?_⟩) (by assumption) ?_
        rotate_left
        · simp only [List.getElem_toArray, List.getElem_cons_zero, List.getElem_cons_succ]; intro W hSw; (try dsimp only at hSw); go_simp; all_goals with_reducible rfl
        simp only [Act.put, List.getElem_toArray, List.getElem_cons_zero, List.getElem_cons_succ, List.setIfInBounds_toArray, List.set_cons_zero, List.set_cons_succ]
        refine wpAnyH_done (by kernel_rfl) ?_ _
        have HBn := Lib.hid (HBr.out.trans (HB6.out.mono HBr.out.size))
        have HA6 := Lib.hid (HAt.out.below HB6.out HLb.out)
        have HR6 := Lib.hid ((HB6.out.block _ HL5.out).trans H5.out)
        have HQ6 := Lib.hid ((HB6.out.block _ HL4.out).trans H4.out)
        have HL6 := Lib.hid (Nat.lt_of_lt_of_le HLb.out HB6.out.size)
        go_wp2
        go_roundw
        case rel => exact ⟨k + 1, by omega, by omega, by simp, HQ6.out, by rw [HE.out, HBa.out]; exact HR6.out, HA6.out, HL6.out, HBn.out⟩
        case measure => simp [intOf]; omega
      · by_cases hg2 : x.gen < y.gen
        · have HE := Lib.hid (HYes.out hg2)
          rw [if_neg hg1, if_pos hg2] at HCm
          clear hg1 hg2
          obtain ⟨w5, hw5⟩ : ∃ x, x = wr.drew := ⟨_, rfl⟩
          have hb5 : Below wr.heap.size wr w5 := by rw [hw5]; exact (Below.refl _ wr).drew
          have HW5 := Lib.hid hw5
          have HS5 := Lib.hid (show SupsAt w5 b off l ∧ w5.heap[g5]? = some (.cells bs.toArray 25 (0, 0)) from ⟨HAt.out.below hb5 HLb.out, (hb5.block _ HL5.out).trans H5.out⟩)
          have HB5 := Lib.hid hb5
          clear hw5 hb5
          go_wp2
          refine wp_region_held_drew (S := fun W => SupsAt W b off l ∧ W.heap[g5]? = some (.cells bs.toArray 25 (0, 0))) (by kernel_rfl) (by rw [← HW5.out]; exact HS5.out) (fun hHeld => ?_)
          rw [← HW5.out]
          refine wpAnyH_take (i := 0) (v := ?_) rfl (by kernel_rfl) (by kernel_rfl) (by kernel_rfl) (fun _ _ _ h => h) (Or.inl ⟨by rfl, ?_⟩) (by assumption) ?_
          rotate_left
          · simp only [List.getElem_toArray, List.getElem_cons_zero, List.getElem_cons_succ]; intro W hSw; (try dsimp only at hSw); go_simp; all_goals with_reducible rfl
          simp only [Act.put, List.getElem_toArray, List.getElem_cons_zero, List.getElem_cons_succ, List.setIfInBounds_toArray, List.set_cons_zero, List.set_cons_succ]
          refine wpAnyH_take (i := 1) (v := ?_) rfl (by kernel_rfl) (by kernel_rfl) (by kernel_rfl) (fun _ _ _ h => h) (Or.inl ⟨by rfl, ?_⟩) (by assumption) ?_
          rotate_left
          · simp only [List.getElem_toArray, List.getElem_cons_zero, List.getElem_cons_succ]; intro W hSw; (try dsimp only at hSw); go_simp; all_goals with_reducible rfl
          simp only [Act.put, List.getElem_toArray, List.getElem_cons_zero, List.getElem_cons_succ, List.setIfInBounds_toArray, List.set_cons_zero, List.set_cons_succ]
          refine wpAnyH_take (i := 2) (v := ?_) rfl (by kernel_rfl) (by kernel_rfl) (by kernel_rfl) (fun _ _ _ h => h) (Or.inl ⟨by rfl, ?_⟩) (by assumption) ?_
          rotate_left
          · simp only [List.getElem_toArray, List.getElem_cons_zero, List.getElem_cons_succ]; intro W hSw; (try dsimp only at hSw); go_simp; all_goals with_reducible rfl
          simp only [Act.put, List.getElem_toArray, List.getElem_cons_zero, List.getElem_cons_succ, List.setIfInBounds_toArray, List.set_cons_zero, List.set_cons_succ]
          refine wpAnyH_take (i := 3) (v := ?_) rfl (by kernel_rfl) (by kernel_rfl) (by kernel_rfl) (fun _ _ _ h => h) (Or.inl ⟨by rfl, ?_⟩) (by assumption) ?_
          rotate_left
          · simp only [List.getElem_toArray, List.getElem_cons_zero, List.getElem_cons_succ]; intro W hSw; (try dsimp only at hSw); go_simp; all_goals with_reducible rfl
          simp only [Act.put, List.getElem_toArray, List.getElem_cons_zero, List.getElem_cons_succ, List.setIfInBounds_toArray, List.set_cons_zero, List.set_cons_succ]
          refine wpAnyH_take (i := 4) (v := ?_) rfl (by kernel_rfl) (by kernel_rfl) (by kernel_rfl) (fun _ _ _ h => h) (Or.inl ⟨by rfl, ?_⟩) (by assumption) ?_
          rotate_left
          · simp only [List.getElem_toArray, List.getElem_cons_zero, List.getElem_cons_succ]; intro W hSw; (try dsimp only at hSw); refine exec_load_part 25 (.tmp 23) ?_ b (off + k * 13) ?_ xs _ (HCx.out W hSw.1) Try.underlying25 rfl HIx.out <;> rfl
          simp only [Act.put, List.getElem_toArray, List.getElem_cons_zero, List.getElem_cons_succ, List.setIfInBounds_toArray, List.set_cons_zero, List.set_cons_succ]
          refine wpAnyH_take (i := 5) (v := ?_) rfl (by kernel_rfl) (by kernel_rfl) (by kernel_rfl) (fun _ _ _ h => h) (Or.inl ⟨by rfl, ?_⟩) (by assumption) ?_
          rotate_left
          · simp only [List.getElem_toArray, List.getElem_cons_zero, List.getElem_cons_succ]; intro W hSw; (try dsimp only at hSw); refine exec_load_part 25 (.tmp 5) ?_ g5 0 ?_ bs _ (fun j u hu => by rw [Nat.zero_add, cell_of_row _ _ _ _ _ _ hSw.2]; simpa using hu) Try.underlying25 rfl HIb.out <;> rfl
          simp only [Act.put, List.getElem_toArray, List.getElem_cons_zero, List.getElem_cons_succ, List.setIfInBounds_toArray, List.set_cons_zero, List.set_cons_succ]
          refine wpAnyH_ready (rs := [6]) (by kernel_rfl) (by simp) ?_
          refine AllReadyH.cons rfl (fun K hK => ?_) AllReadyH.nil
          simp only [List.getElem_toArray, List.getElem_cons_zero, List.getElem_cons_succ]
          go_simp
          refine (HCm.out _).mono ?_
          rintro e w6 ⟨rfl, hb6⟩
          have HB6 := Lib.hid (HB5.out.trans (hb6.mono HB5.out.size))
          clear hb6
          go_wp2_with fail
          refine hK.out _ _ (⟨HAt.out.below HB6.out HLb.out, (HB6.out.block _ HL5.out).trans H5.out⟩) (fun hHeldN => ?_)
          clear hK K hHeld
          have hHeld := hHeldN
          clear hHeldN
          (try simp only [Act.put, List.getElem_toArray, List.getElem_cons_zero, List.getElem_cons_succ, List.setIfInBounds_toArray, List.set_cons_zero, List.set_cons_succ])
          refine wpAnyH_take (i := 7) (v := ?_) rfl (by kernel_rfl) (by kernel_rfl) (by kernel_rfl) (fun _ _ _ h => h) (Or.inl ⟨by rfl, ?_⟩) (by assumption) ?_
          rotate_left
          · simp only [List.getElem_toArray, List.getElem_cons_zero, List.getElem_cons_succ]; intro W hSw; (try dsimp only at hSw); go_simp; all_goals with_reducible rfl
          simp only [Act.put, List.getElem_toArray, List.getElem_cons_zero, List.getElem_cons_succ, List.setIfInBounds_toArray, List.set_cons_zero, List.set_cons_succ]
          refine wpAnyH_done (by kernel_rfl) ?_ _
          have HBn := Lib.hid (HBr.out.trans (HB6.out.mono HBr.out.size))
          have hr6 := (HB6.out.block _ HL5.out).trans H5.out
          have HR6 := Lib.hid hr6
          have HC6 := Lib.hid (HCx.out _ (HAt.out.below HB6.out HLb.out))
          obtain ⟨w7, hw7⟩ : ∃ w7, w7 = w6.setRow g5 xs.toArray := ⟨_, rfl⟩
          have hg7 : w6.grownBy w7 (some g5) := by rw [hw7]; exact grown_setRow w6 g5 _
          have HR7 := Lib.hid (show w7.heap[g5]? = some (.cells y.cells 25 (0, 0)) by rw [HXa.out, hw7]; exact setRow_heap _ _ _ _ _ _ hr6)
          have HQ7 := Lib.hid (show w7.heap[w.heap.size]? = some (.cells Z 25 (0, 0)) from (hg7.block _ (Nat.lt_of_lt_of_le HL4.out HB6.out.size) (by intro e; have e2 : w.heap.size = g5 := Option.some.inj e; have := HG.out; omega)).trans ((HB6.out.block _ HL4.out).trans H4.out))
          have HB7 := Lib.hid (show Below w.heap.size w w7 by rw [hw7]; exact below_setRow HBn.out (by have := HG.out; omega) _)
          have HA7 := Lib.hid (show SupsAt w7 b off l from fun i hi j u hu => (World.cell?_of_block (w := w6) (hg7.block _ (by show b < _; exact Nat.lt_of_lt_of_le HLb.out HB6.out.size) (by intro e; have e2 : b = g5 := Option.some.inj e; have := HBg.out; omega))).trans ((HAt.out.below HB6.out HLb.out) i hi j u hu))
          have HL7 := Lib.hid (show b < w7.heap.size from Nat.lt_of_lt_of_le (Nat.lt_of_lt_of_le HLb.out HB6.out.size) hg7.size)
          have HW7 := Lib.hid hw7
          clear hr6 hw7 hg7
          go_wp2_with (first
            | (refine wpList_load_part rfl 25 (.tmp 30) rfl b (off + k * 13) rfl xs _ HC6.out Try.underlying25 rfl HIx.out ?_)
            | (refine wpList_store_row rfl 25 _ _ rfl g5 xs.toArray rfl rfl 25 bs.toArray HR6.out HIxa.out HSxb.out HOx.out ?_; rw [← HW7.out]))
          go_roundw
          case rel => exact ⟨k + 1, by omega, by omega, by simp, HQ7.out, by rw [HE.out]; exact HR7.out, HA7.out, HL7.out, HB7.out⟩
          case measure => simp [intOf]; omega
        · have HE := Lib.hid (HNo.out hg2)
          rw [if_neg hg1, if_neg hg2] at HCm
          clear hg1 hg2
          obtain ⟨w5, hw5⟩ : ∃ x, x = wr.drew := ⟨_, rfl⟩
          have hb5 : Below wr.heap.size wr w5 := by rw [hw5]; exact (Below.refl _ wr).drew
          have HW5 := Lib.hid hw5
          have HS5 := Lib.hid (show SupsAt w5 b off l ∧ w5.heap[g5]? = some (.cells bs.toArray 25 (0, 0)) from ⟨HAt.out.below hb5 HLb.out, (hb5.block _ HL5.out).trans H5.out⟩)
          have HB5 := Lib.hid hb5
          clear hw5 hb5
          go_wp2
          refine wp_region_held_drew (S := fun W => SupsAt W b off l ∧ W.heap[g5]? = some (.cells bs.toArray 25 (0, 0))) (by kernel_rfl) (by rw [← HW5.out]; exact HS5.out) (fun hHeld => ?_)
          rw [← HW5.out]
          refine wpAnyH_take (i := 0) (v := ?_) rfl (by kernel_rfl) (by kernel_rfl) (by kernel_rfl) (fun _ _ _ h => h) (Or.inl ⟨by rfl, ?_⟩) (by assumption) ?_
          rotate_left
          · simp only [List.getElem_toArray, List.getElem_cons_zero, List.getElem_cons_succ]; intro W hSw; (try dsimp only at hSw); go_simp; all_goals with_reducible rfl
          simp only [Act.put, List.getElem_toArray, List.getElem_cons_zero, List.getElem_cons_succ, List.setIfInBounds_toArray, List.set_cons_zero, List.set_cons_succ]
          refine wpAnyH_take (i := 1) (v := ?_) rfl (by kernel_rfl) (by kernel_rfl) (by kernel_rfl) (fun _ _ _ h => h) (Or.inl ⟨by rfl, ?_⟩) (by assumption) ?_
          rotate_left
          · simp only [List.getElem_toArray, List.getElem_cons_zero, List.getElem_cons_succ]; intro W hSw; (try dsimp only at hSw); go_simp; all_goals with_reducible rfl
          simp only [Act.put, List.getElem_toArray, List.getElem_cons_zero, List.getElem_cons_succ, List.setIfInBounds_toArray, List.set_cons_zero, List.set_cons_succ]
          refine wpAnyH_take (i := 2) (v := ?_) rfl (by kernel_rfl) (by kernel_rfl) (by kernel_rfl) (fun _ _ _ h => h) (Or.inl ⟨by rfl, ?_⟩) (by assumption) ?_
          rotate_left
          · simp only [List.getElem_toArray, List.getElem_cons_zero, List.getElem_cons_succ]; intro W hSw; (try dsimp only at hSw); go_simp; all_goals with_reducible rfl
          simp only [Act.put, List.getElem_toArray, List.getElem_cons_zero, List.getElem_cons_succ, List.setIfInBounds_toArray, List.set_cons_zero, List.set_cons_succ]
          refine wpAnyH_take (i := 3) (v := ?_) rfl (by kernel_rfl) (by kernel_rfl) (by kernel_rfl) (fun _ _ _ h => h) (Or.inl ⟨by rfl, ?_⟩) (by assumption) ?_
          rotate_left
          · simp only [List.getElem_toArray, List.getElem_cons_zero, List.getElem_cons_succ]; intro W hSw; (try dsimp only at hSw); go_simp; all_goals with_reducible rfl
          simp only [Act.put, List.getElem_toArray, List.getElem_cons_zero, List.getElem_cons_succ, List.setIfInBounds_toArray, List.set_cons_zero, List.set_cons_succ]
          refine wpAnyH_take (i := 4) (v := ?_) rfl (by kernel_rfl) (by kernel_rfl) (by kernel_rfl) (fun _ _ _ h => h) (Or.inl ⟨by rfl, ?_⟩) (by assumption) ?_
          rotate_left
          · simp only [List.getElem_toArray, List.getElem_cons_zero, List.getElem_cons_succ]; intro W hSw; (try dsimp only at hSw); refine exec_load_part 25 (.tmp 23) ?_ b (off + k * 13) ?_ xs _ (HCx.out W hSw.1) Try.underlying25 rfl HIx.out <;> rfl
          simp only [Act.put, List.getElem_toArray, List.getElem_cons_zero, List.getElem_cons_succ, List.setIfInBounds_toArray, List.set_cons_zero, List.set_cons_succ]
          refine wpAnyH_take (i := 5) (v := ?_) rfl (by kernel_rfl) (by kernel_rfl) (by kernel_rfl) (fun _ _ _ h => h) (Or.inl ⟨by rfl, ?_⟩) (by assumption) ?_
          rotate_left
          · simp only [List.getElem_toArray, List.getElem_cons_zero, List.getElem_cons_succ]; intro W hSw; (try dsimp only at hSw); refine exec_load_part 25 (.tmp 5) ?_ g5 0 ?_ bs _ (fun j u hu => by rw [Nat.zero_add, cell_of_row _ _ _ _ _ _ hSw.2]; simpa using hu) Try.underlying25 rfl HIb.out <;> rfl
          simp only [Act.put, List.getElem_toArray, List.getElem_cons_zero, List.getElem_cons_succ, List.setIfInBounds_toArray, List.set_cons_zero, List.set_cons_succ]
          refine wpAnyH_ready (rs := [6]) (by kernel_rfl) (by simp) ?_
          refine AllReadyH.cons rfl (fun K hK => ?_) AllReadyH.nil
          simp only [List.getElem_toArray, List.getElem_cons_zero, List.getElem_cons_succ]
          go_simp
          refine (HCm.out _).mono ?_
          rintro e w6 ⟨rfl, hb6⟩
          have HB6 := Lib.hid (HB5.out.trans (hb6.mono HB5.out.size))
          clear hb6
          go_wp2_with fail
          refine hK.out _ _ (⟨HAt.out.below HB6.out HLb.out, (HB6.out.block _ HL5.out).trans H5.out⟩) (fun hHeldN => ?_)
          clear hK K hHeld
          have hHeld := hHeldN
          clear hHeldN
          (try simp only [Act.put, List.getElem_toArray, List.getElem_cons_zero, List.getElem_cons_succ, List.setIfInBounds_toArray, List.set_cons_zero, List.set_cons_succ])
          refine wpAnyH_take (i := 7) (v := ?_) rfl (by kernel_rfl) (by kernel_rfl) (by kernel_rfl) (fun _ _ _ h => h) (Or.inl ⟨by rfl, ?_⟩) (by assumption) ?_
          rotate_left
          · simp only [List.getElem_toArray, List.getElem_cons_zero, List.getElem_cons_succ]; intro W hSw; (try dsimp only at hSw); go_simp; all_goals with_reducible rfl
          simp only [Act.put, List.getElem_toArray, List.getElem_cons_zero, List.getElem_cons_succ, List.setIfInBounds_toArray, List.set_cons_zero, List.set_cons_succ]
          refine wpAnyH_done (by kernel_rfl) ?_ _
          have HBn := Lib.hid (HBr.out.trans (HB6.out.mono HBr.out.size))
          have HA6 := Lib.hid (HAt.out.below HB6.out HLb.out)
          have HR6 := Lib.hid ((HB6.out.block _ HL5.out).trans H5.out)
          have HQ6 := Lib.hid ((HB6.out.block _ HL4.out).trans H4.out)
          have HL6 := Lib.hid (Nat.lt_of_lt_of_le HLb.out HB6.out.size)
          go_wp2
          go_roundw
          case rel => exact ⟨k + 1, by omega, by omega, by simp, HQ6.out, by rw [HE.out, HBa.out]; exact HR6.out, HA6.out, HL6.out, HBn.out⟩
          case measure => simp [intOf]; omega
    · obtain rfl : k = n := by omega
      have hf1 := bestK_fine HF.out (show 0 < l.length by rw [← HN.out]; omega) (k := k) (by rw [← HN.out]; omega)
      have HE := Lib.hid (show bestK l k = bestK l k from rfl)
      obtain ⟨R, hR⟩ : ∃ R, R = (bestK l k).cells := ⟨_, rfl⟩
      rw [← hR] at h5
      have HR := Lib.hid hR
      have HI := Lib.hid (show (Try.prog.info? 25).map (·.size) = some R.size by rw [super_info, hR, cells_len hf1])
      have HSz := Lib.hid (show Z.size = R.size by rw [HZl.out, hR, cells_len hf1])
      have HOr := Lib.hid (show R.all (·.oneCell') = true by rw [hR]; exact cells_all)
      have H5 := Lib.hid h5
      clear hf1 hR h4 h5 hat hlb hb
      go_wp2_with (first
        | (refine wpList_load_row rfl 25 _ rfl g5 rfl 25 R (0, 0) _ H5.out Try.underlying25 rfl HI.out ?_)
        | (refine wpList_store_row rfl 25 _ _ rfl w.heap.size R rfl rfl 25 Z H4.out HI.out HSz.out HOr.out ?_))
      exact bodyPost_ret (results_cell1H (t := 25) (p := 4) rfl _ _ w.heap.size R (0, 0) _ rfl (setRow_heap _ _ _ _ _ _ H4.out) Try.underlying25 rfl HI.out) rfl ⟨by rw [HR.out], below_setRow HBr.out (Nat.le_refl _) _⟩
end Go.Proofs.Ytgkbhdecohlpmaa
end

section
/-
  The developers' answers: the superblock of a disk; all ten contracts.
-/
namespace Go.Proofs.Ytgkbhdecohlpmaa
set_option maxRecDepth 100000
open Go.RowKit
set_option maxRecDepth 100000

theorem sec_same (w : World) (D d : Nat) (hD : D = d + 2) (xs ys : List Nat) (hx : xs.length = 64) (hy : ys.length = 64) : (Op.equalIn D 64 (.agg (vals xs).toArray) (.agg (vals ys).toArray)).run Try.prog w = .ok (decide (xs = ys)) w := by
  subst hD
  obtain ⟨i0, hi, _, hz1, _⟩ := info_parts Try.info5
  have hcell : Try.prog.cellsOf 5 = 1 := by kernel_rfl
  rw [run_equalIn_array w (d + 1) _ _ Try.underlying64 hi, hcell, List.range_eq_range', eqItems_bytes d xs ys (by omega) 64 0 w (by omega)]
  simp only [List.drop_zero, List.take_of_length_le (Nat.le_of_eq hx), List.take_of_length_le (Nat.le_of_eq hy)]
theorem part_secA (w : World) (a b : List Nat) (ha : a.length = 64) : (part 64 (vals (a ++ b)).toArray (0 * 64)).run Try.prog w = .ok (.agg (vals a).toArray) w := by
  obtain ⟨i, hi, hs⟩ : ∃ i, Try.prog.info? 64 = some i ∧ i.size = 64 := by
    have h := hsec_size
    cases hq : Try.prog.info? 64 with
    | none => rw [hq] at h; cases h
    | some i => rw [hq] at h; exact ⟨i, rfl, Option.some.inj h⟩
  have e : (vals (a ++ b)).toArray.extract 0 64 = (vals a).toArray := by
    rw [vals_append, List.extract_toArray]
    congr 1
    simp only [List.extract, Nat.sub_zero, List.drop_zero]
    exact List.take_left' (by rw [vals_length, ha])
  have e2 : (vals (a ++ b)).take 64 = vals a := by rw [vals_append]; exact List.take_left' (by rw [vals_length, ha])
  simp only [Nat.zero_mul, part, isAgg, Sem.run_bind, run_underlying Try.underlying64, Result.andThen_ok, Sem.run_pure, if_true, sizeOf, typeInfo, hi, hs, Nat.zero_add, e]
  simp [hi, hs, e2]
theorem part_secB (w : World) (a b : List Nat) (ha : a.length = 64) (hb : b.length = 64) : (part 64 (vals (a ++ b)).toArray (1 * 64)).run Try.prog w = .ok (.agg (vals b).toArray) w := by
  obtain ⟨i, hi, hs⟩ : ∃ i, Try.prog.info? 64 = some i ∧ i.size = 64 := by
    have h := hsec_size
    cases hq : Try.prog.info? 64 with
    | none => rw [hq] at h; cases h
    | some i => rw [hq] at h; exact ⟨i, rfl, Option.some.inj h⟩
  have e : (vals (a ++ b)).toArray.extract 64 128 = (vals b).toArray := by
    rw [vals_append, List.extract_toArray]
    congr 1
    simp only [List.extract]
    rw [List.drop_left' (by rw [vals_length, ha]), List.take_of_length_le (by rw [vals_length, hb]; decide)]
  have e2 : ((vals (a ++ b)).drop 64).take 64 = vals b := by rw [vals_append, List.drop_left' (by rw [vals_length, ha]), List.take_of_length_le (by rw [vals_length, hb]; decide)]
  simp only [Nat.one_mul, part, isAgg, Sem.run_bind, run_underlying Try.underlying64, Result.andThen_ok, Sem.run_pure, if_true, sizeOf, typeInfo, hi, hs, e]
  simp [hi, hs, e2]
theorem items_no (w : World) (D : Nat) (xs ys : Array Value) (x y : Value) (is : List Nat) (i c : Nat) (hx : (part 64 xs (i * c)).run Try.prog w = .ok x w) (hy : (part 64 ys (i * c)).run Try.prog w = .ok y w) (he : (Op.equalIn D 64 x y).run Try.prog w = .ok false w) :
    (Op.eqItems D 64 c xs ys (i :: is)).run Try.prog w = .ok false w := by
  simp only [Op.eqItems, Sem.run_bind, hx, hy, he, Result.andThen_ok, Bool.not_false, if_true, Sem.run_pure]
theorem items_yes (w : World) (D : Nat) (xs ys : Array Value) (x y : Value) (is : List Nat) (i c : Nat) (hx : (part 64 xs (i * c)).run Try.prog w = .ok x w) (hy : (part 64 ys (i * c)).run Try.prog w = .ok y w) (he : (Op.equalIn D 64 x y).run Try.prog w = .ok true w) :
    (Op.eqItems D 64 c xs ys (i :: is)).run Try.prog w = (Op.eqItems D 64 c xs ys is).run Try.prog w := by
  simp only [Op.eqItems, Sem.run_bind, hx, hy, he, Result.andThen_ok, Bool.not_true, Bool.false_eq_true, if_false]
theorem items_nil (w : World) (D : Nat) (xs ys : Array Value) (c : Nat) : (Op.eqItems D 64 c xs ys []).run Try.prog w = .ok true w := by
  simp only [Op.eqItems, Sem.run_pure]
theorem two_same (w : World) (D d2 d : Nat) (h1 : D = d2 + 1) (h2 : d2 = d + 2) (a b c e : List Nat) (ha : a.length = 64) (hb : b.length = 64) (hc : c.length = 64) (he : e.length = 64) :
    (Op.equalIn D 82 (.agg (vals (a ++ b)).toArray) (.agg (vals (c ++ e)).toArray)).run Try.prog w = .ok (decide (a = c) && decide (b = e)) w := by
  subst h1
  obtain ⟨i, hi, hs⟩ : ∃ i, Try.prog.info? 64 = some i ∧ i.size = 64 := by
    have h := hsec_size
    cases hq : Try.prog.info? 64 with
    | none => rw [hq] at h; cases h
    | some i => rw [hq] at h; exact ⟨i, rfl, Option.some.inj h⟩
  have hcell : Try.prog.cellsOf 64 = 64 := by unfold Program.cellsOf; rw [hi]; exact hs
  have e1 := sec_same w d2 d h2 a c ha hc
  have e2 := sec_same w d2 d h2 b e hb he
  rw [run_equalIn_array w d2 _ _ Try.underlying82 hi, hcell, show List.range 2 = [0, 1] from rfl]
  by_cases h : a = c
  · rw [decide_eq_true h] at e1 ⊢
    rw [items_yes w d2 _ _ _ _ _ 0 64 (part_secA w a b ha) (part_secA w c e hc) e1]
    by_cases h3 : b = e
    · rw [decide_eq_true h3] at e2 ⊢
      rw [items_yes w d2 _ _ _ _ _ 1 64 (part_secB w a b ha hb) (part_secB w c e hc he) e2, items_nil]
      rfl
    · rw [decide_eq_false h3] at e2 ⊢
      rw [items_no w d2 _ _ _ _ _ 1 64 (part_secB w a b ha hb) (part_secB w c e hc he) e2]
      rfl
  · rw [decide_eq_false h] at e1 ⊢
    rw [items_no w d2 _ _ _ _ _ 0 64 (part_secA w a b ha) (part_secA w c e hc) e1]
    rfl
theorem two_eq (w : World) (a b c e : List Nat) (ha : a.length = 64) (hb : b.length = 64) (hc : c.length = 64) (he : e.length = 64) :
    (binOp .eql 82 (.agg (vals (a ++ b)).toArray) (.agg (vals (c ++ e)).toArray)).run Try.prog w = .ok (.bool (decide (a = c) && decide (b = e))) w := by
  rw [run_eql_struct, two_same w 10000 9999 9997 rfl rfl a b c e ha hb hc he]
  rfl
theorem gets_nil_dev : GetSNil := by
  intro w
  rw [zero_cells]
  go_enter Try.func15, Try.ntmps15
  go_wp2
  exact bodyPost_ret (v := .tuple #[.agg #[.int .i64 0, .int .i64 0, .int .i64 0, .int .i64 0, .int .i64 0, .int .i64 0, .int .i64 0, .int .i64 0, .int .i64 0, .int .i64 0, .int .i64 0, .int .i64 0, .int .i64 0], .int .i64 1]) (by simp [results, Try.results15, go_sem]) rfl ⟨rfl, (Below.refl _ _).alloc (Nat.le_refl _) _⟩
def zer64 : List Nat := List.replicate 64 0
theorem getSp_first {s0 s1 : List Nat} (h0 : s0 = zer64) (h1 : s1 = zer64) : getSp s0 s1 = some firstS := by subst h0; subst h1; exact get_first
theorem getSp_none {s0 s1 : List Nat} (hl0 : s0.length = 64) (hl1 : s1.length = 64) (h : ¬ (s0 = zer64 ∧ s1 = zer64)) (hs : stK s0 s1 2 = []) : getSp s0 s1 = none := by
  have e : stK s0 s1 2 = (readSp 0 s0).toList ++ (readSp 1 s1).toList := rfl
  rw [e, List.append_eq_nil_iff] at hs
  unfold getSp
  cases h0 : readSp 0 s0 with
  | some x => rw [h0] at hs; cases hs.1
  | none =>
    cases h1 : readSp 1 s1 with
    | some x => rw [h1] at hs; cases hs.2
    | none =>
      simp only
      rw [if_neg]
      rintro ⟨z0, z1⟩
      rw [allZ_eq hl0, decide_eq_true_eq] at z0
      rw [allZ_eq hl1, decide_eq_true_eq] at z1
      exact h ⟨z0, z1⟩
theorem getSp_some {s0 s1 : List Nat} (hs : stK s0 s1 2 ≠ []) : getSp s0 s1 = some (bestK (stK s0 s1 2) (stK s0 s1 2).length) := by
  have e : stK s0 s1 2 = (readSp 0 s0).toList ++ (readSp 1 s1).toList := rfl
  rw [e] at hs ⊢
  unfold getSp
  cases h0 : readSp 0 s0 with
  | some x =>
    cases h1 : readSp 1 s1 with
    | some y =>
      show (if x.gen < y.gen then some y else some x) = some (bestK [x, y] (1 + 1))
      rw [bestK, bestK_one]
      show _ = some (if x.gen < y.gen then y else x)
      split <;> rfl
    | none =>
      show some x = some (bestK [x] 1)
      rw [bestK_one]; rfl
  | none =>
    cases h1 : readSp 1 s1 with
    | some y =>
      show some y = some (bestK [y] 1)
      rw [bestK_one]; rfl
    | none => rw [h0, h1] at hs; exact absurd rfl hs
theorem two_zero : (Try.prog.info? 82).map (·.zero) = some (some (.agg (vals (zer64 ++ zer64)).toArray)) := by kernel_rfl
theorem two_size : (Try.prog.info? 82).map (·.size) = some 128 := by kernel_rfl
theorem hsec_info (bs : List Nat) (h : bs.length = 64) : (Try.prog.info? 64).map (·.size) = some (vals bs).length := by rw [vals_length, h]; exact hsec_size
theorem OwnS.slice {w : World} {base : Nat} {l : List Sup} {v : Value} (h : OwnS w base l v) : ∃ A c, v = .slice A l.length c := by
  rcases h.2 with ⟨e, h0⟩ | ⟨g, cap, cur, e, _⟩
  · exact ⟨none, 0, by rw [e, h0]⟩
  · exact ⟨_, _, e⟩
def both (s0 s1 : List Nat) (k : Int) : List Nat := if k = 0 then [] ++ zer64 ++ zer64 else if k = 1 then [] ++ s0 ++ zer64 else s0 ++ s1 ++ []
theorem both2 (s0 s1 : List Nat) : both s0 s1 2 = s0 ++ s1 := by unfold both; simp
theorem zer_len : zer64.length = 64 := by unfold zer64; simp
def GotS (s0 s1 : List Nat) (w : World) (e : Ending) (w' : World) : Prop := ∃ s : Sup, e = .returned (.tuple #[.agg s.cells, .int .i64 (if (getSp s0 s1).isSome then 0 else 40)]) ∧ s.Fine ∧ (∀ x, getSp s0 s1 = some x → s = x) ∧ Below w.heap.size w w'
theorem GotS.some {s0 s1 : List Nat} {w w' : World} {e : Ending} {s : Sup} (h : getSp s0 s1 = some s) (hf : s.Fine) (he : e = .returned (.tuple #[.agg s.cells, .int .i64 0])) (hb : Below w.heap.size w w') : GotS s0 s1 w e w' := by
  refine ⟨s, by rw [he, h]; rfl, hf, fun x hx => ?_, hb⟩
  rw [h] at hx
  exact Option.some.inj hx
theorem zero_fine : zeroS.Fine := ⟨rfl, by unfold zeroS Sup.ints zeros8; simp only [List.replicate, List.mem_cons, List.not_mem_nil, or_false]; intro z hz; omega⟩
theorem GotS.none {s0 s1 : List Nat} {w w' : World} {e : Ending} (h : getSp s0 s1 = none) (he : e = .returned (.tuple #[.agg zeroS.cells, .int .i64 40])) (hb : Below w.heap.size w w') : GotS s0 s1 w e w' := by
  refine ⟨zeroS, by rw [he, h]; rfl, zero_fine, fun x hx => ?_, hb⟩
  rw [h] at hx
  cases hx
set_option maxHeartbeats 4000000 in
theorem gets_dev : GetSSays := by
  intro w S a d h hd
  have hs0 := h.newest_sec (n := 0) (by omega)
  have hs1 := h.newest_sec (n := 1) (by omega)
  have HRd0 := Lib.hid (fun W (hW : Below w.heap.size w W) => hread_dev (h.below hW (Nat.le_refl _)) hd (n := 0) (by omega))
  have HRd1 := Lib.hid (fun W (hW : Below w.heap.size w W) => hread_dev (h.below hW (Nat.le_refl _)) hd (n := 1) (by omega))
  rw [show ((0 : Nat) : Int) = 0 from rfl] at HRd0
  rw [show ((1 : Nat) : Int) = 1 from rfl] at HRd1
  unfold supAt
  generalize d.newest 0 = s0 at *
  generalize d.newest 1 = s1 at *
  have HL0 := Lib.hid hs0.1
  have HL1 := Lib.hid hs1.1
  have HZe := Lib.hid zer_len
  obtain ⟨Zs, hZs⟩ : ∃ Z, Z = zeroS.cells := ⟨_, rfl⟩
  have HZs := Lib.hid (show (Try.prog.info? 25).map (·.zero) = some (some (.agg Zs)) by rw [hZs, zero_cells]; kernel_rfl)
  obtain ⟨Zt, hZt⟩ : ∃ Z, Z = (vals (zer64 ++ zer64)).toArray := ⟨_, rfl⟩
  have HZt := Lib.hid (show (Try.prog.info? 82).map (·.zero) = some (some (.agg Zt)) by rw [hZt]; exact two_zero)
  obtain ⟨w1, hw1⟩ : ∃ w1, w1 = w.alloc (.cells Zs 25) := ⟨_, rfl⟩
  obtain ⟨w2, hw2⟩ : ∃ w2, w2 = w1.alloc (.cells Zt 82) := ⟨_, rfl⟩
  have hz1 : w1.heap.size = w.heap.size + 1 := by rw [hw1]; simp
  have hz2 : w2.heap.size = w1.heap.size + 1 := by rw [hw2]; simp
  have hb1 : Below w.heap.size w w1 := by rw [hw1]; exact (Below.refl _ w).alloc (Nat.le_refl _) _
  have hb2 : Below w1.heap.size w1 w2 := by rw [hw2]; exact (Below.refl _ w1).alloc (Nat.le_refl _) _
  have H2_ := Lib.hid (show w2.heap[w.heap.size]? = some (.cells Zs 25 (0, 0)) from (hb2.block _ (by omega)).trans (by rw [hw1]; exact heap_alloc_new w _))
  have H4_ := Lib.hid (show w2.heap[w1.heap.size]? = some (.cells (vals (both s0 s1 0)).toArray 82 (0, 0)) by rw [hw2, heap_alloc_new w1 _, hZt]; rfl)
  have HB2 := Lib.hid (hb1.trans (hb2.mono hb1.size))
  have HG := Lib.hid (show w.heap.size < w1.heap.size by omega)
  have HW1 := Lib.hid hw1
  have HW2 := Lib.hid hw2
  have HZz := Lib.hid hZs
  have HZtt := Lib.hid hZt
  have H0 := Lib.hid hs0
  have H1 := Lib.hid hs1
  generalize hg4 : w1.heap.size = g4 at *
  have HQ1 := Lib.hid hg4
  show Calls Try.prog 15 #[.pointer (some ⟨a, 0, none⟩)] w (GotS s0 s1 w)
  clear h hd hs0 hs1 hZs hZt hw1 hw2 hz1 hz2 hb1 hb2 hg4
  go_enter Try.func15, Try.ntmps15
  go_wp2_with (first | (refine wpList_alloc_any rfl 25 rfl Zs HZs.out ?_; rw [← HW1.out]) | (refine wpList_alloc_any rfl 82 rfl Zt HZt.out ?_; rw [HQ1.out, ← HW2.out]))
  go_loopw [12] (fun i wr => ∃ k : Int, (k = 0 ∨ k = 1 ∨ k = 2) ∧ i = .int .i64 k ∧ wr.heap[w.heap.size]? = some (.cells Zs 25 (0, 0)) ∧ wr.heap[g4]? = some (.cells (vals (both s0 s1 k)).toArray 82 (0, 0)) ∧ Below w.heap.size w wr) (fun i _ => 2 - (intOf i).toNat)
  case atStart => exact ⟨0, by omega, rfl, H2_.out, H4_.out, HB2.out⟩
  case round =>
    clear H2_ H4_ HB2
    obtain ⟨k, hk, rfl, h2, h4, hb⟩ := hrel
    have HBr := Lib.hid hb
    have H2 := Lib.hid h2
    have HL2 := Lib.hid (Array.getElem?_eq_some_iff.1 h2).1
    have HL4 := Lib.hid (Array.getElem?_eq_some_iff.1 h4).1
    rcases hk with rfl | rfl | rfl
    · have H4 := Lib.hid (show wr.heap[g4]? = some (.cells (vals [] ++ vals zer64 ++ vals zer64).toArray 82 (0, 0)) by rw [h4, ← vals_append, ← vals_append]; rfl)
      clear hb h2 h4
      have HR := Lib.hid (show Calls Try.prog 25 #[.pointer (some ⟨a, 0, none⟩), .int .i64 0] wr fun e w' => e = .returned (.tuple #[.agg (vals s0).toArray, .int .i64 0]) ∧ Below wr.heap.size wr w' from HRd0.out wr HBr.out)
      go_wp2_with (fail)
      refine HR.out.mono ?_
      rintro e w4 ⟨rfl, hb4⟩
      have h44 := (hb4.block _ HL4.out).trans H4.out
      have H44 := Lib.hid h44
      have H24 := Lib.hid ((hb4.block _ HL2.out).trans H2.out)
      have HB4 := Lib.hid (HBr.out.trans (hb4.mono HBr.out.size))
      obtain ⟨w5, hw5⟩ : ∃ x, x = w4.setRow g4 (vals [] ++ vals s0 ++ vals zer64).toArray := ⟨_, rfl⟩
      have H45 := Lib.hid (show w5.heap[g4]? = some (.cells (vals (both s0 s1 1)).toArray 82 (0, 0)) by rw [hw5, setRow_heap _ _ _ _ _ _ h44, ← vals_append, ← vals_append]; rfl)
      have H25 := Lib.hid (show w5.heap[w.heap.size]? = some (.cells Zs 25 (0, 0)) by rw [hw5]; exact (setRow_other _ _ _ _ (by have := HG.out; omega)).trans H24.out)
      have HB5 := Lib.hid (show Below w.heap.size w w5 by rw [hw5]; exact below_setRow HB4.out (by have := HG.out; omega) _)
      have HW5 := Lib.hid hw5
      clear h44 hb4 hw5
      go_wp2_with (refine wpList_store_part rfl 64 (.tmp 22) (.tmp 20) rfl g4 0 rfl (vals s0) rfl 82 (vals []) (vals zer64) (vals zer64) H44.out (by rw [vals_length, List.length_nil]) (by rw [vals_length, vals_length, HZe.out, HL0.out]) (hsec_info _ HL0.out) vals_one ?_; rw [← HW5.out])
      go_roundw
      case rel => exact ⟨1, by omega, rfl, H25.out, H45.out, HB5.out⟩
      case measure => simp [intOf]
    · have H4 := Lib.hid (show wr.heap[g4]? = some (.cells (vals s0 ++ vals zer64 ++ vals []).toArray 82 (0, 0)) by rw [h4, ← vals_append, ← vals_append]; simp [both])
      clear hb h2 h4
      have HR := Lib.hid (show Calls Try.prog 25 #[.pointer (some ⟨a, 0, none⟩), .int .i64 1] wr fun e w' => e = .returned (.tuple #[.agg (vals s1).toArray, .int .i64 0]) ∧ Below wr.heap.size wr w' from HRd1.out wr HBr.out)
      go_wp2_with (fail)
      refine HR.out.mono ?_
      rintro e w4 ⟨rfl, hb4⟩
      have h44 := (hb4.block _ HL4.out).trans H4.out
      have H44 := Lib.hid h44
      have H24 := Lib.hid ((hb4.block _ HL2.out).trans H2.out)
      have HB4 := Lib.hid (HBr.out.trans (hb4.mono HBr.out.size))
      obtain ⟨w5, hw5⟩ : ∃ x, x = w4.setRow g4 (vals s0 ++ vals s1 ++ vals []).toArray := ⟨_, rfl⟩
      have H45 := Lib.hid (show w5.heap[g4]? = some (.cells (vals (both s0 s1 2)).toArray 82 (0, 0)) by rw [hw5, setRow_heap _ _ _ _ _ _ h44, ← vals_append, ← vals_append]; rfl)
      have H25 := Lib.hid (show w5.heap[w.heap.size]? = some (.cells Zs 25 (0, 0)) by rw [hw5]; exact (setRow_other _ _ _ _ (by have := HG.out; omega)).trans H24.out)
      have HB5 := Lib.hid (show Below w.heap.size w w5 by rw [hw5]; exact below_setRow HB4.out (by have := HG.out; omega) _)
      have HW5 := Lib.hid hw5
      clear h44 hb4 hw5
      go_wp2_with (refine wpList_store_part rfl 64 (.tmp 22) (.tmp 20) rfl g4 64 rfl (vals s1) rfl 82 (vals s0) (vals zer64) (vals []) H44.out (by rw [vals_length, HL0.out]) (by rw [vals_length, vals_length, HZe.out, HL1.out]) (hsec_info _ HL1.out) vals_one ?_; rw [← HW5.out])
      go_roundw
      case rel => exact ⟨2, by omega, rfl, H25.out, H45.out, HB5.out⟩
      case measure => simp [intOf]
    · rw [both2] at h4
      have H4 := Lib.hid h4
      clear hb h2 h4
      have hl0 := HL0.out
      have hl1 := HL1.out
      have HIt := Lib.hid (show (Try.prog.info? 82).map (·.size) = some (vals (s0 ++ s1)).toArray.size by rw [two_size, vals_size, List.length_append, hl0, hl1])
      have HZb := Lib.hid (show (Try.prog.info? 82).map (·.zero) = some (some (.agg Zt)) from HZt.out)
      have HSs := Lib.hid (fun (s : Sup) (hf : s.Fine) => show (Try.prog.info? 25).map (·.size) = some s.cells.size ∧ Zs.size = s.cells.size by
        rw [super_info, cells_len hf]; exact ⟨rfl, by rw [HZz.out]; rfl⟩)
      have hE : ∀ W, (binOp .eql 82 (.agg (vals (s0 ++ s1)).toArray) (.agg Zt)).run Try.prog W = .ok (.bool (decide (s0 = zer64) && decide (s1 = zer64))) W := fun W => by
        rw [HZtt.out]; exact two_eq W s0 s1 zer64 zer64 hl0 hl1 zer_len zer_len
      have HFn := Lib.hid (stK_fine H0.out H1.out 2)
      have HSt := Lib.hid (fun W => standing_dev s0 s1 H0.out H1.out W)
      clear hl0 hl1
      by_cases hz : s0 = zer64 ∧ s1 = zer64
      · rw [decide_eq_true hz.1, decide_eq_true hz.2, Bool.and_self] at hE
        have HG2 := Lib.hid (fun e w' => GotS.some (w := w) (e := e) (w' := w') (getSp_first hz.1 hz.2) first_fine)
        have HE := Lib.hid hE
        clear hz hE
        have heq := HE.out
        go_wp2_with (first | (refine wpList_load_row rfl 82 _ rfl g4 rfl 82 (vals (s0 ++ s1)).toArray (0, 0) _ H4.out Try.underlying82 rfl HIt.out ?_) | (refine wpList_build_zero rfl 82 rfl 2 64 Try.underlying82 Zt HZb.out 64 hsec_size ?_))
        refine (first_dev _).mono ?_
        rintro e w6 ⟨rfl, hb6⟩
        have H26 := Lib.hid ((hb6.block _ HL2.out).trans H2.out)
        have HB6 := Lib.hid (HBr.out.trans (hb6.mono HBr.out.size))
        have HIf := Lib.hid (HSs.out firstS first_fine)
        have HAf := Lib.hid (cells_all (s := firstS))
        clear hb6 heq
        generalize hR : firstS.cells = R at *
        have HR := Lib.hid hR
        clear hR
        go_wp2_with (refine wpList_store_row rfl 25 _ _ rfl w.heap.size R rfl rfl 25 Zs H26.out HIf.out.1 HIf.out.2 HAf.out ?_)
        exact bodyPost_ret (results_cell_tmp (t := 25) (p := 2) (u := 3) rfl _ _ w.heap.size R (0, 0) _ rfl (setRow_heap _ _ _ _ _ _ H26.out) Try.underlying25 rfl HIf.out.1) rfl (HG2.out _ _ rfl (below_setRow HB6.out (Nat.le_refl _) _))
      · have hE0 : (decide (s0 = zer64) && decide (s1 = zer64)) = false := by
          rw [Bool.and_eq_false_iff]
          by_cases h : s0 = zer64
          · exact Or.inr (decide_eq_false fun h2 => hz ⟨h, h2⟩)
          · exact Or.inl (decide_eq_false h)
        rw [hE0] at hE
        have HE := Lib.hid hE
        have HNz := Lib.hid hz
        clear hz hE hE0
        have heq := HE.out
        go_wp2_with (first | (refine wpList_load_row rfl 82 _ rfl g4 rfl 82 (vals (s0 ++ s1)).toArray (0, 0) _ H4.out Try.underlying82 rfl HIt.out ?_) | (refine wpList_build_zero rfl 82 rfl 2 64 Try.underlying82 Zt HZb.out 64 hsec_size ?_))
        clear heq
        refine (HSt.out _).mono ?_
        rintro e w6 ⟨v, rfl, hv, hb6⟩
        have H26 := Lib.hid ((hb6.block _ HL2.out).trans H2.out)
        have HL26 := Lib.hid (Nat.lt_of_lt_of_le HL2.out hb6.size)
        have HB6 := Lib.hid (HBr.out.trans (hb6.mono HBr.out.size))
        clear hb6
        by_cases hn : stK s0 s1 2 = []
        · have HG2 := Lib.hid (fun e w' => GotS.none (w := w) (e := e) (w' := w') (getSp_none HL0.out HL1.out HNz.out hn))
          rw [hn] at hv
          obtain ⟨A6, c6, rfl⟩ := hv.slice
          have HIf := Lib.hid (HSs.out zeroS zero_fine)
          have HAf := Lib.hid (cells_all (s := zeroS))
          clear hn hv
          rw [zero_cells] at HIf HAf
          go_wp2_with (refine wpList_store_row rfl 25 _ _ rfl w.heap.size #[.int .i64 0, .int .i64 0, .int .i64 0, .int .i64 0, .int .i64 0, .int .i64 0, .int .i64 0, .int .i64 0, .int .i64 0, .int .i64 0, .int .i64 0, .int .i64 0, .int .i64 0] rfl rfl 25 Zs H26.out HIf.out.1 HIf.out.2 HAf.out ?_)
          exact bodyPost_ret (results_cell_tmp (t := 25) (p := 2) (u := 3) rfl _ _ w.heap.size #[.int .i64 0, .int .i64 0, .int .i64 0, .int .i64 0, .int .i64 0, .int .i64 0, .int .i64 0, .int .i64 0, .int .i64 0, .int .i64 0, .int .i64 0, .int .i64 0, .int .i64 0] (0, 0) _ rfl (setRow_heap _ _ _ _ _ _ H26.out) Try.underlying25 rfl HIf.out.1) rfl (HG2.out _ _ (by rw [zero_cells]; rfl) (below_setRow HB6.out (Nat.le_refl _) _))
        · have hlen : 0 < (stK s0 s1 2).length := List.length_pos_iff.2 hn
          have HG2 := Lib.hid (fun e w' => GotS.some (w := w) (e := e) (w' := w') (getSp_some hn) (bestK_fine HFn.out hlen (Nat.le_refl _)))
          have HBf := Lib.hid (bestK_fine HFn.out hlen (Nat.le_refl _))
          obtain ⟨b, off, c, rfl, hbl, _, _, hat⟩ := sups_at hv HFn.out hlen
          have HMx := Lib.hid (max_dev (stK s0 s1 2) HFn.out hlen (stK_few _ _ _) b off c w6 hat hbl)
          clear hn hv hbl hat
          generalize bestK (stK s0 s1 2) (stK s0 s1 2).length = best at *
          generalize (stK s0 s1 2).length = n at *
          have q1 : ((n : Int) == 0) = false := by simp; omega
          have q2 : decide ((n : Int) = 0) = false := by simp; omega
          go_wp2_with (fail)
          refine HMx.out.mono ?_
          rintro e w7 ⟨rfl, hb7⟩
          replace H26 := Lib.hid ((hb7.block _ HL26.out).trans H26.out)
          replace HB6 := Lib.hid (HB6.out.trans (hb7.mono HB6.out.size))
          have HIf := Lib.hid (HSs.out best HBf.out)
          have HAf := Lib.hid (cells_all (s := best))
          clear hb7 q1 q2
          generalize hR : best.cells = R at *
          have HR := Lib.hid hR
          clear hR
          go_wp2_with (refine wpList_store_row rfl 25 _ _ rfl w.heap.size R rfl rfl 25 Zs H26.out HIf.out.1 HIf.out.2 HAf.out ?_)
          exact bodyPost_ret (results_cell_tmp (t := 25) (p := 2) (u := 3) rfl _ _ w.heap.size R (0, 0) _ rfl (setRow_heap _ _ _ _ _ _ H26.out) Try.underlying25 rfl HIf.out.1) rfl (HG2.out _ _ rfl (below_setRow HB6.out (Nat.le_refl _) _))
/-- all ten -/
theorem calls9 : Calls9 := ⟨put_dev, put_nil_dev, get_dev, get_nil_dev, puts_dev, puts_nil_dev, gets_dev, gets_nil_dev, mayH_dev, first_dev⟩
end Go.Proofs.Ytgkbhdecohlpmaa
end
