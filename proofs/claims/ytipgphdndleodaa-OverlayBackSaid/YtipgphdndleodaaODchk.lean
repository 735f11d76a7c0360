/-
  The developers' answers: which writes may be; how numbers compare.
-/
import Derived.Test.YtipgphdndleodaaOSays
namespace Go.Proofs.Ytipgphdndleodaa
set_option maxRecDepth 100000
open Go.RowKit
set_option maxRecDepth 100000

def inB (a lo hi : Int) : Bool := decide (lo ≤ a ∧ a ≤ hi)
theorem within_any (a lo hi : Int) (w : World) : Calls Try.prog 22 #[.int .i64 a, .int .i64 lo, .int .i64 hi] w fun e w' => e = .returned (.bool (inB a lo hi)) ∧ w' = w := by
  obtain ⟨E, hE⟩ : ∃ E, E = inB a lo hi := ⟨_, rfl⟩
  rw [← hE]
  unfold inB at hE
  by_cases h0 : lo ≤ a
  · by_cases h1 : a ≤ hi
    · have HE := Lib.hid (show E = true by rw [hE]; exact decide_eq_true ⟨h0, h1⟩)
      clear hE
      go_enter Try.func22, Try.ntmps22
      go_wp2
      go_ret
      exact ⟨by rw [HE.out]; rfl, rfl⟩
    · have HE := Lib.hid (show E = false by rw [hE]; exact decide_eq_false fun h => h1 h.2)
      clear hE
      go_enter Try.func22, Try.ntmps22
      go_wp2
      go_ret
      exact ⟨by rw [HE.out]; rfl, rfl⟩
  · have HE := Lib.hid (show E = false by rw [hE]; exact decide_eq_false fun h => h0 h.1)
    clear hE
    go_enter Try.func22, Try.ntmps22
    go_wp2
    go_ret
    exact ⟨by rw [HE.out]; rfl, rfl⟩
theorem box_made (w : World) (Z xs : Array Value) (T : TypeId) : Below w.heap.size w ((w.alloc (.cells Z T)).setRow w.heap.size xs) ∧ ((w.alloc (.cells Z T)).setRow w.heap.size xs).heap[w.heap.size]? = some (.cells xs T (0, 0)) ∧ ((w.alloc (.cells Z T)).setRow w.heap.size xs).heap.size = w.heap.size + 1 := by
  have hb : Below w.heap.size w (w.alloc (.cells Z T)) := (Below.refl _ w).alloc (Nat.le_refl _) _
  refine ⟨below_setRow hb (Nat.le_refl _) xs, setRow_heap _ _ _ _ _ _ (heap_alloc_new w _), ?_⟩
  simp [World.setRow]
theorem write_infos {x : Int × List Nat} (h : x.2.length = 8) : (Try.prog.info? 27).map (·.size) = some (wrv x).length := by rw [wrv_length h]; kernel_rfl
set_option maxHeartbeats 4000000 in
theorem written_dev (l : List (Int × List Nat)) (A : Option Addr) (c : Nat) (w : World) (P : Nat → Prop) (h : Wrs w P A l) (hf : WrFine l) :
    Calls Try.prog 13 #[.slice A l.length c] w fun e w' => e = .returned (.bool (writtenB l)) ∧ Below w.heap.size w w' := by
  obtain ⟨E, hE⟩ : ∃ E, E = writtenB l := ⟨_, rfl⟩
  rw [← hE]
  unfold writtenB at hE
  by_cases h8 : (l.length : Int) > 8
  · have HE := Lib.hid (show E = false by rw [hE, decide_eq_false (by omega), Bool.false_and])
    clear hE
    go_enter Try.func13, Try.ntmps13
    go_wp2
    go_ret
    exact ⟨by rw [HE.out]; rfl, Below.refl _ _⟩
  have HE := Lib.hid (show E = risingB (-1) l by rw [hE, decide_eq_true (by omega), Bool.true_and])
  clear hE
  obtain ⟨n, hn⟩ : ∃ n, n = l.length := ⟨_, rfl⟩
  rw [← hn] at h8 ⊢
  have HN := Lib.hid hn
  have HW := Lib.hid h
  have HF := Lib.hid hf
  clear hn h hf
  go_enter Try.func13, Try.ntmps13
  go_wp2
  go_loopw [3, 11] (fun lo i wr => ∃ k : Nat, k ≤ n ∧ i = .int .i64 (k : Int) ∧ lo = .int .i64 (loW l k + 1) ∧ (-1 ≤ loW l k ∧ loW l k ≤ 31) ∧ E = risingB (loW l k) (l.drop k) ∧ Below w.heap.size w wr) (fun _ i _ => n - (intOf i).toNat)
  case atStart => exact ⟨0, Nat.zero_le _, rfl, rfl, by show (-1 : Int) ≤ -1 ∧ (-1 : Int) ≤ 31; omega, HE.out, Below.refl _ _⟩
  case round =>
    obtain ⟨k, hk, rfl, rfl, hlo, hEk, hb⟩ := hrel
    have HBr := Lib.hid hb
    by_cases hlt : k < n
    · have hkl : k < l.length := by rw [← HN.out]; exact hlt
      obtain ⟨b, off, rfl, ⟨_, hbl⟩, hc⟩ := HW.out (by omega)
      have hx8 := HF.out l[k] (List.getElem_mem hkl)
      have HX := Lib.hid (show loW l (k + 1) = l[k].1 by rw [loW_succ hkl])
      rw [rising_step hkl] at hEk
      have HC := Lib.hid (show ∀ j u, (wrv l[k])[j]? = some u → wr.cell? ⟨b, off + k * 9 + j, none⟩ = some u from fun j u hu => (World.cell?_of_block (w := w) (hb.block b hbl)).trans (hc k hkl j u hu))
      have HI := Lib.hid (write_infos hx8.2.1)
      have HL9 := Lib.hid (wrv_length hx8.2.1)
      have HO := Lib.hid (show (wrv l[k]).all (·.oneCell') = true from List.all_eq_true.2 fun u hu => by
        rcases List.mem_cons.1 hu with rfl | hu
        · rfl
        · exact vals_one u hu)
      have HI64 := Lib.hid hx8.1
      have H0 := Lib.hid (show (wrv l[k])[0]? = some (.int .i64 l[k].1) from rfl)
      generalize loW l k = lo at *
      clear hb hc hx8
      generalize l[k] = x at *
      obtain ⟨y, hy⟩ : ∃ y, y = x.1 := ⟨_, rfl⟩
      rw [← hy] at hEk HX H0 HI64
      have HA := Lib.hid (fun W => within_any y (lo + 1) 31 W)
      have HEk := Lib.hid (show E = (inB y (lo + 1) 31 && risingB y (l.drop (k + 1))) by
        rw [hEk, HX.out]
        congr 1)
      have HP := Lib.hid (show inB y (lo + 1) 31 = true → lo + 1 ≤ y ∧ y ≤ 31 from fun h => by
        unfold inB at h
        exact of_decide_eq_true h)
      generalize inB y (lo + 1) 31 = p at *
      have HLo := Lib.hid hlo
      have hki : (k : Int) < (n : Int) := by omega
      have hw : IntKind.i64.wrap ((k : Int) + 1) = (k : Int) + 1 := by rw [IntKind.wrap_i64]; omega
      obtain ⟨lo1, hlo1⟩ : ∃ z, z = lo + 1 := ⟨_, rfl⟩
      rw [← hlo1] at HA ⊢
      clear hy hlo hEk hlo1
      obtain ⟨hb2, hg2, hz2⟩ := box_made wr #[.int .i64 0, .int .u8 0, .int .u8 0, .int .u8 0, .int .u8 0, .int .u8 0, .int .u8 0, .int .u8 0, .int .u8 0] (wrv x).toArray 27
      have HZ := Lib.hid (heap_alloc_new wr (.cells #[.int .i64 0, .int .u8 0, .int .u8 0, .int .u8 0, .int .u8 0, .int .u8 0, .int .u8 0, .int .u8 0, .int .u8 0] 27))
      obtain ⟨w2, hw2⟩ : ∃ w2, w2 = (wr.alloc (.cells #[.int .i64 0, .int .u8 0, .int .u8 0, .int .u8 0, .int .u8 0, .int .u8 0, .int .u8 0, .int .u8 0, .int .u8 0] 27)).setRow wr.heap.size (wrv x).toArray := ⟨_, rfl⟩
      rw [← hw2] at hb2 hg2
      have HW2 := Lib.hid hw2
      have hc0 : w2.cell? ⟨wr.heap.size, 0, none⟩ = some (.int .i64 y) := by rw [cell_of_row w2 _ 0 _ _ _ hg2, ← H0.out]; simp
      have HB2 := Lib.hid (HBr.out.trans (hb2.mono HBr.out.size))
      have HIs := Lib.hid (show (Try.prog.info? 27).map (·.size) = some (wrv x).toArray.size by rw [HI.out]; simp)
      have HSz := Lib.hid (show (#[.int .i64 0, .int .u8 0, .int .u8 0, .int .u8 0, .int .u8 0, .int .u8 0, .int .u8 0, .int .u8 0, .int .u8 0] : Array Value).size = (wrv x).toArray.size by simp [HL9.out])
      have HOa := Lib.hid (show (wrv x).toArray.all (·.oneCell') = true by simpa using HO.out)
      clear hw2 hb2 hg2 hz2
      cases p with
      | false =>
        go_wp2_with (first
          | (refine wpList_load_part rfl 27 _ rfl b (off + k * 9) rfl (wrv x) _ HC.out Try.underlying27 rfl HI.out ?_)
          | (refine wpList_store_row rfl 27 _ _ rfl wr.heap.size (wrv x).toArray rfl rfl 27 #[.int .i64 0, .int .u8 0, .int .u8 0, .int .u8 0, .int .u8 0, .int .u8 0, .int .u8 0, .int .u8 0, .int .u8 0] HZ.out HIs.out HSz.out HOa.out ?_; rw [← HW2.out]))
        refine (HA.out _).mono ?_
        rintro e w3 ⟨rfl, rfl⟩
        go_wp2
        go_ret
        exact ⟨by rw [HEk.out]; rfl, HB2.out⟩
      | true =>
        have HP2 := Lib.hid (HP.out rfl)
        have hw1 : IntKind.i64.wrap (y + 1) = y + 1 := by have := HP2.out; have := HLo.out; rw [IntKind.wrap_i64]; omega
        go_wp2_with (first
          | (refine wpList_load_part rfl 27 _ rfl b (off + k * 9) rfl (wrv x) _ HC.out Try.underlying27 rfl HI.out ?_)
          | (refine wpList_store_row rfl 27 _ _ rfl wr.heap.size (wrv x).toArray rfl rfl 27 #[.int .i64 0, .int .u8 0, .int .u8 0, .int .u8 0, .int .u8 0, .int .u8 0, .int .u8 0, .int .u8 0, .int .u8 0] HZ.out HIs.out HSz.out HOa.out ?_; rw [← HW2.out]))
        refine (HA.out _).mono ?_
        rintro e w3 ⟨rfl, rfl⟩
        go_wp2
        go_roundw
        case rel => exact ⟨k + 1, by omega, by simp, by rw [HX.out], by rw [HX.out]; have := HP2.out; have := HLo.out; omega, by rw [HX.out, HEk.out, Bool.true_and], HB2.out⟩
        case measure => simp [intOf]; omega
    · obtain rfl : k = n := by omega
      rw [List.drop_eq_nil_of_le (Nat.le_of_eq HN.out.symm)] at hEk
      have HEk := Lib.hid hEk
      have hki : ¬ (k : Int) < (k : Int) := by omega
      clear hEk hb hlo
      go_wp2
      go_ret
      exact ⟨by rw [HEk.out]; rfl, HBr.out⟩
def cmpI (a b : Int) : Int := if a < b then -1 else if b < a then 1 else 0
theorem nan_dev (a : Int) (w : World) : Calls Try.prog 30 #[.int .i64 a] w fun e w' => e = .returned (.bool false) ∧ w' = w := by
  have hq : (a != a) = false := by simp
  go_enter Try.func30, Try.ntmps30
  go_wp2
  go_ret
  exact ⟨rfl, rfl⟩
theorem compare_dev (a b : Int) (w : World) : Calls Try.prog 25 #[.int .i64 a, .int .i64 b] w fun e w' => e = .returned (.int .i64 (cmpI a b)) ∧ w' = w := by
  have HN := Lib.hid (fun a W => nan_dev a W)
  obtain ⟨E, hE⟩ : ∃ E, E = cmpI a b := ⟨_, rfl⟩
  rw [← hE]
  unfold cmpI at hE
  by_cases h0 : a < b
  · rw [if_pos h0] at hE
    have HE := Lib.hid hE
    clear hE
    go_enter Try.func25, Try.ntmps25
    go_wp2_with fail
    refine (HN.out _ _).mono ?_
    rintro e w2 ⟨rfl, rfl⟩
    go_wp2_with fail
    refine (HN.out _ _).mono ?_
    rintro e w2 ⟨rfl, rfl⟩
    go_wp2
    go_ret
    exact ⟨by rw [HE.out]; rfl, rfl⟩
  · by_cases h1 : b < a
    · rw [if_neg h0, if_pos h1] at hE
      have HE := Lib.hid hE
      clear hE
      go_enter Try.func25, Try.ntmps25
      go_wp2_with fail
      refine (HN.out _ _).mono ?_
      rintro e w2 ⟨rfl, rfl⟩
      go_wp2_with fail
      refine (HN.out _ _).mono ?_
      rintro e w2 ⟨rfl, rfl⟩
      go_wp2
      go_ret
      exact ⟨by rw [HE.out]; rfl, rfl⟩
    · rw [if_neg h0, if_neg h1] at hE
      have HE := Lib.hid hE
      clear hE
      go_enter Try.func25, Try.ntmps25
      go_wp2_with fail
      refine (HN.out _ _).mono ?_
      rintro e w2 ⟨rfl, rfl⟩
      go_wp2_with fail
      refine (HN.out _ _).mono ?_
      rintro e w2 ⟨rfl, rfl⟩
      go_wp2
      go_ret
      exact ⟨by rw [HE.out]; rfl, rfl⟩
end Go.Proofs.Ytipgphdndleodaa
