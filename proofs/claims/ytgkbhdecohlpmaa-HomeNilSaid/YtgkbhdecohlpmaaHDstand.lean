/-
  The developers' answers: the superblocks that stand in their sectors.
-/
import Derived.Test.YtgkbhdecohlpmaaHDsup
namespace Go.Proofs.Ytgkbhdecohlpmaa
set_option maxRecDepth 100000
open Go.RowKit
set_option maxRecDepth 100000

theorem wpList_buildSlice_oneH {P : Program} {ops : Array Oper} {rest : List Oper} {o : Oper} {a : Act} {w : World} {Q : Exit → Act → World → Prop} (hgd : o.guard = none) (t : TypeId) (x : Operand) (ho : o.op = .buildSlice t 1 #[(0, x)])
    (e : TypeId) (i : TypeInfo) (z : Value) (n : Nat) (ht : P.underlying t = some (.slice e)) (hi : P.info? e = some i) (hz : i.zero = some z) (hs : i.size = n) (h0 : 0 < n) (h1 : n ≤ 1000) (xs : List Value) (hx : xs.length = n) (he : a.eval x = .agg xs.toArray)
    (h : wpList P ops Q rest (a.put o.dst (.slice (some ⟨w.heap.size, 0, none⟩) 1 1)) (w.alloc (.cells xs.toArray e))) : wpList P ops Q (o :: rest) a w := by
  refine wpList_plain hgd fun _ hK => wp_value (v := .slice (some ⟨w.heap.size, 0, none⟩) 1 1) (w' := w.alloc (.cells xs.toArray e)) ?_ (hK _ _ h)
  have hr := run_buildSlice_one (P := P) w t e i z n ht hi hz hs h0 h1 xs hx
  unfold execOp
  simp [ho, he, hr, Result.andThen]
theorem supOf_take {bs : List Nat} (h : bs.length = 64) : supOf (bs.take 27) = supOf bs := by
  unfold supOf
  have e : ∀ i m, i + m ≤ 27 → ((bs.take 27).drop i).take m = (bs.drop i).take m := fun i m hm => by
    rw [List.drop_take, List.take_take, Nat.min_eq_left (by omega)]
  have e0 : (bs.take 27).take 6 = bs.take 6 := by rw [List.take_take, Nat.min_eq_left (by omega)]
  rw [e0, e 6 6 (by omega), e 12 1 (by omega), e 13 3 (by omega), e 16 3 (by omega), e 19 8 (by omega)]
theorem readSp_eq (i : Int) {bs : List Nat} (h : bs.length = 64) : readSp i bs = if sealB bs 27 = true ∧ mayP (supOf bs) ∧ (supOf bs).gen % 2 = i then some (supOf bs) else none := by
  rw [seal_open h (show 27 + 4 ≤ 64 by omega)]
  unfold readSp
  cases ho : openH bs 27 with
  | none => simp
  | some b =>
    have hb : b = bs.take 27 := by
      unfold openH at ho
      split at ho
      · exact (Option.some.inj ho).symm
      · cases ho
    subst hb
    show (if mayP (supOf (bs.take 27)) ∧ (supOf (bs.take 27)).gen % 2 = i then some (supOf (bs.take 27)) else none) = _
    rw [supOf_take h]
    simp
def supL (l : List Sup) : List Value := l.flatMap fun s => s.cells.toList
theorem supL_len {l : List Sup} (h : ∀ s ∈ l, s.Fine) : (supL l).length = l.length * 13 := by
  induction l with
  | nil => rfl
  | cons s l ih =>
    have h1 : s.cells.toList.length = 13 := by rw [Array.length_toList]; exact cells_len (h s List.mem_cons_self)
    unfold supL at ih ⊢
    rw [List.flatMap_cons, List.length_append, ih fun x hx => h x (List.mem_cons_of_mem _ hx), h1, List.length_cons]; omega
/-- superblocks, in a row of one's own -/
def OwnS (w : World) (base : Nat) (l : List Sup) (v : Value) : Prop := w.ownsRow base 25 13 v l.length (supL l)
theorem OwnS.nil_ (w : World) (base : Nat) : OwnS w base [] (.slice none 0 0) := ⟨rfl, Or.inl ⟨rfl, rfl⟩⟩
/-- what stands behind k rounds -/
def stK (s0 s1 : List Nat) (k : Int) : List Sup := if k = 0 then [] else if k = 1 then (readSp 0 s0).toList else (readSp 0 s0).toList ++ (readSp 1 s1).toList
theorem super_info3 : (Try.prog.info? 25).map (fun i => (i.zero, i.size, i.bytes)) = some (some (.agg zeroS.cells), 13, 104) := by kernel_rfl
theorem readSp_fine {i : Int} {bs : List Nat} (h : Dk.Sec bs) : ∀ s ∈ (readSp i bs).toList, s.Fine := fun s hs => by
  rw [readSp_eq i h.1] at hs
  split at hs
  · simp at hs; rw [hs]; exact supOf_fine h
  · simp at hs
theorem stK_fine {s0 s1 : List Nat} (h0 : Dk.Sec s0) (h1 : Dk.Sec s1) (k : Int) : ∀ s ∈ stK s0 s1 k, s.Fine := fun s hs => by
  unfold stK at hs
  split at hs
  · simp at hs
  split at hs
  · exact readSp_fine h0 s hs
  · rcases List.mem_append.1 hs with h | h
    · exact readSp_fine h0 s h
    · exact readSp_fine h1 s h
theorem stK_few (s0 s1 : List Nat) (k : Int) : (stK s0 s1 k).length ≤ 2 := by
  have h : ∀ i bs, (readSp i bs).toList.length ≤ 1 := fun i bs => by cases readSp i bs <;> simp
  have h0 := h 0 s0
  have h1 := h 1 s1
  unfold stK
  split
  · simp
  split
  · omega
  · rw [List.length_append]; omega
theorem stK_0 (s0 s1 : List Nat) : stK s0 s1 1 = stK s0 s1 0 ++ (readSp 0 s0).toList := rfl
theorem stK_1 (s0 s1 : List Nat) : stK s0 s1 2 = stK s0 s1 1 ++ (readSp 1 s1).toList := rfl
set_option maxHeartbeats 2000000 in
theorem standing_dev (s0 s1 : List Nat) (h0 : Dk.Sec s0) (h1 : Dk.Sec s1) (w : World) :
    Calls Try.prog 35 #[.agg (vals (s0 ++ s1)).toArray] w fun e w' => ∃ v, e = .returned v ∧ OwnS w' w.heap.size (stK s0 s1 2) v ∧ Below w.heap.size w w' := by
  obtain ⟨cs, hcs⟩ : ∃ cs, cs = (vals (s0 ++ s1)).toArray := ⟨_, rfl⟩
  rw [← hcs]
  have HIc := Lib.hid (show (Try.prog.info? 82).map (·.size) = some cs.size by rw [hcs, vals_size, List.length_append, h0.1, h1.1]; kernel_rfl)
  have hx0 : cs.extract 0 64 = (vals s0).toArray := by
    rw [hcs, vals_append, List.extract_toArray]
    congr 1
    simp only [List.extract, Nat.sub_zero, List.drop_zero]
    exact List.take_left' (by rw [vals_length, h0.1])
  have hx1 : cs.extract 64 128 = (vals s1).toArray := by
    rw [hcs, vals_append, List.extract_toArray]
    congr 1
    simp only [List.extract]
    rw [List.drop_left' (by rw [vals_length, h0.1]), List.take_of_length_le (by rw [vals_length, h1.1]; decide)]
  have HX0 := Lib.hid (fun W => show (Instr.index 82 (.agg cs) (.int .i64 0)).run Try.prog W = .ok (.agg (vals s0).toArray) W by
    have := run_index_agg (P := Try.prog) W 82 64 2 64 0 cs Try.underlying82 _ Try.underlying64 rfl hsec_size (by omega)
    rw [show 0 * 64 = 0 from rfl, show 0 + 64 = 64 from rfl, hx0] at this
    exact this)
  have HX1 := Lib.hid (fun W => show (Instr.index 82 (.agg cs) (.int .i64 1)).run Try.prog W = .ok (.agg (vals s1).toArray) W by
    have := run_index_agg (P := Try.prog) W 82 64 2 64 1 cs Try.underlying82 _ Try.underlying64 rfl hsec_size (by omega)
    rw [show 1 * 64 = 64 from rfl, show 64 + 64 = 128 from rfl, hx1] at this
    exact this)
  obtain ⟨Z, hZ⟩ : ∃ Z, Z = (vals (List.replicate 64 0)).toArray := ⟨_, rfl⟩
  have HZ := Lib.hid (show (Try.prog.info? 64).map (·.zero) = some (some (.agg Z)) by rw [hZ]; exact hsec_zero)
  have HZe := Lib.hid hZ
  obtain ⟨Zs, hZs⟩ : ∃ Z, Z = zeroS.cells := ⟨_, rfl⟩
  have HZs := Lib.hid (show (Try.prog.info? 25).map (·.zero) = some (some (.agg Zs)) by rw [hZs, zero_cells]; kernel_rfl)
  have HZl := Lib.hid (show Zs.size = 13 by rw [hZs]; rfl)
  have HB1 := Lib.hid (show Below w.heap.size w (w.alloc (.cells cs 82)) from (Below.refl _ w).alloc (Nat.le_refl _) _)
  have HR1 := Lib.hid (heap_alloc_new w (.cells cs 82))
  have H0 := Lib.hid h0
  have H1 := Lib.hid h1
  clear hcs hx0 hx1 hZ hZs h0 h1
  go_enter Try.func35, Try.ntmps35
  go_wp2_with (refine wpList_load_row rfl 82 _ rfl w.heap.size rfl 82 cs (0, 0) _ HR1.out Try.underlying82 rfl HIc.out ?_)
  go_loopw [3, 8] (fun v i wr => ∃ k : Int, (k = 0 ∨ k = 1 ∨ k = 2) ∧ i = .int .i64 k ∧ OwnS wr w.heap.size (stK s0 s1 k) v ∧ Below w.heap.size w wr) (fun _ i _ => 2 - (intOf i).toNat)
  case atStart => exact ⟨0, by omega, rfl, OwnS.nil_ _ _, HB1.out⟩
  case round =>
    obtain ⟨k, hk, rfl, hown, hb⟩ := hrel
    have HO := Lib.hid hown
    have HBr := Lib.hid hb
    clear hown hb
    rcases hk with rfl | rfl | rfl
    · have HSec := Lib.hid H0.out
      have HI := Lib.hid (show (Try.prog.info? 64).map (·.size) = some (vals s0).toArray.size by rw [hsec_size, vals_size, HSec.out.1])
      have HAl := Lib.hid (vals_all s0)
      have HSz := Lib.hid (show Z.size = (vals s0).toArray.size by rw [HZe.out, vals_size, vals_size, HSec.out.1]; simp)
      have hz5 := heap_alloc_new wr (.cells Z 64)
      have hZ5 := Lib.hid hz5
      obtain ⟨w5, hw5⟩ : ∃ x, x = (wr.alloc (.cells Z 64)).setRow wr.heap.size (vals s0).toArray := ⟨_, rfl⟩
      have HG5 := Lib.hid (show w5.heap[wr.heap.size]? = some (.cells (vals s0).toArray 64 (0, 0)) by rw [hw5]; exact setRow_heap _ _ _ _ _ _ hz5)
      have HS5 := Lib.hid (show w5.heap.size = wr.heap.size + 1 by rw [hw5]; simp [World.setRow])
      have HB5 := Lib.hid (show Below wr.heap.size wr w5 by rw [hw5]; exact below_setRow ((Below.refl _ _).alloc (Nat.le_refl _) _) (Nat.le_refl _) _)
      have HW5 := Lib.hid hw5
      have HSp := Lib.hid (fun W => superOf_dev s0 HSec.out W)
      have HFs := Lib.hid (supOf_fine HSec.out)
      have HRd := Lib.hid (readSp_eq 0 HSec.out.1)
      have HSe := Lib.hid (fun W => sealed_dev s0 27 HSec.out (by omega) W)
      rw [show ((27 : Nat) : Int) = 27 from rfl] at HSe
      generalize hsu : supOf s0 = su at *
      obtain ⟨xs, hxs⟩ : ∃ xs, xs = su.cells.toList := ⟨_, rfl⟩
      have hxa : su.cells = xs.toArray := by rw [hxs]
      have HXs := Lib.hid hxs
      have HMa := Lib.hid (fun W => mayH_dev su W HFs.out)
      have HPl := Lib.hid (fun W (h : 0 ≤ su.gen) => place_dev su W HFs.out h)
      have HXl := Lib.hid (show xs.length = 13 by rw [hxs, Array.length_toList]; exact cells_len HFs.out)
      have HIx := Lib.hid (show (Try.prog.info? 25).map (·.size) = some xs.toArray.size by rw [super_info, ← hxa, cells_len HFs.out])
      have HOx := Lib.hid (show xs.toArray.all (·.oneCell') = true by rw [← hxa]; exact cells_all)
      have HSx := Lib.hid (show Zs.size = xs.toArray.size by rw [HZl.out, ← hxa, cells_len HFs.out])
      rw [hxa] at HSp HMa HPl
      have hix := HX0.out
      clear hz5 hw5 hsu hxs hxa
      go_wp2_with (first | (refine wpList_alloc_any rfl 64 rfl Z HZ.out ?_) | (refine wpList_store_row rfl 64 _ _ rfl wr.heap.size (vals s0).toArray rfl rfl 64 Z hZ5.out HI.out HSz.out HAl.out ?_; rw [← HW5.out]) | (refine wpList_load_row rfl 64 (.tmp 5) rfl wr.heap.size rfl 64 (vals s0).toArray (0, 0) _ HG5.out Try.underlying64 rfl HI.out ?_))
      clear hix
      refine (HSp.out _).mono ?_
      rintro e w6 ⟨rfl, hb6⟩
      have hz7 := heap_alloc_new w6 (.cells Zs 25)
      have hZ7 := Lib.hid hz7
      obtain ⟨w7, hw7⟩ : ∃ x, x = (w6.alloc (.cells Zs 25)).setRow w6.heap.size xs.toArray := ⟨_, rfl⟩
      have HG7 := Lib.hid (show w7.heap[w6.heap.size]? = some (.cells xs.toArray 25 (0, 0)) by rw [hw7]; exact setRow_heap _ _ _ _ _ _ hz7)
      have HS7 := Lib.hid (show w7.heap.size = w6.heap.size + 1 by rw [hw7]; simp [World.setRow])
      have hb67 : Below w6.heap.size w6 w7 := by rw [hw7]; exact below_setRow ((Below.refl _ _).alloc (Nat.le_refl _) _) (Nat.le_refl _) _
      have HB7 := Lib.hid (show Below wr.heap.size wr w7 from HB5.out.trans ((hb6.trans (hb67.mono hb6.size)).mono HB5.out.size))
      have HW7 := Lib.hid hw7
      replace HG5 := Lib.hid (show w7.heap[wr.heap.size]? = some (.cells (vals s0).toArray 64 (0, 0)) from by rw [← HG5.out, ← hb6.block wr.heap.size (by have := HS5.out; omega), hw7]; exact (setRow_other _ _ _ _ (by have := hb6.size; have := HS5.out; omega)).trans (Below.heap_alloc _ _ _ (by have := hb6.size; have := HS5.out; omega)))
      clear hz7 hw7 hb6 hb67
      go_wp2_with (first | (refine wpList_alloc_any rfl 25 rfl Zs HZs.out ?_) | (refine wpList_store_row rfl 25 _ _ rfl w6.heap.size xs.toArray rfl rfl 25 Zs hZ7.out HIx.out HSx.out HOx.out ?_; rw [← HW7.out]) | (refine wpList_load_row rfl 64 (.tmp 5) rfl wr.heap.size rfl 64 (vals s0).toArray (0, 0) _ HG5.out Try.underlying64 rfl HI.out ?_))
      refine (HSe.out _).mono ?_
      rintro e w8 ⟨rfl, hb8⟩
      have HB8 := Lib.hid (HB7.out.trans (hb8.mono HB7.out.size))
      have HG8 := Lib.hid ((hb8.block _ (by have := HS7.out; omega)).trans HG7.out)
      have HStp := Lib.hid (stK_0 s0 s1)
      have HLw := Lib.hid (show w6.heap.size < w8.heap.size by have := HS7.out; have := hb8.size; omega)
      clear hb8 HB5 HG5 HS5 HB7 HG7
      generalize sealB s0 27 = sb at *
      cases sb with
      | false =>
        have hn : readSp 0 s0 = none := by rw [HRd.out]; exact if_neg fun h => absurd h.1 (by decide)
        have HSt := Lib.hid (show stK s0 s1 1 = stK s0 s1 0 by rw [HStp.out, hn]; simp)
        clear hn
        go_wp2
        go_roundw
        case rel => exact ⟨1, by omega, rfl, by rw [HSt.out]; exact owns_keepH HO.out HB8.out, HBr.out.trans (HB8.out.mono HBr.out.size)⟩
        case measure => simp [intOf]
      | true =>
        by_cases hm : mayP su
        · have h0g : 0 ≤ su.gen := hm.1.1
          rw [decide_eq_true hm] at HMa
          have HM := Lib.hid hm
          have HP2 := Lib.hid (fun W => HPl.out W h0g)
          clear hm h0g
          go_wp2_with (refine wpList_load_row_if (by rfl) 25 (.tmp 6) rfl w6.heap.size rfl 25 xs.toArray (0, 0) _ HG8.out Try.underlying25 rfl HIx.out ?_)
          refine (HMa.out _).mono ?_
          rintro e w9 ⟨rfl, hb9⟩
          have HB9 := Lib.hid (HB8.out.trans (hb9.mono HB8.out.size))
          have HG9 := Lib.hid ((hb9.block _ HLw.out).trans HG8.out)
          have HLw9 := Lib.hid (Nat.lt_of_lt_of_le HLw.out hb9.size)
          clear hb9
          by_cases hk : su.gen % 2 = 0
          · have hr : readSp 0 s0 = some su := by rw [HRd.out]; exact if_pos ⟨by first | exact trivial | rfl, HM.out, hk⟩
            have HSt := Lib.hid (show stK s0 s1 1 = stK s0 s1 0 ++ [su] by rw [HStp.out, hr]; rfl)
            rw [hk] at HP2
            clear hr hk
            go_wp2_with (refine wpList_load_row_if (by rfl) 25 (.tmp 6) rfl w6.heap.size rfl 25 xs.toArray (0, 0) _ HG9.out Try.underlying25 rfl HIx.out ?_)
            refine (HP2.out _).mono ?_
            rintro e w10 ⟨rfl, hb10⟩
            have HB10 := Lib.hid (HB9.out.trans (hb10.mono HB9.out.size))
            have HG10 := Lib.hid ((hb10.block _ HLw9.out).trans HG9.out)
            clear hb10
            obtain ⟨i0, hi, hz0, hz1, hz2⟩ := info_parts super_info3
            have HI0 := Lib.hid hi
            have HZ0 := Lib.hid hz0
            have HZ1 := Lib.hid hz1
            have HZ2 := Lib.hid hz2
            have HO10 := Lib.hid (World.ownsRow.alloc (owns_keepH HO.out HB10.out) (.cells xs.toArray 25))
            have HFw := Lib.hid (stK_few s0 s1 0)
            have HSl := Lib.hid (show supL (stK s0 s1 0 ++ [su]) = supL (stK s0 s1 0) ++ xs by unfold supL; rw [List.flatMap_append, List.flatMap_singleton, HXs.out])
            have HBd := Lib.hid (HBr.out.trans (HB10.out.mono HBr.out.size))
            have HOl := Lib.hid (show ∀ u ∈ xs, u.oneCell' = true from fun u hu => by
              have := Array.all_eq_true_iff_forall_mem.1 HOx.out u (by simpa using hu)
              exact this)
            clear hi hz0 hz1 hz2
            generalize stK s0 s1 0 = L at *
            go_wp2_with (first
              | (refine wpList_load_row rfl 25 (.tmp 6) rfl w6.heap.size rfl 25 xs.toArray (0, 0) _ HG10.out Try.underlying25 rfl HIx.out ?_)
              | (refine wpList_buildSlice_oneH rfl 83 (.tmp 27) rfl 25 i0 _ 13 Try.underlying83 HI0.out HZ0.out HZ1.out (by omega) (by omega) xs HXl.out rfl ?_)
              | (refine wpList_append_own _ rfl (.tmp 26) (.tmp 28) 83 rfl w.heap.size 25 i0 _ 13 104 Try.underlying83 HI0.out HZ0.out HZ1.out HZ2.out rfl (by decide) _ L.length (supL L) rfl HO10.out ⟨w10.heap.size, 0, none⟩ 1 1 xs rfl (by rw [HXl.out]) (new_cells rfl) HOl.out (by have := HFw.out; unfold maxLen; omega) (by have := HFw.out; omega) (by rw [World.size_alloc]; have := HBd.out.size; omega) ?_; intro v2 w12 r1 r2 _; have HR1 := Lib.hid r1; have HR2 := Lib.hid r2; clear r1 r2))
            go_roundw
            case rel =>
              refine ⟨1, by omega, rfl, ?_, (HBd.out.alloc HBd.out.size _).grown HR2.out (by rw [World.size_alloc]; have := HBd.out.size; omega) (fun q hq => (HO10.out.lt q hq).1)⟩
              rw [HSt.out]
              unfold OwnS
              rw [HSl.out, List.length_append]
              exact HR1.out
            case measure => simp [intOf]
          · have hr : readSp 0 s0 = none := by rw [HRd.out]; exact if_neg fun h => hk h.2.2
            have HSt := Lib.hid (show stK s0 s1 1 = stK s0 s1 0 by rw [HStp.out, hr]; simp)
            generalize su.gen % 2 = pz at *
            have q1 : (pz == 0) = false := by simpa using hk
            have q2 : decide (pz = 0) = false := by simpa using hk
            clear hr hk
            go_wp2_with (refine wpList_load_row_if (by rfl) 25 (.tmp 6) rfl w6.heap.size rfl 25 xs.toArray (0, 0) _ HG9.out Try.underlying25 rfl HIx.out ?_)
            refine (HP2.out _).mono ?_
            rintro e w10 ⟨rfl, hb10⟩
            have HB10 := Lib.hid (HB9.out.trans (hb10.mono HB9.out.size))
            clear hb10
            go_wp2
            go_roundw
            case rel => exact ⟨1, by omega, rfl, by rw [HSt.out]; exact owns_keepH HO.out HB10.out, HBr.out.trans (HB10.out.mono HBr.out.size)⟩
            case measure => simp [intOf]
        · have hn : readSp 0 s0 = none := by rw [HRd.out]; exact if_neg fun h => hm h.2.1
          have HSt := Lib.hid (show stK s0 s1 1 = stK s0 s1 0 by rw [HStp.out, hn]; simp)
          rw [decide_eq_false hm] at HMa
          clear hn hm
          go_wp2_with (refine wpList_load_row_if (by rfl) 25 (.tmp 6) rfl w6.heap.size rfl 25 xs.toArray (0, 0) _ HG8.out Try.underlying25 rfl HIx.out ?_)
          refine (HMa.out _).mono ?_
          rintro e w9 ⟨rfl, hb9⟩
          have HB9 := Lib.hid (HB8.out.trans (hb9.mono HB8.out.size))
          clear hb9
          go_wp2
          go_roundw
          case rel => exact ⟨1, by omega, rfl, by rw [HSt.out]; exact owns_keepH HO.out HB9.out, HBr.out.trans (HB9.out.mono HBr.out.size)⟩
          case measure => simp [intOf]
    · have HSec := Lib.hid H1.out
      have HI := Lib.hid (show (Try.prog.info? 64).map (·.size) = some (vals s1).toArray.size by rw [hsec_size, vals_size, HSec.out.1])
      have HAl := Lib.hid (vals_all s1)
      have HSz := Lib.hid (show Z.size = (vals s1).toArray.size by rw [HZe.out, vals_size, vals_size, HSec.out.1]; simp)
      have hz5 := heap_alloc_new wr (.cells Z 64)
      have hZ5 := Lib.hid hz5
      obtain ⟨w5, hw5⟩ : ∃ x, x = (wr.alloc (.cells Z 64)).setRow wr.heap.size (vals s1).toArray := ⟨_, rfl⟩
      have HG5 := Lib.hid (show w5.heap[wr.heap.size]? = some (.cells (vals s1).toArray 64 (0, 0)) by rw [hw5]; exact setRow_heap _ _ _ _ _ _ hz5)
      have HS5 := Lib.hid (show w5.heap.size = wr.heap.size + 1 by rw [hw5]; simp [World.setRow])
      have HB5 := Lib.hid (show Below wr.heap.size wr w5 by rw [hw5]; exact below_setRow ((Below.refl _ _).alloc (Nat.le_refl _) _) (Nat.le_refl _) _)
      have HW5 := Lib.hid hw5
      have HSp := Lib.hid (fun W => superOf_dev s1 HSec.out W)
      have HFs := Lib.hid (supOf_fine HSec.out)
      have HRd := Lib.hid (readSp_eq 1 HSec.out.1)
      have HSe := Lib.hid (fun W => sealed_dev s1 27 HSec.out (by omega) W)
      rw [show ((27 : Nat) : Int) = 27 from rfl] at HSe
      generalize hsu : supOf s1 = su at *
      obtain ⟨xs, hxs⟩ : ∃ xs, xs = su.cells.toList := ⟨_, rfl⟩
      have hxa : su.cells = xs.toArray := by rw [hxs]
      have HXs := Lib.hid hxs
      have HMa := Lib.hid (fun W => mayH_dev su W HFs.out)
      have HPl := Lib.hid (fun W (h : 0 ≤ su.gen) => place_dev su W HFs.out h)
      have HXl := Lib.hid (show xs.length = 13 by rw [hxs, Array.length_toList]; exact cells_len HFs.out)
      have HIx := Lib.hid (show (Try.prog.info? 25).map (·.size) = some xs.toArray.size by rw [super_info, ← hxa, cells_len HFs.out])
      have HOx := Lib.hid (show xs.toArray.all (·.oneCell') = true by rw [← hxa]; exact cells_all)
      have HSx := Lib.hid (show Zs.size = xs.toArray.size by rw [HZl.out, ← hxa, cells_len HFs.out])
      rw [hxa] at HSp HMa HPl
      have hix := HX1.out
      clear hz5 hw5 hsu hxs hxa
      go_wp2_with (first | (refine wpList_alloc_any rfl 64 rfl Z HZ.out ?_) | (refine wpList_store_row rfl 64 _ _ rfl wr.heap.size (vals s1).toArray rfl rfl 64 Z hZ5.out HI.out HSz.out HAl.out ?_; rw [← HW5.out]) | (refine wpList_load_row rfl 64 (.tmp 5) rfl wr.heap.size rfl 64 (vals s1).toArray (0, 0) _ HG5.out Try.underlying64 rfl HI.out ?_))
      clear hix
      refine (HSp.out _).mono ?_
      rintro e w6 ⟨rfl, hb6⟩
      have hz7 := heap_alloc_new w6 (.cells Zs 25)
      have hZ7 := Lib.hid hz7
      obtain ⟨w7, hw7⟩ : ∃ x, x = (w6.alloc (.cells Zs 25)).setRow w6.heap.size xs.toArray := ⟨_, rfl⟩
      have HG7 := Lib.hid (show w7.heap[w6.heap.size]? = some (.cells xs.toArray 25 (0, 0)) by rw [hw7]; exact setRow_heap _ _ _ _ _ _ hz7)
      have HS7 := Lib.hid (show w7.heap.size = w6.heap.size + 1 by rw [hw7]; simp [World.setRow])
      have hb67 : Below w6.heap.size w6 w7 := by rw [hw7]; exact below_setRow ((Below.refl _ _).alloc (Nat.le_refl _) _) (Nat.le_refl _) _
      have HB7 := Lib.hid (show Below wr.heap.size wr w7 from HB5.out.trans ((hb6.trans (hb67.mono hb6.size)).mono HB5.out.size))
      have HW7 := Lib.hid hw7
      replace HG5 := Lib.hid (show w7.heap[wr.heap.size]? = some (.cells (vals s1).toArray 64 (0, 0)) from by rw [← HG5.out, ← hb6.block wr.heap.size (by have := HS5.out; omega), hw7]; exact (setRow_other _ _ _ _ (by have := hb6.size; have := HS5.out; omega)).trans (Below.heap_alloc _ _ _ (by have := hb6.size; have := HS5.out; omega)))
      clear hz7 hw7 hb6 hb67
      go_wp2_with (first | (refine wpList_alloc_any rfl 25 rfl Zs HZs.out ?_) | (refine wpList_store_row rfl 25 _ _ rfl w6.heap.size xs.toArray rfl rfl 25 Zs hZ7.out HIx.out HSx.out HOx.out ?_; rw [← HW7.out]) | (refine wpList_load_row rfl 64 (.tmp 5) rfl wr.heap.size rfl 64 (vals s1).toArray (0, 0) _ HG5.out Try.underlying64 rfl HI.out ?_))
      refine (HSe.out _).mono ?_
      rintro e w8 ⟨rfl, hb8⟩
      have HB8 := Lib.hid (HB7.out.trans (hb8.mono HB7.out.size))
      have HG8 := Lib.hid ((hb8.block _ (by have := HS7.out; omega)).trans HG7.out)
      have HStp := Lib.hid (stK_1 s0 s1)
      have HLw := Lib.hid (show w6.heap.size < w8.heap.size by have := HS7.out; have := hb8.size; omega)
      clear hb8 HB5 HG5 HS5 HB7 HG7
      generalize sealB s1 27 = sb at *
      cases sb with
      | false =>
        have hn : readSp 1 s1 = none := by rw [HRd.out]; exact if_neg fun h => absurd h.1 (by decide)
        have HSt := Lib.hid (show stK s0 s1 2 = stK s0 s1 1 by rw [HStp.out, hn]; simp)
        clear hn
        go_wp2
        go_roundw
        case rel => exact ⟨2, by omega, rfl, by rw [HSt.out]; exact owns_keepH HO.out HB8.out, HBr.out.trans (HB8.out.mono HBr.out.size)⟩
        case measure => simp [intOf]
      | true =>
        by_cases hm : mayP su
        · have h0g : 0 ≤ su.gen := hm.1.1
          rw [decide_eq_true hm] at HMa
          have HM := Lib.hid hm
          have HP2 := Lib.hid (fun W => HPl.out W h0g)
          clear hm h0g
          go_wp2_with (refine wpList_load_row_if (by rfl) 25 (.tmp 6) rfl w6.heap.size rfl 25 xs.toArray (0, 0) _ HG8.out Try.underlying25 rfl HIx.out ?_)
          refine (HMa.out _).mono ?_
          rintro e w9 ⟨rfl, hb9⟩
          have HB9 := Lib.hid (HB8.out.trans (hb9.mono HB8.out.size))
          have HG9 := Lib.hid ((hb9.block _ HLw.out).trans HG8.out)
          have HLw9 := Lib.hid (Nat.lt_of_lt_of_le HLw.out hb9.size)
          clear hb9
          by_cases hk : su.gen % 2 = 1
          · have hr : readSp 1 s1 = some su := by rw [HRd.out]; exact if_pos ⟨by first | exact trivial | rfl, HM.out, hk⟩
            have HSt := Lib.hid (show stK s0 s1 2 = stK s0 s1 1 ++ [su] by rw [HStp.out, hr]; rfl)
            rw [hk] at HP2
            clear hr hk
            go_wp2_with (refine wpList_load_row_if (by rfl) 25 (.tmp 6) rfl w6.heap.size rfl 25 xs.toArray (0, 0) _ HG9.out Try.underlying25 rfl HIx.out ?_)
            refine (HP2.out _).mono ?_
            rintro e w10 ⟨rfl, hb10⟩
            have HB10 := Lib.hid (HB9.out.trans (hb10.mono HB9.out.size))
            have HG10 := Lib.hid ((hb10.block _ HLw9.out).trans HG9.out)
            clear hb10
            obtain ⟨i0, hi, hz0, hz1, hz2⟩ := info_parts super_info3
            have HI0 := Lib.hid hi
            have HZ0 := Lib.hid hz0
            have HZ1 := Lib.hid hz1
            have HZ2 := Lib.hid hz2
            have HO10 := Lib.hid (World.ownsRow.alloc (owns_keepH HO.out HB10.out) (.cells xs.toArray 25))
            have HFw := Lib.hid (stK_few s0 s1 1)
            have HSl := Lib.hid (show supL (stK s0 s1 1 ++ [su]) = supL (stK s0 s1 1) ++ xs by unfold supL; rw [List.flatMap_append, List.flatMap_singleton, HXs.out])
            have HBd := Lib.hid (HBr.out.trans (HB10.out.mono HBr.out.size))
            have HOl := Lib.hid (show ∀ u ∈ xs, u.oneCell' = true from fun u hu => by
              have := Array.all_eq_true_iff_forall_mem.1 HOx.out u (by simpa using hu)
              exact this)
            clear hi hz0 hz1 hz2
            generalize stK s0 s1 1 = L at *
            go_wp2_with (first
              | (refine wpList_load_row rfl 25 (.tmp 6) rfl w6.heap.size rfl 25 xs.toArray (0, 0) _ HG10.out Try.underlying25 rfl HIx.out ?_)
              | (refine wpList_buildSlice_oneH rfl 83 (.tmp 27) rfl 25 i0 _ 13 Try.underlying83 HI0.out HZ0.out HZ1.out (by omega) (by omega) xs HXl.out rfl ?_)
              | (refine wpList_append_own _ rfl (.tmp 26) (.tmp 28) 83 rfl w.heap.size 25 i0 _ 13 104 Try.underlying83 HI0.out HZ0.out HZ1.out HZ2.out rfl (by decide) _ L.length (supL L) rfl HO10.out ⟨w10.heap.size, 0, none⟩ 1 1 xs rfl (by rw [HXl.out]) (new_cells rfl) HOl.out (by have := HFw.out; unfold maxLen; omega) (by have := HFw.out; omega) (by rw [World.size_alloc]; have := HBd.out.size; omega) ?_; intro v2 w12 r1 r2 _; have HR1 := Lib.hid r1; have HR2 := Lib.hid r2; clear r1 r2))
            go_roundw
            case rel =>
              refine ⟨2, by omega, rfl, ?_, (HBd.out.alloc HBd.out.size _).grown HR2.out (by rw [World.size_alloc]; have := HBd.out.size; omega) (fun q hq => (HO10.out.lt q hq).1)⟩
              rw [HSt.out]
              unfold OwnS
              rw [HSl.out, List.length_append]
              exact HR1.out
            case measure => simp [intOf]
          · have hr : readSp 1 s1 = none := by rw [HRd.out]; exact if_neg fun h => hk h.2.2
            have HSt := Lib.hid (show stK s0 s1 2 = stK s0 s1 1 by rw [HStp.out, hr]; simp)
            generalize su.gen % 2 = pz at *
            have q1 : (pz == 1) = false := by simpa using hk
            have q2 : decide (pz = 1) = false := by simpa using hk
            clear hr hk
            go_wp2_with (refine wpList_load_row_if (by rfl) 25 (.tmp 6) rfl w6.heap.size rfl 25 xs.toArray (0, 0) _ HG9.out Try.underlying25 rfl HIx.out ?_)
            refine (HP2.out _).mono ?_
            rintro e w10 ⟨rfl, hb10⟩
            have HB10 := Lib.hid (HB9.out.trans (hb10.mono HB9.out.size))
            clear hb10
            go_wp2
            go_roundw
            case rel => exact ⟨2, by omega, rfl, by rw [HSt.out]; exact owns_keepH HO.out HB10.out, HBr.out.trans (HB10.out.mono HBr.out.size)⟩
            case measure => simp [intOf]
        · have hn : readSp 1 s1 = none := by rw [HRd.out]; exact if_neg fun h => hm h.2.1
          have HSt := Lib.hid (show stK s0 s1 2 = stK s0 s1 1 by rw [HStp.out, hn]; simp)
          rw [decide_eq_false hm] at HMa
          clear hn hm
          go_wp2_with (refine wpList_load_row_if (by rfl) 25 (.tmp 6) rfl w6.heap.size rfl 25 xs.toArray (0, 0) _ HG8.out Try.underlying25 rfl HIx.out ?_)
          refine (HMa.out _).mono ?_
          rintro e w9 ⟨rfl, hb9⟩
          have HB9 := Lib.hid (HB8.out.trans (hb9.mono HB8.out.size))
          clear hb9
          go_wp2
          go_roundw
          case rel => exact ⟨2, by omega, rfl, by rw [HSt.out]; exact owns_keepH HO.out HB9.out, HBr.out.trans (HB9.out.mono HBr.out.size)⟩
          case measure => simp [intOf]
    · go_wp2
      go_ret
      exact ⟨_, rfl, HO.out, HBr.out⟩
end Go.Proofs.Ytgkbhdecohlpmaa
