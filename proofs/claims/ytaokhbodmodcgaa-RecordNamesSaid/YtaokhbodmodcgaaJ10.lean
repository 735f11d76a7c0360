/-
  Texts Dbytes, Dsect, Dbeq, Dread, Dless, Contr7, Lift, RLift, TellsLaw, ShortLaw, TellsBoth, BackLaw, Calls7, joined.
-/
import Derived.Lib.Strings
import Derived.Deep.RegionHeld3
import Derived.Deep.DeepCutAuto
import Derived.ProofKit
import Derived.OpenShut
import Derived.Deep.Slices
import Derived.Carry
import Derived.BigQuiet
import Derived.WalkSmall
import Derived.Test.YtaokhbodmodcgaaJ9
set_option linter.all false
section
/-
  The developers' answer of a record's bytes.
-/
namespace Go.Proofs.Ytaokhbodmodcgaa
open Go.RowKit
set_option maxRecDepth 100000

theorem low_kinds {k : Int} : ∀ x ∈ kindsF k, LowK x := by
  intro x hx m hm
  subst hm
  unfold kindsF at hx
  repeat' split at hx
  all_goals simp at hx
  all_goals omega
theorem putF_len {k : FK} {r : Rc} (h : mayF k r = true) (hf : WrFine r.writes) : (putF k r).length ≤ 100 := by
  cases k
  case writes =>
    have h1 := writes_low h hf
    have h2 := writes_len (l := r.writes) (fun x hx => ⟨by have := (h1.2 x hx).1; omega, (h1.2 x hx).2.1⟩)
    have h3 := h1.1
    show ((_ :: writesL r.writes).length) ≤ 100
    rw [List.length_cons, h2]
    omega
  all_goals simp [putF, nameL, three]
theorem flat_len {ks : List FK} {r : Rc} (h : ks.all (mayF · r) = true) (hf : WrFine r.writes) : (ks.flatMap (putF · r)).length ≤ 100 * ks.length := by
  induction ks with
  | nil => simp
  | cons k ks ih =>
    rw [List.all_cons, Bool.and_eq_true] at h
    rw [List.flatMap_cons, List.length_append, List.length_cons]
    have h1 := putF_len h.1 hf
    have h2 := ih h.2
    omega
theorem flat_succ {ks : List FK} {r : Rc} {k : Nat} (hk : k < ks.length) : (ks.take (k + 1)).flatMap (putF · r) = (ks.take k).flatMap (putF · r) ++ putF ks[k] r := by
  rw [List.take_succ_eq_append_getElem hk, List.flatMap_append]
  simp
theorem kinds_len (k : Int) : (kindsF k).length ≤ 4 := by
  unfold kindsF
  repeat' split
  all_goals simp
set_option maxHeartbeats 8000000 in
theorem bytes_dev (r : Rc) (A : Option Addr) (cc : Nat) (w : World) (hw : WrsV w (fun _ => True) A cc r.writes) (hr : r.Fine) (hl : r.writes.length ≤ 1000000) :
    Calls Try.prog 10 #[.agg (recv A cc r).toArray] w fun e w' => ∃ v, e = .returned (.tuple #[v, .int .i64 (bytesE r)]) ∧ New w w' (bytesL r) v := by
  have hwP : WrsV w (· < w.heap.size) A cc r.writes := hw.mono fun b _ h => h
  obtain ⟨w1, hw1⟩ : ∃ w1, w1 = w.alloc (.cells (recv A cc r).toArray 29) := ⟨_, rfl⟩
  have hb1 : Below w.heap.size w w1 := by rw [hw1]; exact (Below.refl _ w).alloc (Nat.le_refl _) _
  have hz1 : w1.heap.size = w.heap.size + 1 := by rw [hw1]; simp
  have hX1 : RBox w1 w.heap.size (· < w.heap.size) A cc r := ⟨by rw [hw1]; exact heap_alloc_new w _, hwP.below hb1, hr⟩
  have HM := Lib.hid (may_dev r A cc w1 (· < w.heap.size) hX1.wrs hr hl (fun k hk => by omega))
  have HX1 := Lib.hid hX1
  have HB1 := Lib.hid hb1
  have HZ1 := Lib.hid hz1
  have HW1 := Lib.hid hw1
  have HRow := Lib.hid (show w1.heap[w.heap.size]? = some (.cells (recv A cc r).toArray 29 (0, 0)) from hX1.row)
  have HI12 := Lib.hid (show (Try.prog.info? 29).map (·.size) = some (recv A cc r).toArray.size by kernel_rfl)
  unfold bytesE bytesL
  cases hmay : mayR r with
  | false =>
    rw [hmay] at HM
    rw [if_neg (by simp), if_neg (by simp)]
    clear hw hwP hr hl hw1 hb1 hz1 hX1 hmay
    go_enter Try.func10, Try.ntmps10
    go_wp2_with (first
      | (rw [← HW1.out])
      | (refine wpList_load_row rfl 29 _ rfl w.heap.size rfl 29 (recv A cc r).toArray (0, 0) _ HRow.out Try.underlying29 rfl HI12.out ?_))
    refine HM.out.mono ?_
    rintro e w2 ⟨rfl, hb2⟩
    have HB2 := Lib.hid hb2
    clear hb2
    go_wp2
    go_ret2
    exact ⟨_, rfl, Own.nil_ _ _, HB1.out.trans (HB2.out.mono HB1.out.size)⟩
  | true =>
    rw [hmay] at HM
    rw [if_pos rfl, if_pos rfl]
    have hD := mayD_eq r
    rw [hmay] at hD
    unfold mayD at hD
    rw [Bool.and_eq_true] at hD
    have hkk := (may_parts hmay).1
    obtain ⟨ks, hks⟩ : ∃ ks, ks = kindsF r.kind := ⟨_, rfl⟩
    have HLow := Lib.hid (show ∀ x ∈ ks, LowK x by rw [hks]; exact low_kinds)
    have hn4 := kinds_len r.kind
    have HBy := Lib.hid (show bytesR r = byteN r.kind :: ks.flatMap (putF · r) by unfold bytesR; rw [restF r hkk, hks])
    rw [← hks] at hD hn4
    have HAl := Lib.hid hD.1
    obtain ⟨n, hn⟩ : ∃ n, n = ks.length := ⟨_, rfl⟩
    rw [← hn] at hn4
    have HN := Lib.hid hn
    obtain ⟨m, hm⟩ : ∃ m : Nat, r.kind = (m : Int) := ⟨r.kind.toNat, by omega⟩
    have hm8 : m < 8 := by omega
    have HFl := Lib.hid (fun W (hX : RBox W w.heap.size (· < w.heap.size) A cc r) => fields_dev W w.heap.size r.kind (hX.cell 0 rfl) hX.lt)
    rw [← hks, ← hn] at HFl
    have HKd := Lib.hid (show byteN r.kind = m % 256 by rw [hm, byteN_cast])
    have HWf := Lib.hid hr.writes
    have HMm := Lib.hid hm
    clear hw hwP hr hl hw1 hb1 hz1 hX1 hmay hD hkk hks hn
    go_enter Try.func10, Try.ntmps10
    go_wp2_with (first
      | (rw [← HW1.out])
      | (refine wpList_load_row rfl 29 _ rfl w.heap.size rfl 29 (recv A cc r).toArray (0, 0) _ HRow.out Try.underlying29 rfl HI12.out ?_))
    refine HM.out.mono ?_
    rintro e w2 ⟨rfl, hb2⟩
    have HB2 := Lib.hid hb2
    have HX2 := Lib.hid (HX1.out.below hb2)
    have c0 : w2.cell? ⟨w.heap.size, 0, none⟩ = some (.int .i8 (m : Int)) := HX2.out.cell 0 (by rw [← HMm.out]; rfl)
    have hwm : IntKind.i64.wrap (m : Int) = (m : Int) := by rw [IntKind.wrap_i64]; omega
    have HPut := Lib.hid (put_dev m 1 [] (.slice none 0 0) w.heap.size w2 (by omega) (by omega) (Own.nil_ _ _) (by have := HB1.out.size; have := HB2.out.size; omega) (by simp))
    rw [lows_one, List.nil_append] at HPut
    clear hb2 hm
    go_wp2_with fail
    refine HPut.out.mono ?_
    rintro e w3 ⟨v0, rfl, ho3, hg3⟩
    have HO3 := Lib.hid ho3
    have HV0 := Lib.hid (show ∀ k, v0.ownBlock = some k → w2.heap.size ≤ k ∧ k < w3.heap.size from fun k hk => ⟨by
      rcases hg3.own k hk with h | h
      · simp [Value.ownBlock] at h
      · exact h, own_block ho3 k hk⟩)
    have hb3 : Below w2.heap.size w2 w3 := hg3.to_below (Nat.le_refl _) (fun k hk => by simp [Value.ownBlock] at hk)
    have HB3 := Lib.hid hb3
    have HX3 := Lib.hid (HX2.out.below hb3)
    clear ho3 hg3 hb3 c0
    go_wp2_with fail
    refine (HFl.out _ HX3.out).mono ?_
    rintro e w4 ⟨L, c, rfl, hb4, hf4⟩
    have HB4 := Lib.hid hb4
    have HF := Lib.hid hf4
    have HX4 := Lib.hid (HX3.out.below hb4)
    have HO4 := Lib.hid (HO3.out.keep (w' := w4) fun k hk => hb4.block k (HV0.out k hk).2)
    clear hb4 hf4
    go_wp2_with fail
    go_loopw [4, 16] (fun b i wr => ∃ k : Nat, k ≤ n ∧ i = .int .i64 (k : Int) ∧ Own wr w.heap.size (m % 256 :: (ks.take k).flatMap (putF · r)) b ∧ Grew w4 wr v0 b) (fun _ i _ => n - (intOf i).toNat)
    case atStart => exact ⟨0, Nat.zero_le _, rfl, HO4.out, Grew.refl _ _⟩
    case round =>
      obtain ⟨k, hk, rfl, ho, hg⟩ := hrel
      have HO := Lib.hid ho
      have HG := Lib.hid hg
      have HLtX := Lib.hid (show w.heap.size < w2.heap.size ∧ w2.heap.size ≤ w3.heap.size ∧ w3.heap.size ≤ w4.heap.size from ⟨HX2.out.lt, HB3.out.size, HB4.out.size⟩)
      by_cases hlt : k < n
      · have hkl : k < ks.length := by rw [← HN.out]; exact hlt
        have hki : (k : Int) < (n : Int) := by omega
        have hw1 : IntKind.i64.wrap ((k : Int) + 1) = (k : Int) + 1 := by rw [IntKind.wrap_i64]; omega
        obtain ⟨g, z0, z1, z2, z3, rfl, hE⟩ := elt_at HF.out (wr := wr) (fun b hN hb => HG.out.block b hb (fun e => by have := (HV0.out b e).2; omega)) k hkl
        have HE := Lib.hid hE
        have H1 := Lib.hid (one4 hE.fld.one)
        have HI := Lib.hid (size4 z0 z1 z2 z3)
        have HIa := Lib.hid (size4a z0 z1 z2 z3)
        have HS0 := Lib.hid (zero4 z0 z1 z2 z3)
        have HAt := Lib.hid hE.at_
        obtain ⟨hb9, hg9, hz9⟩ := box_made wr #[.nilFunc, .nilFunc, .nilFunc, .nilFunc] #[z0, z1, z2, z3] 55
        have HZ := Lib.hid (heap_alloc_new wr (.cells #[.nilFunc, .nilFunc, .nilFunc, .nilFunc] 55))
        obtain ⟨w9, hw9⟩ : ∃ w9, w9 = (wr.alloc (.cells #[.nilFunc, .nilFunc, .nilFunc, .nilFunc] 55)).setRow wr.heap.size #[z0, z1, z2, z3] := ⟨_, rfl⟩
        rw [← hw9] at hb9 hg9 hz9
        have HW9 := Lib.hid hw9
        have HB9 := Lib.hid hb9
        clear hE hw9
        have hXw : RBox wr w.heap.size (· < w.heap.size) A cc r := HX4.out.keep (HG.out.block _ HX4.out.lt (fun e => by have := (HV0.out _ e).1; have := HLtX.out; omega)) HG.out.size fun b hb hlt => HG.out.block b hlt (fun e => by have := (HV0.out _ e).1; have := HLtX.out; have h2 : b < w.heap.size := hb; omega)
        have hob := own_block ho
        obtain ⟨nf, b1, b2, h0, hent, hcall⟩ := fld_put (k := ks[k]) (HE.out.fld.keep (w' := w9) fun b _ hb => HB9.out.block b (by have := HG.out.size; have := HLtX.out; omega)) (by have := HG.out.size; omega) (hXw.below HB9.out) (HLow.out _ (List.getElem_mem hkl)) (by have h := HAl.out; rw [List.all_eq_true] at h; exact h _ (List.getElem_mem hkl)) (ho.keep (w' := w9) fun k hk => HB9.out.block k (hob k hk)) (by have := HLtX.out; have := HG.out.size; omega)
          (by
            have h := flat_len (ks := ks.take k) (r := r) (by have h := HAl.out; rw [List.all_eq_true] at h ⊢; exact fun x hx => h x (List.mem_of_mem_take hx)) HWf.out
            rw [List.length_take] at h
            rw [List.length_cons]
            omega)
          (fun q hq => by
            rcases HG.out.own q hq with h | h
            · have := HV0.out q h
              have := HLtX.out
              omega
            · have := HLtX.out
              omega)
          (fun q hq e => by
            have h2 : q < w.heap.size := hq
            rcases HG.out.own q e with h | h
            · have := HV0.out q h
              have := HLtX.out
              omega
            · have := HLtX.out
              omega)
        have hc0 : w9.cell? ⟨wr.heap.size, 1, none⟩ = some (f2 nf b1 b2) := by rw [cell_of_row w9 _ 1 _ _ _ hg9, ← h0]; rfl
        unfold f2 at hc0
        unfold Ent at hent
        have HCall := Lib.hid hcall
        have HMk := Lib.hid (show (m % 256 :: (ks.take (k + 1)).flatMap (putF · r)) = (m % 256 :: (ks.take k).flatMap (putF · r)) ++ putF ks[k] r by rw [flat_succ hkl]; rfl)
        have HGx := Lib.hid (HG.out.trans (Grew.below HB9.out (Nat.le_refl _) _))
        clear hcall h0 hb9 hg9 hz9 hXw hob ho hg
        go_wp2_with (first
          | (refine wpList_load_part rfl 55 _ rfl g (k * 4) rfl [z0, z1, z2, z3] _ HAt.out Try.underlying55 rfl HI.out ?_)
          | (refine wpList_store_row rfl 55 _ _ rfl wr.heap.size #[z0, z1, z2, z3] rfl rfl 55 #[.nilFunc, .nilFunc, .nilFunc, .nilFunc] HZ.out HIa.out HS0.out H1.out ?_; rw [← HW9.out]))
        refine HCall.out.mono ?_
        rintro e w10 ⟨v10, rfl, ho, hg⟩
        have HO10 := Lib.hid ho
        have HG10 := Lib.hid hg
        clear ho hg
        go_wp2
        go_roundw
        case rel => exact ⟨k + 1, by omega, by simp, by rw [HMk.out]; exact HO10.out, HGx.out.trans HG10.out⟩
        case measure => simp [intOf]; omega
      · obtain rfl : k = n := by omega
        have hki : ¬ (k : Int) < (k : Int) := by omega
        have HFin := Lib.hid (show Own wr w.heap.size (bytesR r) _ by
          rw [HBy.out, HKd.out]
          rw [List.take_of_length_le (Nat.le_of_eq HN.out.symm)] at ho
          exact ho)
        have h4 : Below w.heap.size w w4 := HB1.out.trans ((HB2.out.mono HB1.out.size).trans ((HB3.out.mono (by have := HLtX.out; omega)).trans (HB4.out.mono (by have := HLtX.out; omega))))
        have hgb : Below w2.heap.size w4 wr := hg.to_below (by have := HLtX.out; omega) (fun q hq => (HV0.out q hq).1)
        have HBf := Lib.hid (h4.trans (hgb.mono (by have := HLtX.out; omega)))
        clear h4 hgb
        clear ho hg
        go_wp2
        go_ret2
        exact ⟨_, rfl, HFin.out, HBf.out⟩
end Go.Proofs.Ytaokhbodmodcgaa
end

section
/-
  The developers' answer of how many sectors a record's bytes want.
-/
namespace Go.Proofs.Ytaokhbodmodcgaa
open Go.RowKit
set_option maxRecDepth 100000

set_option maxHeartbeats 2000000 in
theorem sectors_dev (r : Rc) (A : Option Addr) (cc : Nat) (w : World) (hw : WrsV w (fun _ => True) A cc r.writes) (hr : r.Fine) (hl : r.writes.length ≤ 1000000) :
    Calls Try.prog 12 #[.agg (recv A cc r).toArray] w fun e w' => e = .returned (.tuple #[.int .i64 (sectorsR r), .int .i64 (bytesE r)]) ∧ Below w.heap.size w w' := by
  obtain ⟨w1, hw1⟩ : ∃ w1, w1 = w.alloc (.cells (recv A cc r).toArray 29) := ⟨_, rfl⟩
  have hb1 : Below w.heap.size w w1 := by rw [hw1]; exact (Below.refl _ w).alloc (Nat.le_refl _) _
  have hg1 : w1.heap[w.heap.size]? = some (.cells (recv A cc r).toArray 29 (0, 0)) := by rw [hw1]; exact heap_alloc_new w _
  have HBy := Lib.hid (bytes_dev r A cc w1 (hw.below hb1) hr hl)
  have HLt := Lib.hid (bytesL_lt hr.writes.vals)
  obtain ⟨L, hL⟩ : ∃ L, L = (bytesL r).length := ⟨_, rfl⟩
  have HS := Lib.hid (show (bytesE r = 2 ∧ sectorsR r = 0) ∨ (bytesE r = 0 ∧ sectorsR r = ((L : Int) + 44) / 45 ∧ L ≤ 85 ∧ 1 ≤ L) from by
    unfold bytesE sectorsR
    cases hm : mayR r with
    | false => exact Or.inl ⟨rfl, rfl⟩
    | true =>
      right
      have h1 := bytes_len hm hr.writes.vals
      have h2 : L = (bytesR r).length := by rw [hL]; unfold bytesL; rw [hm]; rfl
      have h3 : 1 ≤ L := by rw [h2]; unfold bytesR; simp
      refine ⟨rfl, ?_, by omega, h3⟩
      rw [if_pos rfl, ← h2]
      omega)
  have HLn := Lib.hid hL
  have HB1 := Lib.hid hb1
  have c0 := row_lit (cs := recv A cc r) hg1
  generalize bytesL r = bs at *
  generalize bytesE r = E at *
  generalize sectorsR r = Z at *
  obtain ⟨k, ⟨a, b, c⟩, y, l, g, t, sh, st, tt, n⟩ := r
  unfold recv at hw1 hg1 c0 HBy
  unfold recv
  simp only at hw1 hg1 c0 HBy
  simp only
  have HW1 := Lib.hid hw1
  have HG1 := Lib.hid hg1
  have d0 := c0 0 _ rfl
  have d1 := c0 1 _ rfl
  have d2 := c0 2 _ rfl
  have d3 := c0 3 _ rfl
  have d4 := c0 4 _ rfl
  have d5 := c0 5 _ rfl
  have d6 := c0 6 _ rfl
  have d7 := c0 7 _ rfl
  have d8 := c0 8 _ rfl
  have d9 := c0 9 _ rfl
  have d10 := c0 10 _ rfl
  have d11 := c0 11 _ rfl
  clear c0 hw1 hb1 hg1 hw hr hl hL
  go_enter Try.func12, Try.ntmps12
  go_wp2_with (rw [← HW1.out])
  refine HBy.out.mono ?_
  rintro e w2 ⟨v, rfl, hnew⟩
  obtain ⟨A8, c8, rfl, hy8, hl8, hm8, hn8, _⟩ := hnew.slice HLt.out
  have HB2 := Lib.hid (HB1.out.trans (hnew.2.mono HB1.out.size))
  rw [← HLn.out]
  clear hnew hy8 hl8 hm8 hn8 d0 d1 d2 d3 d4 d5 d6 d7 d8 d9 d10 d11
  rcases HS.out with ⟨rfl, rfl⟩ | ⟨rfl, rfl, hL85, hL1⟩
  · go_wp2
    go_ret2
    exact ⟨rfl, HB2.out⟩
  · have w1' : IntKind.i64.wrap ((L : Int) - 1) = (L : Int) - 1 := by rw [IntKind.wrap_i64]; omega
    have w3' : IntKind.i64.wrap (((L : Int) - 1).tdiv 45) = ((L : Int) - 1) / 45 := by rw [Int.tdiv_eq_ediv_of_nonneg (by omega), IntKind.wrap_i64]; omega
    have w4' : IntKind.i64.wrap (((L : Int) - 1) / 45 + 1) = ((L : Int) + 44) / 45 := by rw [IntKind.wrap_i64]; omega
    go_wp2
    go_ret2
    exact ⟨rfl, HB2.out⟩
end Go.Proofs.Ytaokhbodmodcgaa
end

section
/-
  bytes.Equal, by contract.
-/
namespace Go.Proofs.Ytaokhbodmodcgaa
open Go.RowKit

theorem strOf_data (bs : List Nat) : ∀ s : ByteArray, (strOf s bs).data.toList = s.data.toList ++ bs.map UInt8.ofNat := by
  induction bs with
  | nil => intro s; simp [strOf]
  | cons a l ih =>
    intro s
    show (strOf (s.push (UInt8.ofNat a)) l).data.toList = _
    rw [ih]
    simp [ByteArray.push]
theorem str_data (bs : List Nat) : (str bs).data.toList = bs.map UInt8.ofNat := by
  unfold str
  rw [strOf_data]
  rfl
theorem map_u8_inj : ∀ {a b : List Nat}, (∀ x ∈ a, x < 256) → (∀ x ∈ b, x < 256) → a.map UInt8.ofNat = b.map UInt8.ofNat → a = b := by
  intro a
  induction a with
  | nil => intro b _ _ h; simpa using h.symm
  | cons x l ih =>
    intro b ha hb h
    cases b with
    | nil => simp at h
    | cons y m =>
      rw [List.map_cons, List.map_cons, List.cons.injEq] at h
      have h1 := ha x List.mem_cons_self
      have h2 := hb y List.mem_cons_self
      have h3 := congrArg UInt8.toNat h.1
      rw [UInt8.toNat_ofNat', UInt8.toNat_ofNat', Nat.mod_eq_of_lt h1, Nat.mod_eq_of_lt h2] at h3
      rw [h3, ih (fun z hz => ha z (List.mem_cons_of_mem _ hz)) (fun z hz => hb z (List.mem_cons_of_mem _ hz)) h.2]
/-- Two strings are alike just if the bytes are. -/
theorem str_beq {a b : List Nat} (ha : ∀ x ∈ a, x < 256) (hb : ∀ x ∈ b, x < 256) : ((str a).toList == (str b).toList) = decide (a = b) := by
  rw [Lib.toList_data, Lib.toList_data, str_data, str_data, Bool.eq_iff_iff, beq_iff_eq, decide_eq_true_eq]
  exact ⟨fun h => map_u8_inj ha hb h, fun h => by rw [h]⟩

set_option maxHeartbeats 400000 in
theorem beq_any (xs bs : List Nat) (A B : Option Addr) (c d : Nat) (w : World) (hA : By w w.heap.size A xs) (hB : By w w.heap.size B bs) :
    Calls Try.prog 42 #[.slice A xs.length c, .slice B bs.length d] w fun e w' => e = .returned (.bool (decide (xs = bs))) ∧ w = w' := by
  have k1 := conv_str w hA c
  have k2 := conv_str w hB d
  have HS := Lib.hid (str_beq hA.1 hB.1)
  generalize decide (xs = bs) = r at *
  clear hA hB
  generalize str xs = s at *
  generalize str bs = t at *
  go_enter Try.func42, Try.ntmps42
  go_wp2
  go_ret
  exact ⟨by rw [← HS.out]; rfl, rfl⟩

end Go.Proofs.Ytaokhbodmodcgaa
end

section
/-
  The developers' Read.
-/
namespace Go.Proofs.Ytaokhbodmodcgaa
open Go.RowKit
set_option maxRecDepth 100000

theorem readF_len {bs : List Nat} (hb : ∀ x ∈ bs, x < 256) {k : FK} {r : Rc} {a : Nat} (h : r.writes.length ≤ 255) : (readF k r bs a).writes.length ≤ 255 := by
  cases k
  case writes => show (wsOf bs a (bt bs a)).length ≤ 255; rw [wsOf_length]; have := bt_lt hb a; omega
  all_goals exact h
theorem readAll_len {bs : List Nat} (hb : ∀ x ∈ bs, x < 256) : ∀ (ks : List FK) (x : Rc × Nat), x.1.writes.length ≤ 255 → (readAll bs ks x).1.writes.length ≤ 255 := by
  intro ks
  induction ks with
  | nil => intro x h; exact h
  | cons k ks ih => intro x h; exact ih _ (readF_len hb h)
theorem parse_len {bs : List Nat} (hb : ∀ x ∈ bs, x < 256) : (parseR bs).writes.length ≤ 255 := readAll_len hb _ _ (by simp [zRc])
theorem szZ : (#[.int .i8 0, .int .i64 0, .int .i64 0, .int .i64 0, .bool false, .slice none 0 0, .int .i64 0, .int .i64 0, .int .i64 0, .int .i64 0, .int .i64 0, .int .i64 0] : Array Value).size = (#[.int .i8 0, .int .i64 0, .int .i64 0, .int .i64 0, .bool false, .slice none 0 0, .int .i64 0, .int .i64 0, .int .i64 0, .int .i64 0, .int .i64 0, .int .i64 0] : Array Value).size := rfl
set_option maxHeartbeats 8000000 in
theorem read_dev (bs : List Nat) (A : Option Addr) (c : Nat) (w : World) (hy : By w w.heap.size A bs) (hc : bs.length ≤ c) (hm : c ≤ maxLen) (hn : A = none → c = 0) (hl : bs.length ≤ 300) :
    Calls Try.prog 24 #[.slice A bs.length c] w (ReadTell w bs) := by
  obtain ⟨w1, hw1⟩ : ∃ w1, w1 = w.alloc (.cells #[.int .i8 0, .int .i64 0, .int .i64 0, .int .i64 0, .bool false, .slice none 0 0, .int .i64 0, .int .i64 0, .int .i64 0, .int .i64 0, .int .i64 0, .int .i64 0] 29) := ⟨_, rfl⟩
  have hb1 : Below w.heap.size w w1 := by rw [hw1]; exact (Below.refl _ w).alloc (Nat.le_refl _) _
  have hz1 : w1.heap.size = w.heap.size + 1 := by rw [hw1]; simp
  have g0 : w1.heap[w.heap.size]? = some (.cells #[.int .i8 0, .int .i64 0, .int .i64 0, .int .i64 0, .bool false, .slice none 0 0, .int .i64 0, .int .i64 0, .int .i64 0, .int .i64 0, .int .i64 0, .int .i64 0] 29 (0, 0)) := by rw [hw1]; exact heap_alloc_new w _
  have HPa := Lib.hid (parse_dev bs A c w1 ((hy.below hb1 (Nat.le_refl _)).mono hb1.size) hc hm)
  have HB1 := Lib.hid hb1
  have HZ1 := Lib.hid hz1
  have HW1 := Lib.hid hw1
  have HG0 := Lib.hid g0
  have HY := Lib.hid hy
  have HIz := Lib.hid (show (Try.prog.info? 29).map (·.size) = some (#[.int .i8 0, .int .i64 0, .int .i64 0, .int .i64 0, .bool false, .slice none 0 0, .int .i64 0, .int .i64 0, .int .i64 0, .int .i64 0, .int .i64 0, .int .i64 0] : Array Value).size by kernel_rfl)
  have HOz := Lib.hid (show (#[.int .i8 0, .int .i64 0, .int .i64 0, .int .i64 0, .bool false, .slice none 0 0, .int .i64 0, .int .i64 0, .int .i64 0, .int .i64 0, .int .i64 0, .int .i64 0] : Array Value).all (·.oneCell') = true by simp [Value.oneCell'])
  obtain ⟨n, hnn⟩ : ∃ n, n = bs.length := ⟨_, rfl⟩
  rw [← hnn] at HPa ⊢
  have HNn := Lib.hid hnn
  clear hw1 hb1 hz1 g0 hy hnn hm hn
  go_enter Try.func24, Try.ntmps24
  go_wp2_with (rw [← HW1.out])
  refine HPa.out.mono ?_
  rintro e w2 ⟨A2, c2, rfl, hwr2, hfi2, hb2⟩
  have hra := read_again HY.out.1 hfi2.writes.vals
  obtain ⟨r, hr⟩ : ∃ r, r = parseR bs := ⟨_, rfl⟩
  rw [← hr] at hwr2 hfi2 hra
  have HPr := Lib.hid hr
  rw [← hr]
  obtain ⟨hb3, hg3, hz3⟩ := box_made w2 #[.int .i8 0, .int .i64 0, .int .i64 0, .int .i64 0, .bool false, .slice none 0 0, .int .i64 0, .int .i64 0, .int .i64 0, .int .i64 0, .int .i64 0, .int .i64 0] (recv A2 c2 r).toArray 29
  have HZ3 := Lib.hid (heap_alloc_new w2 (.cells #[.int .i8 0, .int .i64 0, .int .i64 0, .int .i64 0, .bool false, .slice none 0 0, .int .i64 0, .int .i64 0, .int .i64 0, .int .i64 0, .int .i64 0, .int .i64 0] 29))
  obtain ⟨w3, hw3⟩ : ∃ w3, w3 = (w2.alloc (.cells #[.int .i8 0, .int .i64 0, .int .i64 0, .int .i64 0, .bool false, .slice none 0 0, .int .i64 0, .int .i64 0, .int .i64 0, .int .i64 0, .int .i64 0, .int .i64 0] 29)).setRow w2.heap.size (recv A2 c2 r).toArray := ⟨_, rfl⟩
  rw [← hw3] at hb3 hg3 hz3
  have HW3 := Lib.hid hw3
  have HG2 := Lib.hid ((hb2.block _ (by have := HZ1.out; omega)).trans HG0.out)
  have HSq := Lib.hid (show w.heap.size + 1 ≤ w2.heap.size ∧ w3.heap.size = w2.heap.size + 1 from ⟨by have := HZ1.out; have := hb2.size; omega, hz3⟩)
  have HG3 := Lib.hid ((hb3.block w.heap.size (by have := HSq.out; omega)).trans HG2.out)
  have hwr3 := hwr2.below hb3
  have HWr3 := Lib.hid hwr3
  have HFi := Lib.hid hfi2
  have HRow3 := Lib.hid hg3
  have HB3 := Lib.hid (HB1.out.trans ((hb2.mono HB1.out.size).trans (hb3.mono (by have := HSq.out; omega))))
  have HIr := Lib.hid (show (Try.prog.info? 29).map (·.size) = some (recv A2 c2 r).toArray.size by kernel_rfl)
  have HSr := Lib.hid (show (#[.int .i8 0, .int .i64 0, .int .i64 0, .int .i64 0, .bool false, .slice none 0 0, .int .i64 0, .int .i64 0, .int .i64 0, .int .i64 0, .int .i64 0, .int .i64 0] : Array Value).size = (recv A2 c2 r).toArray.size from rfl)
  have HOr := Lib.hid (show (recv A2 c2 r).toArray.all (·.oneCell') = true by simp [recv, Value.oneCell'])
  have HBy := Lib.hid (bytes_dev r A2 c2 w3 (hwr3.mono fun _ _ _ => trivial) hfi2 (by have h := parse_len HY.out.1; rw [HPr.out]; omega))
  have HLt := Lib.hid (bytesL_lt hfi2.writes.vals)
  have HRa := Lib.hid hra
  clear hr hwr2 hfi2 hb2 hra hb3 hg3 hz3 hw3 hwr3
  go_wp2_with (first
    | (refine wpList_store_row rfl 29 _ _ rfl w2.heap.size (recv A2 c2 r).toArray rfl rfl 29 #[.int .i8 0, .int .i64 0, .int .i64 0, .int .i64 0, .bool false, .slice none 0 0, .int .i64 0, .int .i64 0, .int .i64 0, .int .i64 0, .int .i64 0, .int .i64 0] HZ3.out HIr.out HSr.out HOr.out ?_; rw [← HW3.out])
    | (refine wpList_load_row rfl 29 _ rfl w2.heap.size rfl 29 (recv A2 c2 r).toArray (0, 0) _ HRow3.out Try.underlying29 rfl HIr.out ?_))
  refine HBy.out.mono ?_
  rintro e w4 ⟨v, rfl, hnew⟩
  obtain ⟨A5, c5, rfl, hy5, _⟩ := hnew.slice HLt.out
  have HB4 := Lib.hid (HB3.out.trans (hnew.2.mono HB3.out.size))
  have HG4 := Lib.hid ((hnew.2.block w.heap.size (by have := HSq.out; omega)).trans HG3.out)
  have HRow4 := Lib.hid ((hnew.2.block w2.heap.size (by have := HSq.out; omega)).trans HRow3.out)
  have HWr4 := Lib.hid (HWr3.out.below hnew.2)
  have HEq := Lib.hid (beq_any bs (bytesL r) A A5 c c5 w4 ((HY.out.below HB4.out (Nat.le_refl _)).mono HB4.out.size) hy5)
  rw [← HNn.out] at HEq
  clear hnew hy5
  cases hmay : mayR r with
  | false =>
    have HNo := Lib.hid (show readR bs = none by rw [HRa.out, if_neg (by rw [hmay]; simp)])
    have hE : bytesE r = 2 := by unfold bytesE; rw [hmay]; rfl
    rw [hE]
    clear hmay hE
    have HFin := Lib.hid (show ReadTell w bs (.returned (.tuple #[.agg #[.int .i8 0, .int .i64 0, .int .i64 0, .int .i64 0, .bool false, .slice none 0 0, .int .i64 0, .int .i64 0, .int .i64 0, .int .i64 0, .int .i64 0, .int .i64 0], .int .i64 40])) (w4.setRow w.heap.size #[.int .i8 0, .int .i64 0, .int .i64 0, .int .i64 0, .bool false, .slice none 0 0, .int .i64 0, .int .i64 0, .int .i64 0, .int .i64 0, .int .i64 0, .int .i64 0]) from ReadTell.no HNo.out (below_setRow HB4.out (Nat.le_refl _) _))
    have HR0 := Lib.hid (setRow_heap w4 w.heap.size #[.int .i8 0, .int .i64 0, .int .i64 0, .int .i64 0, .bool false, .slice none 0 0, .int .i64 0, .int .i64 0, .int .i64 0, .int .i64 0, .int .i64 0, .int .i64 0] #[.int .i8 0, .int .i64 0, .int .i64 0, .int .i64 0, .bool false, .slice none 0 0, .int .i64 0, .int .i64 0, .int .i64 0, .int .i64 0, .int .i64 0, .int .i64 0] 29 (0, 0) HG4.out)
    go_wp2_with (refine wpList_store_row rfl 29 _ _ rfl w.heap.size #[.int .i8 0, .int .i64 0, .int .i64 0, .int .i64 0, .bool false, .slice none 0 0, .int .i64 0, .int .i64 0, .int .i64 0, .int .i64 0, .int .i64 0, .int .i64 0] rfl rfl 29 #[.int .i8 0, .int .i64 0, .int .i64 0, .int .i64 0, .bool false, .slice none 0 0, .int .i64 0, .int .i64 0, .int .i64 0, .int .i64 0, .int .i64 0, .int .i64 0] HG4.out HIz.out szZ HOz.out ?_)
    exact bodyPost_ret (results_cell_tmp (t := 29) (p := 2) (u := 3) rfl _ _ w.heap.size #[.int .i8 0, .int .i64 0, .int .i64 0, .int .i64 0, .bool false, .slice none 0 0, .int .i64 0, .int .i64 0, .int .i64 0, .int .i64 0, .int .i64 0, .int .i64 0] (0, 0) _ rfl HR0.out Try.underlying29 rfl HIz.out) rfl HFin.out
  | true =>
    have hE : bytesE r = 0 := by unfold bytesE; rw [hmay]; rfl
    have hL : bytesL r = bytesR r := by unfold bytesL; rw [hmay]; rfl
    rw [hE]
    rw [hL] at HEq ⊢
    rw [hmay] at HRa
    clear hmay hE hL
    by_cases hbe : bs = bytesR r
    · have HYes := Lib.hid (show readR bs = some r by rw [HRa.out, if_pos ⟨rfl, hbe⟩])
      rw [decide_eq_true hbe] at HEq
      clear hbe
      have HFin := Lib.hid (show ReadTell w bs (.returned (.tuple #[.agg (recv A2 c2 r).toArray, .int .i64 0])) (w4.setRow w.heap.size (recv A2 c2 r).toArray) from
        ReadTell.yes HYes.out ((HWr4.out.mono fun b hb _ => show w.heap.size < b by have := HZ1.out; have h2 : w1.heap.size ≤ b := hb; omega).out (N := w.heap.size) (fun b hb => setRow_other _ _ _ _ (by omega)) (by simp [World.setRow]) (Nat.le_refl _)) HFi.out.writes (below_setRow HB4.out (Nat.le_refl _) _))
      have HR0 := Lib.hid (setRow_heap w4 w.heap.size #[.int .i8 0, .int .i64 0, .int .i64 0, .int .i64 0, .bool false, .slice none 0 0, .int .i64 0, .int .i64 0, .int .i64 0, .int .i64 0, .int .i64 0, .int .i64 0] (recv A2 c2 r).toArray 29 (0, 0) HG4.out)
      go_wp2_with fail
      refine HEq.out.mono ?_
      rintro e w5 ⟨rfl, rfl⟩
      go_wp2_with (first
        | (refine wpList_load_row rfl 29 _ rfl w2.heap.size rfl 29 (recv A2 c2 r).toArray (0, 0) _ HRow4.out Try.underlying29 rfl HIr.out ?_)
        | (refine wpList_store_row rfl 29 _ _ rfl w.heap.size (recv A2 c2 r).toArray rfl rfl 29 #[.int .i8 0, .int .i64 0, .int .i64 0, .int .i64 0, .bool false, .slice none 0 0, .int .i64 0, .int .i64 0, .int .i64 0, .int .i64 0, .int .i64 0, .int .i64 0] HG4.out HIr.out HSr.out HOr.out ?_))
      exact bodyPost_ret (results_cell_tmp (t := 29) (p := 2) (u := 3) rfl _ _ w.heap.size (recv A2 c2 r).toArray (0, 0) _ rfl HR0.out Try.underlying29 rfl HIr.out) rfl HFin.out
    · have HNo := Lib.hid (show readR bs = none by rw [HRa.out, if_neg (fun h => hbe h.2)])
      rw [decide_eq_false hbe] at HEq
      clear hbe
      go_wp2_with fail
      refine HEq.out.mono ?_
      rintro e w5 ⟨rfl, rfl⟩
      have HFin := Lib.hid (show ReadTell w bs (.returned (.tuple #[.agg #[.int .i8 0, .int .i64 0, .int .i64 0, .int .i64 0, .bool false, .slice none 0 0, .int .i64 0, .int .i64 0, .int .i64 0, .int .i64 0, .int .i64 0, .int .i64 0], .int .i64 40])) (w4.setRow w.heap.size #[.int .i8 0, .int .i64 0, .int .i64 0, .int .i64 0, .bool false, .slice none 0 0, .int .i64 0, .int .i64 0, .int .i64 0, .int .i64 0, .int .i64 0, .int .i64 0]) from ReadTell.no HNo.out (below_setRow HB4.out (Nat.le_refl _) _))
      have HR0 := Lib.hid (setRow_heap w4 w.heap.size #[.int .i8 0, .int .i64 0, .int .i64 0, .int .i64 0, .bool false, .slice none 0 0, .int .i64 0, .int .i64 0, .int .i64 0, .int .i64 0, .int .i64 0, .int .i64 0] #[.int .i8 0, .int .i64 0, .int .i64 0, .int .i64 0, .bool false, .slice none 0 0, .int .i64 0, .int .i64 0, .int .i64 0, .int .i64 0, .int .i64 0, .int .i64 0] 29 (0, 0) HG4.out)
      go_wp2_with (refine wpList_store_row rfl 29 _ _ rfl w.heap.size #[.int .i8 0, .int .i64 0, .int .i64 0, .int .i64 0, .bool false, .slice none 0 0, .int .i64 0, .int .i64 0, .int .i64 0, .int .i64 0, .int .i64 0, .int .i64 0] rfl rfl 29 #[.int .i8 0, .int .i64 0, .int .i64 0, .int .i64 0, .bool false, .slice none 0 0, .int .i64 0, .int .i64 0, .int .i64 0, .int .i64 0, .int .i64 0, .int .i64 0] HG4.out HIz.out szZ HOz.out ?_)
      exact bodyPost_ret (results_cell_tmp (t := 29) (p := 2) (u := 3) rfl _ _ w.heap.size #[.int .i8 0, .int .i64 0, .int .i64 0, .int .i64 0, .bool false, .slice none 0 0, .int .i64 0, .int .i64 0, .int .i64 0, .int .i64 0, .int .i64 0, .int .i64 0] (0, 0) _ rfl HR0.out Try.underlying29 rfl HIz.out) rfl HFin.out
end Go.Proofs.Ytaokhbodmodcgaa
end

section
/-
  The developers' answer of which name goes ahead (cmp.Compare, cmp.Or).
-/
namespace Go.Proofs.Ytaokhbodmodcgaa
open Go.RowKit
set_option maxRecDepth 100000

def cmpI (a b : Int) : Int := if a < b then -1 else if b < a then 1 else 0
def orF (f : Nat → Int) : Int := if f 0 ≠ 0 then f 0 else if f 1 ≠ 0 then f 1 else f 2
theorem nan_dev (a : Int) (w : World) : Calls Try.prog 50 #[.int .i64 a] w fun e w' => e = .returned (.bool false) ∧ w' = w := by
  have hq : (a != a) = false := by simp
  go_enter Try.func50, Try.ntmps50
  go_wp2
  go_ret
  exact ⟨rfl, rfl⟩
theorem compare_dev (a b : Int) (w : World) : Calls Try.prog 40 #[.int .i64 a, .int .i64 b] w fun e w' => e = .returned (.int .i64 (cmpI a b)) ∧ w' = w := by
  have HN := Lib.hid (fun a W => nan_dev a W)
  obtain ⟨E, hE⟩ : ∃ E, E = cmpI a b := ⟨_, rfl⟩
  rw [← hE]
  unfold cmpI at hE
  by_cases h0 : a < b
  · rw [if_pos h0] at hE
    have HE := Lib.hid hE
    clear hE
    go_enter Try.func40, Try.ntmps40
    go_wp2_with fail
    refine (HN.out _ _).mono ?_
    rintro e w2 ⟨rfl, rfl⟩
    go_wp2_with fail
    refine (HN.out _ _).mono ?_
    rintro e w2 ⟨rfl, rfl⟩
    go_wp2
    go_ret
    exact ⟨by rw [HE.out]; rfl, rfl⟩
  · by_cases h1 : b < a
    · rw [if_neg h0, if_pos h1] at hE
      have HE := Lib.hid hE
      clear hE
      go_enter Try.func40, Try.ntmps40
      go_wp2_with fail
      refine (HN.out _ _).mono ?_
      rintro e w2 ⟨rfl, rfl⟩
      go_wp2_with fail
      refine (HN.out _ _).mono ?_
      rintro e w2 ⟨rfl, rfl⟩
      go_wp2
      go_ret
      exact ⟨by rw [HE.out]; rfl, rfl⟩
    · rw [if_neg h0, if_neg h1] at hE
      have HE := Lib.hid hE
      clear hE
      go_enter Try.func40, Try.ntmps40
      go_wp2_with fail
      refine (HN.out _ _).mono ?_
      rintro e w2 ⟨rfl, rfl⟩
      go_wp2_with fail
      refine (HN.out _ _).mono ?_
      rintro e w2 ⟨rfl, rfl⟩
      go_wp2
      go_ret
      exact ⟨by rw [HE.out]; rfl, rfl⟩
set_option maxHeartbeats 2000000 in
theorem or_dev (f : Nat → Int) (b : Nat) (w : World) (hc : ∀ j, j < 3 → w.cell? ⟨b, j, none⟩ = some (.int .i64 (f j))) : Calls Try.prog 39 #[.slice (some ⟨b, 0, none⟩) 3 3] w fun e w' => e = .returned (.int .i64 (orF f)) ∧ w' = w := by
  have HC := Lib.hid hc
  clear hc
  go_enter Try.func39, Try.ntmps39
  go_wp2
  go_loopw [8] (fun i wr => ∃ k : Nat, k ≤ 3 ∧ i = .int .i64 (k : Int) ∧ (∀ j, j < k → f j = 0) ∧ wr = w) (fun i _ => 3 - (intOf i).toNat)
  case atStart => exact ⟨0, by omega, rfl, fun j h => absurd h (by omega), rfl⟩
  case round =>
    obtain ⟨k, hk, rfl, hz, rfl⟩ := hrel
    have HZ := Lib.hid hz
    clear hz
    by_cases hlt : k < 3
    · have c0 := HC.out k hlt
      have hki : (k : Int) < 3 := by omega
      have hw1 : IntKind.i64.wrap ((k : Int) + 1) = (k : Int) + 1 := by rw [IntKind.wrap_i64]; omega
      obtain ⟨x, hx⟩ : ∃ x, x = f k := ⟨_, rfl⟩
      rw [← hx] at c0
      have HX := Lib.hid hx
      clear hx
      by_cases h0 : x = 0
      · have hq : (x != 0) = false := by simp [h0]
        have H0 := Lib.hid h0
        clear h0
        go_wp2
        go_roundw
        case rel => exact ⟨k + 1, by omega, by simp, fun j hj => by
          rcases Nat.lt_or_ge j k with h | h
          · exact HZ.out j h
          · obtain rfl : j = k := by omega
            rw [← HX.out, H0.out], by first | rfl | trivial⟩
        case measure => simp [intOf]; omega
      · have hq : (x != 0) = true := by simp [h0]
        have H0 := Lib.hid h0
        clear h0
        go_wp2
        go_ret
        refine ⟨?_, rfl⟩
        have h1 := H0.out
        have h2 := HX.out
        have hz := HZ.out
        have e : orF f = x := by
          unfold orF
          match k, hlt with
          | 0, _ => rw [if_pos (by omega)]; exact h2.symm
          | 1, _ => rw [if_neg (fun h => h (hz 0 (by omega))), if_pos (by omega)]; exact h2.symm
          | 2, _ => rw [if_neg (fun h => h (hz 0 (by omega))), if_neg (fun h => h (hz 1 (by omega)))]; exact h2.symm
        rw [e]; rfl
    · obtain rfl : k = 3 := by omega
      go_wp2
      go_ret
      refine ⟨?_, rfl⟩
      have hz := HZ.out
      have e : orF f = 0 := by
        unfold orF
        rw [if_neg (fun h => h (hz 0 (by omega))), if_neg (fun h => h (hz 1 (by omega)))]
        exact hz 2 (by omega)
      rw [e]; rfl
theorem less_or (a b c x y z : Int) : decide (orF (fun j => if j = 0 then cmpI a x else if j = 1 then cmpI b y else cmpI c z) < 0) = lessB ⟨a, b, c⟩ ⟨x, y, z⟩ := by
  unfold orF lessB cmpI
  simp only
  by_cases h0 : a = x
  · by_cases h1 : b = y
    · simp [h0, h1]
      repeat' split
      all_goals simp_all
      all_goals omega
    · simp [h0, h1]
      repeat' split
      all_goals simp_all
      all_goals omega
  · simp [h0]
    repeat' split
    all_goals simp_all
    all_goals omega
set_option maxHeartbeats 4000000 in
theorem less_dev (m n : Nm) (w : World) : Calls Try.prog 22 #[.agg (nmv m).toArray, .agg (nmv n).toArray] w fun e w' => e = .returned (.bool (lessB m n)) ∧ Below w.heap.size w w' := by
  obtain ⟨a, b, c⟩ := m
  obtain ⟨x, y, z⟩ := n
  obtain ⟨w1, hw1⟩ : ∃ w1, w1 = (w.alloc (.cells #[.int .i64 a, .int .i64 b, .int .i64 c] 24)).alloc (.cells #[.int .i64 x, .int .i64 y, .int .i64 z] 24) := ⟨_, rfl⟩
  have hb1 : Below w.heap.size w w1 := by rw [hw1]; exact ((Below.refl _ w).alloc (Nat.le_refl _) _).alloc (by simp) _
  have g0 : w1.heap[w.heap.size]? = some (.cells #[.int .i64 a, .int .i64 b, .int .i64 c] 24 (0, 0)) := by rw [hw1]; exact (Below.heap_alloc _ _ _ (by simp)).trans (heap_alloc_new w _)
  have g1 : w1.heap[w.heap.size + 1]? = some (.cells #[.int .i64 x, .int .i64 y, .int .i64 z] 24 (0, 0)) := by
    rw [hw1]
    have h := heap_alloc_new (w.alloc (.cells #[.int .i64 a, .int .i64 b, .int .i64 c] 24)) (.cells #[.int .i64 x, .int .i64 y, .int .i64 z] 24)
    rwa [World.size_alloc] at h
  have hz1 : w1.heap.size = w.heap.size + 2 := by rw [hw1]; simp
  have HB := Lib.hid hb1
  have HS := Lib.hid (show ∀ W, Below w1.heap.size w1 W → W.cell? ⟨w.heap.size, 0, none⟩ = some (.int .i64 a) ∧ W.cell? ⟨w.heap.size, 1, none⟩ = some (.int .i64 b) ∧ W.cell? ⟨w.heap.size, 2, none⟩ = some (.int .i64 c) ∧ W.cell? ⟨w.heap.size + 1, 0, none⟩ = some (.int .i64 x) ∧ W.cell? ⟨w.heap.size + 1, 1, none⟩ = some (.int .i64 y) ∧ W.cell? ⟨w.heap.size + 1, 2, none⟩ = some (.int .i64 z) from fun W hW => by
    have k0 := (hW.block w.heap.size (by omega)).trans g0
    have k1 := (hW.block (w.heap.size + 1) (by omega)).trans g1
    exact ⟨by rw [cell_of_row W _ 0 _ _ _ k0]; rfl, by rw [cell_of_row W _ 1 _ _ _ k0]; rfl, by rw [cell_of_row W _ 2 _ _ _ k0]; rfl, by rw [cell_of_row W _ 0 _ _ _ k1]; rfl, by rw [cell_of_row W _ 1 _ _ _ k1]; rfl, by rw [cell_of_row W _ 2 _ _ _ k1]; rfl⟩)
  have HW1 := Lib.hid hw1
  have HCmp := Lib.hid (fun a b W => compare_dev a b W)
  have HE := Lib.hid (less_or a b c x y z)
  clear hw1 g0 g1 hb1 hz1
  unfold nmv
  go_enter Try.func22, Try.ntmps22
  go_wp2_with (rw [← HW1.out])
  refine wp_region_held_drew (S := fun W => W.cell? ⟨w.heap.size, 0, none⟩ = some (.int .i64 a) ∧ W.cell? ⟨w.heap.size, 1, none⟩ = some (.int .i64 b) ∧ W.cell? ⟨w.heap.size, 2, none⟩ = some (.int .i64 c) ∧ W.cell? ⟨w.heap.size + 1, 0, none⟩ = some (.int .i64 x) ∧ W.cell? ⟨w.heap.size + 1, 1, none⟩ = some (.int .i64 y) ∧ W.cell? ⟨w.heap.size + 1, 2, none⟩ = some (.int .i64 z)) (by kernel_rfl) (HS.out _ (Below.refl _ _).drew) (fun hHeld => ?_)
  refine wpAnyH_take (i := 0) (v := ?_) rfl (by kernel_rfl) (by kernel_rfl) (by kernel_rfl) (fun _ _ _ h => h) (Or.inl ⟨by rfl, ?_⟩) (by assumption) ?_
  rotate_left
  · simp only [List.getElem_toArray, List.getElem_cons_zero, List.getElem_cons_succ]; intro W hSw; (try dsimp only at hSw); go_simp; all_goals with_reducible rfl
  simp only [Act.put, List.getElem_toArray, List.getElem_cons_zero, List.getElem_cons_succ, List.setIfInBounds_toArray, List.set_cons_zero, List.set_cons_succ]
  refine wpAnyH_take (i := 1) (v := ?_) rfl (by kernel_rfl) (by kernel_rfl) (by kernel_rfl) (fun _ _ _ h => h) (Or.inl ⟨by rfl, ?_⟩) (by assumption) ?_
  rotate_left
  · simp only [List.getElem_toArray, List.getElem_cons_zero, List.getElem_cons_succ]; intro W hSw; (try dsimp only at hSw); go_simp; all_goals with_reducible rfl
  simp only [Act.put, List.getElem_toArray, List.getElem_cons_zero, List.getElem_cons_succ, List.setIfInBounds_toArray, List.set_cons_zero, List.set_cons_succ]
  refine wpAnyH_take (i := 2) (v := ?_) rfl (by kernel_rfl) (by kernel_rfl) (by kernel_rfl) (fun _ _ _ h => h) (Or.inl ⟨by rfl, ?_⟩) (by assumption) ?_
  rotate_left
  · simp only [List.getElem_toArray, List.getElem_cons_zero, List.getElem_cons_succ]; intro W hSw; (try dsimp only at hSw); go_simp; all_goals with_reducible rfl
  simp only [Act.put, List.getElem_toArray, List.getElem_cons_zero, List.getElem_cons_succ, List.setIfInBounds_toArray, List.set_cons_zero, List.set_cons_succ]
  refine wpAnyH_take (i := 3) (v := ?_) rfl (by kernel_rfl) (by kernel_rfl) (by kernel_rfl) (fun _ _ _ h => h) (Or.inl ⟨by rfl, ?_⟩) (by assumption) ?_
  rotate_left
  · simp only [List.getElem_toArray, List.getElem_cons_zero, List.getElem_cons_succ]; intro W hSw; (try dsimp only at hSw); go_simp; all_goals with_reducible rfl
  simp only [Act.put, List.getElem_toArray, List.getElem_cons_zero, List.getElem_cons_succ, List.setIfInBounds_toArray, List.set_cons_zero, List.set_cons_succ]
  refine wpAnyH_take (i := 5) (v := ?_) rfl (by kernel_rfl) (by kernel_rfl) (by kernel_rfl) (fun _ _ _ h => h) (Or.inl ⟨by rfl, ?_⟩) (by assumption) ?_
  rotate_left
  · simp only [List.getElem_toArray, List.getElem_cons_zero, List.getElem_cons_succ]; intro W hSw; (try dsimp only at hSw); go_simp; all_goals with_reducible rfl
  simp only [Act.put, List.getElem_toArray, List.getElem_cons_zero, List.getElem_cons_succ, List.setIfInBounds_toArray, List.set_cons_zero, List.set_cons_succ]
  refine wpAnyH_take (i := 6) (v := ?_) rfl (by kernel_rfl) (by kernel_rfl) (by kernel_rfl) (fun _ _ _ h => h) (Or.inl ⟨by rfl, ?_⟩) (by assumption) ?_
  rotate_left
  · simp only [List.getElem_toArray, List.getElem_cons_zero, List.getElem_cons_succ]; intro W hSw; (try dsimp only at hSw); go_simp; all_goals with_reducible rfl
  simp only [Act.put, List.getElem_toArray, List.getElem_cons_zero, List.getElem_cons_succ, List.setIfInBounds_toArray, List.set_cons_zero, List.set_cons_succ]
  refine wpAnyH_take (i := 7) (v := ?_) rfl (by kernel_rfl) (by kernel_rfl) (by kernel_rfl) (fun _ _ _ h => h) (Or.inl ⟨by rfl, ?_⟩) (by assumption) ?_
  rotate_left
  · simp only [List.getElem_toArray, List.getElem_cons_zero, List.getElem_cons_succ]; intro W hSw; (try dsimp only at hSw); go_simp; all_goals with_reducible rfl
  simp only [Act.put, List.getElem_toArray, List.getElem_cons_zero, List.getElem_cons_succ, List.setIfInBounds_toArray, List.set_cons_zero, List.set_cons_succ]
  refine wpAnyH_take (i := 8) (v := ?_) rfl (by kernel_rfl) (by kernel_rfl) (by kernel_rfl) (fun _ _ _ h => h) (Or.inl ⟨by rfl, ?_⟩) (by assumption) ?_
  rotate_left
  · simp only [List.getElem_toArray, List.getElem_cons_zero, List.getElem_cons_succ]; intro W hSw; (try dsimp only at hSw); go_simp; all_goals with_reducible rfl
  simp only [Act.put, List.getElem_toArray, List.getElem_cons_zero, List.getElem_cons_succ, List.setIfInBounds_toArray, List.set_cons_zero, List.set_cons_succ]
  refine wpAnyH_take (i := 10) (v := ?_) rfl (by kernel_rfl) (by kernel_rfl) (by kernel_rfl) (fun _ _ _ h => h) (Or.inl ⟨by rfl, ?_⟩) (by assumption) ?_
  rotate_left
  · simp only [List.getElem_toArray, List.getElem_cons_zero, List.getElem_cons_succ]; intro W hSw; (try dsimp only at hSw); go_simp; all_goals with_reducible rfl
  simp only [Act.put, List.getElem_toArray, List.getElem_cons_zero, List.getElem_cons_succ, List.setIfInBounds_toArray, List.set_cons_zero, List.set_cons_succ]
  refine wpAnyH_take (i := 11) (v := ?_) rfl (by kernel_rfl) (by kernel_rfl) (by kernel_rfl) (fun _ _ _ h => h) (Or.inl ⟨by rfl, ?_⟩) (by assumption) ?_
  rotate_left
  · simp only [List.getElem_toArray, List.getElem_cons_zero, List.getElem_cons_succ]; intro W hSw; (try dsimp only at hSw); go_simp; all_goals with_reducible rfl
  simp only [Act.put, List.getElem_toArray, List.getElem_cons_zero, List.getElem_cons_succ, List.setIfInBounds_toArray, List.set_cons_zero, List.set_cons_succ]
  refine wpAnyH_take (i := 12) (v := ?_) rfl (by kernel_rfl) (by kernel_rfl) (by kernel_rfl) (fun _ _ _ h => h) (Or.inl ⟨by rfl, ?_⟩) (by assumption) ?_
  rotate_left
  · simp only [List.getElem_toArray, List.getElem_cons_zero, List.getElem_cons_succ]; intro W hSw; (try dsimp only at hSw); go_simp; all_goals with_reducible rfl
  simp only [Act.put, List.getElem_toArray, List.getElem_cons_zero, List.getElem_cons_succ, List.setIfInBounds_toArray, List.set_cons_zero, List.set_cons_succ]
  refine wpAnyH_take (i := 13) (v := ?_) rfl (by kernel_rfl) (by kernel_rfl) (by kernel_rfl) (fun _ _ _ h => h) (Or.inl ⟨by rfl, ?_⟩) (by assumption) ?_
  rotate_left
  · simp only [List.getElem_toArray, List.getElem_cons_zero, List.getElem_cons_succ]; intro W hSw; (try dsimp only at hSw); go_simp; all_goals with_reducible rfl
  simp only [Act.put, List.getElem_toArray, List.getElem_cons_zero, List.getElem_cons_succ, List.setIfInBounds_toArray, List.set_cons_zero, List.set_cons_succ]
  refine wpAnyH_ready (rs := [4]) (by kernel_rfl) (by simp) ?_
  refine AllReadyH.cons rfl (fun K hK => ?_) AllReadyH.nil
  simp only [List.getElem_toArray, List.getElem_cons_zero, List.getElem_cons_succ]
  go_simp
  refine (HCmp.out _ _ _).mono ?_
  rintro e w3 ⟨rfl, rfl⟩
  go_wp2_with fail
  refine hK.out _ _ (HS.out _ (Below.refl _ _).drew) (fun hHeldN => ?_)
  clear hK K hHeld
  have hHeld := hHeldN
  clear hHeldN
  (try simp only [Act.put, List.getElem_toArray, List.getElem_cons_zero, List.getElem_cons_succ, List.setIfInBounds_toArray, List.set_cons_zero, List.set_cons_succ])
  refine wpAnyH_ready (rs := [9]) (by kernel_rfl) (by simp) ?_
  refine AllReadyH.cons rfl (fun K hK => ?_) AllReadyH.nil
  simp only [List.getElem_toArray, List.getElem_cons_zero, List.getElem_cons_succ]
  go_simp
  refine (HCmp.out _ _ _).mono ?_
  rintro e w3 ⟨rfl, rfl⟩
  go_wp2_with fail
  refine hK.out _ _ (HS.out _ (Below.refl _ _).drew) (fun hHeldN => ?_)
  clear hK K hHeld
  have hHeld := hHeldN
  clear hHeldN
  (try simp only [Act.put, List.getElem_toArray, List.getElem_cons_zero, List.getElem_cons_succ, List.setIfInBounds_toArray, List.set_cons_zero, List.set_cons_succ])
  refine wpAnyH_ready (rs := [14]) (by kernel_rfl) (by simp) ?_
  refine AllReadyH.cons rfl (fun K hK => ?_) AllReadyH.nil
  simp only [List.getElem_toArray, List.getElem_cons_zero, List.getElem_cons_succ]
  go_simp
  refine (HCmp.out _ _ _).mono ?_
  rintro e w3 ⟨rfl, rfl⟩
  go_wp2_with fail
  refine hK.out _ _ (HS.out _ (Below.refl _ _).drew) (fun hHeldN => ?_)
  clear hK K hHeld
  have hHeld := hHeldN
  clear hHeldN
  (try simp only [Act.put, List.getElem_toArray, List.getElem_cons_zero, List.getElem_cons_succ, List.setIfInBounds_toArray, List.set_cons_zero, List.set_cons_succ])
  refine wpAnyH_ready (rs := [15]) (by kernel_rfl) (by simp) ?_
  refine AllReadyH.cons rfl (fun K hK => ?_) AllReadyH.nil
  simp only [List.getElem_toArray, List.getElem_cons_zero, List.getElem_cons_succ]
  go_simp
  have hb2 : Below w1.heap.size w1 (w1.alloc (.cells #[.int .i64 (cmpI a x), .int .i64 (cmpI b y), .int .i64 (cmpI c z)] 3)).drew := ((Below.refl _ w1).alloc (Nat.le_refl _) _).drew
  have hc2 : ∀ j, j < 3 → (w1.alloc (.cells #[.int .i64 (cmpI a x), .int .i64 (cmpI b y), .int .i64 (cmpI c z)] 3)).drew.cell? ⟨w1.heap.size, j, none⟩ = some (.int .i64 ((fun j : Nat => if j = 0 then cmpI a x else if j = 1 then cmpI b y else cmpI c z) j)) := fun j hj => by
    have hg : (w1.alloc (.cells #[.int .i64 (cmpI a x), .int .i64 (cmpI b y), .int .i64 (cmpI c z)] 3)).drew.heap[w1.heap.size]? = some (.cells #[.int .i64 (cmpI a x), .int .i64 (cmpI b y), .int .i64 (cmpI c z)] 3 (0, 0)) := heap_alloc_new w1 _
    rw [cell_of_row _ _ j _ _ _ hg]
    match j, hj with
    | 0, _ => rfl
    | 1, _ => rfl
    | 2, _ => rfl
  have HOr := Lib.hid (or_dev _ w1.heap.size _ hc2)
  have HB2 := Lib.hid hb2
  clear hb2 hc2
  refine hK.out _ _ (HS.out _ HB2.out) (fun hHeldN => ?_)
  clear hK K hHeld
  have hHeld := hHeldN
  clear hHeldN
  (try simp only [Act.put, List.getElem_toArray, List.getElem_cons_zero, List.getElem_cons_succ, List.setIfInBounds_toArray, List.set_cons_zero, List.set_cons_succ])
  generalize (w1.alloc (.cells #[.int .i64 (cmpI a x), .int .i64 (cmpI b y), .int .i64 (cmpI c z)] 3)).drew = w4 at *
  generalize orF (fun j : Nat => if j = 0 then cmpI a x else if j = 1 then cmpI b y else cmpI c z) = E at *
  refine wpAnyH_ready (rs := [16]) (by kernel_rfl) (by simp) ?_
  refine AllReadyH.cons rfl (fun K hK => ?_) AllReadyH.nil
  simp only [List.getElem_toArray, List.getElem_cons_zero, List.getElem_cons_succ]
  go_simp
  refine HOr.out.mono ?_
  rintro e w5 ⟨rfl, rfl⟩
  go_wp2_with fail
  refine hK.out _ _ (HS.out _ HB2.out) (fun hHeldN => ?_)
  clear hK K hHeld
  have hHeld := hHeldN
  clear hHeldN
  (try simp only [Act.put, List.getElem_toArray, List.getElem_cons_zero, List.getElem_cons_succ, List.setIfInBounds_toArray, List.set_cons_zero, List.set_cons_succ])
  refine wpAnyH_take (i := 17) (v := ?_) rfl (by kernel_rfl) (by kernel_rfl) (by kernel_rfl) (fun _ _ _ h => h) (Or.inl ⟨by rfl, ?_⟩) (by assumption) ?_
  rotate_left
  · simp only [List.getElem_toArray, List.getElem_cons_zero, List.getElem_cons_succ]; intro W hSw; (try dsimp only at hSw); go_simp; all_goals with_reducible rfl
  simp only [Act.put, List.getElem_toArray, List.getElem_cons_zero, List.getElem_cons_succ, List.setIfInBounds_toArray, List.set_cons_zero, List.set_cons_succ]
  refine wpAnyH_take (i := 18) (v := ?_) rfl (by kernel_rfl) (by kernel_rfl) (by kernel_rfl) (fun _ _ _ h => h) (Or.inl ⟨by rfl, ?_⟩) (by assumption) ?_
  rotate_left
  · simp only [List.getElem_toArray, List.getElem_cons_zero, List.getElem_cons_succ]; intro W hSw; (try dsimp only at hSw); go_simp; all_goals with_reducible rfl
  simp only [Act.put, List.getElem_toArray, List.getElem_cons_zero, List.getElem_cons_succ, List.setIfInBounds_toArray, List.set_cons_zero, List.set_cons_succ]
  refine wpAnyH_done (by kernel_rfl) ?_ _
  go_wp2_with fail
  go_ret
  exact ⟨by rw [← HE.out]; rfl, HB.out.trans (HB2.out.mono HB.out.size)⟩
end Go.Proofs.Ytaokhbodmodcgaa
end

section
/-
  The developers' calls of record keep the contracts over which the laws are proved.
-/
namespace Go.Proofs.Ytaokhbodmodcgaa
open Go.RowKit

section
variable {w : World} {A : Option Addr} {c : Nat} {r : Rc}
theorem RcAt.lt (h : RcAt w A c r) : WrsV w (· < w.heap.size) A c r.writes := h.wrs.mono fun _ _ h => h
end
theorem may_says : MaySays := fun r A c w h => may_dev r A c w (· < w.heap.size) h.lt h.fine (by have := h.few; omega) (fun _ h => h)
theorem named_says : NamedSays := fun n w _ => named_dev n w
theorem written_says : WrittenSays := fun l A c w h hf _ => written_dev l A c w _ h.at_ hf
theorem same_says : SameSays := fun r s A B c d w h k => same_dev r s A B c d w _ _ h.wrs.at_ k.wrs.at_ h.fine.writes k.fine.writes (by have := h.few; omega) (by have := k.few; omega)
theorem less_says : LessSays := fun m n w _ _ => less_dev m n w
theorem bytes_says : BytesSays := fun r A c w h => bytes_dev r A c w h.wrs h.fine (by have := h.few; omega)
theorem sectors_says : SectorsSays := fun r A c w h => sectors_dev r A c w h.wrs h.fine (by have := h.few; omega)
theorem read_says : ReadSays := fun bs A c w hy hl hc hm hn => read_dev bs A c w hy hc hm hn hl
end Go.Proofs.Ytaokhbodmodcgaa
end

section
/-
  From a contract to the row: how the arguments of these laws open, and what the row asks at the end.
-/
namespace Go.Proofs.Ytaokhbodmodcgaa
set_option maxRecDepth 100000
open Go.ChangeShapes Go.WideShapes Go.ChangeAt Go.RowKit

theorem Try.own : ownKnob Try.prog.godebug = none := by kernel_rfl
theorem Try.laidOut : laidOutB Try.prog = true := by kernel_rfl
theorem Try.cells5 : Try.prog.cellsOf 5 = 1 := by kernel_rfl
theorem Try.cells3 : Try.prog.cellsOf 3 = 1 := by kernel_rfl

theorem u8_range {n : Int} (h : (Lit.int .u8 n).wf = true) : 0 ≤ n ∧ n ≤ 255 := by
  have h1 : IntKind.u8.min = 0 := rfl
  have h2 : IntKind.u8.max = 255 := rfl
  simp only [Lit.wf, Bool.and_eq_true, decide_eq_true_eq] at h
  omega
theorem u32_range {n : Int} (h : (Lit.int .u32 n).wf = true) : 0 ≤ n ∧ n ≤ 4294967295 := by
  have h1 : IntKind.u32.min = 0 := rfl
  have h2 : IntKind.u32.max = 4294967295 := rfl
  simp only [Lit.wf, Bool.and_eq_true, decide_eq_true_eq] at h
  omega
theorem i64_range {n : Int} (h : (Lit.int .i64 n).wf = true) : -9223372036854775808 ≤ n ∧ n ≤ 9223372036854775807 := by
  have h1 : IntKind.i64.min = -9223372036854775808 := rfl
  have h2 : IntKind.i64.max = 9223372036854775807 := rfl
  simp only [Lit.wf, Bool.and_eq_true, decide_eq_true_eq] at h
  omega

/-- An argument that is a slice of integers: its cells. -/
theorem open_row {H : Type} {enc : TypeId × Value → H} {W : World} {t e : TypeId} {k : IntKind} {a : Option Addr} {len cap : Nat} {d : DataW H} {p : List MemPlace}
    (ht : Try.prog.underlying t = some (.slice e)) (he : Try.prog.underlying e = some (.int k)) (hc : Try.prog.cellsOf e = 1)
    (h : DataW.Trod enc Try.prog W 0 (fun _ => true) true t (.slice a len cap) d p) (hlt : ∀ x ∈ p, x.block < W.heap.size) :
    len ≤ cap ∧ cap ≤ maxLen ∧ (a = none → cap = 0) ∧ ∃ zs : List Int, zs.length = len ∧ (∀ n ∈ zs, (Lit.int k n).wf = true) ∧
      (0 < len → ∃ b off, a = some ⟨b, off, none⟩ ∧ b < W.heap.size ∧ ∀ j, j < len → W.cell? ⟨b, off + j, none⟩ = some (.int k (zs.getD j 0))) := by
  obtain ⟨fuel, hf⟩ := h
  rcases open_ints ht he hc hf with ⟨hcs, hx⟩ | ⟨a', len', cap', zs, hcs, _, hl, hm, hz, hx, hcell, hwz⟩
  · simp [Value.cells] at hcs
    obtain ⟨rfl, rfl, rfl⟩ := hcs
    exact ⟨Nat.le_refl _, (by unfold maxLen; omega), (fun _ => rfl), [], rfl, (fun _ h => (List.not_mem_nil h).elim), fun h => absurd h (by omega)⟩
  · simp [Value.cells] at hcs
    obtain ⟨rfl, rfl, rfl⟩ := hcs
    simp only [Prod.mk.injEq] at hx
    obtain ⟨rfl, rfl⟩ := hx
    simp only [if_true] at hz
    refine ⟨hl, hm, (fun e => by cases e), zs.take len, (by rw [List.length_take]; omega), (fun n hn => hwz n (List.mem_of_mem_take hn)), fun hn => ?_⟩
    obtain ⟨b, off, spot⟩ := a'
    have hspot : spot = none := by simpa [Addr.add] using World.cell?_spot (hcell 0 (by omega))
    subst hspot
    refine ⟨b, off, rfl, hlt (.cell b off) (MemPlace.mem_row.2 ⟨0, by omega, by simp⟩), fun j hj => ?_⟩
    rw [← add_flat, hcell j (by omega)]
    have e : (zs.take len).getD j 0 = zs.getD j 0 := by
      have h1 : j < zs.length := by omega
      simp [List.getD, hj]
    rw [e]

/-- An argument that is a slice of bytes. -/
theorem open_by {H : Type} {enc : TypeId × Value → H} {W : World} {a : Option Addr} {len cap : Nat} {d : DataW H} {p : List MemPlace}
    (h : DataW.Trod enc Try.prog W 0 (fun _ => true) true 32 (.slice a len cap) d p) (hlt : ∀ x ∈ p, x.block < W.heap.size) :
    ∃ bs : List Nat, bs.length = len ∧ By W W.heap.size a bs ∧ len ≤ cap ∧ cap ≤ maxLen ∧ (a = none → cap = 0) := by
  obtain ⟨h1, h2, h3, zs, hz, hw, hc⟩ := open_row Try.underlying32 Try.underlying5 Try.cells5 h hlt
  refine ⟨zs.map Int.toNat, by rw [List.length_map, hz], ⟨fun x hx => ?_, fun hn => ?_⟩, h1, h2, h3⟩
  · obtain ⟨n, hn, rfl⟩ := List.mem_map.1 hx
    have := u8_range (hw n hn)
    omega
  · rw [List.length_map, hz] at hn
    obtain ⟨b, off, e, hb, hcell⟩ := hc hn
    refine ⟨b, off, e, hb, fun j hj => ?_⟩
    rw [List.length_map, hz] at hj
    have hj' : j < zs.length := by omega
    rw [hcell j hj]
    have e1 : zs.getD j 0 = zs[j] := by simp [List.getD, hj']
    have e2 : (zs.map Int.toNat).getD j 0 = zs[j].toNat := by simp [List.getD, hj']
    have := u8_range (hw _ (List.getElem_mem hj'))
    rw [e1, e2, Int.toNat_of_nonneg this.1]

/-- An argument that is a slice of arrays of integers: its cells, one array behind the other. -/
theorem open_arrays {H : Type} {enc : TypeId × Value → H} {W : World} {t e e' : TypeId} {k : IntKind} {q : Nat} {a : Option Addr} {len cap : Nat} {d : DataW H} {p : List MemPlace}
    (ht : Try.prog.underlying t = some (.slice e)) (he : Try.prog.underlying e = some (.array q e')) (he' : Try.prog.underlying e' = some (.int k)) (hc : Try.prog.cellsOf e = q) (hc' : Try.prog.cellsOf e' = 1) (hq : 0 < q)
    (h : DataW.Trod enc Try.prog W 0 (fun _ => true) true t (.slice a len cap) d p) (hlt : ∀ x ∈ p, x.block < W.heap.size) :
    len ≤ cap ∧ cap ≤ maxLen ∧ (a = none → cap = 0) ∧ ∃ zs : List Int, zs.length = len * q ∧ (∀ n ∈ zs, (Lit.int k n).wf = true) ∧
      (0 < len → ∃ b off, a = some ⟨b, off, none⟩ ∧ b < W.heap.size ∧ ∀ j, j < len * q → W.cell? ⟨b, off + j, none⟩ = some (.int k (zs.getD j 0))) := by
  obtain ⟨fuel, hf⟩ := h
  rcases Deep.open_slice ht hf with ⟨hcs, hx⟩ | ⟨a', len', cap', m, n, D, Pl, hcs, _, hl, hm, hmm, hx, hel⟩
  · simp [Value.cells] at hcs
    obtain ⟨rfl, rfl, rfl⟩ := hcs
    exact ⟨Nat.le_refl _, (by unfold maxLen; omega), (fun _ => rfl), [], by simp, (fun _ h => (List.not_mem_nil h).elim), fun h => absurd h (by omega)⟩
  · simp [Value.cells] at hcs
    obtain ⟨rfl, rfl, rfl⟩ := hcs
    simp only [Prod.mk.injEq] at hx
    obtain ⟨rfl, rfl⟩ := hx
    simp only [if_true] at hmm
    subst hmm
    rw [hc] at hel hlt
    have each : ∀ j, j < len * q → ∃ z : Int, W.cell? (a'.add j) = some (.int k z) ∧ (Lit.int k z).wf = true := by
      intro j hj
      have hi : j / q < len := Nat.div_lt_of_lt_mul (by rwa [Nat.mul_comm])
      have hr : j % q < q := Nat.mod_lt _ hq
      obtain ⟨cs', h1, h2⟩ := hel (j / q) (by omega)
      obtain ⟨_, hlen, hcell⟩ := World.cells?_some h1
      obtain ⟨xs, f, _, _, _, hxl, hxs⟩ := DataW.trod_array he h2
      have hx1 := hxs (j % q) hr
      rw [hc', Nat.mul_one, List.getElem?_eq_getElem (by omega)] at hx1
      obtain ⟨z, hz, _, hw⟩ := DataW.trod_int he' hx1
      refine ⟨z, ?_, hw⟩
      have h3 := hcell (j % q) hr
      rw [Deep.add_add, Nat.mul_comm, Nat.div_add_mod] at h3
      rw [h3]
      have h4 := congrArg (·[0]?) hz
      simpa using h4
    obtain ⟨f, hfz⟩ := Deep.choose_lt each
    have hg : ∀ j, j < len * q → ((List.range (len * q)).map f).getD j 0 = f j := fun j hj => by simp [List.getD, hj]
    refine ⟨hl, hm, (fun e => by cases e), (List.range (len * q)).map f, by simp, fun z hz => ?_, fun hn => ?_⟩
    · obtain ⟨j, hj, rfl⟩ := List.mem_map.1 hz
      exact (hfz j (List.mem_range.1 hj)).2
    · have hn' : 0 < len * q := Nat.mul_pos hn hq
      obtain ⟨b, off, spot⟩ := a'
      have hspot : spot = none := by simpa [Addr.add] using World.cell?_spot (hfz 0 hn').1
      subst hspot
      have hcap := Nat.mul_pos (Nat.lt_of_lt_of_le hn hl) hq
      refine ⟨b, off, rfl, hlt (.cell b off) (List.mem_append_left _ (MemPlace.mem_row.2 ⟨0, hcap, by simp⟩)), fun j hj => ?_⟩
      rw [← add_flat, (hfz j hj).1, hg j hj]
/-- .. of bytes. -/
theorem by_of_ints {W : World} {a : Option Addr} {n : Nat} {zs : List Int} (hz : zs.length = n) (hw : ∀ z ∈ zs, (Lit.int .u8 z).wf = true)
    (hc : 0 < n → ∃ b off, a = some ⟨b, off, none⟩ ∧ b < W.heap.size ∧ ∀ j, j < n → W.cell? ⟨b, off + j, none⟩ = some (.int .u8 (zs.getD j 0))) :
    ∃ bs : List Nat, bs.length = n ∧ By W W.heap.size a bs := by
  refine ⟨zs.map Int.toNat, by rw [List.length_map, hz], ⟨fun x hx => ?_, fun hn => ?_⟩⟩
  · obtain ⟨z, hz', rfl⟩ := List.mem_map.1 hx
    have := u8_range (hw z hz')
    omega
  · rw [List.length_map, hz] at hn
    obtain ⟨b, off, e, hb, hcell⟩ := hc hn
    refine ⟨b, off, e, hb, fun j hj => ?_⟩
    rw [List.length_map, hz] at hj
    have hj' : j < zs.length := by omega
    rw [hcell j hj]
    have e1 : zs.getD j 0 = zs[j] := by simp [List.getD, hj']
    have e2 : (zs.map Int.toNat).getD j 0 = zs[j].toNat := by simp [List.getD, hj']
    have := u8_range (hw _ (List.getElem_mem hj'))
    rw [e1, e2, Int.toNat_of_nonneg this.1]
end Go.Proofs.Ytaokhbodmodcgaa
end

section
/-
  From a contract to the row: a name, a record that came in.
-/
namespace Go.Proofs.Ytaokhbodmodcgaa
open Go.ChangeShapes Go.WideShapes Go.ChangeAt Go.RowKit
set_option maxRecDepth 100000

theorem at_one {l : List Value} {i : Nat} {v : Value} (h : (l.drop i).take 1 = [v]) : l[i]? = some v := by
  have h1 := congrArg (fun m => m[0]?) h
  simpa [List.getElem?_take, List.getElem?_drop] using h1
theorem i8_range {n : Int} (h : (Lit.int .i8 n).wf = true) : -128 ≤ n ∧ n ≤ 127 := by
  have h1 : IntKind.i8.min = -128 := rfl
  have h2 : IntKind.i8.max = 127 := rfl
  simp only [Lit.wf, Bool.and_eq_true, decide_eq_true_eq] at h
  omega
section
variable {H : Type} {enc : TypeId × Value → H} {W : World} {fuel : Nat} {cs : List Value} {x : DataW H × List MemPlace}
theorem trod_bool_ {P : Program} {t : TypeId} (ht : P.underlying t = some .bool) (h : DataW.trod enc P W 0 (fun _ => true) true fuel t cs = some x) : ∃ b, cs = [.bool b] := by
  cases fuel with
  | zero => simp [DataW.trod] at h
  | succ m =>
    unfold DataW.trod at h
    rw [ht] at h
    split at h <;> simp_all
theorem i64_of {n : Int} (h : (Lit.int .i64 n).wf = true) : I64 n := i64_range h
theorem name_cells (hlen : cs.length = 3) (h : DataW.trod enc Try.prog W 0 (fun _ => true) true fuel 24 cs = some x) : ∃ n : Nm, cs = nmv n ∧ n.Fine := by
  obtain ⟨xs, m, _, hx, _, hl, hg⟩ := DataW.trod_struct Try.underlying24 h
  have hl3 : xs.length = 3 := hl
  have g0 : DataW.trod enc Try.prog W 0 (fun _ => true) true m 3 ((cs.drop 0).take (Try.prog.cellsOf 3)) = xs[0]? := hg 0 _ rfl
  have g1 : DataW.trod enc Try.prog W 0 (fun _ => true) true m 3 ((cs.drop 1).take (Try.prog.cellsOf 3)) = xs[1]? := hg 1 _ rfl
  have g2 : DataW.trod enc Try.prog W 0 (fun _ => true) true m 3 ((cs.drop 2).take (Try.prog.cellsOf 3)) = xs[2]? := hg 2 _ rfl
  rw [Try.cells3, List.getElem?_eq_getElem (by omega)] at g0 g1 g2
  obtain ⟨z0, a0, _, r0⟩ := DataW.trod_int Try.underlying3 g0
  obtain ⟨z1, a1, _, r1⟩ := DataW.trod_int Try.underlying3 g1
  obtain ⟨z2, a2, _, r2⟩ := DataW.trod_int Try.underlying3 g2
  have b0 := at_one a0
  have b1 := at_one a1
  have b2 := at_one a2
  refine ⟨⟨z0, z1, z2⟩, ?_, ⟨i64_of r0, i64_of r1, i64_of r2⟩⟩
  match cs, hlen with
  | [u0, u1, u2], _ =>
    simp only [List.getElem?_cons_zero, List.getElem?_cons_succ, Option.some.injEq] at b0 b1 b2
    rw [b0, b1, b2]; rfl
theorem change_cells (hlen : cs.length = 2) (h : DataW.trod enc Try.prog W 0 (fun _ => true) true fuel 27 cs = some x) : ∃ s t : Int, cs = [.int .i64 s, .int .i64 t] ∧ I64 s ∧ I64 t := by
  obtain ⟨xs, m, _, hx, _, hl, hg⟩ := DataW.trod_struct Try.underlying27 h
  have hl2 : xs.length = 2 := hl
  have g0 : DataW.trod enc Try.prog W 0 (fun _ => true) true m 3 ((cs.drop 0).take (Try.prog.cellsOf 3)) = xs[0]? := hg 0 _ rfl
  have g1 : DataW.trod enc Try.prog W 0 (fun _ => true) true m 3 ((cs.drop 1).take (Try.prog.cellsOf 3)) = xs[1]? := hg 1 _ rfl
  rw [Try.cells3, List.getElem?_eq_getElem (by omega)] at g0 g1
  obtain ⟨z0, a0, _, r0⟩ := DataW.trod_int Try.underlying3 g0
  obtain ⟨z1, a1, _, r1⟩ := DataW.trod_int Try.underlying3 g1
  have b0 := at_one a0
  have b1 := at_one a1
  refine ⟨z0, z1, ?_, i64_of r0, i64_of r1⟩
  match cs, hlen with
  | [u0, u1], _ =>
    simp only [List.getElem?_cons_zero, List.getElem?_cons_succ, Option.some.injEq] at b0 b1
    rw [b0, b1]
theorem value_cells (hlen : cs.length = 8) (h : DataW.trod enc Try.prog W 0 (fun _ => true) true fuel 66 cs = some x) : ∃ vs : List Nat, cs = vals vs ∧ vs.length = 8 ∧ ∀ y ∈ vs, y < 256 := by
  obtain ⟨xs, m, _, hx, _, hl, hg⟩ := DataW.trod_array Try.underlying66 h
  have each : ∀ j, j < 8 → ∃ z : Int, cs[j]? = some (.int .u8 z) ∧ (Lit.int .u8 z).wf = true := by
    intro j hj
    have hx1 := hg j hj
    rw [Try.cells5, Nat.mul_one, List.getElem?_eq_getElem (by omega)] at hx1
    obtain ⟨z, hz, _, hw⟩ := DataW.trod_int Try.underlying5 hx1
    exact ⟨z, at_one hz, hw⟩
  obtain ⟨f, hf⟩ := Deep.choose_lt each
  refine ⟨(List.range 8).map fun j => (f j).toNat, ?_, by simp, fun y hy => ?_⟩
  · refine List.ext_getElem? fun j => ?_
    unfold vals
    rcases Nat.lt_or_ge j 8 with hj | hj
    · obtain ⟨h1, h2⟩ := hf j hj
      have := u8_range h2
      rw [h1]
      simp [hj, Int.toNat_of_nonneg this.1]
    · rw [List.getElem?_eq_none (by omega), List.getElem?_eq_none (by simp; omega)]
  · obtain ⟨j, hj, rfl⟩ := List.mem_map.1 hy
    have := u8_range (hf j (List.mem_range.1 hj)).2
    omega
theorem write_cells (hlen : cs.length = 9) (h : DataW.trod enc Try.prog W 0 (fun _ => true) true fuel 68 cs = some x) : ∃ y : Int × List Nat, cs = wrv y ∧ I64 y.1 ∧ y.2.length = 8 ∧ ∀ z ∈ y.2, z < 256 := by
  obtain ⟨xs, m, _, hx, _, hl, hg⟩ := DataW.trod_struct Try.underlying68 h
  have hl2 : xs.length = 2 := hl
  have hc8 : Try.prog.cellsOf 66 = 8 := by kernel_rfl
  have g0 : DataW.trod enc Try.prog W 0 (fun _ => true) true m 3 ((cs.drop 0).take (Try.prog.cellsOf 3)) = xs[0]? := hg 0 _ rfl
  have g1 : DataW.trod enc Try.prog W 0 (fun _ => true) true m 66 ((cs.drop 1).take (Try.prog.cellsOf 66)) = xs[1]? := hg 1 _ rfl
  rw [Try.cells3, List.getElem?_eq_getElem (by omega)] at g0
  rw [hc8, List.getElem?_eq_getElem (by omega)] at g1
  obtain ⟨z0, a0, _, r0⟩ := DataW.trod_int Try.underlying3 g0
  obtain ⟨vs, hv, hv8, hvb⟩ := value_cells (by simp; omega) g1
  have b0 := at_one a0
  refine ⟨(z0, vs), ?_, i64_of r0, hv8, hvb⟩
  match cs, hlen with
  | u0 :: r, hlen =>
    simp only [List.getElem?_cons_zero, Option.some.injEq] at b0
    rw [b0]
    simp only [List.drop_succ_cons, List.drop_zero] at hv
    rw [List.take_of_length_le (by simp at hlen; omega)] at hv
    rw [hv]; rfl
theorem writes_cells {a : Option Addr} {len cap : Nat} {d : DataW H} {p : List MemPlace} (h : DataW.trod enc Try.prog W 0 (fun _ => true) true fuel 25 [.slice a len cap] = some (d, p)) (hlt : ∀ x ∈ p, x.block < W.heap.size) :
    ∃ l : List (Int × List Nat), l.length = len ∧ WrsV W (fun _ => True) a cap l ∧ WrFine l := by
  rcases Deep.open_slice Try.underlying25 h with ⟨hcs, hx⟩ | ⟨a', len', cap', m, n, D, Pl, hcs, _, hl, hm, hmm, hx, hel⟩
  · simp at hcs
    obtain ⟨rfl, rfl, rfl⟩ := hcs
    exact ⟨[], rfl, WrsV.nil_, fun x hx => (List.not_mem_nil hx).elim⟩
  · simp at hcs
    obtain ⟨rfl, rfl, rfl⟩ := hcs
    simp only [Prod.mk.injEq] at hx
    obtain ⟨rfl, rfl⟩ := hx
    simp only [if_true] at hmm
    subst hmm
    have hc9 : Try.prog.cellsOf 68 = 9 := by kernel_rfl
    rw [hc9] at hel hlt
    have each : ∀ i, i < len → ∃ y : Int × List Nat, (∀ j u, (wrv y)[j]? = some u → W.cell? (a'.add (i * 9 + j)) = some u) ∧ I64 y.1 ∧ y.2.length = 8 ∧ ∀ z ∈ y.2, z < 256 := by
      intro i hi
      obtain ⟨cs', h1, h2⟩ := hel i (by omega)
      obtain ⟨_, hlen, hcell⟩ := World.cells?_some h1
      obtain ⟨y, rfl, hy⟩ := write_cells hlen h2
      refine ⟨y, fun j u hu => ?_, hy⟩
      have hj := (List.getElem?_eq_some_iff.1 hu).1
      have := hcell j (by rw [hlen] at hj; exact hj)
      rw [Deep.add_add] at this
      rw [this]
      exact hu
    obtain ⟨f, hfz⟩ := Deep.choose_lt each
    refine ⟨(List.range len).map f, by simp, ⟨fun hn => ?_, by simpa using hl, hm, fun e => by cases e⟩, fun x hx => ?_⟩
    · have hn' : 0 < len := by simpa using hn
      obtain ⟨b, off, spot⟩ := a'
      have hspot : spot = none := by
        have h0 := (hfz 0 hn').1 0 (.int .i64 (f 0).1) rfl
        simpa [Addr.add] using World.cell?_spot h0
      subst hspot
      refine ⟨b, off, rfl, ⟨trivial, hlt (.cell b off) (List.mem_append_left _ (MemPlace.mem_row.2 ⟨0, by omega, by simp⟩))⟩, fun i hi j u hu => ?_⟩
      have hi' : i < len := by simpa using hi
      have := (hfz i hi').1 j u (by simpa using hu)
      rw [add_flat] at this
      rw [Nat.add_assoc]
      exact this
    · obtain ⟨j, hj, rfl⟩ := List.mem_map.1 hx
      exact (hfz j (List.mem_range.1 hj)).2
end
/-- a name that came in -/
theorem open_name {H : Type} {enc : TypeId × Value → H} {W : World} {base : Nat} {v : Value} {d : DataW H} {p : List MemPlace} (hv : Value.okWide Try.prog W .any base 24 v)
    (h : DataW.Trod enc Try.prog W 0 (fun _ => true) true 24 v d p) : ∃ n : Nm, v = .agg (nmv n).toArray ∧ n.Fine := by
  obtain ⟨cs, rfl, hsz⟩ := okWide_struct Try.underlying24 hv
  have h3 : Try.prog.cellsOf 24 = 3 := by kernel_rfl
  rw [h3] at hsz
  obtain ⟨fuel, hf⟩ := h
  obtain ⟨n, e, hn⟩ := name_cells (cs := cs.toList) (by simpa using hsz) hf
  exact ⟨n, by rw [← (show cs.toList = nmv n from e)], hn⟩
theorem ways12 (i : Nat) : i = 0 ∨ i = 1 ∨ i = 2 ∨ i = 3 ∨ i = 4 ∨ i = 5 ∨ i = 6 ∨ i = 7 ∨ i = 8 ∨ i = 9 ∨ i = 10 ∨ i = 11 ∨ 12 ≤ i := by omega
/-- a record that came in -/
theorem open_record {H : Type} {enc : TypeId × Value → H} {W : World} {base : Nat} {v : Value} {d : DataW H} {p : List MemPlace} (hv : Value.okWide Try.prog W .any base 29 v)
    (h : DataW.Trod enc Try.prog W 0 (fun _ => true) true 29 v d p) (hl : ∀ x ∈ p, x.block < W.heap.size) : ∃ A c r, v = .agg (recv A c r).toArray ∧ WrsV W (fun _ => True) A c r.writes ∧ r.Fine := by
  obtain ⟨cs, rfl, hsz⟩ := okWide_struct Try.underlying29 hv
  have h12 : Try.prog.cellsOf 29 = 12 := by kernel_rfl
  have k1 : Try.prog.cellsOf 22 = 1 := by kernel_rfl
  have k2 : Try.prog.cellsOf 24 = 3 := by kernel_rfl
  have k3 : Try.prog.cellsOf 4 = 1 := by kernel_rfl
  have k4 : Try.prog.cellsOf 25 = 1 := by kernel_rfl
  have k5 : Try.prog.cellsOf 27 = 2 := by kernel_rfl
  rw [h12] at hsz
  have hsl : cs.toList.length = 12 := by simpa using hsz
  obtain ⟨fuel, hf⟩ := h
  obtain ⟨xs, n, _, hx, _, hlen, hg⟩ := DataW.trod_struct Try.underlying29 hf
  have hlen9 : xs.length = 9 := hlen
  simp only [Prod.mk.injEq] at hx
  have g0 : DataW.trod enc Try.prog W 0 (fun _ => true) true n 22 ((cs.toList.drop 0).take (Try.prog.cellsOf 22)) = xs[0]? := hg 0 _ rfl
  have g1 : DataW.trod enc Try.prog W 0 (fun _ => true) true n 24 ((cs.toList.drop 1).take (Try.prog.cellsOf 24)) = xs[1]? := hg 1 _ rfl
  have g2 : DataW.trod enc Try.prog W 0 (fun _ => true) true n 4 ((cs.toList.drop 4).take (Try.prog.cellsOf 4)) = xs[2]? := hg 2 _ rfl
  have g3 : DataW.trod enc Try.prog W 0 (fun _ => true) true n 25 ((cs.toList.drop 5).take (Try.prog.cellsOf 25)) = xs[3]? := hg 3 _ rfl
  have g4 : DataW.trod enc Try.prog W 0 (fun _ => true) true n 3 ((cs.toList.drop 6).take (Try.prog.cellsOf 3)) = xs[4]? := hg 4 _ rfl
  have g5 : DataW.trod enc Try.prog W 0 (fun _ => true) true n 3 ((cs.toList.drop 7).take (Try.prog.cellsOf 3)) = xs[5]? := hg 5 _ rfl
  have g6 : DataW.trod enc Try.prog W 0 (fun _ => true) true n 3 ((cs.toList.drop 8).take (Try.prog.cellsOf 3)) = xs[6]? := hg 6 _ rfl
  have g7 : DataW.trod enc Try.prog W 0 (fun _ => true) true n 27 ((cs.toList.drop 9).take (Try.prog.cellsOf 27)) = xs[7]? := hg 7 _ rfl
  have g8 : DataW.trod enc Try.prog W 0 (fun _ => true) true n 3 ((cs.toList.drop 11).take (Try.prog.cellsOf 3)) = xs[8]? := hg 8 _ rfl
  rw [k1] at g0
  rw [k2] at g1
  rw [k3] at g2
  rw [k4] at g3
  rw [k5] at g7
  rw [Try.cells3] at g4 g5 g6 g8
  rw [List.getElem?_eq_getElem (by omega)] at g0 g1 g2 g3 g4 g5 g6 g7 g8
  obtain ⟨z0, a0, _, r0⟩ := DataW.trod_int Try.underlying22 g0
  obtain ⟨nm, a1, hnm⟩ := name_cells (by rw [List.length_take, List.length_drop]; omega) g1
  obtain ⟨y, a2⟩ := trod_bool_ Try.underlying4 g2
  obtain ⟨z4, a4, _, r4⟩ := DataW.trod_int Try.underlying3 g4
  obtain ⟨z5, a5, _, r5⟩ := DataW.trod_int Try.underlying3 g5
  obtain ⟨z6, a6, _, r6⟩ := DataW.trod_int Try.underlying3 g6
  obtain ⟨s, t, a7, hs, ht⟩ := change_cells (by rw [List.length_take, List.length_drop]; omega) g7
  obtain ⟨z8, a8, _, r8⟩ := DataW.trod_int Try.underlying3 g8
  have hmem : ∀ x ∈ (xs[3]'(by omega)).2, x.block < W.heap.size := fun x hxm => hl x (by rw [hx.2]; exact List.mem_flatMap.2 ⟨xs[3], List.getElem_mem _, hxm⟩)
  have hsv : ∃ A len c, (cs.toList.drop 5).take 1 = [.slice A len c] := by
    rcases DataW.trod_slice Try.underlying25 g3 with ⟨hcs, _⟩ | ⟨a, len, cap, _, _, _, _, hcs, _⟩
    · exact ⟨_, _, _, hcs⟩
    · exact ⟨_, _, _, hcs⟩
  obtain ⟨A, len, c, a3⟩ := hsv
  rw [a3] at g3
  obtain ⟨l, rfl, hwv, hwf⟩ := writes_cells (d := (xs[3]'(by omega)).1) (p := (xs[3]'(by omega)).2) g3 hmem
  refine ⟨A, c, ⟨z0, nm, y, l, z4, z5, z6, s, t, z8⟩, ?_, hwv, ⟨i8_range r0, hnm, hwf, i64_of r4, i64_of r5, i64_of r6, hs, ht, i64_of r8⟩⟩
  have b0 := at_one a0
  have b2 := at_one a2
  have b3 := at_one a3
  have b4 := at_one a4
  have b5 := at_one a5
  have b6 := at_one a6
  have b8 := at_one a8
  have at_many : ∀ (i k : Nat) (ys : List Value) (j : Nat) (u : Value), (cs.toList.drop i).take k = ys → ys[j]? = some u → cs.toList[i + j]? = some u := fun i k ys j u h1 h2 => by
    rw [← h1, List.getElem?_take] at h2
    split at h2
    · rwa [List.getElem?_drop] at h2
    · cases h2
  have hcs : cs.toList = recv A c ⟨z0, nm, y, l, z4, z5, z6, s, t, z8⟩ := by
    refine List.ext_getElem? fun i => ?_
    unfold recv
    rcases ways12 i with rfl | rfl | rfl | rfl | rfl | rfl | rfl | rfl | rfl | rfl | rfl | rfl | hi
    · exact b0
    · exact at_many 1 3 _ 0 _ a1 rfl
    · exact at_many 1 3 _ 1 _ a1 rfl
    · exact at_many 1 3 _ 2 _ a1 rfl
    · exact b2
    · exact b3
    · exact b4
    · exact b5
    · exact b6
    · exact at_many 9 2 _ 0 _ a7 rfl
    · exact at_many 9 2 _ 1 _ a7 rfl
    · exact b8
    · rw [List.getElem?_eq_none (by omega), List.getElem?_eq_none (by simp; omega)]
  rw [← hcs]
end Go.Proofs.Ytaokhbodmodcgaa
end

section
/-
  The law of what record's calls tell, over contracts.
-/
namespace Go.Proofs.Ytaokhbodmodcgaa
open Go.RowKit
set_option maxRecDepth 100000

structure Calls7 : Prop where
  may : MaySays
  named : NamedSays
  written : WrittenSays
  same : SameSays
  less : LessSays
  bytes : BytesSays
  sectors : SectorsSays
  read : ReadSays
def SS (k : Nat) (A B : Option Addr) (c d : Nat) (rk r0 r1 r2 rg rt rs rp rq rn : Int) (ry : Bool) (rl : List (Int × List Nat)) (ok o0 o1 o2 og ot os op oq on : Int) (oy : Bool) (ol : List (Int × List Nat)) (va vb : Value) (bs : List Nat) (w1 : World) (W : World) : Prop :=
  W.cell? ⟨k, 0, none⟩ = some (.int .i8 rk) ∧ W.cell? ⟨k, 1, none⟩ = some (.int .i64 r0) ∧ W.cell? ⟨k, 2, none⟩ = some (.int .i64 r1) ∧ W.cell? ⟨k, 3, none⟩ = some (.int .i64 r2) ∧ W.cell? ⟨k, 4, none⟩ = some (.bool ry) ∧ W.cell? ⟨k, 5, none⟩ = some (.slice A rl.length c) ∧ W.cell? ⟨k, 6, none⟩ = some (.int .i64 rg) ∧ W.cell? ⟨k, 7, none⟩ = some (.int .i64 rt) ∧ W.cell? ⟨k, 8, none⟩ = some (.int .i64 rs) ∧ W.cell? ⟨k, 9, none⟩ = some (.int .i64 rp) ∧ W.cell? ⟨k, 10, none⟩ = some (.int .i64 rq) ∧ W.cell? ⟨k, 11, none⟩ = some (.int .i64 rn) ∧ W.cell? ⟨k + 1, 0, none⟩ = some (.int .i8 ok) ∧ W.cell? ⟨k + 1, 1, none⟩ = some (.int .i64 o0) ∧ W.cell? ⟨k + 1, 2, none⟩ = some (.int .i64 o1) ∧ W.cell? ⟨k + 1, 3, none⟩ = some (.int .i64 o2) ∧ W.cell? ⟨k + 1, 4, none⟩ = some (.bool oy) ∧ W.cell? ⟨k + 1, 5, none⟩ = some (.slice B ol.length d) ∧ W.cell? ⟨k + 1, 6, none⟩ = some (.int .i64 og) ∧ W.cell? ⟨k + 1, 7, none⟩ = some (.int .i64 ot) ∧ W.cell? ⟨k + 1, 8, none⟩ = some (.int .i64 os) ∧ W.cell? ⟨k + 1, 9, none⟩ = some (.int .i64 op) ∧ W.cell? ⟨k + 1, 10, none⟩ = some (.int .i64 oq) ∧ W.cell? ⟨k + 1, 11, none⟩ = some (.int .i64 on) ∧ (convert 32 9 va).run Try.prog W = .ok (.string (str bs)) W ∧ (convert 32 9 vb).run Try.prog W = .ok (.string (str bs)) W ∧ W.heap[k]? = some (.cells #[.int .i8 rk, .int .i64 r0, .int .i64 r1, .int .i64 r2, .bool ry, .slice A rl.length c, .int .i64 rg, .int .i64 rt, .int .i64 rs, .int .i64 rp, .int .i64 rq, .int .i64 rn] 29 (0, 0)) ∧ W.heap[k + 1]? = some (.cells #[.int .i8 ok, .int .i64 o0, .int .i64 o1, .int .i64 o2, .bool oy, .slice B ol.length d, .int .i64 og, .int .i64 ot, .int .i64 os, .int .i64 op, .int .i64 oq, .int .i64 on] 29 (0, 0)) ∧ StrAt W va bs ∧ StrAt W vb bs ∧ Below w1.heap.size w1 W
theorem SS.of {k : Nat} {A B : Option Addr} {c d : Nat} {rk r0 r1 r2 rg rt rs rp rq rn : Int} {ry : Bool} {rl : List (Int × List Nat)} {ok o0 o1 o2 og ot os op oq on : Int} {oy : Bool} {ol : List (Int × List Nat)} {va vb : Value} {bs : List Nat} {w1 W : World} (gr : W.heap[k]? = some (.cells #[.int .i8 rk, .int .i64 r0, .int .i64 r1, .int .i64 r2, .bool ry, .slice A rl.length c, .int .i64 rg, .int .i64 rt, .int .i64 rs, .int .i64 rp, .int .i64 rq, .int .i64 rn] 29 (0, 0))) (go : W.heap[k + 1]? = some (.cells #[.int .i8 ok, .int .i64 o0, .int .i64 o1, .int .i64 o2, .bool oy, .slice B ol.length d, .int .i64 og, .int .i64 ot, .int .i64 os, .int .i64 op, .int .i64 oq, .int .i64 on] 29 (0, 0))) (ha : StrAt W va bs) (hb : StrAt W vb bs) (hl : Below w1.heap.size w1 W) : SS k A B c d rk r0 r1 r2 rg rt rs rp rq rn ry rl ok o0 o1 o2 og ot os op oq on oy ol va vb bs w1 W := by
  have qr := row_lit (cs := (#[.int .i8 rk, .int .i64 r0, .int .i64 r1, .int .i64 r2, .bool ry, .slice A rl.length c, .int .i64 rg, .int .i64 rt, .int .i64 rs, .int .i64 rp, .int .i64 rq, .int .i64 rn] : Array Value).toList) gr
  have qo := row_lit (cs := (#[.int .i8 ok, .int .i64 o0, .int .i64 o1, .int .i64 o2, .bool oy, .slice B ol.length d, .int .i64 og, .int .i64 ot, .int .i64 os, .int .i64 op, .int .i64 oq, .int .i64 on] : Array Value).toList) go
  exact ⟨qr 0 _ rfl, qr 1 _ rfl, qr 2 _ rfl, qr 3 _ rfl, qr 4 _ rfl, qr 5 _ rfl, qr 6 _ rfl, qr 7 _ rfl, qr 8 _ rfl, qr 9 _ rfl, qr 10 _ rfl, qr 11 _ rfl, qo 0 _ rfl, qo 1 _ rfl, qo 2 _ rfl, qo 3 _ rfl, qo 4 _ rfl, qo 5 _ rfl, qo 6 _ rfl, qo 7 _ rfl, qo 8 _ rfl, qo 9 _ rfl, qo 10 _ rfl, qo 11 _ rfl, ha.here, hb.here, gr, go, ha, hb, hl⟩
theorem SS.ends {k : Nat} {A B : Option Addr} {c d : Nat} {rk r0 r1 r2 rg rt rs rp rq rn : Int} {ry : Bool} {rl : List (Int × List Nat)} {ok o0 o1 o2 og ot os op oq on : Int} {oy : Bool} {ol : List (Int × List Nat)} {va vb : Value} {bs : List Nat} {w1 W : World} (h : SS k A B c d rk r0 r1 r2 rg rt rs rp rq rn ry rl ok o0 o1 o2 og ot os op oq on oy ol va vb bs w1 W) : W.heap[k]? = some (.cells #[.int .i8 rk, .int .i64 r0, .int .i64 r1, .int .i64 r2, .bool ry, .slice A rl.length c, .int .i64 rg, .int .i64 rt, .int .i64 rs, .int .i64 rp, .int .i64 rq, .int .i64 rn] 29 (0, 0)) ∧ W.heap[k + 1]? = some (.cells #[.int .i8 ok, .int .i64 o0, .int .i64 o1, .int .i64 o2, .bool oy, .slice B ol.length d, .int .i64 og, .int .i64 ot, .int .i64 os, .int .i64 op, .int .i64 oq, .int .i64 on] 29 (0, 0)) ∧ StrAt W va bs ∧ StrAt W vb bs ∧ Below w1.heap.size w1 W := by
  obtain ⟨_, _, _, _, _, _, _, _, _, _, _, _, _, _, _, _, _, _, _, _, _, _, _, _, _, _, h1, h2, h3, h4, h5⟩ := h
  exact ⟨h1, h2, h3, h4, h5⟩
theorem SS.below {k : Nat} {A B : Option Addr} {c d : Nat} {rk r0 r1 r2 rg rt rs rp rq rn : Int} {ry : Bool} {rl : List (Int × List Nat)} {ok o0 o1 o2 og ot os op oq on : Int} {oy : Bool} {ol : List (Int × List Nat)} {va vb : Value} {bs : List Nat} {w1 W : World} {W' : World} (h : SS k A B c d rk r0 r1 r2 rg rt rs rp rq rn ry rl ok o0 o1 o2 og ot os op oq on oy ol va vb bs w1 W) (hb : Below W.heap.size W W') : SS k A B c d rk r0 r1 r2 rg rt rs rp rq rn ry rl ok o0 o1 o2 og ot os op oq on oy ol va vb bs w1 W' := by
  obtain ⟨h1, h2, h3, h4, h5⟩ := h.ends
  exact SS.of ((hb.block _ (Array.getElem?_eq_some_iff.1 h1).1).trans h1) ((hb.block _ (Array.getElem?_eq_some_iff.1 h2).1).trans h2) (h3.later hb) (h4.later hb) (h5.trans (hb.mono h5.size))
theorem SS.drew {k : Nat} {A B : Option Addr} {c d : Nat} {rk r0 r1 r2 rg rt rs rp rq rn : Int} {ry : Bool} {rl : List (Int × List Nat)} {ok o0 o1 o2 og ot os op oq on : Int} {oy : Bool} {ol : List (Int × List Nat)} {va vb : Value} {bs : List Nat} {w1 W : World} (h : SS k A B c d rk r0 r1 r2 rg rt rs rp rq rn ry rl ok o0 o1 o2 og ot os op oq on oy ol va vb bs w1 W) : SS k A B c d rk r0 r1 r2 rg rt rs rp rq rn ry rl ok o0 o1 o2 og ot os op oq on oy ol va vb bs w1 W.drew := h.below (Below.refl _ W).drew
theorem SS.low {k : Nat} {A B : Option Addr} {c d : Nat} {rk r0 r1 r2 rg rt rs rp rq rn : Int} {ry : Bool} {rl : List (Int × List Nat)} {ok o0 o1 o2 og ot os op oq on : Int} {oy : Bool} {ol : List (Int × List Nat)} {va vb : Value} {bs : List Nat} {w1 W : World} (h : SS k A B c d rk r0 r1 r2 rg rt rs rp rq rn ry rl ok o0 o1 o2 og ot os op oq on oy ol va vb bs w1 W) : Below w1.heap.size w1 W := h.ends.2.2.2.2
set_option maxHeartbeats 20000000 in
theorem tells_few (hC : Calls7) (hW : WakesSays7) (r o : Rc) (A B : Option Addr) (c d : Nat) (w : World) (hr : RcAt w A c r) (ho : RcAt w B d o) :
    Calls Try.prog 3 #[.agg (recv A c r).toArray, .agg (recv B d o).toArray] w fun e w' => e = .returned (.bool true) ∧ Below w.heap.size w w' := by
  have HWk := Lib.hid hW
  obtain ⟨w1, hw1⟩ : ∃ w1, w1 = (w.alloc (.cells (recv A c r).toArray 29)).alloc (.cells (recv B d o).toArray 29) := ⟨_, rfl⟩
  have hb1 : Below w.heap.size w w1 := by rw [hw1]; exact ((Below.refl w.heap.size w).alloc (Nat.le_refl _) _).alloc (by simp) _
  have hz1 : w1.heap.size = w.heap.size + 2 := by rw [hw1]; simp
  have gr : w1.heap[w.heap.size]? = some (.cells (recv A c r).toArray 29 (0, 0)) := by rw [hw1]; exact heap_alloc2_old w _ _
  have go : w1.heap[w.heap.size + 1]? = some (.cells (recv B d o).toArray 29 (0, 0)) := by rw [hw1]; exact heap_alloc2_new w _ _
  have HG := Lib.hid (show ∀ W, Below w1.heap.size w1 W → W.heap[w.heap.size]? = some (.cells (recv A c r).toArray 29 (0, 0)) ∧ W.heap[w.heap.size + 1]? = some (.cells (recv B d o).toArray 29 (0, 0)) from fun W hW => ⟨(hW.block _ (by omega)).trans gr, (hW.block _ (by omega)).trans go⟩)
  have HRr := Lib.hid (show ∀ W, Below w1.heap.size w1 W → RcAt W A c r from fun W hW => (hr.below hb1).below hW)
  have HRo := Lib.hid (show ∀ W, Below w1.heap.size w1 W → RcAt W B d o from fun W hW => (ho.below hb1).below hW)
  have D1 := Lib.hid (fun W (hW : Below w1.heap.size w1 W) => great_any r A c W)
  have D2 := Lib.hid (fun W (hW : Below w1.heap.size w1 W) => great_any o B d W)
  have B1 := Lib.hid (fun W (hW : Below w1.heap.size w1 W) => hC.bytes r A c W (HRr.out W hW))
  have B2 := Lib.hid (fun W (hW : Below w1.heap.size w1 W) => bytes_any r A c W _ (HRr.out W hW).wrs.at_ hr.fine.writes (Nat.le_trans hr.few (by omega)) hr.fine.shards)
  have C1 := Lib.hid (fun W (hW : Below w1.heap.size w1 W) => hC.sectors r A c W (HRr.out W hW))
  have C2 := Lib.hid (fun W (hW : Below w1.heap.size w1 W) => sectors_any r A c W _ (HRr.out W hW).wrs.at_ hr.fine.writes (Nat.le_trans hr.few (by omega)) hr.fine.shards)
  have E1 := Lib.hid (fun W (hW : Below w1.heap.size w1 W) => hC.may r A c W (HRr.out W hW))
  have E2 := Lib.hid (fun W (hW : Below w1.heap.size w1 W) => may_any r A c W _ (HRr.out W hW).wrs.at_ hr.fine.writes (Nat.le_trans hr.few (by omega)) hr.fine.shards)
  have F1 := Lib.hid (fun W => hC.named r.name W hr.fine.name)
  have F2 := Lib.hid (fun W => named_any r.name W)
  have G1 := Lib.hid (fun W (hW : Below w1.heap.size w1 W) => hC.written r.writes A c W (HRr.out W hW).wrs hr.fine.writes hr.few)
  have G2 := Lib.hid (fun W (hW : Below w1.heap.size w1 W) => written_any r.writes A c W _ (HRr.out W hW).wrs.at_ (Nat.le_trans hr.few (by omega)))
  have I1 := Lib.hid (fun W (hW : Below w1.heap.size w1 W) => hC.same r o A B c d W (HRr.out W hW) (HRo.out W hW))
  have I2 := Lib.hid (fun W (hW : Below w1.heap.size w1 W) => same_any r o A B c d W _ _ (HRr.out W hW).wrs.at_ (HRo.out W hW).wrs.at_ hr.fine.writes ho.fine.writes (Nat.le_trans hr.few (by omega)) (Nat.le_trans ho.few (by omega)))
  have J1 := Lib.hid (fun W => hC.less r.name o.name W hr.fine.name ho.fine.name)
  have J2 := Lib.hid (fun W => less_any r.name o.name W)
  have n1 : decide ((r.writes.length : Int) > 40) = false := decide_eq_false (by have := hr.few; omega)
  have n2 : decide ((o.writes.length : Int) > 40) = false := decide_eq_false (by have := ho.few; omega)
  rw [n1] at D1
  rw [n2] at D2
  have HLt := Lib.hid (bytesL_lt hr.fine.writes.vals)
  generalize bytesE r = be at *
  generalize sectorsR r = se at *
  generalize bytesL r = bs at *
  generalize mayR r = m1 at *
  generalize decide (r = o) = m2 at *
  have HB1 := Lib.hid hb1
  have HW1 := Lib.hid hw1
  clear hC hW hr ho n1 n2 hb1 hz1 gr go hw1
  obtain ⟨rk, ⟨r0, r1, r2⟩, ry, rl, rg, rt, rs, rp, rq, rn⟩ := r
  obtain ⟨ok, ⟨o0, o1, o2⟩, oy, ol, og, ot, os, op, oq, on⟩ := o
  simp only at F1 F2 G1 G2 J1 J2
  generalize namedB ⟨r0, r1, r2⟩ = m3 at *
  generalize writtenB rl = m4 at *
  generalize lessB ⟨r0, r1, r2⟩ ⟨o0, o1, o2⟩ = m5 at *
  have HL := Lib.hid (show ∀ W, Below w1.heap.size w1 W → W.heap[w.heap.size]? = some (.cells #[.int .i8 rk, .int .i64 r0, .int .i64 r1, .int .i64 r2, .bool ry, .slice A rl.length c, .int .i64 rg, .int .i64 rt, .int .i64 rs, .int .i64 rp, .int .i64 rq, .int .i64 rn] 29 (0, 0)) ∧ W.heap[w.heap.size + 1]? = some (.cells #[.int .i8 ok, .int .i64 o0, .int .i64 o1, .int .i64 o2, .bool oy, .slice B ol.length d, .int .i64 og, .int .i64 ot, .int .i64 os, .int .i64 op, .int .i64 oq, .int .i64 on] 29 (0, 0)) from HG.out)
  have HV1 := Lib.hid (show w1 = (w.alloc (.cells #[.int .i8 rk, .int .i64 r0, .int .i64 r1, .int .i64 r2, .bool ry, .slice A rl.length c, .int .i64 rg, .int .i64 rt, .int .i64 rs, .int .i64 rp, .int .i64 rq, .int .i64 rn] 29)).alloc (.cells #[.int .i8 ok, .int .i64 o0, .int .i64 o1, .int .i64 o2, .bool oy, .slice B ol.length d, .int .i64 og, .int .i64 ot, .int .i64 os, .int .i64 op, .int .i64 oq, .int .i64 on] 29) from HW1.out)
  unfold recv
  go_enter Try.func3, Try.ntmps3
  have qr := row_lit (cs := (#[.int .i8 rk, .int .i64 r0, .int .i64 r1, .int .i64 r2, .bool ry, .slice A rl.length c, .int .i64 rg, .int .i64 rt, .int .i64 rs, .int .i64 rp, .int .i64 rq, .int .i64 rn] : Array Value).toList) (HL.out w1 (Below.refl _ _)).1
  have qo := row_lit (cs := (#[.int .i8 ok, .int .i64 o0, .int .i64 o1, .int .i64 o2, .bool oy, .slice B ol.length d, .int .i64 og, .int .i64 ot, .int .i64 os, .int .i64 op, .int .i64 oq, .int .i64 on] : Array Value).toList) (HL.out w1 (Below.refl _ _)).2
  have r_0 := qr 0 _ rfl
  have o_0 := qo 0 _ rfl
  have r_1 := qr 1 _ rfl
  have o_1 := qo 1 _ rfl
  have r_2 := qr 2 _ rfl
  have o_2 := qo 2 _ rfl
  have r_3 := qr 3 _ rfl
  have o_3 := qo 3 _ rfl
  have r_4 := qr 4 _ rfl
  have o_4 := qo 4 _ rfl
  have r_5 := qr 5 _ rfl
  have o_5 := qo 5 _ rfl
  have r_6 := qr 6 _ rfl
  have o_6 := qo 6 _ rfl
  have r_7 := qr 7 _ rfl
  have o_7 := qo 7 _ rfl
  have r_8 := qr 8 _ rfl
  have o_8 := qo 8 _ rfl
  have r_9 := qr 9 _ rfl
  have o_9 := qo 9 _ rfl
  have r_10 := qr 10 _ rfl
  have o_10 := qo 10 _ rfl
  have r_11 := qr 11 _ rfl
  have o_11 := qo 11 _ rfl
  clear qr qo
  go_wp2_with (rw [← HV1.out])
  refine (D1.out _ (Below.refl _ _)).mono ?_
  rintro e w2 ⟨rfl, hb2⟩
  have K2 := Lib.hid hb2
  clear hb2
  clear r_0 o_0 r_1 o_1 r_2 o_2 r_3 o_3 r_4 o_4 r_5 o_5 r_6 o_6 r_7 o_7 r_8 o_8 r_9 o_9 r_10 o_10 r_11 o_11
  have qr := row_lit (cs := (#[.int .i8 rk, .int .i64 r0, .int .i64 r1, .int .i64 r2, .bool ry, .slice A rl.length c, .int .i64 rg, .int .i64 rt, .int .i64 rs, .int .i64 rp, .int .i64 rq, .int .i64 rn] : Array Value).toList) (HL.out w2 K2.out).1
  have qo := row_lit (cs := (#[.int .i8 ok, .int .i64 o0, .int .i64 o1, .int .i64 o2, .bool oy, .slice B ol.length d, .int .i64 og, .int .i64 ot, .int .i64 os, .int .i64 op, .int .i64 oq, .int .i64 on] : Array Value).toList) (HL.out w2 K2.out).2
  have r_0 := qr 0 _ rfl
  have o_0 := qo 0 _ rfl
  have r_1 := qr 1 _ rfl
  have o_1 := qo 1 _ rfl
  have r_2 := qr 2 _ rfl
  have o_2 := qo 2 _ rfl
  have r_3 := qr 3 _ rfl
  have o_3 := qo 3 _ rfl
  have r_4 := qr 4 _ rfl
  have o_4 := qo 4 _ rfl
  have r_5 := qr 5 _ rfl
  have o_5 := qo 5 _ rfl
  have r_6 := qr 6 _ rfl
  have o_6 := qo 6 _ rfl
  have r_7 := qr 7 _ rfl
  have o_7 := qo 7 _ rfl
  have r_8 := qr 8 _ rfl
  have o_8 := qo 8 _ rfl
  have r_9 := qr 9 _ rfl
  have o_9 := qo 9 _ rfl
  have r_10 := qr 10 _ rfl
  have o_10 := qo 10 _ rfl
  have r_11 := qr 11 _ rfl
  have o_11 := qo 11 _ rfl
  clear qr qo
  go_wp2_with fail
  refine (D2.out _ K2.out).mono ?_
  rintro e w3 ⟨rfl, hb3⟩
  have K3 := Lib.hid (K2.out.trans (hb3.mono K2.out.size))
  clear hb3 K2
  clear r_0 o_0 r_1 o_1 r_2 o_2 r_3 o_3 r_4 o_4 r_5 o_5 r_6 o_6 r_7 o_7 r_8 o_8 r_9 o_9 r_10 o_10 r_11 o_11
  have qr := row_lit (cs := (#[.int .i8 rk, .int .i64 r0, .int .i64 r1, .int .i64 r2, .bool ry, .slice A rl.length c, .int .i64 rg, .int .i64 rt, .int .i64 rs, .int .i64 rp, .int .i64 rq, .int .i64 rn] : Array Value).toList) (HL.out w3 K3.out).1
  have qo := row_lit (cs := (#[.int .i8 ok, .int .i64 o0, .int .i64 o1, .int .i64 o2, .bool oy, .slice B ol.length d, .int .i64 og, .int .i64 ot, .int .i64 os, .int .i64 op, .int .i64 oq, .int .i64 on] : Array Value).toList) (HL.out w3 K3.out).2
  have r_0 := qr 0 _ rfl
  have o_0 := qo 0 _ rfl
  have r_1 := qr 1 _ rfl
  have o_1 := qo 1 _ rfl
  have r_2 := qr 2 _ rfl
  have o_2 := qo 2 _ rfl
  have r_3 := qr 3 _ rfl
  have o_3 := qo 3 _ rfl
  have r_4 := qr 4 _ rfl
  have o_4 := qo 4 _ rfl
  have r_5 := qr 5 _ rfl
  have o_5 := qo 5 _ rfl
  have r_6 := qr 6 _ rfl
  have o_6 := qo 6 _ rfl
  have r_7 := qr 7 _ rfl
  have o_7 := qo 7 _ rfl
  have r_8 := qr 8 _ rfl
  have o_8 := qo 8 _ rfl
  have r_9 := qr 9 _ rfl
  have o_9 := qo 9 _ rfl
  have r_10 := qr 10 _ rfl
  have o_10 := qo 10 _ rfl
  have r_11 := qr 11 _ rfl
  have o_11 := qo 11 _ rfl
  clear qr qo
  go_wp2_with fail
  refine (B1.out _ K3.out).mono ?_
  rintro e w4 ⟨va, rfl, hna⟩
  have HNa := Lib.hid hna
  have K4 := Lib.hid (K3.out.trans (hna.2.mono K3.out.size))
  clear hna K3
  clear r_0 o_0 r_1 o_1 r_2 o_2 r_3 o_3 r_4 o_4 r_5 o_5 r_6 o_6 r_7 o_7 r_8 o_8 r_9 o_9 r_10 o_10 r_11 o_11
  have qr := row_lit (cs := (#[.int .i8 rk, .int .i64 r0, .int .i64 r1, .int .i64 r2, .bool ry, .slice A rl.length c, .int .i64 rg, .int .i64 rt, .int .i64 rs, .int .i64 rp, .int .i64 rq, .int .i64 rn] : Array Value).toList) (HL.out w4 K4.out).1
  have qo := row_lit (cs := (#[.int .i8 ok, .int .i64 o0, .int .i64 o1, .int .i64 o2, .bool oy, .slice B ol.length d, .int .i64 og, .int .i64 ot, .int .i64 os, .int .i64 op, .int .i64 oq, .int .i64 on] : Array Value).toList) (HL.out w4 K4.out).2
  have r_0 := qr 0 _ rfl
  have o_0 := qo 0 _ rfl
  have r_1 := qr 1 _ rfl
  have o_1 := qo 1 _ rfl
  have r_2 := qr 2 _ rfl
  have o_2 := qo 2 _ rfl
  have r_3 := qr 3 _ rfl
  have o_3 := qo 3 _ rfl
  have r_4 := qr 4 _ rfl
  have o_4 := qo 4 _ rfl
  have r_5 := qr 5 _ rfl
  have o_5 := qo 5 _ rfl
  have r_6 := qr 6 _ rfl
  have o_6 := qo 6 _ rfl
  have r_7 := qr 7 _ rfl
  have o_7 := qo 7 _ rfl
  have r_8 := qr 8 _ rfl
  have o_8 := qo 8 _ rfl
  have r_9 := qr 9 _ rfl
  have o_9 := qo 9 _ rfl
  have r_10 := qr 10 _ rfl
  have o_10 := qo 10 _ rfl
  have r_11 := qr 11 _ rfl
  have o_11 := qo 11 _ rfl
  clear qr qo
  go_wp2_with fail
  refine (B2.out _ K4.out).mono ?_
  rintro e w5 ⟨vb, rfl, hnb⟩
  have HNb := Lib.hid hnb
  have K5 := Lib.hid (K4.out.trans (hnb.2.mono K4.out.size))
  have SA := Lib.hid ((HNa.out.strAt HLt.out).later hnb.2)
  have SB := Lib.hid (hnb.strAt HLt.out)
  clear hnb K4
  clear r_0 o_0 r_1 o_1 r_2 o_2 r_3 o_3 r_4 o_4 r_5 o_5 r_6 o_6 r_7 o_7 r_8 o_8 r_9 o_9 r_10 o_10 r_11 o_11
  have qr := row_lit (cs := (#[.int .i8 rk, .int .i64 r0, .int .i64 r1, .int .i64 r2, .bool ry, .slice A rl.length c, .int .i64 rg, .int .i64 rt, .int .i64 rs, .int .i64 rp, .int .i64 rq, .int .i64 rn] : Array Value).toList) (HL.out w5 K5.out).1
  have qo := row_lit (cs := (#[.int .i8 ok, .int .i64 o0, .int .i64 o1, .int .i64 o2, .bool oy, .slice B ol.length d, .int .i64 og, .int .i64 ot, .int .i64 os, .int .i64 op, .int .i64 oq, .int .i64 on] : Array Value).toList) (HL.out w5 K5.out).2
  have r_0 := qr 0 _ rfl
  have o_0 := qo 0 _ rfl
  have r_1 := qr 1 _ rfl
  have o_1 := qo 1 _ rfl
  have r_2 := qr 2 _ rfl
  have o_2 := qo 2 _ rfl
  have r_3 := qr 3 _ rfl
  have o_3 := qo 3 _ rfl
  have r_4 := qr 4 _ rfl
  have o_4 := qo 4 _ rfl
  have r_5 := qr 5 _ rfl
  have o_5 := qo 5 _ rfl
  have r_6 := qr 6 _ rfl
  have o_6 := qo 6 _ rfl
  have r_7 := qr 7 _ rfl
  have o_7 := qo 7 _ rfl
  have r_8 := qr 8 _ rfl
  have o_8 := qo 8 _ rfl
  have r_9 := qr 9 _ rfl
  have o_9 := qo 9 _ rfl
  have r_10 := qr 10 _ rfl
  have o_10 := qo 10 _ rfl
  have r_11 := qr 11 _ rfl
  have o_11 := qo 11 _ rfl
  clear qr qo
  go_wp2_with fail
  refine (C1.out _ K5.out).mono ?_
  rintro e w6 ⟨rfl, hb6⟩
  have K6 := Lib.hid (K5.out.trans (hb6.mono K5.out.size))
  have SA6 := Lib.hid (SA.out.later hb6)
  have SB6 := Lib.hid (SB.out.later hb6)
  clear hb6 K5 SA SB
  clear r_0 o_0 r_1 o_1 r_2 o_2 r_3 o_3 r_4 o_4 r_5 o_5 r_6 o_6 r_7 o_7 r_8 o_8 r_9 o_9 r_10 o_10 r_11 o_11
  have qr := row_lit (cs := (#[.int .i8 rk, .int .i64 r0, .int .i64 r1, .int .i64 r2, .bool ry, .slice A rl.length c, .int .i64 rg, .int .i64 rt, .int .i64 rs, .int .i64 rp, .int .i64 rq, .int .i64 rn] : Array Value).toList) (HL.out w6 K6.out).1
  have qo := row_lit (cs := (#[.int .i8 ok, .int .i64 o0, .int .i64 o1, .int .i64 o2, .bool oy, .slice B ol.length d, .int .i64 og, .int .i64 ot, .int .i64 os, .int .i64 op, .int .i64 oq, .int .i64 on] : Array Value).toList) (HL.out w6 K6.out).2
  have r_0 := qr 0 _ rfl
  have o_0 := qo 0 _ rfl
  have r_1 := qr 1 _ rfl
  have o_1 := qo 1 _ rfl
  have r_2 := qr 2 _ rfl
  have o_2 := qo 2 _ rfl
  have r_3 := qr 3 _ rfl
  have o_3 := qo 3 _ rfl
  have r_4 := qr 4 _ rfl
  have o_4 := qo 4 _ rfl
  have r_5 := qr 5 _ rfl
  have o_5 := qo 5 _ rfl
  have r_6 := qr 6 _ rfl
  have o_6 := qo 6 _ rfl
  have r_7 := qr 7 _ rfl
  have o_7 := qo 7 _ rfl
  have r_8 := qr 8 _ rfl
  have o_8 := qo 8 _ rfl
  have r_9 := qr 9 _ rfl
  have o_9 := qo 9 _ rfl
  have r_10 := qr 10 _ rfl
  have o_10 := qo 10 _ rfl
  have r_11 := qr 11 _ rfl
  have o_11 := qo 11 _ rfl
  clear qr qo
  go_wp2_with fail
  refine (C2.out _ K6.out).mono ?_
  rintro e w7 ⟨rfl, hb7⟩
  have K7 := Lib.hid (K6.out.trans (hb7.mono K6.out.size))
  have SA7 := Lib.hid (SA6.out.later hb7)
  have SB7 := Lib.hid (SB6.out.later hb7)
  clear hb7 K6 SA6 SB6
  clear r_0 o_0 r_1 o_1 r_2 o_2 r_3 o_3 r_4 o_4 r_5 o_5 r_6 o_6 r_7 o_7 r_8 o_8 r_9 o_9 r_10 o_10 r_11 o_11
  have hS0 : SS w.heap.size A B c d rk r0 r1 r2 rg rt rs rp rq rn ry rl ok o0 o1 o2 og ot os op oq on oy ol va vb bs w1 w7 := SS.of (HL.out _ K7.out).1 (HL.out _ K7.out).2 SA7.out SB7.out K7.out
  go_wp2_with fail
  simp only [List.append]
  go_region_held3 (fun W => W.cell? ⟨w.heap.size, 0, none⟩ = some (.int .i8 rk) ∧ W.cell? ⟨w.heap.size, 1, none⟩ = some (.int .i64 r0) ∧ W.cell? ⟨w.heap.size, 2, none⟩ = some (.int .i64 r1) ∧ W.cell? ⟨w.heap.size, 3, none⟩ = some (.int .i64 r2) ∧ W.cell? ⟨w.heap.size, 4, none⟩ = some (.bool ry) ∧ W.cell? ⟨w.heap.size, 5, none⟩ = some (.slice A rl.length c) ∧ W.cell? ⟨w.heap.size, 6, none⟩ = some (.int .i64 rg) ∧ W.cell? ⟨w.heap.size, 7, none⟩ = some (.int .i64 rt) ∧ W.cell? ⟨w.heap.size, 8, none⟩ = some (.int .i64 rs) ∧ W.cell? ⟨w.heap.size, 9, none⟩ = some (.int .i64 rp) ∧ W.cell? ⟨w.heap.size, 10, none⟩ = some (.int .i64 rq) ∧ W.cell? ⟨w.heap.size, 11, none⟩ = some (.int .i64 rn) ∧ W.cell? ⟨w.heap.size + 1, 0, none⟩ = some (.int .i8 ok) ∧ W.cell? ⟨w.heap.size + 1, 1, none⟩ = some (.int .i64 o0) ∧ W.cell? ⟨w.heap.size + 1, 2, none⟩ = some (.int .i64 o1) ∧ W.cell? ⟨w.heap.size + 1, 3, none⟩ = some (.int .i64 o2) ∧ W.cell? ⟨w.heap.size + 1, 4, none⟩ = some (.bool oy) ∧ W.cell? ⟨w.heap.size + 1, 5, none⟩ = some (.slice B ol.length d) ∧ W.cell? ⟨w.heap.size + 1, 6, none⟩ = some (.int .i64 og) ∧ W.cell? ⟨w.heap.size + 1, 7, none⟩ = some (.int .i64 ot) ∧ W.cell? ⟨w.heap.size + 1, 8, none⟩ = some (.int .i64 os) ∧ W.cell? ⟨w.heap.size + 1, 9, none⟩ = some (.int .i64 op) ∧ W.cell? ⟨w.heap.size + 1, 10, none⟩ = some (.int .i64 oq) ∧ W.cell? ⟨w.heap.size + 1, 11, none⟩ = some (.int .i64 on) ∧ (convert 32 9 va).run Try.prog W = .ok (.string (str bs)) W ∧ (convert 32 9 vb).run Try.prog W = .ok (.string (str bs)) W ∧ W.heap[w.heap.size]? = some (.cells #[.int .i8 rk, .int .i64 r0, .int .i64 r1, .int .i64 r2, .bool ry, .slice A rl.length c, .int .i64 rg, .int .i64 rt, .int .i64 rs, .int .i64 rp, .int .i64 rq, .int .i64 rn] 29 (0, 0)) ∧ W.heap[w.heap.size + 1]? = some (.cells #[.int .i8 ok, .int .i64 o0, .int .i64 o1, .int .i64 o2, .bool oy, .slice B ol.length d, .int .i64 og, .int .i64 ot, .int .i64 os, .int .i64 op, .int .i64 oq, .int .i64 on] 29 (0, 0)) ∧ StrAt W va bs ∧ StrAt W vb bs ∧ Below w1.heap.size w1 W)
    (first | assumption | exact SS.drew hS0 | exact SS.below (by assumption) (by assumption))
    (first
      | (go_at_call 14; refine (E1.out _ ?_).mono ?_; (exact SS.low (by assumption)); rintro e w' ⟨rfl, hw'⟩)
      | (go_at_call 15; refine (E2.out _ ?_).mono ?_; (exact SS.low (by assumption)); rintro e w' ⟨rfl, hw'⟩)
      | (go_at_call 18; refine (G1.out _ ?_).mono ?_; (exact SS.low (by assumption)); rintro e w' ⟨rfl, hw'⟩)
      | (go_at_call 19; refine (G2.out _ ?_).mono ?_; (exact SS.low (by assumption)); rintro e w' ⟨rfl, hw'⟩)
      | (go_at_call 20; refine (I1.out _ ?_).mono ?_; (exact SS.low (by assumption)); rintro e w' ⟨rfl, hw'⟩)
      | (go_at_call 21; refine (I2.out _ ?_).mono ?_; (exact SS.low (by assumption)); rintro e w' ⟨rfl, hw'⟩)
      | (go_at_call 16; refine (F1.out _).mono ?_; rintro e w' ⟨rfl, hw'⟩)
      | (go_at_call 17; refine (F2.out _).mono ?_; rintro e w' ⟨rfl, hw'⟩)
      | (go_at_call 22; refine (J1.out _).mono ?_; rintro e w' ⟨rfl, hw'⟩)
      | (go_at_call 23; refine (J2.out _).mono ?_; rintro e w' ⟨rfl, hw'⟩)
      | (go_at_call 9; refine (HWk.out _).mono ?_; rintro e w' ⟨rfl, hw'⟩))
  all_goals
    rename_i hH
    have hB := SS.low hH
    have HBf := Lib.hid (HB1.out.trans (hB.mono HB1.out.size))
    clear hH hB hS0
    go_wp2
    go_ret
    exact ⟨rfl, HBf.out⟩
end Go.Proofs.Ytaokhbodmodcgaa
end

section
/-
  The law of beginnings and of what goes on behind a record's bytes, over contracts.
-/
namespace Go.Proofs.Ytaokhbodmodcgaa
open Go.RowKit
set_option maxRecDepth 100000

theorem sizeRR (r : Rc) (A : Option Addr) (c : Nat) : (Try.prog.info? 29).map (·.size) = some (recv A c r).toArray.size := by
  unfold recv
  kernel_rfl
set_option maxHeartbeats 8000000 in
theorem short_law (hC : Calls7) (hW : WakesSays7) (r : Rc) (A : Option Addr) (c : Nat) (z : Int) (hz : -9223372036854775808 ≤ z ∧ z ≤ 9223372036854775807) (bs : List Nat) (B : Option Addr) (d : Nat) (w : World) (hw : WrsV w (fun _ => True) A c r.writes) (hr : r.Fine)
    (hy : By w w.heap.size B bs) (hd : bs.length ≤ d) (hm : d ≤ maxLen) (hn : B = none → d = 0) :
    Calls Try.prog 7 #[.agg (recv A c r).toArray, .int .i64 z, .slice B bs.length d] w fun e w' => e = .returned (.bool true) ∧ Below w.heap.size w w' := by
  obtain ⟨w1, hw1⟩ : ∃ w1, w1 = w.alloc (.cells (recv A c r).toArray 29) := ⟨_, rfl⟩
  have hb1 : Below w.heap.size w w1 := by rw [hw1]; exact (Below.refl _ w).alloc (Nat.le_refl _) _
  have hz1 : w1.heap.size = w.heap.size + 1 := by rw [hw1]; simp
  have g1 : w1.heap[w.heap.size]? = some (.cells (recv A c r).toArray 29 (0, 0)) := by rw [hw1]; exact heap_alloc_new w _
  have HW1 := Lib.hid hw1
  have HB1 := Lib.hid hb1
  have HZ1 := Lib.hid hz1
  have HGr := Lib.hid (fun W => great_any r A c W)
  have HRow := Lib.hid (show ∀ W, Below w1.heap.size w1 W → W.heap[w.heap.size]? = some (.cells (recv A c r).toArray 29 (0, 0)) from fun W hW => (hW.block _ (by omega)).trans g1)
  have HI := Lib.hid (sizeRR r A c)
  have HWk := Lib.hid hW
  by_cases hbig : (r.writes.length : Int) > 40
  · rw [decide_eq_true hbig] at HGr
    have HRow1 := Lib.hid (HRow.out _ (Below.refl _ _))
    clear hw hr hy hd hm hn hC hW hw1 hb1 hz1 g1 hbig
    go_enter Try.func7, Try.ntmps7
    go_wp2_with (first
      | (rw [← HW1.out])
      | (refine wpList_load_row rfl 29 _ rfl w.heap.size rfl 29 (recv A c r).toArray (0, 0) _ HRow1.out Try.underlying29 rfl HI.out ?_))
    refine (HGr.out _).mono ?_
    rintro e w2 ⟨rfl, hb2⟩
    have HB2 := Lib.hid (HB1.out.trans (hb2.mono HB1.out.size))
    clear hb2
    go_wp2_with fail
    refine (HWk.out _).mono ?_
    rintro e wk ⟨rfl, hbk⟩
    have HBk := Lib.hid (HB2.out.trans (hbk.mono HB2.out.size))
    clear hbk
    go_wp2
    go_ret
    exact ⟨rfl, HBk.out⟩
  rw [decide_eq_false hbig] at HGr
  have HAt := Lib.hid (show RcAt w A c r from ⟨hw, hr, by omega⟩)
  have HRow1 := Lib.hid (HRow.out _ (Below.refl _ _))
  obtain ⟨m, hmm⟩ : ∃ m, m = bs.length := ⟨_, rfl⟩
  rw [← hmm] at hd ⊢
  by_cases h100 : (100 : Int) < (m : Int)
  · clear hw hr hy hd hm hn hC hW hw1 hb1 hz1 g1 hbig hmm
    go_enter Try.func7, Try.ntmps7
    go_wp2_with (first
      | (rw [← HW1.out])
      | (refine wpList_load_row rfl 29 _ rfl w.heap.size rfl 29 (recv A c r).toArray (0, 0) _ HRow1.out Try.underlying29 rfl HI.out ?_))
    refine (HGr.out _).mono ?_
    rintro e w2 ⟨rfl, hb2⟩
    have HB2 := Lib.hid (HB1.out.trans (hb2.mono HB1.out.size))
    clear hb2
    go_wp2_with fail
    refine (HWk.out _).mono ?_
    rintro e wk ⟨rfl, hbk⟩
    have HBk := Lib.hid (HB2.out.trans (hbk.mono HB2.out.size))
    clear hbk
    go_wp2
    go_ret
    exact ⟨rfl, HBk.out⟩
  have hm100 : m ≤ 100 := by omega
  have HMm := Lib.hid hmm
  have HY := Lib.hid hy
  have HD := Lib.hid (And.intro hd (And.intro hm hn))
  have HV8 := Lib.hid hr.writes.vals
  have HLt := Lib.hid (bytesL_lt hr.writes.vals)
  have HBy := Lib.hid (fun W (h : RcAt W A c r) => hC.bytes r A c W h)
  have HMay := Lib.hid (fun W (h : RcAt W A c r) => hC.may r A c W h)
  have HRd := Lib.hid hC.read
  clear hw hr hy hd hm hn hC hW hw1 hb1 hz1 g1 hbig hmm
  go_enter Try.func7, Try.ntmps7
  go_wp2_with (first
    | (rw [← HW1.out])
    | (refine wpList_load_row rfl 29 _ rfl w.heap.size rfl 29 (recv A c r).toArray (0, 0) _ HRow1.out Try.underlying29 rfl HI.out ?_))
  refine (HGr.out _).mono ?_
  rintro e w2 ⟨rfl, hb2⟩
  have HB2 := Lib.hid (HB1.out.trans (hb2.mono HB1.out.size))
  have HRow2 := Lib.hid (HRow.out _ hb2)
  have HX2 := Lib.hid hb2
  clear hb2
  go_wp2_with (refine wpList_load_row rfl 29 _ rfl w.heap.size rfl 29 (recv A c r).toArray (0, 0) _ HRow2.out Try.underlying29 rfl HI.out ?_)
  refine (HBy.out w2 (HAt.out.below HB2.out)).mono ?_
  rintro e w3 ⟨v, rfl, hnew⟩
  obtain ⟨A3, c3, rfl, hy3, hl3, hm3, hn3, _⟩ := hnew.slice HLt.out
  have HB3 := Lib.hid (HB2.out.trans (hnew.2.mono HB2.out.size))
  have HX3 := Lib.hid (HX2.out.trans (hnew.2.mono HX2.out.size))
  have HY3 := Lib.hid hy3
  have HL3 := Lib.hid (And.intro hl3 (And.intro hm3 hn3))
  clear hnew hy3 hl3 hm3 hn3
  cases hmay : mayR r with
  | false =>
    have HRow3 := Lib.hid (HRow.out _ HX3.out)
    have hE : bytesE r = 2 := by unfold bytesE; rw [hmay]; rfl
    have hL : bytesL r = [] := by unfold bytesL; rw [hmay]; rfl
    rw [hE, hL]
    rw [hmay] at HMay
    clear hmay hE hL
    go_wp2_with (refine wpList_load_row rfl 29 _ rfl w.heap.size rfl 29 (recv A c r).toArray (0, 0) _ HRow3.out Try.underlying29 rfl HI.out ?_)
    refine (HMay.out w3 (HAt.out.below HB3.out)).mono ?_
    rintro e w4 ⟨rfl, hb4⟩
    have HB4 := Lib.hid (HB3.out.trans (hb4.mono HB3.out.size))
    clear hb4
    go_wp2_with fail
    refine (HWk.out _).mono ?_
    rintro e wk ⟨rfl, hbk⟩
    have HBk := Lib.hid (HB4.out.trans (hbk.mono HB4.out.size))
    clear hbk
    go_wp2
    go_ret
    exact ⟨rfl, HBk.out⟩
  | true =>
    have hE : bytesE r = 0 := by unfold bytesE; rw [hmay]; rfl
    have hL : bytesL r = bytesR r := by unfold bytesL; rw [hmay]; rfl
    have hlen := bytes_len hmay HV8.out
    have HSh := Lib.hid (fun k (hk : k < (bytesR r).length) => read_short hmay HV8.out hk)
    have HBe := Lib.hid (fun (q : List Nat) (hq : q ≠ []) => read_behind hmay HV8.out hq)
    have HSa := Lib.hid (read_bytes hmay HV8.out)
    rw [hL] at HY3 HL3 HLt
    rw [hE, hL]
    obtain ⟨T, hT⟩ : ∃ T, T = bytesR r := ⟨_, rfl⟩
    rw [← hT] at HY3 HL3 HLt hlen HSh HBe HSa ⊢
    obtain ⟨n, hn⟩ : ∃ n, n = T.length := ⟨_, rfl⟩
    rw [← hn] at hlen HSh HL3 ⊢
    have HNn := Lib.hid hn
    have hn0 : ((n : Int) == 0) = false := by rw [beq_eq_false_iff_ne]; omega
    have hnz : ¬ (n : Int) = 0 := by omega
    obtain ⟨p, hp⟩ : ∃ p, p = z.tmod (n : Int) := ⟨_, rfl⟩
    have hp1 : p < (n : Int) := by rw [hp]; exact Int.tmod_lt_of_pos z (by omega)
    have hp2 : -(n : Int) < p := by
      rw [hp]
      have h1 := Int.tmod_lt_of_pos (-z) (show (0 : Int) < (n : Int) by omega)
      rw [Int.neg_tmod] at h1
      omega
    have hpw : IntKind.i64.wrap (z.tmod (n : Int)) = p := by rw [← hp, IntKind.wrap_i64]; omega
    have hpn : IntKind.i64.wrap (p + (n : Int)) = p + (n : Int) := by rw [IntKind.wrap_i64]; omega
    obtain ⟨k, hk⟩ : ∃ k : Nat, (p + (n : Int)).tmod (n : Int) = (k : Int) := ⟨((p + (n : Int)).tmod (n : Int)).toNat, by
      have := Int.tmod_nonneg (n : Int) (show 0 ≤ p + (n : Int) by omega)
      omega⟩
    have hkn : k < n := by
      have := Int.tmod_lt_of_pos (p + (n : Int)) (show (0 : Int) < (n : Int) by omega)
      omega
    have hkw : IntKind.i64.wrap ((p + (n : Int)).tmod (n : Int)) = (k : Int) := by rw [hk, IntKind.wrap_i64]; omega
    have hkw2 : IntKind.i64.wrap (k : Int) = (k : Int) := by rw [IntKind.wrap_i64]; omega
    have hp' := hp.symm
    have hkc : k ≤ c3 := by have := HL3.out.1; omega
    have hr1 := HRd.out (T.take k) A3 c3 w3 (HY3.out.take k) (by rw [List.length_take]; omega) (by rw [List.length_take]; omega) HL3.out.2.1 HL3.out.2.2
    rw [show (T.take k).length = k by rw [List.length_take, ← HNn.out]; omega] at hr1
    have HR1 := Lib.hid hr1
    have HNo := Lib.hid (HSh.out k hkn)
    have HLn := Lib.hid hlen
    clear hmay hE hL hT hn hp hr1 hlen
    go_wp2_with fail
    refine HR1.out.mono ?_
    rintro e w4 ⟨A4, c4, rfl, _, _, hb4⟩
    rw [show readErr (T.take k) = 40 from by unfold readErr; rw [HNo.out]; rfl, show recOf (T.take k) = zRc from by unfold recOf; rw [HNo.out]; rfl]
    have HB4 := Lib.hid (HB3.out.trans (hb4.mono HB3.out.size))
    have hy4 := HY3.out.below hb4 (Nat.le_refl _)
    obtain ⟨hb5, hg5, hz5⟩ := box_made w4 #[.int .i8 0, .int .i64 0, .int .i64 0, .int .i64 0, .bool false, .slice none 0 0, .int .i64 0, .int .i64 0, .int .i64 0, .int .i64 0, .int .i64 0, .int .i64 0] (recv A4 c4 zRc).toArray 29
    have HZ5 := Lib.hid (heap_alloc_new w4 (.cells #[.int .i8 0, .int .i64 0, .int .i64 0, .int .i64 0, .bool false, .slice none 0 0, .int .i64 0, .int .i64 0, .int .i64 0, .int .i64 0, .int .i64 0, .int .i64 0] 29))
    obtain ⟨w5, hw5⟩ : ∃ w5, w5 = (w4.alloc (.cells #[.int .i8 0, .int .i64 0, .int .i64 0, .int .i64 0, .bool false, .slice none 0 0, .int .i64 0, .int .i64 0, .int .i64 0, .int .i64 0, .int .i64 0, .int .i64 0] 29)).setRow w4.heap.size (recv A4 c4 zRc).toArray := ⟨_, rfl⟩
    rw [← hw5] at hb5 hg5 hz5
    have HW5 := Lib.hid hw5
    have HB5 := Lib.hid (HB4.out.trans (hb5.mono HB4.out.size))
    have HIz := Lib.hid (sizeRR zRc A4 c4)
    have HSz5 := Lib.hid (show (#[.int .i8 0, .int .i64 0, .int .i64 0, .int .i64 0, .bool false, .slice none 0 0, .int .i64 0, .int .i64 0, .int .i64 0, .int .i64 0, .int .i64 0, .int .i64 0] : Array Value).size = (recv A4 c4 zRc).toArray.size from rfl)
    have HO5 := Lib.hid (show (recv A4 c4 zRc).toArray.all (·.oneCell') = true by simp [recv, zRc, zNm, Value.oneCell'])
    have hb6 : Below w5.heap.size w5 (w5.alloc (.cells #[] 5)) := (Below.refl _ w5).alloc (Nat.le_refl _) _
    have HOw := Lib.hid (show Own (w5.alloc (.cells #[] 5)) w5.heap.size [] (.slice (some ⟨w5.heap.size, 0, none⟩) 0 0) from ⟨rfl, Or.inr ⟨w5.heap.size, 0, #[], rfl, Nat.le_refl _, heap_alloc_new w5 _, Nat.le_refl _, Nat.zero_le _, rfl, rfl⟩⟩)
    have HB6 := Lib.hid hb6
    have HY6 := Lib.hid (((hy4.below hb5 (by have := hb4.size; omega)).below hb6 (by have := hb4.size; omega)))
    have HSz6 := Lib.hid (show w5.heap.size ≤ (w5.alloc (.cells #[] 5)).heap.size by simp)
    have HTl := Lib.hid (show T.length ≤ 85 by have := HNn.out; have := HLn.out; omega)
    have HBl := Lib.hid (show bs.length ≤ 100 by have := HMm.out; omega)
    clear hb4 hy4 hb5 hg5 hz5 hw5 hb6
    go_wp2_with (first
      | (refine wpList_store_row rfl 29 _ _ rfl w4.heap.size (recv A4 c4 zRc).toArray rfl rfl 29 #[.int .i8 0, .int .i64 0, .int .i64 0, .int .i64 0, .bool false, .slice none 0 0, .int .i64 0, .int .i64 0, .int .i64 0, .int .i64 0, .int .i64 0, .int .i64 0] HZ5.out HIz.out HSz5.out HO5.out ?_; rw [← HW5.out])
      | (at_builtin; refine append_by rfl (.tmp 60) (.tmp 61) rfl w5.heap.size [] T _ rfl HOw.out A3 _ c3 rfl HNn.out _ HY6.out HL3.out.2.2 (by have := HTl.out; simp; omega) w5 HB6.out HSz6.out ?_; intro v7 w7 hv7 hb7)
      | (at_builtin; refine append_by rfl (.tmp 62) (.tmp 63) rfl w5.heap.size ([] ++ T) bs _ rfl hv7 B _ d rfl HMm.out _ (HY.out.below (HB5.out.trans (hb7.mono HB5.out.size)) (Nat.le_refl _)) HD.out.2.2 (by have := HTl.out; have := HBl.out; simp; omega) w5 hb7 hb7.size ?_; intro v8 w8 hv8 hb8))
    obtain ⟨A8, c8, rfl, hy8, hl8, hm8, hn8, _⟩ := (show New w5 w8 ([] ++ T ++ bs) v8 from ⟨hv8, hb8⟩).slice (fun x hx => by
      rcases List.mem_append.1 hx with hx | hx
      · exact HLt.out x (by simpa using hx)
      · exact HY.out.1 x hx)
    have HR8 := Lib.hid (HRd.out ([] ++ T ++ bs) A8 c8 w8 hy8 (by have := HTl.out; have := HBl.out; simp; omega) hl8 hm8 hn8)
    have HB8 := Lib.hid (HB5.out.trans (hb8.mono HB5.out.size))
    clear hv7 hb7 hv8 hb8 hy8 hl8 hm8 hn8
    refine HR8.out.mono ?_
    rintro e w9 ⟨A9, c9, rfl, _, _, hb9⟩
    have HB9 := Lib.hid (HB8.out.trans (hb9.mono HB8.out.size))
    clear hb9
    by_cases hm0 : m = 0
    · have hbn : bs = [] := List.eq_nil_of_length_eq_zero (by rw [← HMm.out]; exact hm0)
      rw [show readErr ([] ++ T ++ bs) = 0 from by unfold readErr; rw [hbn, List.nil_append, List.append_nil, HSa.out]; rfl]
      have hq : ((m : Int) == 0) = true := by simp [hm0]
      clear hm0 hbn
      go_wp2_with fail
      refine (HWk.out _).mono ?_
      rintro e wk ⟨rfl, hbk⟩
      have HBk := Lib.hid (HB9.out.trans (hbk.mono HB9.out.size))
      clear hbk
      go_wp2
      go_ret
      exact ⟨rfl, HBk.out⟩
    · have hbn : bs ≠ [] := fun e => hm0 (by rw [HMm.out, e]; rfl)
      rw [show readErr ([] ++ T ++ bs) = 40 from by unfold readErr; rw [List.nil_append, HBe.out bs hbn]; rfl]
      have hq : ((m : Int) == 0) = false := by rw [beq_eq_false_iff_ne]; omega
      clear hm0 hbn
      go_wp2_with fail
      refine (HWk.out _).mono ?_
      rintro e wk ⟨rfl, hbk⟩
      have HBk := Lib.hid (HB9.out.trans (hbk.mono HB9.out.size))
      clear hbk
      go_wp2
      go_ret
      exact ⟨rfl, HBk.out⟩
end Go.Proofs.Ytaokhbodmodcgaa
end

section
/-
  The law of telling, for any two records, over contracts.
-/
namespace Go.Proofs.Ytaokhbodmodcgaa
open Go.RowKit
set_option maxRecDepth 100000

set_option maxHeartbeats 8000000 in
theorem tells_law (hC : Calls7) (hW : WakesSays7) (r o : Rc) (A B : Option Addr) (c d : Nat) (w : World) (hwr : WrsV w (fun _ => True) A c r.writes) (hr : r.Fine) (hwo : WrsV w (fun _ => True) B d o.writes) (ho : o.Fine) :
    Calls Try.prog 3 #[.agg (recv A c r).toArray, .agg (recv B d o).toArray] w fun e w' => e = .returned (.bool true) ∧ Below w.heap.size w w' := by
  by_cases hbr : (r.writes.length : Int) > 40
  rotate_left
  · by_cases hbo : (o.writes.length : Int) > 40
    rotate_left
    · exact tells_few hC hW r o A B c d w ⟨hwr, hr, by omega⟩ ⟨hwo, ho, by omega⟩
    · obtain ⟨w1, hw1⟩ : ∃ w1, w1 = (w.alloc (.cells (recv A c r).toArray 29)).alloc (.cells (recv B d o).toArray 29) := ⟨_, rfl⟩
      have hb1 : Below w.heap.size w w1 := by rw [hw1]; exact ((Below.refl w.heap.size w).alloc (Nat.le_refl _) _).alloc (by simp) _
      have hz1 : w1.heap.size = w.heap.size + 2 := by rw [hw1]; simp
      have gr : w1.heap[w.heap.size]? = some (.cells (recv A c r).toArray 29 (0, 0)) := by rw [hw1]; exact heap_alloc2_old w _ _
      have go : w1.heap[w.heap.size + 1]? = some (.cells (recv B d o).toArray 29 (0, 0)) := by rw [hw1]; exact heap_alloc2_new w _ _
      have HG := Lib.hid (fun W => great_any r A c W)
      have HO := Lib.hid (show ∀ W, Calls Try.prog 8 #[.agg #[.int .i8 o.kind, .int .i64 o.name.stamp, .int .i64 o.name.inc, .int .i64 o.name.att, .bool o.yes, .slice B o.writes.length d, .int .i64 o.give, .int .i64 o.take, .int .i64 o.shards, .int .i64 o.stripe, .int .i64 o.dest, .int .i64 o.n]] W fun e w' => e = .returned (.bool (decide ((o.writes.length : Int) > 40))) ∧ Below W.heap.size W w' from fun W => great_any o B d W)
      rw [decide_eq_false hbr] at HG
      rw [decide_eq_true hbo] at HO
      have HR := Lib.hid gr
      have HI := Lib.hid (sizeRR r A c)
      have HRo := Lib.hid (show ∀ W, Below w1.heap.size w1 W → W.heap[w.heap.size + 1]? = some (.cells (recv B d o).toArray 29 (0, 0)) from fun W hW => (hW.block _ (by omega)).trans go)
      have HWk := Lib.hid hW
      have HW1 := Lib.hid hw1
      have HB1 := Lib.hid hb1
      clear hC hW hwr hr hwo ho hbr hbo hw1 hb1 hz1 gr go
      go_enter Try.func3, Try.ntmps3
      go_wp2_with (first
        | (rw [← HW1.out])
        | (refine wpList_load_row rfl 29 _ rfl w.heap.size rfl 29 (recv A c r).toArray (0, 0) _ HR.out Try.underlying29 rfl HI.out ?_))
      refine (HG.out _).mono ?_
      rintro e w2 ⟨rfl, hb2⟩
      have g2 := HRo.out w2 hb2
      have HB2 := Lib.hid (HB1.out.trans (hb2.mono HB1.out.size))
      have x0 := row_lit (cs := recv B d o) g2 0 _ rfl
      have x1 := row_lit (cs := recv B d o) g2 1 _ rfl
      have x2 := row_lit (cs := recv B d o) g2 2 _ rfl
      have x3 := row_lit (cs := recv B d o) g2 3 _ rfl
      have x4 := row_lit (cs := recv B d o) g2 4 _ rfl
      have x5 := row_lit (cs := recv B d o) g2 5 _ rfl
      have x6 := row_lit (cs := recv B d o) g2 6 _ rfl
      have x7 := row_lit (cs := recv B d o) g2 7 _ rfl
      have x8 := row_lit (cs := recv B d o) g2 8 _ rfl
      have x9 := row_lit (cs := recv B d o) g2 9 _ rfl
      have x10 := row_lit (cs := recv B d o) g2 10 _ rfl
      have x11 := row_lit (cs := recv B d o) g2 11 _ rfl
      clear hb2 g2
      go_wp2_with fail
      refine (HO.out _).mono ?_
      rintro e w3 ⟨rfl, hb3⟩
      have HB3 := Lib.hid (HB2.out.trans (hb3.mono HB2.out.size))
      clear hb3 x0 x1 x2 x3 x4 x5 x6 x7 x8 x9 x10 x11
      go_wp2_with fail
      refine (HWk.out _).mono ?_
      rintro e wk ⟨rfl, hbk⟩
      have HBk := Lib.hid (HB3.out.trans (hbk.mono HB3.out.size))
      clear hbk
      go_wp2
      go_ret
      exact ⟨rfl, HBk.out⟩
  · obtain ⟨w1, hw1⟩ : ∃ w1, w1 = (w.alloc (.cells (recv A c r).toArray 29)).alloc (.cells (recv B d o).toArray 29) := ⟨_, rfl⟩
    have hb1 : Below w.heap.size w w1 := by rw [hw1]; exact ((Below.refl w.heap.size w).alloc (Nat.le_refl _) _).alloc (by simp) _
    have gr : w1.heap[w.heap.size]? = some (.cells (recv A c r).toArray 29 (0, 0)) := by rw [hw1]; exact heap_alloc2_old w _ _
    have HG := Lib.hid (fun W => great_any r A c W)
    rw [decide_eq_true hbr] at HG
    have HR := Lib.hid gr
    have HI := Lib.hid (sizeRR r A c)
    have HWk := Lib.hid hW
    have HW1 := Lib.hid hw1
    have HB1 := Lib.hid hb1
    clear hC hW hwr hr hwo ho hbr hw1 hb1 gr
    go_enter Try.func3, Try.ntmps3
    go_wp2_with (first
      | (rw [← HW1.out])
      | (refine wpList_load_row rfl 29 _ rfl w.heap.size rfl 29 (recv A c r).toArray (0, 0) _ HR.out Try.underlying29 rfl HI.out ?_))
    refine (HG.out _).mono ?_
    rintro e w2 ⟨rfl, hb2⟩
    have HB2 := Lib.hid (HB1.out.trans (hb2.mono HB1.out.size))
    clear hb2
    go_wp2_with fail
    refine (HWk.out _).mono ?_
    rintro e wk ⟨rfl, hbk⟩
    have HBk := Lib.hid (HB2.out.trans (hbk.mono HB2.out.size))
    clear hbk
    go_wp2
    go_ret
    exact ⟨rfl, HBk.out⟩
end Go.Proofs.Ytaokhbodmodcgaa
end

section
/-
  The law of there and back, over contracts.
-/
namespace Go.Proofs.Ytaokhbodmodcgaa
open Go.RowKit
set_option maxRecDepth 100000

set_option maxHeartbeats 8000000 in
theorem back_law (hC : Calls7) (hW : WakesSays7) (r : Rc) (A : Option Addr) (c : Nat) (bs : List Nat) (B : Option Addr) (d : Nat) (w : World) (hw : WrsV w (fun _ => True) A c r.writes) (hr : r.Fine)
    (hy : By w w.heap.size B bs) (hd : bs.length ≤ d) (hm : d ≤ maxLen) (hn : B = none → d = 0) :
    Calls Try.prog 5 #[.agg (recv A c r).toArray, .slice B bs.length d] w fun e w' => e = .returned (.bool true) ∧ Below w.heap.size w w' := by
  obtain ⟨w1, hw1⟩ : ∃ w1, w1 = w.alloc (.cells (recv A c r).toArray 29) := ⟨_, rfl⟩
  have hb1 : Below w.heap.size w w1 := by rw [hw1]; exact (Below.refl _ w).alloc (Nat.le_refl _) _
  have hz1 : w1.heap.size = w.heap.size + 1 := by rw [hw1]; simp
  have g1 : w1.heap[w.heap.size]? = some (.cells (recv A c r).toArray 29 (0, 0)) := by rw [hw1]; exact heap_alloc_new w _
  have HW1 := Lib.hid hw1
  have HB1 := Lib.hid hb1
  have HZ1 := Lib.hid hz1
  have HGr := Lib.hid (fun W => great_any r A c W)
  have HRow := Lib.hid (show ∀ W, Below w1.heap.size w1 W → W.heap[w.heap.size]? = some (.cells (recv A c r).toArray 29 (0, 0)) from fun W hW => (hW.block _ (by omega)).trans g1)
  have HI := Lib.hid (sizeRR r A c)
  have HWk := Lib.hid hW
  have HRow1 := Lib.hid (HRow.out _ (Below.refl _ _))
  by_cases hbig : (r.writes.length : Int) > 40
  · rw [decide_eq_true hbig] at HGr
    clear hw hr hy hd hm hn hC hW hw1 hb1 hz1 g1 hbig
    go_enter Try.func5, Try.ntmps5
    go_wp2_with (first
      | (rw [← HW1.out])
      | (refine wpList_load_row rfl 29 _ rfl w.heap.size rfl 29 (recv A c r).toArray (0, 0) _ HRow1.out Try.underlying29 rfl HI.out ?_))
    refine (HGr.out _).mono ?_
    rintro e w2 ⟨rfl, hb2⟩
    have HB2 := Lib.hid (HB1.out.trans (hb2.mono HB1.out.size))
    clear hb2
    go_wp2_with fail
    refine (HWk.out _).mono ?_
    rintro e wk ⟨rfl, hbk⟩
    have HBk := Lib.hid (HB2.out.trans (hbk.mono HB2.out.size))
    clear hbk
    go_wp2
    go_ret
    exact ⟨rfl, HBk.out⟩
  rw [decide_eq_false hbig] at HGr
  have HAt := Lib.hid (show RcAt w A c r from ⟨hw, hr, by omega⟩)
  obtain ⟨m, hmm⟩ : ∃ m, m = bs.length := ⟨_, rfl⟩
  rw [← hmm] at hd ⊢
  by_cases h300 : (300 : Int) < (m : Int)
  · clear hw hr hy hd hm hn hC hW hw1 hb1 hz1 g1 hbig hmm
    go_enter Try.func5, Try.ntmps5
    go_wp2_with (first
      | (rw [← HW1.out])
      | (refine wpList_load_row rfl 29 _ rfl w.heap.size rfl 29 (recv A c r).toArray (0, 0) _ HRow1.out Try.underlying29 rfl HI.out ?_))
    refine (HGr.out _).mono ?_
    rintro e w2 ⟨rfl, hb2⟩
    have HB2 := Lib.hid (HB1.out.trans (hb2.mono HB1.out.size))
    clear hb2
    go_wp2_with fail
    refine (HWk.out _).mono ?_
    rintro e wk ⟨rfl, hbk⟩
    have HBk := Lib.hid (HB2.out.trans (hbk.mono HB2.out.size))
    clear hbk
    go_wp2
    go_ret
    exact ⟨rfl, HBk.out⟩
  have hm300 : m ≤ 300 := by omega
  have HMm := Lib.hid hmm
  have HY := Lib.hid hy
  have HD := Lib.hid (And.intro hd (And.intro hm hn))
  have HV8 := Lib.hid hr.writes.vals
  have HLt := Lib.hid (bytesL_lt hr.writes.vals)
  have HBy := Lib.hid hC.bytes
  have HMay := Lib.hid (fun A c W (h : RcAt W A c r) => hC.may r A c W h)
  have HSec := Lib.hid (fun W (h : RcAt W A c r) => hC.sectors r A c W h)
  have HSm := Lib.hid (fun A' c' W (h : RcAt W A' c' r) (h2 : RcAt W A c r) => hC.same r r A' A c' c W h h2)
  have HRd := Lib.hid hC.read
  clear hw hr hy hd hm hn hC hW hw1 hb1 hz1 g1 hbig hmm
  go_enter Try.func5, Try.ntmps5
  go_wp2_with (first
    | (rw [← HW1.out])
    | (refine wpList_load_row rfl 29 _ rfl w.heap.size rfl 29 (recv A c r).toArray (0, 0) _ HRow1.out Try.underlying29 rfl HI.out ?_))
  refine (HGr.out _).mono ?_
  rintro e w2 ⟨rfl, hb2⟩
  have HB2 := Lib.hid (HB1.out.trans (hb2.mono HB1.out.size))
  have HRow2 := Lib.hid (HRow.out _ hb2)
  have HX2 := Lib.hid hb2
  clear hb2
  go_wp2_with (refine wpList_load_row rfl 29 _ rfl w.heap.size rfl 29 (recv A c r).toArray (0, 0) _ HRow2.out Try.underlying29 rfl HI.out ?_)
  refine (HBy.out r A c w2 (HAt.out.below HB2.out)).mono ?_
  rintro e w3 ⟨v, rfl, hnew⟩
  obtain ⟨A3, c3, rfl, hy3, hl3, hm3, hn3, _⟩ := hnew.slice HLt.out
  have HB3 := Lib.hid (HB2.out.trans (hnew.2.mono HB2.out.size))
  have HX3 := Lib.hid (HX2.out.trans (hnew.2.mono HX2.out.size))
  have HY3 := Lib.hid hy3
  have HL3 := Lib.hid (And.intro hl3 (And.intro hm3 hn3))
  clear hnew hy3 hl3 hm3 hn3
  cases hmay : mayR r with
  | false =>
    have hE : bytesE r = 2 := by unfold bytesE; rw [hmay]; rfl
    rw [hE]
    clear hmay hE
    have HRt := Lib.hid (HRd.out bs B d w3 ((HY.out.below HB3.out (Nat.le_refl _)).mono HB3.out.size) (by have := HMm.out; omega) (by have := HMm.out; have := HD.out.1; omega) HD.out.2.1 HD.out.2.2)
    rw [← HMm.out] at HRt
    go_wp2_with fail
    refine HRt.out.mono ?_
    intro e w20 ht
    obtain ⟨A20, c20, rfl, hat, _, hb20⟩ := ht.at_
    obtain ⟨r2, hr2⟩ : ∃ r2, r2 = recOf bs := ⟨_, rfl⟩
    rw [← hr2] at hat ⊢
    have HR2 := Lib.hid hr2
    have HB20 := Lib.hid (HB3.out.trans (hb20.mono HB3.out.size))
    obtain ⟨hb21, hg21, hz21⟩ := box_made w20 #[.int .i8 0, .int .i64 0, .int .i64 0, .int .i64 0, .bool false, .slice none 0 0, .int .i64 0, .int .i64 0, .int .i64 0, .int .i64 0, .int .i64 0, .int .i64 0] (recv A20 c20 r2).toArray 29
    have HZ21 := Lib.hid (heap_alloc_new w20 (.cells #[.int .i8 0, .int .i64 0, .int .i64 0, .int .i64 0, .bool false, .slice none 0 0, .int .i64 0, .int .i64 0, .int .i64 0, .int .i64 0, .int .i64 0, .int .i64 0] 29))
    obtain ⟨w21, hw21⟩ : ∃ w21, w21 = (w20.alloc (.cells #[.int .i8 0, .int .i64 0, .int .i64 0, .int .i64 0, .bool false, .slice none 0 0, .int .i64 0, .int .i64 0, .int .i64 0, .int .i64 0, .int .i64 0, .int .i64 0] 29)).setRow w20.heap.size (recv A20 c20 r2).toArray := ⟨_, rfl⟩
    rw [← hw21] at hb21 hg21 hz21
    have HW21 := Lib.hid hw21
    have HG21 := Lib.hid hg21
    have HB21 := Lib.hid (HB20.out.trans (hb21.mono HB20.out.size))
    have HAt2 := Lib.hid (hat.below hb21)
    have HI21 := Lib.hid (sizeRR r2 A20 c20)
    have HS21 := Lib.hid (show (#[.int .i8 0, .int .i64 0, .int .i64 0, .int .i64 0, .bool false, .slice none 0 0, .int .i64 0, .int .i64 0, .int .i64 0, .int .i64 0, .int .i64 0, .int .i64 0] : Array Value).size = (recv A20 c20 r2).toArray.size from rfl)
    have HO21 := Lib.hid (show (recv A20 c20 r2).toArray.all (·.oneCell') = true by simp [recv, Value.oneCell'])
    clear ht hat hb20 hb21 hg21 hz21 hw21 hr2
    cases hrd : readR bs with
    | none =>
      rw [show readErr bs = 40 from by unfold readErr; rw [hrd]; rfl]
      clear hrd
      go_wp2_with (refine wpList_store_row rfl 29 _ _ rfl w20.heap.size (recv A20 c20 r2).toArray rfl rfl 29 #[.int .i8 0, .int .i64 0, .int .i64 0, .int .i64 0, .bool false, .slice none 0 0, .int .i64 0, .int .i64 0, .int .i64 0, .int .i64 0, .int .i64 0, .int .i64 0] HZ21.out HI21.out HS21.out HO21.out ?_; rw [← HW21.out])
      refine (HWk.out _).mono ?_
      rintro e wk ⟨rfl, hbk⟩
      have HBk := Lib.hid (HB21.out.trans (hbk.mono HB21.out.size))
      clear hbk
      go_wp2
      go_ret
      exact ⟨rfl, HBk.out⟩
    | some r3 =>
      rw [show readErr bs = 0 from by unfold readErr; rw [hrd]; rfl]
      have e3 : r2 = r3 := by rw [HR2.out]; unfold recOf; rw [hrd]; rfl
      obtain ⟨hbr, hmr⟩ := bytes_read hrd HY.out.1
      have hBy2 := HBy.out r2 A20 c20 w21 HAt2.out
      rw [show bytesE r2 = 0 from by unfold bytesE; rw [e3, hmr]; rfl, show bytesL r2 = bs from by unfold bytesL; rw [e3, hmr]; exact hbr] at hBy2
      have HBy2 := Lib.hid hBy2
      clear hrd e3 hbr hmr hBy2
      go_wp2_with (first
        | (refine wpList_store_row rfl 29 _ _ rfl w20.heap.size (recv A20 c20 r2).toArray rfl rfl 29 #[.int .i8 0, .int .i64 0, .int .i64 0, .int .i64 0, .bool false, .slice none 0 0, .int .i64 0, .int .i64 0, .int .i64 0, .int .i64 0, .int .i64 0, .int .i64 0] HZ21.out HI21.out HS21.out HO21.out ?_; rw [← HW21.out])
        | (refine wpList_load_row rfl 29 _ rfl w20.heap.size rfl 29 (recv A20 c20 r2).toArray (0, 0) _ HG21.out Try.underlying29 rfl HI21.out ?_))
      refine HBy2.out.mono ?_
      rintro e w22 ⟨v22, rfl, hnew⟩
      have HB22 := Lib.hid (HB21.out.trans (hnew.2.mono HB21.out.size))
      have k1 := (hnew.strAt HY.out.1).here
      have k2 := ((HY.out.below HB22.out (Nat.le_refl _)).mono HB22.out.size).strAt (c := d) |>.here
      rw [← HMm.out] at k2
      clear hnew
      generalize str bs = s at *
      go_wp2_with fail
      refine (HWk.out _).mono ?_
      rintro e wk ⟨rfl, hbk⟩
      have HBk := Lib.hid (HB22.out.trans (hbk.mono HB22.out.size))
      clear hbk
      go_wp2
      go_ret
      exact ⟨rfl, HBk.out⟩
  | true =>
    have hE : bytesE r = 0 := by unfold bytesE; rw [hmay]; rfl
    have hL : bytesL r = bytesR r := by unfold bytesL; rw [hmay]; rfl
    have hlen := bytes_len hmay HV8.out
    have HSh := Lib.hid (fun k (hk : k < (bytesR r).length) => read_short hmay HV8.out hk)
    have HSa := Lib.hid (read_bytes hmay HV8.out)
    have hS : sectorsR r = ((((bytesR r).length + 44) / 45 : Nat) : Int) := by unfold sectorsR; rw [hmay]; rfl
    rw [hmay] at HMay
    rw [hL] at HY3 HL3 HLt
    rw [hE, hL]
    rw [hS, hE] at HSec
    obtain ⟨T, hT⟩ : ∃ T, T = bytesR r := ⟨_, rfl⟩
    rw [← hT] at HY3 HL3 HLt hlen HSh HSa HSec ⊢
    obtain ⟨n, hn⟩ : ∃ n, n = T.length := ⟨_, rfl⟩
    rw [← hn] at hlen HSh HL3 HSec ⊢
    have HNn := Lib.hid hn
    obtain ⟨s, hs⟩ : ∃ s, s = (n + 44) / 45 := ⟨_, rfl⟩
    rw [← hs] at HSec
    have hr1 := HRd.out T A3 c3 w3 HY3.out (by omega) (by have := HL3.out.1; omega) HL3.out.2.1 HL3.out.2.2
    rw [← hn] at hr1
    have HR1 := Lib.hid hr1
    have hr2 := fun W (hW : Below w3.heap.size w3 W) => HRd.out (T.take (n - 1)) A3 c3 W (((HY3.out.below hW (Nat.le_refl _)).mono hW.size).take (n - 1)) (by rw [List.length_take]; omega) (by rw [List.length_take]; have := HL3.out.1; omega) HL3.out.2.1 HL3.out.2.2
    rw [show (T.take (n - 1)).length = n - 1 by rw [List.length_take, ← hn]; omega] at hr2
    have HR2x := Lib.hid hr2
    have HNo := Lib.hid (HSh.out (n - 1) (by omega))
    have hkc : n - 1 ≤ c3 := by have := HL3.out.1; omega
    clear hmay hE hL hS hT hr1 hr2 hn
    go_wp2_with fail
    refine HR1.out.mono ?_
    intro e w4 ht
    obtain ⟨A4, c4, rfl, hat4, _, hb4⟩ := ht.at_
    have he4 : recOf T = r := by unfold recOf; rw [HSa.out]; rfl
    rw [he4] at hat4
    rw [he4, show readErr T = 0 from by unfold readErr; rw [HSa.out]; rfl]
    have HB4 := Lib.hid (HB3.out.trans (hb4.mono HB3.out.size))
    obtain ⟨hb5, hg5, hz5⟩ := box_made w4 #[.int .i8 0, .int .i64 0, .int .i64 0, .int .i64 0, .bool false, .slice none 0 0, .int .i64 0, .int .i64 0, .int .i64 0, .int .i64 0, .int .i64 0, .int .i64 0] (recv A4 c4 r).toArray 29
    have HZ5 := Lib.hid (heap_alloc_new w4 (.cells #[.int .i8 0, .int .i64 0, .int .i64 0, .int .i64 0, .bool false, .slice none 0 0, .int .i64 0, .int .i64 0, .int .i64 0, .int .i64 0, .int .i64 0, .int .i64 0] 29))
    obtain ⟨w5, hw5⟩ : ∃ w5, w5 = (w4.alloc (.cells #[.int .i8 0, .int .i64 0, .int .i64 0, .int .i64 0, .bool false, .slice none 0 0, .int .i64 0, .int .i64 0, .int .i64 0, .int .i64 0, .int .i64 0, .int .i64 0] 29)).setRow w4.heap.size (recv A4 c4 r).toArray := ⟨_, rfl⟩
    rw [← hw5] at hb5 hg5 hz5
    have HW5 := Lib.hid hw5
    have HB5 := Lib.hid (HB4.out.trans (hb5.mono HB4.out.size))
    have hb35 : Below w3.heap.size w3 w5 := hb4.trans (hb5.mono hb4.size)
    have HB35 := Lib.hid hb35
    have HRow5 := Lib.hid (HRow.out _ (HX3.out.trans (hb35.mono HX3.out.size)))
    have HG5 := Lib.hid hg5
    have HZ6 := Lib.hid hz5
    have HAt5 := Lib.hid (hat4.below hb5)
    have HI5 := Lib.hid (sizeRR r A4 c4)
    have HS5 := Lib.hid (show (#[.int .i8 0, .int .i64 0, .int .i64 0, .int .i64 0, .bool false, .slice none 0 0, .int .i64 0, .int .i64 0, .int .i64 0, .int .i64 0, .int .i64 0, .int .i64 0] : Array Value).size = (recv A4 c4 r).toArray.size from rfl)
    have HO5 := Lib.hid (show (recv A4 c4 r).toArray.all (·.oneCell') = true by simp [recv, Value.oneCell'])
    clear ht hat4 he4 hb4 hb5 hg5 hz5 hw5 hb35
    go_wp2_with (first
      | (refine wpList_store_row rfl 29 _ _ rfl w4.heap.size (recv A4 c4 r).toArray rfl rfl 29 #[.int .i8 0, .int .i64 0, .int .i64 0, .int .i64 0, .bool false, .slice none 0 0, .int .i64 0, .int .i64 0, .int .i64 0, .int .i64 0, .int .i64 0, .int .i64 0] HZ5.out HI5.out HS5.out HO5.out ?_; rw [← HW5.out])
      | (refine wpList_load_row rfl 29 _ rfl w.heap.size rfl 29 (recv A c r).toArray (0, 0) _ HRow5.out Try.underlying29 rfl HI.out ?_))
    refine (HSec.out w5 (HAt.out.below HB5.out)).mono ?_
    rintro e w6 ⟨rfl, hb6⟩
    have HB6 := Lib.hid (HB5.out.trans (hb6.mono HB5.out.size))
    have HB36 := Lib.hid (HB35.out.trans (hb6.mono HB35.out.size))
    have HG6 := Lib.hid ((hb6.block w4.heap.size (by have := HZ6.out; omega)).trans HG5.out)
    have HAt6 := Lib.hid (HAt5.out.below hb6)
    have HRow6 := Lib.hid (HRow.out _ (HX3.out.trans (HB36.out.mono HX3.out.size)))
    have HSm6 := Lib.hid (show Calls Try.prog 20 #[.agg #[.int .i8 r.kind, .int .i64 r.name.stamp, .int .i64 r.name.inc, .int .i64 r.name.att, .bool r.yes, .slice A4 r.writes.length c4, .int .i64 r.give, .int .i64 r.take, .int .i64 r.shards, .int .i64 r.stripe, .int .i64 r.dest, .int .i64 r.n], .agg #[.int .i8 r.kind, .int .i64 r.name.stamp, .int .i64 r.name.inc, .int .i64 r.name.att, .bool r.yes, .slice A r.writes.length c, .int .i64 r.give, .int .i64 r.take, .int .i64 r.shards, .int .i64 r.stripe, .int .i64 r.dest, .int .i64 r.n]] w6 fun e w' => e = .returned (.bool true) ∧ Below w6.heap.size w6 w' from by
      have h := HSm.out A4 c4 w6 HAt6.out (HAt.out.below HB6.out)
      simp only [decide_true] at h
      exact h)
    have HLtS := Lib.hid (show w4.heap.size < w6.heap.size by have := HZ6.out; have := hb6.size; omega)
    clear hb6
    have x0 := row_lit (cs := recv A c r) HRow6.out 0 _ rfl
    have x1 := row_lit (cs := recv A c r) HRow6.out 1 _ rfl
    have x2 := row_lit (cs := recv A c r) HRow6.out 2 _ rfl
    have x3 := row_lit (cs := recv A c r) HRow6.out 3 _ rfl
    have x4 := row_lit (cs := recv A c r) HRow6.out 4 _ rfl
    have x5 := row_lit (cs := recv A c r) HRow6.out 5 _ rfl
    have x6 := row_lit (cs := recv A c r) HRow6.out 6 _ rfl
    have x7 := row_lit (cs := recv A c r) HRow6.out 7 _ rfl
    have x8 := row_lit (cs := recv A c r) HRow6.out 8 _ rfl
    have x9 := row_lit (cs := recv A c r) HRow6.out 9 _ rfl
    have x10 := row_lit (cs := recv A c r) HRow6.out 10 _ rfl
    have x11 := row_lit (cs := recv A c r) HRow6.out 11 _ rfl
    have y0 := row_lit (cs := recv A4 c4 r) HG6.out 0 _ rfl
    have y1 := row_lit (cs := recv A4 c4 r) HG6.out 1 _ rfl
    have y2 := row_lit (cs := recv A4 c4 r) HG6.out 2 _ rfl
    have y3 := row_lit (cs := recv A4 c4 r) HG6.out 3 _ rfl
    have y4 := row_lit (cs := recv A4 c4 r) HG6.out 4 _ rfl
    have y5 := row_lit (cs := recv A4 c4 r) HG6.out 5 _ rfl
    have y6 := row_lit (cs := recv A4 c4 r) HG6.out 6 _ rfl
    have y7 := row_lit (cs := recv A4 c4 r) HG6.out 7 _ rfl
    have y8 := row_lit (cs := recv A4 c4 r) HG6.out 8 _ rfl
    have y9 := row_lit (cs := recv A4 c4 r) HG6.out 9 _ rfl
    have y10 := row_lit (cs := recv A4 c4 r) HG6.out 10 _ rfl
    have y11 := row_lit (cs := recv A4 c4 r) HG6.out 11 _ rfl
    have hs1 : ¬ (s : Int) < 1 := by omega
    have hs2 : ¬ (2 : Int) < (s : Int) := by omega
    have hs3 : IntKind.i64.wrap ((s : Int) * 45) = (s : Int) * 45 := by rw [IntKind.wrap_i64]; omega
    have hs4 : IntKind.i64.wrap ((s : Int) - 1) = (s : Int) - 1 := by rw [IntKind.wrap_i64]; omega
    have hs5 : IntKind.i64.wrap (((s : Int) - 1) * 45) = ((s : Int) - 1) * 45 := by rw [IntKind.wrap_i64]; omega
    have hs6 : ¬ (s : Int) * 45 < (n : Int) := by omega
    have hs7 : ¬ (n : Int) ≤ ((s : Int) - 1) * 45 := by omega
    have hs8 : IntKind.i64.wrap ((n : Int) - 1) = ((n - 1 : Nat) : Int) := by rw [IntKind.wrap_i64]; omega
    clear hs
    go_wp2_with fail
    refine HSm6.out.mono ?_
    rintro e w7 ⟨rfl, hb7⟩
    have HB7 := Lib.hid (HB6.out.trans (hb7.mono HB6.out.size))
    have HB37 := Lib.hid (HB36.out.trans (hb7.mono HB36.out.size))
    have HG7 := Lib.hid ((hb7.block w4.heap.size HLtS.out).trans HG6.out)
    have HMay7 := Lib.hid (show Calls Try.prog 14 #[.agg #[.int .i8 r.kind, .int .i64 r.name.stamp, .int .i64 r.name.inc, .int .i64 r.name.att, .bool r.yes, .slice A4 r.writes.length c4, .int .i64 r.give, .int .i64 r.take, .int .i64 r.shards, .int .i64 r.stripe, .int .i64 r.dest, .int .i64 r.n]] w7 fun e w' => e = .returned (.bool true) ∧ Below w7.heap.size w7 w' from HMay.out A4 c4 w7 (HAt6.out.below hb7))
    clear hb7
    clear x0 y0 x1 y1 x2 y2 x3 y3 x4 y4 x5 y5 x6 y6 x7 y7 x8 y8 x9 y9 x10 y10 x11 y11
    have u0 := row_lit (cs := recv A4 c4 r) HG7.out 0 _ rfl
    have u1 := row_lit (cs := recv A4 c4 r) HG7.out 1 _ rfl
    have u2 := row_lit (cs := recv A4 c4 r) HG7.out 2 _ rfl
    have u3 := row_lit (cs := recv A4 c4 r) HG7.out 3 _ rfl
    have u4 := row_lit (cs := recv A4 c4 r) HG7.out 4 _ rfl
    have u5 := row_lit (cs := recv A4 c4 r) HG7.out 5 _ rfl
    have u6 := row_lit (cs := recv A4 c4 r) HG7.out 6 _ rfl
    have u7 := row_lit (cs := recv A4 c4 r) HG7.out 7 _ rfl
    have u8 := row_lit (cs := recv A4 c4 r) HG7.out 8 _ rfl
    have u9 := row_lit (cs := recv A4 c4 r) HG7.out 9 _ rfl
    have u10 := row_lit (cs := recv A4 c4 r) HG7.out 10 _ rfl
    have u11 := row_lit (cs := recv A4 c4 r) HG7.out 11 _ rfl
    go_wp2_with fail
    refine HMay7.out.mono ?_
    rintro e w8 ⟨rfl, hb8⟩
    have HB8 := Lib.hid (HB7.out.trans (hb8.mono HB7.out.size))
    have HB38 := Lib.hid (HB37.out.trans (hb8.mono HB37.out.size))
    clear hb8
    clear u0 u1 u2 u3 u4 u5 u6 u7 u8 u9 u10 u11
    go_wp2_with fail
    refine (HR2x.out w8 HB38.out).mono ?_
    rintro e w9 ⟨A9, c9, rfl, _, _, hb9⟩
    rw [show readErr (T.take (n - 1)) = 40 from by unfold readErr; rw [HNo.out]; rfl]
    have HB9 := Lib.hid (HB8.out.trans (hb9.mono HB8.out.size))
    clear hb9
    go_wp2_with fail
    have HRt := Lib.hid (HRd.out bs B d w9 ((HY.out.below HB9.out (Nat.le_refl _)).mono HB9.out.size) (by have := HMm.out; omega) (by have := HMm.out; have := HD.out.1; omega) HD.out.2.1 HD.out.2.2)
    rw [← HMm.out] at HRt
    go_wp2_with fail
    refine HRt.out.mono ?_
    intro e w20 ht
    obtain ⟨A20, c20, rfl, hat, _, hb20⟩ := ht.at_
    obtain ⟨r2, hr2⟩ : ∃ r2, r2 = recOf bs := ⟨_, rfl⟩
    rw [← hr2] at hat ⊢
    have HR2 := Lib.hid hr2
    have HB20 := Lib.hid (HB9.out.trans (hb20.mono HB9.out.size))
    obtain ⟨hb21, hg21, hz21⟩ := box_made w20 #[.int .i8 0, .int .i64 0, .int .i64 0, .int .i64 0, .bool false, .slice none 0 0, .int .i64 0, .int .i64 0, .int .i64 0, .int .i64 0, .int .i64 0, .int .i64 0] (recv A20 c20 r2).toArray 29
    have HZ21 := Lib.hid (heap_alloc_new w20 (.cells #[.int .i8 0, .int .i64 0, .int .i64 0, .int .i64 0, .bool false, .slice none 0 0, .int .i64 0, .int .i64 0, .int .i64 0, .int .i64 0, .int .i64 0, .int .i64 0] 29))
    obtain ⟨w21, hw21⟩ : ∃ w21, w21 = (w20.alloc (.cells #[.int .i8 0, .int .i64 0, .int .i64 0, .int .i64 0, .bool false, .slice none 0 0, .int .i64 0, .int .i64 0, .int .i64 0, .int .i64 0, .int .i64 0, .int .i64 0] 29)).setRow w20.heap.size (recv A20 c20 r2).toArray := ⟨_, rfl⟩
    rw [← hw21] at hb21 hg21 hz21
    have HW21 := Lib.hid hw21
    have HG21 := Lib.hid hg21
    have HB21 := Lib.hid (HB20.out.trans (hb21.mono HB20.out.size))
    have HAt2 := Lib.hid (hat.below hb21)
    have HI21 := Lib.hid (sizeRR r2 A20 c20)
    have HS21 := Lib.hid (show (#[.int .i8 0, .int .i64 0, .int .i64 0, .int .i64 0, .bool false, .slice none 0 0, .int .i64 0, .int .i64 0, .int .i64 0, .int .i64 0, .int .i64 0, .int .i64 0] : Array Value).size = (recv A20 c20 r2).toArray.size from rfl)
    have HO21 := Lib.hid (show (recv A20 c20 r2).toArray.all (·.oneCell') = true by simp [recv, Value.oneCell'])
    clear ht hat hb20 hb21 hg21 hz21 hw21 hr2
    cases hrd : readR bs with
    | none =>
      rw [show readErr bs = 40 from by unfold readErr; rw [hrd]; rfl]
      clear hrd
      go_wp2_with (refine wpList_store_row rfl 29 _ _ rfl w20.heap.size (recv A20 c20 r2).toArray rfl rfl 29 #[.int .i8 0, .int .i64 0, .int .i64 0, .int .i64 0, .bool false, .slice none 0 0, .int .i64 0, .int .i64 0, .int .i64 0, .int .i64 0, .int .i64 0, .int .i64 0] HZ21.out HI21.out HS21.out HO21.out ?_; rw [← HW21.out])
      refine (HWk.out _).mono ?_
      rintro e wk ⟨rfl, hbk⟩
      have HBk := Lib.hid (HB21.out.trans (hbk.mono HB21.out.size))
      clear hbk
      go_wp2
      go_ret
      exact ⟨rfl, HBk.out⟩
    | some r3 =>
      rw [show readErr bs = 0 from by unfold readErr; rw [hrd]; rfl]
      have e3 : r2 = r3 := by rw [HR2.out]; unfold recOf; rw [hrd]; rfl
      obtain ⟨hbr, hmr⟩ := bytes_read hrd HY.out.1
      have hBy2 := HBy.out r2 A20 c20 w21 HAt2.out
      rw [show bytesE r2 = 0 from by unfold bytesE; rw [e3, hmr]; rfl, show bytesL r2 = bs from by unfold bytesL; rw [e3, hmr]; exact hbr] at hBy2
      have HBy2 := Lib.hid hBy2
      clear hrd e3 hbr hmr hBy2
      go_wp2_with (first
        | (refine wpList_store_row rfl 29 _ _ rfl w20.heap.size (recv A20 c20 r2).toArray rfl rfl 29 #[.int .i8 0, .int .i64 0, .int .i64 0, .int .i64 0, .bool false, .slice none 0 0, .int .i64 0, .int .i64 0, .int .i64 0, .int .i64 0, .int .i64 0, .int .i64 0] HZ21.out HI21.out HS21.out HO21.out ?_; rw [← HW21.out])
        | (refine wpList_load_row rfl 29 _ rfl w20.heap.size rfl 29 (recv A20 c20 r2).toArray (0, 0) _ HG21.out Try.underlying29 rfl HI21.out ?_))
      refine HBy2.out.mono ?_
      rintro e w22 ⟨v22, rfl, hnew⟩
      have HB22 := Lib.hid (HB21.out.trans (hnew.2.mono HB21.out.size))
      have k1 := (hnew.strAt HY.out.1).here
      have k2 := ((HY.out.below HB22.out (Nat.le_refl _)).mono HB22.out.size).strAt (c := d) |>.here
      rw [← HMm.out] at k2
      clear hnew
      generalize str bs = s at *
      go_wp2_with fail
      refine (HWk.out _).mono ?_
      rintro e wk ⟨rfl, hbk⟩
      have HBk := Lib.hid (HB22.out.trans (hbk.mono HB22.out.size))
      clear hbk
      go_wp2
      go_ret
      exact ⟨rfl, HBk.out⟩
end Go.Proofs.Ytaokhbodmodcgaa
end

section
/-
  The developers' calls of record, all of them.
-/
namespace Go.Proofs.Ytaokhbodmodcgaa
theorem calls7 : Calls7 := ⟨may_says, named_says, written_says, same_says, less_says, bytes_says, sectors_says, read_says⟩
end Go.Proofs.Ytaokhbodmodcgaa
end
