/-
  The developers' answers: blocks with writes (On).
-/
import Derived.Test.YtipgphdndleodaaODget
import Derived.Test.YtipgphdndleodaaOHome
namespace Go.Proofs.Ytipgphdndleodaa
set_option maxRecDepth 100000
open Go.RowKit
set_option maxRecDepth 100000

theorem results_cell1 {P : Program} {fn : Func} {p : Tmp} {t : TypeId} (h : fn.results = #[.cell p t]) (tmps : Array Value) (w : World) (g : Nat) (cs : Array Value) (fr : Nat × Nat) (d : TypeDesc)
    (hp : tmps.getD p undef = .pointer (some ⟨g, 0, none⟩)) (hg : w.heap[g]? = some (.cells cs t fr)) (hu : P.underlying t = some d) (hd : (match d with | .struct _ | .array _ _ => true | _ => false) = true) (hi : (P.info? t).map (·.size) = some cs.size) :
    (results fn tmps).run P w = .ok (.agg cs) w := by
  have hp' : tmps[p]?.getD undef = .pointer (some ⟨g, 0, none⟩) := by simpa using hp
  simp [results, h, hp', asAddr, run_loadVar_row w g t t cs fr d hg hu hd hi]
theorem home_zero : (Try.prog.info? 24).map (·.zero) = some (some (.agg (Array.replicate 256 (.int .u8 0)))) := by kernel_rfl
theorem home_info : (Try.prog.info? 24).map (·.size) = some 256 := by kernel_rfl
def hvA (g : Int → List Nat) (k : Nat) : List Value := (List.range k).flatMap fun (j : Nat) => vals (g (j : Int))
def hvB (g : Int → List Nat) (k : Nat) : List Value := (List.range' (k + 1) (31 - k)).flatMap fun (j : Nat) => vals (g (j : Int))
theorem fm_congr {α β : Type} {f g : α → List β} : ∀ {l : List α}, (∀ x ∈ l, f x = g x) → l.flatMap f = l.flatMap g := by
  intro l
  induction l with
  | nil => intro _; rfl
  | cons x l ih => intro h; rw [List.flatMap_cons, List.flatMap_cons, h x List.mem_cons_self, ih fun y hy => h y (List.mem_cons_of_mem _ hy)]
theorem hv_split (g : Int → List Nat) {k : Nat} (hk : k < 32) : hv g = hvA g k ++ vals (g (k : Int)) ++ hvB g k := by
  have e : List.range 32 = List.range k ++ ([k] ++ List.range' (k + 1) (31 - k)) := by
    rw [show List.range 32 = List.range (k + (31 - k + 1)) by congr 1; omega, List.range_add, List.range_eq_range' (n := 31 - k + 1), List.range'_succ, List.map_cons]
    simp only [Nat.add_zero, List.cons_append, List.nil_append]
    rw [List.map_add_range']
  unfold hv hvA hvB
  rw [e, List.flatMap_append, List.flatMap_append, List.flatMap_singleton, List.append_assoc]
theorem hvA_length {g : Int → List Nat} (hg : HFine g) {k : Nat} (hk : k ≤ 32) : (hvA g k).length = k * 8 := by
  unfold hvA
  rw [List.length_flatMap]
  have e : ∀ j ∈ List.range k, (vals (g ((j : Nat) : Int))).length = 8 := fun j hj => by
    rw [vals_length]; exact (hg j (by omega) (by have := List.mem_range.1 hj; omega)).1
  rw [List.map_congr_left e, sum_eight, List.length_range]
abbrev putH (g : Int → List Nat) (x : Wt) : Int → List Nat := fun j => if j = x.1 then x.2 else g j
theorem hv_put (g : Int → List Nat) (x : Wt) {k : Nat} (hk : k < 32) (e : x.1 = (k : Int)) : hv (putH g x) = hvA g k ++ vals x.2 ++ hvB g k := by
  rw [hv_split (putH g x) hk]
  have h1 : hvA (putH g x) k = hvA g k := by
    unfold hvA
    refine fm_congr fun j hj => ?_
    have := List.mem_range.1 hj
    simp only [putH]
    rw [if_neg (by omega)]
  have h2 : hvB (putH g x) k = hvB g k := by
    unfold hvB
    refine fm_congr fun j hj => ?_
    have := (List.mem_range'.1 hj)
    obtain ⟨i, _, e2⟩ := this
    simp only [putH]
    rw [if_neg (by omega)]
  rw [h1, h2]
  simp only [putH]
  rw [if_pos e.symm]
theorem hv_out (g : Int → List Nat) (x : Wt) (h : blockB x.1 = false) : hv (putH g x) = hv g := by
  unfold blockB at h
  have h := of_decide_eq_false h
  unfold hv
  refine fm_congr fun j hj => ?_
  have := List.mem_range.1 hj
  simp only [putH]
  rw [if_neg (by omega)]
theorem on_snoc (h : Int → List Nat) (l : List Wt) {k : Nat} (hk : k < l.length) : onW h (l.take (k + 1)) = putH (onW h (l.take k)) l[k] := by
  rw [List.take_succ_eq_append_getElem hk]
  unfold onW
  rw [List.foldl_append]
  rfl
theorem take_fine {l : List Wt} (h : WrFine l) (k : Nat) : WrFine (l.take k) := fun x hx => h x (List.mem_of_mem_take hx)
set_option maxHeartbeats 4000000 in
theorem on_dev (h : Int → List Nat) (l : List Wt) (A : Option Addr) (c : Nat) (w : World) (hl : WsAt w A c l) (hh : HFine h) :
    Calls Try.prog 10 #[.agg (hv h).toArray, .slice A l.length c] w fun e w' => e = .returned (.agg (hv (onW h l)).toArray) ∧ Below w.heap.size w w' := by
  obtain ⟨n, hn⟩ : ∃ n, n = l.length := ⟨_, rfl⟩
  have hfew := hl.few
  rw [← hn] at hfew ⊢
  have HN := Lib.hid hn
  have HW := Lib.hid hl.at_.at_
  have HF := Lib.hid hl.fine
  have HH := Lib.hid hh
  obtain ⟨R, hR⟩ : ∃ R, R = (hv h).toArray := ⟨_, rfl⟩
  obtain ⟨Z, hZ⟩ : ∃ Z : Array Value, Z = (Array.replicate 256 (.int .u8 0)) := ⟨_, rfl⟩
  have HZ := Lib.hid (show (Try.prog.info? 24).map (·.zero) = some (some (.agg Z)) by rw [hZ]; exact home_zero)
  have HZs := Lib.hid (show Z.size = 256 by rw [hZ]; simp)
  obtain ⟨w1, hw1⟩ : ∃ w1, w1 = (w.alloc (.cells R 24)).alloc (.cells Z 24) := ⟨_, rfl⟩
  have hb1 : Below w.heap.size w w1 := by rw [hw1]; exact ((Below.refl _ w).alloc (Nat.le_refl _) _).alloc (by simp) _
  have hs1 : w1.heap.size = w.heap.size + 2 := by rw [hw1]; simp
  have HG0 := Lib.hid (show w1.heap[w.heap.size]? = some (.cells R 24 (0, 0)) by rw [hw1]; exact (Below.heap_alloc _ _ _ (by simp)).trans (heap_alloc_new w _))
  have HG1 := Lib.hid (show w1.heap[w.heap.size + 1]? = some (.cells Z 24 (0, 0)) by
    rw [hw1]
    have h := heap_alloc_new (w.alloc (.cells R 24)) (.cells Z 24)
    rwa [World.size_alloc] at h)
  have HB1 := Lib.hid hb1
  have HS1 := Lib.hid hs1
  have HW1 := Lib.hid hw1
  have HR := Lib.hid hR
  rw [← hR]
  obtain ⟨E, hE⟩ : ∃ E, E = (hv (onW h l)).toArray := ⟨_, rfl⟩
  rw [← hE]
  have HE := Lib.hid hE
  clear hn hl hR hZ hb1 hs1 hw1 hh hE
  go_enter Try.func10, Try.ntmps10
  go_wp2_with (refine wpList_alloc_any rfl 24 rfl Z HZ.out ?_; rw [World.size_alloc, ← HW1.out])
  go_loopw [9] (fun i wr => ∃ k : Nat, k ≤ n ∧ i = .int .i64 (k : Int) ∧ wr.heap[w.heap.size]? = some (.cells (hv (onW h (l.take k))).toArray 24 (0, 0)) ∧ wr.heap[w.heap.size + 1]? = some (.cells Z 24 (0, 0)) ∧ Below w.heap.size w wr) (fun i _ => n - (intOf i).toNat)
  case atStart => exact ⟨0, Nat.zero_le _, rfl, by rw [HG0.out, HR.out]; rfl, HG1.out, HB1.out⟩
  case round =>
    obtain ⟨k, hk, rfl, hg0, hg1, hb⟩ := hrel
    have HBr := Lib.hid hb
    by_cases hlt : k < n
    · have hkl : k < l.length := by rw [← HN.out]; exact hlt
      obtain ⟨b, off, rfl, ⟨_, hbl⟩, hc⟩ := HW.out (by omega)
      have hx := HF.out l[k] (List.getElem_mem hkl)
      have HC := Lib.hid (show ∀ j u, (wrv l[k])[j]? = some u → wr.cell? ⟨b, off + k * 9 + j, none⟩ = some u from fun j u hu => (World.cell?_of_block (w := w) (hb.block b hbl)).trans (hc k hkl j u hu))
      have HSn := Lib.hid (on_snoc h l hkl)
      have HFg := Lib.hid (on_fine HH.out (take_fine HF.out k))
      have hsz0 : w.heap.size < wr.heap.size := (Array.getElem?_eq_some_iff.1 hg0).1
      have hsz1 : w.heap.size + 1 < wr.heap.size := (Array.getElem?_eq_some_iff.1 hg1).1
      clear hc hb
      generalize onW h (l.take k) = g at *
      generalize l[k] = x at *
      have HI := Lib.hid (write_infos hx.2.1)
      have HIa := Lib.hid (show (Try.prog.info? 27).map (·.size) = some (wrv x).toArray.size by rw [HI.out]; simp)
      have HZx := Lib.hid (show (#[.int .i64 0, .int .u8 0, .int .u8 0, .int .u8 0, .int .u8 0, .int .u8 0, .int .u8 0, .int .u8 0, .int .u8 0] : Array Value).size = (wrv x).toArray.size by simp [wrv_length hx.2.1])
      have HO := Lib.hid (show (wrv x).toArray.all (·.oneCell') = true by
        have h : (wrv x).all (·.oneCell') = true := List.all_eq_true.2 fun u hu => by
          rcases List.mem_cons.1 hu with rfl | hu
          · rfl
          · exact vals_one u hu
        simpa using h)
      obtain ⟨hb2, hg2, hz2⟩ := box_made wr #[.int .i64 0, .int .u8 0, .int .u8 0, .int .u8 0, .int .u8 0, .int .u8 0, .int .u8 0, .int .u8 0, .int .u8 0] (wrv x).toArray 27
      have HA1 := Lib.hid (heap_alloc_new wr (.cells #[.int .i64 0, .int .u8 0, .int .u8 0, .int .u8 0, .int .u8 0, .int .u8 0, .int .u8 0, .int .u8 0, .int .u8 0] 27))
      obtain ⟨w2, hw2⟩ : ∃ w2, w2 = (wr.alloc (.cells #[.int .i64 0, .int .u8 0, .int .u8 0, .int .u8 0, .int .u8 0, .int .u8 0, .int .u8 0, .int .u8 0, .int .u8 0] 27)).setRow wr.heap.size (wrv x).toArray := ⟨_, rfl⟩
      rw [← hw2] at hb2 hg2 hz2
      have HW2 := Lib.hid hw2
      have HB2 := Lib.hid (HBr.out.trans (hb2.mono HBr.out.size))
      have HG0 := Lib.hid ((hb2.block _ hsz0).trans hg0)
      have HG1 := Lib.hid ((hb2.block _ hsz1).trans hg1)
      have c0 : w2.cell? ⟨wr.heap.size, 0, none⟩ = some (.int .i64 x.1) := by rw [cell_of_row w2 _ 0 _ _ _ hg2]; rfl
      have HCv := Lib.hid (show ∀ j u, (vals x.2)[j]? = some u → w2.cell? ⟨wr.heap.size, 1 + j, none⟩ = some u from fun j u hu => by
        rw [cell_of_row w2 _ (1 + j) _ _ _ hg2]; unfold wrv; rw [Nat.add_comm]; simpa using hu)
      have HIv := Lib.hid (show (Try.prog.info? 23).map (·.size) = some (vals x.2).length by rw [vals_length, hx.2.1]; kernel_rfl)
      have HBl := Lib.hid (fun W => isBlock_dev x.1 W)
      have hki : (k : Int) < (n : Int) := by omega
      have hw : IntKind.i64.wrap ((k : Int) + 1) = (k : Int) + 1 := by rw [IntKind.wrap_i64]; omega
      have HX := Lib.hid hx
      clear hw2 hb2 hg2 hz2 hg0 hg1 hx
      cases hbk : blockB x.1 with
      | true =>
        unfold blockB at hbk
        have hbk := of_decide_eq_true hbk
        obtain ⟨q, hq⟩ : ∃ q : Nat, x.1 = (q : Int) := ⟨x.1.toNat, by omega⟩
        have hq32 : q < 32 := by omega
        have hq32' : ((q : Nat) : Int) < 32 := by omega
        have HP := Lib.hid (hv_put g x hq32 hq)
        have HSp := Lib.hid (hv_split g hq32)
        have HL := Lib.hid (show (hvA g q).length = q * 8 from hvA_length HFg.out (by omega))
        have HL2 := Lib.hid (show (vals (g (q : Int))).length = (vals x.2).length by rw [vals_length, vals_length, HX.out.2.1]; exact (HFg.out q (by omega) (by omega)).1)
        rw [hq] at c0 HBl
        have HBl := Lib.hid (show ∀ W, Calls Try.prog 14 #[.int .i64 (q : Int)] W fun e w' => e = .returned (.bool true) ∧ w' = W from fun W => by
          have h := HBl.out W
          rwa [show blockB (q : Int) = true from decide_eq_true (by omega)] at h)
        have hg := HG0.out
        rw [HSp.out] at hg
        have HG0 := Lib.hid hg
        clear hbk hg
        generalize hvA g q = pa at *
        generalize hvB g q = pb at *
        generalize vals (g (q : Int)) = po at *
        clear hq
        go_wp2_with (first
          | (refine wpList_load_part rfl 27 _ rfl b (off + k * 9) rfl (wrv x) _ HC.out Try.underlying27 rfl HI.out ?_)
          | (refine wpList_store_row rfl 27 _ _ rfl wr.heap.size (wrv x).toArray rfl rfl 27 #[.int .i64 0, .int .u8 0, .int .u8 0, .int .u8 0, .int .u8 0, .int .u8 0, .int .u8 0, .int .u8 0, .int .u8 0] HA1.out HIa.out HZx.out HO.out ?_; rw [← HW2.out])
          | (go_at_call 14; refine (HBl.out _).mono ?_; rintro e w3 ⟨rfl, rfl⟩)
          | (refine wpList_load_part rfl 23 _ rfl wr.heap.size 1 rfl (vals x.2) _ HCv.out Try.underlying23 rfl HIv.out ?_)
          | (refine wpList_store_part rfl 23 _ _ rfl w.heap.size (q * 8) rfl (vals x.2) rfl 24 pa po pb HG0.out HL.out HL2.out HIv.out vals_one ?_))
        have hrow := setRow_heap _ _ _ (pa ++ (vals x.2 ++ pb)).toArray _ _ HG0.out
        have hoth : (w3.setRow w.heap.size (pa ++ (vals x.2 ++ pb)).toArray).heap[w.heap.size + 1]? = some (.cells Z 24 (0, 0)) := (setRow_other _ _ _ _ (by omega)).trans HG1.out
        go_roundw
        case rel => exact ⟨k + 1, by omega, by simp, by rw [hrow, HSn.out, HP.out, List.append_assoc], hoth, below_setRow HB2.out (Nat.le_refl _) _⟩
        case measure => simp [intOf]; omega
      | false =>
        have HP := Lib.hid (hv_out g x hbk)
        have HBl := Lib.hid (show ∀ W, Calls Try.prog 14 #[.int .i64 x.1] W fun e w' => e = .returned (.bool false) ∧ w' = W from fun W => by
          have h := HBl.out W
          rwa [hbk] at h)
        clear hbk
        go_wp2_with (first
          | (refine wpList_load_part rfl 27 _ rfl b (off + k * 9) rfl (wrv x) _ HC.out Try.underlying27 rfl HI.out ?_)
          | (refine wpList_store_row rfl 27 _ _ rfl wr.heap.size (wrv x).toArray rfl rfl 27 #[.int .i64 0, .int .u8 0, .int .u8 0, .int .u8 0, .int .u8 0, .int .u8 0, .int .u8 0, .int .u8 0, .int .u8 0] HA1.out HIa.out HZx.out HO.out ?_; rw [← HW2.out])
          | (go_at_call 14; refine (HBl.out _).mono ?_; rintro e w3 ⟨rfl, rfl⟩))
        go_roundw
        case rel => exact ⟨k + 1, by omega, by simp, by rw [HSn.out, HP.out, HG0.out], HG1.out, HB2.out⟩
        case measure => simp [intOf]; omega
    · obtain rfl : k = n := by omega
      have HAll := Lib.hid (show onW h (l.take k) = onW h l by rw [List.take_of_length_le (Nat.le_of_eq HN.out.symm)])
      have HFg := Lib.hid (on_fine HH.out HF.out)
      rw [HAll.out] at hg0
      rw [← HE.out] at hg0
      have hR2s : E.size = 256 := by rw [HE.out]; simp [hv_length HFg.out]
      have HO := Lib.hid (show E.all (·.oneCell') = true by
        rw [HE.out]
        refine Array.all_eq_true_iff_forall_mem.2 fun u hu => ?_
        have hu : u ∈ hv (onW h l) := by simpa using hu
        unfold hv at hu
        obtain ⟨j, _, hj⟩ := List.mem_flatMap.1 hu
        exact vals_one u hj)
      have HG0 := Lib.hid hg0
      have HG1 := Lib.hid hg1
      have HI := Lib.hid (show (Try.prog.info? 24).map (·.size) = some E.size by rw [hR2s]; exact home_info)
      have HS := Lib.hid (show Z.size = E.size by rw [HZs.out, hR2s])
      have hki : ¬ (k : Int) < (k : Int) := by omega
      clear hg0 hg1 hb hR2s
      go_wp2_with (first
        | (refine wpList_load_row rfl 24 _ rfl w.heap.size rfl 24 E (0, 0) _ HG0.out Try.underlying24 rfl HI.out ?_)
        | (refine wpList_store_row rfl 24 _ _ rfl (w.heap.size + 1) E rfl rfl 24 Z HG1.out HI.out HS.out HO.out ?_))
      exact bodyPost_ret (results_cell1 rfl _ _ (w.heap.size + 1) E (0, 0) _ rfl (setRow_heap _ _ _ _ _ _ HG1.out) Try.underlying24 rfl HI.out) rfl ⟨rfl, below_setRow HBr.out (by omega) _⟩
end Go.Proofs.Ytipgphdndleodaa
