/-
  Flush: the newest write of each sector becomes durable, in whatever order the map gives the sectors.
-/
import Derived.Test.YtgkbhdecohlpmaaDkWrites
import Derived.Maps.Ext
import Derived.Deep.RegionHeld3
namespace Go.Proofs.Ytgkbhdecohlpmaa.Dk
set_option maxRecDepth 100000
open Go.RowKit Go.Maps Go.MapKept Go.ChangeMaps

def Dk.flush (d : Dk) : Dk := ⟨d.newest, fun _ => [], d.down⟩
theorem flush_nil (w : World) : Calls Try.prog 14 #[.pointer none] w fun e w' => e = .returned (.int .i64 1) ∧ w' = w := by
  go_enter Try.func14, Try.ntmps14
  go_wp2_with fail
  refine (refuses_nil w).mono ?_
  rintro e w' ⟨rfl, rfl⟩
  go_wp2
  go_ret
  exact ⟨rfl, rfl⟩
theorem flush_down {w : World} {S : Nat → Prop} {a : Nat} {d : Dk} (h : Disk w S a d) (hd : d.down = true) : Calls Try.prog 14 #[.pointer (some ⟨a, 0, none⟩)] w fun e w' => e = .returned (.int .i64 30) ∧ w' = w := by
  have HR := Lib.hid (refuses_any h)
  rw [hd] at HR
  clear h hd
  go_enter Try.func14, Try.ntmps14
  go_wp2_with fail
  refine HR.out.mono ?_
  rintro e w' ⟨rfl, rfl⟩
  go_wp2
  go_ret
  exact ⟨rfl, rfl⟩

/-- An emptied map. -/
theorem mapped_empty {w : World} {b clock : Nat} (hb : w.heap[b]? = some (.map #[] clock)) : Mapped w b (fun _ => []) (fun _ => nilS) :=
  ⟨.map [], ⟨#[], clock, hb, ⟨by simp, stamped_empty clock, by simp⟩, by simp, rfl⟩, fun kl hk => by simp [Maps.has] at hk, fun n _ => ⟨by simp [Maps.has], rfl⟩⟩
theorem slots_empty (w : World) (S : Nat → Prop) : Slots w S (fun _ => []) (fun _ => nilS) :=
  ⟨fun _ _ => ⟨rfl, Or.inl ⟨rfl, rfl⟩⟩, fun _ _ _ e => (by cases e), fun _ _ _ _ _ _ e => (by cases e)⟩
theorem run_clear (w : World) (b : Nat) (ty : TypeId) {es : Array MapEntry} {clock : Nat} (hb : w.heap[b]? = some (.map es clock)) :
    (Builtin.clear_ #[57] ty #[.map (some b)]).run Try.prog w = .ok (.tuple #[]) (setBlock w b (.map #[] clock)) := by
  simp [Builtin.clear_, run_underlying Try.underlying57, MapKept.run_getObj_map hb, MapKept.run_setObj_map _ hb, Result.andThen]
  rfl
theorem run_clear_nil (w : World) (ty : TypeId) : (Builtin.clear_ #[57] ty #[.map none]).run Try.prog w = .ok (.tuple #[]) w := by
  simp [Builtin.clear_, run_underlying Try.underlying57, Result.andThen]

theorem Disk.same_as {w : World} {S : Nat → Prop} {a : Nat} {d d' : Dk} (h : Disk w S a d) (hf : ∀ n, n < 34 → d'.dur n = d.dur n) (hc : ∀ n, n < 34 → d'.cache n = d.cache n) (hd : d'.down = d.down) : Disk w S a d' := by
  refine ⟨h.mine, h.old, fun n hn => by rw [hf n hn]; exact h.secs n hn, fun n hn => by rw [hc n hn]; exact h.puts n hn, ?_⟩
  obtain ⟨m, hb, hm⟩ := h.body
  refine ⟨m, ?_, ?_⟩
  · rw [hb, hd]
    unfold rowD
    rw [flat_congr hf]
  · refine hm.imp (fun h1 => ⟨h1.1, fun n hn => by rw [hc n hn]; exact h1.2 n hn⟩) ?_
    rintro ⟨b, V, e, hS, ⟨D, hown, h1, h2⟩, hV⟩
    exact ⟨b, V, e, hS, ⟨D, hown, h1, fun n hn => by rw [hc n hn]; exact h2 n hn⟩, ⟨fun n hn => by rw [hc n hn]; exact hV.own n hn, hV.mine, hV.apart⟩⟩

theorem World.ownsMap.at_ {H : Type} {P : Program} {k : TypeId} {R : Value → Option (DataW H × List MemPlace)} {w : World} {b n : Nat} {D : DataW H} (h : w.ownsMap P k R b n D) : ∃ es clock, w.heap[b]? = some (.map es clock) := by
  obtain ⟨es, clock, hb, _⟩ := h
  exact ⟨es, clock, hb⟩

/-- The disk while its cache is made durable. -/
theorem Disk.stored {w : World} {S : Nat → Prop} {a : Nat} {d : Dk} {m : Option Nat} (h : Disk w S a d) (hb : w.heap[a]? = some (.cells (rowD d.dur m d.down).toArray 59 (0, 0)))
    (hm : (m = none ∧ ∀ n, n < 34 → d.cache n = []) ∨ ∃ b V, m = some b ∧ S b ∧ Mapped w b d.cache V ∧ Slots w S d.cache V) {n : Nat} (hn : n < 34) {s : List Nat} (hs : Sec s) :
    Disk (w.setRow a (vals (ahead d.dur n) ++ vals s ++ (vals (behindS d.dur n) ++ [Value.map m, .bool d.down])).toArray) S a { d with dur := upd d.dur n s } := by
  have hg := grown_setRow w a (vals (ahead d.dur n) ++ vals s ++ (vals (behindS d.dur n) ++ [Value.map m, .bool d.down])).toArray
  refine ⟨h.mine, fun k hk => Nat.lt_of_lt_of_le (h.old k hk) hg.size, fun k hk => ?_, h.puts, m, ?_, cache_keep hb h.old hm hg⟩
  · show Sec (upd d.dur n s k)
    by_cases e : k = n
    · subst e; rw [upd_same]; exact hs
    · rw [upd_other _ _ e]; exact h.secs k hk
  · rw [← rowD_upd _ _ _ hn]
    exact setRow_heap w a _ _ 59 _ hb

set_option maxHeartbeats 1000000 in
theorem flush_ok {w : World} {S : Nat → Prop} {a : Nat} {d : Dk} (h : Disk w S a d) (hd : d.down = false) : Calls Try.prog 14 #[.pointer (some ⟨a, 0, none⟩)] w fun e w' =>
    e = .returned (.int .i64 0) ∧ Goes w w' S a d.flush := by
  have HR := Lib.hid (refuses_any h)
  rw [hd] at HR
  obtain ⟨m, hb, hc, _, _, hm⟩ := h.cells
  have HD := Lib.hid h
  rcases hm with ⟨rfl, h0⟩ | ⟨b, V, rfl, hS, hM, hV⟩
  · have hrn := fun w => run_range_nilMap (P := Try.prog) w 57 _ _ Try.underlying57
    have hnn := fun (w : World) ty a b s => run_next_nilMap (P := Try.prog) w ty a b s
    have hcl := fun (w : World) ty => run_clear_nil w ty
    have hc' : (w.alloc (.mapIter none 0 #[] 0)).cell? ⟨a, 2176, none⟩ = some (.map none) := by
      rw [World.cell?_of_block (w := w) (Below.heap_alloc w _ a h.lt)]; exact hc
    have HB := Lib.hid ((Below.refl w.heap.size w).alloc (Nat.le_refl _) (.mapIter none 0 #[] 0))
    have H0 := Lib.hid h0
    clear h0 h hb
    go_enter Try.func14, Try.ntmps14
    go_wp2_with fail
    refine HR.out.mono ?_
    rintro e w' ⟨rfl, rfl⟩
    go_wp2
    refine wp_loop_rounds 1 ?_
    rw [rounds_succ]
    go_wp2
    go_ret
    refine ⟨rfl, S, ?_, Kept.of_below HB.out (Nat.le_refl _), fun _ hk => Or.inl hk⟩
    refine (HD.out.below HB.out (Nat.le_refl _)).same_as (fun n hn => ?_) (fun n hn => (H0.out n hn).symm) rfl
    show d.newest n = d.dur n
    unfold Dk.newest
    rw [H0.out n hn]; rfl
  · have hba := hM.ne_cells hb
    have hMc := hM.at_
    obtain ⟨D, hown, h1, h2⟩ := hM
    have H12 := Lib.hid (And.intro h1 h2)
    have HDn := Lib.hid hd
    clear h hb h1 h2 hd
    go_enter Try.func14, Try.ntmps14
    go_wp2_with fail
    refine HR.out.mono ?_
    rintro e w' ⟨rfl, rfl⟩
    go_wp2_with (at_range; refine wpList_range_own _ rfl _ 57 rfl 3 91 (Maps.int_keyed Try.underlying3) Try.underlying57 held b 34 D rfl hown ?_; intro w0 hrg0 hg0 hs0)
    go_frame
    go_loopw [4] (fun _ wr => ∃ left cnt f, wr.ranges Try.prog 3 held b w'.heap.size 34 D left cnt ∧ (∀ kl, left kl = true → Maps.has D kl = true) ∧ Disk wr S a { d with dur := f } ∧ wr.cell? ⟨a, 2176, none⟩ = some (.map (some b)) ∧
      (∀ n, n < 34 → f n = if Maps.has D (key n) && !left (key n) then d.newest n else d.dur n) ∧ Kept S w' wr) (fun _ wr => wr.rangeLeft b w'.heap.size)
    case atStart =>
      refine ⟨_, _, d.dur, hrg0, fun _ h => h, HD.out.keep (fun k hk => hg0.block k (HD.out.old k hk) (by simp)) hg0.size, ?_, fun n hn => ?_, (Kept.refl S w').grown hg0 (fun _ e => by cases e)⟩
      · exact (World.cell?_of_block (w := w') (hg0.block a HD.out.lt (by simp))).trans hc
      · cases Maps.has D (key n) <;> rfl
    case round =>
      obtain ⟨left, cnt, f, hrg, hsub, hdk, hcm, hf, hk⟩ := hrel
      have HT := Lib.hid hrg
      have HS := Lib.hid hsub
      have HF := Lib.hid hf
      have HK := Lib.hid hk
      have HDk := Lib.hid hdk
      have HCM := Lib.hid hcm
      clear hsub hf hk hdk hcm
      go_wp2_with (at_next; refine wpList_next_ranges _ rfl _ rfl 3 (Maps.int_keyed Try.underlying3) held (Value.int .i64) (fun v => v) (fun k kl hk => by obtain ⟨x, rfl, _⟩ := Maps.keyOf_int_inv Try.underlying3 hk; exact ⟨x, rfl⟩) (fun v y _ => ⟨v, rfl⟩) b w'.heap.size 34 _ _ _ rfl hrg ?_ ?_)
      · intro _ hl0
        obtain ⟨es, clock, hmb⟩ := World.ownsMap.at_ HT.out.owns
        have hcl := fun ty => run_clear wr b ty hmb
        obtain ⟨w3, hw3⟩ : ∃ w3, w3 = setBlock wr b (.map #[] clock) := ⟨_, rfl⟩
        rw [← hw3] at hcl
        have hcm := HCM.out
        have HG := Lib.hid (show Disk w3 S a d.flush ∧ Kept S w' w3 from by
          have hg3 : wr.grownBy w3 (some b) := by rw [hw3]; exact ⟨rfl, rfl, rfl, by simp [setBlock], fun i _ hi => heap_setBlock_other hmb _ (fun e => hi (by rw [e]))⟩
          refine ⟨?_, HK.out.grown hg3 (fun k e _ => by cases e; exact hS)⟩
          obtain ⟨m', hb', hc', _, _, hm'⟩ := HDk.out.cells
          rw [hcm] at hc'
          cases hc'
          have hd3 : Disk w3 S a ⟨f, fun _ => [], d.down⟩ := ⟨HDk.out.mine, fun k hk => Nat.lt_of_lt_of_le (HDk.out.old k hk) hg3.size, HDk.out.secs, fun _ _ _ h => by simp at h, some b, (hg3.block a HDk.out.lt (fun e => hba (by cases e; rfl))).trans hb',
            Or.inr ⟨b, fun _ => nilS, rfl, hS, mapped_empty (clock := clock) (by rw [hw3]; exact heap_setBlock_same hmb _), slots_empty w3 S⟩⟩
          refine hd3.same_as (fun n hn => ?_) (fun _ _ => rfl) rfl
          show d.newest n = f n
          rw [HF.out n hn, hl0 (key n), (H12.out.2 n hn).1]
          unfold Dk.newest
          cases e : d.cache n <;> simp)
        clear hrg hmb hw3 hrg0 hg0 hs0 hown
        go_wp2
        go_ret
        exact ⟨rfl, S, HG.out.1, HG.out.2, fun _ hk => Or.inl hk⟩
      · intro x v kl yd yp w1 cnt1 hkey hlk hv hat hrg1 hlt hg1 hs1 hen
        obtain ⟨n, hn, rfl, rfl, rfl, hne⟩ := Mapped.entry H12.out.1 H12.out.2 hkey (HS.out kl hlk) hv hat
        have hd1 : Disk w1 S a { d with dur := f } := HDk.out.keep (fun k hk => hg1.block k (HDk.out.old k hk) (fun e => by cases e; have := HD.out.old _ hk; omega)) hg1.size
        have hcm1 : w1.cell? ⟨a, 2176, none⟩ = some (.map (some b)) := (World.cell?_of_block (w := wr) (hg1.block a HDk.out.lt (fun e => by cases e; have := HD.out.lt; omega))).trans HCM.out
        have HN := Lib.hid (show ∀ W, Below w1.heap.size w1 W → Calls Try.prog 34 #[.pointer (some ⟨a, 0, none⟩), .int .i64 (n : Int)] W fun e w' => e = .returned (sval (d.newest n)) ∧ Below W.heap.size W w' from fun W hW => by
          have h1 := newest_any (hd1.below hW (Nat.le_refl _)) hn
          rwa [show Dk.newest { d with dur := f } n = d.newest n by
            unfold Dk.newest
            cases e : (d.cache n).getLast? with
            | none => exact absurd (List.getLast?_eq_none_iff.1 e) hne
            | some x => simp [e]] at h1)
        have hni : (n : Int) < 34 := by omega
        have H1 := Lib.hid hd1
        have HC1 := Lib.hid hcm1
        have HG1 := Lib.hid hg1
        have HR1 := Lib.hid hrg1
        have HLT := Lib.hid hlt
        clear hd1 hcm1 hg1 hrg1 hlt hat hv hkey hrg hrg0 hg0 hs0 hown
        go_wp2_with fail
        refine wp_region_held_drew (S := fun _ => True) (by kernel_rfl) trivial (fun hHeld => ?_)
        refine wpAnyH_take (i := 0) (v := ?_) rfl (by kernel_rfl) (by kernel_rfl) (by kernel_rfl) (fun _ _ _ h => h) (Or.inl ⟨by rfl, ?_⟩) (by assumption) ?_
        rotate_left
        · simp only [List.getElem_toArray, List.getElem_cons_zero, List.getElem_cons_succ]; intro W hSw; (try dsimp only at hSw); go_simp; all_goals with_reducible rfl
        simp only [Act.put, List.getElem_toArray, List.getElem_cons_zero, List.getElem_cons_succ, List.setIfInBounds_toArray, List.set_cons_zero, List.set_cons_succ]
        refine wpAnyH_take (i := 1) (v := ?_) rfl (by kernel_rfl) (by kernel_rfl) (by kernel_rfl) (fun _ _ _ h => h) (Or.inl ⟨by rfl, ?_⟩) (by assumption) ?_
        rotate_left
        · simp only [List.getElem_toArray, List.getElem_cons_zero, List.getElem_cons_succ]; intro W hSw; (try dsimp only at hSw); go_simp; all_goals with_reducible rfl
        simp only [Act.put, List.getElem_toArray, List.getElem_cons_zero, List.getElem_cons_succ, List.setIfInBounds_toArray, List.set_cons_zero, List.set_cons_succ]
        refine wpAnyH_take (i := 2) (v := ?_) rfl (by kernel_rfl) (by kernel_rfl) (by kernel_rfl) (fun _ _ _ h => h) (Or.inl ⟨by rfl, ?_⟩) (by assumption) ?_
        rotate_left
        · simp only [List.getElem_toArray, List.getElem_cons_zero, List.getElem_cons_succ]; intro W hSw; (try dsimp only at hSw); go_simp; all_goals with_reducible rfl
        simp only [Act.put, List.getElem_toArray, List.getElem_cons_zero, List.getElem_cons_succ, List.setIfInBounds_toArray, List.set_cons_zero, List.set_cons_succ]
        refine wpAnyH_take (i := 3) (v := ?_) rfl (by kernel_rfl) (by kernel_rfl) (by kernel_rfl) (fun _ _ _ h => h) (Or.inl ⟨by rfl, ?_⟩) (by assumption) ?_
        rotate_left
        · simp only [List.getElem_toArray, List.getElem_cons_zero, List.getElem_cons_succ]; intro W hSw; (try dsimp only at hSw); go_simp; all_goals with_reducible rfl
        simp only [Act.put, List.getElem_toArray, List.getElem_cons_zero, List.getElem_cons_succ, List.setIfInBounds_toArray, List.set_cons_zero, List.set_cons_succ]
        refine wpAnyH_take (i := 5) (v := ?_) rfl (by kernel_rfl) (by kernel_rfl) (by kernel_rfl) (fun _ _ _ h => h) (Or.inl ⟨by rfl, ?_⟩) (by assumption) ?_
        rotate_left
        · simp only [List.getElem_toArray, List.getElem_cons_zero, List.getElem_cons_succ]; intro W hSw; (try dsimp only at hSw); go_simp; all_goals with_reducible rfl
        simp only [Act.put, List.getElem_toArray, List.getElem_cons_zero, List.getElem_cons_succ, List.setIfInBounds_toArray, List.set_cons_zero, List.set_cons_succ]
        refine wpAnyH_take (i := 6) (v := ?_) rfl (by kernel_rfl) (by kernel_rfl) (by kernel_rfl) (fun _ _ _ h => h) (Or.inl ⟨by rfl, ?_⟩) (by assumption) ?_
        rotate_left
        · simp only [List.getElem_toArray, List.getElem_cons_zero, List.getElem_cons_succ]; intro W hSw; (try dsimp only at hSw); go_simp; all_goals with_reducible rfl
        simp only [Act.put, List.getElem_toArray, List.getElem_cons_zero, List.getElem_cons_succ, List.setIfInBounds_toArray, List.set_cons_zero, List.set_cons_succ]
        refine wpAnyH_ready (rs := [4]) (by kernel_rfl) (by simp) ?_
        refine AllReadyH.cons rfl (fun K hK => ?_) AllReadyH.nil
        simp only [List.getElem_toArray, List.getElem_cons_zero, List.getElem_cons_succ]
        go_simp
        refine (HN.out _ (Below.refl _ _).drew).mono ?_
        rintro e w2 ⟨rfl, hb2⟩
        unfold sval
        go_wp2_with fail
        refine hK.out _ _ trivial (fun hHeld2 => ?_)
        clear hK K
        (try simp only [Act.put, List.getElem_toArray, List.getElem_cons_zero, List.getElem_cons_succ, List.setIfInBounds_toArray, List.set_cons_zero, List.set_cons_succ])
        refine wpAnyH_take (i := 7) (v := ?_) rfl (by kernel_rfl) (by kernel_rfl) (by kernel_rfl) (fun _ _ _ h => h) (Or.inl ⟨by rfl, ?_⟩) (by assumption) ?_
        rotate_left
        · simp only [List.getElem_toArray, List.getElem_cons_zero, List.getElem_cons_succ]; intro W hSw; (try dsimp only at hSw); go_simp; all_goals with_reducible rfl
        simp only [Act.put, List.getElem_toArray, List.getElem_cons_zero, List.getElem_cons_succ, List.setIfInBounds_toArray, List.set_cons_zero, List.set_cons_succ]
        refine wpAnyH_ready (rs := [8]) (by kernel_rfl) (by simp) ?_
        refine AllReadyH.cons rfl (fun K hK => ?_) AllReadyH.nil
        simp only [List.getElem_toArray, List.getElem_cons_zero, List.getElem_cons_succ]
        have hb12 : Below w1.heap.size w1 w2 := (Below.refl _ w1).drew.trans hb2
        have hd2 := H1.out.below hb12 (Nat.le_refl _)
        obtain ⟨m2, hrow, hcm2, _, _, hm2⟩ := hd2.cells
        obtain rfl : m2 = some b := by
          rw [hb12.cell H1.out.lt, HC1.out] at hcm2
          cases hcm2; rfl
        have hsn := HD.out.newest_sec hn
        have hst := hd2.stored hrow hm2 hn hsn
        have hgr := grown_setRow w2 a (vals (ahead f n) ++ vals (d.newest n) ++ (vals (behindS f n) ++ [Value.map (some b), .bool d.down])).toArray
        have hrow2 := hrow
        rw [rowD_split _ _ _ hn] at hrow2
        rw [if_pos]
        rotate_left
        · simp [Region.wanted]
        refine wp_store_part 55 (.tmp 26) (.tmp 23) rfl a (n * 64) rfl (vals (d.newest n)) rfl 59 (vals (ahead f n)) (vals (f n)) (vals (behindS f n) ++ [Value.map (some b), .bool d.down]) hrow2 (by rw [vals_length]; exact ahead_len hd2.secs (by omega)) (by rw [vals_length, vals_length, hsn.1]; exact (hd2.secs n hn).1) (sector_info _ hsn.1) vals_one ?_
        refine hK.out _ _ trivial (fun hHeld3 => ?_)
        clear hK K
        refine wpAnyH_done (by kernel_rfl) ?_ _
        generalize hw3 : w2.setRow a (vals (ahead f n) ++ vals (d.newest n) ++ (vals (behindS f n) ++ [Value.map (some b), .bool d.down])).toArray = w3 at hst hgr ⊢
        replace hw3 := hw3.symm
        have hne2 : w'.heap.size ≠ a := by have := HD.out.lt; omega
        have HREL := Lib.hid (show w3.ranges Try.prog 3 held b w'.heap.size 34 D (fun z => left z && !z.sameKey (key n)) cnt1 ∧ Disk w3 S a { d with dur := upd f n (d.newest n) } ∧ w3.cell? ⟨a, 2176, none⟩ = some (.map (some b)) ∧
            (∀ k, k < 34 → upd f n (d.newest n) k = if Maps.has D (key k) && !(left (key k) && !(key k).sameKey (key n)) then d.newest k else d.dur k) ∧ Kept S w' w3 from by
          have hrg3 := (HR1.out.kept (below_grown hb12) (by simp) (by simp)).kept hgr (fun e => hba (by cases e; rfl)) (fun e => hne2 (by cases e; rfl))
          refine ⟨hrg3, hst, ?_, fun k hk => ?_, ?_⟩
          · obtain ⟨m3, hb3, hc3, _, _, hm3⟩ := hst.cells
            have h5 : w3.heap[a]? = some (.cells (rowD (upd f n (d.newest n)) (some b) d.down).toArray 59 (0, 0)) := by
              rw [rowD_upd _ _ _ hn, hw3]
              exact setRow_heap w2 a _ _ 59 _ hrow
            rw [cell_of_row w3 a 2176 _ _ _ h5]
            simpa using rowD_map hst.secs (some b) d.down
          · by_cases e : k = n
            · subst e
              rw [upd_same, sameKey_key, decide_eq_true rfl, HS.out _ hlk]
              simp
            · rw [upd_other _ _ e, sameKey_key, decide_eq_false e, HF.out k hk]
              simp
          · exact ((HK.out.grown HG1.out (fun k e hk => by cases e; omega)).below (Nat.le_refl _) hb12 (Or.inl (by
              have := HK.out.size; have := HG1.out.size; omega))).grown hgr (fun k e _ => by cases e; exact HD.out.mine))
        have HM := Lib.hid (show w3.rangeLeft b w'.heap.size < wr.rangeLeft b w'.heap.size by rw [HREL.out.1.left_eq, HT.out.left_eq]; exact HLT.out)
        clear hst hgr hw3 hrow hrow2 hcm2 hm2 hd2 hb12 hb2 hsn
        (try simp only [Act.put, List.getElem_toArray, List.getElem_cons_zero, List.getElem_cons_succ, List.setIfInBounds_toArray, List.set_cons_zero, List.set_cons_succ])
        go_wp2
        go_roundw
        case rel => exact ⟨_, _, _, HREL.out.1, fun kl hk => HS.out kl (by simp at hk; exact hk.1), HREL.out.2.1, HREL.out.2.2.1, HREL.out.2.2.2.1, HREL.out.2.2.2.2⟩
        case measure => exact HM.out
end Go.Proofs.Ytgkbhdecohlpmaa.Dk
