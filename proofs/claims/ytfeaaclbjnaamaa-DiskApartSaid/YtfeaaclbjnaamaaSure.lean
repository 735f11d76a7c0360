/-
  DiskSure, by contract: what is durable does not change but by a flush, writes are counted till then, what is read is what was written last.
-/
import Derived.Test.YtfeaaclbjnaamaaActs
namespace Go.Proofs.Ytfeaaclbjnaamaa
open Go.RowKit Go.Maps Go.MapKept Go.ChangeMaps

theorem writes_write (d : Dk) {n : Nat} (hn : n < 34) (bs : List Nat) : (d.write n bs).writes = d.writes + 1 := by
  rw [writes_eq, writes_eq]
  refine sumF_upd (k := n) (fun i hi => ?_) ?_ 34 hn
  · show (upd d.cache n (d.cache n ++ [padded bs]) i).length = _
    rw [upd_other _ _ hi]
  · show (upd d.cache n (d.cache n ++ [padded bs]) n).length = _
    rw [upd_same]; simp
theorem writes_flush (d : Dk) : d.flush.writes = 0 := by
  rw [writes_eq]
  exact sumF_zero fun n _ => rfl
theorem newest_write (d : Dk) (n : Nat) (bs : List Nat) : (d.write n bs).newest n = padded bs := by
  unfold Dk.newest Dk.write
  simp [upd_same]
theorem flat_new {w W : World} {S : Nat → Prop} {a : Nat} {d : Dk} (h : Mine w W S a d) : ∀ x ∈ flat d.dur, x < 256 := flat_lt h.disk.secs

set_option maxRecDepth 100000 in
set_option maxHeartbeats 4000000 in
theorem sure_any (l : List ActG) (A : Option Addr) (cap : Nat) (w : World) (hA : ActsAt w w.heap.size A l) (hl : l.length ≤ maxLen) :
    Calls Try.prog 5 #[.slice A l.length cap] w fun e w' => e = .returned (.bool true) ∧ Below w.heap.size w w' := by
  have HG := Lib.hid (great_any l A cap w hA hl)
  have HA := Lib.hid hA
  unfold maxLen at hl
  obtain ⟨a, ha⟩ : ∃ a, a = w.heap.size := ⟨_, rfl⟩
  have H0 := Lib.hid (show Calls Try.prog 8 #[] w fun e w' => e = .returned (.pointer (some ⟨a, 0, none⟩)) ∧ ∃ S, Mine w w' S a Dk.fresh by rw [ha]; exact fresh_mine w w (Below.refl _ _))
  clear hA ha
  go_enter Try.func5, Try.ntmps5
  go_wp2_with fail
  refine HG.out.mono ?_
  rintro e w' ⟨⟨g, rfl, hg⟩, rfl⟩
  cases g with
  | true =>
    go_wp2_with (go_at_call 7; refine (wakes_any _).mono ?_; rintro e w7 ⟨rfl, hb7⟩)
    go_ret
    exact ⟨rfl, hb7⟩
  | false =>
    obtain ⟨hsm1, hsm2⟩ := hg rfl
    have HSm := Lib.hid hsm2
    clear hg hsm2 HG
    go_wp2_with fail
    refine H0.out.mono ?_
    rintro e w1 ⟨rfl, S1, h1⟩
    have M1 := Lib.hid h1
    have HD1 := Lib.hid (durable_any h1.disk)
    clear h1
    go_wp2_with fail
    refine HD1.out.mono ?_
    rintro e w2 ⟨v2, rfl, hn2⟩
    have hk2 := (hn2.strAt (flat_new M1.out)).here
    have M2 := Lib.hid (M1.out.below hn2.2)
    clear hn2 HD1 M1
    go_wp2
    go_loopw [4, 5, 21] (fun s n i wr => ∃ (k : Nat) (S : Nat → Prop) (D : Dk), i = .int .i64 (k : Int) ∧ k ≤ l.length ∧ Mine w wr S a D ∧ D.down = false ∧ s = .string (str (flat D.dur)) ∧ n = .int .i64 (D.writes : Int) ∧ D.writes ≤ k ∧ ∀ n, n < 34 → (D.cache n).length ≤ k) (fun _ _ i _ => l.length - (intOf i).toNat)
    case atStart => exact ⟨0, S1, Dk.fresh, rfl, by omega, M2.out, rfl, rfl, rfl, by decide, fun _ _ => Nat.le_refl _⟩
    case round =>
      obtain ⟨k, S, D, rfl, hk, hM, hdn, rfl, rfl, hw, hc⟩ := hrel
      have M := Lib.hid hM
      have HC := Lib.hid hc
      have HW := Lib.hid hw
      have HDn := Lib.hid hdn
      clear hM hc hw hdn hk2 M2
      by_cases hlt : k < l.length
      · obtain ⟨b, off, rfl, hbw, hcell⟩ := HA.out.row (by omega)
        obtain ⟨x, hx⟩ : ∃ x, x = l.getD k noAct := ⟨_, rfl⟩
        have hxm : x ∈ l := by rw [hx]; exact getD_mem hlt
        obtain ⟨c0, c1, c2, c3⟩ := hcell k hlt
        rw [← hx] at c0 c1 c2 c3
        have hkp := M.out.keeps
        replace c0 := (hkp.cell (p := ⟨b, off + k * 4, none⟩) hbw).trans c0
        replace c1 := (hkp.cell (p := ⟨b, off + k * 4 + 1, none⟩) hbw).trans c1
        replace c2 := (hkp.cell (p := ⟨b, off + k * 4 + 2, none⟩) hbw).trans c2
        replace c3 := (hkp.cell (p := ⟨b, off + k * 4 + 3, none⟩) hbw).trans c3
        have hki : (k : Int) < l.length := by omega
        obtain ⟨hy, hxc1, hxc2, hxA, _, hxr⟩ := HA.out.each x hxm
        have hxs := HSm.out x hxm
        have HY := Lib.hid hy
        have hy2 := hy.below hkp (Nat.le_refl _)
        unfold maxLen at hxc2
        clear hcell hx hy hkp
        obtain ⟨X, hX⟩ : ∃ X, X = wr.heap.size := ⟨_, rfl⟩
        obtain ⟨w3, hw3⟩ : ∃ w3, w3 = wr.alloc (.cells #[.int .i64 x.op, .int .i64 x.at_, x.bytes, .slice x.PA x.pl x.pc] 32) := ⟨_, rfl⟩
        have hrowX : w3.heap[X]? = some (.cells #[.int .i64 x.op, .int .i64 x.at_, x.bytes, .slice x.PA x.pl x.pc] 32 (0, 0)) := by rw [hw3, hX]; exact heap_alloc_new' wr _
        have hb3 : Below wr.heap.size wr w3 := by rw [hw3]; exact (Below.refl _ wr).alloc (Nat.le_refl _) _
        have M3 := Lib.hid (M.out.below hb3)
        have HB3 := Lib.hid hb3
        have x0 : w3.cell? ⟨X, 0, none⟩ = some (.int .i64 x.op) := by rw [cell_of_row _ _ 0 _ _ _ hrowX]; rfl
        have x1 : w3.cell? ⟨X, 1, none⟩ = some (.int .i64 x.at_) := by rw [cell_of_row _ _ 1 _ _ _ hrowX]; rfl
        have x2 : w3.cell? ⟨X, 2, none⟩ = some x.bytes := by rw [cell_of_row _ _ 2 _ _ _ hrowX]; rfl
        have hXw : w.heap.size ≤ X ∧ X < w3.heap.size := ⟨by rw [hX]; exact M.out.keeps.size, lt_of_heap hrowX⟩
        have HXX := Lib.hid hX
        have HW3 := Lib.hid hw3
        clear hX hw3 hb3 hrowX
        by_cases hop : x.op = 2
        · rw [hop] at c0 x0 HW3
          have hfold := HW3.out.symm
          have hXf := HXX.out.symm
          have HF := Lib.hid (flush_ok M3.out.disk HDn.out)
          clear hy2 hxs hxm hxr hxc1 hxc2 hxA
          unfold ActG.bytes at c2 hfold x2
          go_wp2_with fail
          refine HF.out.mono ?_
          rintro e w4 ⟨rfl, hg4⟩
          obtain ⟨S4, h4⟩ := M3.out.step hg4
          have M4 := Lib.hid h4
          have HWr := Lib.hid (writes_any h4.disk (by rw [writes_flush]; omega))
          rw [writes_flush] at HWr
          clear h4 hg4 HF
          go_wp2_with fail
          refine HWr.out.mono ?_
          rintro e w5 ⟨rfl, hb5⟩
          have M5 := Lib.hid (M4.out.below hb5)
          have HD5 := Lib.hid (durable_any M5.out.disk)
          clear hb5 HWr M4
          go_wp2_with fail
          refine HD5.out.mono ?_
          rintro e w6 ⟨v6, rfl, hn6⟩
          have hk6 := (hn6.strAt (flat_new M5.out)).here
          have M6 := Lib.hid (M5.out.below hn6.2)
          have HDn6 := Lib.hid (show D.flush.down = false from HDn.out)
          have HW6 := Lib.hid (writes_flush D)
          clear hn6 HD5 M5
          go_wp2
          go_roundw
          case rel => exact ⟨k + 1, S4, D.flush, by simp, by omega, M6.out, HDn6.out, rfl, by rw [HW6.out]; rfl, by rw [HW6.out]; omega, fun n hn => Nat.zero_le _⟩
          case measure => simp [intOf]; omega
        · have hfold := HW3.out.symm
          have hXf := HXX.out.symm
          have HWt := Lib.hid (write_any M3.out.disk x.at_ (c := x.c) (hy2.below HB3.out (Nat.le_trans M.out.keeps.size (Nat.le_refl _)) |>.mono (Nat.le_trans M.out.keeps.size HB3.out.size)) (by unfold maxLen; omega) (fun n hn => Nat.le_trans (HC.out n hn) (by omega)))
          unfold ActG.bytes at c2 hfold x2
          by_cases hz : 0 ≤ x.at_ ∧ x.at_ < 34 ∧ x.bs.length ≤ 64
          · obtain ⟨n, hn⟩ : ∃ n : Nat, x.at_ = (n : Int) := ⟨x.at_.toNat, by omega⟩
            have hn34 : n < 34 := by omega
            have hcode : D.wcode x.at_ x.bs.length = 0 := by unfold Dk.wcode; rw [HDn.out]; simp [hz]
            have hwr : D.wrote x.at_ x.bs = D.write n x.bs := by unfold Dk.wrote; rw [if_pos hcode, hn]; simp
            rw [hcode, hwr] at HWt
            rw [hn] at c1 x1 HWt hfold
            have HZ := Lib.hid hz
            have HN := Lib.hid hn
            clear hz hcode hwr hn hxr
            go_wp2_with fail
            refine HWt.out.mono ?_
            rintro e w4 ⟨rfl, S4, hd4, hk4, hs4⟩
            have hXS : ¬ S X := fun h => by
              have h5 := M.out.disk.old X h
              have h6 := HXX.out
              omega
            have hx4 : w4.heap[X]? = w3.heap[X]? := hk4.block X hXw.2 hXS
            have x1' : w4.cell? ⟨X, 1, none⟩ = some (.int .i64 (n : Int)) := (World.cell?_of_block (w := w3) hx4).trans x1
            have x2' : w4.cell? ⟨X, 2, none⟩ = some (.slice x.A x.bs.length x.c) := (World.cell?_of_block (w := w3) hx4).trans x2
            obtain ⟨S5, h4⟩ := M3.out.step ⟨S4, hd4, hk4, hs4⟩
            have M4 := Lib.hid h4
            have HRd := Lib.hid (read_ok h4.disk HDn.out hn34)
            rw [newest_write] at HRd
            have HX4 := Lib.hid (show X < w4.heap.size from Nat.lt_of_lt_of_le hXw.2 hk4.size)
            have hwk : (D.writes : Int) < 1000000 := by have := HW.out; omega
            clear h4 hd4 hk4 hs4 hx4 HWt x0 x1 x2
            go_wp2_with fail
            refine HRd.out.mono ?_
            rintro e w5 ⟨v, rfl, ⟨g, c, rfl, hg1, hg2, hy5, hcc1, hcc2⟩, hb5⟩
            have hpl : (padded x.bs).length = 64 := by simp [padded]; have := HZ.out.2.2; omega
            rw [hpl]
            have M5 := Lib.hid (M4.out.below hb5)
            have hx5 : w5.cell? ⟨X, 2, none⟩ = some (.slice x.A x.bs.length x.c) := (hb5.cell (by exact HX4.out)).trans x2'
            have HX5 := Lib.hid (Nat.lt_of_lt_of_le HX4.out hb5.size)
            have hbl := HZ.out.2.2
            have hyt : By w5 w5.heap.size (some ⟨g, 0, none⟩) x.bs := by
              have h5 := hy5.take x.bs.length
              rwa [show (padded x.bs).take x.bs.length = x.bs by unfold padded; rw [List.take_left]] at h5
            have hS : ∀ W, Below w5.heap.size w5 W → W.cell? ⟨X, 2, none⟩ = some (.slice x.A x.bs.length x.c) ∧ (convert 29 9 (.slice (some ⟨g, 0, none⟩) x.bs.length c)).run Try.prog W = .ok (.string (str x.bs)) W ∧ (convert 29 9 (.slice x.A x.bs.length x.c)).run Try.prog W = .ok (.string (str x.bs)) W := fun W hW =>
              ⟨(hW.cell (by exact HX5.out)).trans hx5, conv_str W (hyt.below hW (Nat.le_refl _)) c, conv_str W (HY.out.below (M5.out.keeps.trans (hW.mono M5.out.keeps.size)) (Nat.le_refl _)) x.c⟩
            have HS := Lib.hid hS
            have HDu := Lib.hid (fun W (hW : Below w5.heap.size w5 W) => durable_any (M5.out.below hW).disk)
            have HWs := Lib.hid (fun W (hW : Below w5.heap.size w5 W) => writes_any (M5.out.below hW).disk (by rw [writes_write D hn34]; have := HW.out; omega))
            have HWW := Lib.hid (show ((D.write n x.bs).writes : Int) = (D.writes : Int) + 1 by rw [writes_write D hn34]; simp)
            have hcl : (x.bs.length : Int) ≤ (c : Int) := by omega
            rw [hpl] at hcc1
            unfold maxLen at hcc2
            clear hS hyt hy5 hx5 hb5 HRd x1' x2' hpl
            go_wp2_with fail
            refine wp_region_held_drew (S := fun W => W.cell? ⟨X, 2, none⟩ = some (.slice x.A x.bs.length x.c) ∧ (convert 29 9 (.slice (some ⟨g, 0, none⟩) x.bs.length c)).run Try.prog W = .ok (.string (str x.bs)) W ∧ (convert 29 9 (.slice x.A x.bs.length x.c)).run Try.prog W = .ok (.string (str x.bs)) W) (by kernel_rfl) (HS.out _ (Below.refl _ _).drew) (fun hHeld => ?_)
            refine wpAnyH_take (i := 0) (v := ?_) rfl (by kernel_rfl) (by kernel_rfl) (by kernel_rfl) (fun _ _ _ h => h) (Or.inl ⟨by rfl, ?_⟩) (by assumption) ?_
            rotate_left
            · simp only [List.getElem_toArray, List.getElem_cons_zero, List.getElem_cons_succ]; intro W hSw; (try dsimp only at hSw); go_simp; all_goals with_reducible rfl
            simp only [Act.put, List.getElem_toArray, List.getElem_cons_zero, List.getElem_cons_succ, List.setIfInBounds_toArray, List.set_cons_zero, List.set_cons_succ]
            refine wpAnyH_take (i := 1) (v := ?_) rfl (by kernel_rfl) (by kernel_rfl) (by kernel_rfl) (fun _ _ _ h => h) (Or.inl ⟨by rfl, ?_⟩) (by assumption) ?_
            rotate_left
            · simp only [List.getElem_toArray, List.getElem_cons_zero, List.getElem_cons_succ]; intro W hSw; (try dsimp only at hSw); go_simp; all_goals with_reducible rfl
            simp only [Act.put, List.getElem_toArray, List.getElem_cons_zero, List.getElem_cons_succ, List.setIfInBounds_toArray, List.set_cons_zero, List.set_cons_succ]
            refine wpAnyH_take (i := 2) (v := ?_) rfl (by kernel_rfl) (by kernel_rfl) (by kernel_rfl) (fun _ _ _ h => h) (Or.inl ⟨by rfl, ?_⟩) (by assumption) ?_
            rotate_left
            · simp only [List.getElem_toArray, List.getElem_cons_zero, List.getElem_cons_succ]; intro W hSw; (try dsimp only at hSw); go_simp; all_goals with_reducible rfl
            simp only [Act.put, List.getElem_toArray, List.getElem_cons_zero, List.getElem_cons_succ, List.setIfInBounds_toArray, List.set_cons_zero, List.set_cons_succ]
            refine wpAnyH_take (i := 3) (v := ?_) rfl (by kernel_rfl) (by kernel_rfl) (by kernel_rfl) (fun _ _ _ h => h) (Or.inl ⟨by rfl, ?_⟩) (by assumption) ?_
            rotate_left
            · simp only [List.getElem_toArray, List.getElem_cons_zero, List.getElem_cons_succ]; intro W hSw; (try dsimp only at hSw); go_simp; all_goals with_reducible rfl
            simp only [Act.put, List.getElem_toArray, List.getElem_cons_zero, List.getElem_cons_succ, List.setIfInBounds_toArray, List.set_cons_zero, List.set_cons_succ]
            refine wpAnyH_take (i := 4) (v := ?_) rfl (by kernel_rfl) (by kernel_rfl) (by kernel_rfl) (fun _ _ _ h => h) (Or.inl ⟨by rfl, ?_⟩) (by assumption) ?_
            rotate_left
            · simp only [List.getElem_toArray, List.getElem_cons_zero, List.getElem_cons_succ]; intro W hSw; (try dsimp only at hSw); go_simp; all_goals with_reducible rfl
            simp only [Act.put, List.getElem_toArray, List.getElem_cons_zero, List.getElem_cons_succ, List.setIfInBounds_toArray, List.set_cons_zero, List.set_cons_succ]
            refine wpAnyH_take (i := 5) (v := ?_) rfl (by kernel_rfl) (by kernel_rfl) (by kernel_rfl) (fun _ _ _ h => h) (Or.inl ⟨by rfl, ?_⟩) (by assumption) ?_
            rotate_left
            · simp only [List.getElem_toArray, List.getElem_cons_zero, List.getElem_cons_succ]; intro W hSw; (try dsimp only at hSw); go_simp; all_goals with_reducible rfl
            simp only [Act.put, List.getElem_toArray, List.getElem_cons_zero, List.getElem_cons_succ, List.setIfInBounds_toArray, List.set_cons_zero, List.set_cons_succ]
            refine wpAnyH_take (i := 6) (v := ?_) rfl (by kernel_rfl) (by kernel_rfl) (by kernel_rfl) (fun _ _ _ h => h) (Or.inl ⟨by rfl, ?_⟩) (by assumption) ?_
            rotate_left
            · simp only [List.getElem_toArray, List.getElem_cons_zero, List.getElem_cons_succ]; intro W hSw; (try dsimp only at hSw); go_simp; all_goals with_reducible rfl
            simp only [Act.put, List.getElem_toArray, List.getElem_cons_zero, List.getElem_cons_succ, List.setIfInBounds_toArray, List.set_cons_zero, List.set_cons_succ]
            refine wpAnyH_take (i := 7) (v := ?_) rfl (by kernel_rfl) (by kernel_rfl) (by kernel_rfl) (fun _ _ _ h => h) (Or.inl ⟨by rfl, ?_⟩) (by assumption) ?_
            rotate_left
            · simp only [List.getElem_toArray, List.getElem_cons_zero, List.getElem_cons_succ]; intro W hSw; (try dsimp only at hSw); go_simp; all_goals with_reducible rfl
            simp only [Act.put, List.getElem_toArray, List.getElem_cons_zero, List.getElem_cons_succ, List.setIfInBounds_toArray, List.set_cons_zero, List.set_cons_succ]
            refine wpAnyH_take (i := 8) (v := ?_) rfl (by kernel_rfl) (by kernel_rfl) (by kernel_rfl) (fun _ _ _ h => h) (Or.inl ⟨by rfl, ?_⟩) (by assumption) ?_
            rotate_left
            · simp only [List.getElem_toArray, List.getElem_cons_zero, List.getElem_cons_succ]; intro W hSw; (try dsimp only at hSw); go_simp; all_goals with_reducible rfl
            simp only [Act.put, List.getElem_toArray, List.getElem_cons_zero, List.getElem_cons_succ, List.setIfInBounds_toArray, List.set_cons_zero, List.set_cons_succ]
            refine wpAnyH_take (i := 9) (v := ?_) rfl (by kernel_rfl) (by kernel_rfl) (by kernel_rfl) (fun _ _ _ h => h) (Or.inl ⟨by rfl, ?_⟩) (by assumption) ?_
            rotate_left
            · simp only [List.getElem_toArray, List.getElem_cons_zero, List.getElem_cons_succ]; intro W hSw; (try dsimp only at hSw); go_simp; all_goals with_reducible rfl
            simp only [Act.put, List.getElem_toArray, List.getElem_cons_zero, List.getElem_cons_succ, List.setIfInBounds_toArray, List.set_cons_zero, List.set_cons_succ]
            refine wpAnyH_take (i := 10) (v := ?_) rfl (by kernel_rfl) (by kernel_rfl) (by kernel_rfl) (fun _ _ _ h => h) (Or.inl ⟨by rfl, ?_⟩) (by assumption) ?_
            rotate_left
            · simp only [List.getElem_toArray, List.getElem_cons_zero, List.getElem_cons_succ]; intro W hSw; (try dsimp only at hSw); go_simp; all_goals with_reducible rfl
            simp only [Act.put, List.getElem_toArray, List.getElem_cons_zero, List.getElem_cons_succ, List.setIfInBounds_toArray, List.set_cons_zero, List.set_cons_succ]
            refine wpAnyH_take (i := 11) (v := ?_) rfl (by kernel_rfl) (by kernel_rfl) (by kernel_rfl) (fun _ _ _ h => h) (Or.inl ⟨by rfl, ?_⟩) (by assumption) ?_
            rotate_left
            · simp only [List.getElem_toArray, List.getElem_cons_zero, List.getElem_cons_succ]; intro W hSw; (try dsimp only at hSw); go_simp; all_goals with_reducible rfl
            simp only [Act.put, List.getElem_toArray, List.getElem_cons_zero, List.getElem_cons_succ, List.setIfInBounds_toArray, List.set_cons_zero, List.set_cons_succ]
            refine wpAnyH_take (i := 12) (v := ?_) rfl (by kernel_rfl) (by kernel_rfl) (by kernel_rfl) (fun _ _ _ h => h) (Or.inl ⟨by rfl, ?_⟩) (by assumption) ?_
            rotate_left
            · simp only [List.getElem_toArray, List.getElem_cons_zero, List.getElem_cons_succ]; intro W hSw; (try dsimp only at hSw); go_simp; all_goals with_reducible rfl
            simp only [Act.put, List.getElem_toArray, List.getElem_cons_zero, List.getElem_cons_succ, List.setIfInBounds_toArray, List.set_cons_zero, List.set_cons_succ]
            refine wpAnyH_take (i := 13) (v := ?_) rfl (by kernel_rfl) (by kernel_rfl) (by kernel_rfl) (fun _ _ _ h => h) (Or.inl ⟨by rfl, ?_⟩) (by assumption) ?_
            rotate_left
            · simp only [List.getElem_toArray, List.getElem_cons_zero, List.getElem_cons_succ]; intro W hSw; (try dsimp only at hSw); go_simp; all_goals with_reducible rfl
            simp only [Act.put, List.getElem_toArray, List.getElem_cons_zero, List.getElem_cons_succ, List.setIfInBounds_toArray, List.set_cons_zero, List.set_cons_succ]
            refine wpAnyH_take (i := 14) (v := ?_) rfl (by kernel_rfl) (by kernel_rfl) (by kernel_rfl) (fun _ _ _ h => h) (Or.inl ⟨by rfl, ?_⟩) (by assumption) ?_
            rotate_left
            · simp only [List.getElem_toArray, List.getElem_cons_zero, List.getElem_cons_succ]; intro W hSw; (try dsimp only at hSw); go_simp; all_goals with_reducible rfl
            simp only [Act.put, List.getElem_toArray, List.getElem_cons_zero, List.getElem_cons_succ, List.setIfInBounds_toArray, List.set_cons_zero, List.set_cons_succ]
            refine wpAnyH_take (i := 15) (v := ?_) rfl (by kernel_rfl) (by kernel_rfl) (by kernel_rfl) (fun _ _ _ h => h) (Or.inl ⟨by rfl, ?_⟩) (by assumption) ?_
            rotate_left
            · simp only [List.getElem_toArray, List.getElem_cons_zero, List.getElem_cons_succ]; intro W hSw; (try dsimp only at hSw); go_simp; all_goals with_reducible rfl
            simp only [Act.put, List.getElem_toArray, List.getElem_cons_zero, List.getElem_cons_succ, List.setIfInBounds_toArray, List.set_cons_zero, List.set_cons_succ]
            refine wpAnyH_take (i := 16) (v := ?_) rfl (by kernel_rfl) (by kernel_rfl) (by kernel_rfl) (fun _ _ _ h => h) (Or.inl ⟨by rfl, ?_⟩) (by assumption) ?_
            rotate_left
            · simp only [List.getElem_toArray, List.getElem_cons_zero, List.getElem_cons_succ]; intro W hSw; (try dsimp only at hSw); go_simp; all_goals with_reducible rfl
            simp only [Act.put, List.getElem_toArray, List.getElem_cons_zero, List.getElem_cons_succ, List.setIfInBounds_toArray, List.set_cons_zero, List.set_cons_succ]
            refine wpAnyH_take (i := 17) (v := ?_) rfl (by kernel_rfl) (by kernel_rfl) (by kernel_rfl) (fun _ _ _ h => h) (Or.inl ⟨by rfl, ?_⟩) (by assumption) ?_
            rotate_left
            · simp only [List.getElem_toArray, List.getElem_cons_zero, List.getElem_cons_succ]; intro W hSw; (try dsimp only at hSw); go_simp; all_goals with_reducible rfl
            simp only [Act.put, List.getElem_toArray, List.getElem_cons_zero, List.getElem_cons_succ, List.setIfInBounds_toArray, List.set_cons_zero, List.set_cons_succ]
            refine wpAnyH_take (i := 18) (v := ?_) rfl (by kernel_rfl) (by kernel_rfl) (by kernel_rfl) (fun _ _ _ h => h) (Or.inl ⟨by rfl, ?_⟩) (by assumption) ?_
            rotate_left
            · simp only [List.getElem_toArray, List.getElem_cons_zero, List.getElem_cons_succ]; intro W hSw; (try dsimp only at hSw); go_simp; all_goals with_reducible rfl
            simp only [Act.put, List.getElem_toArray, List.getElem_cons_zero, List.getElem_cons_succ, List.setIfInBounds_toArray, List.set_cons_zero, List.set_cons_succ]
            refine wpAnyH_take (i := 19) (v := ?_) rfl (by kernel_rfl) (by kernel_rfl) (by kernel_rfl) (fun _ _ _ h => h) (Or.inl ⟨by rfl, ?_⟩) (by assumption) ?_
            rotate_left
            · simp only [List.getElem_toArray, List.getElem_cons_zero, List.getElem_cons_succ]; intro W hSw; (try dsimp only at hSw); go_simp; all_goals with_reducible rfl
            simp only [Act.put, List.getElem_toArray, List.getElem_cons_zero, List.getElem_cons_succ, List.setIfInBounds_toArray, List.set_cons_zero, List.set_cons_succ]
            refine wpAnyH_take (i := 20) (v := ?_) rfl (by kernel_rfl) (by kernel_rfl) (by kernel_rfl) (fun _ _ _ h => h) (Or.inl ⟨by rfl, ?_⟩) (by assumption) ?_
            rotate_left
            · simp only [List.getElem_toArray, List.getElem_cons_zero, List.getElem_cons_succ]; intro W hSw; (try dsimp only at hSw); go_simp; all_goals with_reducible rfl
            simp only [Act.put, List.getElem_toArray, List.getElem_cons_zero, List.getElem_cons_succ, List.setIfInBounds_toArray, List.set_cons_zero, List.set_cons_succ]
            refine wpAnyH_take (i := 23) (v := ?_) rfl (by kernel_rfl) (by kernel_rfl) (by kernel_rfl) (fun _ _ _ h => h) (Or.inl ⟨by rfl, ?_⟩) (by assumption) ?_
            rotate_left
            · simp only [List.getElem_toArray, List.getElem_cons_zero, List.getElem_cons_succ]; intro W hSw; (try dsimp only at hSw); go_simp; all_goals with_reducible rfl
            simp only [Act.put, List.getElem_toArray, List.getElem_cons_zero, List.getElem_cons_succ, List.setIfInBounds_toArray, List.set_cons_zero, List.set_cons_succ]
            refine wpAnyH_ready (rs := [21]) (by kernel_rfl) (by simp) ?_
            refine AllReadyH.cons rfl (fun K hK => ?_) AllReadyH.nil
            simp only [List.getElem_toArray, List.getElem_cons_zero, List.getElem_cons_succ]
            go_simp
            refine (HDu.out _ (Below.refl _ _).drew).mono ?_
            rintro e w6 ⟨v6, rfl, hn6⟩
            go_wp2_with fail
            have hb56 : Below w5.heap.size w5 w6 := (Below.refl _ w5).drew.trans hn6.2
            have hk6 : (convert 29 9 v6).run Try.prog w6 = .ok (.string (str (flat D.dur))) w6 := (hn6.strAt (flat_new M5.out)).here
            clear hn6
            refine hK.out _ _ (HS.out _ hb56) (fun hHeld2 => ?_)
            clear hK K
            (try simp only [Act.put, List.getElem_toArray, List.getElem_cons_zero, List.getElem_cons_succ, List.setIfInBounds_toArray, List.set_cons_zero, List.set_cons_succ])
            refine wpAnyH_ready (rs := [22]) (by kernel_rfl) (by simp) ?_
            refine AllReadyH.cons rfl (fun K hK => ?_) AllReadyH.nil
            simp only [List.getElem_toArray, List.getElem_cons_zero, List.getElem_cons_succ]
            go_simp
            refine hK.out _ _ (by assumption) (fun hHeld3 => ?_)
            clear hK K
            (try simp only [Act.put, List.getElem_toArray, List.getElem_cons_zero, List.getElem_cons_succ, List.setIfInBounds_toArray, List.set_cons_zero, List.set_cons_succ])
            refine wpAnyH_take (i := 24) (v := ?_) rfl (by kernel_rfl) (by kernel_rfl) (by kernel_rfl) (fun _ _ _ h => h) (Or.inl ⟨by rfl, ?_⟩) (by assumption) ?_
            rotate_left
            · simp only [List.getElem_toArray, List.getElem_cons_zero, List.getElem_cons_succ]; intro W hSw; (try dsimp only at hSw); go_simp; all_goals with_reducible rfl
            simp only [Act.put, List.getElem_toArray, List.getElem_cons_zero, List.getElem_cons_succ, List.setIfInBounds_toArray, List.set_cons_zero, List.set_cons_succ]
            refine wpAnyH_take (i := 25) (v := ?_) rfl (by kernel_rfl) (by kernel_rfl) (by kernel_rfl) (fun _ _ _ h => h) (Or.inl ⟨by rfl, ?_⟩) (by assumption) ?_
            rotate_left
            · simp only [List.getElem_toArray, List.getElem_cons_zero, List.getElem_cons_succ]; intro W hSw; (try dsimp only at hSw); go_simp; all_goals with_reducible rfl
            simp only [Act.put, List.getElem_toArray, List.getElem_cons_zero, List.getElem_cons_succ, List.setIfInBounds_toArray, List.set_cons_zero, List.set_cons_succ]
            refine wpAnyH_take (i := 26) (v := ?_) rfl (by kernel_rfl) (by kernel_rfl) (by kernel_rfl) (fun _ _ _ h => h) (Or.inl ⟨by rfl, ?_⟩) (by assumption) ?_
            rotate_left
            · simp only [List.getElem_toArray, List.getElem_cons_zero, List.getElem_cons_succ]; intro W hSw; (try dsimp only at hSw); go_simp; all_goals with_reducible rfl
            simp only [Act.put, List.getElem_toArray, List.getElem_cons_zero, List.getElem_cons_succ, List.setIfInBounds_toArray, List.set_cons_zero, List.set_cons_succ]
            refine wpAnyH_take (i := 27) (v := ?_) rfl (by kernel_rfl) (by kernel_rfl) (by kernel_rfl) (fun _ _ _ h => h) (Or.inl ⟨by rfl, ?_⟩) (by assumption) ?_
            rotate_left
            · simp only [List.getElem_toArray, List.getElem_cons_zero, List.getElem_cons_succ]; intro W hSw; (try dsimp only at hSw); go_simp; all_goals with_reducible rfl
            simp only [Act.put, List.getElem_toArray, List.getElem_cons_zero, List.getElem_cons_succ, List.setIfInBounds_toArray, List.set_cons_zero, List.set_cons_succ]
            refine wpAnyH_take (i := 29) (v := ?_) rfl (by kernel_rfl) (by kernel_rfl) (by kernel_rfl) (fun _ _ _ h => h) (Or.inl ⟨by rfl, ?_⟩) (by assumption) ?_
            rotate_left
            · simp only [List.getElem_toArray, List.getElem_cons_zero, List.getElem_cons_succ]; intro W hSw; (try dsimp only at hSw); go_simp; all_goals with_reducible rfl
            simp only [Act.put, List.getElem_toArray, List.getElem_cons_zero, List.getElem_cons_succ, List.setIfInBounds_toArray, List.set_cons_zero, List.set_cons_succ]
            refine wpAnyH_ready (rs := [28]) (by kernel_rfl) (by simp) ?_
            refine AllReadyH.cons rfl (fun K hK => ?_) AllReadyH.nil
            simp only [List.getElem_toArray, List.getElem_cons_zero, List.getElem_cons_succ]
            go_simp
            refine (HWs.out _ hb56).mono ?_
            rintro e w7 ⟨rfl, hb7⟩
            go_wp2_with fail
            have hb57 : Below w5.heap.size w5 w7 := hb56.trans (hb7.mono hb56.size)
            have hww := HWW.out
            refine hK.out _ _ (HS.out _ hb57) (fun hHeld4 => ?_)
            clear hK K
            (try simp only [Act.put, List.getElem_toArray, List.getElem_cons_zero, List.getElem_cons_succ, List.setIfInBounds_toArray, List.set_cons_zero, List.set_cons_succ])
            rw [hww]
            refine wpAnyH_take (i := 30) (v := ?_) rfl (by kernel_rfl) (by kernel_rfl) (by kernel_rfl) (fun _ _ _ h => h) (Or.inl ⟨by rfl, ?_⟩) (by assumption) ?_
            rotate_left
            · simp only [List.getElem_toArray, List.getElem_cons_zero, List.getElem_cons_succ]; intro W hSw; (try dsimp only at hSw); go_simp; all_goals with_reducible rfl
            simp only [Act.put, List.getElem_toArray, List.getElem_cons_zero, List.getElem_cons_succ, List.setIfInBounds_toArray, List.set_cons_zero, List.set_cons_succ]
            refine wpAnyH_take (i := 31) (v := ?_) rfl (by kernel_rfl) (by kernel_rfl) (by kernel_rfl) (fun _ _ _ h => h) (Or.inl ⟨by rfl, ?_⟩) (by assumption) ?_
            rotate_left
            · simp only [List.getElem_toArray, List.getElem_cons_zero, List.getElem_cons_succ]; intro W hSw; (try dsimp only at hSw); go_simp; all_goals with_reducible rfl
            simp only [Act.put, List.getElem_toArray, List.getElem_cons_zero, List.getElem_cons_succ, List.setIfInBounds_toArray, List.set_cons_zero, List.set_cons_succ]
            refine wpAnyH_done (by kernel_rfl) ?_ _
            have M7 := Lib.hid (M5.out.below hb57)
            have HDn7 := Lib.hid (show (D.write n x.bs).down = false from HDn.out)
            clear hb7 hb56 hb57 hk6 hHeld hHeld2 hHeld3 hHeld4
            go_wp2
            go_roundw
            case rel => exact ⟨k + 1, S5, D.write n x.bs, by simp, by omega, M7.out, HDn7.out, rfl, by rw [HWW.out], by have := HW.out; rw [writes_write D hn34]; omega, fun n' hn' => write_len D n x.bs (HC.out n' hn')⟩
            case measure => simp [intOf]; omega
          · have hcode : D.wcode x.at_ x.bs.length = 2 := by unfold Dk.wcode; rw [HDn.out]; simp [hz]
            have hwr : D.wrote x.at_ x.bs = D := by unfold Dk.wrote; rw [if_neg (by rw [hcode]; decide)]
            rw [hcode, hwr] at HWt
            clear hz hcode hwr
            go_wp2_with fail
            refine HWt.out.mono ?_
            rintro e w4 ⟨rfl, hg4⟩
            obtain ⟨S4, h4⟩ := M3.out.step hg4
            have M4 := Lib.hid h4
            clear h4 hg4
            go_wp2
            go_roundw
            case rel => exact ⟨k + 1, S4, D, by simp, by omega, M4.out, HDn.out, rfl, rfl, by have := HW.out; omega, fun n hn => Nat.le_trans (HC.out n hn) (by omega)⟩
            case measure => simp [intOf]; omega
      · obtain rfl : k = l.length := by omega
        have HB := Lib.hid M.out.keeps
        go_wp2_with (go_at_call 7; refine (wakes_any _).mono ?_; rintro e w7 ⟨rfl, hb7⟩)
        go_ret
        exact ⟨rfl, HB.out.trans (hb7.mono HB.out.size)⟩
end Go.Proofs.Ytfeaaclbjnaamaa
