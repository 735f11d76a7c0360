/-
  The developers' answers: may a superblock be?
-/
import Derived.Test.YtgkbhdecohlpmaaHDnums
namespace Go.Proofs.Ytgkbhdecohlpmaa
set_option maxRecDepth 100000
open Go.RowKit
set_option maxRecDepth 100000

/-- the thirteen numbers of the superblock in block g, in memory -/
def NumsAt (W : World) (g b off : Nat) : Prop := ∀ k, k < 13 → ∀ j u, (numI g k)[j]? = some u → W.cell? ⟨b, off + k * 4 + j, none⟩ = some u
theorem NumsAt.below {W W' : World} {B g b off : Nat} (h : NumsAt W g b off) (hB : Below B W W') (hb : b < B) : NumsAt W' g b off := fun k hk j u hu => (hB.cell (p := ⟨b, off + k * 4 + j, none⟩) hb).trans (h k hk j u hu)
theorem nums_at {W : World} {base g : Nat} {v : Value} (h : W.ownsRow base 76 4 v 13 (numsI g 13)) : ∃ b off c, v = .slice (some ⟨b, off, none⟩) 13 c ∧ base ≤ b ∧ b < W.heap.size ∧ 13 ≤ c ∧ c ≤ maxLen ∧ NumsAt W g b off := by
  obtain ⟨h1, h2⟩ := h
  rcases h2 with ⟨_, h0⟩ | ⟨b, cap, cur, rfl, hg, hh, hcap, hmax, hsz, htk⟩
  · exact absurd h0 (by decide)
  · refine ⟨b, 0, cap, rfl, hg, (Array.getElem?_eq_some_iff.1 hh).1, hcap, hmax, fun k hk j u hu => ?_⟩
    have h3 := numsI_get g k 13 hk j u hu
    rw [Nat.zero_add, cell_of_row W b _ _ _ _ hh, ← h3, ← htk, List.getElem?_take]
    have hl := (List.getElem?_eq_some_iff.1 h3).1
    rw [numsI_len] at hl
    rw [if_pos hl]
    simp
theorem NumsAt.four {W : World} {g b off : Nat} (h : NumsAt W g b off) {k : Nat} (hk : k < 13) : W.cell? ⟨b, off + k * 4, none⟩ = some (.pointer (some ⟨g, k, none⟩)) ∧ W.cell? ⟨b, off + k * 4 + 1, none⟩ = some (.int .i64 (wdN k : Nat)) ∧ W.cell? ⟨b, off + k * 4 + 2, none⟩ = some (.int .i64 (loN k)) ∧ W.cell? ⟨b, off + k * 4 + 3, none⟩ = some (.int .i64 (hiN k)) :=
  ⟨h k hk 0 _ rfl, h k hk 1 _ rfl, h k hk 2 _ rfl, h k hk 3 _ rfl⟩
def okN (s : Sup) (k : Nat) : Bool := inH (s.ints.getD k 0) (loN k) (hiN k)
theorem may_nums {s : Sup} (hf : s.Fine) : mayP s ↔ ∀ k, k < 13 → okN s k = true := by
  obtain ⟨m0, m1, m2, m3, m4, m5, m6, m7, hm⟩ := sup_map hf
  obtain ⟨g, t, o, i, b, m⟩ := s
  simp only at hm
  subst hm
  constructor
  · rintro ⟨h1, h2, h3, h4, h5, h6⟩ k hk
    simp only at h1 h2 h3 h4 h5 h6
    have h60 := h6 m0 (by simp)
    have h61 := h6 m1 (by simp)
    have h62 := h6 m2 (by simp)
    have h63 := h6 m3 (by simp)
    have h64 := h6 m4 (by simp)
    have h65 := h6 m5 (by simp)
    have h66 := h6 m6 (by simp)
    have h67 := h6 m7 (by simp)
    unfold okN inH
    rw [decide_eq_true_eq]
    have : k = 0 ∨ k = 1 ∨ k = 2 ∨ k = 3 ∨ k = 4 ∨ k = 5 ∨ k = 6 ∨ k = 7 ∨ k = 8 ∨ k = 9 ∨ k = 10 ∨ k = 11 ∨ k = 12 := by omega
    rcases this with rfl | rfl | rfl | rfl | rfl | rfl | rfl | rfl | rfl | rfl | rfl | rfl | rfl <;> simp [Sup.ints, loN, hiN] <;> omega
  · intro h
    unfold okN inH at h
    simp only [decide_eq_true_eq] at h
    have h0 := h 0 (by omega)
    have h1 := h 1 (by omega)
    have h2 := h 2 (by omega)
    have h3 := h 3 (by omega)
    have h4 := h 4 (by omega)
    have h5 := h 5 (by omega)
    have h6 := h 6 (by omega)
    have h7 := h 7 (by omega)
    have h8 := h 8 (by omega)
    have h9 := h 9 (by omega)
    have h10 := h 10 (by omega)
    have h11 := h 11 (by omega)
    have h12 := h 12 (by omega)
    simp [Sup.ints, loN, hiN] at h0 h1 h2 h3 h4 h5 h6 h7 h8 h9 h10 h11 h12
    refine ⟨by simp only; omega, by simp only; omega, by simp only; omega, by simp only; omega, by simp only; omega, ?_⟩
    intro z hz
    simp only [List.mem_cons, List.not_mem_nil, or_false] at hz
    rcases hz with rfl | rfl | rfl | rfl | rfl | rfl | rfl | rfl <;> omega
theorem ints_len {s : Sup} (hf : s.Fine) : s.ints.length = 13 := by unfold Sup.ints; simp [hf.1]
theorem cells_len {s : Sup} (hf : s.Fine) : s.cells.size = 13 := by unfold Sup.cells; simp [ints_len hf]
/-- the superblock s in block g -/
def SupIn (W : World) (g : Nat) (s : Sup) : Prop := W.heap[g]? = some (.cells s.cells 25 (0, 0))
theorem SupIn.cell {W : World} {g : Nat} {s : Sup} (h : SupIn W g s) (hf : s.Fine) {k : Nat} (hk : k < 13) : W.cell? ⟨g, k, none⟩ = some (.int .i64 (s.ints.getD k 0)) := by
  rw [cell_of_row W g k _ _ _ h]
  unfold Sup.cells
  have : k < s.ints.length := by rw [ints_len hf]; exact hk
  simp [this]
theorem SupIn.lt {W : World} {g : Nat} {s : Sup} (h : SupIn W g s) : g < W.heap.size := (Array.getElem?_eq_some_iff.1 h).1
theorem SupIn.below {W W' : World} {B g : Nat} {s : Sup} (h : SupIn W g s) (hB : Below B W W') (hb : g < B) : SupIn W' g s := (hB.block g hb).trans h
theorem num_info2 : (Try.prog.info? 76).map (·.size) = some (4 : Nat) := by kernel_rfl
set_option maxHeartbeats 2000000 in
theorem mayH_dev : MayHSays := by
  intro s w hf
  obtain ⟨cs, hcs⟩ : ∃ cs, cs = s.cells := ⟨_, rfl⟩
  rw [← hcs]
  obtain ⟨E, hE⟩ : ∃ E, E = decide (mayP s) := ⟨_, rfl⟩
  rw [← hE]
  obtain ⟨w1, hw1⟩ : ∃ w1, w1 = w.alloc (.cells cs 25) := ⟨_, rfl⟩
  have hs1 : w1.heap.size = w.heap.size + 1 := by rw [hw1]; simp
  have HS1 := Lib.hid hs1
  have HB1 := Lib.hid (show Below w.heap.size w w1 by rw [hw1]; exact (Below.refl _ w).alloc (Nat.le_refl _) _)
  have hin : SupIn w1 w.heap.size s := by unfold SupIn; rw [hw1, hcs]; exact heap_alloc_new w _
  have HIn := Lib.hid hin
  have HC := Lib.hid (fun W (hW : Below w1.heap.size w1 W) k (hk : k < 13) => (hin.below hW (by omega)).cell hf hk)
  have HY := Lib.hid (show (∀ k, k < 13 → okN s k = true) → E = true from fun h => by rw [hE]; exact decide_eq_true ((may_nums hf).2 h))
  have HNo := Lib.hid (show ∀ k, k < 13 → okN s k = false → E = false from fun k hk h => by
    rw [hE]; exact decide_eq_false fun h2 => by rw [(may_nums hf).1 h2 k hk] at h; cases h)
  have HW1 := Lib.hid hw1
  have HN := Lib.hid (numbers_dev w.heap.size w1 (by omega))
  clear hw1 hs1 hin hcs hE hf
  go_enter Try.func11, Try.ntmps11
  go_wp2_with (rw [← HW1.out])
  refine HN.out.mono ?_
  rintro e w2 ⟨v, rfl, hv, hb2⟩
  obtain ⟨b, off, c, rfl, hbb, hbl, hc1, hc2, hat⟩ := nums_at hv
  have HB2 := Lib.hid hb2
  have HAt := Lib.hid (fun W (hW : Below w2.heap.size w2 W) => hat.below hW hbl)
  clear hv hb2 hat
  go_wp2
  go_loopw [7] (fun i wr => ∃ k : Nat, k ≤ 13 ∧ i = .int .i64 (k : Int) ∧ (∀ j, j < k → okN s j = true) ∧ Below w2.heap.size w2 wr) (fun i _ => 13 - (intOf i).toNat)
  case atStart => exact ⟨0, by omega, rfl, fun j hj => by omega, Below.refl _ _⟩
  case round =>
    obtain ⟨k, hk, rfl, hok, hb⟩ := hrel
    have HBr := Lib.hid hb
    have HOk := Lib.hid hok
    clear hb hok
    have HBd := Lib.hid (HB1.out.trans ((HB2.out.mono HB1.out.size).trans (HBr.out.mono (Nat.le_trans HB1.out.size HB2.out.size))))
    by_cases hlt : k < 13
    · have hki : (k : Int) < 13 := by omega
      have hw : IntKind.i64.wrap ((k : Int) + 1) = (k : Int) + 1 := by rw [IntKind.wrap_i64]; omega
      obtain ⟨l0, l1, l2, l3⟩ := (HAt.out wr HBr.out).four hlt
      have HM := Lib.hid (show ∀ W, Below wr.heap.size wr W → Calls Try.prog 29 #[.agg #[.pointer (some ⟨w.heap.size, k, none⟩), .int .i64 (wdN k : Nat), .int .i64 (loN k), .int .i64 (hiN k)]] W fun e w' => e = .returned (.bool (okN s k)) ∧ Below W.heap.size W w' from fun W hW => nmay_dev w.heap.size k _ _ _ _ W (HC.out W ((HB2.out.trans (HBr.out.mono HB2.out.size)).trans (hW.mono (Nat.le_trans HB2.out.size HBr.out.size))) k hlt))
      obtain ⟨wd, hwd⟩ : ∃ x : Int, x = (wdN k : Nat) := ⟨_, rfl⟩
      rw [← hwd] at l1 HM
      generalize loN k = lo at *
      generalize hiN k = hi at *
      clear hwd
      cases hq : okN s k with
      | false =>
        have HE := Lib.hid (HNo.out k hlt hq)
        rw [hq] at HM
        clear hq
        go_wp2_with (fail)
        refine (HM.out _ ((Below.refl _ _).alloc (Nat.le_refl _) _)).mono ?_
        rintro e w4 ⟨rfl, hb4⟩
        go_wp2
        go_ret
        exact ⟨by rw [HE.out]; rfl, (HBd.out.alloc HBd.out.size _).trans (hb4.mono (by rw [World.size_alloc]; have := HBd.out.size; omega))⟩
      | true =>
        have HK := Lib.hid (show ∀ j, j < k + 1 → okN s j = true from fun j hj => by
          by_cases e : j = k
          · rw [e]; exact hq
          · exact HOk.out j (by omega))
        rw [hq] at HM
        clear hq
        go_wp2_with (fail)
        refine (HM.out _ ((Below.refl _ _).alloc (Nat.le_refl _) _)).mono ?_
        rintro e w4 ⟨rfl, hb4⟩
        go_wp2
        go_roundw
        case rel => exact ⟨k + 1, by omega, by simp, HK.out, (HBr.out.alloc HBr.out.size _).trans (hb4.mono (by rw [World.size_alloc]; have := HBr.out.size; omega))⟩
        case measure => simp [intOf]; omega
    · obtain rfl : k = 13 := by omega
      have HE := Lib.hid (HY.out HOk.out)
      go_wp2
      go_ret
      exact ⟨by rw [HE.out]; rfl, HBd.out⟩
end Go.Proofs.Ytgkbhdecohlpmaa
