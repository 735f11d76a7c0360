/-
  PackValues, by contract.
-/
import Derived.Test.YtaapkohcembjbaaSame
namespace Go.Proofs.Ytaapkohcembjbaa
open Go.RowKit

theorem NewV.slice {w w' : World} {n : Nat} {bs : List Nat} {v : Value} (h : NewV w w' n bs v) (hb : ∀ x ∈ bs, x < 256) (hn : bs.length = 8 * n) : ∃ A c, v = .slice A n c ∧ By w' w'.heap.size A bs := by
  obtain ⟨⟨_, h2⟩, _⟩ := h
  rcases h2 with ⟨rfl, h0⟩ | ⟨g, cap, cur, rfl, hg, hh, hle, hc, hsz, ht⟩
  · subst h0
    obtain rfl := List.eq_nil_of_length_eq_zero (show bs.length = 0 by omega)
    exact ⟨none, 0, rfl, By.nil_⟩
  · refine ⟨some ⟨g, 0, none⟩, cap, rfl, ?_⟩
    have hlt : g < w'.heap.size := by
      rcases Nat.lt_or_ge g w'.heap.size with h | h
      · exact h
      · rw [Array.getElem?_eq_none h] at hh; cases hh
    exact (By.of_row hh (by rw [hn, Nat.mul_comm]; exact ht) hb).mono hlt
/-- what ReadValues and the document's ReadValues answer -/
theorem read_both (bs : List Nat) (hbl : ∀ x ∈ bs, x < 256) (hl : bs.length ≤ 8000) : ∃ (ps : List Nat) (m : Nat) (er : Int), ps.length = 8 * m ∧ m ≤ 1000 ∧
    (∀ (A : Option Addr) (c : Nat) (w : World), By w w.heap.size A bs → bs.length ≤ c → Calls Try.prog 14 #[.slice A bs.length c] w fun e w' => ∃ A' c', e = .returned (.tuple #[.slice A' m c', .int .i64 er]) ∧ By w' w'.heap.size A' ps ∧ Below w.heap.size w w') ∧
    (∀ (A : Option Addr) (c : Nat) (w : World), By w w.heap.size A bs → bs.length ≤ c → c ≤ maxLen → Calls Try.prog 15 #[.slice A bs.length c] w fun e w' => ∃ A' c', e = .returned (.tuple #[.slice A' m c', .int .i64 er]) ∧ By w' w'.heap.size A' ps ∧ Below w.heap.size w w') := by
  by_cases h8 : bs.length % 8 = 0
  · have hn : bs.length = 8 * (bs.length / 8) := by omega
    refine ⟨bs, bs.length / 8, 0, hn, by omega, fun A c w hA hc => ?_, fun A c w hA hc hcm => ?_⟩
    · refine (read_yes bs (bs.length / 8) hn A c w hA hc (by omega)).mono ?_
      rintro e w' ⟨v, rfl, hv⟩
      obtain ⟨A', c', rfl, hy⟩ := hv.slice hbl hn
      exact ⟨A', c', rfl, hy, hv.2⟩
    · refine (rread_yes bs (bs.length / 8) hn A c w hA hc (by omega) hcm).mono ?_
      rintro e w' ⟨v, rfl, hv⟩
      obtain ⟨A', c', rfl, hy⟩ := hv.slice hbl hn
      exact ⟨A', c', rfl, hy, hv.2⟩
  · refine ⟨[], 0, 40, rfl, by omega, fun A c w _ _ => ?_, fun A c w _ _ _ => ?_⟩
    · refine (read_no bs.length h8 A c w (by omega)).mono ?_
      rintro e w' ⟨rfl, rfl⟩
      exact ⟨none, 0, rfl, By.nil_, Below.refl _ _⟩
    · refine (rread_no bs.length h8 A c w (by omega)).mono ?_
      rintro e w' ⟨rfl, rfl⟩
      exact ⟨none, 0, rfl, By.nil_, Below.refl _ _⟩
/-- what Value and the document's Value answer -/
theorem value_both (bs : List Nat) : ∃ (ps : List Nat) (er : Int), ps.length = 8 ∧
    (∀ (A : Option Addr) (c : Nat) (w : World), By w w.heap.size A bs → Calls Try.prog 16 #[.slice A bs.length c] w fun e w' => e = .returned (.tuple #[arr ps, .int .i64 er]) ∧ Below w.heap.size w w') ∧
    (∀ (A : Option Addr) (c : Nat) (w : World), By w w.heap.size A bs → Calls Try.prog 17 #[.slice A bs.length c] w fun e w' => e = .returned (.tuple #[arr ps, .int .i64 er]) ∧ Below w.heap.size w w') := by
  by_cases h8 : bs.length = 8
  · exact ⟨bs, 0, h8, fun A c w hA => value_any bs h8 A c w hA, fun A c w hA => rvalue_any bs h8 A c w hA⟩
  · exact ⟨zero8, 2, rfl, fun A c w _ => value_no bs.length h8 A c w, fun A c w _ => rvalue_no bs.length h8 A c w⟩
/-- a local block that takes a value -/
theorem stored (w : World) (ps : List Nat) (B : Nat) (w0 : World) (hb : Below B w0 w) (hB : B ≤ w.heap.size) :
    ((w.alloc (.cells #[.int .u8 0, .int .u8 0, .int .u8 0, .int .u8 0, .int .u8 0, .int .u8 0, .int .u8 0, .int .u8 0] 36)).heap[w.heap.size]? = some (.cells #[.int .u8 0, .int .u8 0, .int .u8 0, .int .u8 0, .int .u8 0, .int .u8 0, .int .u8 0, .int .u8 0] 36 (0, 0))) ∧
    ((w.alloc (.cells #[.int .u8 0, .int .u8 0, .int .u8 0, .int .u8 0, .int .u8 0, .int .u8 0, .int .u8 0, .int .u8 0] 36)).setRow w.heap.size (vals ps).toArray).heap[w.heap.size]? = some (.cells (vals ps).toArray 36 (0, 0)) ∧
    Below B w0 ((w.alloc (.cells #[.int .u8 0, .int .u8 0, .int .u8 0, .int .u8 0, .int .u8 0, .int .u8 0, .int .u8 0, .int .u8 0] 36)).setRow w.heap.size (vals ps).toArray) ∧
    Below w.heap.size w ((w.alloc (.cells #[.int .u8 0, .int .u8 0, .int .u8 0, .int .u8 0, .int .u8 0, .int .u8 0, .int .u8 0, .int .u8 0] 36)).setRow w.heap.size (vals ps).toArray) ∧
    w.heap.size < ((w.alloc (.cells #[.int .u8 0, .int .u8 0, .int .u8 0, .int .u8 0, .int .u8 0, .int .u8 0, .int .u8 0, .int .u8 0] 36)).setRow w.heap.size (vals ps).toArray).heap.size := by
  have h0 := heap_alloc_new w (.cells #[.int .u8 0, .int .u8 0, .int .u8 0, .int .u8 0, .int .u8 0, .int .u8 0, .int .u8 0, .int .u8 0] 36)
  exact ⟨h0, setRow_heap _ _ _ (vals ps).toArray _ _ h0, below_setRow (hb.alloc hB _) hB _, below_setRow ((Below.refl _ _).alloc (Nat.le_refl _) _) (Nat.le_refl _) _, by simp [World.setRow]⟩

set_option maxHeartbeats 1000000 in
theorem vals_small (ls bs : List Nat) (n : Nat) (hn : ls.length = 8 * n) (L A : Option Addr) (cl c : Nat) (w : World) (hL : By w w.heap.size L ls) (hA : By w w.heap.size A bs) (hc : bs.length ≤ c) (hcm : c ≤ maxLen) (hln : n ≤ 1000) (hl : bs.length ≤ 8000) :
    Calls Try.prog 4 #[.slice L n cl, .slice A bs.length c] w fun e w' => e = .returned (.bool true) ∧ Below w.heap.size w w' := by
  have hb1 : ¬ 1000 < n := by omega
  have hb2 : ¬ 8000 < bs.length := by omega
  obtain ⟨ps, m, er, hpl, hm, hr1, hr2⟩ := read_both bs hA.1 hl
  obtain ⟨vs, ve, hvl, hv1, hv2⟩ := value_both bs
  have R1 := Lib.hid hr1
  have R2 := Lib.hid hr2
  have V1 := Lib.hid hv1
  have V2 := Lib.hid hv2
  have HA := Lib.hid hA
  have HL := Lib.hid hL
  have HC := Lib.hid hc
  have HM := Lib.hid hcm
  have HN := Lib.hid hn
  have q1 : (er == er) = true := by simp
  have q2 : (ve == ve) = true := by simp
  have HI := Lib.hid (arr_info vs hvl)
  have H1 := Lib.hid (arr_one vs)
  have HS := Lib.hid (arr_size vs hvl)
  unfold Z8 at HS
  clear hr1 hr2 hv1 hv2 hA hL hc hcm hn
  go_enter Try.func4, Try.ntmps4
  go_wp2_with fail
  refine (R1.out A c w HA.out HC.out).mono ?_
  rintro e w1 ⟨A1, c1, rfl, hy1, hb1⟩
  have Y1 := Lib.hid hy1
  have B1 := Lib.hid hb1
  clear hy1 hb1
  go_wp2_with fail
  refine (R2.out A c w1 ((HA.out.below B1.out (Nat.le_refl _)).mono B1.out.size) HC.out HM.out).mono ?_
  rintro e w2 ⟨A2, c2, rfl, hy2, hb2⟩
  have Y2 := Lib.hid hy2
  have B2 := Lib.hid (B1.out.trans (hb2.mono B1.out.size))
  have Y12 := Lib.hid ((Y1.out.below hb2 (Nat.le_refl _)).mono hb2.size)
  clear hy2 hb2
  go_wp2_with fail
  refine (V1.out A c w2 ((HA.out.below B2.out (Nat.le_refl _)).mono B2.out.size)).mono ?_
  rintro e w3 ⟨rfl, hb3⟩
  obtain ⟨s0, s1, s2, s3, s4⟩ := stored w3 vs w2.heap.size w2 hb3 hb3.size
  have S0 := Lib.hid s0
  have S1 := Lib.hid s1
  have S2 := Lib.hid s2
  have S4 := Lib.hid s4
  clear s0 s1 s2 s3 s4 hb3
  go_wp2_with (first
    | (refine wpList_store_row rfl 36 _ _ rfl w3.heap.size (vals vs).toArray rfl rfl 36 _ S0.out HI.out HS.out H1.out ?_))
  generalize (w3.alloc (.cells #[.int .u8 0, .int .u8 0, .int .u8 0, .int .u8 0, .int .u8 0, .int .u8 0, .int .u8 0, .int .u8 0] 36)).setRow w3.heap.size (vals vs).toArray = w4 at S1 S2 S4 ⊢
  generalize w3.heap.size = g4 at *
  have B4 := Lib.hid (B2.out.trans (S2.out.mono B2.out.size))
  have Y14 := Lib.hid ((Y12.out.below S2.out (Nat.le_refl _)).mono S2.out.size)
  have Y24 := Lib.hid ((Y2.out.below S2.out (Nat.le_refl _)).mono S2.out.size)
  refine (V2.out A c w4 ((HA.out.below B4.out (Nat.le_refl _)).mono B4.out.size)).mono ?_
  rintro e w5 ⟨rfl, hb5⟩
  obtain ⟨s0, s1, s2, s3, s4⟩ := stored w5 vs w4.heap.size w4 hb5 hb5.size
  have T0 := Lib.hid s0
  have T1 := Lib.hid s1
  have T2 := Lib.hid s2
  have T4 := Lib.hid s4
  clear s0 s1 s2 s3 s4 hb5
  go_wp2_with (first
    | (refine wpList_store_row rfl 36 _ _ rfl w5.heap.size (vals vs).toArray rfl rfl 36 _ T0.out HI.out HS.out H1.out ?_))
  generalize (w5.alloc (.cells #[.int .u8 0, .int .u8 0, .int .u8 0, .int .u8 0, .int .u8 0, .int .u8 0, .int .u8 0, .int .u8 0] 36)).setRow w5.heap.size (vals vs).toArray = w6 at T1 T2 T4 ⊢
  generalize w5.heap.size = g6 at *
  have B6 := Lib.hid (B4.out.trans (T2.out.mono B4.out.size))
  have Y16 := Lib.hid ((Y14.out.below T2.out (Nat.le_refl _)).mono T2.out.size)
  have Y26 := Lib.hid ((Y24.out.below T2.out (Nat.le_refl _)).mono T2.out.size)
  have U1 := Lib.hid ((T2.out.block g4 S4.out).trans S1.out)
  have U4 := Lib.hid (Nat.lt_of_lt_of_le S4.out T2.out.size)
  refine (values_any ls n HN.out L cl w6 ((HL.out.below B6.out (Nat.le_refl _)).mono B6.out.size) (by omega)).mono ?_
  rintro e w7 ⟨v7, rfl, hv7⟩
  obtain ⟨A7, c7, rfl, hy7, _⟩ := hv7.slice HL.out.1
  have hb7 := hv7.2
  have B7 := Lib.hid (B6.out.trans (hb7.mono B6.out.size))
  have Y7 := Lib.hid hy7
  clear hv7 hy7
  go_wp2_with fail
  refine (rvalues_any ls n HN.out L cl w7 ((HL.out.below B7.out (Nat.le_refl _)).mono B7.out.size) (by omega)).mono ?_
  rintro e w8 ⟨v8, rfl, hv8⟩
  obtain ⟨A8, c8, rfl, hy8, _⟩ := hv8.slice HL.out.1
  have hb8 := hv8.2
  have B68 := Lib.hid (hb7.trans (hb8.mono hb7.size))
  have Y78 := Lib.hid ((Y7.out.below hb8 (Nat.le_refl _)).mono hb8.size)
  have Y8 := Lib.hid hy8
  have B8 := Lib.hid (B7.out.trans (hb8.mono B7.out.size))
  clear hv8 hy8 hb7 hb8
  go_wp2_with fail
  refine (bytes_same ls A7 A8 c7 c8 w8 Y78.out Y8.out).mono ?_
  rintro e w9 ⟨rfl, rfl⟩
  go_wp2_with fail
  refine (values_same ps m hpl A1 A2 c1 c2 w8 ((Y16.out.below B68.out (Nat.le_refl _)).mono B68.out.size) ((Y26.out.below B68.out (Nat.le_refl _)).mono B68.out.size) (by omega)).mono ?_
  rintro e w10 ⟨rfl, hb10⟩
  have B10 := Lib.hid (B8.out.trans (hb10.mono B8.out.size))
  have W1 := Lib.hid ((hb10.block g4 (Nat.lt_of_lt_of_le U4.out B68.out.size)).trans ((B68.out.block g4 U4.out).trans U1.out))
  have W2 := Lib.hid ((hb10.block g6 (Nat.lt_of_lt_of_le T4.out B68.out.size)).trans ((B68.out.block g6 T4.out).trans T1.out))
  clear hb10
  have e1 := eight_cells W1.out hvl
  have e2 := eight_cells W2.out hvl
  have a0 := e1 0 (by omega)
  have a1 := e1 1 (by omega)
  have a2 := e1 2 (by omega)
  have a3 := e1 3 (by omega)
  have a4 := e1 4 (by omega)
  have a5 := e1 5 (by omega)
  have a6 := e1 6 (by omega)
  have a7 := e1 7 (by omega)
  have b0 := e2 0 (by omega)
  have b1 := e2 1 (by omega)
  have b2 := e2 2 (by omega)
  have b3 := e2 3 (by omega)
  have b4 := e2 4 (by omega)
  have b5 := e2 5 (by omega)
  have b6 := e2 6 (by omega)
  have b7 := e2 7 (by omega)
  generalize vs.getD 0 0 = x0 at a0 b0
  generalize vs.getD 1 0 = x1 at a1 b1
  generalize vs.getD 2 0 = x2 at a2 b2
  generalize vs.getD 3 0 = x3 at a3 b3
  generalize vs.getD 4 0 = x4 at a4 b4
  generalize vs.getD 5 0 = x5 at a5 b5
  generalize vs.getD 6 0 = x6 at a6 b6
  generalize vs.getD 7 0 = x7 at a7 b7
  clear e1 e2
  have hq := fun w => eq_same w x0 x1 x2 x3 x4 x5 x6 x7
  go_wp2_with fail
  refine (wakes_any w10).mono ?_
  rintro e w11 ⟨rfl, hb11⟩
  have hB := B10.out.trans (hb11.mono B10.out.size)
  clear hb11
  go_wp2
  go_ret
  exact ⟨rfl, hB⟩
end Go.Proofs.Ytaapkohcembjbaa
