/-
  HomeTorn, by contract.
-/
import Derived.Test.YtgkbhdecohlpmaaHRow
import Derived.Test.YtgkbhdecohlpmaaHSame
namespace Go.Proofs.Ytgkbhdecohlpmaa
set_option maxRecDepth 100000
open Go.RowKit Dk
set_option maxRecDepth 100000

set_option maxHeartbeats 8000000 in
theorem htorn_any (C : Calls9) (z : Int) (l : List (List Nat)) (A : Option Addr) (c : Nat) (at_ : Int) (x : Nat) (w : World)
    (hz : -9223372036854775808 ≤ z ∧ z ≤ 9223372036854775807) (hat : -9223372036854775808 ≤ at_ ∧ at_ ≤ 9223372036854775807) (hx : x < 256)
    (hl : VFine l) (hA : By w w.heap.size A l.flatten) (hlc : l.length ≤ c) (hc : c ≤ maxLen) :
    Calls Try.prog 4 #[.int .i64 z, .slice A l.length c, .int .i64 at_, .int .u8 (x : Int)] w fun e w' => e = .returned (.bool true) ∧ Below w.heap.size w w' := by
  have HC := Lib.hid C
  have HAr := Lib.hid (And.intro hA hl)
  have HLe := Lib.hid (And.intro hlc (And.intro hc hz))
  obtain ⟨a, ha⟩ : ∃ a, a = w.heap.size := ⟨_, rfl⟩
  have H0 := Lib.hid (show Calls Try.prog 7 #[] w fun e w' => e = .returned (.pointer (some ⟨a, 0, none⟩)) ∧ ∃ S, Mine w w' S a Dk.fresh by rw [ha]; exact fresh_mine w w (Below.refl _ _))
  have HA_ := Lib.hid ha
  clear C hA hl hlc hc hz ha
  go_enter Try.func4, Try.ntmps4
  go_wp2_with fail
  refine H0.out.mono ?_
  rintro e w1 ⟨rfl, S1, h1⟩
  have M1 := Lib.hid (Held.mk0 h1)
  have H1 := Lib.hid (HC.out.put w1 S1 _ Dk.fresh z l A c h1.disk rfl (fun n hn => by simp [Dk.fresh]) HAr.out.2 ((Held.mk0 h1).by_ HAr.out.1) HLe.out.1 HLe.out.2.1 HLe.out.2.2)
  clear h1 H0
  rcases put_code z l.length with he | he
  rotate_left
  · rw [he] at H1
    go_wp2_with fail
    refine H1.out.mono ?_
    rintro e w2 ⟨rfl, hg⟩
    obtain ⟨S2, h2⟩ := M1.out.step hg
    have M2 := Lib.hid h2
    clear h2 hg H1 M1
    go_wp2_with fail
    refine (wakes9_of HC.out _).mono ?_
    rintro e w5 ⟨rfl, hb5⟩
    go_wp2
    go_ret
    exact ⟨rfl, (M2.out.below hb5).mine.keeps⟩
  have HE := Lib.hid he
  rw [he] at H1
  clear he
  go_wp2_with fail
  refine H1.out.mono ?_
  rintro e w2 ⟨rfl, hg⟩
  obtain ⟨S2, h2⟩ := M1.out.step hg
  have M2 := Lib.hid h2
  clear h2 hg H1 M1
  by_cases hx0 : x = 0
  · subst hx0
    go_wp2_with fail
    refine (wakes9_of HC.out _).mono ?_
    rintro e w5 ⟨rfl, hb5⟩
    go_wp2
    go_ret
    exact ⟨rfl, (M2.out.below hb5).mine.keeps⟩
  have hx0' : ((x : Int) == 0) = false := by simp; omega
  obtain ⟨n, rfl⟩ : ∃ n : Nat, z = (n : Int) := ⟨z.toNat, (Int.toNat_of_nonneg (put_ok0 HE.out).1).symm⟩
  have hn8 : n < 8 := by have := (put_ok0 HE.out).2.1; omega
  have hwr : IntKind.i64.wrap (26 + (n : Int)) = ((26 + n : Nat) : Int) := by rw [IntKind.wrap_i64]; omega
  have H2 := Lib.hid (read_row M2.out.mine.disk (by rw [put_up]; rfl) (n := 26 + n) (by omega))
  go_wp2_with fail
  refine H2.out.mono ?_
  rintro e w3 ⟨g, rfl, hg3, hr3, hb3⟩
  have M3 := Lib.hid (M2.out.below hb3)
  have HR3 := Lib.hid (And.intro hg3 (And.intro hr3 hb3))
  clear hg3 hr3 hb3 H2
  obtain ⟨bs, hbs⟩ : ∃ bs, bs = (putD Dk.fresh (n : Int) l).newest (26 + n) := ⟨_, rfl⟩
  have hpad : bs = Dk.padded (homeB l) := by
    rw [hbs]
    unfold putD
    rw [if_pos HE.out, newest_write, Int.toNat_natCast, if_pos rfl]
  have hfour : Four l := ⟨(put_ok0 HE.out).2.2, HAr.out.2⟩
  have hsec : bs.length = 64 ∧ ∀ y ∈ bs, y < 256 := by rw [hpad]; exact Dk.padded_sec (by rw [homeB_len hfour]; omega) (homeB_lt hfour)
  obtain ⟨i, hi, hmod⟩ := at_tmod at_ hat
  obtain ⟨v, hv⟩ : ∃ v, v = bs.getD i 0 := ⟨_, rfl⟩
  have hv8 : v < 256 := by rw [hv, getD_at _ _ (by omega)]; exact hsec.2 _ (List.getElem_mem _)
  have hr := HR3.out.2.1
  rw [← hbs] at hr
  have hcell : w3.cell? ⟨g, i, none⟩ = some (.int .u8 (v : Int)) := by
    rw [cell_of_row w3 g i _ _ _ hr, hv]
    unfold vals
    simp [List.getD, show i < bs.length by omega]
  have hfro : w3.frozen? ⟨g, i, none⟩ = false := frozen_of_row w3 g i _ _ hr
  have hxor := u8_xor_nat v x hv8 hx
  have hzx : v ^^^ x < 256 := Nat.xor_lt_two_pow (n := 8) hv8 hx
  have hr4 := heap_setCell_same w3 g i _ _ (.int .u8 ((v ^^^ x : Nat) : Int)) hr
  rw [vals_set] at hr4
  have hng : ¬ S2 g := fun h1 => by have := M2.out.mine.disk.old g h1; have := HR3.out.1.1; omega
  have M4 := Lib.hid (M3.out.set hng (by have := M2.out.mine.keeps.size; have := HR3.out.1.1; omega) i (.int .u8 ((v ^^^ x : Nat) : Int)))
  have hl4 : (bs.set i (v ^^^ x)).length = 64 := by rw [List.length_set]; exact hsec.1
  have hlt4 : ∀ y ∈ bs.set i (v ^^^ x), y < 256 := fun y hy => by
    rcases List.mem_or_eq_of_mem_set hy with h | rfl
    · exact hsec.2 y h
    · exact hzx
  have hgs : g < (w3.setCell ⟨g, i, none⟩ (.int .u8 ((v ^^^ x : Nat) : Int))).heap.size := lt_of_obj hr4
  have hy4 : By (w3.setCell ⟨g, i, none⟩ (.int .u8 ((v ^^^ x : Nat) : Int))) (w3.setCell ⟨g, i, none⟩ (.int .u8 ((v ^^^ x : Nat) : Int))).heap.size (some ⟨g, 0, none⟩) (bs.set i (v ^^^ x)) :=
    (By.of_row hr4 (by rw [show (vals (bs.set i (v ^^^ x))).toArray.toList = vals (bs.set i (v ^^^ x)) by simp]; exact List.take_of_length_le (by rw [vals_length]; exact Nat.le_refl _)) hlt4).mono hgs
  have htorn := home_torn hfour i x hi hx0 hx (bs.set i (v ^^^ x)) (by rw [hv, hpad])
  have H4 := Lib.hid (write_ok (n := 26 + n) (c := 64) M4.out.mine.disk (by rw [put_up]; rfl) (by omega) hy4 (by omega) (by have := put_fewL fresh_few (n : Int) l (26 + n) (by omega); omega))
  rw [hl4] at H4
  have HT := Lib.hid htorn
  have HP := Lib.hid (show Dk.padded (bs.set i (v ^^^ x)) = bs.set i (v ^^^ x) by unfold Dk.padded; rw [hl4]; simp)
  clear hbs hpad hfour hsec hv hv8 hr hzx hr4 hng hl4 hlt4 hgs hy4 htorn
  go_wp2_with fail
  refine H4.out.mono ?_
  rintro e w5 ⟨rfl, hg5⟩
  obtain ⟨S5, h5⟩ := M4.out.step hg5
  have M5 := Lib.hid h5
  have H5 := Lib.hid (HC.out.get w5 S5 _ _ n h5.mine.disk (by show ((putD Dk.fresh (n : Int) l).write _ _).down = false; unfold Dk.Dk.write; simp only [put_up]; rfl) hn8)
  rw [newest_write, if_pos rfl, HP.out] at H5
  obtain ⟨r, hr⟩ : ∃ r, r = readHm (bs.set i (v ^^^ x)) := ⟨_, rfl⟩
  have HTr := HT.out
  rw [← hr] at HTr H5
  clear hr h5 hg5 H4 hmod hcell hfro hxor
  go_wp2_with fail
  refine H5.out.mono ?_
  rintro e w6 ⟨A6, c6, rfl, hy6, hlc6, hc6, hb6⟩
  obtain ⟨m, ev, hmv, e1, e2, e3⟩ : ∃ (m : Nat) (ev : Int), ((m = 0 ∧ ev = 40) ∨ (m = 4 ∧ ev = 0)) ∧ (r.getD []).length = m ∧ (r.getD []).flatten = List.replicate (8 * m) 0 ∧ (if r.isSome then (0 : Int) else 40) = ev := by
    rcases HTr with rfl | rfl
    · exact ⟨0, 40, Or.inl ⟨rfl, rfl⟩, rfl, rfl, rfl⟩
    · exact ⟨4, 0, Or.inr ⟨rfl, rfl⟩, rfl, rfl, rfl⟩
  rw [e1, e3]
  rw [e2] at hy6
  rw [e1] at hlc6
  have M6 := Lib.hid (M5.out.below hb6)
  have HY := Lib.hid hy6
  have HMv := Lib.hid hmv
  have hm4 : m ≤ 4 := by omega
  clear hy6 hb6 hmv e1 e2 e3 HTr H5 M5 M4 HT HP hlc6 hc6
  go_wp2_with fail
  go_loopw [69] (fun i wr => ∃ k : Nat, k ≤ m ∧ i = .int .i64 k ∧ Below w6.heap.size w6 wr) (fun i _ => m - (intOf i).toNat)
  case atStart => exact ⟨0, by omega, rfl, Below.refl _ _⟩
  case round =>
    obtain ⟨k, hk, rfl, hb⟩ := hrel
    by_cases hlt : k < m
    · obtain ⟨b, off, rfl, hbw, _⟩ := HY.out.at_ (by rw [List.length_replicate]; omega)
      have c0 := (HY.out.below hb (Nat.le_refl _)).eight (n := m) (by rw [List.length_replicate]) hlt
      have hz : ∀ j, j < 8 → (List.replicate (8 * m) 0).getD (k * 8 + j) 0 = 0 := fun j hj => by
        rw [List.getD_eq_getElem?_getD, List.getElem?_replicate]
        split <;> rfl
      have a0 := c0 0 (by omega)
      have a1 := c0 1 (by omega)
      have a2 := c0 2 (by omega)
      have a3 := c0 3 (by omega)
      have a4 := c0 4 (by omega)
      have a5 := c0 5 (by omega)
      have a6 := c0 6 (by omega)
      have a7 := c0 7 (by omega)
      rw [hz _ (by omega)] at a0 a1 a2 a3 a4 a5 a6 a7
      clear c0 hz
      rw [Nat.add_zero] at a0
      have hq : ∀ W, (Op.equalIn 10000 49 (.agg #[.int .u8 0, .int .u8 0, .int .u8 0, .int .u8 0, .int .u8 0, .int .u8 0, .int .u8 0, .int .u8 0]) (.agg #[.int .u8 0, .int .u8 0, .int .u8 0, .int .u8 0, .int .u8 0, .int .u8 0, .int .u8 0, .int .u8 0])).run Try.prog W = .ok true W := fun W => by
        have h := bytes_same_ W 49 8 Try.underlying49 [0, 0, 0, 0, 0, 0, 0, 0] [0, 0, 0, 0, 0, 0, 0, 0] rfl rfl
        rw [decide_eq_true rfl] at h
        exact h
      have HBW := Lib.hid hb
      clear hb
      go_wp2_with fail
      go_roundw
      case rel => exact ⟨k + 1, by omega, by go_num, HBW.out⟩
      case measure => simp [intOf]; omega
    · obtain rfl : k = m := by omega
      have HBW := Lib.hid hb
      clear hb
      rcases HMv.out with ⟨rfl, rfl⟩ | ⟨rfl, rfl⟩
      all_goals
        go_wp2_with fail
        refine (wakes9_of HC.out _).mono ?_
        rintro e w9 ⟨rfl, hb9⟩
        go_wp2
        go_ret
        exact ⟨rfl, ((M6.out.below HBW.out).below hb9).mine.keeps⟩
end Go.Proofs.Ytgkbhdecohlpmaa
