/-
  The developers' answers: a home put, a superblock put.
-/
import Derived.Test.YtgkbhdecohlpmaaHDjoin
import Derived.Test.YtgkbhdecohlpmaaSeal
import Derived.Test.YtgkbhdecohlpmaaDkWrite
namespace Go.Proofs.Ytgkbhdecohlpmaa
set_option maxRecDepth 100000
open Go.RowKit
set_option maxRecDepth 100000

theorem goes_afterH {w w8 w' : World} {S : Nat → Prop} {a : Nat} {d' : Dk.Dk} (hb : Below w.heap.size w w8) (hg : Dk.Goes w8 w' S a d') : Dk.Goes w w' S a d' := by
  obtain ⟨S', h1, h2, h3⟩ := hg
  refine ⟨S', h1, (Dk.Kept.of_below hb (Nat.le_refl _)).trans h2 (fun i _ hs => hs), fun k hk => ?_⟩
  rcases h3 k hk with h | h
  · exact Or.inl h
  · exact Or.inr (Nat.le_trans hb.size h)
theorem put_nil_dev : PutHNil := by
  intro z n A c w hn
  go_enter Try.func8, Try.ntmps8
  go_wp2
  go_ret
  exact ⟨rfl, Below.refl _ _⟩
theorem write_home {w : World} {S : Nat → Prop} {a : Nat} {d : Dk.Dk} (h : Dk.Disk w S a d) (hd : d.down = false) (hf : Few d) (n : Nat) (hn : n < 34) (A : Option Addr) (bs : List Nat) (c : Nat) (hA : By w w.heap.size A bs) (hl : bs.length ≤ 64) :
    Calls Try.prog 19 #[.pointer (some ⟨a, 0, none⟩), .int .i64 (n : Int), .slice A bs.length c] w fun e w' => e = .returned (.int .i64 0) ∧ Dk.Goes w w' S a (d.write n bs) :=
  Dk.write_ok h hd hn hA hl (Nat.le_trans (hf n hn) (by omega))
set_option maxHeartbeats 1000000 in
theorem put_dev : PutHSays := by
  intro w S a d z l A c h hd hf hv hy hlc hc hz
  have HSt := Lib.hid (fun W => stripe_dev z W)
  by_cases hs : 0 ≤ z ∧ z < 8
  · have hst : strH z = true := decide_eq_true hs
    rw [hst] at HSt
    obtain ⟨n, rfl⟩ : ∃ n : Nat, z = (n : Int) := ⟨z.toNat, by omega⟩
    by_cases h4 : l.length = 4
    · have hE : putHE (n : Int) l.length = 0 := if_pos ⟨by omega, by omega, h4⟩
      have hP : putD d (n : Int) l = d.write (26 + n) (homeB l) := by unfold putD; rw [if_pos hE]; rfl
      rw [hE, hP, h4]
      have HJ := Lib.hid (fun W hW => joinV_dev l A c W hv hW h4)
      have hfl : l.flatten.length = 32 := by rw [flat_len8 l fun v hx => (hv v hx).1, h4]
      have hlt : ∀ x ∈ l.flatten, x < 256 := hy.1
      have HSl := Lib.hid (fun A c W (hW : By W W.heap.size A l.flatten) (hc : l.flatten.length ≤ c) => seal_any l.flatten A c W hW hc (by omega))
      have hsl : (Crc.sealed l.flatten).length = 36 := by rw [Crc.sealed_length, hfl]
      have hslt := Crc.sealed_lt hlt
      have HWr := Lib.hid (fun W (hW : Below w.heap.size w W) A c (hA : By W W.heap.size A (Crc.sealed l.flatten)) => write_home (h.below hW (Nat.le_refl _)) hd hf (26 + n) (by omega) A (Crc.sealed l.flatten) c hA (by omega))
      rw [show ((26 + n : Nat) : Int) = 26 + (n : Int) by omega] at HWr
      unfold homeB
      have HY := Lib.hid hy
      have HL := Lib.hid hlt
      have HL2 := Lib.hid hslt
      have hn8 : (n : Int) < 8 := by omega
      have hn0 : (0 : Int) ≤ (n : Int) := by omega
      have hw : IntKind.i64.wrap (26 + (n : Int)) = 26 + (n : Int) := by rw [IntKind.wrap_i64]; omega
      generalize Crc.sealed l.flatten = sb at *
      generalize l.flatten = fb at *
      clear h hd hf hv hy hlc hc hz hs hst hE hP hfl hlt hslt h4 hsl
      go_enter Try.func8, Try.ntmps8
      go_wp2_with (fail)
      refine (HSt.out _).mono ?_
      rintro e w1 ⟨rfl, rfl⟩
      go_wp2_with (fail)
      refine (HJ.out _ HY.out).mono ?_
      rintro e w2 ⟨v, rfl, hv2⟩
      have HB2 := Lib.hid hv2.2
      obtain ⟨A2, c2, rfl, hy2, hl2, _⟩ := New.slice hv2 HL.out
      have HY2 := Lib.hid hy2
      clear hv2 hy2
      go_wp2_with (fail)
      refine (HSl.out _ _ _ HY2.out hl2).mono ?_
      rintro e w3 ⟨v3, rfl, hv3⟩
      have HB3 := Lib.hid (HB2.out.trans (hv3.2.mono HB2.out.size))
      obtain ⟨A3, c3, rfl, hy3, hl3, _⟩ := New.slice hv3 HL2.out
      have HY3 := Lib.hid hy3
      clear hv3 hy3
      go_wp2_with (fail)
      refine (HWr.out _ HB3.out _ _ HY3.out).mono ?_
      rintro e w4 ⟨rfl, hg4⟩
      have HG := Lib.hid (goes_afterH HB3.out hg4)
      clear hg4
      go_wp2
      go_ret
      exact ⟨rfl, HG.out⟩
    · have hE : putHE (n : Int) l.length = 2 := if_neg fun h => h4 h.2.2
      have hP : putD d (n : Int) l = d := by unfold putD; rw [hE]; rfl
      rw [hE, hP]
      have HD := Lib.hid (Dk.Goes.same h (Below.refl w.heap.size w))
      clear hE hP h hy hlc
      generalize l.length = m at *
      have q1 : ((m : Int) == 4) = false := by simp; omega
      have q2 : ((m : Int) != 4) = true := by simp; omega
      clear hs hst h4 hz
      go_enter Try.func8, Try.ntmps8
      go_wp2_with (fail)
      refine (HSt.out _).mono ?_
      rintro e w1 ⟨rfl, rfl⟩
      go_wp2
      go_ret
      exact ⟨rfl, HD.out⟩
  · have hst : strH z = false := decide_eq_false hs
    rw [hst] at HSt
    have hE : putHE z l.length = 2 := if_neg fun h => hs ⟨h.1, h.2.1⟩
    have hP : putD d z l = d := by unfold putD; rw [hE]; rfl
    rw [hE, hP]
    have HD := Lib.hid (Dk.Goes.same h (Below.refl w.heap.size w))
    clear hE hP h hy hlc
    generalize l.length = m at *
    clear hs hst hz
    go_enter Try.func8, Try.ntmps8
    go_wp2_with (fail)
    refine (HSt.out _).mono ?_
    rintro e w1 ⟨rfl, rfl⟩
    go_wp2
    go_ret
    exact ⟨rfl, HD.out⟩
end Go.Proofs.Ytgkbhdecohlpmaa
