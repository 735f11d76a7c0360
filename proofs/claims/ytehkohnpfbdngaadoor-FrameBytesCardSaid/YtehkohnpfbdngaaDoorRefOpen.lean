/-
  The document's own Open, by contract.
-/
import Derived.Test.YtehkohnpfbdngaaDoorRefSeal
import Derived.Test.YtehkohnpfbdngaaDoorFront
namespace Go.Proofs.YtehkohnpfbdngaaDoor
open Go.RowKit

theorem cell_facts {w : World} {B b off : Nat} {front : List Nat} {d0 d1 d2 d3 : Nat} (h : Front w B b off front d0 d1 d2 d3) :
    w.cell? ⟨b, off + front.length, none⟩ = some (.int .u8 (d0 : Int)) ∧ w.cell? ⟨b, off + (front.length + 1), none⟩ = some (.int .u8 (d1 : Int)) ∧
    w.cell? ⟨b, off + (front.length + 2), none⟩ = some (.int .u8 (d2 : Int)) ∧ w.cell? ⟨b, off + (front.length + 3), none⟩ = some (.int .u8 (d3 : Int)) := h.cells

set_option maxHeartbeats 400000 in
theorem ropen_no (r0 r1 r2 r3 : Bool) (front : List Nat) (d0 d1 d2 d3 b off c : Nat) (w : World) (hf : Front w w.heap.size b off front d0 d1 d2 d3) (hc : front.length + 4 ≤ c) (hl : front.length ≤ 1000000000)
    (e0 : ((d0 : Int) != (Crc.sum front : Nat) % 256) = r0) (e1 : ((d1 : Int) != (Crc.sum front : Nat) / 256 % 256) = r1) (e2 : ((d2 : Int) != (Crc.sum front : Nat) / 65536 % 256) = r2) (e3 : ((d3 : Int) != (Crc.sum front : Nat) / 16777216) = r3)
    (hr : (r0 || r1 || r2 || r3) = true) :
    Calls Tryd.prog 22 #[.slice (some ⟨b, off, none⟩) (front.length + 4) c] w fun e w' => e = .returned (.tuple #[.slice none 0 0, .bool false]) ∧ w = w' := by
  have hs := Crc.sum_lt (bs := front) (fun x hx => hf.by_.1 x (List.mem_append_left _ hx))
  have H1 := Lib.hid (rsum_any front (some ⟨b, off, none⟩) c w (hf.hs.by_) (by unfold maxLen; omega))
  obtain ⟨c0, c1, c2, c3⟩ := cell_facts hf
  clear hf
  generalize Crc.sum front = s at *
  have hcn : ¬ c = front.length := by omega
  cases r0 with
  | true =>
    clear hr c1 c2 c3 e1 e2 e3
    go_enter Tryd.func22, Tryd.ntmps22
    go_wp2_with (go_at_call 35; refine H1.out.mono ?_; rintro e w' ⟨rfl, rfl⟩)
    go_ret2
    exact ⟨rfl, rfl⟩
  | false =>
  cases r1 with
  | true =>
    clear hr c2 c3 e2 e3
    go_enter Tryd.func22, Tryd.ntmps22
    go_wp2_with (go_at_call 35; refine H1.out.mono ?_; rintro e w' ⟨rfl, rfl⟩)
    go_ret2
    exact ⟨rfl, rfl⟩
  | false =>
  cases r2 with
  | true =>
    clear hr c3 e3
    go_enter Tryd.func22, Tryd.ntmps22
    go_wp2_with (go_at_call 35; refine H1.out.mono ?_; rintro e w' ⟨rfl, rfl⟩)
    go_ret2
    exact ⟨rfl, rfl⟩
  | false =>
  cases r3 with
  | true =>
    clear hr
    go_enter Tryd.func22, Tryd.ntmps22
    go_wp2_with (go_at_call 35; refine H1.out.mono ?_; rintro e w' ⟨rfl, rfl⟩)
    go_ret2
    exact ⟨rfl, rfl⟩
  | false => simp at hr

set_option maxHeartbeats 400000 in
theorem ropen_yes (front : List Nat) (d0 d1 d2 d3 b off c : Nat) (w : World) (hf : Front w w.heap.size b off front d0 d1 d2 d3) (hc : front.length + 4 ≤ c) (hl : front.length ≤ 1000000000)
    (e0 : ((d0 : Int) != (Crc.sum front : Nat) % 256) = false) (e1 : ((d1 : Int) != (Crc.sum front : Nat) / 256 % 256) = false) (e2 : ((d2 : Int) != (Crc.sum front : Nat) / 65536 % 256) = false) (e3 : ((d3 : Int) != (Crc.sum front : Nat) / 16777216) = false) :
    Calls Tryd.prog 22 #[.slice (some ⟨b, off, none⟩) (front.length + 4) c] w fun e w' => ∃ v, e = .returned (.tuple #[v, .bool true]) ∧ New w w' front v := by
  have hs := Crc.sum_lt (bs := front) (fun x hx => hf.by_.1 x (List.mem_append_left _ hx))
  have hY := hf.hs.by_
  have H1 := Lib.hid (rsum_any front (some ⟨b, off, none⟩) c w hY (by unfold maxLen; omega))
  obtain ⟨c0, c1, c2, c3⟩ := cell_facts hf
  generalize Crc.sum front = s at *
  have hcn : ¬ c = front.length := by omega
  obtain ⟨i0, hi, hz0, hz1, hz2⟩ := info_parts Tryd.info5
  have s0 : Hid (w.ownsRow w.heap.size 5 1 (.slice none 0 0) 0 []) := ⟨rfl, Or.inl ⟨rfl, rfl⟩⟩
  have s2 := Lib.hid (show (vals front).length = front.length * 1 by rw [vals_length, Nat.mul_one])
  have s3 := Lib.hid (hY.vals _ rfl)
  have s4 := Lib.hid (vals_one (bs := front))
  have s5 : Hid (0 + front.length ≤ maxLen) := by show 0 + front.length ≤ maxLen; unfold maxLen; omega
  have s6 : Hid ((0 + front.length) * 1 ≤ 140737488355328) := by show (0 + front.length) * 1 ≤ 140737488355328; omega
  have s7 := Lib.hid (Nat.le_refl w.heap.size)
  clear hf hY
  go_enter Tryd.func22, Tryd.ntmps22
  go_wp2_with (first
    | (go_at_call 35; refine H1.out.mono ?_; rintro e w' ⟨rfl, rfl⟩)
    | (at_builtin; refine wpList_append_own _ rfl (.tmp 57) (.tmp 60) 23 rfl w.heap.size 5 i0 (.int .u8 0) 1 1 Tryd.underlying23 hi hz0 hz1 hz2 rfl (by decide) _ 0 [] rfl s0.out ⟨b, off, none⟩ front.length c (vals front) rfl s2.out s3.out s4.out s5.out s6.out s7.out ?_; intro v1 w2 hown1 hgrow1 _; rw [Nat.zero_add, List.nil_append] at hown1; replace hgrow1 : w.grownBy w2 none := hgrow1))
  go_ret2
  exact ⟨v1, rfl, hown1, grown_below (Below.refl _ _) hgrow1⟩

set_option maxHeartbeats 400000 in
theorem ropen_short (A : Option Addr) (n c : Nat) (w : World) (hn : n < 4) :
    Calls Tryd.prog 22 #[.slice A n c] w fun e w' => e = .returned (.tuple #[.slice none 0 0, .bool false]) ∧ w = w' := by
  have h : (n : Int) < 4 := by omega
  go_enter Tryd.func22, Tryd.ntmps22
  go_wp2
  go_ret2
  exact ⟨rfl, rfl⟩

theorem sealed_bits (front : List Nat) (d0 d1 d2 d3 : Nat) (hs : Crc.sum front < 4294967296) :
    Crc.isSealed (front ++ [d0, d1, d2, d3]) = !(((d0 : Int) != (Crc.sum front : Nat) % 256) || ((d1 : Int) != (Crc.sum front : Nat) / 256 % 256) || ((d2 : Int) != (Crc.sum front : Nat) / 65536 % 256) || ((d3 : Int) != (Crc.sum front : Nat) / 16777216)) := by
  rw [isSealed_of]
  generalize Crc.sum front = s at *
  rw [Bool.eq_iff_iff]
  unfold Crc.tail
  simp only [decide_eq_true_eq, List.cons.injEq, and_true, Bool.not_or, Bool.and_eq_true, Bool.not_eq_true', bne_eq_false_iff_eq]
  omega

/-- The document's Open of what is sealed. -/
theorem ropen_sealed (bs : List Nat) (A : Option Addr) (c : Nat) (w : World) (hby : By w w.heap.size A bs) (hc : bs.length ≤ c) (hl : bs.length ≤ 1000000000) (hs : Crc.isSealed bs = true) :
    Calls Tryd.prog 22 #[.slice A bs.length c] w fun e w' => ∃ v, e = .returned (.tuple #[v, .bool true]) ∧ New w w' (bs.take (bs.length - 4)) v := by
  have h4 : 4 ≤ bs.length := by
    unfold Crc.isSealed at hs
    simp only [Bool.and_eq_true, decide_eq_true_eq] at hs
    exact hs.1
  obtain ⟨d0, d1, d2, d3, e⟩ := last_four bs h4
  generalize bs.take (bs.length - 4) = front at e ⊢
  subst e
  obtain ⟨b, off, rfl, hf⟩ := Front.mk' hby
  have hlen : (front ++ [d0, d1, d2, d3]).length = front.length + 4 := by simp
  have hlt := Crc.sum_lt (bs := front) (fun x hx => hf.by_.1 x (List.mem_append_left _ hx))
  rw [hlen] at hc hl ⊢
  rw [sealed_bits _ _ _ _ _ hlt] at hs
  simp only [Bool.not_or, Bool.and_eq_true, Bool.not_eq_true'] at hs
  obtain ⟨⟨⟨e0, e1⟩, e2⟩, e3⟩ := hs
  exact ropen_yes front d0 d1 d2 d3 b off c w hf hc (by omega) e0 e1 e2 e3
/-- The document's Open of what is not. -/
theorem ropen_other (bs : List Nat) (A : Option Addr) (c : Nat) (w : World) (hby : By w w.heap.size A bs) (hc : bs.length ≤ c) (hl : bs.length ≤ 1000000000) (hs : Crc.isSealed bs = false) :
    Calls Tryd.prog 22 #[.slice A bs.length c] w fun e w' => e = .returned (.tuple #[.slice none 0 0, .bool false]) ∧ w = w' := by
  rcases Nat.lt_or_ge bs.length 4 with h4 | h4
  · exact ropen_short A bs.length c w h4
  obtain ⟨d0, d1, d2, d3, e⟩ := last_four bs h4
  generalize bs.take (bs.length - 4) = front at e ⊢
  subst e
  obtain ⟨b, off, rfl, hf⟩ := Front.mk' hby
  have hlen : (front ++ [d0, d1, d2, d3]).length = front.length + 4 := by simp
  have hlt := Crc.sum_lt (bs := front) (fun x hx => hf.by_.1 x (List.mem_append_left _ hx))
  rw [hlen] at hc hl ⊢
  rw [sealed_bits _ _ _ _ _ hlt] at hs
  exact ropen_no _ _ _ _ front d0 d1 d2 d3 b off c w hf hc (by omega) rfl rfl rfl rfl (by rwa [Bool.not_eq_false'] at hs)
end Go.Proofs.YtehkohnpfbdngaaDoor
