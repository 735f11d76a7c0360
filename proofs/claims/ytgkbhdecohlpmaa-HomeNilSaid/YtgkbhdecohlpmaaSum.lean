/-
  The sums of the program: divide, Sum, by contract.
-/
import Derived.Test.YtgkbhdecohlpmaaHalves
import Derived.Test.YtgkbhdecohlpmaaRef
namespace Go.Proofs.Ytgkbhdecohlpmaa
set_option maxRecDepth 100000
open Go.RowKit
theorem nib_bits (x : Nat) (hx : x < 4294967296) : bits .xor .u32 ((x : Int) / 16) (Crc.half (x % 16) : Nat) = (Crc.shn 4 x : Nat) := by
  have h := u32_xor_nat (x / 16) (Crc.half (x % 16)) (by omega) (Crc.half_lt (by omega))
  rw [Crc.nibble, ← h]; rfl

set_option maxHeartbeats 400000 in
theorem divide_any (r : Nat) (bs : List Nat) (A : Option Addr) (c : Nat) (w : World) (hr : r < 4294967296) (hby : By w w.heap.size A bs) (hl : bs.length ≤ maxLen) :
    Calls Try.prog 46 #[.int .u32 (r : Int), .slice A bs.length c] w fun e w' => e = .returned (.int .u32 (Crc.rem r bs : Nat)) ∧ Below w.heap.size w w' := by
  unfold maxLen at hl
  go_enter Try.func46, Try.ntmps46
  go_wp2_with fail
  refine (halves_any _).mono ?_
  rintro e w1 ⟨rfl, hw1⟩
  have hi : (Try.prog.info? 107).map (·.size) = some (row 16).size := by rw [row_size]; kernel_rfl
  have HI := Lib.hid hi
  clear hi
  have H0 := Lib.hid (heap_alloc_new w1 (.cells (row 0) 107))
  have HO := Lib.hid (show (row 0).size = (row 16).size by rw [row_size, row_size])
  rw [row_zero] at H0 HO
  go_wp2_with ((refine wpList_store_row rfl 107 _ _ rfl w1.heap.size (row 16) rfl rfl 107 _ H0.out HI.out HO.out (row_one 16) ?_))
  have ht : ∀ i, i < 16 → ((w1.alloc (.cells #[.int .u32 0, .int .u32 0, .int .u32 0, .int .u32 0, .int .u32 0, .int .u32 0, .int .u32 0, .int .u32 0, .int .u32 0, .int .u32 0, .int .u32 0, .int .u32 0, .int .u32 0, .int .u32 0, .int .u32 0, .int .u32 0] 107)).setRow w1.heap.size (row 16)).cell? ⟨w1.heap.size, i, none⟩ = some (.int .u32 (Crc.half i : Nat)) := fun i h => by
    rw [cell_setRow_same _ _ _ _ _ _ _ H0.out]; exact row_get i h
  have hB := below_setRow (hw1.alloc hw1.size (.cells #[.int .u32 0, .int .u32 0, .int .u32 0, .int .u32 0, .int .u32 0, .int .u32 0, .int .u32 0, .int .u32 0, .int .u32 0, .int .u32 0, .int .u32 0, .int .u32 0, .int .u32 0, .int .u32 0, .int .u32 0, .int .u32 0] 107)) hw1.size (row 16)
  generalize ((w1.alloc (.cells #[.int .u32 0, .int .u32 0, .int .u32 0, .int .u32 0, .int .u32 0, .int .u32 0, .int .u32 0, .int .u32 0, .int .u32 0, .int .u32 0, .int .u32 0, .int .u32 0, .int .u32 0, .int .u32 0, .int .u32 0, .int .u32 0] 107)).setRow w1.heap.size (row 16)) = w2 at ht hB ⊢
  generalize w1.heap.size = g at ht ⊢
  have HT := Lib.hid ht
  have hby2 := hby.below hB (Nat.le_refl _)
  clear ht H0 HO HI hw1 hby
  go_loop [0, 10] (fun q i => ∃ k : Nat, k ≤ bs.length ∧ i = .int .i64 k ∧ q = .int .u32 (Crc.rem r (bs.take k) : Nat)) (fun _ i => bs.length - (intOf i).toNat)
  case atStart => exact ⟨0, by omega, rfl, rfl⟩
  case round =>
    obtain ⟨k, hk, rfl, rfl⟩ := hrel
    by_cases hlt : k < bs.length
    · have hR : Crc.rem r (bs.take k) < 4294967296 := Crc.rem_lt (fun x hx => hby2.1 x (List.mem_of_mem_take hx)) hr
      have hn : Crc.rem r (bs.take (k + 1)) = Crc.upd (Crc.rem r (bs.take k)) (bs.getD k 0) := by
        rw [List.take_succ_eq_append_getElem hlt, Crc.rem_snoc, getD_at _ _ hlt]
      obtain ⟨b, off, rfl, hb, hcells⟩ := hby2.at_ (by omega)
      have hcell := hcells k hlt
      clear hcells
      have hbk : bs.getD k 0 < 256 := by rw [getD_at _ _ hlt]; exact hby2.1 _ (List.getElem_mem hlt)
      rw [Crc.upd_two] at hn
      have HN := Lib.hid hn
      clear hn
      generalize Crc.rem r (bs.take k) = R at hR HN ⊢
      generalize bs.getD k 0 = B at hcell hbk HN
      have e1 := u32_xor_nat R B hR (by omega)
      have hX : R ^^^ B < 4294967296 := Nat.xor_lt_two_pow (n := 32) hR (by omega)
      generalize R ^^^ B = X at e1 hX HN
      have e2 := bits_low X hX
      have e3 := nib_bits X hX
      have hY := Crc.shn_lt 4 hX
      have c1 := HT.out (X % 16) (by omega)
      generalize Crc.half (X % 16) = V at e3 c1
      generalize Crc.shn 4 X = Y at e3 hY HN
      have e4 := bits_low Y hY
      have e5 := nib_bits Y hY
      have c2 := HT.out (Y % 16) (by omega)
      generalize Crc.half (Y % 16) = U at e5 c2
      go_wp2
      go_round
      case rel => exact ⟨k + 1, by omega, by go_num, by rw [HN.out]⟩
      case measure => simp [intOf]; omega
    · obtain rfl : k = bs.length := by omega
      go_wp2
      go_ret
      exact ⟨rfl, hB⟩

set_option maxHeartbeats 400000 in
theorem sum_any (bs : List Nat) (A : Option Addr) (c : Nat) (w : World) (hby : By w w.heap.size A bs) (hl : bs.length ≤ maxLen) :
    Calls Try.prog 42 #[.slice A bs.length c] w fun e w' => e = .returned (.int .u32 (Crc.sum bs : Nat)) ∧ Below w.heap.size w w' := by
  have hr : Crc.rem 4294967295 bs < 4294967296 := Crc.rem_lt hby.1 (by omega)
  have hn := neg_bits _ hr
  have hz : Crc.neg (Crc.rem 4294967295 bs) = Crc.sum bs := by
    unfold Crc.sum Crc.join; rw [Crc.neg_def 0, Nat.xor_zero]
  have HZ := Lib.hid hz
  have hd := divide_any 4294967295 bs A c w (by omega) hby hl
  have HD := Lib.hid hd
  clear hz hd hby
  generalize Crc.rem 4294967295 bs = R at *
  go_enter Try.func42, Try.ntmps42
  go_wp2_with fail
  refine HD.out.mono ?_
  rintro e w1 ⟨rfl, hw1⟩
  go_wp2
  go_ret
  exact ⟨ret_int (by rw [HZ.out]), hw1⟩

end Go.Proofs.Ytgkbhdecohlpmaa
