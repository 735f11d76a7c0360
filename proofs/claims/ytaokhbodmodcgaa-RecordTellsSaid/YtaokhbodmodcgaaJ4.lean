/-
  Texts RefRval, RefPut, RefRwr, RefReadBase, RefReadA, RefReadB, joined.
-/
import Derived.Deep.AppendLies
import Derived.Test.YtaokhbodmodcgaaJ3
set_option linter.all false
section
/-
  The document's reader: a block, a flag.
-/
namespace Go.Proofs.Ytaokhbodmodcgaa
open Go.RowKit
set_option maxRecDepth 100000

def rdN : Nat → List Nat → Option (List Nat × List Nat)
  | 0, q => some ([], q)
  | n + 1, q => bind7 (rdN n q) fun vs q1 => bind7 (rdOne q1) fun x q2 => some (vs ++ [x.toNat], q2)
theorem rdN_eq (n : Nat) (q : List Nat) : rdN n q = if q.length < n then none else some (q.take n, q.drop n) := by
  induction n with
  | zero => simp [rdN]
  | succ n ih =>
    rw [rdN, ih]
    by_cases h : q.length < n
    · rw [if_pos h, if_pos (by omega)]; rfl
    · rw [if_neg h]
      by_cases h2 : q.length < n + 1
      · rw [if_pos h2, List.drop_eq_nil_of_le (show q.length ≤ n by omega)]; rfl
      · rw [if_neg h2, List.drop_eq_getElem_cons (show n < q.length by omega), List.take_succ_eq_append_getElem (show n < q.length by omega)]
        rfl
def fill7 (vs : List Nat) : Array Value := (vals (vs ++ List.replicate (8 - vs.length) 0)).toArray
theorem fill7_nil : fill7 [] = (vals (List.replicate 8 0)).toArray := rfl
theorem fill7_size {vs : List Nat} (h : vs.length ≤ 8) : (fill7 vs).size = 8 := by unfold fill7; simp [vals_length]; omega
theorem fill7_set {vs : List Nat} (h : vs.length < 8) (x : Nat) : (fill7 vs).setIfInBounds vs.length (.int .u8 (x : Int)) = fill7 (vs ++ [x]) := by
  unfold fill7
  have e : 8 - vs.length = (8 - (vs ++ [x]).length) + 1 := by simp; omega
  rw [e, List.replicate_succ]
  simp [vals]
theorem fill7_all {vs : List Nat} (h : vs.length = 8) : fill7 vs = (vals vs).toArray := by unfold fill7; rw [h]; simp
theorem info8 {cs : Array Value} (h : cs.size = 8) : (Try.prog.info? 66).map (·.size) = some cs.size := by rw [h]; kernel_rfl
set_option maxHeartbeats 2000000 in
theorem rvalue_any (w : World) (B p : Nat) (A : Option Addr) (bs : List Nat) (c a : Nat) (d : Bool) (h : Rd w B p A bs c a d) (hl : bs.length ≤ 1000000) :
    Calls Try.prog 53 #[.pointer (some ⟨p, 0, none⟩)] w (Tell (rdN 8) (fun vs => .agg (vals vs).toArray) (fun vs => vs.length = 8 ∧ ∀ x ∈ vs, x < 256) w B p A bs c a d) := by
  have HB := Lib.hid (fun W a d (h : Rd W B p A bs c a d) => byte_any W B p A bs c a d h hl)
  have HR := Lib.hid h
  have HLt := Lib.hid h.lt
  clear h hl
  go_enter Try.func53, Try.ntmps53
  go_wp2_with fail
  go_loopw [4] (fun i wr => ∃ k vs a' d', k ≤ 8 ∧ i = .int .i64 ((k : Nat) : Int) ∧ (vs.length = k ∧ ∀ x ∈ vs, x < 256) ∧ wr.heap[w.heap.size + 1]? = some (.cells (fill7 vs) 66 (0, 0)) ∧ wr.heap[w.heap.size]? = some (.cells (fill7 []) 66 (0, 0)) ∧ Rd wr B p A bs c a' d' ∧ Kept7 (· = p) w wr ∧ Lnk bs a d (rdN k (bs.drop a)) vs a' d') (fun i _ => 8 - (intOf i).toNat)
  case atStart =>
    have hb : Below w.heap.size w ((w.alloc (.cells (fill7 []) 66)).alloc (.cells (fill7 []) 66)) := ((Below.refl w.heap.size w).alloc (Nat.le_refl _) _).alloc (by simp) _
    exact ⟨0, [], a, d, by omega, rfl, ⟨rfl, fun _ h => absurd h (by simp)⟩, heap_alloc2_new w _ _, heap_alloc2_old w _ _, HR.out.below hb HLt.out, Kept7.of_below hb (Nat.le_refl _), Lnk.pure _⟩
  case round =>
    obtain ⟨k, vs, a', d', hk, rfl, ⟨hvl, hvb⟩, h1, h0, hr, hkp, hln⟩ := hrel
    by_cases hlt : k < 8
    · have hki : (k : Int) < 8 := by omega
      have HI := Lib.hid (And.intro hvl hvb)
      have H1 := Lib.hid h1
      have H0 := Lib.hid h0
      have HR1 := Lib.hid hr
      have HK1 := Lib.hid hkp
      have HL1 := Lib.hid hln
      clear hvl hvb h1 h0 hr hkp hln
      go_wp2_with fail
      refine (HB.out _ _ _ HR1.out).mono ?_
      rintro e w1 ⟨x, a1, d1, rfl, hx, hr1, hk1, hl1⟩
      obtain ⟨q, rfl⟩ : ∃ q : Nat, x = (q : Int) := ⟨x.toNat, by omega⟩
      have hwq : IntKind.u8.wrap (q : Int) = (q : Int) := by rw [IntKind.wrap_u8]; omega
      have hsz : w.heap.size + 1 < wr.heap.size := (Array.getElem?_eq_some_iff.1 H1.out).1
      have g1 := (hk1.block (w.heap.size + 1) hsz (by have := HLt.out; omega)).trans H1.out
      have g0 := (hk1.block w.heap.size (by omega) (by have := HLt.out; omega)).trans H0.out
      have hkv : k < (fill7 vs).size := by rw [fill7_size (by have := HI.out.1; omega)]; exact hlt
      obtain ⟨v, hc⟩ : ∃ v, w1.cell? ⟨w.heap.size + 1, k, none⟩ = some v := ⟨(fill7 vs)[k]'hkv, by rw [cell_of_row w1 _ k _ _ _ g1]; simp⟩
      have hfr := frozen_of_row w1 (w.heap.size + 1) k _ _ g1
      have hbs : Below (w.heap.size + 1) w1 (w1.setCell ⟨w.heap.size + 1, k, none⟩ (.int .u8 (q : Int))) := (Below.refl _ w1).setCell (show w.heap.size + 1 ≤ w.heap.size + 1 from Nat.le_refl _) _
      have HN := Lib.hid ((heap_setCell_same w1 (w.heap.size + 1) k _ _ (.int .u8 (q : Int)) g1).trans (by have e := HI.out.1; subst e; rw [fill7_set hlt]))
      have HO := Lib.hid ((hbs.block w.heap.size (by omega)).trans g0)
      have HR2 := Lib.hid (hr1.below hbs (by have := HLt.out; omega))
      have HK2 := Lib.hid ((HK1.out.trans hk1).set_ (p := w.heap.size + 1) (j := k) (.int .u8 (q : Int)) (fun hh => by omega))
      have HL2 := Lib.hid (show Lnk bs a d (rdN (k + 1) (bs.drop a)) (vs ++ [q]) a1 d1 from HL1.out.bind (hl1.bind (Lnk.pure (vs ++ [q]))))
      have HX := Lib.hid hx
      clear g1 g0 hkv hbs hr1 hk1 hl1 hsz hx
      go_wp2
      go_roundw
      case rel => exact ⟨k + 1, vs ++ [q], a1, d1, by omega, by go_num, ⟨by simp [HI.out.1], fun x hx => by
        rcases List.mem_append.1 hx with hx | hx
        · exact HI.out.2 x hx
        · rw [List.mem_singleton.1 hx]; have := HX.out; omega⟩, HN.out, HO.out, HR2.out, HK2.out, HL2.out⟩
      case measure => simp [intOf]; omega
    · obtain rfl : k = 8 := by omega
      rw [fill7_all hvl] at h1
      have L1 := Lib.hid h1
      have L0 := Lib.hid h0
      have HI := Lib.hid (And.intro hvl hvb)
      have HI8 := Lib.hid (info8 (cs := (vals vs).toArray) (by simp [vals_length, hvl]))
      have LS := Lib.hid (show (fill7 []).size = (vals vs).toArray.size by simp [vals_length, hvl, fill7])
      have HR1 := Lib.hid hr
      have HK1 := Lib.hid hkp
      have HL1 := Lib.hid hln
      have HO := Lib.hid (show (vals vs).toArray.all (·.oneCell') = true from Array.all_eq_true_iff_forall_mem.2 fun u hu => vals_one u (by simpa using hu))
      clear h1 h0 hvl hvb hr hkp hln
      go_wp2_with (first
        | (refine wpList_load_row rfl 66 _ rfl (w.heap.size + 1) rfl 66 (vals vs).toArray (0, 0) _ L1.out Try.underlying66 rfl HI8.out ?_)
        | (refine wpList_store_row rfl 66 _ _ rfl w.heap.size (vals vs).toArray rfl rfl 66 _ L0.out HI8.out LS.out HO.out ?_))
      have hb := below_setRow (Below.refl w.heap.size wr) (Nat.le_refl _) (vals vs).toArray
      refine bodyPost_ret (results_cell_one (t := 66) (p := 2) rfl _ _ w.heap.size _ (0, 0) _ rfl (setRow_heap _ _ _ _ _ _ L0.out) Try.underlying66 rfl HI8.out) rfl ⟨vs, a', d', rfl, HI.out, HR1.out.below hb HLt.out, ?_, HL1.out⟩
      exact ⟨hb.os.trans HK1.out.os, hb.tape.trans HK1.out.tape, hb.output.trans HK1.out.output, Nat.le_trans HK1.out.size hb.size, fun k h1 h2 => (hb.block k h1).trans (HK1.out.block k h1 h2)⟩
def rdFlag (q : List Nat) : Option (Bool × List Nat) := bind7 (rdOne q) fun x q1 => if 1 < x then none else some (decide (x = 1), q1)
set_option maxHeartbeats 2000000 in
theorem rflag_any (w : World) (B p : Nat) (A : Option Addr) (bs : List Nat) (c a : Nat) (d : Bool) (h : Rd w B p A bs c a d) (hl : bs.length ≤ 1000000) :
    Calls Try.prog 47 #[.pointer (some ⟨p, 0, none⟩)] w (Tell rdFlag Value.bool (fun _ => True) w B p A bs c a d) := by
  have HB := Lib.hid (byte_any w B p A bs c a d h hl)
  clear h hl
  go_enter Try.func47, Try.ntmps47
  go_wp2_with fail
  refine HB.out.mono ?_
  rintro e w1 ⟨x, a1, d1, rfl, hx, hr1, hk1, hl1⟩
  obtain ⟨c0, c1, c2, hf⟩ := hr1.cells
  have f2 := hf 2
  have HK := Lib.hid hk1
  have HR := Lib.hid hr1
  have HX := Lib.hid hx
  by_cases h1 : 1 < x
  · have HL := Lib.hid (show Lnk bs a d (rdFlag (bs.drop a)) (x == 1) a1 true from by
      refine (show Lnk bs a d (rdFlag (bs.drop a)) (x == 1) a1 true from hl1.bind (g := fun x q1 => if 1 < x then none else some (decide (x = 1), q1)) ⟨fun _ => rfl, fun _ => Or.inr ⟨if_pos h1, rfl⟩⟩))
    have HR2 := Lib.hid (hr1.bad (d' := true))
    have HK2 := Lib.hid (hk1.set_ (p := p) (j := 2) (.bool true) (fun _ => rfl))
    clear hf hr1 hk1 hl1 hx
    cases d1 with
    | true =>
      go_wp2
      go_ret
      exact ⟨_, a1, true, rfl, trivial, HR2.out, HK2.out, HL.out⟩
    | false =>
      go_wp2
      go_ret
      exact ⟨_, a1, true, rfl, trivial, HR2.out, HK2.out, HL.out⟩
  · have HL := Lib.hid (show Lnk bs a d (rdFlag (bs.drop a)) (x == 1) a1 d1 from hl1.bind (g := fun x q1 => if 1 < x then none else some (decide (x = 1), q1)) (by
      show Lnk bs a1 d1 (if 1 < x then none else some (decide (x = 1), bs.drop a1)) (x == 1) a1 d1
      rw [if_neg h1]
      exact Lnk.pure _))
    have HR2 := Lib.hid (hr1.bad (d' := d1))
    have HK2 := Lib.hid (hk1.set_ (p := p) (j := 2) (.bool d1) (fun _ => rfl))
    clear hf hr1 hk1 hl1 hx
    cases d1 with
    | true =>
      go_wp2
      go_ret
      exact ⟨_, a1, true, rfl, trivial, HR2.out, HK2.out, HL.out⟩
    | false =>
      go_wp2
      go_ret
      rw [show decide (1 < x) = false from decide_eq_false (by omega)]
      exact ⟨_, a1, false, rfl, trivial, HR2.out, HK2.out, HL.out⟩
end Go.Proofs.Ytaokhbodmodcgaa
end

section
/-
  The document's answers of numbers, names and writes as bytes.
-/
namespace Go.Proofs.Ytaokhbodmodcgaa
open Go.RowKit
set_option maxRecDepth 100000

/-- What an append to v turned: v's own row alone; where v' lies. -/
structure Grew (w w' : World) (v v' : Value) : Prop where
  os : w'.os = w.os
  tape : w'.tape = w.tape
  output : w'.output = w.output
  size : w.heap.size ≤ w'.heap.size
  block : ∀ k, k < w.heap.size → v.ownBlock ≠ some k → w'.heap[k]? = w.heap[k]?
  own : ∀ k, v'.ownBlock = some k → v.ownBlock = some k ∨ w.heap.size ≤ k
section
variable {w w1 w2 : World} {v v1 v2 : Value}
theorem Grew.refl (w : World) (v : Value) : Grew w w v v := ⟨rfl, rfl, rfl, Nat.le_refl _, fun _ _ _ => rfl, fun _ h => Or.inl h⟩
theorem Grew.trans (h : Grew w w1 v v1) (h' : Grew w1 w2 v1 v2) : Grew w w2 v v2 :=
  ⟨h'.os.trans h.os, h'.tape.trans h.tape, h'.output.trans h.output, Nat.le_trans h.size h'.size,
    fun k hk hv => (h'.block k (Nat.lt_of_lt_of_le hk h.size) (fun e => by rcases h.own k e with e2 | e2; exact hv e2; omega)).trans (h.block k hk hv),
    fun k e => by
      rcases h'.own k e with e2 | e2
      · exact h.own k e2
      · right; have := h.size; omega⟩
theorem Grew.below {B : Nat} (h : Below B w w1) (hB : w.heap.size ≤ B) (v : Value) : Grew w w1 v v := ⟨h.os, h.tape, h.output, h.size, fun k hk _ => h.block k (by omega), fun _ e => Or.inl e⟩
theorem Grew.alloc (w : World) (o : Obj) (v : Value) : Grew w (w.alloc o) v v := Grew.below ((Below.refl w.heap.size w).alloc (Nat.le_refl _) o) (Nat.le_refl _) v
theorem Grew.to_below {B : Nat} (h : Grew w w1 v v1) (hB : B ≤ w.heap.size) (hv : ∀ k, v.ownBlock = some k → B ≤ k) : Below B w w1 :=
  ⟨h.os, h.tape, h.output, h.size, fun k hk => h.block k (by omega) (fun e => by have := hv k e; omega)⟩
end
theorem append_grew {w : World} {ops : Array Oper} {rest : List Oper} {o : Oper} {a : Act} {Q : Exit → Act → World → Prop} (hgd : o.guard = none) (s x : Operand)
    (ho : o.op = .call { callee := .builtin .append, args := #[s, x], argTypes := #[32, 32] }) (base : Nat) (bs ds : List Nat) (v : Value) (hs : a.eval s = v) (hown : Own w base bs v)
    (D : Addr) (m c : Nat) (hx : a.eval x = .slice (some D) m c) (hm : m = ds.length) (h0 : 0 < ds.length) (B : Nat) (hD : By w B (some D) ds) (hl : bs.length + ds.length ≤ 1000000000) (hbase : base ≤ w.heap.size)
    (h : ∀ v' w', Own w' base (bs ++ ds) v' → Grew w w' v v' → wpList Try.prog ops Q rest (a.put o.dst v') w') : wpList Try.prog ops Q (o :: rest) a w := by
  obtain ⟨i0, hi, hz0, hz1, hz2⟩ := info_parts Try.info5
  subst hm
  refine wpList_append_lies w hgd s x 32 ho base 5 i0 _ 1 1 Try.underlying32 hi hz0 hz1 hz2 rfl (by decide) v bs.length (vals bs) hs hown D ds.length c (vals ds) hx (by rw [vals_length, Nat.mul_one]) (hD.vals D rfl) vals_one h0 (by unfold maxLen; omega) (by omega) hbase w.heap.size rfl ?_
  intro g cap w' hrow hgr hor _
  refine h _ w' ?_ ⟨hgr.os, hgr.tape, hgr.output, hgr.size, fun k hk hv => hgr.block k hk (fun e => hv e.symm), fun k e => ?_⟩
  · unfold Own
    rw [vals_append, List.length_append]
    exact hrow
  · have hk : g = k := by simpa [Value.ownBlock] using e
    subst hk
    rcases hor with hor | hor
    · exact Or.inl hor
    · right; omega
theorem u8_nat (m : Nat) : IntKind.u8.wrap (m : Int) = ((m % 256 : Nat) : Int) := by rw [IntKind.wrap_u8]; omega
theorem byteN_cast (m : Nat) : byteN (m : Int) = m % 256 := by unfold byteN; omega
theorem three_cast (m : Nat) : three (m : Int) = [m % 256, m / 256 % 256, m / 65536 % 256] := by
  unfold three byteN
  simp only [List.cons.injEq, and_true]
  omega
set_option maxHeartbeats 2000000 in
theorem three_any (m : Nat) (bs : List Nat) (v : Value) (base : Nat) (w : World) (hm : m < 16777216) (ho : Own w base bs v) (hb : base ≤ w.heap.size) (hl : bs.length ≤ 1000000) :
    Calls Try.prog 28 #[v, .int .i64 (m : Int)] w fun e w' => ∃ v', e = .returned v' ∧ Own w' base (bs ++ three (m : Int)) v' ∧ Grew w w' v v' := by
  have w0 := u8_nat m
  have w1 := u8_nat (m / 256)
  have w2 := u8_nat (m / 65536)
  have HO := Lib.hid ho
  have HT := Lib.hid (three_cast m)
  clear ho
  go_enter Try.func28, Try.ntmps28
  have hx : ∀ x ∈ [m % 256, m / 256 % 256, m / 65536], x < 256 := by
    intro x hx
    simp only [List.mem_cons, List.not_mem_nil, or_false] at hx
    omega
  have HX := Lib.hid hx
  have HV := Lib.hid (show three (m : Int) = [m % 256, m / 256 % 256, m / 65536] by rw [three_cast, Nat.mod_eq_of_lt (show m / 65536 < 256 by omega)])
  clear hx
  go_wp2_with (at_builtin; refine append_grew rfl (.tmp 5) (.tmp 14) rfl base bs [m % 256, m / 256 % 256, m / 65536] _ rfl (HO.out.alloc _) ⟨w.heap.size, 0, none⟩ 3 3 rfl rfl (by simp) _ (by_made w #[.int .u8 ((m : Int) % 256), .int .u8 ((m : Int) / 256 % 256), .int .u8 ((m : Int) / 65536)] [m % 256, m / 256 % 256, m / 65536] rfl HX.out) (by simp only [List.length_cons, List.length_nil]; omega) (Nat.le_trans hb (by simp)) ?_; intro v3 w3 hv3 hb3)
  have HV3 := Lib.hid hv3
  have HB3 := Lib.hid ((Grew.alloc w _ v).trans hb3)
  clear hv3 hb3
  go_ret
  exact ⟨v3, rfl, by rw [HV.out]; exact HV3.out, HB3.out⟩
set_option maxHeartbeats 2000000 in
theorem nameL_any (n : Nm) (bs : List Nat) (v : Value) (base : Nat) (w : World) (hn : (0 ≤ n.stamp ∧ n.stamp < 16777216) ∧ (0 ≤ n.inc ∧ n.inc < 16777216) ∧ 0 ≤ n.att ∧ n.att < 16777216) (ho : Own w base bs v) (hb : base ≤ w.heap.size) (hl : bs.length ≤ 900000) :
    Calls Try.prog 29 #[v, .agg (nmv n).toArray] w fun e w' => ∃ v', e = .returned v' ∧ Own w' base (bs ++ nameL n) v' ∧ Grew w w' v v' := by
  obtain ⟨a, b, c⟩ := n
  obtain ⟨h1, h2, h3⟩ := hn
  simp only at h1 h2 h3
  obtain ⟨x, rfl⟩ : ∃ x : Nat, a = (x : Int) := ⟨a.toNat, by omega⟩
  obtain ⟨y, rfl⟩ : ∃ y : Nat, b = (y : Int) := ⟨b.toNat, by omega⟩
  obtain ⟨z, rfl⟩ : ∃ z : Nat, c = (z : Int) := ⟨c.toNat, by omega⟩
  unfold nmv
  obtain ⟨w1, hw1⟩ : ∃ w1, w1 = w.alloc (.cells #[.int .i64 (x : Int), .int .i64 (y : Int), .int .i64 (z : Int)] 24) := ⟨_, rfl⟩
  have hb1 : Grew w w1 v v := by rw [hw1]; exact Grew.alloc w _ v
  have g0 : w1.heap[w.heap.size]? = some (.cells #[.int .i64 (x : Int), .int .i64 (y : Int), .int .i64 (z : Int)] 24 (0, 0)) := by rw [hw1]; exact heap_alloc_new w _
  have hz : w1.heap.size = w.heap.size + 1 := by rw [hw1]; simp
  have ho1 : Own w1 base bs v := by rw [hw1]; exact ho.alloc _
  have hvlt : v.ownBlock ≠ some w.heap.size := fun e => by
    rcases ho.2 with ⟨rfl, _⟩ | ⟨g, cap, cur, rfl, _, hh, _⟩
    · simp [Value.ownBlock] at e
    · have hk : g = w.heap.size := by simpa [Value.ownBlock] using e
      have := (Array.getElem?_eq_some_iff.1 hh).1
      omega
  have HG := Lib.hid (show ∀ X u, Grew w1 X v u → (X.cell? ⟨w.heap.size, 0, none⟩ = some (.int .i64 (x : Int)) ∧ X.cell? ⟨w.heap.size, 1, none⟩ = some (.int .i64 (y : Int)) ∧ X.cell? ⟨w.heap.size, 2, none⟩ = some (.int .i64 (z : Int))) from fun X u hX => by
    have h := (hX.block _ (by omega) hvlt).trans g0
    exact ⟨by rw [cell_of_row X _ 0 _ _ _ h]; rfl, by rw [cell_of_row X _ 1 _ _ _ h]; rfl, by rw [cell_of_row X _ 2 _ _ _ h]; rfl⟩)
  obtain ⟨c0, c1, c2⟩ := HG.out w1 v (Grew.refl _ _)
  have HT := Lib.hid (three_any x bs v base w1 (by omega) ho1 (by omega) (by omega))
  have HB1 := Lib.hid hb1
  have HW1 := Lib.hid hw1
  have HN := Lib.hid (show nameL ⟨(x : Int), (y : Int), (z : Int)⟩ = three (x : Int) ++ (three (y : Int) ++ three (z : Int)) from rfl)
  have HZ := Lib.hid (And.intro hb (And.intro hl (And.intro h2.2 h3.2)))
  clear hw1 hb1 g0 hz ho1 hvlt ho hb hl h1 h2 h3
  go_enter Try.func29, Try.ntmps29
  go_wp2_with (rw [← HW1.out])
  refine HT.out.mono ?_
  rintro e w2 ⟨v2, rfl, ho2, hg2⟩
  obtain ⟨d0, d1, d2⟩ := HG.out w2 v2 hg2
  have HT2 := Lib.hid (three_any y (bs ++ three (x : Int)) v2 base w2 (by have := HZ.out; omega) ho2 (by have := HZ.out; have := HB1.out.size; have := hg2.size; omega) (by have := HZ.out; simp [three]; omega))
  have HG2 := Lib.hid hg2
  clear c0 c1 c2 ho2 hg2
  go_wp2_with fail
  refine HT2.out.mono ?_
  rintro e w3 ⟨v3, rfl, ho3, hg3⟩
  have hg13 := HG2.out.trans hg3
  obtain ⟨e0, e1, e2⟩ := HG.out w3 v3 hg13
  have HT3 := Lib.hid (three_any z (bs ++ three (x : Int) ++ three (y : Int)) v3 base w3 (by have := HZ.out; omega) ho3 (by have := HZ.out; have := HB1.out.size; have := hg13.size; omega) (by have := HZ.out; simp [three]; omega))
  have HG3 := Lib.hid hg13
  clear d0 d1 d2 ho3 hg3 hg13
  go_wp2_with fail
  refine HT3.out.mono ?_
  rintro e w4 ⟨v4, rfl, ho4, hg4⟩
  have HO4 := Lib.hid ho4
  have HG4 := Lib.hid (HB1.out.trans (HG3.out.trans hg4))
  clear e0 e1 e2 ho4 hg4
  go_wp2_with fail
  go_ret
  refine ⟨v4, rfl, ?_, HG4.out⟩
  rw [HN.out]
  have h := HO4.out
  rwa [List.append_assoc, List.append_assoc] at h
end Go.Proofs.Ytaokhbodmodcgaa
end

section
/-
  The document's reader: writes.
-/
namespace Go.Proofs.Ytaokhbodmodcgaa
open Go.RowKit
set_option maxRecDepth 100000

/-- a write, then another -/
def rdM : Nat → List Nat → Option (List (Int × List Nat) × List Nat)
  | 0, q => some ([], q)
  | n + 1, q => bind7 (rdM n q) fun l q1 => bind7 (rdOne q1) fun k q2 => bind7 (rdN 8 q2) fun v q3 => some (l ++ [(k, v)], q3)
theorem rdM_none {k n : Nat} {q : List Nat} (h : rdM k q = none) (hn : k ≤ n) : rdM n q = none := by
  induction n with
  | zero =>
    have e : k = 0 := by omega
    rw [e] at h
    exact h
  | succ n ih =>
    rcases Nat.lt_or_ge n k with h1 | h1
    · obtain rfl : k = n + 1 := by omega
      exact h
    · rw [rdM, ih h1]; rfl
theorem rdMany_one (k : Nat) (q : List Nat) (n : Nat) : rdMany (n + 1) (k :: q) = bind7 (rdN 8 q) fun v q1 => bind7 (rdMany n q1) fun l q2 => some (((k : Int), v) :: l, q2) := by
  rw [rdMany, rdN_eq]
  by_cases h : q.length < 8
  · rw [if_pos h, if_pos h]; rfl
  · rw [if_neg h, if_neg h]
    simp only [bind7]
    cases h2 : rdMany n (q.drop 8) with
    | none => rfl
    | some o => rfl
theorem rdMany_last (n : Nat) : ∀ q : List Nat, rdMany (n + 1) q = bind7 (rdMany n q) fun l q1 => bind7 (rdOne q1) fun k q2 => bind7 (rdN 8 q2) fun v q3 => some (l ++ [(k, v)], q3) := by
  induction n with
  | zero =>
    intro q
    cases q with
    | nil => rfl
    | cons k q =>
      rw [rdMany_one]
      simp only [rdMany, bind7, rdOne]
      cases rdN 8 q <;> rfl
  | succ n ih =>
    intro q
    cases q with
    | nil => rfl
    | cons k q =>
      rw [rdMany_one, rdMany_one]
      cases h : rdN 8 q with
      | none => rfl
      | some o =>
        obtain ⟨v, q1⟩ := o
        simp only [bind7]
        rw [ih q1]
        cases h2 : rdMany n q1 with
        | none => rfl
        | some o2 =>
          obtain ⟨l, q2⟩ := o2
          simp only [bind7]
          cases h3 : rdOne q2 with
          | none => rfl
          | some o3 =>
            obtain ⟨x, q3⟩ := o3
            simp only []
            cases rdN 8 q3 <;> rfl
theorem rdM_eq (n : Nat) (q : List Nat) : rdM n q = rdMany n q := by
  induction n with
  | zero => rfl
  | succ n ih => rw [rdM, rdMany_last, ih]
theorem rdWrites_eq (q : List Nat) : rdWrites q = bind7 (rdOne q) fun n q1 => rdM n.toNat q1 := by
  cases q with
  | nil => rfl
  | cons n q =>
    show rdMany n q = rdM ((n : Int)).toNat q
    rw [rdM_eq, Int.toNat_natCast]
/-- a row of writes of the call's own -/
def OwnW (w : World) (base : Nat) (l : List (Int × List Nat)) (v : Value) : Prop := w.ownsRow base 68 9 v l.length (l.flatMap wrv)
section
variable {w w' : World} {base : Nat} {l : List (Int × List Nat)} {v : Value}
theorem OwnW.nil_ (w : World) (base : Nat) : OwnW w base [] (.slice none 0 0) := ⟨rfl, Or.inl ⟨rfl, rfl⟩⟩
theorem OwnW.keep (h : OwnW w base l v) (hk : ∀ b, b < w.heap.size → base ≤ b → w'.heap[b]? = w.heap[b]?) : OwnW w' base l v := by
  obtain ⟨h1, h2⟩ := h
  refine ⟨h1, ?_⟩
  rcases h2 with h2 | ⟨g, cap, cur, hv, hg, hh, r⟩
  · exact Or.inl h2
  · exact Or.inr ⟨g, cap, cur, hv, hg, (hk g (Array.getElem?_eq_some_iff.1 hh).1 hg).trans hh, r⟩
end
theorem Rd.kept {w w' : World} {B p : Nat} {A : Option Addr} {bs : List Nat} {c a : Nat} {d : Bool} (h : Rd w B p A bs c a d) (hk : ∀ b, b ≤ p → w'.heap[b]? = w.heap[b]?) : Rd w' B p A bs c a d :=
  ⟨(hk p (Nat.le_refl _)).trans h.box, h.by_.keep fun q hq => World.cell?_of_block (w := w) (hk q.block (by have := h.le; omega)), h.le, h.at_⟩
theorem Try.info68 : (Try.prog.info? 68).map (fun i => (i.zero, i.size, i.bytes)) = some (some (.agg #[.int .i64 0, .int .u8 0, .int .u8 0, .int .u8 0, .int .u8 0, .int .u8 0, .int .u8 0, .int .u8 0, .int .u8 0]), 9, 16) := by kernel_rfl
theorem wrv_one (x : Int × List Nat) : ∀ u ∈ wrv x, u.oneCell' = true := by
  intro u hu
  unfold wrv at hu
  rcases List.mem_cons.1 hu with rfl | hu
  · rfl
  · exact vals_one u hu
theorem appendW {w : World} {ops : Array Oper} {rest : List Oper} {o : Oper} {a : Act} {Q : Exit → Act → World → Prop} (hgd : o.guard = none) (s x : Operand)
    (ho : o.op = .call { callee := .builtin .append, args := #[s, x], argTypes := #[25, 25] }) (base : Nat) (l : List (Int × List Nat)) (y : Int × List Nat) (v : Value) (hs : a.eval s = v) (hown : OwnW w base l v)
    (ad : Addr) (c : Nat) (hx : a.eval x = .slice (some ad) 1 c) (hy : y.2.length = 8) (hD : ∀ j u, (wrv y)[j]? = some u → w.cell? (ad.add j) = some u) (hl : l.length ≤ 1000000) (hbase : base ≤ w.heap.size)
    (h : ∀ v' w', OwnW w' base (l ++ [y]) v' → w.grownBy w' v.ownBlock → wpList Try.prog ops Q rest (a.put o.dst v') w') : wpList Try.prog ops Q (o :: rest) a w := by
  obtain ⟨i0, hi, hz0, hz1, hz2⟩ := info_parts Try.info68
  refine wpList_append_own w hgd s x 25 ho base 68 i0 _ 9 16 Try.underlying25 hi hz0 hz1 hz2 rfl (by decide) v l.length (l.flatMap wrv) hs hown ad 1 c (wrv y) hx (by rw [wrv_length hy]) hD (wrv_one y) (by unfold maxLen; omega) (by omega) hbase ?_
  intro v' w' hown' hgrow _
  refine h v' w' ?_ hgrow
  unfold OwnW
  rw [List.flatMap_append, List.length_append]
  simpa using hown'
theorem eight {vs : List Nat} (h : vs.length = 8) : ∃ a b c d e f g i, vs = [a, b, c, d, e, f, g, i] := by
  match vs, h with
  | [a, b, c, d, e, f, g, i], _ => exact ⟨a, b, c, d, e, f, g, i, rfl⟩
def FinW (l : List (Int × List Nat)) : Prop := ∀ x ∈ l, (0 ≤ x.1 ∧ x.1 < 256) ∧ x.2.length = 8 ∧ ∀ y ∈ x.2, y < 256
theorem FinW.more {l : List (Int × List Nat)} {y : Int × List Nat} (h : FinW l) (hy : (0 ≤ y.1 ∧ y.1 < 256) ∧ y.2.length = 8 ∧ ∀ z ∈ y.2, z < 256) : FinW (l ++ [y]) := fun x hx => by
  rcases List.mem_append.1 hx with hx | hx
  · exact h x hx
  · rw [List.mem_singleton.1 hx]; exact hy
/-- what Writes answers: the call's own row of writes -/
def WrTell (w : World) (B p : Nat) (A : Option Addr) (bs : List Nat) (c a : Nat) (d : Bool) (e : Ending) (w' : World) : Prop :=
  ∃ l a' d' v, e = .returned v ∧ FinW l ∧ l.length < 256 ∧ OwnW w' w.heap.size l v ∧ Rd w' B p A bs c a' d' ∧ Kept7 (· = p) w w' ∧ Lnk bs a d (rdWrites (bs.drop a)) l a' d'
set_option maxHeartbeats 4000000 in
theorem rwrites_any (w : World) (B p : Nat) (A : Option Addr) (bs : List Nat) (c a : Nat) (d : Bool) (h : Rd w B p A bs c a d) (hl : bs.length ≤ 1000000) :
    Calls Try.prog 46 #[.pointer (some ⟨p, 0, none⟩)] w (WrTell w B p A bs c a d) := by
  have HB := Lib.hid (fun W a d (h : Rd W B p A bs c a d) => byte_any W B p A bs c a d h hl)
  have HV := Lib.hid (fun W a d (h : Rd W B p A bs c a d) => rvalue_any W B p A bs c a d h hl)
  have HR := Lib.hid h
  have HLt := Lib.hid h.lt
  clear h hl
  go_enter Try.func46, Try.ntmps46
  go_wp2_with fail
  refine (HB.out _ _ _ HR.out).mono ?_
  rintro e w1 ⟨x, a1, d1, rfl, hx, hr1, hk1, hl1⟩
  obtain ⟨n, rfl⟩ : ∃ n : Nat, x = (n : Int) := ⟨x.toNat, by omega⟩
  have HR1 := Lib.hid hr1
  have HK1 := Lib.hid hk1
  have HL1 := Lib.hid hl1
  have hn : n < 256 := by omega
  clear hr1 hk1 hl1 hx
  go_wp2_with fail
  go_loopw [4, 5, 6, 7] (fun v i _ _ wr => ∃ k l a' d', k ≤ n ∧ i = .int .i64 ((k : Nat) : Int) ∧ (l.length = k ∧ FinW l) ∧ OwnW wr w.heap.size l v ∧ Rd wr B p A bs c a' d' ∧ Kept7 (· = p) w wr ∧ Lnk bs a1 d1 (rdM k (bs.drop a1)) l a' d') (fun _ i _ _ _ => n - (intOf i).toNat)
  case atStart => exact ⟨0, [], a1, d1, Nat.zero_le _, rfl, ⟨rfl, fun _ h => absurd h (by simp)⟩, OwnW.nil_ _ _, HR1.out, HK1.out, Lnk.pure _⟩
  case round =>
    obtain ⟨k, l, a', d', hk, rfl, ⟨hll, hfl⟩, ho, hr, hkp, hln⟩ := hrel
    obtain ⟨c0, c1, c2, hf⟩ := hr.cells
    have HI := Lib.hid (And.intro hll hfl)
    have HO := Lib.hid ho
    have HR2 := Lib.hid hr
    have HK2 := Lib.hid hkp
    have HL2 := Lib.hid hln
    clear hll hfl ho hr hkp hln hf c0 c1
    by_cases hlt : k < n
    · have hki : (k : Int) < (n : Int) := by omega
      cases d' with
      | true =>
        go_wp2
        go_ret
        refine ⟨l, a', true, _, rfl, HI.out.2, by have := HI.out.1; omega, HO.out, HR2.out, HK2.out, ?_⟩
        rw [rdWrites_eq]
        refine HL1.out.bind (g := fun x q1 => rdM x.toNat q1) ⟨fun _ => rfl, fun e => Or.inr ⟨?_, rfl⟩⟩
        rcases HL2.out.2 e with ⟨q, _, h2, _⟩ | ⟨h2, _⟩
        · cases h2
        · exact rdM_none h2 (by simp; omega)
      | false =>
        go_wp2_with fail
        refine (HB.out _ _ _ HR2.out).mono ?_
        rintro e w3 ⟨x, a3, d3, rfl, hx, hr3, hk3, hl3⟩
        obtain ⟨q, rfl⟩ : ∃ q : Nat, x = (q : Int) := ⟨x.toNat, by omega⟩
        have HR3 := Lib.hid hr3
        have HK3 := Lib.hid (HK2.out.trans hk3)
        have HL3 := Lib.hid hl3
        have HX3 := Lib.hid hx
        have HO3 := Lib.hid (HO.out.keep fun b hb hge => hk3.block b hb (by have := HLt.out; omega))
        clear hr3 hk3 hl3 hx c2
        go_wp2_with fail
        refine (HV.out _ _ _ HR3.out).mono ?_
        rintro e w4 ⟨vs, a4, d4, rfl, ⟨hv8, hvb⟩, hr4, hk4, hl4⟩
        obtain ⟨y0, y1, y2, y3, y4, y5, y6, y7, rfl⟩ := eight hv8
        have HR4 := Lib.hid hr4
        have HK4 := Lib.hid (HK3.out.trans hk4)
        have HL4 := Lib.hid hl4
        have HX4 := Lib.hid hvb
        have HO4 := Lib.hid (HO3.out.keep fun b hb hge => hk4.block b hb (by have := HLt.out; omega))
        clear hr4 hk4 hl4 hvb hv8
        simp only [vals, List.map_cons, List.map_nil]
        have hb5 : Below w4.heap.size w4 ((w4.alloc (.cells #[.int .u8 (y0 : Int), .int .u8 (y1 : Int), .int .u8 (y2 : Int), .int .u8 (y3 : Int), .int .u8 (y4 : Int), .int .u8 (y5 : Int), .int .u8 (y6 : Int), .int .u8 (y7 : Int)] 66)).alloc (.cells #[.int .i64 (q : Int), .int .u8 (y0 : Int), .int .u8 (y1 : Int), .int .u8 (y2 : Int), .int .u8 (y3 : Int), .int .u8 (y4 : Int), .int .u8 (y5 : Int), .int .u8 (y6 : Int), .int .u8 (y7 : Int)] 68)) := ((Below.refl w4.heap.size w4).alloc (Nat.le_refl _) _).alloc (by simp) _
        have HO5 := Lib.hid (HO4.out.keep (w' := (w4.alloc (.cells #[.int .u8 (y0 : Int), .int .u8 (y1 : Int), .int .u8 (y2 : Int), .int .u8 (y3 : Int), .int .u8 (y4 : Int), .int .u8 (y5 : Int), .int .u8 (y6 : Int), .int .u8 (y7 : Int)] 66)).alloc (.cells #[.int .i64 (q : Int), .int .u8 (y0 : Int), .int .u8 (y1 : Int), .int .u8 (y2 : Int), .int .u8 (y3 : Int), .int .u8 (y4 : Int), .int .u8 (y5 : Int), .int .u8 (y6 : Int), .int .u8 (y7 : Int)] 68)) fun b hb _ => hb5.block b hb)
        have HD5 := Lib.hid (show ∀ j u, (wrv ((q : Int), [y0, y1, y2, y3, y4, y5, y6, y7]))[j]? = some u → ((w4.alloc (.cells #[.int .u8 (y0 : Int), .int .u8 (y1 : Int), .int .u8 (y2 : Int), .int .u8 (y3 : Int), .int .u8 (y4 : Int), .int .u8 (y5 : Int), .int .u8 (y6 : Int), .int .u8 (y7 : Int)] 66)).alloc (.cells #[.int .i64 (q : Int), .int .u8 (y0 : Int), .int .u8 (y1 : Int), .int .u8 (y2 : Int), .int .u8 (y3 : Int), .int .u8 (y4 : Int), .int .u8 (y5 : Int), .int .u8 (y6 : Int), .int .u8 (y7 : Int)] 68)).cell? ((⟨w4.heap.size + 1, 0, none⟩ : Addr).add j) = some u from by
          have h := new_cells (w := w4.alloc (.cells #[.int .u8 (y0 : Int), .int .u8 (y1 : Int), .int .u8 (y2 : Int), .int .u8 (y3 : Int), .int .u8 (y4 : Int), .int .u8 (y5 : Int), .int .u8 (y6 : Int), .int .u8 (y7 : Int)] 66)) (nl := wrv ((q : Int), [y0, y1, y2, y3, y4, y5, y6, y7])) (t := 68) rfl
          rw [show (w4.alloc (.cells #[.int .u8 (y0 : Int), .int .u8 (y1 : Int), .int .u8 (y2 : Int), .int .u8 (y3 : Int), .int .u8 (y4 : Int), .int .u8 (y5 : Int), .int .u8 (y6 : Int), .int .u8 (y7 : Int)] 66)).heap.size = w4.heap.size + 1 by simp] at h
          exact h)
        have HKb := Lib.hid (HK4.out.trans (Kept7.of_below hb5 (Nat.le_refl _)))
        have HB5 := Lib.hid hb5
        have HGe := Lib.hid (own_ge HO4.out)
        have HLl := Lib.hid (show l.length ≤ 1000000 from by have := HI.out.1; omega)
        have HSz := Lib.hid (show w.heap.size ≤ ((w4.alloc (.cells #[.int .u8 (y0 : Int), .int .u8 (y1 : Int), .int .u8 (y2 : Int), .int .u8 (y3 : Int), .int .u8 (y4 : Int), .int .u8 (y5 : Int), .int .u8 (y6 : Int), .int .u8 (y7 : Int)] 66)).alloc (.cells #[.int .i64 (q : Int), .int .u8 (y0 : Int), .int .u8 (y1 : Int), .int .u8 (y2 : Int), .int .u8 (y3 : Int), .int .u8 (y4 : Int), .int .u8 (y5 : Int), .int .u8 (y6 : Int), .int .u8 (y7 : Int)] 68)).heap.size from Nat.le_trans HK4.out.size hb5.size)
        have hw1 : IntKind.i64.wrap ((k : Int) + 1) = (k : Int) + 1 := by rw [IntKind.wrap_i64]; omega
        clear hb5
        go_wp2_with (at_builtin; refine appendW rfl (.tmp 26) (.tmp 30) rfl w.heap.size l ((q : Int), [y0, y1, y2, y3, y4, y5, y6, y7]) _ rfl HO5.out ⟨w4.heap.size + 1, 0, none⟩ 1 rfl rfl HD5.out HLl.out HSz.out ?_; intro v6 w6 hv6 hg6)
        go_roundw
        case rel =>
          refine ⟨k + 1, l ++ [((q : Int), [y0, y1, y2, y3, y4, y5, y6, y7])], a4, d4, by omega, by go_num, ⟨by simp [HI.out.1], HI.out.2.more ⟨HX3.out, rfl, HX4.out⟩⟩, hv6, ?_, ?_, HL2.out.bind (HL3.out.bind (HL4.out.bind (Lnk.pure _)))⟩
          · refine HR4.out.kept fun b hb => ?_
            have h1 := HR4.out.lt
            have h2 := HB5.out.size
            refine (hg6.block b (by omega) (fun e => ?_)).trans (HB5.out.block b (by omega))
            have h3 := HGe.out b e.symm
            have h4 := HLt.out
            omega
          · exact HKb.out.grown hg6 fun b e hb => by have h3 := HGe.out b e; omega
        case measure => simp [intOf]; omega
    · obtain rfl : k = n := by omega
      have hki : ¬ (k : Int) < (k : Int) := by omega
      go_wp2
      go_ret
      refine ⟨l, a', d', _, rfl, HI.out.2, by have := HI.out.1; omega, HO.out, HR2.out, HK2.out, ?_⟩
      rw [rdWrites_eq]
      exact HL1.out.bind (g := fun x q1 => rdM x.toNat q1) HL2.out
end Go.Proofs.Ytaokhbodmodcgaa
end

section
/-
  The document's Read: what it answers, how it parses.
-/
namespace Go.Proofs.Ytaokhbodmodcgaa
open Go.RowKit
set_option maxRecDepth 100000

def recOf (b : List Nat) : Rc := (readR b).getD zRc
def readErr (b : List Nat) : Int := if (readR b).isSome = true then 0 else 40
def ReadTell (w : World) (bs : List Nat) (e : Ending) (w' : World) : Prop :=
  ∃ A' c', e = .returned (.tuple #[.agg (recv A' c' (recOf bs)).toArray, .int .i64 (readErr bs)]) ∧ WrsV w' (fun b => w.heap.size ≤ b) A' c' (recOf bs).writes ∧ WrFine (recOf bs).writes ∧ Below w.heap.size w w'
theorem ReadTell.no {w w' : World} {bs : List Nat} (h : readR bs = none) (hb : Below w.heap.size w w') : ReadTell w bs (.returned (.tuple #[.agg #[.int .i8 0, .int .i64 0, .int .i64 0, .int .i64 0, .bool false, .slice none 0 0, .int .i64 0, .int .i64 0, .int .i64 0, .int .i64 0, .int .i64 0, .int .i64 0], .int .i64 40])) w' := by
  unfold ReadTell recOf readErr
  rw [h]
  exact ⟨none, 0, rfl, WrsV.nil_, fun _ h => absurd h (by simp [zRc]), hb⟩
theorem ReadTell.yes {w w' : World} {bs : List Nat} {r : Rc} {A' : Option Addr} {c' : Nat} (h : readR bs = some r) (hw : WrsV w' (fun b => w.heap.size ≤ b) A' c' r.writes) (hf : WrFine r.writes) (hb : Below w.heap.size w w') : ReadTell w bs (.returned (.tuple #[.agg (recv A' c' r).toArray, .int .i64 0])) w' := by
  unfold ReadTell recOf readErr
  rw [h]
  exact ⟨A', c', rfl, hw, hf, hb⟩
theorem read_link {bs : List Nat} {r : Rc} {a : Nat} {d : Bool} (h : Lnk bs 0 false (rdRest bs) r a d) (ha : a ≤ bs.length) : readR bs = if d = false ∧ a = bs.length ∧ mayR r = true then some r else none := by
  unfold readR
  rcases h.2 rfl with ⟨q, e, rfl, rfl⟩ | ⟨e, rfl⟩
  · rw [e]
    cases hq : bs.drop a with
    | nil =>
      have h1 : a = bs.length := by have := List.drop_eq_nil_iff.1 hq; omega
      simp only [h1, true_and]
    | cons x q =>
      have h1 : ¬ a = bs.length := fun e2 => by rw [e2, List.drop_length] at hq; cases hq
      rw [if_neg (fun hh => h1 hh.2.1)]
  · rw [e, if_neg (by simp)]
theorem rdRest_n {k : Nat} (h : k = 6 ∨ k = 7) (t : List Nat) : rdRest (k :: t) = bind7 (rdThree t) fun n q => some ({ zRc with kind := (k : Int), n := n }, q) := by
  rw [rdRest, if_pos h]
  cases rdThree t <;> rfl
/-- where Read stands: its reader, the record's row at X, the row of its results -/
def St7 (w : World) (X : Nat) (A : Option Addr) (bs : List Nat) (c : Nat) (W : World) (row : Array Value) (a : Nat) (d : Bool) : Prop :=
  Rd W w.heap.size (w.heap.size + 1) A bs c a d ∧ W.heap[X]? = some (.cells row 29 (0, 0)) ∧ W.heap[w.heap.size]? = some (.cells #[.int .i8 0, .int .i64 0, .int .i64 0, .int .i64 0, .bool false, .slice none 0 0, .int .i64 0, .int .i64 0, .int .i64 0, .int .i64 0, .int .i64 0, .int .i64 0] 29 (0, 0)) ∧ Below w.heap.size w W
section
variable {w W W' : World} {X : Nat} {A : Option Addr} {bs : List Nat} {c : Nat} {row : Array Value} {a a' : Nat} {d d' : Bool}
theorem St7.call (h : St7 w X A bs c W row a d) (hr : Rd W' w.heap.size (w.heap.size + 1) A bs c a' d') (hk : Kept7 (· = w.heap.size + 1) W W') (hX : w.heap.size + 2 ≤ X) : St7 w X A bs c W' row a' d' :=
  ⟨hr, (hk.block X (Array.getElem?_eq_some_iff.1 h.2.1).1 (by omega)).trans h.2.1, (hk.block _ (Array.getElem?_eq_some_iff.1 h.2.2.1).1 (by omega)).trans h.2.2.1, h.2.2.2.trans (hk.to_below h.2.2.2.size (fun k hk e => by omega))⟩
theorem St7.set (h : St7 w X A bs c W row a d) (hX : w.heap.size + 2 ≤ X) (row' : Array Value) : St7 w X A bs c (W.setRow X row') row' a d :=
  ⟨h.1.kept fun b hb => setRow_other _ _ _ _ (by omega), setRow_heap _ _ _ _ _ _ h.2.1, (setRow_other _ _ _ _ (by omega)).trans h.2.2.1, below_setRow h.2.2.2 (by omega) _⟩
theorem St7.below (h : St7 w X A bs c W row a d) (hb : Below W.heap.size W W') : St7 w X A bs c W' row a d :=
  ⟨h.1.below hb h.1.lt, (hb.block X (Array.getElem?_eq_some_iff.1 h.2.1).1).trans h.2.1, (hb.block _ (Array.getElem?_eq_some_iff.1 h.2.2.1).1).trans h.2.2.1, h.2.2.2.trans (hb.mono h.2.2.2.size)⟩
end
theorem WrsV.keep {w w' : World} {P : Nat → Prop} {A : Option Addr} {c : Nat} {l : List (Int × List Nat)} (h : WrsV w P A c l) (hk : ∀ b, P b ∧ b < w.heap.size → w'.heap[b]? = w.heap[b]?) (hs : w.heap.size ≤ w'.heap.size) : WrsV w' P A c l :=
  ⟨h.at_.keep hs fun b h1 h2 => hk b ⟨h1, h2⟩, h.le, h.max, h.nil⟩
theorem WrsV.out {w w' : World} {X N : Nat} {A : Option Addr} {c : Nat} {l : List (Int × List Nat)} (h : WrsV w (fun b => X < b) A c l) (hk : ∀ b, X < b → w'.heap[b]? = w.heap[b]?) (hs : w.heap.size ≤ w'.heap.size) (hN : N ≤ X) : WrsV w' (fun b => N ≤ b) A c l :=
  (h.keep (fun b hb => hk b hb.1) hs).mono fun b hb _ => by omega
theorem FinW.fine {l : List (Int × List Nat)} (h : FinW l) : WrFine l := fun x hx => ⟨by have := (h x hx).1; unfold I64; omega, (h x hx).2⟩
theorem cells_flat {l : List (Int × List Nat)} (h : FinW l) : ∀ (i : Nat) (hi : i < l.length) (j : Nat) (u : Value), (wrv l[i])[j]? = some u → (l.flatMap wrv)[i * 9 + j]? = some u := by
  induction l with
  | nil => intro i hi; simp at hi
  | cons x r ih =>
    intro i hi j u hu
    have hx := wrv_length (h x List.mem_cons_self).2.1
    rw [List.flatMap_cons]
    cases i with
    | zero =>
      have hj : j < (wrv x).length := (List.getElem?_eq_some_iff.1 hu).1
      rw [Nat.zero_mul, Nat.zero_add, List.getElem?_append_left hj]
      exact hu
    | succ i =>
      rw [List.getElem?_append_right (by omega), hx, show (i + 1) * 9 + j - 9 = i * 9 + j by omega]
      exact ih (fun y hy => h y (List.mem_cons_of_mem _ hy)) i (by simpa using hi) j u hu
theorem OwnW.wrsv {w : World} {base : Nat} {l : List (Int × List Nat)} {v : Value} (h : OwnW w base l v) (hf : FinW l) (hl : l.length < 256) : ∃ A c, v = .slice A l.length c ∧ WrsV w (fun b => base ≤ b) A c l := by
  obtain ⟨h1, h2⟩ := h
  rcases h2 with ⟨rfl, h3⟩ | ⟨g, cap, cur, rfl, hg, hh, hn, hc, hsz, ht⟩
  · obtain rfl := List.eq_nil_of_length_eq_zero h3
    exact ⟨none, 0, rfl, WrsV.nil_⟩
  · refine ⟨some ⟨g, 0, none⟩, cap, rfl, ⟨fun _ => ⟨g, 0, rfl, ⟨hg, (Array.getElem?_eq_some_iff.1 hh).1⟩, fun i hi j u hu => ?_⟩, hn, hc, fun e => by cases e⟩⟩
    have h4 := cells_flat hf i hi j u hu
    rw [Nat.zero_add, cell_of_row w g _ cur _ _ hh]
    rw [← ht] at h4
    have h5 := (List.getElem?_eq_some_iff.1 h4).1
    rw [List.getElem?_take_of_lt (by simp only [List.length_take] at h5; omega)] at h4
    simpa using h4
theorem rdRest_name {k : Nat} (h : ¬ (k = 6 ∨ k = 7)) (t : List Nat) : rdRest (k :: t) = bind7 (rdName t) fun nm q => rdTail k nm q := by
  rw [rdRest, if_neg h]
  cases rdName t <;> rfl
theorem rdRest_5 (t : List Nat) : rdRest (5 :: t) = bind7 (rdName t) fun nm q => some (({ zRc with kind := 5, name := nm } : Rc), q) := by
  rw [rdRest_name (by simp)]; rfl
theorem rdRest_3 (t : List Nat) : rdRest (3 :: t) = bind7 (rdName t) fun nm q => bind7 (rdFlag q) fun y q1 => some (({ zRc with kind := 3, name := nm, yes := y } : Rc), q1) := by
  rw [rdRest_name (by simp)]
  congr
  funext nm q
  cases q with
  | nil => rfl
  | cons y q =>
    rw [show rdTail 3 nm (y :: q) = (if y ≤ 1 then some (({ zRc with kind := 3, name := nm, yes := decide (y = 1) } : Rc), q) else none) from rfl]
    simp only [rdFlag, rdOne, bind7]
    by_cases h : y ≤ 1
    · rw [if_pos h, if_neg (by omega)]
      have e : decide (y = 1) = decide ((y : Int) = 1) := by rw [decide_eq_decide]; omega
      rw [e]
    · rw [if_neg h, if_pos (by omega)]
theorem rdRest_1 (t : List Nat) : rdRest (1 :: t) = bind7 (rdName t) fun nm q => bind7 (rdWrites q) fun l q1 => some (({ zRc with kind := 1, name := nm, writes := l } : Rc), q1) := by
  rw [rdRest_name (by simp)]
  congr
  funext nm q
  simp only [rdTail, bind7]
  cases rdWrites q <;> rfl
theorem rdRest_2 (t : List Nat) : rdRest (2 :: t) = bind7 (rdName t) fun nm q => bind7 (rdWrites q) fun l q1 => bind7 (rdOne q1) fun g q2 => bind7 (rdOne q2) fun k q3 => some (({ zRc with kind := 2, name := nm, writes := l, give := g, take := k } : Rc), q3) := by
  rw [rdRest_name (by simp)]
  congr
  funext nm q
  simp only [rdTail, bind7]
  cases rdWrites q with
  | none => rfl
  | some o =>
    obtain ⟨l, q1⟩ := o
    match q1 with
    | [] => rfl
    | [_] => rfl
    | _ :: _ :: _ => rfl
theorem rdRest_4 (t : List Nat) : rdRest (4 :: t) = bind7 (rdName t) fun nm q => bind7 (rdOne q) fun g q1 => bind7 (rdOne q1) fun k q2 => bind7 (rdOne q2) fun m q3 => some (({ zRc with kind := 4, name := nm, shards := g, stripe := k - 1, dest := m } : Rc), q3) := by
  rw [rdRest_name (by simp)]
  congr
  funext nm q
  match q with
  | [] => rfl
  | [_] => rfl
  | [_, _] => rfl
  | _ :: _ :: _ :: _ => rfl
theorem readR_other {k : Nat} (h : k = 0 ∨ 8 ≤ k) (t : List Nat) : readR (k :: t) = none := by
  unfold readR
  rw [rdRest_name (by omega)]
  cases rdName t with
  | none => rfl
  | some o =>
    obtain ⟨nm, q⟩ := o
    simp only [bind7, rdTail]
    rw [if_neg (by omega), if_neg (by omega), if_neg (by omega), if_neg (by omega), if_neg (by omega)]
theorem may_other {r : Rc} (h : r.kind = 0 ∨ 8 ≤ r.kind) : ¬ mayR r = true := fun e => by
  have := (may_parts e).1
  omega
theorem i8_low {m : Int} (h : 0 ≤ m ∧ m < 128) : IntKind.i8.wrap m = m := by
  simp only [IntKind.wrap, IntKind.bits, IntKind.signed]
  simp
  omega
theorem and127 {q : Nat} (h : q < 256) : bits .and .i64 (q : Int) 127 = ((q % 128 : Nat) : Int) := by
  rw [show (127 : Int) = ((127 : Nat) : Int) from rfl, i64_and_nat q 127 (by omega) (by omega)]
  have : q &&& 127 = q % 128 := Nat.and_two_pow_sub_one_eq_mod q 7
  rw [this]
set_option maxHeartbeats 2000000 in
theorem byte_end (w : World) (B p : Nat) (A : Option Addr) (c : Nat) (d : Bool) (h : Rd w B p A [] c 0 d) :
    Calls Try.prog 43 #[.pointer (some ⟨p, 0, none⟩)] w fun e w' => e = .returned (.int .i64 0) ∧ Rd w' B p A [] c 0 true ∧ Kept7 (· = p) w w' := by
  obtain ⟨c0, c1, c2, hf⟩ := h.cells
  have f2 := hf 2
  have HR := Lib.hid h
  clear hf h
  go_enter Try.func43, Try.ntmps43
  go_wp2_with fail
  go_quiet (fail)
  have f2' : (w.drewN nq).frozen? ⟨p, 2, none⟩ = false := f2
  have d2 : (w.drewN nq).cell? ⟨p, 2, none⟩ = some (.bool d) := c2
  have HR3 := Lib.hid ((HR.out.drewN nq).bad (d' := true))
  have HK3 := Lib.hid (((Kept7.refl (· = p) w).drewN nq).set_ (p := p) (j := 2) (.bool true) (fun _ => rfl))
  generalize w.drewN nq = w1 at f2' d2 HR3 HK3 ⊢
  clear c0 c1 c2 f2 HR
  go_wp2
  go_ret
  exact ⟨rfl, HR3.out, HK3.out⟩
end Go.Proofs.Ytaokhbodmodcgaa
end

section
/-
  The document's Read. (mkread.py writes this text.)
-/
namespace Go.Proofs.Ytaokhbodmodcgaa
open Go.RowKit
set_option maxRecDepth 100000

set_option maxHeartbeats 8000000 in
theorem read_0 (A : Option Addr) (c : Nat) (w : World) (hA : By w w.heap.size A []) (hl : 0 ≤ 1000000) :
    Calls Try.prog 25 #[.slice A 0 c] w (ReadTell w []) := by
  have HB := Lib.hid (fun W B p a d (h : Rd W B p A ([] : List Nat) c a d) => byte_any W B p A ([] : List Nat) c a d h hl)
  have HT := Lib.hid (fun W B p a d (h : Rd W B p A ([] : List Nat) c a d) => rthree_any W B p A ([] : List Nat) c a d h hl)
  have HNm := Lib.hid (fun W B p a d (h : Rd W B p A ([] : List Nat) c a d) => rname_any W B p A ([] : List Nat) c a d h hl)
  have HWr := Lib.hid (fun W B p a d (h : Rd W B p A ([] : List Nat) c a d) => rwrites_any W B p A ([] : List Nat) c a d h hl)
  have HFl := Lib.hid (fun W B p a d (h : Rd W B p A ([] : List Nat) c a d) => rflag_any W B p A ([] : List Nat) c a d h hl)
  obtain ⟨w1, hw1⟩ : ∃ w1, w1 = (w.alloc (.cells #[.int .i8 0, .int .i64 0, .int .i64 0, .int .i64 0, .bool false, .slice none 0 0, .int .i64 0, .int .i64 0, .int .i64 0, .int .i64 0, .int .i64 0, .int .i64 0] 29)).alloc (.cells #[.slice A 0 c, .int .i64 0, .bool false] 76) := ⟨_, rfl⟩
  have hb1 : Below w.heap.size w w1 := by rw [hw1]; exact ((Below.refl w.heap.size w).alloc (Nat.le_refl _) _).alloc (by simp) _
  have hz1 : w1.heap.size = w.heap.size + 2 := by rw [hw1]; simp
  have g0 : w1.heap[w.heap.size]? = some (.cells #[.int .i8 0, .int .i64 0, .int .i64 0, .int .i64 0, .bool false, .slice none 0 0, .int .i64 0, .int .i64 0, .int .i64 0, .int .i64 0, .int .i64 0, .int .i64 0] 29 (0, 0)) := by rw [hw1]; exact heap_alloc2_old w _ _
  have g1 : w1.heap[w.heap.size + 1]? = some (.cells #[.slice A 0 c, .int .i64 0, .bool false] 76 (0, 0)) := by rw [hw1]; exact heap_alloc2_new w _ _
  have HR1 := Lib.hid (show Rd w1 w.heap.size (w.heap.size + 1) A ([] : List Nat) c 0 false from ⟨g1, hA.below hb1 (Nat.le_refl _), by omega, Nat.zero_le _⟩)
  have hl0 : ¬ (0 : Int) < 0 := by simp
  have HG0 := Lib.hid g0
  have HB1 := Lib.hid hb1
  have HZ1 := Lib.hid hz1
  have HW1 := Lib.hid hw1
  clear hw1 hb1 hz1 g0 g1 hA hl
  go_enter Try.func25, Try.ntmps25
  go_wp2_with (rw [← HW1.out])
  refine (byte_end _ _ _ _ _ _ HR1.out).mono ?_
  rintro e w2 ⟨rfl, hr2, hk2⟩
  have hb2 : Below w.heap.size w w2 := HB1.out.trans (hk2.to_below (by have := HZ1.out; omega) (fun k h e => by omega))
  obtain ⟨w3, hw3⟩ : ∃ w3, w3 = w2.alloc (.cells #[.int .i8 0, .int .i64 0, .int .i64 0, .int .i64 0, .bool false, .slice none 0 0, .int .i64 0, .int .i64 0, .int .i64 0, .int .i64 0, .int .i64 0, .int .i64 0] 29) := ⟨_, rfl⟩
  have hb3 : Below w2.heap.size w2 w3 := by rw [hw3]; exact (Below.refl _ w2).alloc (Nat.le_refl _) _
  have hx3 : w3.heap[w2.heap.size]? = some (.cells #[.int .i8 0, .int .i64 0, .int .i64 0, .int .i64 0, .bool false, .slice none 0 0, .int .i64 0, .int .i64 0, .int .i64 0, .int .i64 0, .int .i64 0, .int .i64 0] 29 (0, 0)) := by rw [hw3]; exact heap_alloc_new w2 _
  have HX2 := Lib.hid (show w.heap.size + 2 ≤ w2.heap.size by have := hk2.size; have := HZ1.out; omega)
  have hb3' : Below w.heap.size w w3 := hb2.trans (hb3.mono hb2.size)
  have S3 := Lib.hid (show St7 w w2.heap.size A ([] : List Nat) c w3 #[.int .i8 0, .int .i64 0, .int .i64 0, .int .i64 0, .bool false, .slice none 0 0, .int .i64 0, .int .i64 0, .int .i64 0, .int .i64 0, .int .i64 0, .int .i64 0] 0 true from ⟨hr2.below hb3 (by have := HX2.out; omega), hx3, (hb3.block _ (by have := HX2.out; omega)).trans ((hk2.block _ (by have := HZ1.out; omega) (by omega)).trans HG0.out), hb3'⟩)
  have x0 : w3.cell? ⟨w2.heap.size, 0, none⟩ = some (.int .i8 0) := by rw [cell_of_row w3 _ 0 _ _ _ hx3]; rfl
  have HW3 := Lib.hid hw3
  clear hr2 hk2 hb2 hw3 hb3 hx3 hb3'
  have hand : bits .and .i64 0 127 = 0 := by kernel_rfl
  have hwK : IntKind.i8.wrap 0 = 0 := by kernel_rfl
  go_wp2_with fail
  rw [← HW3.out]
  refine (HNm.out _ _ _ _ _ S3.out.1).mono ?_
  rintro e w4 ⟨nm, a4, d4, rfl, hn, hr, hk, hlk⟩
  have S4 := Lib.hid (S3.out.call hr hk HX2.out)
  obtain rfl := hlk.1 rfl
  obtain ⟨z1, z2, z3⟩ := nm
  simp only [nmv]
  clear hn hr hk hlk
  obtain ⟨w5, hw5⟩ : ∃ w5, w5 = w4.setRow w2.heap.size #[.int .i8 0, .int .i64 z1, .int .i64 z2, .int .i64 z3, .bool false, .slice none 0 0, .int .i64 0, .int .i64 0, .int .i64 0, .int .i64 0, .int .i64 0, .int .i64 0] := ⟨_, rfl⟩
  have S5 := Lib.hid (show St7 w w2.heap.size A ([] : List Nat) c w5 #[.int .i8 0, .int .i64 z1, .int .i64 z2, .int .i64 z3, .bool false, .slice none 0 0, .int .i64 0, .int .i64 0, .int .i64 0, .int .i64 0, .int .i64 0, .int .i64 0] _ _ from by rw [hw5]; exact S4.out.set HX2.out _)
  have HW5 := Lib.hid hw5
  clear hw5
  have y0 : w5.cell? ⟨w2.heap.size, 0, none⟩ = some (.int .i8 0) := by rw [cell_of_row w5 _ 0 _ _ _ S5.out.2.1]; rfl
  have HNo := Lib.hid (show readR [] = none from rfl)
  obtain ⟨p0, p1, p2, pf⟩ := S5.out.1.cells
  clear pf
  go_wp2_with (first
    | (refine wpList_store_part rfl 24 _ _ rfl w2.heap.size 1 rfl [.int .i64 z1, .int .i64 z2, .int .i64 z3] rfl 29 [.int .i8 0] [.int .i64 0, .int .i64 0, .int .i64 0] [.bool false, .slice none 0 0, .int .i64 0, .int .i64 0, .int .i64 0, .int .i64 0, .int .i64 0, .int .i64 0] S4.out.2.1 rfl rfl Try.sizeN (by simp [Value.oneCell']) ?_; change wpList _ _ _ _ _ (w4.setRow w2.heap.size #[.int .i8 0, .int .i64 z1, .int .i64 z2, .int .i64 z3, .bool false, .slice none 0 0, .int .i64 0, .int .i64 0, .int .i64 0, .int .i64 0, .int .i64 0, .int .i64 0]); rw [← HW5.out])
    | (refine wpList_store_row rfl 29 (.tmp 2) _ rfl w.heap.size #[.int .i8 0, .int .i64 0, .int .i64 0, .int .i64 0, .bool false, .slice none 0 0, .int .i64 0, .int .i64 0, .int .i64 0, .int .i64 0, .int .i64 0, .int .i64 0] rfl rfl 29 #[.int .i8 0, .int .i64 0, .int .i64 0, .int .i64 0, .bool false, .slice none 0 0, .int .i64 0, .int .i64 0, .int .i64 0, .int .i64 0, .int .i64 0, .int .i64 0] S5.out.2.2.1 (Try.info12 _ _ _ _ _ _ _ _ _ _ _ _ _ _) (size12 _ _ _ _ _ _ _ _ _ _ _ _ _ _ _ _ _ _ _ _ _ _ _ _ _ _ _ _) (one12 _ _ _ _ _ _ _ _ _ _ _ _ _ _) ?_))
  exact bodyPost_ret (results_cell_tmp (t := 29) (p := 2) (u := 3) rfl _ _ w.heap.size #[.int .i8 0, .int .i64 0, .int .i64 0, .int .i64 0, .bool false, .slice none 0 0, .int .i64 0, .int .i64 0, .int .i64 0, .int .i64 0, .int .i64 0, .int .i64 0] (0, 0) _ rfl (setRow_heap _ _ _ _ _ _ S5.out.2.2.1) Try.underlying29 rfl (Try.info12 _ _ _ _ _ _ _ _ _ _ _ _ _ _)) rfl (ReadTell.no HNo.out (below_setRow S5.out.2.2.2 (Nat.le_refl _) _))
set_option maxHeartbeats 8000000 in
theorem read_9 (k : Nat) (t bs : List Nat) (hbs : bs = k :: t) (hk : 127 < k ∧ k < 256) (A : Option Addr) (c : Nat) (w : World) (hA : By w w.heap.size A bs) (hl : bs.length ≤ 1000000) :
    Calls Try.prog 25 #[.slice A bs.length c] w (ReadTell w bs) := by
  have HB := Lib.hid (fun W B p a d (h : Rd W B p A bs c a d) => byte_any W B p A bs c a d h hl)
  have HT := Lib.hid (fun W B p a d (h : Rd W B p A bs c a d) => rthree_any W B p A bs c a d h hl)
  have HNm := Lib.hid (fun W B p a d (h : Rd W B p A bs c a d) => rname_any W B p A bs c a d h hl)
  have HWr := Lib.hid (fun W B p a d (h : Rd W B p A bs c a d) => rwrites_any W B p A bs c a d h hl)
  have HFl := Lib.hid (fun W B p a d (h : Rd W B p A bs c a d) => rflag_any W B p A bs c a d h hl)
  obtain ⟨w1, hw1⟩ : ∃ w1, w1 = (w.alloc (.cells #[.int .i8 0, .int .i64 0, .int .i64 0, .int .i64 0, .bool false, .slice none 0 0, .int .i64 0, .int .i64 0, .int .i64 0, .int .i64 0, .int .i64 0, .int .i64 0] 29)).alloc (.cells #[.slice A bs.length c, .int .i64 0, .bool false] 76) := ⟨_, rfl⟩
  have hb1 : Below w.heap.size w w1 := by rw [hw1]; exact ((Below.refl w.heap.size w).alloc (Nat.le_refl _) _).alloc (by simp) _
  have hz1 : w1.heap.size = w.heap.size + 2 := by rw [hw1]; simp
  have g0 : w1.heap[w.heap.size]? = some (.cells #[.int .i8 0, .int .i64 0, .int .i64 0, .int .i64 0, .bool false, .slice none 0 0, .int .i64 0, .int .i64 0, .int .i64 0, .int .i64 0, .int .i64 0, .int .i64 0] 29 (0, 0)) := by rw [hw1]; exact heap_alloc2_old w _ _
  have g1 : w1.heap[w.heap.size + 1]? = some (.cells #[.slice A bs.length c, .int .i64 0, .bool false] 76 (0, 0)) := by rw [hw1]; exact heap_alloc2_new w _ _
  have HR1 := Lib.hid (show Rd w1 w.heap.size (w.heap.size + 1) A bs c 0 false from ⟨g1, hA.below hb1 (Nat.le_refl _), by omega, Nat.zero_le _⟩)
  obtain ⟨b, off, rfl, hbw, hcl⟩ := hA.at_ (by rw [hbs]; simp)
  have HC := Lib.hid (show ∀ X, Below w.heap.size w X → X.cell? ⟨b, off, none⟩ = some (.int .u8 (k : Int)) from fun X hX => by
    have h := (hX.cell (p := ⟨b, off + 0, none⟩) hbw).trans (hcl 0 (by rw [hbs]; simp))
    rw [hbs] at h
    exact h)
  have hl0 : (0 : Int) < (bs.length : Int) := by rw [hbs]; simp
  have hl0' : 0 < bs.length := by rw [hbs]; simp
  have HG0 := Lib.hid g0
  have HB1 := Lib.hid hb1
  have HZ1 := Lib.hid hz1
  have HW1 := Lib.hid hw1
  have HBs := Lib.hid hbs
  clear hw1 hb1 hz1 g0 g1 hA hcl hbw hl hbs
  go_enter Try.func25, Try.ntmps25
  go_wp2_with (rw [← HW1.out])
  refine (HB.out _ _ _ _ _ HR1.out).mono ?_
  rintro e w2 ⟨x, a1, d1, rfl, hx, hr2, hk2, hl2⟩
  obtain ⟨rfl, rfl, HT1⟩ : x = (k : Int) ∧ d1 = false ∧ Hid (bs.drop a1 = t) := by
    rcases hl2.2 rfl with ⟨q, h1, h2, h3⟩ | ⟨h1, _⟩
    · rw [List.drop_zero, HBs.out] at h1
      simp only [rdOne, Option.some.injEq, Prod.mk.injEq] at h1
      exact ⟨h1.1.symm, h2, Lib.hid (by rw [← h3, ← h1.2])⟩
    · rw [List.drop_zero, HBs.out] at h1
      cases h1
  have hb2 : Below w.heap.size w w2 := HB1.out.trans (hk2.to_below (by have := HZ1.out; omega) (fun k h e => by omega))
  obtain ⟨w3, hw3⟩ : ∃ w3, w3 = w2.alloc (.cells #[.int .i8 ((k % 128 : Nat) : Int), .int .i64 0, .int .i64 0, .int .i64 0, .bool false, .slice none 0 0, .int .i64 0, .int .i64 0, .int .i64 0, .int .i64 0, .int .i64 0, .int .i64 0] 29) := ⟨_, rfl⟩
  have hb3 : Below w2.heap.size w2 w3 := by rw [hw3]; exact (Below.refl _ w2).alloc (Nat.le_refl _) _
  have hx3 : w3.heap[w2.heap.size]? = some (.cells #[.int .i8 ((k % 128 : Nat) : Int), .int .i64 0, .int .i64 0, .int .i64 0, .bool false, .slice none 0 0, .int .i64 0, .int .i64 0, .int .i64 0, .int .i64 0, .int .i64 0, .int .i64 0] 29 (0, 0)) := by rw [hw3]; exact heap_alloc_new w2 _
  have HX2 := Lib.hid (show w.heap.size + 2 ≤ w2.heap.size by have := hk2.size; have := HZ1.out; omega)
  have hb3' : Below w.heap.size w w3 := hb2.trans (hb3.mono hb2.size)
  have S3 := Lib.hid (show St7 w w2.heap.size (some ⟨b, off, none⟩) bs c w3 #[.int .i8 ((k % 128 : Nat) : Int), .int .i64 0, .int .i64 0, .int .i64 0, .bool false, .slice none 0 0, .int .i64 0, .int .i64 0, .int .i64 0, .int .i64 0, .int .i64 0, .int .i64 0] a1 false from ⟨hr2.below hb3 (by have := HX2.out; omega), hx3, (hb3.block _ (by have := HX2.out; omega)).trans ((hk2.block _ (by have := HZ1.out; omega) (by omega)).trans HG0.out), hb3'⟩)
  have hc3 := HC.out w3 hb3'
  have x0 : w3.cell? ⟨w2.heap.size, 0, none⟩ = some (.int .i8 ((k % 128 : Nat) : Int)) := by rw [cell_of_row w3 _ 0 _ _ _ hx3]; rfl
  have HW3 := Lib.hid hw3
  clear hr2 hk2 hl2 hx hb2 hw3 hb3 hx3 hb3'
  have hand := and127 hk.2
  have hwK : IntKind.i8.wrap ((k % 128 : Nat) : Int) = ((k % 128 : Nat) : Int) := i8_low (by omega)
  have n8 : (127 : Int) < (k : Int) := by omega
  have HNo := Lib.hid (show readR bs = none from by rw [HBs.out, readR_other (by omega)])
  clear hk
  generalize k % 128 = K at *
  go_wp2_with (first
    | (rw [← HW3.out])
    | (refine wpList_store_row rfl 29 (.tmp 2) _ rfl w.heap.size #[.int .i8 0, .int .i64 0, .int .i64 0, .int .i64 0, .bool false, .slice none 0 0, .int .i64 0, .int .i64 0, .int .i64 0, .int .i64 0, .int .i64 0, .int .i64 0] rfl rfl 29 #[.int .i8 0, .int .i64 0, .int .i64 0, .int .i64 0, .bool false, .slice none 0 0, .int .i64 0, .int .i64 0, .int .i64 0, .int .i64 0, .int .i64 0, .int .i64 0] S3.out.2.2.1 (Try.info12 _ _ _ _ _ _ _ _ _ _ _ _ _ _) (size12 _ _ _ _ _ _ _ _ _ _ _ _ _ _ _ _ _ _ _ _ _ _ _ _ _ _ _ _) (one12 _ _ _ _ _ _ _ _ _ _ _ _ _ _) ?_))
  exact bodyPost_ret (results_cell_tmp (t := 29) (p := 2) (u := 3) rfl _ _ w.heap.size #[.int .i8 0, .int .i64 0, .int .i64 0, .int .i64 0, .bool false, .slice none 0 0, .int .i64 0, .int .i64 0, .int .i64 0, .int .i64 0, .int .i64 0, .int .i64 0] (0, 0) _ rfl (setRow_heap _ _ _ _ _ _ S3.out.2.2.1) Try.underlying29 rfl (Try.info12 _ _ _ _ _ _ _ _ _ _ _ _ _ _)) rfl (ReadTell.no HNo.out (below_setRow S3.out.2.2.2 (Nat.le_refl _) _))
set_option maxHeartbeats 8000000 in
theorem read_5 (t bs : List Nat) (hbs : bs = 5 :: t) (A : Option Addr) (c : Nat) (w : World) (hA : By w w.heap.size A bs) (hl : bs.length ≤ 1000000) :
    Calls Try.prog 25 #[.slice A bs.length c] w (ReadTell w bs) := by
  have HB := Lib.hid (fun W B p a d (h : Rd W B p A bs c a d) => byte_any W B p A bs c a d h hl)
  have HT := Lib.hid (fun W B p a d (h : Rd W B p A bs c a d) => rthree_any W B p A bs c a d h hl)
  have HNm := Lib.hid (fun W B p a d (h : Rd W B p A bs c a d) => rname_any W B p A bs c a d h hl)
  have HWr := Lib.hid (fun W B p a d (h : Rd W B p A bs c a d) => rwrites_any W B p A bs c a d h hl)
  have HFl := Lib.hid (fun W B p a d (h : Rd W B p A bs c a d) => rflag_any W B p A bs c a d h hl)
  obtain ⟨w1, hw1⟩ : ∃ w1, w1 = (w.alloc (.cells #[.int .i8 0, .int .i64 0, .int .i64 0, .int .i64 0, .bool false, .slice none 0 0, .int .i64 0, .int .i64 0, .int .i64 0, .int .i64 0, .int .i64 0, .int .i64 0] 29)).alloc (.cells #[.slice A bs.length c, .int .i64 0, .bool false] 76) := ⟨_, rfl⟩
  have hb1 : Below w.heap.size w w1 := by rw [hw1]; exact ((Below.refl w.heap.size w).alloc (Nat.le_refl _) _).alloc (by simp) _
  have hz1 : w1.heap.size = w.heap.size + 2 := by rw [hw1]; simp
  have g0 : w1.heap[w.heap.size]? = some (.cells #[.int .i8 0, .int .i64 0, .int .i64 0, .int .i64 0, .bool false, .slice none 0 0, .int .i64 0, .int .i64 0, .int .i64 0, .int .i64 0, .int .i64 0, .int .i64 0] 29 (0, 0)) := by rw [hw1]; exact heap_alloc2_old w _ _
  have g1 : w1.heap[w.heap.size + 1]? = some (.cells #[.slice A bs.length c, .int .i64 0, .bool false] 76 (0, 0)) := by rw [hw1]; exact heap_alloc2_new w _ _
  have HR1 := Lib.hid (show Rd w1 w.heap.size (w.heap.size + 1) A bs c 0 false from ⟨g1, hA.below hb1 (Nat.le_refl _), by omega, Nat.zero_le _⟩)
  obtain ⟨b, off, rfl, hbw, hcl⟩ := hA.at_ (by rw [hbs]; simp)
  have HC := Lib.hid (show ∀ X, Below w.heap.size w X → X.cell? ⟨b, off, none⟩ = some (.int .u8 5) from fun X hX => by
    have h := (hX.cell (p := ⟨b, off + 0, none⟩) hbw).trans (hcl 0 (by rw [hbs]; simp))
    rw [hbs] at h
    exact h)
  have hl0 : (0 : Int) < (bs.length : Int) := by rw [hbs]; simp
  have hl0' : 0 < bs.length := by rw [hbs]; simp
  have HG0 := Lib.hid g0
  have HB1 := Lib.hid hb1
  have HZ1 := Lib.hid hz1
  have HW1 := Lib.hid hw1
  have HBs := Lib.hid hbs
  clear hw1 hb1 hz1 g0 g1 hA hcl hbw hl hbs
  go_enter Try.func25, Try.ntmps25
  go_wp2_with (rw [← HW1.out])
  refine (HB.out _ _ _ _ _ HR1.out).mono ?_
  rintro e w2 ⟨x, a1, d1, rfl, hx, hr2, hk2, hl2⟩
  obtain ⟨rfl, rfl, HT1⟩ : x = 5 ∧ d1 = false ∧ Hid (bs.drop a1 = t) := by
    rcases hl2.2 rfl with ⟨q, h1, h2, h3⟩ | ⟨h1, _⟩
    · rw [List.drop_zero, HBs.out] at h1
      simp only [rdOne, Option.some.injEq, Prod.mk.injEq] at h1
      exact ⟨h1.1.symm, h2, Lib.hid (by rw [← h3, ← h1.2])⟩
    · rw [List.drop_zero, HBs.out] at h1
      cases h1
  have hb2 : Below w.heap.size w w2 := HB1.out.trans (hk2.to_below (by have := HZ1.out; omega) (fun k h e => by omega))
  obtain ⟨w3, hw3⟩ : ∃ w3, w3 = w2.alloc (.cells #[.int .i8 5, .int .i64 0, .int .i64 0, .int .i64 0, .bool false, .slice none 0 0, .int .i64 0, .int .i64 0, .int .i64 0, .int .i64 0, .int .i64 0, .int .i64 0] 29) := ⟨_, rfl⟩
  have hb3 : Below w2.heap.size w2 w3 := by rw [hw3]; exact (Below.refl _ w2).alloc (Nat.le_refl _) _
  have hx3 : w3.heap[w2.heap.size]? = some (.cells #[.int .i8 5, .int .i64 0, .int .i64 0, .int .i64 0, .bool false, .slice none 0 0, .int .i64 0, .int .i64 0, .int .i64 0, .int .i64 0, .int .i64 0, .int .i64 0] 29 (0, 0)) := by rw [hw3]; exact heap_alloc_new w2 _
  have HX2 := Lib.hid (show w.heap.size + 2 ≤ w2.heap.size by have := hk2.size; have := HZ1.out; omega)
  have hb3' : Below w.heap.size w w3 := hb2.trans (hb3.mono hb2.size)
  have S3 := Lib.hid (show St7 w w2.heap.size (some ⟨b, off, none⟩) bs c w3 #[.int .i8 5, .int .i64 0, .int .i64 0, .int .i64 0, .bool false, .slice none 0 0, .int .i64 0, .int .i64 0, .int .i64 0, .int .i64 0, .int .i64 0, .int .i64 0] a1 false from ⟨hr2.below hb3 (by have := HX2.out; omega), hx3, (hb3.block _ (by have := HX2.out; omega)).trans ((hk2.block _ (by have := HZ1.out; omega) (by omega)).trans HG0.out), hb3'⟩)
  have hc3 := HC.out w3 hb3'
  have x0 : w3.cell? ⟨w2.heap.size, 0, none⟩ = some (.int .i8 5) := by rw [cell_of_row w3 _ 0 _ _ _ hx3]; rfl
  have HW3 := Lib.hid hw3
  clear hr2 hk2 hl2 hx hb2 hw3 hb3 hx3 hb3'
  have hand : bits .and .i64 5 127 = 5 := by kernel_rfl
  have hwK : IntKind.i8.wrap 5 = 5 := by kernel_rfl
  go_wp2_with (first
    | (rw [← HW3.out]))
  refine (HNm.out _ _ _ _ _ S3.out.1).mono ?_
  rintro e w4 ⟨nm, b4, e4, rfl, hn, hr, hk, hlk⟩
  have S4 := Lib.hid (S3.out.call hr hk HX2.out)
  have L4 := Lib.hid hlk
  obtain ⟨z1, z2, z3⟩ := nm
  simp only [nmv]
  clear hn
  clear hr hk hlk
  obtain ⟨w5, hw5⟩ : ∃ w5, w5 = w4.setRow w2.heap.size #[.int .i8 5, .int .i64 z1, .int .i64 z2, .int .i64 z3, .bool false, .slice none 0 0, .int .i64 0, .int .i64 0, .int .i64 0, .int .i64 0, .int .i64 0, .int .i64 0] := ⟨_, rfl⟩
  have S5 := Lib.hid (show St7 w w2.heap.size (some ⟨b, off, none⟩) bs c w5 #[.int .i8 5, .int .i64 z1, .int .i64 z2, .int .i64 z3, .bool false, .slice none 0 0, .int .i64 0, .int .i64 0, .int .i64 0, .int .i64 0, .int .i64 0, .int .i64 0] _ _ from by rw [hw5]; exact S4.out.set HX2.out _)
  have HW5 := Lib.hid hw5
  clear hw5
  have y0 : w5.cell? ⟨w2.heap.size, 0, none⟩ = some (.int .i8 5) := by rw [cell_of_row w5 _ 0 _ _ _ S5.out.2.1]; rfl
  have hcn := HC.out w5 S5.out.2.2.2
  have VT := Lib.hid (show WrsV w5 (fun b => w2.heap.size < b) none 0 ([] : List (Int × List Nat)) from WrsV.nil_)
  have HRL := Lib.hid (show readR bs = if e4 = false ∧ b4 = bs.length ∧ mayR ({ zRc with kind := 5, name := ⟨z1, z2, z3⟩ } : Rc) = true then some ({ zRc with kind := 5, name := ⟨z1, z2, z3⟩ } : Rc) else none from by
    refine read_link ?_ S5.out.1.at_
    rw [show rdRest bs = _ from by rw [HBs.out, rdRest_5]]
    have h := L4.out.bind (g := fun nm q => some (({ zRc with kind := 5, name := nm } : Rc), q)) (Lnk.pure _)
    rw [HT1.out] at h
    exact h)
  have HFs := Lib.hid (show WrFine ([] : List (Int × List Nat)) from fun _ h => absurd h (by simp))
  have HLn := Lib.hid (show ([] : List (Int × List Nat)).length ≤ 1000000 from by simp)
  have HSh := Lib.hid (show I64 0 from by unfold I64; omega)
  cases e4 with
  | true =>
    have HNo := Lib.hid (show readR bs = none from by rw [HRL.out, if_neg (by simp)])
    obtain ⟨p0, p1, p2, pf⟩ := S5.out.1.cells
    clear pf
    go_wp2_with (first
      | (refine wpList_store_part rfl 24 _ _ rfl w2.heap.size 1 rfl [.int .i64 z1, .int .i64 z2, .int .i64 z3] rfl 29 [.int .i8 5] [.int .i64 0, .int .i64 0, .int .i64 0] [.bool false, .slice none 0 0, .int .i64 0, .int .i64 0, .int .i64 0, .int .i64 0, .int .i64 0, .int .i64 0] S4.out.2.1 rfl rfl Try.sizeN (by simp [Value.oneCell']) ?_; change wpList _ _ _ _ _ (w4.setRow w2.heap.size #[.int .i8 5, .int .i64 z1, .int .i64 z2, .int .i64 z3, .bool false, .slice none 0 0, .int .i64 0, .int .i64 0, .int .i64 0, .int .i64 0, .int .i64 0, .int .i64 0]); rw [← HW5.out])
      | (refine wpList_store_row rfl 29 (.tmp 2) _ rfl w.heap.size #[.int .i8 0, .int .i64 0, .int .i64 0, .int .i64 0, .bool false, .slice none 0 0, .int .i64 0, .int .i64 0, .int .i64 0, .int .i64 0, .int .i64 0, .int .i64 0] rfl rfl 29 #[.int .i8 0, .int .i64 0, .int .i64 0, .int .i64 0, .bool false, .slice none 0 0, .int .i64 0, .int .i64 0, .int .i64 0, .int .i64 0, .int .i64 0, .int .i64 0] S5.out.2.2.1 (Try.info12 _ _ _ _ _ _ _ _ _ _ _ _ _ _) (size12 _ _ _ _ _ _ _ _ _ _ _ _ _ _ _ _ _ _ _ _ _ _ _ _ _ _ _ _) (one12 _ _ _ _ _ _ _ _ _ _ _ _ _ _) ?_))
    exact bodyPost_ret (results_cell_tmp (t := 29) (p := 2) (u := 3) rfl _ _ w.heap.size #[.int .i8 0, .int .i64 0, .int .i64 0, .int .i64 0, .bool false, .slice none 0 0, .int .i64 0, .int .i64 0, .int .i64 0, .int .i64 0, .int .i64 0, .int .i64 0] (0, 0) _ rfl (setRow_heap _ _ _ _ _ _ S5.out.2.2.1) Try.underlying29 rfl (Try.info12 _ _ _ _ _ _ _ _ _ _ _ _ _ _)) rfl (ReadTell.no HNo.out (below_setRow S5.out.2.2.2 (Nat.le_refl _) _))
  | false =>
    by_cases hat : b4 = bs.length
    · have HMay := Lib.hid (may_any ({ zRc with kind := 5, name := ⟨z1, z2, z3⟩ } : Rc) none 0 w5 (fun b => w2.heap.size < b) VT.out.at_ HFs.out HLn.out HSh.out)
      have HRL2 := HRL.out
      obtain ⟨mb, hmb⟩ : ∃ mb, mb = mayR ({ zRc with kind := 5, name := ⟨z1, z2, z3⟩ } : Rc) := ⟨_, rfl⟩
      rw [← hmb] at HMay HRL2
      have HRM := Lib.hid HRL2
      have hati : (b4 : Int) = (bs.length : Int) := by omega
      have qq := row_lit (cs := (#[.int .i8 5, .int .i64 z1, .int .i64 z2, .int .i64 z3, .bool false, .slice none 0 0, .int .i64 0, .int .i64 0, .int .i64 0, .int .i64 0, .int .i64 0, .int .i64 0] : Array Value).toList) S5.out.2.1
      have q0 := qq 0 _ rfl
      have q1 := qq 1 _ rfl
      have q2 := qq 2 _ rfl
      have q3 := qq 3 _ rfl
      have q4 := qq 4 _ rfl
      have q5 := qq 5 _ rfl
      have q6 := qq 6 _ rfl
      have q7 := qq 7 _ rfl
      have q8 := qq 8 _ rfl
      have q9 := qq 9 _ rfl
      have q10 := qq 10 _ rfl
      have q11 := qq 11 _ rfl
      clear qq hmb HRL2
      obtain ⟨p0, p1, p2, pf⟩ := S5.out.1.cells
      clear pf
      go_wp2_with (first
        | (refine wpList_store_part rfl 24 _ _ rfl w2.heap.size 1 rfl [.int .i64 z1, .int .i64 z2, .int .i64 z3] rfl 29 [.int .i8 5] [.int .i64 0, .int .i64 0, .int .i64 0] [.bool false, .slice none 0 0, .int .i64 0, .int .i64 0, .int .i64 0, .int .i64 0, .int .i64 0, .int .i64 0] S4.out.2.1 rfl rfl Try.sizeN (by simp [Value.oneCell']) ?_; change wpList _ _ _ _ _ (w4.setRow w2.heap.size #[.int .i8 5, .int .i64 z1, .int .i64 z2, .int .i64 z3, .bool false, .slice none 0 0, .int .i64 0, .int .i64 0, .int .i64 0, .int .i64 0, .int .i64 0, .int .i64 0]); rw [← HW5.out]))
      refine HMay.out.mono ?_
      rintro e wm ⟨rfl, hb6⟩
      have SM := Lib.hid (S5.out.below hb6)
      have HWm := Lib.hid (VT.out.below hb6)
      have HXm := Lib.hid (S5.out.2.1)
      clear q0 q1 q2 q3 q4 q5 q6 q7 q8 q9 q10 q11
      clear p0 p1 p2 hb6
      cases mb with
      | false =>
        have HNo := Lib.hid (show readR bs = none from by rw [HRM.out, if_neg (by simp)])
        go_wp2_with (first
          | fail
          | (refine wpList_store_row rfl 29 (.tmp 2) _ rfl w.heap.size #[.int .i8 0, .int .i64 0, .int .i64 0, .int .i64 0, .bool false, .slice none 0 0, .int .i64 0, .int .i64 0, .int .i64 0, .int .i64 0, .int .i64 0, .int .i64 0] rfl rfl 29 #[.int .i8 0, .int .i64 0, .int .i64 0, .int .i64 0, .bool false, .slice none 0 0, .int .i64 0, .int .i64 0, .int .i64 0, .int .i64 0, .int .i64 0, .int .i64 0] SM.out.2.2.1 (Try.info12 _ _ _ _ _ _ _ _ _ _ _ _ _ _) (size12 _ _ _ _ _ _ _ _ _ _ _ _ _ _ _ _ _ _ _ _ _ _ _ _ _ _ _ _) (one12 _ _ _ _ _ _ _ _ _ _ _ _ _ _) ?_))
        exact bodyPost_ret (results_cell_tmp (t := 29) (p := 2) (u := 3) rfl _ _ w.heap.size #[.int .i8 0, .int .i64 0, .int .i64 0, .int .i64 0, .bool false, .slice none 0 0, .int .i64 0, .int .i64 0, .int .i64 0, .int .i64 0, .int .i64 0, .int .i64 0] (0, 0) _ rfl (setRow_heap _ _ _ _ _ _ SM.out.2.2.1) Try.underlying29 rfl (Try.info12 _ _ _ _ _ _ _ _ _ _ _ _ _ _)) rfl (ReadTell.no HNo.out (below_setRow SM.out.2.2.2 (Nat.le_refl _) _))
      | true =>
        have HYes := Lib.hid (show readR bs = some ({ zRc with kind := 5, name := ⟨z1, z2, z3⟩ } : Rc) from by rw [HRM.out, if_pos (by simp [hat])])
        go_wp2_with (first
          | (refine wpList_load_part rfl 29 _ rfl w2.heap.size 0 rfl (#[.int .i8 5, .int .i64 z1, .int .i64 z2, .int .i64 z3, .bool false, .slice none 0 0, .int .i64 0, .int .i64 0, .int .i64 0, .int .i64 0, .int .i64 0, .int .i64 0] : Array Value).toList _ (row_lit SM.out.2.1) Try.underlying29 rfl Try.sizeR ?_)
          | (refine wpList_store_row rfl 29 (.tmp 2) _ rfl w.heap.size #[.int .i8 5, .int .i64 z1, .int .i64 z2, .int .i64 z3, .bool false, .slice none 0 0, .int .i64 0, .int .i64 0, .int .i64 0, .int .i64 0, .int .i64 0, .int .i64 0] rfl rfl 29 #[.int .i8 0, .int .i64 0, .int .i64 0, .int .i64 0, .bool false, .slice none 0 0, .int .i64 0, .int .i64 0, .int .i64 0, .int .i64 0, .int .i64 0, .int .i64 0] SM.out.2.2.1 (Try.info12 _ _ _ _ _ _ _ _ _ _ _ _ _ _) (size12 _ _ _ _ _ _ _ _ _ _ _ _ _ _ _ _ _ _ _ _ _ _ _ _ _ _ _ _) (one12 _ _ _ _ _ _ _ _ _ _ _ _ _ _) ?_))
        exact bodyPost_ret (results_cell_tmp (t := 29) (p := 2) (u := 3) rfl _ _ w.heap.size #[.int .i8 5, .int .i64 z1, .int .i64 z2, .int .i64 z3, .bool false, .slice none 0 0, .int .i64 0, .int .i64 0, .int .i64 0, .int .i64 0, .int .i64 0, .int .i64 0] (0, 0) _ rfl (setRow_heap _ _ _ _ _ _ SM.out.2.2.1) Try.underlying29 rfl (Try.info12 _ _ _ _ _ _ _ _ _ _ _ _ _ _)) rfl (ReadTell.yes (r := ({ zRc with kind := 5, name := ⟨z1, z2, z3⟩ } : Rc)) HYes.out (HWm.out.out (fun b hb => setRow_other _ _ _ _ (by have := HX2.out; omega)) (by simp) (by have := HX2.out; omega)) HFs.out (below_setRow SM.out.2.2.2 (Nat.le_refl _) _))
    · have hati : ¬ (b4 : Int) = (bs.length : Int) := by omega
      have HNo := Lib.hid (show readR bs = none from by rw [HRL.out, if_neg (fun h => hat h.2.1)])
      obtain ⟨p0, p1, p2, pf⟩ := S5.out.1.cells
      clear pf
      go_wp2_with (first
        | (refine wpList_store_part rfl 24 _ _ rfl w2.heap.size 1 rfl [.int .i64 z1, .int .i64 z2, .int .i64 z3] rfl 29 [.int .i8 5] [.int .i64 0, .int .i64 0, .int .i64 0] [.bool false, .slice none 0 0, .int .i64 0, .int .i64 0, .int .i64 0, .int .i64 0, .int .i64 0, .int .i64 0] S4.out.2.1 rfl rfl Try.sizeN (by simp [Value.oneCell']) ?_; change wpList _ _ _ _ _ (w4.setRow w2.heap.size #[.int .i8 5, .int .i64 z1, .int .i64 z2, .int .i64 z3, .bool false, .slice none 0 0, .int .i64 0, .int .i64 0, .int .i64 0, .int .i64 0, .int .i64 0, .int .i64 0]); rw [← HW5.out])
        | (refine wpList_store_row rfl 29 (.tmp 2) _ rfl w.heap.size #[.int .i8 0, .int .i64 0, .int .i64 0, .int .i64 0, .bool false, .slice none 0 0, .int .i64 0, .int .i64 0, .int .i64 0, .int .i64 0, .int .i64 0, .int .i64 0] rfl rfl 29 #[.int .i8 0, .int .i64 0, .int .i64 0, .int .i64 0, .bool false, .slice none 0 0, .int .i64 0, .int .i64 0, .int .i64 0, .int .i64 0, .int .i64 0, .int .i64 0] S5.out.2.2.1 (Try.info12 _ _ _ _ _ _ _ _ _ _ _ _ _ _) (size12 _ _ _ _ _ _ _ _ _ _ _ _ _ _ _ _ _ _ _ _ _ _ _ _ _ _ _ _) (one12 _ _ _ _ _ _ _ _ _ _ _ _ _ _) ?_))
      exact bodyPost_ret (results_cell_tmp (t := 29) (p := 2) (u := 3) rfl _ _ w.heap.size #[.int .i8 0, .int .i64 0, .int .i64 0, .int .i64 0, .bool false, .slice none 0 0, .int .i64 0, .int .i64 0, .int .i64 0, .int .i64 0, .int .i64 0, .int .i64 0] (0, 0) _ rfl (setRow_heap _ _ _ _ _ _ S5.out.2.2.1) Try.underlying29 rfl (Try.info12 _ _ _ _ _ _ _ _ _ _ _ _ _ _)) rfl (ReadTell.no HNo.out (below_setRow S5.out.2.2.2 (Nat.le_refl _) _))
set_option maxHeartbeats 8000000 in
theorem read_6 (t bs : List Nat) (hbs : bs = 6 :: t) (A : Option Addr) (c : Nat) (w : World) (hA : By w w.heap.size A bs) (hl : bs.length ≤ 1000000) :
    Calls Try.prog 25 #[.slice A bs.length c] w (ReadTell w bs) := by
  have HB := Lib.hid (fun W B p a d (h : Rd W B p A bs c a d) => byte_any W B p A bs c a d h hl)
  have HT := Lib.hid (fun W B p a d (h : Rd W B p A bs c a d) => rthree_any W B p A bs c a d h hl)
  have HNm := Lib.hid (fun W B p a d (h : Rd W B p A bs c a d) => rname_any W B p A bs c a d h hl)
  have HWr := Lib.hid (fun W B p a d (h : Rd W B p A bs c a d) => rwrites_any W B p A bs c a d h hl)
  have HFl := Lib.hid (fun W B p a d (h : Rd W B p A bs c a d) => rflag_any W B p A bs c a d h hl)
  obtain ⟨w1, hw1⟩ : ∃ w1, w1 = (w.alloc (.cells #[.int .i8 0, .int .i64 0, .int .i64 0, .int .i64 0, .bool false, .slice none 0 0, .int .i64 0, .int .i64 0, .int .i64 0, .int .i64 0, .int .i64 0, .int .i64 0] 29)).alloc (.cells #[.slice A bs.length c, .int .i64 0, .bool false] 76) := ⟨_, rfl⟩
  have hb1 : Below w.heap.size w w1 := by rw [hw1]; exact ((Below.refl w.heap.size w).alloc (Nat.le_refl _) _).alloc (by simp) _
  have hz1 : w1.heap.size = w.heap.size + 2 := by rw [hw1]; simp
  have g0 : w1.heap[w.heap.size]? = some (.cells #[.int .i8 0, .int .i64 0, .int .i64 0, .int .i64 0, .bool false, .slice none 0 0, .int .i64 0, .int .i64 0, .int .i64 0, .int .i64 0, .int .i64 0, .int .i64 0] 29 (0, 0)) := by rw [hw1]; exact heap_alloc2_old w _ _
  have g1 : w1.heap[w.heap.size + 1]? = some (.cells #[.slice A bs.length c, .int .i64 0, .bool false] 76 (0, 0)) := by rw [hw1]; exact heap_alloc2_new w _ _
  have HR1 := Lib.hid (show Rd w1 w.heap.size (w.heap.size + 1) A bs c 0 false from ⟨g1, hA.below hb1 (Nat.le_refl _), by omega, Nat.zero_le _⟩)
  obtain ⟨b, off, rfl, hbw, hcl⟩ := hA.at_ (by rw [hbs]; simp)
  have HC := Lib.hid (show ∀ X, Below w.heap.size w X → X.cell? ⟨b, off, none⟩ = some (.int .u8 6) from fun X hX => by
    have h := (hX.cell (p := ⟨b, off + 0, none⟩) hbw).trans (hcl 0 (by rw [hbs]; simp))
    rw [hbs] at h
    exact h)
  have hl0 : (0 : Int) < (bs.length : Int) := by rw [hbs]; simp
  have hl0' : 0 < bs.length := by rw [hbs]; simp
  have HG0 := Lib.hid g0
  have HB1 := Lib.hid hb1
  have HZ1 := Lib.hid hz1
  have HW1 := Lib.hid hw1
  have HBs := Lib.hid hbs
  clear hw1 hb1 hz1 g0 g1 hA hcl hbw hl hbs
  go_enter Try.func25, Try.ntmps25
  go_wp2_with (rw [← HW1.out])
  refine (HB.out _ _ _ _ _ HR1.out).mono ?_
  rintro e w2 ⟨x, a1, d1, rfl, hx, hr2, hk2, hl2⟩
  obtain ⟨rfl, rfl, HT1⟩ : x = 6 ∧ d1 = false ∧ Hid (bs.drop a1 = t) := by
    rcases hl2.2 rfl with ⟨q, h1, h2, h3⟩ | ⟨h1, _⟩
    · rw [List.drop_zero, HBs.out] at h1
      simp only [rdOne, Option.some.injEq, Prod.mk.injEq] at h1
      exact ⟨h1.1.symm, h2, Lib.hid (by rw [← h3, ← h1.2])⟩
    · rw [List.drop_zero, HBs.out] at h1
      cases h1
  have hb2 : Below w.heap.size w w2 := HB1.out.trans (hk2.to_below (by have := HZ1.out; omega) (fun k h e => by omega))
  obtain ⟨w3, hw3⟩ : ∃ w3, w3 = w2.alloc (.cells #[.int .i8 6, .int .i64 0, .int .i64 0, .int .i64 0, .bool false, .slice none 0 0, .int .i64 0, .int .i64 0, .int .i64 0, .int .i64 0, .int .i64 0, .int .i64 0] 29) := ⟨_, rfl⟩
  have hb3 : Below w2.heap.size w2 w3 := by rw [hw3]; exact (Below.refl _ w2).alloc (Nat.le_refl _) _
  have hx3 : w3.heap[w2.heap.size]? = some (.cells #[.int .i8 6, .int .i64 0, .int .i64 0, .int .i64 0, .bool false, .slice none 0 0, .int .i64 0, .int .i64 0, .int .i64 0, .int .i64 0, .int .i64 0, .int .i64 0] 29 (0, 0)) := by rw [hw3]; exact heap_alloc_new w2 _
  have HX2 := Lib.hid (show w.heap.size + 2 ≤ w2.heap.size by have := hk2.size; have := HZ1.out; omega)
  have hb3' : Below w.heap.size w w3 := hb2.trans (hb3.mono hb2.size)
  have S3 := Lib.hid (show St7 w w2.heap.size (some ⟨b, off, none⟩) bs c w3 #[.int .i8 6, .int .i64 0, .int .i64 0, .int .i64 0, .bool false, .slice none 0 0, .int .i64 0, .int .i64 0, .int .i64 0, .int .i64 0, .int .i64 0, .int .i64 0] a1 false from ⟨hr2.below hb3 (by have := HX2.out; omega), hx3, (hb3.block _ (by have := HX2.out; omega)).trans ((hk2.block _ (by have := HZ1.out; omega) (by omega)).trans HG0.out), hb3'⟩)
  have hc3 := HC.out w3 hb3'
  have x0 : w3.cell? ⟨w2.heap.size, 0, none⟩ = some (.int .i8 6) := by rw [cell_of_row w3 _ 0 _ _ _ hx3]; rfl
  have HW3 := Lib.hid hw3
  clear hr2 hk2 hl2 hx hb2 hw3 hb3 hx3 hb3'
  have hand : bits .and .i64 6 127 = 6 := by kernel_rfl
  have hwK : IntKind.i8.wrap 6 = 6 := by kernel_rfl
  go_wp2_with (first
    | (rw [← HW3.out]))
  refine (HT.out _ _ _ _ _ S3.out.1).mono ?_
  rintro e w4 ⟨n, b4, e4, rfl, hn, hr, hk, hlk⟩
  have S4 := Lib.hid (S3.out.call hr hk HX2.out)
  have L4 := Lib.hid hlk
  clear hn
  clear hr hk hlk
  obtain ⟨w5, hw5⟩ : ∃ w5, w5 = w4.setRow w2.heap.size #[.int .i8 6, .int .i64 0, .int .i64 0, .int .i64 0, .bool false, .slice none 0 0, .int .i64 0, .int .i64 0, .int .i64 0, .int .i64 0, .int .i64 0, .int .i64 n] := ⟨_, rfl⟩
  have S5 := Lib.hid (show St7 w w2.heap.size (some ⟨b, off, none⟩) bs c w5 #[.int .i8 6, .int .i64 0, .int .i64 0, .int .i64 0, .bool false, .slice none 0 0, .int .i64 0, .int .i64 0, .int .i64 0, .int .i64 0, .int .i64 0, .int .i64 n] _ _ from by rw [hw5]; exact S4.out.set HX2.out _)
  have HW5 := Lib.hid hw5
  clear hw5
  have VT := Lib.hid (show WrsV w5 (fun b => w2.heap.size < b) none 0 ([] : List (Int × List Nat)) from WrsV.nil_)
  have HRL := Lib.hid (show readR bs = if e4 = false ∧ b4 = bs.length ∧ mayR ({ zRc with kind := 6, n := n } : Rc) = true then some ({ zRc with kind := 6, n := n } : Rc) else none from by
    refine read_link ?_ S5.out.1.at_
    rw [show rdRest bs = _ from by rw [HBs.out, rdRest_n (by simp)]]
    have h := L4.out.bind (g := fun n q => some (({ zRc with kind := 6, n := n } : Rc), q)) (Lnk.pure _)
    rw [HT1.out] at h
    exact h)
  have HFs := Lib.hid (show WrFine ([] : List (Int × List Nat)) from fun _ h => absurd h (by simp))
  have HLn := Lib.hid (show ([] : List (Int × List Nat)).length ≤ 1000000 from by simp)
  have HSh := Lib.hid (show I64 0 from by unfold I64; omega)
  cases e4 with
  | true =>
    have HNo := Lib.hid (show readR bs = none from by rw [HRL.out, if_neg (by simp)])
    obtain ⟨p0, p1, p2, pf⟩ := S5.out.1.cells
    clear pf
    go_wp2_with (first
      | (refine wpList_store_one rfl 3 _ _ rfl w2.heap.size 11 rfl (.int .i64 n) rfl 29 [.int .i8 6, .int .i64 0, .int .i64 0, .int .i64 0, .bool false, .slice none 0 0, .int .i64 0, .int .i64 0, .int .i64 0, .int .i64 0, .int .i64 0] (.int .i64 0) [] S4.out.2.1 rfl Try.size1 rfl rfl ?_; change wpList _ _ _ _ _ (w4.setRow w2.heap.size #[.int .i8 6, .int .i64 0, .int .i64 0, .int .i64 0, .bool false, .slice none 0 0, .int .i64 0, .int .i64 0, .int .i64 0, .int .i64 0, .int .i64 0, .int .i64 n]); rw [← HW5.out])
      | (refine wpList_store_row rfl 29 (.tmp 2) _ rfl w.heap.size #[.int .i8 0, .int .i64 0, .int .i64 0, .int .i64 0, .bool false, .slice none 0 0, .int .i64 0, .int .i64 0, .int .i64 0, .int .i64 0, .int .i64 0, .int .i64 0] rfl rfl 29 #[.int .i8 0, .int .i64 0, .int .i64 0, .int .i64 0, .bool false, .slice none 0 0, .int .i64 0, .int .i64 0, .int .i64 0, .int .i64 0, .int .i64 0, .int .i64 0] S5.out.2.2.1 (Try.info12 _ _ _ _ _ _ _ _ _ _ _ _ _ _) (size12 _ _ _ _ _ _ _ _ _ _ _ _ _ _ _ _ _ _ _ _ _ _ _ _ _ _ _ _) (one12 _ _ _ _ _ _ _ _ _ _ _ _ _ _) ?_))
    exact bodyPost_ret (results_cell_tmp (t := 29) (p := 2) (u := 3) rfl _ _ w.heap.size #[.int .i8 0, .int .i64 0, .int .i64 0, .int .i64 0, .bool false, .slice none 0 0, .int .i64 0, .int .i64 0, .int .i64 0, .int .i64 0, .int .i64 0, .int .i64 0] (0, 0) _ rfl (setRow_heap _ _ _ _ _ _ S5.out.2.2.1) Try.underlying29 rfl (Try.info12 _ _ _ _ _ _ _ _ _ _ _ _ _ _)) rfl (ReadTell.no HNo.out (below_setRow S5.out.2.2.2 (Nat.le_refl _) _))
  | false =>
    by_cases hat : b4 = bs.length
    · have HMay := Lib.hid (may_any ({ zRc with kind := 6, n := n } : Rc) none 0 w5 (fun b => w2.heap.size < b) VT.out.at_ HFs.out HLn.out HSh.out)
      have HRL2 := HRL.out
      obtain ⟨mb, hmb⟩ : ∃ mb, mb = mayR ({ zRc with kind := 6, n := n } : Rc) := ⟨_, rfl⟩
      rw [← hmb] at HMay HRL2
      have HRM := Lib.hid HRL2
      have hati : (b4 : Int) = (bs.length : Int) := by omega
      have qq := row_lit (cs := (#[.int .i8 6, .int .i64 0, .int .i64 0, .int .i64 0, .bool false, .slice none 0 0, .int .i64 0, .int .i64 0, .int .i64 0, .int .i64 0, .int .i64 0, .int .i64 n] : Array Value).toList) S5.out.2.1
      have q0 := qq 0 _ rfl
      have q1 := qq 1 _ rfl
      have q2 := qq 2 _ rfl
      have q3 := qq 3 _ rfl
      have q4 := qq 4 _ rfl
      have q5 := qq 5 _ rfl
      have q6 := qq 6 _ rfl
      have q7 := qq 7 _ rfl
      have q8 := qq 8 _ rfl
      have q9 := qq 9 _ rfl
      have q10 := qq 10 _ rfl
      have q11 := qq 11 _ rfl
      clear qq hmb HRL2
      obtain ⟨p0, p1, p2, pf⟩ := S5.out.1.cells
      clear pf
      go_wp2_with (first
        | (refine wpList_store_one rfl 3 _ _ rfl w2.heap.size 11 rfl (.int .i64 n) rfl 29 [.int .i8 6, .int .i64 0, .int .i64 0, .int .i64 0, .bool false, .slice none 0 0, .int .i64 0, .int .i64 0, .int .i64 0, .int .i64 0, .int .i64 0] (.int .i64 0) [] S4.out.2.1 rfl Try.size1 rfl rfl ?_; change wpList _ _ _ _ _ (w4.setRow w2.heap.size #[.int .i8 6, .int .i64 0, .int .i64 0, .int .i64 0, .bool false, .slice none 0 0, .int .i64 0, .int .i64 0, .int .i64 0, .int .i64 0, .int .i64 0, .int .i64 n]); rw [← HW5.out]))
      refine HMay.out.mono ?_
      rintro e wm ⟨rfl, hb6⟩
      have SM := Lib.hid (S5.out.below hb6)
      have HWm := Lib.hid (VT.out.below hb6)
      have HXm := Lib.hid (S5.out.2.1)
      clear q0 q1 q2 q3 q4 q5 q6 q7 q8 q9 q10 q11
      clear p0 p1 p2 hb6
      cases mb with
      | false =>
        have HNo := Lib.hid (show readR bs = none from by rw [HRM.out, if_neg (by simp)])
        go_wp2_with (first
          | fail
          | (refine wpList_store_row rfl 29 (.tmp 2) _ rfl w.heap.size #[.int .i8 0, .int .i64 0, .int .i64 0, .int .i64 0, .bool false, .slice none 0 0, .int .i64 0, .int .i64 0, .int .i64 0, .int .i64 0, .int .i64 0, .int .i64 0] rfl rfl 29 #[.int .i8 0, .int .i64 0, .int .i64 0, .int .i64 0, .bool false, .slice none 0 0, .int .i64 0, .int .i64 0, .int .i64 0, .int .i64 0, .int .i64 0, .int .i64 0] SM.out.2.2.1 (Try.info12 _ _ _ _ _ _ _ _ _ _ _ _ _ _) (size12 _ _ _ _ _ _ _ _ _ _ _ _ _ _ _ _ _ _ _ _ _ _ _ _ _ _ _ _) (one12 _ _ _ _ _ _ _ _ _ _ _ _ _ _) ?_))
        exact bodyPost_ret (results_cell_tmp (t := 29) (p := 2) (u := 3) rfl _ _ w.heap.size #[.int .i8 0, .int .i64 0, .int .i64 0, .int .i64 0, .bool false, .slice none 0 0, .int .i64 0, .int .i64 0, .int .i64 0, .int .i64 0, .int .i64 0, .int .i64 0] (0, 0) _ rfl (setRow_heap _ _ _ _ _ _ SM.out.2.2.1) Try.underlying29 rfl (Try.info12 _ _ _ _ _ _ _ _ _ _ _ _ _ _)) rfl (ReadTell.no HNo.out (below_setRow SM.out.2.2.2 (Nat.le_refl _) _))
      | true =>
        have HYes := Lib.hid (show readR bs = some ({ zRc with kind := 6, n := n } : Rc) from by rw [HRM.out, if_pos (by simp [hat])])
        go_wp2_with (first
          | (refine wpList_load_part rfl 29 _ rfl w2.heap.size 0 rfl (#[.int .i8 6, .int .i64 0, .int .i64 0, .int .i64 0, .bool false, .slice none 0 0, .int .i64 0, .int .i64 0, .int .i64 0, .int .i64 0, .int .i64 0, .int .i64 n] : Array Value).toList _ (row_lit SM.out.2.1) Try.underlying29 rfl Try.sizeR ?_)
          | (refine wpList_store_row rfl 29 (.tmp 2) _ rfl w.heap.size #[.int .i8 6, .int .i64 0, .int .i64 0, .int .i64 0, .bool false, .slice none 0 0, .int .i64 0, .int .i64 0, .int .i64 0, .int .i64 0, .int .i64 0, .int .i64 n] rfl rfl 29 #[.int .i8 0, .int .i64 0, .int .i64 0, .int .i64 0, .bool false, .slice none 0 0, .int .i64 0, .int .i64 0, .int .i64 0, .int .i64 0, .int .i64 0, .int .i64 0] SM.out.2.2.1 (Try.info12 _ _ _ _ _ _ _ _ _ _ _ _ _ _) (size12 _ _ _ _ _ _ _ _ _ _ _ _ _ _ _ _ _ _ _ _ _ _ _ _ _ _ _ _) (one12 _ _ _ _ _ _ _ _ _ _ _ _ _ _) ?_))
        exact bodyPost_ret (results_cell_tmp (t := 29) (p := 2) (u := 3) rfl _ _ w.heap.size #[.int .i8 6, .int .i64 0, .int .i64 0, .int .i64 0, .bool false, .slice none 0 0, .int .i64 0, .int .i64 0, .int .i64 0, .int .i64 0, .int .i64 0, .int .i64 n] (0, 0) _ rfl (setRow_heap _ _ _ _ _ _ SM.out.2.2.1) Try.underlying29 rfl (Try.info12 _ _ _ _ _ _ _ _ _ _ _ _ _ _)) rfl (ReadTell.yes (r := ({ zRc with kind := 6, n := n } : Rc)) HYes.out (HWm.out.out (fun b hb => setRow_other _ _ _ _ (by have := HX2.out; omega)) (by simp) (by have := HX2.out; omega)) HFs.out (below_setRow SM.out.2.2.2 (Nat.le_refl _) _))
    · have hati : ¬ (b4 : Int) = (bs.length : Int) := by omega
      have HNo := Lib.hid (show readR bs = none from by rw [HRL.out, if_neg (fun h => hat h.2.1)])
      obtain ⟨p0, p1, p2, pf⟩ := S5.out.1.cells
      clear pf
      go_wp2_with (first
        | (refine wpList_store_one rfl 3 _ _ rfl w2.heap.size 11 rfl (.int .i64 n) rfl 29 [.int .i8 6, .int .i64 0, .int .i64 0, .int .i64 0, .bool false, .slice none 0 0, .int .i64 0, .int .i64 0, .int .i64 0, .int .i64 0, .int .i64 0] (.int .i64 0) [] S4.out.2.1 rfl Try.size1 rfl rfl ?_; change wpList _ _ _ _ _ (w4.setRow w2.heap.size #[.int .i8 6, .int .i64 0, .int .i64 0, .int .i64 0, .bool false, .slice none 0 0, .int .i64 0, .int .i64 0, .int .i64 0, .int .i64 0, .int .i64 0, .int .i64 n]); rw [← HW5.out])
        | (refine wpList_store_row rfl 29 (.tmp 2) _ rfl w.heap.size #[.int .i8 0, .int .i64 0, .int .i64 0, .int .i64 0, .bool false, .slice none 0 0, .int .i64 0, .int .i64 0, .int .i64 0, .int .i64 0, .int .i64 0, .int .i64 0] rfl rfl 29 #[.int .i8 0, .int .i64 0, .int .i64 0, .int .i64 0, .bool false, .slice none 0 0, .int .i64 0, .int .i64 0, .int .i64 0, .int .i64 0, .int .i64 0, .int .i64 0] S5.out.2.2.1 (Try.info12 _ _ _ _ _ _ _ _ _ _ _ _ _ _) (size12 _ _ _ _ _ _ _ _ _ _ _ _ _ _ _ _ _ _ _ _ _ _ _ _ _ _ _ _) (one12 _ _ _ _ _ _ _ _ _ _ _ _ _ _) ?_))
      exact bodyPost_ret (results_cell_tmp (t := 29) (p := 2) (u := 3) rfl _ _ w.heap.size #[.int .i8 0, .int .i64 0, .int .i64 0, .int .i64 0, .bool false, .slice none 0 0, .int .i64 0, .int .i64 0, .int .i64 0, .int .i64 0, .int .i64 0, .int .i64 0] (0, 0) _ rfl (setRow_heap _ _ _ _ _ _ S5.out.2.2.1) Try.underlying29 rfl (Try.info12 _ _ _ _ _ _ _ _ _ _ _ _ _ _)) rfl (ReadTell.no HNo.out (below_setRow S5.out.2.2.2 (Nat.le_refl _) _))
end Go.Proofs.Ytaokhbodmodcgaa
end

section
/-
  The document's Read. (mkread.py writes this text.)
-/
namespace Go.Proofs.Ytaokhbodmodcgaa
open Go.RowKit
set_option maxRecDepth 100000

set_option maxHeartbeats 8000000 in
theorem read_7 (t bs : List Nat) (hbs : bs = 7 :: t) (A : Option Addr) (c : Nat) (w : World) (hA : By w w.heap.size A bs) (hl : bs.length ≤ 1000000) :
    Calls Try.prog 25 #[.slice A bs.length c] w (ReadTell w bs) := by
  have HB := Lib.hid (fun W B p a d (h : Rd W B p A bs c a d) => byte_any W B p A bs c a d h hl)
  have HT := Lib.hid (fun W B p a d (h : Rd W B p A bs c a d) => rthree_any W B p A bs c a d h hl)
  have HNm := Lib.hid (fun W B p a d (h : Rd W B p A bs c a d) => rname_any W B p A bs c a d h hl)
  have HWr := Lib.hid (fun W B p a d (h : Rd W B p A bs c a d) => rwrites_any W B p A bs c a d h hl)
  have HFl := Lib.hid (fun W B p a d (h : Rd W B p A bs c a d) => rflag_any W B p A bs c a d h hl)
  obtain ⟨w1, hw1⟩ : ∃ w1, w1 = (w.alloc (.cells #[.int .i8 0, .int .i64 0, .int .i64 0, .int .i64 0, .bool false, .slice none 0 0, .int .i64 0, .int .i64 0, .int .i64 0, .int .i64 0, .int .i64 0, .int .i64 0] 29)).alloc (.cells #[.slice A bs.length c, .int .i64 0, .bool false] 76) := ⟨_, rfl⟩
  have hb1 : Below w.heap.size w w1 := by rw [hw1]; exact ((Below.refl w.heap.size w).alloc (Nat.le_refl _) _).alloc (by simp) _
  have hz1 : w1.heap.size = w.heap.size + 2 := by rw [hw1]; simp
  have g0 : w1.heap[w.heap.size]? = some (.cells #[.int .i8 0, .int .i64 0, .int .i64 0, .int .i64 0, .bool false, .slice none 0 0, .int .i64 0, .int .i64 0, .int .i64 0, .int .i64 0, .int .i64 0, .int .i64 0] 29 (0, 0)) := by rw [hw1]; exact heap_alloc2_old w _ _
  have g1 : w1.heap[w.heap.size + 1]? = some (.cells #[.slice A bs.length c, .int .i64 0, .bool false] 76 (0, 0)) := by rw [hw1]; exact heap_alloc2_new w _ _
  have HR1 := Lib.hid (show Rd w1 w.heap.size (w.heap.size + 1) A bs c 0 false from ⟨g1, hA.below hb1 (Nat.le_refl _), by omega, Nat.zero_le _⟩)
  obtain ⟨b, off, rfl, hbw, hcl⟩ := hA.at_ (by rw [hbs]; simp)
  have HC := Lib.hid (show ∀ X, Below w.heap.size w X → X.cell? ⟨b, off, none⟩ = some (.int .u8 7) from fun X hX => by
    have h := (hX.cell (p := ⟨b, off + 0, none⟩) hbw).trans (hcl 0 (by rw [hbs]; simp))
    rw [hbs] at h
    exact h)
  have hl0 : (0 : Int) < (bs.length : Int) := by rw [hbs]; simp
  have hl0' : 0 < bs.length := by rw [hbs]; simp
  have HG0 := Lib.hid g0
  have HB1 := Lib.hid hb1
  have HZ1 := Lib.hid hz1
  have HW1 := Lib.hid hw1
  have HBs := Lib.hid hbs
  clear hw1 hb1 hz1 g0 g1 hA hcl hbw hl hbs
  go_enter Try.func25, Try.ntmps25
  go_wp2_with (rw [← HW1.out])
  refine (HB.out _ _ _ _ _ HR1.out).mono ?_
  rintro e w2 ⟨x, a1, d1, rfl, hx, hr2, hk2, hl2⟩
  obtain ⟨rfl, rfl, HT1⟩ : x = 7 ∧ d1 = false ∧ Hid (bs.drop a1 = t) := by
    rcases hl2.2 rfl with ⟨q, h1, h2, h3⟩ | ⟨h1, _⟩
    · rw [List.drop_zero, HBs.out] at h1
      simp only [rdOne, Option.some.injEq, Prod.mk.injEq] at h1
      exact ⟨h1.1.symm, h2, Lib.hid (by rw [← h3, ← h1.2])⟩
    · rw [List.drop_zero, HBs.out] at h1
      cases h1
  have hb2 : Below w.heap.size w w2 := HB1.out.trans (hk2.to_below (by have := HZ1.out; omega) (fun k h e => by omega))
  obtain ⟨w3, hw3⟩ : ∃ w3, w3 = w2.alloc (.cells #[.int .i8 7, .int .i64 0, .int .i64 0, .int .i64 0, .bool false, .slice none 0 0, .int .i64 0, .int .i64 0, .int .i64 0, .int .i64 0, .int .i64 0, .int .i64 0] 29) := ⟨_, rfl⟩
  have hb3 : Below w2.heap.size w2 w3 := by rw [hw3]; exact (Below.refl _ w2).alloc (Nat.le_refl _) _
  have hx3 : w3.heap[w2.heap.size]? = some (.cells #[.int .i8 7, .int .i64 0, .int .i64 0, .int .i64 0, .bool false, .slice none 0 0, .int .i64 0, .int .i64 0, .int .i64 0, .int .i64 0, .int .i64 0, .int .i64 0] 29 (0, 0)) := by rw [hw3]; exact heap_alloc_new w2 _
  have HX2 := Lib.hid (show w.heap.size + 2 ≤ w2.heap.size by have := hk2.size; have := HZ1.out; omega)
  have hb3' : Below w.heap.size w w3 := hb2.trans (hb3.mono hb2.size)
  have S3 := Lib.hid (show St7 w w2.heap.size (some ⟨b, off, none⟩) bs c w3 #[.int .i8 7, .int .i64 0, .int .i64 0, .int .i64 0, .bool false, .slice none 0 0, .int .i64 0, .int .i64 0, .int .i64 0, .int .i64 0, .int .i64 0, .int .i64 0] a1 false from ⟨hr2.below hb3 (by have := HX2.out; omega), hx3, (hb3.block _ (by have := HX2.out; omega)).trans ((hk2.block _ (by have := HZ1.out; omega) (by omega)).trans HG0.out), hb3'⟩)
  have hc3 := HC.out w3 hb3'
  have x0 : w3.cell? ⟨w2.heap.size, 0, none⟩ = some (.int .i8 7) := by rw [cell_of_row w3 _ 0 _ _ _ hx3]; rfl
  have HW3 := Lib.hid hw3
  clear hr2 hk2 hl2 hx hb2 hw3 hb3 hx3 hb3'
  have hand : bits .and .i64 7 127 = 7 := by kernel_rfl
  have hwK : IntKind.i8.wrap 7 = 7 := by kernel_rfl
  go_wp2_with (first
    | (rw [← HW3.out]))
  refine (HT.out _ _ _ _ _ S3.out.1).mono ?_
  rintro e w4 ⟨n, b4, e4, rfl, hn, hr, hk, hlk⟩
  have S4 := Lib.hid (S3.out.call hr hk HX2.out)
  have L4 := Lib.hid hlk
  clear hn
  clear hr hk hlk
  obtain ⟨w5, hw5⟩ : ∃ w5, w5 = w4.setRow w2.heap.size #[.int .i8 7, .int .i64 0, .int .i64 0, .int .i64 0, .bool false, .slice none 0 0, .int .i64 0, .int .i64 0, .int .i64 0, .int .i64 0, .int .i64 0, .int .i64 n] := ⟨_, rfl⟩
  have S5 := Lib.hid (show St7 w w2.heap.size (some ⟨b, off, none⟩) bs c w5 #[.int .i8 7, .int .i64 0, .int .i64 0, .int .i64 0, .bool false, .slice none 0 0, .int .i64 0, .int .i64 0, .int .i64 0, .int .i64 0, .int .i64 0, .int .i64 n] _ _ from by rw [hw5]; exact S4.out.set HX2.out _)
  have HW5 := Lib.hid hw5
  clear hw5
  have VT := Lib.hid (show WrsV w5 (fun b => w2.heap.size < b) none 0 ([] : List (Int × List Nat)) from WrsV.nil_)
  have HRL := Lib.hid (show readR bs = if e4 = false ∧ b4 = bs.length ∧ mayR ({ zRc with kind := 7, n := n } : Rc) = true then some ({ zRc with kind := 7, n := n } : Rc) else none from by
    refine read_link ?_ S5.out.1.at_
    rw [show rdRest bs = _ from by rw [HBs.out, rdRest_n (by simp)]]
    have h := L4.out.bind (g := fun n q => some (({ zRc with kind := 7, n := n } : Rc), q)) (Lnk.pure _)
    rw [HT1.out] at h
    exact h)
  have HFs := Lib.hid (show WrFine ([] : List (Int × List Nat)) from fun _ h => absurd h (by simp))
  have HLn := Lib.hid (show ([] : List (Int × List Nat)).length ≤ 1000000 from by simp)
  have HSh := Lib.hid (show I64 0 from by unfold I64; omega)
  cases e4 with
  | true =>
    have HNo := Lib.hid (show readR bs = none from by rw [HRL.out, if_neg (by simp)])
    obtain ⟨p0, p1, p2, pf⟩ := S5.out.1.cells
    clear pf
    go_wp2_with (first
      | (refine wpList_store_one rfl 3 _ _ rfl w2.heap.size 11 rfl (.int .i64 n) rfl 29 [.int .i8 7, .int .i64 0, .int .i64 0, .int .i64 0, .bool false, .slice none 0 0, .int .i64 0, .int .i64 0, .int .i64 0, .int .i64 0, .int .i64 0] (.int .i64 0) [] S4.out.2.1 rfl Try.size1 rfl rfl ?_; change wpList _ _ _ _ _ (w4.setRow w2.heap.size #[.int .i8 7, .int .i64 0, .int .i64 0, .int .i64 0, .bool false, .slice none 0 0, .int .i64 0, .int .i64 0, .int .i64 0, .int .i64 0, .int .i64 0, .int .i64 n]); rw [← HW5.out])
      | (refine wpList_store_row rfl 29 (.tmp 2) _ rfl w.heap.size #[.int .i8 0, .int .i64 0, .int .i64 0, .int .i64 0, .bool false, .slice none 0 0, .int .i64 0, .int .i64 0, .int .i64 0, .int .i64 0, .int .i64 0, .int .i64 0] rfl rfl 29 #[.int .i8 0, .int .i64 0, .int .i64 0, .int .i64 0, .bool false, .slice none 0 0, .int .i64 0, .int .i64 0, .int .i64 0, .int .i64 0, .int .i64 0, .int .i64 0] S5.out.2.2.1 (Try.info12 _ _ _ _ _ _ _ _ _ _ _ _ _ _) (size12 _ _ _ _ _ _ _ _ _ _ _ _ _ _ _ _ _ _ _ _ _ _ _ _ _ _ _ _) (one12 _ _ _ _ _ _ _ _ _ _ _ _ _ _) ?_))
    exact bodyPost_ret (results_cell_tmp (t := 29) (p := 2) (u := 3) rfl _ _ w.heap.size #[.int .i8 0, .int .i64 0, .int .i64 0, .int .i64 0, .bool false, .slice none 0 0, .int .i64 0, .int .i64 0, .int .i64 0, .int .i64 0, .int .i64 0, .int .i64 0] (0, 0) _ rfl (setRow_heap _ _ _ _ _ _ S5.out.2.2.1) Try.underlying29 rfl (Try.info12 _ _ _ _ _ _ _ _ _ _ _ _ _ _)) rfl (ReadTell.no HNo.out (below_setRow S5.out.2.2.2 (Nat.le_refl _) _))
  | false =>
    by_cases hat : b4 = bs.length
    · have HMay := Lib.hid (may_any ({ zRc with kind := 7, n := n } : Rc) none 0 w5 (fun b => w2.heap.size < b) VT.out.at_ HFs.out HLn.out HSh.out)
      have HRL2 := HRL.out
      obtain ⟨mb, hmb⟩ : ∃ mb, mb = mayR ({ zRc with kind := 7, n := n } : Rc) := ⟨_, rfl⟩
      rw [← hmb] at HMay HRL2
      have HRM := Lib.hid HRL2
      have hati : (b4 : Int) = (bs.length : Int) := by omega
      have qq := row_lit (cs := (#[.int .i8 7, .int .i64 0, .int .i64 0, .int .i64 0, .bool false, .slice none 0 0, .int .i64 0, .int .i64 0, .int .i64 0, .int .i64 0, .int .i64 0, .int .i64 n] : Array Value).toList) S5.out.2.1
      have q0 := qq 0 _ rfl
      have q1 := qq 1 _ rfl
      have q2 := qq 2 _ rfl
      have q3 := qq 3 _ rfl
      have q4 := qq 4 _ rfl
      have q5 := qq 5 _ rfl
      have q6 := qq 6 _ rfl
      have q7 := qq 7 _ rfl
      have q8 := qq 8 _ rfl
      have q9 := qq 9 _ rfl
      have q10 := qq 10 _ rfl
      have q11 := qq 11 _ rfl
      clear qq hmb HRL2
      obtain ⟨p0, p1, p2, pf⟩ := S5.out.1.cells
      clear pf
      go_wp2_with (first
        | (refine wpList_store_one rfl 3 _ _ rfl w2.heap.size 11 rfl (.int .i64 n) rfl 29 [.int .i8 7, .int .i64 0, .int .i64 0, .int .i64 0, .bool false, .slice none 0 0, .int .i64 0, .int .i64 0, .int .i64 0, .int .i64 0, .int .i64 0] (.int .i64 0) [] S4.out.2.1 rfl Try.size1 rfl rfl ?_; change wpList _ _ _ _ _ (w4.setRow w2.heap.size #[.int .i8 7, .int .i64 0, .int .i64 0, .int .i64 0, .bool false, .slice none 0 0, .int .i64 0, .int .i64 0, .int .i64 0, .int .i64 0, .int .i64 0, .int .i64 n]); rw [← HW5.out]))
      refine HMay.out.mono ?_
      rintro e wm ⟨rfl, hb6⟩
      have SM := Lib.hid (S5.out.below hb6)
      have HWm := Lib.hid (VT.out.below hb6)
      have HXm := Lib.hid (S5.out.2.1)
      clear q0 q1 q2 q3 q4 q5 q6 q7 q8 q9 q10 q11
      clear p0 p1 p2 hb6
      cases mb with
      | false =>
        have HNo := Lib.hid (show readR bs = none from by rw [HRM.out, if_neg (by simp)])
        go_wp2_with (first
          | fail
          | (refine wpList_store_row rfl 29 (.tmp 2) _ rfl w.heap.size #[.int .i8 0, .int .i64 0, .int .i64 0, .int .i64 0, .bool false, .slice none 0 0, .int .i64 0, .int .i64 0, .int .i64 0, .int .i64 0, .int .i64 0, .int .i64 0] rfl rfl 29 #[.int .i8 0, .int .i64 0, .int .i64 0, .int .i64 0, .bool false, .slice none 0 0, .int .i64 0, .int .i64 0, .int .i64 0, .int .i64 0, .int .i64 0, .int .i64 0] SM.out.2.2.1 (Try.info12 _ _ _ _ _ _ _ _ _ _ _ _ _ _) (size12 _ _ _ _ _ _ _ _ _ _ _ _ _ _ _ _ _ _ _ _ _ _ _ _ _ _ _ _) (one12 _ _ _ _ _ _ _ _ _ _ _ _ _ _) ?_))
        exact bodyPost_ret (results_cell_tmp (t := 29) (p := 2) (u := 3) rfl _ _ w.heap.size #[.int .i8 0, .int .i64 0, .int .i64 0, .int .i64 0, .bool false, .slice none 0 0, .int .i64 0, .int .i64 0, .int .i64 0, .int .i64 0, .int .i64 0, .int .i64 0] (0, 0) _ rfl (setRow_heap _ _ _ _ _ _ SM.out.2.2.1) Try.underlying29 rfl (Try.info12 _ _ _ _ _ _ _ _ _ _ _ _ _ _)) rfl (ReadTell.no HNo.out (below_setRow SM.out.2.2.2 (Nat.le_refl _) _))
      | true =>
        have HYes := Lib.hid (show readR bs = some ({ zRc with kind := 7, n := n } : Rc) from by rw [HRM.out, if_pos (by simp [hat])])
        go_wp2_with (first
          | (refine wpList_load_part rfl 29 _ rfl w2.heap.size 0 rfl (#[.int .i8 7, .int .i64 0, .int .i64 0, .int .i64 0, .bool false, .slice none 0 0, .int .i64 0, .int .i64 0, .int .i64 0, .int .i64 0, .int .i64 0, .int .i64 n] : Array Value).toList _ (row_lit SM.out.2.1) Try.underlying29 rfl Try.sizeR ?_)
          | (refine wpList_store_row rfl 29 (.tmp 2) _ rfl w.heap.size #[.int .i8 7, .int .i64 0, .int .i64 0, .int .i64 0, .bool false, .slice none 0 0, .int .i64 0, .int .i64 0, .int .i64 0, .int .i64 0, .int .i64 0, .int .i64 n] rfl rfl 29 #[.int .i8 0, .int .i64 0, .int .i64 0, .int .i64 0, .bool false, .slice none 0 0, .int .i64 0, .int .i64 0, .int .i64 0, .int .i64 0, .int .i64 0, .int .i64 0] SM.out.2.2.1 (Try.info12 _ _ _ _ _ _ _ _ _ _ _ _ _ _) (size12 _ _ _ _ _ _ _ _ _ _ _ _ _ _ _ _ _ _ _ _ _ _ _ _ _ _ _ _) (one12 _ _ _ _ _ _ _ _ _ _ _ _ _ _) ?_))
        exact bodyPost_ret (results_cell_tmp (t := 29) (p := 2) (u := 3) rfl _ _ w.heap.size #[.int .i8 7, .int .i64 0, .int .i64 0, .int .i64 0, .bool false, .slice none 0 0, .int .i64 0, .int .i64 0, .int .i64 0, .int .i64 0, .int .i64 0, .int .i64 n] (0, 0) _ rfl (setRow_heap _ _ _ _ _ _ SM.out.2.2.1) Try.underlying29 rfl (Try.info12 _ _ _ _ _ _ _ _ _ _ _ _ _ _)) rfl (ReadTell.yes (r := ({ zRc with kind := 7, n := n } : Rc)) HYes.out (HWm.out.out (fun b hb => setRow_other _ _ _ _ (by have := HX2.out; omega)) (by simp) (by have := HX2.out; omega)) HFs.out (below_setRow SM.out.2.2.2 (Nat.le_refl _) _))
    · have hati : ¬ (b4 : Int) = (bs.length : Int) := by omega
      have HNo := Lib.hid (show readR bs = none from by rw [HRL.out, if_neg (fun h => hat h.2.1)])
      obtain ⟨p0, p1, p2, pf⟩ := S5.out.1.cells
      clear pf
      go_wp2_with (first
        | (refine wpList_store_one rfl 3 _ _ rfl w2.heap.size 11 rfl (.int .i64 n) rfl 29 [.int .i8 7, .int .i64 0, .int .i64 0, .int .i64 0, .bool false, .slice none 0 0, .int .i64 0, .int .i64 0, .int .i64 0, .int .i64 0, .int .i64 0] (.int .i64 0) [] S4.out.2.1 rfl Try.size1 rfl rfl ?_; change wpList _ _ _ _ _ (w4.setRow w2.heap.size #[.int .i8 7, .int .i64 0, .int .i64 0, .int .i64 0, .bool false, .slice none 0 0, .int .i64 0, .int .i64 0, .int .i64 0, .int .i64 0, .int .i64 0, .int .i64 n]); rw [← HW5.out])
        | (refine wpList_store_row rfl 29 (.tmp 2) _ rfl w.heap.size #[.int .i8 0, .int .i64 0, .int .i64 0, .int .i64 0, .bool false, .slice none 0 0, .int .i64 0, .int .i64 0, .int .i64 0, .int .i64 0, .int .i64 0, .int .i64 0] rfl rfl 29 #[.int .i8 0, .int .i64 0, .int .i64 0, .int .i64 0, .bool false, .slice none 0 0, .int .i64 0, .int .i64 0, .int .i64 0, .int .i64 0, .int .i64 0, .int .i64 0] S5.out.2.2.1 (Try.info12 _ _ _ _ _ _ _ _ _ _ _ _ _ _) (size12 _ _ _ _ _ _ _ _ _ _ _ _ _ _ _ _ _ _ _ _ _ _ _ _ _ _ _ _) (one12 _ _ _ _ _ _ _ _ _ _ _ _ _ _) ?_))
      exact bodyPost_ret (results_cell_tmp (t := 29) (p := 2) (u := 3) rfl _ _ w.heap.size #[.int .i8 0, .int .i64 0, .int .i64 0, .int .i64 0, .bool false, .slice none 0 0, .int .i64 0, .int .i64 0, .int .i64 0, .int .i64 0, .int .i64 0, .int .i64 0] (0, 0) _ rfl (setRow_heap _ _ _ _ _ _ S5.out.2.2.1) Try.underlying29 rfl (Try.info12 _ _ _ _ _ _ _ _ _ _ _ _ _ _)) rfl (ReadTell.no HNo.out (below_setRow S5.out.2.2.2 (Nat.le_refl _) _))
set_option maxHeartbeats 8000000 in
theorem read_3 (t bs : List Nat) (hbs : bs = 3 :: t) (A : Option Addr) (c : Nat) (w : World) (hA : By w w.heap.size A bs) (hl : bs.length ≤ 1000000) :
    Calls Try.prog 25 #[.slice A bs.length c] w (ReadTell w bs) := by
  have HB := Lib.hid (fun W B p a d (h : Rd W B p A bs c a d) => byte_any W B p A bs c a d h hl)
  have HT := Lib.hid (fun W B p a d (h : Rd W B p A bs c a d) => rthree_any W B p A bs c a d h hl)
  have HNm := Lib.hid (fun W B p a d (h : Rd W B p A bs c a d) => rname_any W B p A bs c a d h hl)
  have HWr := Lib.hid (fun W B p a d (h : Rd W B p A bs c a d) => rwrites_any W B p A bs c a d h hl)
  have HFl := Lib.hid (fun W B p a d (h : Rd W B p A bs c a d) => rflag_any W B p A bs c a d h hl)
  obtain ⟨w1, hw1⟩ : ∃ w1, w1 = (w.alloc (.cells #[.int .i8 0, .int .i64 0, .int .i64 0, .int .i64 0, .bool false, .slice none 0 0, .int .i64 0, .int .i64 0, .int .i64 0, .int .i64 0, .int .i64 0, .int .i64 0] 29)).alloc (.cells #[.slice A bs.length c, .int .i64 0, .bool false] 76) := ⟨_, rfl⟩
  have hb1 : Below w.heap.size w w1 := by rw [hw1]; exact ((Below.refl w.heap.size w).alloc (Nat.le_refl _) _).alloc (by simp) _
  have hz1 : w1.heap.size = w.heap.size + 2 := by rw [hw1]; simp
  have g0 : w1.heap[w.heap.size]? = some (.cells #[.int .i8 0, .int .i64 0, .int .i64 0, .int .i64 0, .bool false, .slice none 0 0, .int .i64 0, .int .i64 0, .int .i64 0, .int .i64 0, .int .i64 0, .int .i64 0] 29 (0, 0)) := by rw [hw1]; exact heap_alloc2_old w _ _
  have g1 : w1.heap[w.heap.size + 1]? = some (.cells #[.slice A bs.length c, .int .i64 0, .bool false] 76 (0, 0)) := by rw [hw1]; exact heap_alloc2_new w _ _
  have HR1 := Lib.hid (show Rd w1 w.heap.size (w.heap.size + 1) A bs c 0 false from ⟨g1, hA.below hb1 (Nat.le_refl _), by omega, Nat.zero_le _⟩)
  obtain ⟨b, off, rfl, hbw, hcl⟩ := hA.at_ (by rw [hbs]; simp)
  have HC := Lib.hid (show ∀ X, Below w.heap.size w X → X.cell? ⟨b, off, none⟩ = some (.int .u8 3) from fun X hX => by
    have h := (hX.cell (p := ⟨b, off + 0, none⟩) hbw).trans (hcl 0 (by rw [hbs]; simp))
    rw [hbs] at h
    exact h)
  have hl0 : (0 : Int) < (bs.length : Int) := by rw [hbs]; simp
  have hl0' : 0 < bs.length := by rw [hbs]; simp
  have HG0 := Lib.hid g0
  have HB1 := Lib.hid hb1
  have HZ1 := Lib.hid hz1
  have HW1 := Lib.hid hw1
  have HBs := Lib.hid hbs
  clear hw1 hb1 hz1 g0 g1 hA hcl hbw hl hbs
  go_enter Try.func25, Try.ntmps25
  go_wp2_with (rw [← HW1.out])
  refine (HB.out _ _ _ _ _ HR1.out).mono ?_
  rintro e w2 ⟨x, a1, d1, rfl, hx, hr2, hk2, hl2⟩
  obtain ⟨rfl, rfl, HT1⟩ : x = 3 ∧ d1 = false ∧ Hid (bs.drop a1 = t) := by
    rcases hl2.2 rfl with ⟨q, h1, h2, h3⟩ | ⟨h1, _⟩
    · rw [List.drop_zero, HBs.out] at h1
      simp only [rdOne, Option.some.injEq, Prod.mk.injEq] at h1
      exact ⟨h1.1.symm, h2, Lib.hid (by rw [← h3, ← h1.2])⟩
    · rw [List.drop_zero, HBs.out] at h1
      cases h1
  have hb2 : Below w.heap.size w w2 := HB1.out.trans (hk2.to_below (by have := HZ1.out; omega) (fun k h e => by omega))
  obtain ⟨w3, hw3⟩ : ∃ w3, w3 = w2.alloc (.cells #[.int .i8 3, .int .i64 0, .int .i64 0, .int .i64 0, .bool false, .slice none 0 0, .int .i64 0, .int .i64 0, .int .i64 0, .int .i64 0, .int .i64 0, .int .i64 0] 29) := ⟨_, rfl⟩
  have hb3 : Below w2.heap.size w2 w3 := by rw [hw3]; exact (Below.refl _ w2).alloc (Nat.le_refl _) _
  have hx3 : w3.heap[w2.heap.size]? = some (.cells #[.int .i8 3, .int .i64 0, .int .i64 0, .int .i64 0, .bool false, .slice none 0 0, .int .i64 0, .int .i64 0, .int .i64 0, .int .i64 0, .int .i64 0, .int .i64 0] 29 (0, 0)) := by rw [hw3]; exact heap_alloc_new w2 _
  have HX2 := Lib.hid (show w.heap.size + 2 ≤ w2.heap.size by have := hk2.size; have := HZ1.out; omega)
  have hb3' : Below w.heap.size w w3 := hb2.trans (hb3.mono hb2.size)
  have S3 := Lib.hid (show St7 w w2.heap.size (some ⟨b, off, none⟩) bs c w3 #[.int .i8 3, .int .i64 0, .int .i64 0, .int .i64 0, .bool false, .slice none 0 0, .int .i64 0, .int .i64 0, .int .i64 0, .int .i64 0, .int .i64 0, .int .i64 0] a1 false from ⟨hr2.below hb3 (by have := HX2.out; omega), hx3, (hb3.block _ (by have := HX2.out; omega)).trans ((hk2.block _ (by have := HZ1.out; omega) (by omega)).trans HG0.out), hb3'⟩)
  have hc3 := HC.out w3 hb3'
  have x0 : w3.cell? ⟨w2.heap.size, 0, none⟩ = some (.int .i8 3) := by rw [cell_of_row w3 _ 0 _ _ _ hx3]; rfl
  have HW3 := Lib.hid hw3
  clear hr2 hk2 hl2 hx hb2 hw3 hb3 hx3 hb3'
  have hand : bits .and .i64 3 127 = 3 := by kernel_rfl
  have hwK : IntKind.i8.wrap 3 = 3 := by kernel_rfl
  go_wp2_with (first
    | (rw [← HW3.out]))
  refine (HNm.out _ _ _ _ _ S3.out.1).mono ?_
  rintro e w4 ⟨nm, b4, e4, rfl, hn, hr, hk, hlk⟩
  have S4 := Lib.hid (S3.out.call hr hk HX2.out)
  have L4 := Lib.hid hlk
  obtain ⟨z1, z2, z3⟩ := nm
  simp only [nmv]
  clear hn
  clear hr hk hlk
  obtain ⟨w5, hw5⟩ : ∃ w5, w5 = w4.setRow w2.heap.size #[.int .i8 3, .int .i64 z1, .int .i64 z2, .int .i64 z3, .bool false, .slice none 0 0, .int .i64 0, .int .i64 0, .int .i64 0, .int .i64 0, .int .i64 0, .int .i64 0] := ⟨_, rfl⟩
  have S5 := Lib.hid (show St7 w w2.heap.size (some ⟨b, off, none⟩) bs c w5 #[.int .i8 3, .int .i64 z1, .int .i64 z2, .int .i64 z3, .bool false, .slice none 0 0, .int .i64 0, .int .i64 0, .int .i64 0, .int .i64 0, .int .i64 0, .int .i64 0] _ _ from by rw [hw5]; exact S4.out.set HX2.out _)
  have HW5 := Lib.hid hw5
  clear hw5
  have y0 : w5.cell? ⟨w2.heap.size, 0, none⟩ = some (.int .i8 3) := by rw [cell_of_row w5 _ 0 _ _ _ S5.out.2.1]; rfl
  have hcn := HC.out w5 S5.out.2.2.2
  go_wp2_with (first
    | (refine wpList_store_part rfl 24 _ _ rfl w2.heap.size 1 rfl [.int .i64 z1, .int .i64 z2, .int .i64 z3] rfl 29 [.int .i8 3] [.int .i64 0, .int .i64 0, .int .i64 0] [.bool false, .slice none 0 0, .int .i64 0, .int .i64 0, .int .i64 0, .int .i64 0, .int .i64 0, .int .i64 0] S4.out.2.1 rfl rfl Try.sizeN (by simp [Value.oneCell']) ?_; change wpList _ _ _ _ _ (w4.setRow w2.heap.size #[.int .i8 3, .int .i64 z1, .int .i64 z2, .int .i64 z3, .bool false, .slice none 0 0, .int .i64 0, .int .i64 0, .int .i64 0, .int .i64 0, .int .i64 0, .int .i64 0]); rw [← HW5.out]))
  refine (HFl.out _ _ _ _ _ S5.out.1).mono ?_
  rintro e w6 ⟨yy, b6, e6, rfl, hy, hr, hk, hlk⟩
  have S6 := Lib.hid (S5.out.call hr hk HX2.out)
  have L6 := Lib.hid hlk
  clear hr hk hlk
  obtain ⟨w7, hw7⟩ : ∃ w7, w7 = w6.setRow w2.heap.size #[.int .i8 3, .int .i64 z1, .int .i64 z2, .int .i64 z3, .bool yy, .slice none 0 0, .int .i64 0, .int .i64 0, .int .i64 0, .int .i64 0, .int .i64 0, .int .i64 0] := ⟨_, rfl⟩
  have S7 := Lib.hid (show St7 w w2.heap.size (some ⟨b, off, none⟩) bs c w7 #[.int .i8 3, .int .i64 z1, .int .i64 z2, .int .i64 z3, .bool yy, .slice none 0 0, .int .i64 0, .int .i64 0, .int .i64 0, .int .i64 0, .int .i64 0, .int .i64 0] _ _ from by rw [hw7]; exact S6.out.set HX2.out _)
  have HW7 := Lib.hid hw7
  clear hw7
  have VT := Lib.hid (show WrsV w7 (fun b => w2.heap.size < b) none 0 ([] : List (Int × List Nat)) from WrsV.nil_)
  have HRL := Lib.hid (show readR bs = if e6 = false ∧ b6 = bs.length ∧ mayR ({ zRc with kind := 3, name := ⟨z1, z2, z3⟩, yes := yy } : Rc) = true then some ({ zRc with kind := 3, name := ⟨z1, z2, z3⟩, yes := yy } : Rc) else none from by
    refine read_link ?_ S7.out.1.at_
    rw [show rdRest bs = _ from by rw [HBs.out, rdRest_3]]
    have h := L4.out.bind (g := fun nm q => bind7 (rdFlag q) fun y q1 => some (({ zRc with kind := 3, name := nm, yes := y } : Rc), q1)) (L6.out.bind (Lnk.pure _))
    rw [HT1.out] at h
    exact h)
  have HFs := Lib.hid (show WrFine ([] : List (Int × List Nat)) from fun _ h => absurd h (by simp))
  have HLn := Lib.hid (show ([] : List (Int × List Nat)).length ≤ 1000000 from by simp)
  have HSh := Lib.hid (show I64 0 from by unfold I64; omega)
  cases e6 with
  | true =>
    have HNo := Lib.hid (show readR bs = none from by rw [HRL.out, if_neg (by simp)])
    obtain ⟨p0, p1, p2, pf⟩ := S7.out.1.cells
    clear pf
    go_wp2_with (first
      | (refine wpList_store_one rfl 4 _ _ rfl w2.heap.size 4 rfl (.bool yy) rfl 29 [.int .i8 3, .int .i64 z1, .int .i64 z2, .int .i64 z3] (.bool false) [.slice none 0 0, .int .i64 0, .int .i64 0, .int .i64 0, .int .i64 0, .int .i64 0, .int .i64 0] S6.out.2.1 rfl Try.size1b rfl rfl ?_; change wpList _ _ _ _ _ (w6.setRow w2.heap.size #[.int .i8 3, .int .i64 z1, .int .i64 z2, .int .i64 z3, .bool yy, .slice none 0 0, .int .i64 0, .int .i64 0, .int .i64 0, .int .i64 0, .int .i64 0, .int .i64 0]); rw [← HW7.out])
      | (refine wpList_store_row rfl 29 (.tmp 2) _ rfl w.heap.size #[.int .i8 0, .int .i64 0, .int .i64 0, .int .i64 0, .bool false, .slice none 0 0, .int .i64 0, .int .i64 0, .int .i64 0, .int .i64 0, .int .i64 0, .int .i64 0] rfl rfl 29 #[.int .i8 0, .int .i64 0, .int .i64 0, .int .i64 0, .bool false, .slice none 0 0, .int .i64 0, .int .i64 0, .int .i64 0, .int .i64 0, .int .i64 0, .int .i64 0] S7.out.2.2.1 (Try.info12 _ _ _ _ _ _ _ _ _ _ _ _ _ _) (size12 _ _ _ _ _ _ _ _ _ _ _ _ _ _ _ _ _ _ _ _ _ _ _ _ _ _ _ _) (one12 _ _ _ _ _ _ _ _ _ _ _ _ _ _) ?_))
    exact bodyPost_ret (results_cell_tmp (t := 29) (p := 2) (u := 3) rfl _ _ w.heap.size #[.int .i8 0, .int .i64 0, .int .i64 0, .int .i64 0, .bool false, .slice none 0 0, .int .i64 0, .int .i64 0, .int .i64 0, .int .i64 0, .int .i64 0, .int .i64 0] (0, 0) _ rfl (setRow_heap _ _ _ _ _ _ S7.out.2.2.1) Try.underlying29 rfl (Try.info12 _ _ _ _ _ _ _ _ _ _ _ _ _ _)) rfl (ReadTell.no HNo.out (below_setRow S7.out.2.2.2 (Nat.le_refl _) _))
  | false =>
    by_cases hat : b6 = bs.length
    · have HMay := Lib.hid (may_any ({ zRc with kind := 3, name := ⟨z1, z2, z3⟩, yes := yy } : Rc) none 0 w7 (fun b => w2.heap.size < b) VT.out.at_ HFs.out HLn.out HSh.out)
      have HRL2 := HRL.out
      obtain ⟨mb, hmb⟩ : ∃ mb, mb = mayR ({ zRc with kind := 3, name := ⟨z1, z2, z3⟩, yes := yy } : Rc) := ⟨_, rfl⟩
      rw [← hmb] at HMay HRL2
      have HRM := Lib.hid HRL2
      have hati : (b6 : Int) = (bs.length : Int) := by omega
      have qq := row_lit (cs := (#[.int .i8 3, .int .i64 z1, .int .i64 z2, .int .i64 z3, .bool yy, .slice none 0 0, .int .i64 0, .int .i64 0, .int .i64 0, .int .i64 0, .int .i64 0, .int .i64 0] : Array Value).toList) S7.out.2.1
      have q0 := qq 0 _ rfl
      have q1 := qq 1 _ rfl
      have q2 := qq 2 _ rfl
      have q3 := qq 3 _ rfl
      have q4 := qq 4 _ rfl
      have q5 := qq 5 _ rfl
      have q6 := qq 6 _ rfl
      have q7 := qq 7 _ rfl
      have q8 := qq 8 _ rfl
      have q9 := qq 9 _ rfl
      have q10 := qq 10 _ rfl
      have q11 := qq 11 _ rfl
      clear qq hmb HRL2
      obtain ⟨p0, p1, p2, pf⟩ := S7.out.1.cells
      clear pf
      go_wp2_with (first
        | (refine wpList_store_one rfl 4 _ _ rfl w2.heap.size 4 rfl (.bool yy) rfl 29 [.int .i8 3, .int .i64 z1, .int .i64 z2, .int .i64 z3] (.bool false) [.slice none 0 0, .int .i64 0, .int .i64 0, .int .i64 0, .int .i64 0, .int .i64 0, .int .i64 0] S6.out.2.1 rfl Try.size1b rfl rfl ?_; change wpList _ _ _ _ _ (w6.setRow w2.heap.size #[.int .i8 3, .int .i64 z1, .int .i64 z2, .int .i64 z3, .bool yy, .slice none 0 0, .int .i64 0, .int .i64 0, .int .i64 0, .int .i64 0, .int .i64 0, .int .i64 0]); rw [← HW7.out]))
      refine HMay.out.mono ?_
      rintro e wm ⟨rfl, hb6⟩
      have SM := Lib.hid (S7.out.below hb6)
      have HWm := Lib.hid (VT.out.below hb6)
      have HXm := Lib.hid (S7.out.2.1)
      clear q0 q1 q2 q3 q4 q5 q6 q7 q8 q9 q10 q11
      clear p0 p1 p2 hb6
      cases mb with
      | false =>
        have HNo := Lib.hid (show readR bs = none from by rw [HRM.out, if_neg (by simp)])
        go_wp2_with (first
          | fail
          | (refine wpList_store_row rfl 29 (.tmp 2) _ rfl w.heap.size #[.int .i8 0, .int .i64 0, .int .i64 0, .int .i64 0, .bool false, .slice none 0 0, .int .i64 0, .int .i64 0, .int .i64 0, .int .i64 0, .int .i64 0, .int .i64 0] rfl rfl 29 #[.int .i8 0, .int .i64 0, .int .i64 0, .int .i64 0, .bool false, .slice none 0 0, .int .i64 0, .int .i64 0, .int .i64 0, .int .i64 0, .int .i64 0, .int .i64 0] SM.out.2.2.1 (Try.info12 _ _ _ _ _ _ _ _ _ _ _ _ _ _) (size12 _ _ _ _ _ _ _ _ _ _ _ _ _ _ _ _ _ _ _ _ _ _ _ _ _ _ _ _) (one12 _ _ _ _ _ _ _ _ _ _ _ _ _ _) ?_))
        exact bodyPost_ret (results_cell_tmp (t := 29) (p := 2) (u := 3) rfl _ _ w.heap.size #[.int .i8 0, .int .i64 0, .int .i64 0, .int .i64 0, .bool false, .slice none 0 0, .int .i64 0, .int .i64 0, .int .i64 0, .int .i64 0, .int .i64 0, .int .i64 0] (0, 0) _ rfl (setRow_heap _ _ _ _ _ _ SM.out.2.2.1) Try.underlying29 rfl (Try.info12 _ _ _ _ _ _ _ _ _ _ _ _ _ _)) rfl (ReadTell.no HNo.out (below_setRow SM.out.2.2.2 (Nat.le_refl _) _))
      | true =>
        have HYes := Lib.hid (show readR bs = some ({ zRc with kind := 3, name := ⟨z1, z2, z3⟩, yes := yy } : Rc) from by rw [HRM.out, if_pos (by simp [hat])])
        go_wp2_with (first
          | (refine wpList_load_part rfl 29 _ rfl w2.heap.size 0 rfl (#[.int .i8 3, .int .i64 z1, .int .i64 z2, .int .i64 z3, .bool yy, .slice none 0 0, .int .i64 0, .int .i64 0, .int .i64 0, .int .i64 0, .int .i64 0, .int .i64 0] : Array Value).toList _ (row_lit SM.out.2.1) Try.underlying29 rfl Try.sizeR ?_)
          | (refine wpList_store_row rfl 29 (.tmp 2) _ rfl w.heap.size #[.int .i8 3, .int .i64 z1, .int .i64 z2, .int .i64 z3, .bool yy, .slice none 0 0, .int .i64 0, .int .i64 0, .int .i64 0, .int .i64 0, .int .i64 0, .int .i64 0] rfl rfl 29 #[.int .i8 0, .int .i64 0, .int .i64 0, .int .i64 0, .bool false, .slice none 0 0, .int .i64 0, .int .i64 0, .int .i64 0, .int .i64 0, .int .i64 0, .int .i64 0] SM.out.2.2.1 (Try.info12 _ _ _ _ _ _ _ _ _ _ _ _ _ _) (size12 _ _ _ _ _ _ _ _ _ _ _ _ _ _ _ _ _ _ _ _ _ _ _ _ _ _ _ _) (one12 _ _ _ _ _ _ _ _ _ _ _ _ _ _) ?_))
        exact bodyPost_ret (results_cell_tmp (t := 29) (p := 2) (u := 3) rfl _ _ w.heap.size #[.int .i8 3, .int .i64 z1, .int .i64 z2, .int .i64 z3, .bool yy, .slice none 0 0, .int .i64 0, .int .i64 0, .int .i64 0, .int .i64 0, .int .i64 0, .int .i64 0] (0, 0) _ rfl (setRow_heap _ _ _ _ _ _ SM.out.2.2.1) Try.underlying29 rfl (Try.info12 _ _ _ _ _ _ _ _ _ _ _ _ _ _)) rfl (ReadTell.yes (r := ({ zRc with kind := 3, name := ⟨z1, z2, z3⟩, yes := yy } : Rc)) HYes.out (HWm.out.out (fun b hb => setRow_other _ _ _ _ (by have := HX2.out; omega)) (by simp) (by have := HX2.out; omega)) HFs.out (below_setRow SM.out.2.2.2 (Nat.le_refl _) _))
    · have hati : ¬ (b6 : Int) = (bs.length : Int) := by omega
      have HNo := Lib.hid (show readR bs = none from by rw [HRL.out, if_neg (fun h => hat h.2.1)])
      obtain ⟨p0, p1, p2, pf⟩ := S7.out.1.cells
      clear pf
      go_wp2_with (first
        | (refine wpList_store_one rfl 4 _ _ rfl w2.heap.size 4 rfl (.bool yy) rfl 29 [.int .i8 3, .int .i64 z1, .int .i64 z2, .int .i64 z3] (.bool false) [.slice none 0 0, .int .i64 0, .int .i64 0, .int .i64 0, .int .i64 0, .int .i64 0, .int .i64 0] S6.out.2.1 rfl Try.size1b rfl rfl ?_; change wpList _ _ _ _ _ (w6.setRow w2.heap.size #[.int .i8 3, .int .i64 z1, .int .i64 z2, .int .i64 z3, .bool yy, .slice none 0 0, .int .i64 0, .int .i64 0, .int .i64 0, .int .i64 0, .int .i64 0, .int .i64 0]); rw [← HW7.out])
        | (refine wpList_store_row rfl 29 (.tmp 2) _ rfl w.heap.size #[.int .i8 0, .int .i64 0, .int .i64 0, .int .i64 0, .bool false, .slice none 0 0, .int .i64 0, .int .i64 0, .int .i64 0, .int .i64 0, .int .i64 0, .int .i64 0] rfl rfl 29 #[.int .i8 0, .int .i64 0, .int .i64 0, .int .i64 0, .bool false, .slice none 0 0, .int .i64 0, .int .i64 0, .int .i64 0, .int .i64 0, .int .i64 0, .int .i64 0] S7.out.2.2.1 (Try.info12 _ _ _ _ _ _ _ _ _ _ _ _ _ _) (size12 _ _ _ _ _ _ _ _ _ _ _ _ _ _ _ _ _ _ _ _ _ _ _ _ _ _ _ _) (one12 _ _ _ _ _ _ _ _ _ _ _ _ _ _) ?_))
      exact bodyPost_ret (results_cell_tmp (t := 29) (p := 2) (u := 3) rfl _ _ w.heap.size #[.int .i8 0, .int .i64 0, .int .i64 0, .int .i64 0, .bool false, .slice none 0 0, .int .i64 0, .int .i64 0, .int .i64 0, .int .i64 0, .int .i64 0, .int .i64 0] (0, 0) _ rfl (setRow_heap _ _ _ _ _ _ S7.out.2.2.1) Try.underlying29 rfl (Try.info12 _ _ _ _ _ _ _ _ _ _ _ _ _ _)) rfl (ReadTell.no HNo.out (below_setRow S7.out.2.2.2 (Nat.le_refl _) _))
set_option maxHeartbeats 8000000 in
theorem read_8 (k : Nat) (t bs : List Nat) (hbs : bs = k :: t) (hk : k < 128) (ho : k = 0 ∨ 8 ≤ k) (A : Option Addr) (c : Nat) (w : World) (hA : By w w.heap.size A bs) (hl : bs.length ≤ 1000000) :
    Calls Try.prog 25 #[.slice A bs.length c] w (ReadTell w bs) := by
  have HB := Lib.hid (fun W B p a d (h : Rd W B p A bs c a d) => byte_any W B p A bs c a d h hl)
  have HT := Lib.hid (fun W B p a d (h : Rd W B p A bs c a d) => rthree_any W B p A bs c a d h hl)
  have HNm := Lib.hid (fun W B p a d (h : Rd W B p A bs c a d) => rname_any W B p A bs c a d h hl)
  have HWr := Lib.hid (fun W B p a d (h : Rd W B p A bs c a d) => rwrites_any W B p A bs c a d h hl)
  have HFl := Lib.hid (fun W B p a d (h : Rd W B p A bs c a d) => rflag_any W B p A bs c a d h hl)
  obtain ⟨w1, hw1⟩ : ∃ w1, w1 = (w.alloc (.cells #[.int .i8 0, .int .i64 0, .int .i64 0, .int .i64 0, .bool false, .slice none 0 0, .int .i64 0, .int .i64 0, .int .i64 0, .int .i64 0, .int .i64 0, .int .i64 0] 29)).alloc (.cells #[.slice A bs.length c, .int .i64 0, .bool false] 76) := ⟨_, rfl⟩
  have hb1 : Below w.heap.size w w1 := by rw [hw1]; exact ((Below.refl w.heap.size w).alloc (Nat.le_refl _) _).alloc (by simp) _
  have hz1 : w1.heap.size = w.heap.size + 2 := by rw [hw1]; simp
  have g0 : w1.heap[w.heap.size]? = some (.cells #[.int .i8 0, .int .i64 0, .int .i64 0, .int .i64 0, .bool false, .slice none 0 0, .int .i64 0, .int .i64 0, .int .i64 0, .int .i64 0, .int .i64 0, .int .i64 0] 29 (0, 0)) := by rw [hw1]; exact heap_alloc2_old w _ _
  have g1 : w1.heap[w.heap.size + 1]? = some (.cells #[.slice A bs.length c, .int .i64 0, .bool false] 76 (0, 0)) := by rw [hw1]; exact heap_alloc2_new w _ _
  have HR1 := Lib.hid (show Rd w1 w.heap.size (w.heap.size + 1) A bs c 0 false from ⟨g1, hA.below hb1 (Nat.le_refl _), by omega, Nat.zero_le _⟩)
  obtain ⟨b, off, rfl, hbw, hcl⟩ := hA.at_ (by rw [hbs]; simp)
  have HC := Lib.hid (show ∀ X, Below w.heap.size w X → X.cell? ⟨b, off, none⟩ = some (.int .u8 (k : Int)) from fun X hX => by
    have h := (hX.cell (p := ⟨b, off + 0, none⟩) hbw).trans (hcl 0 (by rw [hbs]; simp))
    rw [hbs] at h
    exact h)
  have hl0 : (0 : Int) < (bs.length : Int) := by rw [hbs]; simp
  have hl0' : 0 < bs.length := by rw [hbs]; simp
  have HG0 := Lib.hid g0
  have HB1 := Lib.hid hb1
  have HZ1 := Lib.hid hz1
  have HW1 := Lib.hid hw1
  have HBs := Lib.hid hbs
  clear hw1 hb1 hz1 g0 g1 hA hcl hbw hl hbs
  go_enter Try.func25, Try.ntmps25
  go_wp2_with (rw [← HW1.out])
  refine (HB.out _ _ _ _ _ HR1.out).mono ?_
  rintro e w2 ⟨x, a1, d1, rfl, hx, hr2, hk2, hl2⟩
  obtain ⟨rfl, rfl, HT1⟩ : x = (k : Int) ∧ d1 = false ∧ Hid (bs.drop a1 = t) := by
    rcases hl2.2 rfl with ⟨q, h1, h2, h3⟩ | ⟨h1, _⟩
    · rw [List.drop_zero, HBs.out] at h1
      simp only [rdOne, Option.some.injEq, Prod.mk.injEq] at h1
      exact ⟨h1.1.symm, h2, Lib.hid (by rw [← h3, ← h1.2])⟩
    · rw [List.drop_zero, HBs.out] at h1
      cases h1
  have hb2 : Below w.heap.size w w2 := HB1.out.trans (hk2.to_below (by have := HZ1.out; omega) (fun k h e => by omega))
  obtain ⟨w3, hw3⟩ : ∃ w3, w3 = w2.alloc (.cells #[.int .i8 (k : Int), .int .i64 0, .int .i64 0, .int .i64 0, .bool false, .slice none 0 0, .int .i64 0, .int .i64 0, .int .i64 0, .int .i64 0, .int .i64 0, .int .i64 0] 29) := ⟨_, rfl⟩
  have hb3 : Below w2.heap.size w2 w3 := by rw [hw3]; exact (Below.refl _ w2).alloc (Nat.le_refl _) _
  have hx3 : w3.heap[w2.heap.size]? = some (.cells #[.int .i8 (k : Int), .int .i64 0, .int .i64 0, .int .i64 0, .bool false, .slice none 0 0, .int .i64 0, .int .i64 0, .int .i64 0, .int .i64 0, .int .i64 0, .int .i64 0] 29 (0, 0)) := by rw [hw3]; exact heap_alloc_new w2 _
  have HX2 := Lib.hid (show w.heap.size + 2 ≤ w2.heap.size by have := hk2.size; have := HZ1.out; omega)
  have hb3' : Below w.heap.size w w3 := hb2.trans (hb3.mono hb2.size)
  have S3 := Lib.hid (show St7 w w2.heap.size (some ⟨b, off, none⟩) bs c w3 #[.int .i8 (k : Int), .int .i64 0, .int .i64 0, .int .i64 0, .bool false, .slice none 0 0, .int .i64 0, .int .i64 0, .int .i64 0, .int .i64 0, .int .i64 0, .int .i64 0] a1 false from ⟨hr2.below hb3 (by have := HX2.out; omega), hx3, (hb3.block _ (by have := HX2.out; omega)).trans ((hk2.block _ (by have := HZ1.out; omega) (by omega)).trans HG0.out), hb3'⟩)
  have hc3 := HC.out w3 hb3'
  have x0 : w3.cell? ⟨w2.heap.size, 0, none⟩ = some (.int .i8 (k : Int)) := by rw [cell_of_row w3 _ 0 _ _ _ hx3]; rfl
  have HW3 := Lib.hid hw3
  clear hr2 hk2 hl2 hx hb2 hw3 hb3 hx3 hb3'
  have hand : bits .and .i64 (k : Int) 127 = (k : Int) := by rw [and127 (by omega), Nat.mod_eq_of_lt hk]
  have hwK : IntKind.i8.wrap (k : Int) = (k : Int) := i8_low (by omega)
  have n1 : ¬ (k : Int) = 1 := by omega
  have b1 : ((k : Int) == 1) = false := by rw [beq_eq_false_iff_ne]; omega
  have n2 : ¬ (k : Int) = 2 := by omega
  have b2 : ((k : Int) == 2) = false := by rw [beq_eq_false_iff_ne]; omega
  have n3 : ¬ (k : Int) = 3 := by omega
  have b3 : ((k : Int) == 3) = false := by rw [beq_eq_false_iff_ne]; omega
  have n4 : ¬ (k : Int) = 4 := by omega
  have b4 : ((k : Int) == 4) = false := by rw [beq_eq_false_iff_ne]; omega
  have n6 : ¬ (k : Int) = 6 := by omega
  have b6 : ((k : Int) == 6) = false := by rw [beq_eq_false_iff_ne]; omega
  have n7 : ¬ (k : Int) = 7 := by omega
  have b7 : ((k : Int) == 7) = false := by rw [beq_eq_false_iff_ne]; omega
  have n8 : ¬ (127 : Int) < (k : Int) := by omega
  have HKo := Lib.hid ho
  clear ho hk
  go_wp2_with (first
    | (rw [← HW3.out]))
  refine (HNm.out _ _ _ _ _ S3.out.1).mono ?_
  rintro e w4 ⟨nm, b4, e4, rfl, hn, hr, hk, hlk⟩
  have S4 := Lib.hid (S3.out.call hr hk HX2.out)
  have L4 := Lib.hid hlk
  obtain ⟨z1, z2, z3⟩ := nm
  simp only [nmv]
  clear hn
  clear hr hk hlk
  obtain ⟨w5, hw5⟩ : ∃ w5, w5 = w4.setRow w2.heap.size #[.int .i8 (k : Int), .int .i64 z1, .int .i64 z2, .int .i64 z3, .bool false, .slice none 0 0, .int .i64 0, .int .i64 0, .int .i64 0, .int .i64 0, .int .i64 0, .int .i64 0] := ⟨_, rfl⟩
  have S5 := Lib.hid (show St7 w w2.heap.size (some ⟨b, off, none⟩) bs c w5 #[.int .i8 (k : Int), .int .i64 z1, .int .i64 z2, .int .i64 z3, .bool false, .slice none 0 0, .int .i64 0, .int .i64 0, .int .i64 0, .int .i64 0, .int .i64 0, .int .i64 0] _ _ from by rw [hw5]; exact S4.out.set HX2.out _)
  have HW5 := Lib.hid hw5
  clear hw5
  have y0 : w5.cell? ⟨w2.heap.size, 0, none⟩ = some (.int .i8 (k : Int)) := by rw [cell_of_row w5 _ 0 _ _ _ S5.out.2.1]; rfl
  have hcn := HC.out w5 S5.out.2.2.2
  have VT := Lib.hid (show WrsV w5 (fun b => w2.heap.size < b) none 0 ([] : List (Int × List Nat)) from WrsV.nil_)
  have HRL := Lib.hid (show readR bs = if e4 = false ∧ b4 = bs.length ∧ mayR ({ zRc with kind := (k : Int), name := ⟨z1, z2, z3⟩ } : Rc) = true then some ({ zRc with kind := (k : Int), name := ⟨z1, z2, z3⟩ } : Rc) else none from by
    rw [HBs.out, readR_other HKo.out, if_neg (fun h => may_other (show (k : Int) = 0 ∨ 8 ≤ (k : Int) from by have := HKo.out; omega) h.2.2)])
  have HFs := Lib.hid (show WrFine ([] : List (Int × List Nat)) from fun _ h => absurd h (by simp))
  have HLn := Lib.hid (show ([] : List (Int × List Nat)).length ≤ 1000000 from by simp)
  have HSh := Lib.hid (show I64 0 from by unfold I64; omega)
  cases e4 with
  | true =>
    have HNo := Lib.hid (show readR bs = none from by rw [HRL.out, if_neg (by simp)])
    obtain ⟨p0, p1, p2, pf⟩ := S5.out.1.cells
    clear pf
    go_wp2_with (first
      | (refine wpList_store_part rfl 24 _ _ rfl w2.heap.size 1 rfl [.int .i64 z1, .int .i64 z2, .int .i64 z3] rfl 29 [.int .i8 (k : Int)] [.int .i64 0, .int .i64 0, .int .i64 0] [.bool false, .slice none 0 0, .int .i64 0, .int .i64 0, .int .i64 0, .int .i64 0, .int .i64 0, .int .i64 0] S4.out.2.1 rfl rfl Try.sizeN (by simp [Value.oneCell']) ?_; change wpList _ _ _ _ _ (w4.setRow w2.heap.size #[.int .i8 (k : Int), .int .i64 z1, .int .i64 z2, .int .i64 z3, .bool false, .slice none 0 0, .int .i64 0, .int .i64 0, .int .i64 0, .int .i64 0, .int .i64 0, .int .i64 0]); rw [← HW5.out])
      | (refine wpList_store_row rfl 29 (.tmp 2) _ rfl w.heap.size #[.int .i8 0, .int .i64 0, .int .i64 0, .int .i64 0, .bool false, .slice none 0 0, .int .i64 0, .int .i64 0, .int .i64 0, .int .i64 0, .int .i64 0, .int .i64 0] rfl rfl 29 #[.int .i8 0, .int .i64 0, .int .i64 0, .int .i64 0, .bool false, .slice none 0 0, .int .i64 0, .int .i64 0, .int .i64 0, .int .i64 0, .int .i64 0, .int .i64 0] S5.out.2.2.1 (Try.info12 _ _ _ _ _ _ _ _ _ _ _ _ _ _) (size12 _ _ _ _ _ _ _ _ _ _ _ _ _ _ _ _ _ _ _ _ _ _ _ _ _ _ _ _) (one12 _ _ _ _ _ _ _ _ _ _ _ _ _ _) ?_))
    exact bodyPost_ret (results_cell_tmp (t := 29) (p := 2) (u := 3) rfl _ _ w.heap.size #[.int .i8 0, .int .i64 0, .int .i64 0, .int .i64 0, .bool false, .slice none 0 0, .int .i64 0, .int .i64 0, .int .i64 0, .int .i64 0, .int .i64 0, .int .i64 0] (0, 0) _ rfl (setRow_heap _ _ _ _ _ _ S5.out.2.2.1) Try.underlying29 rfl (Try.info12 _ _ _ _ _ _ _ _ _ _ _ _ _ _)) rfl (ReadTell.no HNo.out (below_setRow S5.out.2.2.2 (Nat.le_refl _) _))
  | false =>
    by_cases hat : b4 = bs.length
    · have HMay := Lib.hid (may_any ({ zRc with kind := (k : Int), name := ⟨z1, z2, z3⟩ } : Rc) none 0 w5 (fun b => w2.heap.size < b) VT.out.at_ HFs.out HLn.out HSh.out)
      have HRL2 := HRL.out
      obtain ⟨mb, hmb⟩ : ∃ mb, mb = mayR ({ zRc with kind := (k : Int), name := ⟨z1, z2, z3⟩ } : Rc) := ⟨_, rfl⟩
      rw [← hmb] at HMay HRL2
      have HRM := Lib.hid HRL2
      have hati : (b4 : Int) = (bs.length : Int) := by omega
      have qq := row_lit (cs := (#[.int .i8 (k : Int), .int .i64 z1, .int .i64 z2, .int .i64 z3, .bool false, .slice none 0 0, .int .i64 0, .int .i64 0, .int .i64 0, .int .i64 0, .int .i64 0, .int .i64 0] : Array Value).toList) S5.out.2.1
      have q0 := qq 0 _ rfl
      have q1 := qq 1 _ rfl
      have q2 := qq 2 _ rfl
      have q3 := qq 3 _ rfl
      have q4 := qq 4 _ rfl
      have q5 := qq 5 _ rfl
      have q6 := qq 6 _ rfl
      have q7 := qq 7 _ rfl
      have q8 := qq 8 _ rfl
      have q9 := qq 9 _ rfl
      have q10 := qq 10 _ rfl
      have q11 := qq 11 _ rfl
      clear qq hmb HRL2
      obtain ⟨p0, p1, p2, pf⟩ := S5.out.1.cells
      clear pf
      go_wp2_with (first
        | (refine wpList_store_part rfl 24 _ _ rfl w2.heap.size 1 rfl [.int .i64 z1, .int .i64 z2, .int .i64 z3] rfl 29 [.int .i8 (k : Int)] [.int .i64 0, .int .i64 0, .int .i64 0] [.bool false, .slice none 0 0, .int .i64 0, .int .i64 0, .int .i64 0, .int .i64 0, .int .i64 0, .int .i64 0] S4.out.2.1 rfl rfl Try.sizeN (by simp [Value.oneCell']) ?_; change wpList _ _ _ _ _ (w4.setRow w2.heap.size #[.int .i8 (k : Int), .int .i64 z1, .int .i64 z2, .int .i64 z3, .bool false, .slice none 0 0, .int .i64 0, .int .i64 0, .int .i64 0, .int .i64 0, .int .i64 0, .int .i64 0]); rw [← HW5.out]))
      refine HMay.out.mono ?_
      rintro e wm ⟨rfl, hb6⟩
      have SM := Lib.hid (S5.out.below hb6)
      have HWm := Lib.hid (VT.out.below hb6)
      have HXm := Lib.hid (S5.out.2.1)
      clear q0 q1 q2 q3 q4 q5 q6 q7 q8 q9 q10 q11
      clear p0 p1 p2 hb6
      cases mb with
      | false =>
        have HNo := Lib.hid (show readR bs = none from by rw [HRM.out, if_neg (by simp)])
        go_wp2_with (first
          | fail
          | (refine wpList_store_row rfl 29 (.tmp 2) _ rfl w.heap.size #[.int .i8 0, .int .i64 0, .int .i64 0, .int .i64 0, .bool false, .slice none 0 0, .int .i64 0, .int .i64 0, .int .i64 0, .int .i64 0, .int .i64 0, .int .i64 0] rfl rfl 29 #[.int .i8 0, .int .i64 0, .int .i64 0, .int .i64 0, .bool false, .slice none 0 0, .int .i64 0, .int .i64 0, .int .i64 0, .int .i64 0, .int .i64 0, .int .i64 0] SM.out.2.2.1 (Try.info12 _ _ _ _ _ _ _ _ _ _ _ _ _ _) (size12 _ _ _ _ _ _ _ _ _ _ _ _ _ _ _ _ _ _ _ _ _ _ _ _ _ _ _ _) (one12 _ _ _ _ _ _ _ _ _ _ _ _ _ _) ?_))
        exact bodyPost_ret (results_cell_tmp (t := 29) (p := 2) (u := 3) rfl _ _ w.heap.size #[.int .i8 0, .int .i64 0, .int .i64 0, .int .i64 0, .bool false, .slice none 0 0, .int .i64 0, .int .i64 0, .int .i64 0, .int .i64 0, .int .i64 0, .int .i64 0] (0, 0) _ rfl (setRow_heap _ _ _ _ _ _ SM.out.2.2.1) Try.underlying29 rfl (Try.info12 _ _ _ _ _ _ _ _ _ _ _ _ _ _)) rfl (ReadTell.no HNo.out (below_setRow SM.out.2.2.2 (Nat.le_refl _) _))
      | true =>
        have HYes := Lib.hid (show readR bs = some ({ zRc with kind := (k : Int), name := ⟨z1, z2, z3⟩ } : Rc) from by rw [HRM.out, if_pos (by simp [hat])])
        go_wp2_with (first
          | (refine wpList_load_part rfl 29 _ rfl w2.heap.size 0 rfl (#[.int .i8 (k : Int), .int .i64 z1, .int .i64 z2, .int .i64 z3, .bool false, .slice none 0 0, .int .i64 0, .int .i64 0, .int .i64 0, .int .i64 0, .int .i64 0, .int .i64 0] : Array Value).toList _ (row_lit SM.out.2.1) Try.underlying29 rfl Try.sizeR ?_)
          | (refine wpList_store_row rfl 29 (.tmp 2) _ rfl w.heap.size #[.int .i8 (k : Int), .int .i64 z1, .int .i64 z2, .int .i64 z3, .bool false, .slice none 0 0, .int .i64 0, .int .i64 0, .int .i64 0, .int .i64 0, .int .i64 0, .int .i64 0] rfl rfl 29 #[.int .i8 0, .int .i64 0, .int .i64 0, .int .i64 0, .bool false, .slice none 0 0, .int .i64 0, .int .i64 0, .int .i64 0, .int .i64 0, .int .i64 0, .int .i64 0] SM.out.2.2.1 (Try.info12 _ _ _ _ _ _ _ _ _ _ _ _ _ _) (size12 _ _ _ _ _ _ _ _ _ _ _ _ _ _ _ _ _ _ _ _ _ _ _ _ _ _ _ _) (one12 _ _ _ _ _ _ _ _ _ _ _ _ _ _) ?_))
        exact bodyPost_ret (results_cell_tmp (t := 29) (p := 2) (u := 3) rfl _ _ w.heap.size #[.int .i8 (k : Int), .int .i64 z1, .int .i64 z2, .int .i64 z3, .bool false, .slice none 0 0, .int .i64 0, .int .i64 0, .int .i64 0, .int .i64 0, .int .i64 0, .int .i64 0] (0, 0) _ rfl (setRow_heap _ _ _ _ _ _ SM.out.2.2.1) Try.underlying29 rfl (Try.info12 _ _ _ _ _ _ _ _ _ _ _ _ _ _)) rfl (ReadTell.yes (r := ({ zRc with kind := (k : Int), name := ⟨z1, z2, z3⟩ } : Rc)) HYes.out (HWm.out.out (fun b hb => setRow_other _ _ _ _ (by have := HX2.out; omega)) (by simp) (by have := HX2.out; omega)) HFs.out (below_setRow SM.out.2.2.2 (Nat.le_refl _) _))
    · have hati : ¬ (b4 : Int) = (bs.length : Int) := by omega
      have HNo := Lib.hid (show readR bs = none from by rw [HRL.out, if_neg (fun h => hat h.2.1)])
      obtain ⟨p0, p1, p2, pf⟩ := S5.out.1.cells
      clear pf
      go_wp2_with (first
        | (refine wpList_store_part rfl 24 _ _ rfl w2.heap.size 1 rfl [.int .i64 z1, .int .i64 z2, .int .i64 z3] rfl 29 [.int .i8 (k : Int)] [.int .i64 0, .int .i64 0, .int .i64 0] [.bool false, .slice none 0 0, .int .i64 0, .int .i64 0, .int .i64 0, .int .i64 0, .int .i64 0, .int .i64 0] S4.out.2.1 rfl rfl Try.sizeN (by simp [Value.oneCell']) ?_; change wpList _ _ _ _ _ (w4.setRow w2.heap.size #[.int .i8 (k : Int), .int .i64 z1, .int .i64 z2, .int .i64 z3, .bool false, .slice none 0 0, .int .i64 0, .int .i64 0, .int .i64 0, .int .i64 0, .int .i64 0, .int .i64 0]); rw [← HW5.out])
        | (refine wpList_store_row rfl 29 (.tmp 2) _ rfl w.heap.size #[.int .i8 0, .int .i64 0, .int .i64 0, .int .i64 0, .bool false, .slice none 0 0, .int .i64 0, .int .i64 0, .int .i64 0, .int .i64 0, .int .i64 0, .int .i64 0] rfl rfl 29 #[.int .i8 0, .int .i64 0, .int .i64 0, .int .i64 0, .bool false, .slice none 0 0, .int .i64 0, .int .i64 0, .int .i64 0, .int .i64 0, .int .i64 0, .int .i64 0] S5.out.2.2.1 (Try.info12 _ _ _ _ _ _ _ _ _ _ _ _ _ _) (size12 _ _ _ _ _ _ _ _ _ _ _ _ _ _ _ _ _ _ _ _ _ _ _ _ _ _ _ _) (one12 _ _ _ _ _ _ _ _ _ _ _ _ _ _) ?_))
      exact bodyPost_ret (results_cell_tmp (t := 29) (p := 2) (u := 3) rfl _ _ w.heap.size #[.int .i8 0, .int .i64 0, .int .i64 0, .int .i64 0, .bool false, .slice none 0 0, .int .i64 0, .int .i64 0, .int .i64 0, .int .i64 0, .int .i64 0, .int .i64 0] (0, 0) _ rfl (setRow_heap _ _ _ _ _ _ S5.out.2.2.1) Try.underlying29 rfl (Try.info12 _ _ _ _ _ _ _ _ _ _ _ _ _ _)) rfl (ReadTell.no HNo.out (below_setRow S5.out.2.2.2 (Nat.le_refl _) _))
end Go.Proofs.Ytaokhbodmodcgaa
end
