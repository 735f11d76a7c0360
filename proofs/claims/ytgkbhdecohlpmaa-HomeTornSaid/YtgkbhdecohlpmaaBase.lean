/-
  Bytes in memory, as lists of numbers below 256: what reads, what was made, what stays; strings of them; rows that are written in a loop.
-/
import Derived.Test.YtgkbhdecohlpmaaRows
import Derived.WalkKit
import Derived.WalkLawsBesides
import Derived.WalkSpells
import Derived.Lib.Hide
import Derived.Laws.CopyOwn
import Derived.Laws.AppendOwnNone
namespace Go.Proofs.Ytgkbhdecohlpmaa
set_option maxRecDepth 100000
open Go.RowKit

theorem ret_int {k : IntKind} {a b : Int} (h : a = b) : Ending.returned (.int k a) = .returned (.int k b) := by rw [h]
theorem i64_bits (a : Nat) (ha : a < 9223372036854775808) : (BitVec.ofInt 64 (a : Int)).toNat = a := by rw [BitVec.toNat_ofInt]; omega
theorem i64_wraps (x : Nat) (h : x < 9223372036854775808) : IntKind.i64.wrap (x : Int) = (x : Int) := by rw [IntKind.wrap_i64]; omega
theorem i64_and_nat (a b : Nat) (ha : a < 9223372036854775808) (hb : b < 9223372036854775808) : bits .and .i64 (a : Int) (b : Int) = ((a &&& b : Nat) : Int) := by
  show IntKind.i64.wrap ((BitVec.ofInt 64 (a : Int) &&& BitVec.ofInt 64 (b : Int)).toNat : Nat) = _
  rw [BitVec.toNat_and, i64_bits a ha, i64_bits b hb]
  exact i64_wraps _ (Nat.lt_of_le_of_lt Nat.and_le_left ha)
theorem i64_or_nat (a b : Nat) (ha : a < 9223372036854775808) (hb : b < 9223372036854775808) : bits .or .i64 (a : Int) (b : Int) = ((a ||| b : Nat) : Int) := by
  show IntKind.i64.wrap ((BitVec.ofInt 64 (a : Int) ||| BitVec.ofInt 64 (b : Int)).toNat : Nat) = _
  rw [BitVec.toNat_or, i64_bits a ha, i64_bits b hb]
  exact i64_wraps _ (Nat.or_lt_two_pow (n := 63) ha hb)
theorem Try.info5 : (Try.prog.info? 5).map (fun i => (i.zero, i.size, i.bytes)) = some (some (.int .u8 0), 1, 1) := by kernel_rfl
theorem getD_at (l : List Nat) (k : Nat) (h : k < l.length) : l.getD k 0 = l[k] := by simp [List.getD, h]
theorem add_flat (b off n : Nat) : (⟨b, off, none⟩ : Addr).add n = ⟨b, off + n, none⟩ := by
  unfold Addr.add; split <;> simp_all

/-- The slice at A holds the bytes bs, in a block below B (asked for only where there is a byte). -/
def By (w : World) (B : Nat) (A : Option Addr) (bs : List Nat) : Prop :=
  (∀ x ∈ bs, x < 256) ∧ (0 < bs.length → ∃ b off, A = some ⟨b, off, none⟩ ∧ b < B ∧ ∀ j, j < bs.length → w.cell? ⟨b, off + j, none⟩ = some (.int .u8 (bs.getD j 0 : Nat)))

section
variable {w w' : World} {B B' : Nat} {A : Option Addr} {bs : List Nat}
theorem By.nil_ : By w B A [] := ⟨fun _ h => (List.not_mem_nil h).elim, fun h => absurd h (by simp)⟩
theorem By.keep (h : By w B A bs) (hk : ∀ p : Addr, p.block < B → w'.cell? p = w.cell? p) : By w' B A bs :=
  ⟨h.1, fun hn => by
    obtain ⟨b, off, e, hb, hc⟩ := h.2 hn
    exact ⟨b, off, e, hb, fun j hj => (hk _ hb).trans (hc j hj)⟩⟩
theorem By.mono (h : By w B A bs) (hB : B ≤ B') : By w B' A bs :=
  ⟨h.1, fun hn => by
    obtain ⟨b, off, e, hb, hc⟩ := h.2 hn
    exact ⟨b, off, e, by omega, hc⟩⟩
theorem By.below (h : By w B A bs) (hb : Below B' w w') (hB : B ≤ B') : By w' B A bs := h.keep fun _ hp => hb.cell (by omega)
theorem By.take (h : By w B A bs) (k : Nat) : By w B A (bs.take k) :=
  ⟨fun x hx => h.1 x (List.mem_of_mem_take hx), fun hn => by
    have hl : (bs.take k).length ≤ bs.length := List.length_take_le' _ _
    obtain ⟨b, off, e, hb, hc⟩ := h.2 (by omega)
    refine ⟨b, off, e, hb, fun j hj => ?_⟩
    rw [hc j (by omega)]
    have hj' : j < bs.length := by omega
    rw [getD_at _ _ hj', getD_at _ _ hj, List.getElem_take]⟩
theorem By.drop {c : Nat} (h : By w B A bs) (k : Nat) (hc : bs.length ≤ c) : By w B (if c = k then A else A.map (·.add k)) (bs.drop k) :=
  ⟨fun x hx => h.1 x (List.mem_of_mem_drop hx), fun hn => by
    rw [List.length_drop] at hn
    obtain ⟨b, off, e, hb, hcell⟩ := h.2 (by omega)
    refine ⟨b, off + k, ?_, hb, fun j hj => ?_⟩
    · rw [if_neg (by omega), e, Option.map_some, add_flat]
    · have hj' : k + j < bs.length := by rw [List.length_drop] at hj; omega
      rw [Nat.add_assoc, hcell _ hj', getD_at _ _ hj', getD_at _ _ hj, List.getElem_drop]⟩
theorem By.of_none (h : By w B A bs) (hA : A = none) : bs.length = 0 ∧ bs.length = 0 := by
  rcases Nat.eq_zero_or_pos bs.length with h0 | h0
  · exact ⟨h0, h0⟩
  · obtain ⟨_, _, e, _⟩ := h.2 h0
    rw [hA] at e; cases e
theorem By.at_ (h : By w B A bs) (hn : 0 < bs.length) : ∃ b off, A = some ⟨b, off, none⟩ ∧ b < B ∧ ∀ j, j < bs.length → w.cell? ⟨b, off + j, none⟩ = some (.int .u8 (bs.getD j 0 : Nat)) := h.2 hn
end

/-- bytes as values -/
def vals (bs : List Nat) : List Value := bs.map fun (n : Nat) => Value.int .u8 (n : Int)
theorem vals_length (bs : List Nat) : (vals bs).length = bs.length := List.length_map _
theorem vals_get {bs : List Nat} {j : Nat} {u : Value} (h : (vals bs)[j]? = some u) : j < bs.length ∧ u = .int .u8 (bs.getD j 0 : Nat) := by
  have hj : j < bs.length := by
    have := (List.getElem?_eq_some_iff.1 h).1
    rwa [vals_length] at this
  refine ⟨hj, ?_⟩
  unfold vals at h
  rw [List.getElem?_map, List.getElem?_eq_getElem hj, Option.map_some] at h
  rw [getD_at _ _ hj]
  exact (Option.some.inj h).symm
theorem vals_one {bs : List Nat} : ∀ u ∈ vals bs, u.oneCell' = true := by
  intro u hu
  obtain ⟨n, _, rfl⟩ := List.mem_map.1 hu
  rfl
theorem vals_append (a b : List Nat) : vals (a ++ b) = vals a ++ vals b := List.map_append
theorem By.vals {w : World} {B : Nat} {A : Option Addr} {bs : List Nat} (h : By w B A bs) : ∀ b, A = some b → ∀ j u, (vals bs)[j]? = some u → w.cell? (b.add j) = some u := by
  intro b hA j u hu
  obtain ⟨hj, rfl⟩ := vals_get hu
  obtain ⟨g, off, e, _, hc⟩ := h.at_ (by omega)
  rw [hA] at e
  obtain rfl := Option.some.inj e
  rw [add_flat]
  exact hc j hj
theorem By.src {w : World} {B : Nat} {A : Option Addr} {bs : List Nat} (h : By w B A bs) (h0 : 0 < (Go.Proofs.Ytgkbhdecohlpmaa.vals bs).length) : ∃ ad, A = some ad ∧ ∀ j v, (Go.Proofs.Ytgkbhdecohlpmaa.vals bs)[j]? = some v → w.cell? (ad.add j) = some v := by
  obtain ⟨b, off, e, _⟩ := h.at_ (by rwa [vals_length] at h0)
  exact ⟨_, e, h.vals _ e⟩
theorem By.of_row {w : World} {g : Nat} {bs : List Nat} {t : TypeId} {fr : Nat × Nat} {cs : Array Value} (hg : w.heap[g]? = some (.cells cs t fr)) (hc : cs.toList.take bs.length = Go.Proofs.Ytgkbhdecohlpmaa.vals bs) (hb : ∀ x ∈ bs, x < 256) : By w (g + 1) (some ⟨g, 0, none⟩) bs := by
  refine ⟨hb, fun _ => ⟨g, 0, rfl, by omega, fun j hj => ?_⟩⟩
  rw [Nat.zero_add, cell_of_row w g j cs t fr hg]
  have h := congrArg (·[j]?) hc
  simp only [List.getElem?_take, hj, if_true] at h
  rw [show cs[j]? = cs.toList[j]? by simp, h]
  unfold Go.Proofs.Ytgkbhdecohlpmaa.vals
  rw [List.getElem?_map, List.getElem?_eq_getElem hj, Option.map_some, getD_at _ _ hj]

/-- What the call made: a slice of its own that holds the bytes bs; nothing below has turned. -/
def New (w w' : World) (bs : List Nat) (v : Value) : Prop := w'.ownsRow w.heap.size 5 1 v bs.length (vals bs) ∧ Below w.heap.size w w'
theorem own_mono {w : World} {base base' : Nat} {e : TypeId} {size : Nat} {v : Value} {n : Nat} {xs : List Value} (h : w.ownsRow base e size v n xs) (hb : base' ≤ base) : w.ownsRow base' e size v n xs := by
  obtain ⟨h1, h2⟩ := h
  refine ⟨h1, ?_⟩
  rcases h2 with h2 | ⟨g, cap, cur, hv, hg, r⟩
  · exact Or.inl h2
  · exact Or.inr ⟨g, cap, cur, hv, by omega, r⟩
theorem grown_below {a w w' : World} (h : Below a.heap.size a w) (hg : w.grownBy w' none) : Below a.heap.size a w' := h.grown hg h.size (fun _ e => by cases e)
theorem own_ge {w : World} {base : Nat} {e : TypeId} {size : Nat} {v : Value} {n : Nat} {xs : List Value} (h : w.ownsRow base e size v n xs) : ∀ k, v.ownBlock = some k → base ≤ k := by
  intro k hk
  rcases h.2 with ⟨rfl, _⟩ | ⟨g, cap, cur, rfl, hg, _⟩
  · simp [Value.ownBlock] at hk
  · have : g = k := by simpa [Value.ownBlock] using hk
    omega
theorem new_cells {w : World} {nl xs : List Value} {t : TypeId} (h : nl = xs) : ∀ j u, xs[j]? = some u → (w.alloc (.cells nl.toArray t)).cell? ((⟨w.heap.size, 0, none⟩ : Addr).add j) = some u := by
  subst h
  intro j u hu
  rw [add_flat, Nat.zero_add, cell_of_row _ _ j _ _ _ (heap_alloc_new w (.cells nl.toArray t))]
  simpa using hu
theorem By.cut {w : World} {B : Nat} {A : Option Addr} {bs : List Nat} {c : Nat} (h : By w B A bs) (n : Nat) (hc : bs.length ≤ c) : ∃ A', By w B A' (bs.drop n) ∧ (c = n → A' = A) ∧ (¬ c = n → A' = A.map (·.add n)) :=
  ⟨if c = n then A else A.map (·.add n), h.drop n hc, fun e => if_pos e, fun e => if_neg e⟩
def strOf (s : ByteArray) (bs : List Nat) : ByteArray := bs.foldl (fun r n => r.push (UInt8.ofNat n)) s
/-- the bytes as a string -/
def str (bs : List Nat) : ByteArray := strOf ByteArray.empty bs
theorem fold_int (bs : List Nat) : ∀ s : ByteArray, (bs.map fun (n : Nat) => (n : Int)).foldl (fun r n => r.push (UInt8.ofNat n.toNat)) s = strOf s bs := by
  induction bs with
  | nil => intro s; rfl
  | cons a l ih => intro s; exact ih _

/-- string(b) for bytes in memory -/
theorem conv_str (w : World) {B : Nat} {A : Option Addr} {bs : List Nat} (h : By w B A bs) (c : Nat) :
    (convert 44 9 (.slice A bs.length c)).run Try.prog w = .ok (.string (str bs)) w := by
  rw [run_convert_bytes_string w 44 9 5 A bs.length c Try.underlying44 Try.underlying5 Try.underlying9]
  cases A with
  | none =>
    have h0 := (h.of_none rfl).1
    obtain rfl := List.eq_nil_of_length_eq_zero h0
    rfl
  | some a =>
    rw [run_bytesToString w a bs.length c (bs.map fun (n : Nat) => (n : Int))]
    · rw [fold_int]; rfl
    · have h1 := run_loadCells_list (P := Try.prog) w a (vals bs) (fun j v hv => h.vals a rfl j v hv)
      rw [vals_length] at h1
      rw [h1]
      simp [vals, List.map_map, Function.comp_def]

/-- The slice v reads as the bytes bs, here and in every world that keeps what is here. -/
def StrAt (w : World) (v : Value) (bs : List Nat) : Prop := ∀ W, Below w.heap.size w W → (convert 44 9 v).run Try.prog W = .ok (.string (str bs)) W
theorem StrAt.here {w : World} {v : Value} {bs : List Nat} (h : StrAt w v bs) : (convert 44 9 v).run Try.prog w = .ok (.string (str bs)) w := h w (Below.refl _ _)
theorem StrAt.later {w w' : World} {v : Value} {bs : List Nat} (h : StrAt w v bs) (hb : Below w.heap.size w w') : StrAt w' v bs := fun W hW => h W (hb.trans (hW.mono hb.size))
theorem By.strAt {w : World} {A : Option Addr} {bs : List Nat} {c : Nat} (h : By w w.heap.size A bs) : StrAt w (.slice A bs.length c) bs := fun W hW => conv_str W (h.below hW (Nat.le_refl _)) c

/-- What the call made, as a slice that reads as bytes. -/
theorem New.slice {w w' : World} {bs : List Nat} {v : Value} (h : New w w' bs v) (hb : ∀ x ∈ bs, x < 256) : ∃ A c, v = .slice A bs.length c ∧ By w' w'.heap.size A bs ∧ bs.length ≤ c ∧ c ≤ maxLen ∧ (A = none → c = 0) ∧ ∀ b, A = some b → w.heap.size ≤ b.block := by
  obtain ⟨⟨_, h2⟩, _⟩ := h
  rcases h2 with ⟨rfl, h0⟩ | ⟨g, cap, cur, rfl, hg, hh, hn, hc, hsz, ht⟩
  · obtain rfl := List.eq_nil_of_length_eq_zero h0
    exact ⟨none, 0, rfl, By.nil_, Nat.le_refl _, (by unfold maxLen; omega), (fun _ => rfl), (fun _ e => by cases e)⟩
  · refine ⟨some ⟨g, 0, none⟩, cap, rfl, ?_, hn, hc, (fun e => by cases e), (fun b e => by cases e; exact hg)⟩
    have hlt : g < w'.heap.size := by
      rcases Nat.lt_or_ge g w'.heap.size with h | h
      · exact h
      · rw [Array.getElem?_eq_none h] at hh; cases hh
    exact (By.of_row hh (by rw [Nat.mul_one] at ht; exact ht) hb).mono hlt
theorem New.strAt {w w' : World} {bs : List Nat} {v : Value} (h : New w w' bs v) (hb : ∀ x ∈ bs, x < 256) : StrAt w' v bs := by
  obtain ⟨A, c, rfl, hy, _⟩ := h.slice hb
  exact hy.strAt
/-- Block g holds n bytes, whichever. -/
def Wr (w : World) (g n : Nat) : Prop := ∃ cur, w.heap[g]? = some (.cells cur 5 (0, 0)) ∧ ∀ j, j < n → ∃ z : Nat, z < 256 ∧ cur[j]? = some (.int .u8 (z : Int))
theorem Wr.at_ {w : World} {g n j : Nat} (h : Wr w g n) (hj : j < n) : ∃ z : Nat, z < 256 ∧ w.cell? ⟨g, j, none⟩ = some (.int .u8 (z : Int)) ∧ w.frozen? ⟨g, j, none⟩ = false := by
  obtain ⟨cur, hg, hc⟩ := h
  obtain ⟨z, hz, e⟩ := hc j hj
  exact ⟨z, hz, by rw [cell_of_row w g j cur _ _ hg]; exact e, frozen_of_row w g j cur _ hg⟩
theorem Wr.set_ {w : World} {g n j z : Nat} (h : Wr w g n) (hz : z < 256) : Wr (w.setCell ⟨g, j, none⟩ (.int .u8 (z : Int))) g n := by
  obtain ⟨cur, hg, hc⟩ := h
  refine ⟨_, heap_setCell_same w g j cur _ _ hg, fun i hi => ?_⟩
  obtain ⟨y, hy, e⟩ := hc i hi
  have hlt : i < cur.size := (Array.getElem?_eq_some_iff.1 e).1
  by_cases hij : j = i
  · subst hij
    exact ⟨z, hz, by rw [Array.getElem?_setIfInBounds_self_of_lt hlt]⟩
  · exact ⟨y, hy, by rw [Array.getElem?_setIfInBounds_ne hij]; exact e⟩
theorem only_refl (w : World) (row : Option Nat) : w.grownBy w row := ⟨rfl, rfl, rfl, Nat.le_refl _, fun _ _ _ => rfl⟩
theorem only_set {a w : World} {g j : Nat} (h : a.grownBy w (some g)) (u : Value) : a.grownBy (w.setCell ⟨g, j, none⟩ u) (some g) :=
  ⟨h.os, h.tape, h.output, by simpa [World.setCell] using h.size, fun i hi hne => (Below.heap_setCell w ⟨g, j, none⟩ u i (fun e => hne (by rw [e]))).trans (h.block i hi hne)⟩
theorem only_below {a w : World} {g B : Nat} (h : a.grownBy w (some g)) (hB : B ≤ g) (hs : B ≤ a.heap.size) : Below B a w :=
  ⟨h.os, h.tape, h.output, h.size, fun k hk => h.block k (by omega) (fun e => by cases e; omega)⟩
/-- A slice in another block reads as it did. -/
theorem By.only {a w : World} {g : Nat} {B : Nat} {A : Option Addr} {bs : List Nat} (h : By a B A bs) (hB : B ≤ a.heap.size) (hg : a.grownBy w (some g)) (hne : ∀ b, A = some b → b.block ≠ g) : By w B A bs :=
  ⟨h.1, fun hn => by
    obtain ⟨b, off, e, hb, hc⟩ := h.2 hn
    exact ⟨b, off, e, hb, fun j hj => (World.cell?_of_block (w := a) (hg.block b (by omega) (fun e2 => hne _ e (by cases e2; rfl)))).trans (hc j hj)⟩⟩
/-- What the call made, as a block of its own. -/
theorem New.block {w w' : World} {bs : List Nat} {v : Value} (h : New w w' bs v) (hb : ∀ x ∈ bs, x < 256) (hn : 0 < bs.length) :
    ∃ g c, v = .slice (some ⟨g, 0, none⟩) bs.length c ∧ By w' w'.heap.size (some ⟨g, 0, none⟩) bs ∧ bs.length ≤ c ∧ c ≤ maxLen ∧ w.heap.size ≤ g ∧ g < w'.heap.size ∧ Wr w' g bs.length := by
  have h' := h
  obtain ⟨⟨_, h2⟩, _⟩ := h
  rcases h2 with ⟨_, h0⟩ | ⟨g, cap, cur, rfl, hg, hh, hle, hc, _, ht⟩
  · omega
  have hlt : g < w'.heap.size := by
    rcases Nat.lt_or_ge g w'.heap.size with h | h
    · exact h
    · rw [Array.getElem?_eq_none h] at hh; cases hh
  have hy : By w' w'.heap.size (some ⟨g, 0, none⟩) bs := (By.of_row hh (by rw [Nat.mul_one] at ht; exact ht) hb).mono hlt
  refine ⟨g, cap, rfl, hy, hle, hc, hg, hlt, cur, hh, fun j hj => ?_⟩
  obtain ⟨b, off, e, _, hcell⟩ := hy.at_ hn
  cases e
  have hj' := hcell j hj
  rw [Nat.zero_add, cell_of_row w' g j cur _ _ hh] at hj'
  exact ⟨bs.getD j 0, by rw [getD_at _ _ hj]; exact hb _ (List.getElem_mem hj), hj'⟩

/-- a slice of one's own, in a block from base on, that holds the bytes bs -/
def Own (w : World) (base : Nat) (bs : List Nat) (v : Value) : Prop := w.ownsRow base 5 1 v bs.length (vals bs)
theorem Own.nil_ (w : World) (base : Nat) : Own w base [] (.slice none 0 0) := ⟨rfl, Or.inl ⟨rfl, rfl⟩⟩
theorem Own.alloc {w : World} {base : Nat} {bs : List Nat} {v : Value} (h : Own w base bs v) (o : Obj) : Own (w.alloc o) base bs v := World.ownsRow.alloc h o
/-- append(v, d...), v one's own, d whatever bytes. -/
theorem append_by {w : World} {ops : Array Oper} {rest : List Oper} {o : Oper} {a : Act} {Q : Exit → Act → World → Prop} (hgd : o.guard = none) (s x : Operand)
    (ho : o.op = .call { callee := .builtin .append, args := #[s, x], argTypes := #[44, 44] }) (base : Nat) (bs ds : List Nat) (v : Value) (hs : a.eval s = v) (hown : Own w base bs v)
    (D : Option Addr) (m c : Nat) (hx : a.eval x = .slice D m c) (hm : m = ds.length) (B : Nat) (hD : By w B D ds) (hc : D = none → c = 0) (hl : bs.length + ds.length ≤ 1000000000) (w0 : World) (hb : Below base w0 w) (hbase : base ≤ w.heap.size)
    (h : ∀ v' w', Own w' base (bs ++ ds) v' → Below base w0 w' → wpList Try.prog ops Q rest (a.put o.dst v') w') : wpList Try.prog ops Q (o :: rest) a w := by
  obtain ⟨i0, hi, hz0, hz1, hz2⟩ := info_parts Try.info5
  subst hm
  cases D with
  | none =>
    have h0 := (hD.of_none rfl).1
    obtain rfl := List.eq_nil_of_length_eq_zero h0
    obtain rfl := hc rfl
    refine wpList_append_own_none hgd s x 44 ho base 5 i0 1 Try.underlying44 hi v bs.length (vals bs) hs hown hx ?_
    exact h v w (by rw [List.append_nil]; exact hown) hb
  | some ad =>
    refine wpList_append_own w hgd s x 44 ho base 5 i0 (.int .u8 0) 1 1 Try.underlying44 hi hz0 hz1 hz2 rfl (by decide) v bs.length (vals bs) hs hown ad ds.length c (vals ds) hx (by rw [vals_length, Nat.mul_one]) (hD.vals ad rfl) vals_one (by unfold maxLen; omega) (by omega) hbase ?_
    intro v' w' hown' hgrow _
    refine h v' w' ?_ (hb.grown hgrow hbase (own_ge hown))
    unfold Own
    rw [vals_append, List.length_append]
    exact hown'
/-- bytes of a new block -/
theorem by_made (w : World) (cs : Array Value) (ds : List Nat) (h : cs.toList = vals ds) (hb : ∀ x ∈ ds, x < 256) : By (w.alloc (.cells cs 5)) (w.heap.size + 1) (some ⟨w.heap.size, 0, none⟩) ds :=
  By.of_row (heap_alloc_new w _) (by rw [h]; exact List.take_of_length_le (by rw [vals_length]; exact Nat.le_refl _)) hb

/-- The slice at A holds the integers zs, in a block below B. -/
def Ints (w : World) (B : Nat) (A : Option Addr) (zs : List Int) : Prop :=
  0 < zs.length → ∃ b off, A = some ⟨b, off, none⟩ ∧ b < B ∧ ∀ j, j < zs.length → w.cell? ⟨b, off + j, none⟩ = some (.int .i64 (zs.getD j 0))
theorem Ints.below {w w' : World} {B B' : Nat} {A : Option Addr} {zs : List Int} (h : Ints w B A zs) (hb : Below B' w w') (hB : B ≤ B') : Ints w' B A zs := fun hn => by
  obtain ⟨b, off, e, hlt, hc⟩ := h hn
  exact ⟨b, off, e, hlt, fun j hj => (hb.cell (by simp; omega)).trans (hc j hj)⟩
theorem By.drew {w : World} {B : Nat} {A : Option Addr} {bs : List Nat} (h : By w B A bs) : By w.drew B A bs := h.keep fun _ _ => rfl
end Go.Proofs.Ytgkbhdecohlpmaa
