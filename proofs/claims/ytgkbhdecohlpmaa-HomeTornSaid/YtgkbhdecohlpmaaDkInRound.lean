/-
  Within a round: a region that draws its order and makes no call is walked as everywhere; laws at operations of a fenced walk.
-/
import Derived.Test.YtgkbhdecohlpmaaDkRounds
namespace Go.Proofs.Ytgkbhdecohlpmaa.Dk
set_option maxRecDepth 100000
open Go.RowKit Go.Maps Go.MapKept Go.ChangeMaps

/-- operations that make no call -/
def plainOp (o : Oper) : Bool := match o.op with
  | .move _ | .assign _ | .load _ _ | .store _ _ _ | .nilCheck _ | .fieldAddr _ _ _ | .indexAddr _ _ _ | .alloc _ | .lookup _ _ _ _ => true
  | _ => false
def NoCall : Result Next → Prop
  | .ok (.value _) _ | .ok .skip _ | .halt _ _ => True
  | _ => False
theorem noCall_value {m : Sem Value} {P : Program} {w : World} : NoCall ((do pure (Next.value (← m)) : Sem Next).run P w) := by
  rw [Sem.run_bind]
  cases m.run P w <;> simp [Result.andThen, NoCall]
theorem noCall_skip {m : Sem Unit} {P : Program} {w : World} : NoCall ((do m; pure Next.skip : Sem Next).run P w) := by
  rw [Sem.run_bind]
  cases m.run P w <;> simp [Result.andThen, NoCall]
theorem noCall_bind {α : Type} {m : Sem α} {f : α → Sem Next} {P : Program} {w : World} (h : ∀ x w, NoCall ((f x).run P w)) : NoCall ((m >>= f).run P w) := by
  rw [Sem.run_bind]
  cases m.run P w with
  | ok x w' => exact h x w'
  | halt x w' => trivial
theorem noCall_pure {v : Value} {P : Program} {w : World} : NoCall ((pure (Next.value v) : Sem Next).run P w) := by
  rw [Sem.run_pure]; trivial
theorem noCall_panic {P : Program} {w : World} : NoCall ((runtimePanic RuntimeError.nilDeref : Sem Next).run P w) := by
  unfold runtimePanic
  exact noCall_bind fun _ _ => by simp [Sem.run, NoCall, throw, throwThe, MonadExceptOf.throw]
theorem noCall_plain {o : Oper} (h : plainOp o = true) (ρ : Operand → Value) (P : Program) (w : World) : NoCall ((execOp ρ o).run P w) := by
  unfold plainOp at h
  unfold execOp
  cases ho : o.op <;> rw [ho] at h <;> first | (cases h; done) | skip
  all_goals simp only []
  all_goals first
    | exact noCall_value
    | exact noCall_skip
    | (simp [NoCall]; done)
    | skip
  all_goals (repeat' split) <;> first | exact noCall_panic | exact noCall_pure | exact noCall_bind fun _ _ => noCall_bind fun _ _ => by split <;> first | exact noCall_pure | exact noCall_bind fun _ _ => noCall_pure

variable {F : Fence} {n : Nat} {P : Program} {ops : Array Oper} {Q : Exit → Act → World → Prop}
theorem plain_not_defer {o : Oper} (h : plainOp o = true) : ∀ c, o.op ≠ .defer c := fun c e => by
  unfold plainOp at h
  rw [e] at h
  cases h
theorem plain_about {o : Oper} (h : plainOp o = true) (w : World) (ρ : Operand → Value) : o.about P w ρ = none := by
  unfold plainOp at h
  unfold Oper.about
  cases ho : o.op <;> rw [ho] at h <;> first | (cases h; done) | rfl
theorem wpIn_of_wp {o : Oper} (hp : plainOp o = true) {a : Act} {w : World} {K : Act → World → Prop} (h : o.wp P a w K Q) : o.wpIn F n P a w K Q := by
  unfold Oper.wpIn
  refine ⟨fun f hf => (by rw [plain_about hp] at hf; cases hf), ?_⟩
  rw [Oper.semAt_plain F _ _ (plain_not_defer hp)]
  have hn := noCall_plain hp a.eval P w
  unfold Oper.wp at h
  generalize (execOp a.eval o).run P w = r at h hn ⊢
  cases r with
  | ok x w' => cases x <;> first | exact h | exact hn.elim
  | halt x w' => cases x <;> exact h
theorem wpListIn_of {rest : List Oper} {o : Oper} {a : Act} {w : World} (hg : o.guard = none) (hp : plainOp o = true) (h : ∀ K : Act → World → Prop, (∀ a w, wpListIn F n P ops Q rest a w → K a w) → o.wp P a w K Q) : wpListIn F n P ops Q (o :: rest) a w :=
  wpListIn_plain hg fun K hK => wpIn_of_wp hp (h K hK)
theorem anyIn_of_any {md : Region.Mode} (hp : ∀ (i : Nat) (o : Oper), ops[i]? = some o → plainOp o = true) (hQ : ¬ LetsOut Q) : ∀ (fuel : Nat) (listed : Array Bool) (a : Act) (w : World), wpAny P md ops Q fuel listed a w → wpAnyIn F n P md ops Q fuel listed a w
  | 0, _, _, _, h => h
  | fuel + 1, listed, a, w, h => ⟨h.1, fun i hi => by
    have h1 := h.2 i hi
    unfold wpOp at h1
    unfold wpOpIn
    cases ho : ops[i]? with
    | none =>
      rw [ho] at h1
      exact anyIn_of_any hp hQ fuel _ _ _ h1
    | some o =>
      rw [ho] at h1
      simp only [] at h1 ⊢
      by_cases hw : Region.wanted o (yielded ops a.tmps) = true
      · rw [if_pos hw] at h1 ⊢
        rcases h1 with h1 | h1
        · exact Oper.wpIn_mono (fun a' w' h' => anyIn_of_any hp hQ fuel _ a' w' h') (wpIn_of_wp (hp i o ho) h1)
        · exact absurd h1.2 hQ
      · rw [if_neg hw] at h1 ⊢
        exact ⟨fun f hf => (by rw [plain_about (hp i o ho)] at hf; cases hf), anyIn_of_any hp hQ fuel _ _ _ h1⟩⟩
/-- A region that draws its order, within a round. -/
theorem region_in_round {id : Nat} {S : World → Prop} {a : Act} {w : World} (hm : P.follows .mixedOrders = true) (hp : (ops.all plainOp) = true) (hQ : ¬ LetsOut Q) (h : wpAnyH P .any ops Q S ops.size (Array.replicate ops.size false) a w.drew) : (Code.region id ops true).wpIn F n P Q a w :=
  wpIn_region_any hm (anyIn_of_any (fun i o ho => (Array.all_eq_true_iff_forall_mem.1 hp) o (Array.mem_of_getElem? ho)) hQ _ _ _ _ (wpAny_of_held _ _ _ _ h))
end Go.Proofs.Ytgkbhdecohlpmaa.Dk
