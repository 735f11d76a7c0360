/-
  No cell of these rows narrows 'for every input' (looked for: loops, veiled, ifaces, maps, wideKeys, modest, calm, conditions, laid).
  DERIVED. THE GIVEN ROWS OF THIS SEAT. 4 by the template 'for every input the law returns true; each argument reads behind the call as it read before'; 0 by the template 'total and deterministic' (their statements: YtgkbhdecohlpmaaTotals.lean).
  GIVEN WITH THE SEED: the statements are not yours to turn. If you find one false, say at which input.
  Laid BY PROGRAM, IN A SANDBOX (cutbox-rows.mjs): the forced cells as the released guide's own fill.sh prints them over the translation 62b09beec5ad113d… (all of the seat's roots in one cut). By AI agents, Wed Nov 11 2026. No macro, syntax, notation, axiom, sorry.
-/
import Derived.Test.YtgkbhdecohlpmaaChecked
import GoSem.Claim
import GoSem.ClaimJoined
import GoSem.ClaimMapViews
import Derived.JoinedTies
import Derived.KernelRfl
namespace Go.Proofs.Ytgkbhdecohlpmaa
/- THE CELL 'sum', in the pinned program and in every row, IS THE sha256 OF THE DUMP (.gsa) THAT YtgkbhdecohlpmaaProg.lean LOADS. Nothing in Lean hashes anything: it is a label: what it is worth is what the hold of that sum in a sandbox is worth. -/
noncomputable def Try.pinned : Pinned := { name := "ytgkbhdecohlpmaa", sum := "62b09beec5ad113d57b3175d268ff8ac9ce60cd109733656d4ecfcb3fc1c5a32", checked := Try.checked }
namespace Rows
def none {H : Type} : Left H := { results := [], args := [] }

/-- 'cashboxlaw09.HomeBack': WHATEVER THE INPUT: true; the input reads as it did. -/
def homeBackSpec : ChangeSpec := { name := "homeBack", fn := fun _ => fun
  | [d1, d2, d3, d4, d5] => { results := [.lit (.bool true)], args := [d1, d2, d3, d4, d5] }
  | _ => none }
def homeBackRow : OpenClaim := { program := "ytgkbhdecohlpmaa", sum := "62b09beec5ad113d57b3175d268ff8ac9ce60cd109733656d4ecfcb3fc1c5a32", func := "cashbox/cashboxlaw09.HomeBack", spec := "homeBack", unfollowed := true, recurses := true, apart := false }
def HomeBackSaid : Prop := homeBackRow.holds Try.pinned (OpenSpec.ofChange homeBackSpec)

/-- ITS FALSE NEIGHBOUR: 'it returns false'. Refute it at one input. -/
def homeBackWrong : ChangeSpec := { name := "homeBack", fn := fun _ => fun
  | [d1, d2, d3, d4, d5] => { results := [.lit (.bool false)], args := [d1, d2, d3, d4, d5] }
  | _ => none }
def HomeBackWrongFalsely : Prop := homeBackRow.holds Try.pinned (OpenSpec.ofChange homeBackWrong)

/-- 'cashboxlaw09.HomeTorn': WHATEVER THE INPUT: true; the input reads as it did. -/
def homeTornSpec : ChangeSpec := { name := "homeTorn", fn := fun _ => fun
  | [d1, d2, d3, d4] => { results := [.lit (.bool true)], args := [d1, d2, d3, d4] }
  | _ => none }
def homeTornRow : OpenClaim := { program := "ytgkbhdecohlpmaa", sum := "62b09beec5ad113d57b3175d268ff8ac9ce60cd109733656d4ecfcb3fc1c5a32", func := "cashbox/cashboxlaw09.HomeTorn", spec := "homeTorn", unfollowed := true, recurses := true, apart := false }
def HomeTornSaid : Prop := homeTornRow.holds Try.pinned (OpenSpec.ofChange homeTornSpec)

/-- ITS FALSE NEIGHBOUR: 'it returns false'. Refute it at one input. -/
def homeTornWrong : ChangeSpec := { name := "homeTorn", fn := fun _ => fun
  | [d1, d2, d3, d4] => { results := [.lit (.bool false)], args := [d1, d2, d3, d4] }
  | _ => none }
def HomeTornWrongFalsely : Prop := homeTornRow.holds Try.pinned (OpenSpec.ofChange homeTornWrong)

/-- 'cashboxlaw09.HomeNil': WHATEVER THE INPUT: true; the input reads as it did. -/
def homeNilSpec : ChangeSpec := { name := "homeNil", fn := fun _ => fun
  | [d1, d2, d3] => { results := [.lit (.bool true)], args := [d1, d2, d3] }
  | _ => none }
def homeNilRow : OpenClaim := { program := "ytgkbhdecohlpmaa", sum := "62b09beec5ad113d57b3175d268ff8ac9ce60cd109733656d4ecfcb3fc1c5a32", func := "cashbox/cashboxlaw09.HomeNil", spec := "homeNil", unfollowed := true, recurses := true, apart := false }
def HomeNilSaid : Prop := homeNilRow.holds Try.pinned (OpenSpec.ofChange homeNilSpec)

/-- ITS FALSE NEIGHBOUR: 'it returns false'. Refute it at one input. -/
def homeNilWrong : ChangeSpec := { name := "homeNil", fn := fun _ => fun
  | [d1, d2, d3] => { results := [.lit (.bool false)], args := [d1, d2, d3] }
  | _ => none }
def HomeNilWrongFalsely : Prop := homeNilRow.holds Try.pinned (OpenSpec.ofChange homeNilWrong)

/-- 'cashboxlaw09.HomeApart': WHATEVER THE INPUT: true; the input reads as it did. -/
def homeApartSpec : ChangeSpec := { name := "homeApart", fn := fun _ => fun
  | [d1, d2, d3, d4, d5] => { results := [.lit (.bool true)], args := [d1, d2, d3, d4, d5] }
  | _ => none }
def homeApartRow : OpenClaim := { program := "ytgkbhdecohlpmaa", sum := "62b09beec5ad113d57b3175d268ff8ac9ce60cd109733656d4ecfcb3fc1c5a32", func := "cashbox/cashboxlaw09.HomeApart", spec := "homeApart", unfollowed := true, recurses := true, apart := false }
def HomeApartSaid : Prop := homeApartRow.holds Try.pinned (OpenSpec.ofChange homeApartSpec)

/-- ITS FALSE NEIGHBOUR: 'it returns false'. Refute it at one input. -/
def homeApartWrong : ChangeSpec := { name := "homeApart", fn := fun _ => fun
  | [d1, d2, d3, d4, d5] => { results := [.lit (.bool false)], args := [d1, d2, d3, d4, d5] }
  | _ => none }
def HomeApartWrongFalsely : Prop := homeApartRow.holds Try.pinned (OpenSpec.ofChange homeApartWrong)

/- THE SECOND FORM. 'bulk': how many values and letters a reading holds, each counted each time it is reached (what is shared counts as often as it is met; a slice's spare places count too). A statement '..UptoSaid' is the law's where the arguments, and the package variables that the reading takes, are together of bulk at most 1048576: NARROWER than '..Said'. Prove '..Said' where nothing that the law and all that it calls make is longer than what came in: it says more and counts as full. Else prove '..UptoSaid'. A law counts once. -/
mutual
def uptoBulk {H : Type} : DataW H → Nat
  | .lit (.string bytes) => bytes.length + 1
  | .lit _ => 1
  | .nil => 1
  | .ptr d => uptoBulk d + 1
  | .slice elems spare => uptoBulkAll elems + uptoBulkAll spare + 1
  | .agg parts => uptoBulkAll parts + 1
  | .iface _ d => uptoBulk d + 1
  | .map entries => uptoBulkEntries entries + 1
  | .held _ => 1
def uptoBulkAll {H : Type} : List (DataW H) → Nat
  | [] => 0
  | d :: r => uptoBulk d + uptoBulkAll r
def uptoBulkEntries {H : Type} : List (Lit × DataW H) → Nat
  | [] => 0
  | x :: r => uptoBulkEntry x + uptoBulkEntries r
def uptoBulkEntry {H : Type} : Lit × DataW H → Nat
  | (.string bytes, d) => bytes.length + uptoBulk d + 1
  | (_, d) => uptoBulk d + 1
 end
def uptoSmall : (H : Type) → List (DataW H) → Bool := fun _ ds => decide (uptoBulkAll ds ≤ 1048576)
def OpenSpec.upto (s : _root_.Go.ChangeSpec) : _root_.Go.OpenSpec := { _root_.Go.OpenSpec.ofChange s with cond := some uptoSmall }

/-- 'cashboxlaw09.HomeBack', WHERE WHAT IT READS IS OF BULK AT MOST 1048576: true; the input reads as it did. -/
def homeBackUptoRow : OpenClaim := { program := "ytgkbhdecohlpmaa", sum := "62b09beec5ad113d57b3175d268ff8ac9ce60cd109733656d4ecfcb3fc1c5a32", func := "cashbox/cashboxlaw09.HomeBack", spec := "homeBack", unfollowed := true, recurses := true, apart := false, narrowed := true }
def HomeBackUptoSaid : Prop := homeBackUptoRow.holds Try.pinned (OpenSpec.upto homeBackSpec)

/-- 'cashboxlaw09.HomeTorn', WHERE WHAT IT READS IS OF BULK AT MOST 1048576: true; the input reads as it did. -/
def homeTornUptoRow : OpenClaim := { program := "ytgkbhdecohlpmaa", sum := "62b09beec5ad113d57b3175d268ff8ac9ce60cd109733656d4ecfcb3fc1c5a32", func := "cashbox/cashboxlaw09.HomeTorn", spec := "homeTorn", unfollowed := true, recurses := true, apart := false, narrowed := true }
def HomeTornUptoSaid : Prop := homeTornUptoRow.holds Try.pinned (OpenSpec.upto homeTornSpec)

/-- 'cashboxlaw09.HomeNil', WHERE WHAT IT READS IS OF BULK AT MOST 1048576: true; the input reads as it did. -/
def homeNilUptoRow : OpenClaim := { program := "ytgkbhdecohlpmaa", sum := "62b09beec5ad113d57b3175d268ff8ac9ce60cd109733656d4ecfcb3fc1c5a32", func := "cashbox/cashboxlaw09.HomeNil", spec := "homeNil", unfollowed := true, recurses := true, apart := false, narrowed := true }
def HomeNilUptoSaid : Prop := homeNilUptoRow.holds Try.pinned (OpenSpec.upto homeNilSpec)

/-- 'cashboxlaw09.HomeApart', WHERE WHAT IT READS IS OF BULK AT MOST 1048576: true; the input reads as it did. -/
def homeApartUptoRow : OpenClaim := { program := "ytgkbhdecohlpmaa", sum := "62b09beec5ad113d57b3175d268ff8ac9ce60cd109733656d4ecfcb3fc1c5a32", func := "cashbox/cashboxlaw09.HomeApart", spec := "homeApart", unfollowed := true, recurses := true, apart := false, narrowed := true }
def HomeApartUptoSaid : Prop := homeApartUptoRow.holds Try.pinned (OpenSpec.upto homeApartSpec)

end Rows
end Go.Proofs.Ytgkbhdecohlpmaa
