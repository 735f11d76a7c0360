/-
  DERIVED. GIVEN WITH THE SEED: THE CARDS: each row of YtkajcgpkldofjaaDoorRows.lean that lists a variable, with what it lists TIED to the program's text (the seventh form; the later family's looks); each row that meets fmt, with fmt's text TOLD by the authors' own Lean function (tested against real Go, not proved from fmt's source: count such statements apart). THE CARD IS WHAT COUNTS. Prove the row's statement (the work); the ties are given (YtkajcgpkldofjaaDoorTie.lean); close each card by the builder's one call (the guide's Derived/Test/ToyasCard.lean, 'card_holds'). Laid BY PROGRAM, IN A SANDBOX (cutbox-door.mjs). By AI agents, Wed Nov 11 2026. No macro, syntax, notation, axiom, sorry.
-/
import Derived.Test.YtkajcgpkldofjaaDoorRows
import GoSem.ClaimSeven
namespace Go.Proofs.YtkajcgpkldofjaaDoor
namespace Rows

/-- THE TIED CARD OF 'cashboxlaw06.JournalSays'. -/
def journalSaysCard : Claim7 := { stood := { row := journalSaysRow, standIns := [], harness := (true, "4ccce79d94a46f8eb2c37a689be5df179ee96da69e496a2d0448174cc80f3dde"), looks := false }, kinds := [], alts := [], laidByText := true, laidKinds := [.data], laidTests := true, laidLooks := .later }
def JournalSaysCardSaid : Prop := Claim7.holds Tryd.pinned (.plain (OpenSpec.ofChange journalSaysSpec)) journalSaysCard

/-- THE TIED CARD OF 'cashboxlaw06.JournalFinds'. -/
def journalFindsCard : Claim7 := { stood := { row := journalFindsRow, standIns := [], harness := (true, "4ccce79d94a46f8eb2c37a689be5df179ee96da69e496a2d0448174cc80f3dde"), looks := false }, kinds := [], alts := [], laidByText := true, laidKinds := [.data], laidTests := true, laidLooks := .later }
def JournalFindsCardSaid : Prop := Claim7.holds Tryd.pinned (.plain (OpenSpec.ofChange journalFindsSpec)) journalFindsCard

/-- THE TIED CARD OF 'cashboxlaw06.JournalLater'. -/
def journalLaterCard : Claim7 := { stood := { row := journalLaterRow, standIns := [], harness := (true, "4ccce79d94a46f8eb2c37a689be5df179ee96da69e496a2d0448174cc80f3dde"), looks := false }, kinds := [], alts := [], laidByText := true, laidKinds := [.data], laidTests := true, laidLooks := .later }
def JournalLaterCardSaid : Prop := Claim7.holds Tryd.pinned (.plain (OpenSpec.ofChange journalLaterSpec)) journalLaterCard

/-- THE TIED CARD OF 'cashboxlaw06.JournalTails'. -/
def journalTailsCard : Claim7 := { stood := { row := journalTailsRow, standIns := [], harness := (true, "4ccce79d94a46f8eb2c37a689be5df179ee96da69e496a2d0448174cc80f3dde"), looks := false }, kinds := [], alts := [], laidByText := true, laidKinds := [.data], laidTests := true, laidLooks := .later }
def JournalTailsCardSaid : Prop := Claim7.holds Tryd.pinned (.plain (OpenSpec.ofChange journalTailsSpec)) journalTailsCard

/-- THE SECOND FORM's CARD OF 'cashboxlaw06.JournalSays'. -/
def journalSaysUptoCard : Claim7 := { stood := { row := journalSaysUptoRow, standIns := [], harness := (true, "4ccce79d94a46f8eb2c37a689be5df179ee96da69e496a2d0448174cc80f3dde"), looks := false }, kinds := [], alts := [], laidByText := true, laidKinds := [.data], laidTests := true, laidLooks := .later }
def JournalSaysUptoCardSaid : Prop := Claim7.holds Tryd.pinned (.plain (OpenSpec.upto journalSaysSpec)) journalSaysUptoCard

/-- THE SECOND FORM's CARD OF 'cashboxlaw06.JournalFinds'. -/
def journalFindsUptoCard : Claim7 := { stood := { row := journalFindsUptoRow, standIns := [], harness := (true, "4ccce79d94a46f8eb2c37a689be5df179ee96da69e496a2d0448174cc80f3dde"), looks := false }, kinds := [], alts := [], laidByText := true, laidKinds := [.data], laidTests := true, laidLooks := .later }
def JournalFindsUptoCardSaid : Prop := Claim7.holds Tryd.pinned (.plain (OpenSpec.upto journalFindsSpec)) journalFindsUptoCard

/-- THE SECOND FORM's CARD OF 'cashboxlaw06.JournalLater'. -/
def journalLaterUptoCard : Claim7 := { stood := { row := journalLaterUptoRow, standIns := [], harness := (true, "4ccce79d94a46f8eb2c37a689be5df179ee96da69e496a2d0448174cc80f3dde"), looks := false }, kinds := [], alts := [], laidByText := true, laidKinds := [.data], laidTests := true, laidLooks := .later }
def JournalLaterUptoCardSaid : Prop := Claim7.holds Tryd.pinned (.plain (OpenSpec.upto journalLaterSpec)) journalLaterUptoCard

/-- THE SECOND FORM's CARD OF 'cashboxlaw06.JournalTails'. -/
def journalTailsUptoCard : Claim7 := { stood := { row := journalTailsUptoRow, standIns := [], harness := (true, "4ccce79d94a46f8eb2c37a689be5df179ee96da69e496a2d0448174cc80f3dde"), looks := false }, kinds := [], alts := [], laidByText := true, laidKinds := [.data], laidTests := true, laidLooks := .later }
def JournalTailsUptoCardSaid : Prop := Claim7.holds Tryd.pinned (.plain (OpenSpec.upto journalTailsSpec)) journalTailsUptoCard
end Rows
end Go.Proofs.YtkajcgpkldofjaaDoor
