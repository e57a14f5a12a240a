/-
  DERIVED. GIVEN WITH THE SEED: THE CARDS: each row of YtbpaongnehgodaaDoorRows.lean that lists a variable, with what it lists TIED to the program's text (the seventh form; the later family's looks); each row that meets fmt, with fmt's text TOLD by the authors' own Lean function (tested against real Go, not proved from fmt's source: count such statements apart). THE CARD IS WHAT COUNTS. Prove the row's statement (the work); the ties are given (YtbpaongnehgodaaDoorTie.lean); close each card by the builder's one call (the guide's Derived/Test/ToyasCard.lean, 'card_holds'). Laid BY PROGRAM, IN A SANDBOX (cutbox-door.mjs). By AI agents, Wed Nov 11 2026. No macro, syntax, notation, axiom, sorry.
-/
import Derived.Test.YtbpaongnehgodaaDoorRows
import GoSem.ClaimSeven
namespace Go.Proofs.YtbpaongnehgodaaDoor
namespace Rows

/-- THE TIED CARD OF 'complinelaw12.JournalTorn'. -/
def journalTornCard : Claim7 := { stood := { row := journalTornRow, standIns := [], harness := (true, "c55ce96d7b0abb85664e7b1e3d1d528d6bdc1b55c6e1219a74f82c63f3ac5f12"), looks := false }, kinds := [], alts := [], laidByText := true, laidKinds := [.data], laidTests := true, laidLooks := .later }
def JournalTornCardSaid : Prop := Claim7.holds Tryd.pinned (.plain (OpenSpec.ofChange journalTornSpec)) journalTornCard

/-- THE TIED CARD OF 'complinelaw12.JournalMends'. -/
def journalMendsCard : Claim7 := { stood := { row := journalMendsRow, standIns := [], harness := (true, "c55ce96d7b0abb85664e7b1e3d1d528d6bdc1b55c6e1219a74f82c63f3ac5f12"), looks := false }, kinds := [], alts := [], laidByText := true, laidKinds := [.data], laidTests := true, laidLooks := .later }
def JournalMendsCardSaid : Prop := Claim7.holds Tryd.pinned (.plain (OpenSpec.ofChange journalMendsSpec)) journalMendsCard

/-- THE TIED CARD OF 'complinelaw12.JournalGrows'. -/
def journalGrowsCard : Claim7 := { stood := { row := journalGrowsRow, standIns := [], harness := (true, "c55ce96d7b0abb85664e7b1e3d1d528d6bdc1b55c6e1219a74f82c63f3ac5f12"), looks := false }, kinds := [], alts := [], laidByText := true, laidKinds := [.data], laidTests := true, laidLooks := .later }
def JournalGrowsCardSaid : Prop := Claim7.holds Tryd.pinned (.plain (OpenSpec.ofChange journalGrowsSpec)) journalGrowsCard

/-- THE SECOND FORM's CARD OF 'complinelaw12.JournalTorn'. -/
def journalTornUptoCard : Claim7 := { stood := { row := journalTornUptoRow, standIns := [], harness := (true, "c55ce96d7b0abb85664e7b1e3d1d528d6bdc1b55c6e1219a74f82c63f3ac5f12"), looks := false }, kinds := [], alts := [], laidByText := true, laidKinds := [.data], laidTests := true, laidLooks := .later }
def JournalTornUptoCardSaid : Prop := Claim7.holds Tryd.pinned (.plain (OpenSpec.upto journalTornSpec)) journalTornUptoCard

/-- THE SECOND FORM's CARD OF 'complinelaw12.JournalMends'. -/
def journalMendsUptoCard : Claim7 := { stood := { row := journalMendsUptoRow, standIns := [], harness := (true, "c55ce96d7b0abb85664e7b1e3d1d528d6bdc1b55c6e1219a74f82c63f3ac5f12"), looks := false }, kinds := [], alts := [], laidByText := true, laidKinds := [.data], laidTests := true, laidLooks := .later }
def JournalMendsUptoCardSaid : Prop := Claim7.holds Tryd.pinned (.plain (OpenSpec.upto journalMendsSpec)) journalMendsUptoCard

/-- THE SECOND FORM's CARD OF 'complinelaw12.JournalGrows'. -/
def journalGrowsUptoCard : Claim7 := { stood := { row := journalGrowsUptoRow, standIns := [], harness := (true, "c55ce96d7b0abb85664e7b1e3d1d528d6bdc1b55c6e1219a74f82c63f3ac5f12"), looks := false }, kinds := [], alts := [], laidByText := true, laidKinds := [.data], laidTests := true, laidLooks := .later }
def JournalGrowsUptoCardSaid : Prop := Claim7.holds Tryd.pinned (.plain (OpenSpec.upto journalGrowsSpec)) journalGrowsUptoCard
end Rows
end Go.Proofs.YtbpaongnehgodaaDoor
