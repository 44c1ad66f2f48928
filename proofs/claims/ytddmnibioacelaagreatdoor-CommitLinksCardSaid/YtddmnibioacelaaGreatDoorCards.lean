/-
  DERIVED. GIVEN WITH THE SEED: THE CARDS: each row of YtddmnibioacelaaGreatDoorRows.lean that lists a variable, with what it lists TIED to the program's text (the seventh form; the later family's looks); each row that meets fmt, with fmt's text TOLD by the authors' own Lean function (tested against real Go, not proved from fmt's source: count such statements apart). THE CARD IS WHAT COUNTS. Prove the row's statement (the work); the ties are given (YtddmnibioacelaaGreatDoorTie.lean); close each card by the builder's one call (the guide's Derived/Test/ToyasCard.lean, 'card_holds'). Laid BY PROGRAM, IN A SANDBOX (cutbox-door.mjs). By AI agents, Wed Nov 11 2026. No macro, syntax, notation, axiom, sorry.
-/
import Derived.Test.YtddmnibioacelaaGreatDoorRows
import GoSem.ClaimSeven
namespace Go.Proofs.YtddmnibioacelaaGreatDoor
namespace Rows

/-- THE TIED CARD OF 'graftagelaw16.CommitBodies'. -/
def commitBodiesCard : Claim7 := { stood := { row := commitBodiesRow, standIns := [], harness := (true, "a7ff11b33e3e7caefaacf126b3635b7120ffc1fac72d9814f992e7093eb5b6d4"), looks := true }, kinds := [], alts := [], laidByText := true, laidKinds := [.data, .data, .data, .data, .sentinel, .sentinel, .data, .data, .pinned], laidTests := true, laidLooks := .later }
def CommitBodiesCardSaid : Prop := Claim7.holds Tryz.pinned (.plain (OpenSpec.ofChange commitBodiesSpec)) commitBodiesCard

/-- THE TIED CARD OF 'graftagelaw16.CommitReads'. -/
def commitReadsCard : Claim7 := { stood := { row := commitReadsRow, standIns := [], harness := (true, "a7ff11b33e3e7caefaacf126b3635b7120ffc1fac72d9814f992e7093eb5b6d4"), looks := true }, kinds := [], alts := [], laidByText := true, laidKinds := [.data, .data, .data, .data, .sentinel, .sentinel, .data, .data, .pinned], laidTests := true, laidLooks := .later }
def CommitReadsCardSaid : Prop := Claim7.holds Tryz.pinned (.plain (OpenSpec.ofChange commitReadsSpec)) commitReadsCard

/-- THE TIED CARD OF 'graftagelaw16.CommitTags'. -/
def commitTagsCard : Claim7 := { stood := { row := commitTagsRow, standIns := [], harness := (true, "a7ff11b33e3e7caefaacf126b3635b7120ffc1fac72d9814f992e7093eb5b6d4"), looks := true }, kinds := [], alts := [], laidByText := true, laidKinds := [.data, .data, .data, .data, .sentinel, .sentinel, .data, .data, .pinned], laidTests := true, laidLooks := .later }
def CommitTagsCardSaid : Prop := Claim7.holds Tryz.pinned (.plain (OpenSpec.ofChange commitTagsSpec)) commitTagsCard

/-- THE TIED CARD OF 'graftagelaw16.CommitPersons'. -/
def commitPersonsCard : Claim7 := { stood := { row := commitPersonsRow, standIns := [], harness := (true, "a7ff11b33e3e7caefaacf126b3635b7120ffc1fac72d9814f992e7093eb5b6d4"), looks := true }, kinds := [], alts := [], laidByText := true, laidKinds := [.data, .data, .data, .data, .sentinel, .sentinel, .data, .data, .pinned], laidTests := true, laidLooks := .later }
def CommitPersonsCardSaid : Prop := Claim7.holds Tryz.pinned (.plain (OpenSpec.ofChange commitPersonsSpec)) commitPersonsCard

/-- THE TIED CARD OF 'graftagelaw16.CommitLinks'. -/
def commitLinksCard : Claim7 := { stood := { row := commitLinksRow, standIns := [], harness := (true, "a7ff11b33e3e7caefaacf126b3635b7120ffc1fac72d9814f992e7093eb5b6d4"), looks := true }, kinds := [], alts := [], laidByText := true, laidKinds := [.data, .data, .data, .data, .sentinel, .sentinel, .data, .data, .pinned], laidTests := true, laidLooks := .later }
def CommitLinksCardSaid : Prop := Claim7.holds Tryz.pinned (.plain (OpenSpec.ofChange commitLinksSpec)) commitLinksCard

/-- THE TIED CARD OF 'graftagelaw16.CommitNames'. -/
def commitNamesCard : Claim7 := { stood := { row := commitNamesRow, standIns := [], harness := (true, "a7ff11b33e3e7caefaacf126b3635b7120ffc1fac72d9814f992e7093eb5b6d4"), looks := true }, kinds := [], alts := [], laidByText := true, laidKinds := [.data, .data, .data, .data, .sentinel, .sentinel, .data, .data, .pinned], laidTests := true, laidLooks := .later }
def CommitNamesCardSaid : Prop := Claim7.holds Tryz.pinned (.plain (OpenSpec.ofChange commitNamesSpec)) commitNamesCard

/-- THE SECOND FORM's CARD OF 'graftagelaw16.CommitBodies'. -/
def commitBodiesUptoCard : Claim7 := { stood := { row := commitBodiesUptoRow, standIns := [], harness := (true, "a7ff11b33e3e7caefaacf126b3635b7120ffc1fac72d9814f992e7093eb5b6d4"), looks := true }, kinds := [], alts := [], laidByText := true, laidKinds := [.data, .data, .data, .data, .sentinel, .sentinel, .data, .data, .pinned], laidTests := true, laidLooks := .later }
def CommitBodiesUptoCardSaid : Prop := Claim7.holds Tryz.pinned (.plain (OpenSpec.upto commitBodiesSpec)) commitBodiesUptoCard

/-- THE SECOND FORM's CARD OF 'graftagelaw16.CommitReads'. -/
def commitReadsUptoCard : Claim7 := { stood := { row := commitReadsUptoRow, standIns := [], harness := (true, "a7ff11b33e3e7caefaacf126b3635b7120ffc1fac72d9814f992e7093eb5b6d4"), looks := true }, kinds := [], alts := [], laidByText := true, laidKinds := [.data, .data, .data, .data, .sentinel, .sentinel, .data, .data, .pinned], laidTests := true, laidLooks := .later }
def CommitReadsUptoCardSaid : Prop := Claim7.holds Tryz.pinned (.plain (OpenSpec.upto commitReadsSpec)) commitReadsUptoCard

/-- THE SECOND FORM's CARD OF 'graftagelaw16.CommitTags'. -/
def commitTagsUptoCard : Claim7 := { stood := { row := commitTagsUptoRow, standIns := [], harness := (true, "a7ff11b33e3e7caefaacf126b3635b7120ffc1fac72d9814f992e7093eb5b6d4"), looks := true }, kinds := [], alts := [], laidByText := true, laidKinds := [.data, .data, .data, .data, .sentinel, .sentinel, .data, .data, .pinned], laidTests := true, laidLooks := .later }
def CommitTagsUptoCardSaid : Prop := Claim7.holds Tryz.pinned (.plain (OpenSpec.upto commitTagsSpec)) commitTagsUptoCard

/-- THE SECOND FORM's CARD OF 'graftagelaw16.CommitPersons'. -/
def commitPersonsUptoCard : Claim7 := { stood := { row := commitPersonsUptoRow, standIns := [], harness := (true, "a7ff11b33e3e7caefaacf126b3635b7120ffc1fac72d9814f992e7093eb5b6d4"), looks := true }, kinds := [], alts := [], laidByText := true, laidKinds := [.data, .data, .data, .data, .sentinel, .sentinel, .data, .data, .pinned], laidTests := true, laidLooks := .later }
def CommitPersonsUptoCardSaid : Prop := Claim7.holds Tryz.pinned (.plain (OpenSpec.upto commitPersonsSpec)) commitPersonsUptoCard

/-- THE SECOND FORM's CARD OF 'graftagelaw16.CommitLinks'. -/
def commitLinksUptoCard : Claim7 := { stood := { row := commitLinksUptoRow, standIns := [], harness := (true, "a7ff11b33e3e7caefaacf126b3635b7120ffc1fac72d9814f992e7093eb5b6d4"), looks := true }, kinds := [], alts := [], laidByText := true, laidKinds := [.data, .data, .data, .data, .sentinel, .sentinel, .data, .data, .pinned], laidTests := true, laidLooks := .later }
def CommitLinksUptoCardSaid : Prop := Claim7.holds Tryz.pinned (.plain (OpenSpec.upto commitLinksSpec)) commitLinksUptoCard

/-- THE SECOND FORM's CARD OF 'graftagelaw16.CommitNames'. -/
def commitNamesUptoCard : Claim7 := { stood := { row := commitNamesUptoRow, standIns := [], harness := (true, "a7ff11b33e3e7caefaacf126b3635b7120ffc1fac72d9814f992e7093eb5b6d4"), looks := true }, kinds := [], alts := [], laidByText := true, laidKinds := [.data, .data, .data, .data, .sentinel, .sentinel, .data, .data, .pinned], laidTests := true, laidLooks := .later }
def CommitNamesUptoCardSaid : Prop := Claim7.holds Tryz.pinned (.plain (OpenSpec.upto commitNamesSpec)) commitNamesUptoCard
end Rows
end Go.Proofs.YtddmnibioacelaaGreatDoor
