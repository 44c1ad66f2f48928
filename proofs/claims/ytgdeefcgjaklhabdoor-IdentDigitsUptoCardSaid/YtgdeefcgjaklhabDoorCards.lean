/-
  DERIVED. GIVEN WITH THE SEED: THE CARDS: each row of YtgdeefcgjaklhabDoorRows.lean that lists a variable, with what it lists TIED to the program's text (the seventh form; the later family's looks); each row that meets fmt, with fmt's text TOLD by the authors' own Lean function (tested against real Go, not proved from fmt's source: count such statements apart). THE CARD IS WHAT COUNTS. Prove the row's statement (the work); the ties are given (YtgdeefcgjaklhabDoorTie.lean); close each card by the builder's one call (the guide's Derived/Test/ToyasCard.lean, 'card_holds'). Laid BY PROGRAM, IN A SANDBOX (cutbox-door.mjs). By AI agents, Wed Nov 11 2026. No macro, syntax, notation, axiom, sorry.
-/
import Derived.Test.YtgdeefcgjaklhabDoorRows
import GoSem.ClaimSeven
namespace Go.Proofs.YtgdeefcgjaklhabDoor
namespace Rows

/-- THE TIED CARD OF 'graftagelaw02.IdentDigests'. -/
def identDigestsCard : Claim7 := { stood := { row := identDigestsRow, standIns := [], harness := (true, "e2af4830c31407f38db3f141b6f29ae74f6d5f4cfd4dd64f2425b8b02016714e"), looks := false }, kinds := [], alts := [], laidByText := true, laidKinds := [.data], laidTests := true, laidLooks := .later }
def IdentDigestsCardSaid : Prop := Claim7.holds Tryd.pinned (.plain (OpenSpec.ofChange identDigestsSpec)) identDigestsCard

/-- THE TIED CARD OF 'graftagelaw02.IdentDigits'. -/
def identDigitsCard : Claim7 := { stood := { row := identDigitsRow, standIns := [], harness := (true, "e2af4830c31407f38db3f141b6f29ae74f6d5f4cfd4dd64f2425b8b02016714e"), looks := false }, kinds := [], alts := [], laidByText := true, laidKinds := [.data], laidTests := true, laidLooks := .later }
def IdentDigitsCardSaid : Prop := Claim7.holds Tryd.pinned (.plain (OpenSpec.ofChange identDigitsSpec)) identDigitsCard

/-- THE TIED CARD OF 'graftagelaw02.IdentFinds'. -/
def identFindsCard : Claim7 := { stood := { row := identFindsRow, standIns := [], harness := (true, "e2af4830c31407f38db3f141b6f29ae74f6d5f4cfd4dd64f2425b8b02016714e"), looks := false }, kinds := [], alts := [], laidByText := true, laidKinds := [.data], laidTests := true, laidLooks := .later }
def IdentFindsCardSaid : Prop := Claim7.holds Tryd.pinned (.plain (OpenSpec.ofChange identFindsSpec)) identFindsCard

/-- THE TIED CARD OF 'graftagelaw02.IdentShorts'. -/
def identShortsCard : Claim7 := { stood := { row := identShortsRow, standIns := [], harness := (true, "e2af4830c31407f38db3f141b6f29ae74f6d5f4cfd4dd64f2425b8b02016714e"), looks := false }, kinds := [], alts := [], laidByText := true, laidKinds := [.data], laidTests := true, laidLooks := .later }
def IdentShortsCardSaid : Prop := Claim7.holds Tryd.pinned (.plain (OpenSpec.ofChange identShortsSpec)) identShortsCard

/-- THE SECOND FORM's CARD OF 'graftagelaw02.IdentDigests'. -/
def identDigestsUptoCard : Claim7 := { stood := { row := identDigestsUptoRow, standIns := [], harness := (true, "e2af4830c31407f38db3f141b6f29ae74f6d5f4cfd4dd64f2425b8b02016714e"), looks := false }, kinds := [], alts := [], laidByText := true, laidKinds := [.data], laidTests := true, laidLooks := .later }
def IdentDigestsUptoCardSaid : Prop := Claim7.holds Tryd.pinned (.plain (OpenSpec.upto identDigestsSpec)) identDigestsUptoCard

/-- THE SECOND FORM's CARD OF 'graftagelaw02.IdentDigits'. -/
def identDigitsUptoCard : Claim7 := { stood := { row := identDigitsUptoRow, standIns := [], harness := (true, "e2af4830c31407f38db3f141b6f29ae74f6d5f4cfd4dd64f2425b8b02016714e"), looks := false }, kinds := [], alts := [], laidByText := true, laidKinds := [.data], laidTests := true, laidLooks := .later }
def IdentDigitsUptoCardSaid : Prop := Claim7.holds Tryd.pinned (.plain (OpenSpec.upto identDigitsSpec)) identDigitsUptoCard

/-- THE SECOND FORM's CARD OF 'graftagelaw02.IdentFinds'. -/
def identFindsUptoCard : Claim7 := { stood := { row := identFindsUptoRow, standIns := [], harness := (true, "e2af4830c31407f38db3f141b6f29ae74f6d5f4cfd4dd64f2425b8b02016714e"), looks := false }, kinds := [], alts := [], laidByText := true, laidKinds := [.data], laidTests := true, laidLooks := .later }
def IdentFindsUptoCardSaid : Prop := Claim7.holds Tryd.pinned (.plain (OpenSpec.upto identFindsSpec)) identFindsUptoCard

/-- THE SECOND FORM's CARD OF 'graftagelaw02.IdentShorts'. -/
def identShortsUptoCard : Claim7 := { stood := { row := identShortsUptoRow, standIns := [], harness := (true, "e2af4830c31407f38db3f141b6f29ae74f6d5f4cfd4dd64f2425b8b02016714e"), looks := false }, kinds := [], alts := [], laidByText := true, laidKinds := [.data], laidTests := true, laidLooks := .later }
def IdentShortsUptoCardSaid : Prop := Claim7.holds Tryd.pinned (.plain (OpenSpec.upto identShortsSpec)) identShortsUptoCard
end Rows
end Go.Proofs.YtgdeefcgjaklhabDoor
