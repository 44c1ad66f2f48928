/-
  DERIVED. GIVEN WITH THE SEED: THE CARDS: each row of YtgnljpcnkmogfaaDoorRows.lean that lists a variable, with what it lists TIED to the program's text (the seventh form; the later family's looks); each row that meets fmt, with fmt's text TOLD by the authors' own Lean function (tested against real Go, not proved from fmt's source: count such statements apart). THE CARD IS WHAT COUNTS. Prove the row's statement (the work); the ties are given (YtgnljpcnkmogfaaDoorTie.lean); close each card by the builder's one call (the guide's Derived/Test/ToyasCard.lean, 'card_holds'). Laid BY PROGRAM, IN A SANDBOX (cutbox-door.mjs). By AI agents, Wed Nov 11 2026. No macro, syntax, notation, axiom, sorry.
-/
import Derived.Test.YtgnljpcnkmogfaaDoorRows
import GoSem.ClaimSeven
namespace Go.Proofs.YtgnljpcnkmogfaaDoor
namespace Rows

/-- THE TIED CARD OF 'graftagelaw01.OctetTakes'. -/
def octetTakesCard : Claim7 := { stood := { row := octetTakesRow, standIns := [], harness := (true, "cd8163aa77b11877cc7b792067d9c7a6aa7c15c22b867fd9ae3ef6dff9b5308e"), looks := false }, kinds := [], alts := [], laidByText := true, laidKinds := [.data], laidTests := true, laidLooks := .later }
def OctetTakesCardSaid : Prop := Claim7.holds Tryd.pinned (.plain (OpenSpec.ofChange octetTakesSpec)) octetTakesCard

/-- THE TIED CARD OF 'graftagelaw01.OctetBack'. -/
def octetBackCard : Claim7 := { stood := { row := octetBackRow, standIns := [], harness := (true, "cd8163aa77b11877cc7b792067d9c7a6aa7c15c22b867fd9ae3ef6dff9b5308e"), looks := false }, kinds := [], alts := [], laidByText := true, laidKinds := [.data], laidTests := true, laidLooks := .later }
def OctetBackCardSaid : Prop := Claim7.holds Tryd.pinned (.plain (OpenSpec.ofChange octetBackSpec)) octetBackCard

/-- THE TIED CARD OF 'graftagelaw01.OctetSums'. -/
def octetSumsCard : Claim7 := { stood := { row := octetSumsRow, standIns := [], harness := (true, "cd8163aa77b11877cc7b792067d9c7a6aa7c15c22b867fd9ae3ef6dff9b5308e"), looks := false }, kinds := [], alts := [], laidByText := true, laidKinds := [.data], laidTests := true, laidLooks := .later }
def OctetSumsCardSaid : Prop := Claim7.holds Tryd.pinned (.plain (OpenSpec.ofChange octetSumsSpec)) octetSumsCard

/-- THE TIED CARD OF 'graftagelaw01.OctetBursts'. -/
def octetBurstsCard : Claim7 := { stood := { row := octetBurstsRow, standIns := [], harness := (true, "cd8163aa77b11877cc7b792067d9c7a6aa7c15c22b867fd9ae3ef6dff9b5308e"), looks := false }, kinds := [], alts := [], laidByText := true, laidKinds := [.data], laidTests := true, laidLooks := .later }
def OctetBurstsCardSaid : Prop := Claim7.holds Tryd.pinned (.plain (OpenSpec.ofChange octetBurstsSpec)) octetBurstsCard

/-- THE TIED CARD OF 'graftagelaw02.IdentDigests'. -/
def identDigestsCard : Claim7 := { stood := { row := identDigestsRow, standIns := [], harness := (true, "cd8163aa77b11877cc7b792067d9c7a6aa7c15c22b867fd9ae3ef6dff9b5308e"), looks := false }, kinds := [], alts := [], laidByText := true, laidKinds := [.data], laidTests := true, laidLooks := .later }
def IdentDigestsCardSaid : Prop := Claim7.holds Tryd.pinned (.plain (OpenSpec.ofChange identDigestsSpec)) identDigestsCard

/-- THE TIED CARD OF 'graftagelaw02.IdentDigits'. -/
def identDigitsCard : Claim7 := { stood := { row := identDigitsRow, standIns := [], harness := (true, "cd8163aa77b11877cc7b792067d9c7a6aa7c15c22b867fd9ae3ef6dff9b5308e"), looks := false }, kinds := [], alts := [], laidByText := true, laidKinds := [.data], laidTests := true, laidLooks := .later }
def IdentDigitsCardSaid : Prop := Claim7.holds Tryd.pinned (.plain (OpenSpec.ofChange identDigitsSpec)) identDigitsCard

/-- THE TIED CARD OF 'graftagelaw02.IdentFinds'. -/
def identFindsCard : Claim7 := { stood := { row := identFindsRow, standIns := [], harness := (true, "cd8163aa77b11877cc7b792067d9c7a6aa7c15c22b867fd9ae3ef6dff9b5308e"), looks := false }, kinds := [], alts := [], laidByText := true, laidKinds := [.data], laidTests := true, laidLooks := .later }
def IdentFindsCardSaid : Prop := Claim7.holds Tryd.pinned (.plain (OpenSpec.ofChange identFindsSpec)) identFindsCard

/-- THE TIED CARD OF 'graftagelaw02.IdentShorts'. -/
def identShortsCard : Claim7 := { stood := { row := identShortsRow, standIns := [], harness := (true, "cd8163aa77b11877cc7b792067d9c7a6aa7c15c22b867fd9ae3ef6dff9b5308e"), looks := false }, kinds := [], alts := [], laidByText := true, laidKinds := [.data], laidTests := true, laidLooks := .later }
def IdentShortsCardSaid : Prop := Claim7.holds Tryd.pinned (.plain (OpenSpec.ofChange identShortsSpec)) identShortsCard

/-- THE SECOND FORM's CARD OF 'graftagelaw01.OctetTakes'. -/
def octetTakesUptoCard : Claim7 := { stood := { row := octetTakesUptoRow, standIns := [], harness := (true, "cd8163aa77b11877cc7b792067d9c7a6aa7c15c22b867fd9ae3ef6dff9b5308e"), looks := false }, kinds := [], alts := [], laidByText := true, laidKinds := [.data], laidTests := true, laidLooks := .later }
def OctetTakesUptoCardSaid : Prop := Claim7.holds Tryd.pinned (.plain (OpenSpec.upto octetTakesSpec)) octetTakesUptoCard

/-- THE SECOND FORM's CARD OF 'graftagelaw01.OctetBack'. -/
def octetBackUptoCard : Claim7 := { stood := { row := octetBackUptoRow, standIns := [], harness := (true, "cd8163aa77b11877cc7b792067d9c7a6aa7c15c22b867fd9ae3ef6dff9b5308e"), looks := false }, kinds := [], alts := [], laidByText := true, laidKinds := [.data], laidTests := true, laidLooks := .later }
def OctetBackUptoCardSaid : Prop := Claim7.holds Tryd.pinned (.plain (OpenSpec.upto octetBackSpec)) octetBackUptoCard

/-- THE SECOND FORM's CARD OF 'graftagelaw01.OctetSums'. -/
def octetSumsUptoCard : Claim7 := { stood := { row := octetSumsUptoRow, standIns := [], harness := (true, "cd8163aa77b11877cc7b792067d9c7a6aa7c15c22b867fd9ae3ef6dff9b5308e"), looks := false }, kinds := [], alts := [], laidByText := true, laidKinds := [.data], laidTests := true, laidLooks := .later }
def OctetSumsUptoCardSaid : Prop := Claim7.holds Tryd.pinned (.plain (OpenSpec.upto octetSumsSpec)) octetSumsUptoCard

/-- THE SECOND FORM's CARD OF 'graftagelaw01.OctetBursts'. -/
def octetBurstsUptoCard : Claim7 := { stood := { row := octetBurstsUptoRow, standIns := [], harness := (true, "cd8163aa77b11877cc7b792067d9c7a6aa7c15c22b867fd9ae3ef6dff9b5308e"), looks := false }, kinds := [], alts := [], laidByText := true, laidKinds := [.data], laidTests := true, laidLooks := .later }
def OctetBurstsUptoCardSaid : Prop := Claim7.holds Tryd.pinned (.plain (OpenSpec.upto octetBurstsSpec)) octetBurstsUptoCard

/-- THE SECOND FORM's CARD OF 'graftagelaw02.IdentDigests'. -/
def identDigestsUptoCard : Claim7 := { stood := { row := identDigestsUptoRow, standIns := [], harness := (true, "cd8163aa77b11877cc7b792067d9c7a6aa7c15c22b867fd9ae3ef6dff9b5308e"), looks := false }, kinds := [], alts := [], laidByText := true, laidKinds := [.data], laidTests := true, laidLooks := .later }
def IdentDigestsUptoCardSaid : Prop := Claim7.holds Tryd.pinned (.plain (OpenSpec.upto identDigestsSpec)) identDigestsUptoCard

/-- THE SECOND FORM's CARD OF 'graftagelaw02.IdentDigits'. -/
def identDigitsUptoCard : Claim7 := { stood := { row := identDigitsUptoRow, standIns := [], harness := (true, "cd8163aa77b11877cc7b792067d9c7a6aa7c15c22b867fd9ae3ef6dff9b5308e"), looks := false }, kinds := [], alts := [], laidByText := true, laidKinds := [.data], laidTests := true, laidLooks := .later }
def IdentDigitsUptoCardSaid : Prop := Claim7.holds Tryd.pinned (.plain (OpenSpec.upto identDigitsSpec)) identDigitsUptoCard

/-- THE SECOND FORM's CARD OF 'graftagelaw02.IdentFinds'. -/
def identFindsUptoCard : Claim7 := { stood := { row := identFindsUptoRow, standIns := [], harness := (true, "cd8163aa77b11877cc7b792067d9c7a6aa7c15c22b867fd9ae3ef6dff9b5308e"), looks := false }, kinds := [], alts := [], laidByText := true, laidKinds := [.data], laidTests := true, laidLooks := .later }
def IdentFindsUptoCardSaid : Prop := Claim7.holds Tryd.pinned (.plain (OpenSpec.upto identFindsSpec)) identFindsUptoCard

/-- THE SECOND FORM's CARD OF 'graftagelaw02.IdentShorts'. -/
def identShortsUptoCard : Claim7 := { stood := { row := identShortsUptoRow, standIns := [], harness := (true, "cd8163aa77b11877cc7b792067d9c7a6aa7c15c22b867fd9ae3ef6dff9b5308e"), looks := false }, kinds := [], alts := [], laidByText := true, laidKinds := [.data], laidTests := true, laidLooks := .later }
def IdentShortsUptoCardSaid : Prop := Claim7.holds Tryd.pinned (.plain (OpenSpec.upto identShortsSpec)) identShortsUptoCard
end Rows
end Go.Proofs.YtgnljpcnkmogfaaDoor
