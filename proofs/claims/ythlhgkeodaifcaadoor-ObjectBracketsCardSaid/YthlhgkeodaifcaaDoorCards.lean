/-
  DERIVED. GIVEN WITH THE SEED: THE CARDS: each row of YthlhgkeodaifcaaDoorRows.lean that lists a variable, with what it lists TIED to the program's text (the seventh form; the later family's looks); each row that meets fmt, with fmt's text TOLD by the authors' own Lean function (tested against real Go, not proved from fmt's source: count such statements apart). THE CARD IS WHAT COUNTS. Prove the row's statement (the work); the ties are given (YthlhgkeodaifcaaDoorTie.lean); close each card by the builder's one call (the guide's Derived/Test/ToyasCard.lean, 'card_holds'). Laid BY PROGRAM, IN A SANDBOX (cutbox-door.mjs). By AI agents, Wed Nov 11 2026. No macro, syntax, notation, axiom, sorry.
-/
import Derived.Test.YthlhgkeodaifcaaDoorRows
import GoSem.ClaimSeven
namespace Go.Proofs.YthlhgkeodaifcaaDoor
namespace Rows

/-- THE TIED CARD OF 'inkhornlaw11.ObjectFinds'. -/
def objectFindsCard : Claim7 := { stood := { row := objectFindsRow, standIns := [], harness := (true, "75e461766fd5596077bf6b3728c7fe2092318c03b9599f21cf82e9afc7937f74"), looks := false }, kinds := [], alts := [], laidByText := true, laidKinds := [.data], laidTests := true, laidLooks := .later }
def ObjectFindsCardSaid : Prop := Claim7.holds Tryd.pinned (.plain (OpenSpec.ofChange objectFindsSpec)) objectFindsCard

/-- THE TIED CARD OF 'inkhornlaw11.ObjectWithin'. -/
def objectWithinCard : Claim7 := { stood := { row := objectWithinRow, standIns := [], harness := (true, "75e461766fd5596077bf6b3728c7fe2092318c03b9599f21cf82e9afc7937f74"), looks := false }, kinds := [], alts := [], laidByText := true, laidKinds := [.data], laidTests := true, laidLooks := .later }
def ObjectWithinCardSaid : Prop := Claim7.holds Tryd.pinned (.plain (OpenSpec.ofChange objectWithinSpec)) objectWithinCard

/-- THE TIED CARD OF 'inkhornlaw11.ObjectWords'. -/
def objectWordsCard : Claim7 := { stood := { row := objectWordsRow, standIns := [], harness := (true, "75e461766fd5596077bf6b3728c7fe2092318c03b9599f21cf82e9afc7937f74"), looks := false }, kinds := [], alts := [], laidByText := true, laidKinds := [.data], laidTests := true, laidLooks := .later }
def ObjectWordsCardSaid : Prop := Claim7.holds Tryd.pinned (.plain (OpenSpec.ofChange objectWordsSpec)) objectWordsCard

/-- THE TIED CARD OF 'inkhornlaw11.ObjectBrackets'. -/
def objectBracketsCard : Claim7 := { stood := { row := objectBracketsRow, standIns := [], harness := (true, "75e461766fd5596077bf6b3728c7fe2092318c03b9599f21cf82e9afc7937f74"), looks := false }, kinds := [], alts := [], laidByText := true, laidKinds := [.data], laidTests := true, laidLooks := .later }
def ObjectBracketsCardSaid : Prop := Claim7.holds Tryd.pinned (.plain (OpenSpec.ofChange objectBracketsSpec)) objectBracketsCard

/-- THE TIED CARD OF 'inkhornlaw11.ObjectLines'. -/
def objectLinesCard : Claim7 := { stood := { row := objectLinesRow, standIns := [], harness := (true, "75e461766fd5596077bf6b3728c7fe2092318c03b9599f21cf82e9afc7937f74"), looks := false }, kinds := [], alts := [], laidByText := true, laidKinds := [.data], laidTests := true, laidLooks := .later }
def ObjectLinesCardSaid : Prop := Claim7.holds Tryd.pinned (.plain (OpenSpec.ofChange objectLinesSpec)) objectLinesCard

/-- THE SECOND FORM's CARD OF 'inkhornlaw11.ObjectFinds'. -/
def objectFindsUptoCard : Claim7 := { stood := { row := objectFindsUptoRow, standIns := [], harness := (true, "75e461766fd5596077bf6b3728c7fe2092318c03b9599f21cf82e9afc7937f74"), looks := false }, kinds := [], alts := [], laidByText := true, laidKinds := [.data], laidTests := true, laidLooks := .later }
def ObjectFindsUptoCardSaid : Prop := Claim7.holds Tryd.pinned (.plain (OpenSpec.upto objectFindsSpec)) objectFindsUptoCard

/-- THE SECOND FORM's CARD OF 'inkhornlaw11.ObjectWithin'. -/
def objectWithinUptoCard : Claim7 := { stood := { row := objectWithinUptoRow, standIns := [], harness := (true, "75e461766fd5596077bf6b3728c7fe2092318c03b9599f21cf82e9afc7937f74"), looks := false }, kinds := [], alts := [], laidByText := true, laidKinds := [.data], laidTests := true, laidLooks := .later }
def ObjectWithinUptoCardSaid : Prop := Claim7.holds Tryd.pinned (.plain (OpenSpec.upto objectWithinSpec)) objectWithinUptoCard

/-- THE SECOND FORM's CARD OF 'inkhornlaw11.ObjectWords'. -/
def objectWordsUptoCard : Claim7 := { stood := { row := objectWordsUptoRow, standIns := [], harness := (true, "75e461766fd5596077bf6b3728c7fe2092318c03b9599f21cf82e9afc7937f74"), looks := false }, kinds := [], alts := [], laidByText := true, laidKinds := [.data], laidTests := true, laidLooks := .later }
def ObjectWordsUptoCardSaid : Prop := Claim7.holds Tryd.pinned (.plain (OpenSpec.upto objectWordsSpec)) objectWordsUptoCard

/-- THE SECOND FORM's CARD OF 'inkhornlaw11.ObjectBrackets'. -/
def objectBracketsUptoCard : Claim7 := { stood := { row := objectBracketsUptoRow, standIns := [], harness := (true, "75e461766fd5596077bf6b3728c7fe2092318c03b9599f21cf82e9afc7937f74"), looks := false }, kinds := [], alts := [], laidByText := true, laidKinds := [.data], laidTests := true, laidLooks := .later }
def ObjectBracketsUptoCardSaid : Prop := Claim7.holds Tryd.pinned (.plain (OpenSpec.upto objectBracketsSpec)) objectBracketsUptoCard

/-- THE SECOND FORM's CARD OF 'inkhornlaw11.ObjectLines'. -/
def objectLinesUptoCard : Claim7 := { stood := { row := objectLinesUptoRow, standIns := [], harness := (true, "75e461766fd5596077bf6b3728c7fe2092318c03b9599f21cf82e9afc7937f74"), looks := false }, kinds := [], alts := [], laidByText := true, laidKinds := [.data], laidTests := true, laidLooks := .later }
def ObjectLinesUptoCardSaid : Prop := Claim7.holds Tryd.pinned (.plain (OpenSpec.upto objectLinesSpec)) objectLinesUptoCard
end Rows
end Go.Proofs.YthlhgkeodaifcaaDoor
