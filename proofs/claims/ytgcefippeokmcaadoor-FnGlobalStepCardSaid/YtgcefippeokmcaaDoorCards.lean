/-
  DERIVED. GIVEN WITH THE SEED: THE CARDS: each row of YtgcefippeokmcaaDoorRows.lean that lists a variable, with what it lists TIED to the program's text (the seventh form; the later family's looks); each row that meets fmt, with fmt's text TOLD by the authors' own Lean function (tested against real Go, not proved from fmt's source: count such statements apart). THE CARD IS WHAT COUNTS. Prove the row's statement (the work); the ties are given (YtgcefippeokmcaaDoorTie.lean); close each card by the builder's one call (the guide's Derived/Test/ToyasCard.lean, 'card_holds'). Laid BY PROGRAM, IN A SANDBOX (cutbox-door.mjs). By AI agents, Wed Nov 11 2026. No macro, syntax, notation, axiom, sorry.
-/
import Derived.Test.YtgcefippeokmcaaDoorRows
import GoSem.ClaimSeven
namespace Go.Proofs.YtgcefippeokmcaaDoor
namespace Rows

/-- THE TIED CARD OF 'laws.FnLocalUnfold'. -/
def fnLocalUnfoldCard : Claim7 := { stood := { row := fnLocalUnfoldRow, standIns := [], harness := (true, "efc6411a51bbfa2c5718c78a69c98f95a837958279e964cd4c226ad50462a15b"), looks := true }, kinds := [], alts := [], laidByText := true, laidKinds := [.data, .data, .data], laidTests := true, laidLooks := .later }
def FnLocalUnfoldCardSaid : Prop := Claim7.holds Tryd.pinned (.plain (OpenSpec.ofChange fnLocalUnfoldSpec)) fnLocalUnfoldCard

/-- THE TIED CARD OF 'laws.FnLocalPeers'. -/
def fnLocalPeersCard : Claim7 := { stood := { row := fnLocalPeersRow, standIns := [], harness := (true, "efc6411a51bbfa2c5718c78a69c98f95a837958279e964cd4c226ad50462a15b"), looks := true }, kinds := [], alts := [], laidByText := true, laidKinds := [.data, .data, .data], laidTests := true, laidLooks := .later }
def FnLocalPeersCardSaid : Prop := Claim7.holds Tryd.pinned (.plain (OpenSpec.ofChange fnLocalPeersSpec)) fnLocalPeersCard

/-- THE TIED CARD OF 'laws.FnLocalText'. -/
def fnLocalTextCard : Claim7 := { stood := { row := fnLocalTextRow, standIns := [], harness := (true, "efc6411a51bbfa2c5718c78a69c98f95a837958279e964cd4c226ad50462a15b"), looks := true }, kinds := [], alts := [], laidByText := true, laidKinds := [.data, .data, .data], laidTests := true, laidLooks := .later }
def FnLocalTextCardSaid : Prop := Claim7.holds Tryd.pinned (.plain (OpenSpec.ofChange fnLocalTextSpec)) fnLocalTextCard

/-- THE TIED CARD OF 'laws.FnGlobalUnfold'. -/
def fnGlobalUnfoldCard : Claim7 := { stood := { row := fnGlobalUnfoldRow, standIns := [], harness := (true, "efc6411a51bbfa2c5718c78a69c98f95a837958279e964cd4c226ad50462a15b"), looks := true }, kinds := [], alts := [], laidByText := true, laidKinds := [.data, .data, .data], laidTests := true, laidLooks := .later }
def FnGlobalUnfoldCardSaid : Prop := Claim7.holds Tryd.pinned (.plain (OpenSpec.ofChange fnGlobalUnfoldSpec)) fnGlobalUnfoldCard

/-- THE TIED CARD OF 'laws.FnGlobalStep'. -/
def fnGlobalStepCard : Claim7 := { stood := { row := fnGlobalStepRow, standIns := [], harness := (true, "efc6411a51bbfa2c5718c78a69c98f95a837958279e964cd4c226ad50462a15b"), looks := true }, kinds := [], alts := [], laidByText := true, laidKinds := [.data, .data, .data], laidTests := true, laidLooks := .later }
def FnGlobalStepCardSaid : Prop := Claim7.holds Tryd.pinned (.plain (OpenSpec.ofChange fnGlobalStepSpec)) fnGlobalStepCard

/-- THE TIED CARD OF 'laws.FnGlobalRoles'. -/
def fnGlobalRolesCard : Claim7 := { stood := { row := fnGlobalRolesRow, standIns := [], harness := (true, "efc6411a51bbfa2c5718c78a69c98f95a837958279e964cd4c226ad50462a15b"), looks := true }, kinds := [], alts := [], laidByText := true, laidKinds := [.data, .data, .data], laidTests := true, laidLooks := .later }
def FnGlobalRolesCardSaid : Prop := Claim7.holds Tryd.pinned (.plain (OpenSpec.ofChange fnGlobalRolesSpec)) fnGlobalRolesCard

/-- THE TIED CARD OF 'laws.FnGlobalEqual'. -/
def fnGlobalEqualCard : Claim7 := { stood := { row := fnGlobalEqualRow, standIns := [], harness := (true, "efc6411a51bbfa2c5718c78a69c98f95a837958279e964cd4c226ad50462a15b"), looks := true }, kinds := [], alts := [], laidByText := true, laidKinds := [.data, .data, .data], laidTests := true, laidLooks := .later }
def FnGlobalEqualCardSaid : Prop := Claim7.holds Tryd.pinned (.plain (OpenSpec.ofChange fnGlobalEqualSpec)) fnGlobalEqualCard

/-- THE TIED CARD OF 'laws.FnGlobalInvalid'. -/
def fnGlobalInvalidCard : Claim7 := { stood := { row := fnGlobalInvalidRow, standIns := [], harness := (true, "efc6411a51bbfa2c5718c78a69c98f95a837958279e964cd4c226ad50462a15b"), looks := true }, kinds := [], alts := [], laidByText := true, laidKinds := [.data, .data, .data], laidTests := true, laidLooks := .later }
def FnGlobalInvalidCardSaid : Prop := Claim7.holds Tryd.pinned (.plain (OpenSpec.ofChange fnGlobalInvalidSpec)) fnGlobalInvalidCard

/-- THE TIED CARD OF 'laws.FnGlobalPrefix'. -/
def fnGlobalPrefixCard : Claim7 := { stood := { row := fnGlobalPrefixRow, standIns := [], harness := (true, "efc6411a51bbfa2c5718c78a69c98f95a837958279e964cd4c226ad50462a15b"), looks := true }, kinds := [], alts := [], laidByText := true, laidKinds := [.data, .data, .data], laidTests := true, laidLooks := .later }
def FnGlobalPrefixCardSaid : Prop := Claim7.holds Tryd.pinned (.plain (OpenSpec.ofChange fnGlobalPrefixSpec)) fnGlobalPrefixCard

/-- THE TIED CARD OF 'laws.FnGlobalText'. -/
def fnGlobalTextCard : Claim7 := { stood := { row := fnGlobalTextRow, standIns := [], harness := (true, "efc6411a51bbfa2c5718c78a69c98f95a837958279e964cd4c226ad50462a15b"), looks := true }, kinds := [], alts := [], laidByText := true, laidKinds := [.data, .data, .data], laidTests := true, laidLooks := .later }
def FnGlobalTextCardSaid : Prop := Claim7.holds Tryd.pinned (.plain (OpenSpec.ofChange fnGlobalTextSpec)) fnGlobalTextCard

/-- THE SECOND FORM's CARD OF 'laws.FnLocalUnfold'. -/
def fnLocalUnfoldUptoCard : Claim7 := { stood := { row := fnLocalUnfoldUptoRow, standIns := [], harness := (true, "efc6411a51bbfa2c5718c78a69c98f95a837958279e964cd4c226ad50462a15b"), looks := true }, kinds := [], alts := [], laidByText := true, laidKinds := [.data, .data, .data], laidTests := true, laidLooks := .later }
def FnLocalUnfoldUptoCardSaid : Prop := Claim7.holds Tryd.pinned (.plain (OpenSpec.upto fnLocalUnfoldSpec)) fnLocalUnfoldUptoCard

/-- THE SECOND FORM's CARD OF 'laws.FnLocalPeers'. -/
def fnLocalPeersUptoCard : Claim7 := { stood := { row := fnLocalPeersUptoRow, standIns := [], harness := (true, "efc6411a51bbfa2c5718c78a69c98f95a837958279e964cd4c226ad50462a15b"), looks := true }, kinds := [], alts := [], laidByText := true, laidKinds := [.data, .data, .data], laidTests := true, laidLooks := .later }
def FnLocalPeersUptoCardSaid : Prop := Claim7.holds Tryd.pinned (.plain (OpenSpec.upto fnLocalPeersSpec)) fnLocalPeersUptoCard

/-- THE SECOND FORM's CARD OF 'laws.FnLocalText'. -/
def fnLocalTextUptoCard : Claim7 := { stood := { row := fnLocalTextUptoRow, standIns := [], harness := (true, "efc6411a51bbfa2c5718c78a69c98f95a837958279e964cd4c226ad50462a15b"), looks := true }, kinds := [], alts := [], laidByText := true, laidKinds := [.data, .data, .data], laidTests := true, laidLooks := .later }
def FnLocalTextUptoCardSaid : Prop := Claim7.holds Tryd.pinned (.plain (OpenSpec.upto fnLocalTextSpec)) fnLocalTextUptoCard

/-- THE SECOND FORM's CARD OF 'laws.FnGlobalUnfold'. -/
def fnGlobalUnfoldUptoCard : Claim7 := { stood := { row := fnGlobalUnfoldUptoRow, standIns := [], harness := (true, "efc6411a51bbfa2c5718c78a69c98f95a837958279e964cd4c226ad50462a15b"), looks := true }, kinds := [], alts := [], laidByText := true, laidKinds := [.data, .data, .data], laidTests := true, laidLooks := .later }
def FnGlobalUnfoldUptoCardSaid : Prop := Claim7.holds Tryd.pinned (.plain (OpenSpec.upto fnGlobalUnfoldSpec)) fnGlobalUnfoldUptoCard

/-- THE SECOND FORM's CARD OF 'laws.FnGlobalStep'. -/
def fnGlobalStepUptoCard : Claim7 := { stood := { row := fnGlobalStepUptoRow, standIns := [], harness := (true, "efc6411a51bbfa2c5718c78a69c98f95a837958279e964cd4c226ad50462a15b"), looks := true }, kinds := [], alts := [], laidByText := true, laidKinds := [.data, .data, .data], laidTests := true, laidLooks := .later }
def FnGlobalStepUptoCardSaid : Prop := Claim7.holds Tryd.pinned (.plain (OpenSpec.upto fnGlobalStepSpec)) fnGlobalStepUptoCard

/-- THE SECOND FORM's CARD OF 'laws.FnGlobalRoles'. -/
def fnGlobalRolesUptoCard : Claim7 := { stood := { row := fnGlobalRolesUptoRow, standIns := [], harness := (true, "efc6411a51bbfa2c5718c78a69c98f95a837958279e964cd4c226ad50462a15b"), looks := true }, kinds := [], alts := [], laidByText := true, laidKinds := [.data, .data, .data], laidTests := true, laidLooks := .later }
def FnGlobalRolesUptoCardSaid : Prop := Claim7.holds Tryd.pinned (.plain (OpenSpec.upto fnGlobalRolesSpec)) fnGlobalRolesUptoCard

/-- THE SECOND FORM's CARD OF 'laws.FnGlobalEqual'. -/
def fnGlobalEqualUptoCard : Claim7 := { stood := { row := fnGlobalEqualUptoRow, standIns := [], harness := (true, "efc6411a51bbfa2c5718c78a69c98f95a837958279e964cd4c226ad50462a15b"), looks := true }, kinds := [], alts := [], laidByText := true, laidKinds := [.data, .data, .data], laidTests := true, laidLooks := .later }
def FnGlobalEqualUptoCardSaid : Prop := Claim7.holds Tryd.pinned (.plain (OpenSpec.upto fnGlobalEqualSpec)) fnGlobalEqualUptoCard

/-- THE SECOND FORM's CARD OF 'laws.FnGlobalInvalid'. -/
def fnGlobalInvalidUptoCard : Claim7 := { stood := { row := fnGlobalInvalidUptoRow, standIns := [], harness := (true, "efc6411a51bbfa2c5718c78a69c98f95a837958279e964cd4c226ad50462a15b"), looks := true }, kinds := [], alts := [], laidByText := true, laidKinds := [.data, .data, .data], laidTests := true, laidLooks := .later }
def FnGlobalInvalidUptoCardSaid : Prop := Claim7.holds Tryd.pinned (.plain (OpenSpec.upto fnGlobalInvalidSpec)) fnGlobalInvalidUptoCard

/-- THE SECOND FORM's CARD OF 'laws.FnGlobalPrefix'. -/
def fnGlobalPrefixUptoCard : Claim7 := { stood := { row := fnGlobalPrefixUptoRow, standIns := [], harness := (true, "efc6411a51bbfa2c5718c78a69c98f95a837958279e964cd4c226ad50462a15b"), looks := true }, kinds := [], alts := [], laidByText := true, laidKinds := [.data, .data, .data], laidTests := true, laidLooks := .later }
def FnGlobalPrefixUptoCardSaid : Prop := Claim7.holds Tryd.pinned (.plain (OpenSpec.upto fnGlobalPrefixSpec)) fnGlobalPrefixUptoCard

/-- THE SECOND FORM's CARD OF 'laws.FnGlobalText'. -/
def fnGlobalTextUptoCard : Claim7 := { stood := { row := fnGlobalTextUptoRow, standIns := [], harness := (true, "efc6411a51bbfa2c5718c78a69c98f95a837958279e964cd4c226ad50462a15b"), looks := true }, kinds := [], alts := [], laidByText := true, laidKinds := [.data, .data, .data], laidTests := true, laidLooks := .later }
def FnGlobalTextUptoCardSaid : Prop := Claim7.holds Tryd.pinned (.plain (OpenSpec.upto fnGlobalTextSpec)) fnGlobalTextUptoCard
end Rows
end Go.Proofs.YtgcefippeokmcaaDoor
