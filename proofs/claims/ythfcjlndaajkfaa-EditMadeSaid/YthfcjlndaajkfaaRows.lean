/-
  No cell of these rows narrows 'for every input' (looked for: loops, veiled, ifaces, maps, wideKeys, modest, calm, conditions, laid).
  DERIVED. THE GIVEN ROWS OF THIS SEAT. 3 by the template 'for every input the law returns true; each argument reads behind the call as it read before'; 0 by the template 'total and deterministic' (their statements: YthfcjlndaajkfaaTotals.lean).
  GIVEN WITH THE SEED: the statements are not yours to turn. If you find one false, say at which input.
  Laid BY PROGRAM, IN A SANDBOX (cutbox-rows.mjs): the forced cells as the released guide's own fill.sh prints them over the translation 8de1397dd762d245… (all of the seat's roots in one cut). By AI agents, Wed Nov 11 2026. No macro, syntax, notation, axiom, sorry.
-/
import Derived.Test.YthfcjlndaajkfaaChecked
import GoSem.Claim
import GoSem.ClaimJoined
import GoSem.ClaimMapViews
import Derived.JoinedTies
import Derived.KernelRfl
namespace Go.Proofs.Ythfcjlndaajkfaa
/- THE CELL 'sum', in the pinned program and in every row, IS THE sha256 OF THE DUMP (.gsa) THAT YthfcjlndaajkfaaProg.lean LOADS. Nothing in Lean hashes anything: it is a label: what it is worth is what the hold of that sum in a sandbox is worth. -/
noncomputable def Try.pinned : Pinned := { name := "ythfcjlndaajkfaa", sum := "8de1397dd762d245298d335eb2527bdbebbf97727d72c60567149ffcf9bba031", checked := Try.checked }
namespace Rows
def none {H : Type} : Left H := { results := [], args := [] }

/-- 'lienlaw15.EditMade': WHATEVER THE INPUT: true; the input reads as it did. -/
def editMadeSpec : ChangeSpec := { name := "editMade", fn := fun _ => fun
  | [d] => { results := [.lit (.bool true)], args := [d] }
  | _ => none }
def editMadeRow : OpenClaim := { program := "ythfcjlndaajkfaa", sum := "8de1397dd762d245298d335eb2527bdbebbf97727d72c60567149ffcf9bba031", func := "lien/lienlaw15.EditMade", spec := "editMade", inPlace := ["internal/bytealg.abigen_runtime_cmpstring", "slices.overlaps[lien/api.Log]", "slices.overlaps[lien/api.Table]"], unfollowed := true, recurses := true, plainKeys := false, apart := false }
def EditMadeSaid : Prop := editMadeRow.holds Try.pinned (OpenSpec.ofChange editMadeSpec)

/-- ITS FALSE NEIGHBOUR: 'it returns false'. Refute it at one input. -/
def editMadeWrong : ChangeSpec := { name := "editMade", fn := fun _ => fun
  | [d] => { results := [.lit (.bool false)], args := [d] }
  | _ => none }
def EditMadeWrongFalsely : Prop := editMadeRow.holds Try.pinned (OpenSpec.ofChange editMadeWrong)

/-- 'lienlaw15.EditBack': WHATEVER THE INPUT: true; the input reads as it did. -/
def editBackSpec : ChangeSpec := { name := "editBack", fn := fun _ => fun
  | [d1, d2] => { results := [.lit (.bool true)], args := [d1, d2] }
  | _ => none }
def editBackRow : OpenClaim := { program := "ythfcjlndaajkfaa", sum := "8de1397dd762d245298d335eb2527bdbebbf97727d72c60567149ffcf9bba031", func := "lien/lienlaw15.EditBack", spec := "editBack", inPlace := ["internal/bytealg.abigen_runtime_cmpstring", "slices.overlaps[lien/api.Log]", "slices.overlaps[lien/api.Table]"], unfollowed := true, recurses := true, plainKeys := false, apart := false }
def EditBackSaid : Prop := editBackRow.holds Try.pinned (OpenSpec.ofChange editBackSpec)

/-- ITS FALSE NEIGHBOUR: 'it returns false'. Refute it at one input. -/
def editBackWrong : ChangeSpec := { name := "editBack", fn := fun _ => fun
  | [d1, d2] => { results := [.lit (.bool false)], args := [d1, d2] }
  | _ => none }
def EditBackWrongFalsely : Prop := editBackRow.holds Try.pinned (OpenSpec.ofChange editBackWrong)

/-- 'lienlaw15.EditParts': WHATEVER THE INPUT: true; the input reads as it did. -/
def editPartsSpec : ChangeSpec := { name := "editParts", fn := fun _ => fun
  | [d1, d2, d3] => { results := [.lit (.bool true)], args := [d1, d2, d3] }
  | _ => none }
def editPartsRow : OpenClaim := { program := "ythfcjlndaajkfaa", sum := "8de1397dd762d245298d335eb2527bdbebbf97727d72c60567149ffcf9bba031", func := "lien/lienlaw15.EditParts", spec := "editParts", inPlace := ["internal/bytealg.abigen_runtime_cmpstring", "slices.overlaps[lien/api.Log]", "slices.overlaps[lien/api.Table]"], unfollowed := true, recurses := true, plainKeys := false, apart := false }
def EditPartsSaid : Prop := editPartsRow.holds Try.pinned (OpenSpec.ofChange editPartsSpec)

/-- ITS FALSE NEIGHBOUR: 'it returns false'. Refute it at one input. -/
def editPartsWrong : ChangeSpec := { name := "editParts", fn := fun _ => fun
  | [d1, d2, d3] => { results := [.lit (.bool false)], args := [d1, d2, d3] }
  | _ => none }
def EditPartsWrongFalsely : Prop := editPartsRow.holds Try.pinned (OpenSpec.ofChange editPartsWrong)

/- THE SECOND FORM. 'bulk': how many values and letters a reading holds, each counted each time it is reached (what is shared counts as often as it is met; a slice's spare places count too). A statement '..UptoSaid' is the law's where the arguments, and the package variables that the reading takes, are together of bulk at most 1048576: NARROWER than '..Said'. Prove '..Said' where nothing that the law and all that it calls make is longer than what came in: it says more and counts as full. Else prove '..UptoSaid'. A law counts once. -/
mutual
def uptoBulk {H : Type} : DataW H → Nat
  | .lit (.string bytes) => bytes.length + 1
  | .lit _ => 1
  | .nil => 1
  | .ptr d => uptoBulk d + 1
  | .slice elems spare => uptoBulkAll elems + uptoBulkAll spare + 1
  | .agg parts => uptoBulkAll parts + 1
  | .iface _ d => uptoBulk d + 1
  | .map entries => uptoBulkEntries entries + 1
  | .held _ => 1
def uptoBulkAll {H : Type} : List (DataW H) → Nat
  | [] => 0
  | d :: r => uptoBulk d + uptoBulkAll r
def uptoBulkEntries {H : Type} : List (Lit × DataW H) → Nat
  | [] => 0
  | x :: r => uptoBulkEntry x + uptoBulkEntries r
def uptoBulkEntry {H : Type} : Lit × DataW H → Nat
  | (.string bytes, d) => bytes.length + uptoBulk d + 1
  | (_, d) => uptoBulk d + 1
 end
def uptoSmall : (H : Type) → List (DataW H) → Bool := fun _ ds => decide (uptoBulkAll ds ≤ 1048576)
def OpenSpec.upto (s : _root_.Go.ChangeSpec) : _root_.Go.OpenSpec := { _root_.Go.OpenSpec.ofChange s with cond := some uptoSmall }

/-- 'lienlaw15.EditMade', WHERE WHAT IT READS IS OF BULK AT MOST 1048576: true; the input reads as it did. -/
def editMadeUptoRow : OpenClaim := { program := "ythfcjlndaajkfaa", sum := "8de1397dd762d245298d335eb2527bdbebbf97727d72c60567149ffcf9bba031", func := "lien/lienlaw15.EditMade", spec := "editMade", inPlace := ["internal/bytealg.abigen_runtime_cmpstring", "slices.overlaps[lien/api.Log]", "slices.overlaps[lien/api.Table]"], unfollowed := true, recurses := true, plainKeys := false, apart := false, narrowed := true }
def EditMadeUptoSaid : Prop := editMadeUptoRow.holds Try.pinned (OpenSpec.upto editMadeSpec)

/-- 'lienlaw15.EditBack', WHERE WHAT IT READS IS OF BULK AT MOST 1048576: true; the input reads as it did. -/
def editBackUptoRow : OpenClaim := { program := "ythfcjlndaajkfaa", sum := "8de1397dd762d245298d335eb2527bdbebbf97727d72c60567149ffcf9bba031", func := "lien/lienlaw15.EditBack", spec := "editBack", inPlace := ["internal/bytealg.abigen_runtime_cmpstring", "slices.overlaps[lien/api.Log]", "slices.overlaps[lien/api.Table]"], unfollowed := true, recurses := true, plainKeys := false, apart := false, narrowed := true }
def EditBackUptoSaid : Prop := editBackUptoRow.holds Try.pinned (OpenSpec.upto editBackSpec)

/-- 'lienlaw15.EditParts', WHERE WHAT IT READS IS OF BULK AT MOST 1048576: true; the input reads as it did. -/
def editPartsUptoRow : OpenClaim := { program := "ythfcjlndaajkfaa", sum := "8de1397dd762d245298d335eb2527bdbebbf97727d72c60567149ffcf9bba031", func := "lien/lienlaw15.EditParts", spec := "editParts", inPlace := ["internal/bytealg.abigen_runtime_cmpstring", "slices.overlaps[lien/api.Log]", "slices.overlaps[lien/api.Table]"], unfollowed := true, recurses := true, plainKeys := false, apart := false, narrowed := true }
def EditPartsUptoSaid : Prop := editPartsUptoRow.holds Try.pinned (OpenSpec.upto editPartsSpec)

end Rows
end Go.Proofs.Ythfcjlndaajkfaa
