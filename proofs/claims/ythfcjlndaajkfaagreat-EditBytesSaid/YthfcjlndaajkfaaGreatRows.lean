/-
  No cell of these rows narrows 'for every input' (looked for: loops, veiled, ifaces, maps, wideKeys, modest, calm, conditions, laid).
  DERIVED. THE GIVEN ROWS OF THIS SEAT. 4 by the template 'for every input the law returns true; each argument reads behind the call as it read before'; 0 by the template 'total and deterministic' (their statements: YthfcjlndaajkfaaGreatTotals.lean).
  GIVEN WITH THE SEED: the statements are not yours to turn. If you find one false, say at which input.
  Laid BY PROGRAM, IN A SANDBOX (cutbox-rows.mjs): the forced cells as the released guide's own fill.sh prints them over the translation f4e8d7ec13720710… (all of the seat's roots in one cut). By AI agents, Wed Nov 11 2026. No macro, syntax, notation, axiom, sorry.
-/
import Derived.Test.YthfcjlndaajkfaaGreatChecked
import GoSem.Claim
import GoSem.ClaimJoined
import GoSem.ClaimMapViews
import Derived.JoinedTies
import Derived.KernelRfl
namespace Go.Proofs.YthfcjlndaajkfaaGreat
/- THE CELL 'sum', in the pinned program and in every row, IS THE sha256 OF THE DUMP (.gsa) THAT YthfcjlndaajkfaaGreatProg.lean LOADS. Nothing in Lean hashes anything: it is a label: what it is worth is what the hold of that sum in a sandbox is worth. -/
noncomputable def Tryz.pinned : Pinned := { name := "ythfcjlndaajkfaagreat", sum := "f4e8d7ec1372071036dd7290541632c07f9f8ae53ff5b1d233887be0f6e302be", checked := Tryz.checked }
namespace Rows
def none {H : Type} : Left H := { results := [], args := [] }

/-- 'lienlaw15.EditChecks': WHATEVER THE INPUT: true; the input reads as it did. -/
def editChecksSpec : ChangeSpec := { name := "editChecks", fn := fun _ => fun
  | [d1, d2] => { results := [.lit (.bool true)], args := [d1, d2] }
  | _ => none }
def editChecksRow : OpenClaim := { program := "ythfcjlndaajkfaagreat", sum := "f4e8d7ec1372071036dd7290541632c07f9f8ae53ff5b1d233887be0f6e302be", func := "lien/lienlaw15.EditChecks", spec := "editChecks", inPlace := ["internal/bytealg.abigen_runtime_cmpstring", "slices.overlaps[lien/api.Log]", "slices.overlaps[lien/api.Table]"], unfollowed := true, recurses := true, plainKeys := false, apart := false }
def EditChecksSaid : Prop := editChecksRow.holds Tryz.pinned (OpenSpec.ofChange editChecksSpec)

/-- ITS FALSE NEIGHBOUR: 'it returns false'. Refute it at one input. -/
def editChecksWrong : ChangeSpec := { name := "editChecks", fn := fun _ => fun
  | [d1, d2] => { results := [.lit (.bool false)], args := [d1, d2] }
  | _ => none }
def EditChecksWrongFalsely : Prop := editChecksRow.holds Tryz.pinned (OpenSpec.ofChange editChecksWrong)

/-- 'lienlaw15.EditApplies': WHATEVER THE INPUT: true; the input reads as it did. -/
def editAppliesSpec : ChangeSpec := { name := "editApplies", fn := fun _ => fun
  | [d1, d2] => { results := [.lit (.bool true)], args := [d1, d2] }
  | _ => none }
def editAppliesRow : OpenClaim := { program := "ythfcjlndaajkfaagreat", sum := "f4e8d7ec1372071036dd7290541632c07f9f8ae53ff5b1d233887be0f6e302be", func := "lien/lienlaw15.EditApplies", spec := "editApplies", inPlace := ["internal/bytealg.abigen_runtime_cmpstring", "slices.overlaps[lien/api.Log]", "slices.overlaps[lien/api.Table]"], unfollowed := true, recurses := true, plainKeys := false, apart := false }
def EditAppliesSaid : Prop := editAppliesRow.holds Tryz.pinned (OpenSpec.ofChange editAppliesSpec)

/-- ITS FALSE NEIGHBOUR: 'it returns false'. Refute it at one input. -/
def editAppliesWrong : ChangeSpec := { name := "editApplies", fn := fun _ => fun
  | [d1, d2] => { results := [.lit (.bool false)], args := [d1, d2] }
  | _ => none }
def EditAppliesWrongFalsely : Prop := editAppliesRow.holds Tryz.pinned (OpenSpec.ofChange editAppliesWrong)

/-- 'lienlaw15.EditBytes': WHATEVER THE INPUT: true; the input reads as it did. -/
def editBytesSpec : ChangeSpec := { name := "editBytes", fn := fun _ => fun
  | [d1, d2] => { results := [.lit (.bool true)], args := [d1, d2] }
  | _ => none }
def editBytesRow : OpenClaim := { program := "ythfcjlndaajkfaagreat", sum := "f4e8d7ec1372071036dd7290541632c07f9f8ae53ff5b1d233887be0f6e302be", func := "lien/lienlaw15.EditBytes", spec := "editBytes", inPlace := ["internal/bytealg.abigen_runtime_cmpstring", "slices.overlaps[lien/api.Log]", "slices.overlaps[lien/api.Table]"], unfollowed := true, recurses := true, plainKeys := false, apart := false }
def EditBytesSaid : Prop := editBytesRow.holds Tryz.pinned (OpenSpec.ofChange editBytesSpec)

/-- ITS FALSE NEIGHBOUR: 'it returns false'. Refute it at one input. -/
def editBytesWrong : ChangeSpec := { name := "editBytes", fn := fun _ => fun
  | [d1, d2] => { results := [.lit (.bool false)], args := [d1, d2] }
  | _ => none }
def EditBytesWrongFalsely : Prop := editBytesRow.holds Tryz.pinned (OpenSpec.ofChange editBytesWrong)

/-- 'lienlaw15.EditOwn': WHATEVER THE INPUT: true; the input reads as it did. -/
def editOwnSpec : ChangeSpec := { name := "editOwn", fn := fun _ => fun
  | [d1, d2] => { results := [.lit (.bool true)], args := [d1, d2] }
  | _ => none }
def editOwnRow : OpenClaim := { program := "ythfcjlndaajkfaagreat", sum := "f4e8d7ec1372071036dd7290541632c07f9f8ae53ff5b1d233887be0f6e302be", func := "lien/lienlaw15.EditOwn", spec := "editOwn", inPlace := ["internal/bytealg.abigen_runtime_cmpstring", "slices.overlaps[lien/api.Log]", "slices.overlaps[lien/api.Table]"], unfollowed := true, recurses := true, plainKeys := false, apart := false }
def EditOwnSaid : Prop := editOwnRow.holds Tryz.pinned (OpenSpec.ofChange editOwnSpec)

/-- ITS FALSE NEIGHBOUR: 'it returns false'. Refute it at one input. -/
def editOwnWrong : ChangeSpec := { name := "editOwn", fn := fun _ => fun
  | [d1, d2] => { results := [.lit (.bool false)], args := [d1, d2] }
  | _ => none }
def EditOwnWrongFalsely : Prop := editOwnRow.holds Tryz.pinned (OpenSpec.ofChange editOwnWrong)

/- THE SECOND FORM. 'bulk': how many values and letters a reading holds, each counted each time it is reached (what is shared counts as often as it is met; a slice's spare places count too). A statement '..UptoSaid' is the law's where the arguments, and the package variables that the reading takes, are together of bulk at most 1048576: NARROWER than '..Said'. Prove '..Said' where nothing that the law and all that it calls make is longer than what came in: it says more and counts as full. Else prove '..UptoSaid'. A law counts once. -/
mutual
def uptoBulk {H : Type} : DataW H → Nat
  | .lit (.string bytes) => bytes.length + 1
  | .lit _ => 1
  | .nil => 1
  | .ptr d => uptoBulk d + 1
  | .slice elems spare => uptoBulkAll elems + uptoBulkAll spare + 1
  | .agg parts => uptoBulkAll parts + 1
  | .iface _ d => uptoBulk d + 1
  | .map entries => uptoBulkEntries entries + 1
  | .held _ => 1
def uptoBulkAll {H : Type} : List (DataW H) → Nat
  | [] => 0
  | d :: r => uptoBulk d + uptoBulkAll r
def uptoBulkEntries {H : Type} : List (Lit × DataW H) → Nat
  | [] => 0
  | x :: r => uptoBulkEntry x + uptoBulkEntries r
def uptoBulkEntry {H : Type} : Lit × DataW H → Nat
  | (.string bytes, d) => bytes.length + uptoBulk d + 1
  | (_, d) => uptoBulk d + 1
 end
def uptoSmall : (H : Type) → List (DataW H) → Bool := fun _ ds => decide (uptoBulkAll ds ≤ 1048576)
def OpenSpec.upto (s : _root_.Go.ChangeSpec) : _root_.Go.OpenSpec := { _root_.Go.OpenSpec.ofChange s with cond := some uptoSmall }

/-- 'lienlaw15.EditChecks', WHERE WHAT IT READS IS OF BULK AT MOST 1048576: true; the input reads as it did. -/
def editChecksUptoRow : OpenClaim := { program := "ythfcjlndaajkfaagreat", sum := "f4e8d7ec1372071036dd7290541632c07f9f8ae53ff5b1d233887be0f6e302be", func := "lien/lienlaw15.EditChecks", spec := "editChecks", inPlace := ["internal/bytealg.abigen_runtime_cmpstring", "slices.overlaps[lien/api.Log]", "slices.overlaps[lien/api.Table]"], unfollowed := true, recurses := true, plainKeys := false, apart := false, narrowed := true }
def EditChecksUptoSaid : Prop := editChecksUptoRow.holds Tryz.pinned (OpenSpec.upto editChecksSpec)

/-- 'lienlaw15.EditApplies', WHERE WHAT IT READS IS OF BULK AT MOST 1048576: true; the input reads as it did. -/
def editAppliesUptoRow : OpenClaim := { program := "ythfcjlndaajkfaagreat", sum := "f4e8d7ec1372071036dd7290541632c07f9f8ae53ff5b1d233887be0f6e302be", func := "lien/lienlaw15.EditApplies", spec := "editApplies", inPlace := ["internal/bytealg.abigen_runtime_cmpstring", "slices.overlaps[lien/api.Log]", "slices.overlaps[lien/api.Table]"], unfollowed := true, recurses := true, plainKeys := false, apart := false, narrowed := true }
def EditAppliesUptoSaid : Prop := editAppliesUptoRow.holds Tryz.pinned (OpenSpec.upto editAppliesSpec)

/-- 'lienlaw15.EditBytes', WHERE WHAT IT READS IS OF BULK AT MOST 1048576: true; the input reads as it did. -/
def editBytesUptoRow : OpenClaim := { program := "ythfcjlndaajkfaagreat", sum := "f4e8d7ec1372071036dd7290541632c07f9f8ae53ff5b1d233887be0f6e302be", func := "lien/lienlaw15.EditBytes", spec := "editBytes", inPlace := ["internal/bytealg.abigen_runtime_cmpstring", "slices.overlaps[lien/api.Log]", "slices.overlaps[lien/api.Table]"], unfollowed := true, recurses := true, plainKeys := false, apart := false, narrowed := true }
def EditBytesUptoSaid : Prop := editBytesUptoRow.holds Tryz.pinned (OpenSpec.upto editBytesSpec)

/-- 'lienlaw15.EditOwn', WHERE WHAT IT READS IS OF BULK AT MOST 1048576: true; the input reads as it did. -/
def editOwnUptoRow : OpenClaim := { program := "ythfcjlndaajkfaagreat", sum := "f4e8d7ec1372071036dd7290541632c07f9f8ae53ff5b1d233887be0f6e302be", func := "lien/lienlaw15.EditOwn", spec := "editOwn", inPlace := ["internal/bytealg.abigen_runtime_cmpstring", "slices.overlaps[lien/api.Log]", "slices.overlaps[lien/api.Table]"], unfollowed := true, recurses := true, plainKeys := false, apart := false, narrowed := true }
def EditOwnUptoSaid : Prop := editOwnUptoRow.holds Tryz.pinned (OpenSpec.upto editOwnSpec)

end Rows
end Go.Proofs.YthfcjlndaajkfaaGreat
