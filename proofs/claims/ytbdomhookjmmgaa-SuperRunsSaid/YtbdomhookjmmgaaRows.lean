/-
  No cell of these rows narrows 'for every input' (looked for: loops, veiled, ifaces, maps, wideKeys, modest, calm, conditions, laid).
  DERIVED. THE GIVEN ROWS OF THIS SEAT. 7 by the template 'for every input the law returns true; each argument reads behind the call as it read before'; 0 by the template 'total and deterministic' (their statements: YtbdomhookjmmgaaTotals.lean).
  GIVEN WITH THE SEED: the statements are not yours to turn. If you find one false, say at which input.
  Laid BY PROGRAM, IN A SANDBOX (cutbox-rows.mjs): the forced cells as the released guide's own fill.sh prints them over the translation ff6f4f50a88160bb… (all of the seat's roots in one cut). By AI agents, Wed Nov 11 2026. No macro, syntax, notation, axiom, sorry.
-/
import Derived.Test.YtbdomhookjmmgaaChecked
import GoSem.Claim
import GoSem.ClaimJoined
import GoSem.ClaimMapViews
import Derived.JoinedTies
import Derived.KernelRfl
namespace Go.Proofs.Ytbdomhookjmmgaa
/- THE CELL 'sum', in the pinned program and in every row, IS THE sha256 OF THE DUMP (.gsa) THAT YtbdomhookjmmgaaProg.lean LOADS. Nothing in Lean hashes anything: it is a label: what it is worth is what the hold of that sum in a sandbox is worth. -/
noncomputable def Try.pinned : Pinned := { name := "ytbdomhookjmmgaa", sum := "ff6f4f50a88160bb3c24b774fef88adeae6b5ba9ac53e52713796d1f726b140a", checked := Try.checked }
namespace Rows
def none {H : Type} : Left H := { results := [], args := [] }

/-- 'lienlaw05.SuperForms': WHATEVER THE INPUT: true; the input reads as it did. -/
def superFormsSpec : ChangeSpec := { name := "superForms", fn := fun _ => fun
  | [d] => { results := [.lit (.bool true)], args := [d] }
  | _ => none }
def superFormsRow : OpenClaim := { program := "ytbdomhookjmmgaa", sum := "ff6f4f50a88160bb3c24b774fef88adeae6b5ba9ac53e52713796d1f726b140a", func := "lien/lienlaw05.SuperForms", spec := "superForms", unfollowed := true, recurses := true, apart := false }
def SuperFormsSaid : Prop := superFormsRow.holds Try.pinned (OpenSpec.ofChange superFormsSpec)

/-- ITS FALSE NEIGHBOUR: 'it returns false'. Refute it at one input. -/
def superFormsWrong : ChangeSpec := { name := "superForms", fn := fun _ => fun
  | [d] => { results := [.lit (.bool false)], args := [d] }
  | _ => none }
def SuperFormsWrongFalsely : Prop := superFormsRow.holds Try.pinned (OpenSpec.ofChange superFormsWrong)

/-- 'lienlaw05.SuperReads': WHATEVER THE INPUT: true; the input reads as it did. -/
def superReadsSpec : ChangeSpec := { name := "superReads", fn := fun _ => fun
  | [d] => { results := [.lit (.bool true)], args := [d] }
  | _ => none }
def superReadsRow : OpenClaim := { program := "ytbdomhookjmmgaa", sum := "ff6f4f50a88160bb3c24b774fef88adeae6b5ba9ac53e52713796d1f726b140a", func := "lien/lienlaw05.SuperReads", spec := "superReads", unfollowed := true, recurses := true, apart := false }
def SuperReadsSaid : Prop := superReadsRow.holds Try.pinned (OpenSpec.ofChange superReadsSpec)

/-- ITS FALSE NEIGHBOUR: 'it returns false'. Refute it at one input. -/
def superReadsWrong : ChangeSpec := { name := "superReads", fn := fun _ => fun
  | [d] => { results := [.lit (.bool false)], args := [d] }
  | _ => none }
def SuperReadsWrongFalsely : Prop := superReadsRow.holds Try.pinned (OpenSpec.ofChange superReadsWrong)

/-- 'lienlaw05.SuperRuns': WHATEVER THE INPUT: true; the input reads as it did. -/
def superRunsSpec : ChangeSpec := { name := "superRuns", fn := fun _ => fun
  | [d1, d2] => { results := [.lit (.bool true)], args := [d1, d2] }
  | _ => none }
def superRunsRow : OpenClaim := { program := "ytbdomhookjmmgaa", sum := "ff6f4f50a88160bb3c24b774fef88adeae6b5ba9ac53e52713796d1f726b140a", func := "lien/lienlaw05.SuperRuns", spec := "superRuns", unfollowed := true, recurses := true, apart := false }
def SuperRunsSaid : Prop := superRunsRow.holds Try.pinned (OpenSpec.ofChange superRunsSpec)

/-- ITS FALSE NEIGHBOUR: 'it returns false'. Refute it at one input. -/
def superRunsWrong : ChangeSpec := { name := "superRuns", fn := fun _ => fun
  | [d1, d2] => { results := [.lit (.bool false)], args := [d1, d2] }
  | _ => none }
def SuperRunsWrongFalsely : Prop := superRunsRow.holds Try.pinned (OpenSpec.ofChange superRunsWrong)

/-- 'lienlaw05.SuperBack': WHATEVER THE INPUT: true; the input reads as it did. -/
def superBackSpec : ChangeSpec := { name := "superBack", fn := fun _ => fun
  | [d1, d2] => { results := [.lit (.bool true)], args := [d1, d2] }
  | _ => none }
def superBackRow : OpenClaim := { program := "ytbdomhookjmmgaa", sum := "ff6f4f50a88160bb3c24b774fef88adeae6b5ba9ac53e52713796d1f726b140a", func := "lien/lienlaw05.SuperBack", spec := "superBack", unfollowed := true, recurses := true, apart := false }
def SuperBackSaid : Prop := superBackRow.holds Try.pinned (OpenSpec.ofChange superBackSpec)

/-- ITS FALSE NEIGHBOUR: 'it returns false'. Refute it at one input. -/
def superBackWrong : ChangeSpec := { name := "superBack", fn := fun _ => fun
  | [d1, d2] => { results := [.lit (.bool false)], args := [d1, d2] }
  | _ => none }
def SuperBackWrongFalsely : Prop := superBackRow.holds Try.pinned (OpenSpec.ofChange superBackWrong)

/-- 'lienlaw05.SuperOne': WHATEVER THE INPUT: true; the input reads as it did. -/
def superOneSpec : ChangeSpec := { name := "superOne", fn := fun _ => fun
  | [d1, d2, d3, d4] => { results := [.lit (.bool true)], args := [d1, d2, d3, d4] }
  | _ => none }
def superOneRow : OpenClaim := { program := "ytbdomhookjmmgaa", sum := "ff6f4f50a88160bb3c24b774fef88adeae6b5ba9ac53e52713796d1f726b140a", func := "lien/lienlaw05.SuperOne", spec := "superOne", unfollowed := true, recurses := true, apart := false }
def SuperOneSaid : Prop := superOneRow.holds Try.pinned (OpenSpec.ofChange superOneSpec)

/-- ITS FALSE NEIGHBOUR: 'it returns false'. Refute it at one input. -/
def superOneWrong : ChangeSpec := { name := "superOne", fn := fun _ => fun
  | [d1, d2, d3, d4] => { results := [.lit (.bool false)], args := [d1, d2, d3, d4] }
  | _ => none }
def SuperOneWrongFalsely : Prop := superOneRow.holds Try.pinned (OpenSpec.ofChange superOneWrong)

/-- 'lienlaw05.SuperCopy': WHATEVER THE INPUT: true; the input reads as it did. -/
def superCopySpec : ChangeSpec := { name := "superCopy", fn := fun _ => fun
  | [d1, d2, d3, d4, d5] => { results := [.lit (.bool true)], args := [d1, d2, d3, d4, d5] }
  | _ => none }
def superCopyRow : OpenClaim := { program := "ytbdomhookjmmgaa", sum := "ff6f4f50a88160bb3c24b774fef88adeae6b5ba9ac53e52713796d1f726b140a", func := "lien/lienlaw05.SuperCopy", spec := "superCopy", unfollowed := true, recurses := true, apart := false }
def SuperCopySaid : Prop := superCopyRow.holds Try.pinned (OpenSpec.ofChange superCopySpec)

/-- ITS FALSE NEIGHBOUR: 'it returns false'. Refute it at one input. -/
def superCopyWrong : ChangeSpec := { name := "superCopy", fn := fun _ => fun
  | [d1, d2, d3, d4, d5] => { results := [.lit (.bool false)], args := [d1, d2, d3, d4, d5] }
  | _ => none }
def SuperCopyWrongFalsely : Prop := superCopyRow.holds Try.pinned (OpenSpec.ofChange superCopyWrong)

/-- 'lienlaw05.SuperNobody': WHATEVER THE INPUT: true; the input reads as it did. -/
def superNobodySpec : ChangeSpec := { name := "superNobody", fn := fun _ => fun
  | [d] => { results := [.lit (.bool true)], args := [d] }
  | _ => none }
def superNobodyRow : OpenClaim := { program := "ytbdomhookjmmgaa", sum := "ff6f4f50a88160bb3c24b774fef88adeae6b5ba9ac53e52713796d1f726b140a", func := "lien/lienlaw05.SuperNobody", spec := "superNobody", unfollowed := true, recurses := true, apart := false }
def SuperNobodySaid : Prop := superNobodyRow.holds Try.pinned (OpenSpec.ofChange superNobodySpec)

/-- ITS FALSE NEIGHBOUR: 'it returns false'. Refute it at one input. -/
def superNobodyWrong : ChangeSpec := { name := "superNobody", fn := fun _ => fun
  | [d] => { results := [.lit (.bool false)], args := [d] }
  | _ => none }
def SuperNobodyWrongFalsely : Prop := superNobodyRow.holds Try.pinned (OpenSpec.ofChange superNobodyWrong)

/- THE SECOND FORM. 'bulk': how many values and letters a reading holds, each counted each time it is reached (what is shared counts as often as it is met; a slice's spare places count too). A statement '..UptoSaid' is the law's where the arguments, and the package variables that the reading takes, are together of bulk at most 1048576: NARROWER than '..Said'. Prove '..Said' where nothing that the law and all that it calls make is longer than what came in: it says more and counts as full. Else prove '..UptoSaid'. A law counts once. -/
mutual
def uptoBulk {H : Type} : DataW H → Nat
  | .lit (.string bytes) => bytes.length + 1
  | .lit _ => 1
  | .nil => 1
  | .ptr d => uptoBulk d + 1
  | .slice elems spare => uptoBulkAll elems + uptoBulkAll spare + 1
  | .agg parts => uptoBulkAll parts + 1
  | .iface _ d => uptoBulk d + 1
  | .map entries => uptoBulkEntries entries + 1
  | .held _ => 1
def uptoBulkAll {H : Type} : List (DataW H) → Nat
  | [] => 0
  | d :: r => uptoBulk d + uptoBulkAll r
def uptoBulkEntries {H : Type} : List (Lit × DataW H) → Nat
  | [] => 0
  | x :: r => uptoBulkEntry x + uptoBulkEntries r
def uptoBulkEntry {H : Type} : Lit × DataW H → Nat
  | (.string bytes, d) => bytes.length + uptoBulk d + 1
  | (_, d) => uptoBulk d + 1
 end
def uptoSmall : (H : Type) → List (DataW H) → Bool := fun _ ds => decide (uptoBulkAll ds ≤ 1048576)
def OpenSpec.upto (s : _root_.Go.ChangeSpec) : _root_.Go.OpenSpec := { _root_.Go.OpenSpec.ofChange s with cond := some uptoSmall }

/-- 'lienlaw05.SuperForms', WHERE WHAT IT READS IS OF BULK AT MOST 1048576: true; the input reads as it did. -/
def superFormsUptoRow : OpenClaim := { program := "ytbdomhookjmmgaa", sum := "ff6f4f50a88160bb3c24b774fef88adeae6b5ba9ac53e52713796d1f726b140a", func := "lien/lienlaw05.SuperForms", spec := "superForms", unfollowed := true, recurses := true, apart := false, narrowed := true }
def SuperFormsUptoSaid : Prop := superFormsUptoRow.holds Try.pinned (OpenSpec.upto superFormsSpec)

/-- 'lienlaw05.SuperReads', WHERE WHAT IT READS IS OF BULK AT MOST 1048576: true; the input reads as it did. -/
def superReadsUptoRow : OpenClaim := { program := "ytbdomhookjmmgaa", sum := "ff6f4f50a88160bb3c24b774fef88adeae6b5ba9ac53e52713796d1f726b140a", func := "lien/lienlaw05.SuperReads", spec := "superReads", unfollowed := true, recurses := true, apart := false, narrowed := true }
def SuperReadsUptoSaid : Prop := superReadsUptoRow.holds Try.pinned (OpenSpec.upto superReadsSpec)

/-- 'lienlaw05.SuperRuns', WHERE WHAT IT READS IS OF BULK AT MOST 1048576: true; the input reads as it did. -/
def superRunsUptoRow : OpenClaim := { program := "ytbdomhookjmmgaa", sum := "ff6f4f50a88160bb3c24b774fef88adeae6b5ba9ac53e52713796d1f726b140a", func := "lien/lienlaw05.SuperRuns", spec := "superRuns", unfollowed := true, recurses := true, apart := false, narrowed := true }
def SuperRunsUptoSaid : Prop := superRunsUptoRow.holds Try.pinned (OpenSpec.upto superRunsSpec)

/-- 'lienlaw05.SuperBack', WHERE WHAT IT READS IS OF BULK AT MOST 1048576: true; the input reads as it did. -/
def superBackUptoRow : OpenClaim := { program := "ytbdomhookjmmgaa", sum := "ff6f4f50a88160bb3c24b774fef88adeae6b5ba9ac53e52713796d1f726b140a", func := "lien/lienlaw05.SuperBack", spec := "superBack", unfollowed := true, recurses := true, apart := false, narrowed := true }
def SuperBackUptoSaid : Prop := superBackUptoRow.holds Try.pinned (OpenSpec.upto superBackSpec)

/-- 'lienlaw05.SuperOne', WHERE WHAT IT READS IS OF BULK AT MOST 1048576: true; the input reads as it did. -/
def superOneUptoRow : OpenClaim := { program := "ytbdomhookjmmgaa", sum := "ff6f4f50a88160bb3c24b774fef88adeae6b5ba9ac53e52713796d1f726b140a", func := "lien/lienlaw05.SuperOne", spec := "superOne", unfollowed := true, recurses := true, apart := false, narrowed := true }
def SuperOneUptoSaid : Prop := superOneUptoRow.holds Try.pinned (OpenSpec.upto superOneSpec)

/-- 'lienlaw05.SuperCopy', WHERE WHAT IT READS IS OF BULK AT MOST 1048576: true; the input reads as it did. -/
def superCopyUptoRow : OpenClaim := { program := "ytbdomhookjmmgaa", sum := "ff6f4f50a88160bb3c24b774fef88adeae6b5ba9ac53e52713796d1f726b140a", func := "lien/lienlaw05.SuperCopy", spec := "superCopy", unfollowed := true, recurses := true, apart := false, narrowed := true }
def SuperCopyUptoSaid : Prop := superCopyUptoRow.holds Try.pinned (OpenSpec.upto superCopySpec)

/-- 'lienlaw05.SuperNobody', WHERE WHAT IT READS IS OF BULK AT MOST 1048576: true; the input reads as it did. -/
def superNobodyUptoRow : OpenClaim := { program := "ytbdomhookjmmgaa", sum := "ff6f4f50a88160bb3c24b774fef88adeae6b5ba9ac53e52713796d1f726b140a", func := "lien/lienlaw05.SuperNobody", spec := "superNobody", unfollowed := true, recurses := true, apart := false, narrowed := true }
def SuperNobodyUptoSaid : Prop := superNobodyUptoRow.holds Try.pinned (OpenSpec.upto superNobodySpec)

end Rows
end Go.Proofs.Ytbdomhookjmmgaa
