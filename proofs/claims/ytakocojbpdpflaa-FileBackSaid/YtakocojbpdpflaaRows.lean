/-
  No cell of these rows narrows 'for every input' (looked for: loops, veiled, ifaces, maps, wideKeys, modest, calm, conditions, laid).
  DERIVED. THE GIVEN ROWS OF THIS SEAT. 6 by the template 'for every input the law returns true; each argument reads behind the call as it read before'; 0 by the template 'total and deterministic' (their statements: YtakocojbpdpflaaTotals.lean).
  GIVEN WITH THE SEED: the statements are not yours to turn. If you find one false, say at which input.
  Laid BY PROGRAM, IN A SANDBOX (cutbox-rows.mjs): the forced cells as the released guide's own fill.sh prints them over the translation fabfe0b967eac241… (all of the seat's roots in one cut). By AI agents, Wed Nov 11 2026. No macro, syntax, notation, axiom, sorry.
-/
import Derived.Test.YtakocojbpdpflaaChecked
import GoSem.Claim
import GoSem.ClaimJoined
import GoSem.ClaimMapViews
import Derived.JoinedTies
import Derived.KernelRfl
namespace Go.Proofs.Ytakocojbpdpflaa
/- THE CELL 'sum', in the pinned program and in every row, IS THE sha256 OF THE DUMP (.gsa) THAT YtakocojbpdpflaaProg.lean LOADS. Nothing in Lean hashes anything: it is a label: what it is worth is what the hold of that sum in a sandbox is worth. -/
noncomputable def Try.pinned : Pinned := { name := "ytakocojbpdpflaa", sum := "fabfe0b967eac241c400dae984a91a0d7fb650fb94d6fdfcbd56e9289d0a8009", checked := Try.checked }
namespace Rows
def none {H : Type} : Left H := { results := [], args := [] }

/-- 'lienlaw07.FileForms': WHATEVER THE INPUT: true; the input reads as it did. -/
def fileFormsSpec : ChangeSpec := { name := "fileForms", fn := fun _ => fun
  | [d1, d2, d3] => { results := [.lit (.bool true)], args := [d1, d2, d3] }
  | _ => none }
def fileFormsRow : OpenClaim := { program := "ytakocojbpdpflaa", sum := "fabfe0b967eac241c400dae984a91a0d7fb650fb94d6fdfcbd56e9289d0a8009", func := "lien/lienlaw07.FileForms", spec := "fileForms", unfollowed := true, recurses := true, apart := false }
def FileFormsSaid : Prop := fileFormsRow.holds Try.pinned (OpenSpec.ofChange fileFormsSpec)

/-- ITS FALSE NEIGHBOUR: 'it returns false'. Refute it at one input. -/
def fileFormsWrong : ChangeSpec := { name := "fileForms", fn := fun _ => fun
  | [d1, d2, d3] => { results := [.lit (.bool false)], args := [d1, d2, d3] }
  | _ => none }
def FileFormsWrongFalsely : Prop := fileFormsRow.holds Try.pinned (OpenSpec.ofChange fileFormsWrong)

/-- 'lienlaw07.FileBack': WHATEVER THE INPUT: true; the input reads as it did. -/
def fileBackSpec : ChangeSpec := { name := "fileBack", fn := fun _ => fun
  | [d1, d2] => { results := [.lit (.bool true)], args := [d1, d2] }
  | _ => none }
def fileBackRow : OpenClaim := { program := "ytakocojbpdpflaa", sum := "fabfe0b967eac241c400dae984a91a0d7fb650fb94d6fdfcbd56e9289d0a8009", func := "lien/lienlaw07.FileBack", spec := "fileBack", unfollowed := true, recurses := true, apart := false }
def FileBackSaid : Prop := fileBackRow.holds Try.pinned (OpenSpec.ofChange fileBackSpec)

/-- ITS FALSE NEIGHBOUR: 'it returns false'. Refute it at one input. -/
def fileBackWrong : ChangeSpec := { name := "fileBack", fn := fun _ => fun
  | [d1, d2] => { results := [.lit (.bool false)], args := [d1, d2] }
  | _ => none }
def FileBackWrongFalsely : Prop := fileBackRow.holds Try.pinned (OpenSpec.ofChange fileBackWrong)

/-- 'lienlaw07.FileCopy': WHATEVER THE INPUT: true; the input reads as it did. -/
def fileCopySpec : ChangeSpec := { name := "fileCopy", fn := fun _ => fun
  | [d1, d2, d3, d4, d5] => { results := [.lit (.bool true)], args := [d1, d2, d3, d4, d5] }
  | _ => none }
def fileCopyRow : OpenClaim := { program := "ytakocojbpdpflaa", sum := "fabfe0b967eac241c400dae984a91a0d7fb650fb94d6fdfcbd56e9289d0a8009", func := "lien/lienlaw07.FileCopy", spec := "fileCopy", unfollowed := true, recurses := true, apart := false }
def FileCopySaid : Prop := fileCopyRow.holds Try.pinned (OpenSpec.ofChange fileCopySpec)

/-- ITS FALSE NEIGHBOUR: 'it returns false'. Refute it at one input. -/
def fileCopyWrong : ChangeSpec := { name := "fileCopy", fn := fun _ => fun
  | [d1, d2, d3, d4, d5] => { results := [.lit (.bool false)], args := [d1, d2, d3, d4, d5] }
  | _ => none }
def FileCopyWrongFalsely : Prop := fileCopyRow.holds Try.pinned (OpenSpec.ofChange fileCopyWrong)

/-- 'lienlaw07.FileLater': WHATEVER THE INPUT: true; the input reads as it did. -/
def fileLaterSpec : ChangeSpec := { name := "fileLater", fn := fun _ => fun
  | [d1, d2, d3, d4] => { results := [.lit (.bool true)], args := [d1, d2, d3, d4] }
  | _ => none }
def fileLaterRow : OpenClaim := { program := "ytakocojbpdpflaa", sum := "fabfe0b967eac241c400dae984a91a0d7fb650fb94d6fdfcbd56e9289d0a8009", func := "lien/lienlaw07.FileLater", spec := "fileLater", unfollowed := true, recurses := true, apart := false }
def FileLaterSaid : Prop := fileLaterRow.holds Try.pinned (OpenSpec.ofChange fileLaterSpec)

/-- ITS FALSE NEIGHBOUR: 'it returns false'. Refute it at one input. -/
def fileLaterWrong : ChangeSpec := { name := "fileLater", fn := fun _ => fun
  | [d1, d2, d3, d4] => { results := [.lit (.bool false)], args := [d1, d2, d3, d4] }
  | _ => none }
def FileLaterWrongFalsely : Prop := fileLaterRow.holds Try.pinned (OpenSpec.ofChange fileLaterWrong)

/-- 'lienlaw07.FileApart': WHATEVER THE INPUT: true; the input reads as it did. -/
def fileApartSpec : ChangeSpec := { name := "fileApart", fn := fun _ => fun
  | [d1, d2, d3, d4] => { results := [.lit (.bool true)], args := [d1, d2, d3, d4] }
  | _ => none }
def fileApartRow : OpenClaim := { program := "ytakocojbpdpflaa", sum := "fabfe0b967eac241c400dae984a91a0d7fb650fb94d6fdfcbd56e9289d0a8009", func := "lien/lienlaw07.FileApart", spec := "fileApart", unfollowed := true, recurses := true, apart := false }
def FileApartSaid : Prop := fileApartRow.holds Try.pinned (OpenSpec.ofChange fileApartSpec)

/-- ITS FALSE NEIGHBOUR: 'it returns false'. Refute it at one input. -/
def fileApartWrong : ChangeSpec := { name := "fileApart", fn := fun _ => fun
  | [d1, d2, d3, d4] => { results := [.lit (.bool false)], args := [d1, d2, d3, d4] }
  | _ => none }
def FileApartWrongFalsely : Prop := fileApartRow.holds Try.pinned (OpenSpec.ofChange fileApartWrong)

/-- 'lienlaw07.FileNobody': WHATEVER THE INPUT: true; the input reads as it did. -/
def fileNobodySpec : ChangeSpec := { name := "fileNobody", fn := fun _ => fun
  | [d1, d2, d3] => { results := [.lit (.bool true)], args := [d1, d2, d3] }
  | _ => none }
def fileNobodyRow : OpenClaim := { program := "ytakocojbpdpflaa", sum := "fabfe0b967eac241c400dae984a91a0d7fb650fb94d6fdfcbd56e9289d0a8009", func := "lien/lienlaw07.FileNobody", spec := "fileNobody", unfollowed := true, recurses := true, apart := false }
def FileNobodySaid : Prop := fileNobodyRow.holds Try.pinned (OpenSpec.ofChange fileNobodySpec)

/-- ITS FALSE NEIGHBOUR: 'it returns false'. Refute it at one input. -/
def fileNobodyWrong : ChangeSpec := { name := "fileNobody", fn := fun _ => fun
  | [d1, d2, d3] => { results := [.lit (.bool false)], args := [d1, d2, d3] }
  | _ => none }
def FileNobodyWrongFalsely : Prop := fileNobodyRow.holds Try.pinned (OpenSpec.ofChange fileNobodyWrong)

/- THE SECOND FORM. 'bulk': how many values and letters a reading holds, each counted each time it is reached (what is shared counts as often as it is met; a slice's spare places count too). A statement '..UptoSaid' is the law's where the arguments, and the package variables that the reading takes, are together of bulk at most 1048576: NARROWER than '..Said'. Prove '..Said' where nothing that the law and all that it calls make is longer than what came in: it says more and counts as full. Else prove '..UptoSaid'. A law counts once. -/
mutual
def uptoBulk {H : Type} : DataW H → Nat
  | .lit (.string bytes) => bytes.length + 1
  | .lit _ => 1
  | .nil => 1
  | .ptr d => uptoBulk d + 1
  | .slice elems spare => uptoBulkAll elems + uptoBulkAll spare + 1
  | .agg parts => uptoBulkAll parts + 1
  | .iface _ d => uptoBulk d + 1
  | .map entries => uptoBulkEntries entries + 1
  | .held _ => 1
def uptoBulkAll {H : Type} : List (DataW H) → Nat
  | [] => 0
  | d :: r => uptoBulk d + uptoBulkAll r
def uptoBulkEntries {H : Type} : List (Lit × DataW H) → Nat
  | [] => 0
  | x :: r => uptoBulkEntry x + uptoBulkEntries r
def uptoBulkEntry {H : Type} : Lit × DataW H → Nat
  | (.string bytes, d) => bytes.length + uptoBulk d + 1
  | (_, d) => uptoBulk d + 1
 end
def uptoSmall : (H : Type) → List (DataW H) → Bool := fun _ ds => decide (uptoBulkAll ds ≤ 1048576)
def OpenSpec.upto (s : _root_.Go.ChangeSpec) : _root_.Go.OpenSpec := { _root_.Go.OpenSpec.ofChange s with cond := some uptoSmall }

/-- 'lienlaw07.FileForms', WHERE WHAT IT READS IS OF BULK AT MOST 1048576: true; the input reads as it did. -/
def fileFormsUptoRow : OpenClaim := { program := "ytakocojbpdpflaa", sum := "fabfe0b967eac241c400dae984a91a0d7fb650fb94d6fdfcbd56e9289d0a8009", func := "lien/lienlaw07.FileForms", spec := "fileForms", unfollowed := true, recurses := true, apart := false, narrowed := true }
def FileFormsUptoSaid : Prop := fileFormsUptoRow.holds Try.pinned (OpenSpec.upto fileFormsSpec)

/-- 'lienlaw07.FileBack', WHERE WHAT IT READS IS OF BULK AT MOST 1048576: true; the input reads as it did. -/
def fileBackUptoRow : OpenClaim := { program := "ytakocojbpdpflaa", sum := "fabfe0b967eac241c400dae984a91a0d7fb650fb94d6fdfcbd56e9289d0a8009", func := "lien/lienlaw07.FileBack", spec := "fileBack", unfollowed := true, recurses := true, apart := false, narrowed := true }
def FileBackUptoSaid : Prop := fileBackUptoRow.holds Try.pinned (OpenSpec.upto fileBackSpec)

/-- 'lienlaw07.FileCopy', WHERE WHAT IT READS IS OF BULK AT MOST 1048576: true; the input reads as it did. -/
def fileCopyUptoRow : OpenClaim := { program := "ytakocojbpdpflaa", sum := "fabfe0b967eac241c400dae984a91a0d7fb650fb94d6fdfcbd56e9289d0a8009", func := "lien/lienlaw07.FileCopy", spec := "fileCopy", unfollowed := true, recurses := true, apart := false, narrowed := true }
def FileCopyUptoSaid : Prop := fileCopyUptoRow.holds Try.pinned (OpenSpec.upto fileCopySpec)

/-- 'lienlaw07.FileLater', WHERE WHAT IT READS IS OF BULK AT MOST 1048576: true; the input reads as it did. -/
def fileLaterUptoRow : OpenClaim := { program := "ytakocojbpdpflaa", sum := "fabfe0b967eac241c400dae984a91a0d7fb650fb94d6fdfcbd56e9289d0a8009", func := "lien/lienlaw07.FileLater", spec := "fileLater", unfollowed := true, recurses := true, apart := false, narrowed := true }
def FileLaterUptoSaid : Prop := fileLaterUptoRow.holds Try.pinned (OpenSpec.upto fileLaterSpec)

/-- 'lienlaw07.FileApart', WHERE WHAT IT READS IS OF BULK AT MOST 1048576: true; the input reads as it did. -/
def fileApartUptoRow : OpenClaim := { program := "ytakocojbpdpflaa", sum := "fabfe0b967eac241c400dae984a91a0d7fb650fb94d6fdfcbd56e9289d0a8009", func := "lien/lienlaw07.FileApart", spec := "fileApart", unfollowed := true, recurses := true, apart := false, narrowed := true }
def FileApartUptoSaid : Prop := fileApartUptoRow.holds Try.pinned (OpenSpec.upto fileApartSpec)

/-- 'lienlaw07.FileNobody', WHERE WHAT IT READS IS OF BULK AT MOST 1048576: true; the input reads as it did. -/
def fileNobodyUptoRow : OpenClaim := { program := "ytakocojbpdpflaa", sum := "fabfe0b967eac241c400dae984a91a0d7fb650fb94d6fdfcbd56e9289d0a8009", func := "lien/lienlaw07.FileNobody", spec := "fileNobody", unfollowed := true, recurses := true, apart := false, narrowed := true }
def FileNobodyUptoSaid : Prop := fileNobodyUptoRow.holds Try.pinned (OpenSpec.upto fileNobodySpec)

end Rows
end Go.Proofs.Ytakocojbpdpflaa
