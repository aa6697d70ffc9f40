/-
  No cell of these rows narrows 'for every input' (looked for: loops, veiled, ifaces, maps, wideKeys, modest, calm, conditions, laid).
  DERIVED. THE GIVEN ROWS OF THIS SEAT. 4 by the template 'for every input the law returns true; each argument reads behind the call as it read before'; 0 by the template 'total and deterministic' (their statements: YtcoekdfmfjglpaaTotals.lean).
  GIVEN WITH THE SEED: the statements are not yours to turn. If you find one false, say at which input.
  Laid BY PROGRAM, IN A SANDBOX (cutbox-rows.mjs): the forced cells as the released guide's own fill.sh prints them over the translation 751538c90c438b39… (all of the seat's roots in one cut). By AI agents, Wed Nov 11 2026. No macro, syntax, notation, axiom, sorry.
-/
import Derived.Test.YtcoekdfmfjglpaaChecked
import GoSem.Claim
import GoSem.ClaimJoined
import GoSem.ClaimMapViews
import Derived.JoinedTies
import Derived.KernelRfl
namespace Go.Proofs.Ytcoekdfmfjglpaa
/- THE CELL 'sum', in the pinned program and in every row, IS THE sha256 OF THE DUMP (.gsa) THAT YtcoekdfmfjglpaaProg.lean LOADS. Nothing in Lean hashes anything: it is a label: what it is worth is what the hold of that sum in a sandbox is worth. -/
noncomputable def Try.pinned : Pinned := { name := "ytcoekdfmfjglpaa", sum := "751538c90c438b39ecf392aef19c1c4d4a7fc6173e91598cc9bbe395bc805fb4", checked := Try.checked }
namespace Rows
def none {H : Type} : Left H := { results := [], args := [] }

/-- 'lienlaw23.BooksAdds': WHATEVER THE INPUT: true; the input reads as it did. -/
def booksAddsSpec : ChangeSpec := { name := "booksAdds", fn := fun _ => fun
  | [d1, d2] => { results := [.lit (.bool true)], args := [d1, d2] }
  | _ => none }
def booksAddsRow : OpenClaim := { program := "ytcoekdfmfjglpaa", sum := "751538c90c438b39ecf392aef19c1c4d4a7fc6173e91598cc9bbe395bc805fb4", func := "lien/lienlaw23.BooksAdds", spec := "booksAdds", unfollowed := true, recurses := true, apart := false }
def BooksAddsSaid : Prop := booksAddsRow.holds Try.pinned (OpenSpec.ofChange booksAddsSpec)

/-- ITS FALSE NEIGHBOUR: 'it returns false'. Refute it at one input. -/
def booksAddsWrong : ChangeSpec := { name := "booksAdds", fn := fun _ => fun
  | [d1, d2] => { results := [.lit (.bool false)], args := [d1, d2] }
  | _ => none }
def BooksAddsWrongFalsely : Prop := booksAddsRow.holds Try.pinned (OpenSpec.ofChange booksAddsWrong)

/-- 'lienlaw23.BooksKept': WHATEVER THE INPUT: true; the input reads as it did. -/
def booksKeptSpec : ChangeSpec := { name := "booksKept", fn := fun _ => fun
  | [d] => { results := [.lit (.bool true)], args := [d] }
  | _ => none }
def booksKeptRow : OpenClaim := { program := "ytcoekdfmfjglpaa", sum := "751538c90c438b39ecf392aef19c1c4d4a7fc6173e91598cc9bbe395bc805fb4", func := "lien/lienlaw23.BooksKept", spec := "booksKept", unfollowed := true, recurses := true, apart := false }
def BooksKeptSaid : Prop := booksKeptRow.holds Try.pinned (OpenSpec.ofChange booksKeptSpec)

/-- ITS FALSE NEIGHBOUR: 'it returns false'. Refute it at one input. -/
def booksKeptWrong : ChangeSpec := { name := "booksKept", fn := fun _ => fun
  | [d] => { results := [.lit (.bool false)], args := [d] }
  | _ => none }
def BooksKeptWrongFalsely : Prop := booksKeptRow.holds Try.pinned (OpenSpec.ofChange booksKeptWrong)

/-- 'lienlaw23.BooksOrder': WHATEVER THE INPUT: true; the input reads as it did. -/
def booksOrderSpec : ChangeSpec := { name := "booksOrder", fn := fun _ => fun
  | [d1, d2, d3] => { results := [.lit (.bool true)], args := [d1, d2, d3] }
  | _ => none }
def booksOrderRow : OpenClaim := { program := "ytcoekdfmfjglpaa", sum := "751538c90c438b39ecf392aef19c1c4d4a7fc6173e91598cc9bbe395bc805fb4", func := "lien/lienlaw23.BooksOrder", spec := "booksOrder", unfollowed := true, recurses := true, apart := false }
def BooksOrderSaid : Prop := booksOrderRow.holds Try.pinned (OpenSpec.ofChange booksOrderSpec)

/-- ITS FALSE NEIGHBOUR: 'it returns false'. Refute it at one input. -/
def booksOrderWrong : ChangeSpec := { name := "booksOrder", fn := fun _ => fun
  | [d1, d2, d3] => { results := [.lit (.bool false)], args := [d1, d2, d3] }
  | _ => none }
def BooksOrderWrongFalsely : Prop := booksOrderRow.holds Try.pinned (OpenSpec.ofChange booksOrderWrong)

/-- 'lienlaw23.BooksBack': WHATEVER THE INPUT: true; the input reads as it did. -/
def booksBackSpec : ChangeSpec := { name := "booksBack", fn := fun _ => fun
  | [d1, d2, d3] => { results := [.lit (.bool true)], args := [d1, d2, d3] }
  | _ => none }
def booksBackRow : OpenClaim := { program := "ytcoekdfmfjglpaa", sum := "751538c90c438b39ecf392aef19c1c4d4a7fc6173e91598cc9bbe395bc805fb4", func := "lien/lienlaw23.BooksBack", spec := "booksBack", unfollowed := true, recurses := true, apart := false }
def BooksBackSaid : Prop := booksBackRow.holds Try.pinned (OpenSpec.ofChange booksBackSpec)

/-- ITS FALSE NEIGHBOUR: 'it returns false'. Refute it at one input. -/
def booksBackWrong : ChangeSpec := { name := "booksBack", fn := fun _ => fun
  | [d1, d2, d3] => { results := [.lit (.bool false)], args := [d1, d2, d3] }
  | _ => none }
def BooksBackWrongFalsely : Prop := booksBackRow.holds Try.pinned (OpenSpec.ofChange booksBackWrong)

/- THE SECOND FORM. 'bulk': how many values and letters a reading holds, each counted each time it is reached (what is shared counts as often as it is met; a slice's spare places count too). A statement '..UptoSaid' is the law's where the arguments, and the package variables that the reading takes, are together of bulk at most 1048576: NARROWER than '..Said'. Prove '..Said' where nothing that the law and all that it calls make is longer than what came in: it says more and counts as full. Else prove '..UptoSaid'. A law counts once. -/
mutual
def uptoBulk {H : Type} : DataW H → Nat
  | .lit (.string bytes) => bytes.length + 1
  | .lit _ => 1
  | .nil => 1
  | .ptr d => uptoBulk d + 1
  | .slice elems spare => uptoBulkAll elems + uptoBulkAll spare + 1
  | .agg parts => uptoBulkAll parts + 1
  | .iface _ d => uptoBulk d + 1
  | .map entries => uptoBulkEntries entries + 1
  | .held _ => 1
def uptoBulkAll {H : Type} : List (DataW H) → Nat
  | [] => 0
  | d :: r => uptoBulk d + uptoBulkAll r
def uptoBulkEntries {H : Type} : List (Lit × DataW H) → Nat
  | [] => 0
  | x :: r => uptoBulkEntry x + uptoBulkEntries r
def uptoBulkEntry {H : Type} : Lit × DataW H → Nat
  | (.string bytes, d) => bytes.length + uptoBulk d + 1
  | (_, d) => uptoBulk d + 1
 end
def uptoSmall : (H : Type) → List (DataW H) → Bool := fun _ ds => decide (uptoBulkAll ds ≤ 1048576)
def OpenSpec.upto (s : _root_.Go.ChangeSpec) : _root_.Go.OpenSpec := { _root_.Go.OpenSpec.ofChange s with cond := some uptoSmall }

/-- 'lienlaw23.BooksAdds', WHERE WHAT IT READS IS OF BULK AT MOST 1048576: true; the input reads as it did. -/
def booksAddsUptoRow : OpenClaim := { program := "ytcoekdfmfjglpaa", sum := "751538c90c438b39ecf392aef19c1c4d4a7fc6173e91598cc9bbe395bc805fb4", func := "lien/lienlaw23.BooksAdds", spec := "booksAdds", unfollowed := true, recurses := true, apart := false, narrowed := true }
def BooksAddsUptoSaid : Prop := booksAddsUptoRow.holds Try.pinned (OpenSpec.upto booksAddsSpec)

/-- 'lienlaw23.BooksKept', WHERE WHAT IT READS IS OF BULK AT MOST 1048576: true; the input reads as it did. -/
def booksKeptUptoRow : OpenClaim := { program := "ytcoekdfmfjglpaa", sum := "751538c90c438b39ecf392aef19c1c4d4a7fc6173e91598cc9bbe395bc805fb4", func := "lien/lienlaw23.BooksKept", spec := "booksKept", unfollowed := true, recurses := true, apart := false, narrowed := true }
def BooksKeptUptoSaid : Prop := booksKeptUptoRow.holds Try.pinned (OpenSpec.upto booksKeptSpec)

/-- 'lienlaw23.BooksOrder', WHERE WHAT IT READS IS OF BULK AT MOST 1048576: true; the input reads as it did. -/
def booksOrderUptoRow : OpenClaim := { program := "ytcoekdfmfjglpaa", sum := "751538c90c438b39ecf392aef19c1c4d4a7fc6173e91598cc9bbe395bc805fb4", func := "lien/lienlaw23.BooksOrder", spec := "booksOrder", unfollowed := true, recurses := true, apart := false, narrowed := true }
def BooksOrderUptoSaid : Prop := booksOrderUptoRow.holds Try.pinned (OpenSpec.upto booksOrderSpec)

/-- 'lienlaw23.BooksBack', WHERE WHAT IT READS IS OF BULK AT MOST 1048576: true; the input reads as it did. -/
def booksBackUptoRow : OpenClaim := { program := "ytcoekdfmfjglpaa", sum := "751538c90c438b39ecf392aef19c1c4d4a7fc6173e91598cc9bbe395bc805fb4", func := "lien/lienlaw23.BooksBack", spec := "booksBack", unfollowed := true, recurses := true, apart := false, narrowed := true }
def BooksBackUptoSaid : Prop := booksBackUptoRow.holds Try.pinned (OpenSpec.upto booksBackSpec)

end Rows
end Go.Proofs.Ytcoekdfmfjglpaa
